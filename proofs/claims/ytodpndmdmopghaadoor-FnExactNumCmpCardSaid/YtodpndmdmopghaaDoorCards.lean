/-
  DERIVED. GIVEN WITH THE SEED: THE CARDS: each row of YtodpndmdmopghaaDoorRows.lean that lists a variable, with what it lists TIED to the program's text (the seventh form; the later family's looks); each row that meets fmt, with fmt's text TOLD by the authors' own Lean function (tested against real Go, not proved from fmt's source: count such statements apart). THE CARD IS WHAT COUNTS. Prove the row's statement (the work); the ties are given (YtodpndmdmopghaaDoorTie.lean); close each card by the builder's one call (the guide's Derived/Test/ToyasCard.lean, 'card_holds'). Laid BY PROGRAM, IN A SANDBOX (cutbox-door.mjs). By AI agents, Wed Nov 11 2026. No macro, syntax, notation, axiom, sorry.
-/
import Derived.Test.YtodpndmdmopghaaDoorRows
import GoSem.ClaimSeven
namespace Go.Proofs.YtodpndmdmopghaaDoor
namespace Rows

/-- THE TIED CARD OF 'laws.FnExactNumOk'. -/
def fnExactNumOkCard : Claim7 := { stood := { row := fnExactNumOkRow, standIns := [], harness := (true, "3da0a6c28f8c19f49cd7f4575f42c1b004075c54f4cd12de376d1a9c3eedc15d"), looks := false }, kinds := [], alts := [], laidByText := true, laidKinds := [.data], laidTests := true, laidLooks := .later }
def FnExactNumOkCardSaid : Prop := Claim7.holds Tryd.pinned (.plain (OpenSpec.ofChange fnExactNumOkSpec)) fnExactNumOkCard

/-- THE TIED CARD OF 'laws.FnExactNumInt'. -/
def fnExactNumIntCard : Claim7 := { stood := { row := fnExactNumIntRow, standIns := [], harness := (true, "3da0a6c28f8c19f49cd7f4575f42c1b004075c54f4cd12de376d1a9c3eedc15d"), looks := false }, kinds := [], alts := [], laidByText := true, laidKinds := [.data], laidTests := true, laidLooks := .later }
def FnExactNumIntCardSaid : Prop := Claim7.holds Tryd.pinned (.plain (OpenSpec.ofChange fnExactNumIntSpec)) fnExactNumIntCard

/-- THE TIED CARD OF 'laws.FnExactNumParse'. -/
def fnExactNumParseCard : Claim7 := { stood := { row := fnExactNumParseRow, standIns := [], harness := (true, "3da0a6c28f8c19f49cd7f4575f42c1b004075c54f4cd12de376d1a9c3eedc15d"), looks := false }, kinds := [], alts := [], laidByText := true, laidKinds := [.data], laidTests := true, laidLooks := .later }
def FnExactNumParseCardSaid : Prop := Claim7.holds Tryd.pinned (.plain (OpenSpec.ofChange fnExactNumParseSpec)) fnExactNumParseCard

/-- THE TIED CARD OF 'laws.FnExactNumPrint'. -/
def fnExactNumPrintCard : Claim7 := { stood := { row := fnExactNumPrintRow, standIns := [], harness := (true, "3da0a6c28f8c19f49cd7f4575f42c1b004075c54f4cd12de376d1a9c3eedc15d"), looks := false }, kinds := [], alts := [], laidByText := true, laidKinds := [.data], laidTests := true, laidLooks := .later }
def FnExactNumPrintCardSaid : Prop := Claim7.holds Tryd.pinned (.plain (OpenSpec.ofChange fnExactNumPrintSpec)) fnExactNumPrintCard

/-- THE TIED CARD OF 'laws.FnExactNumCmp'. -/
def fnExactNumCmpCard : Claim7 := { stood := { row := fnExactNumCmpRow, standIns := [], harness := (true, "3da0a6c28f8c19f49cd7f4575f42c1b004075c54f4cd12de376d1a9c3eedc15d"), looks := false }, kinds := [], alts := [], laidByText := true, laidKinds := [.data], laidTests := true, laidLooks := .later }
def FnExactNumCmpCardSaid : Prop := Claim7.holds Tryd.pinned (.plain (OpenSpec.ofChange fnExactNumCmpSpec)) fnExactNumCmpCard

/-- THE TIED CARD OF 'laws.FnExactNumAdd'. -/
def fnExactNumAddCard : Claim7 := { stood := { row := fnExactNumAddRow, standIns := [], harness := (true, "3da0a6c28f8c19f49cd7f4575f42c1b004075c54f4cd12de376d1a9c3eedc15d"), looks := false }, kinds := [], alts := [], laidByText := true, laidKinds := [.data], laidTests := true, laidLooks := .later }
def FnExactNumAddCardSaid : Prop := Claim7.holds Tryd.pinned (.plain (OpenSpec.ofChange fnExactNumAddSpec)) fnExactNumAddCard

/-- THE SECOND FORM's CARD OF 'laws.FnExactNumOk'. -/
def fnExactNumOkUptoCard : Claim7 := { stood := { row := fnExactNumOkUptoRow, standIns := [], harness := (true, "3da0a6c28f8c19f49cd7f4575f42c1b004075c54f4cd12de376d1a9c3eedc15d"), looks := false }, kinds := [], alts := [], laidByText := true, laidKinds := [.data], laidTests := true, laidLooks := .later }
def FnExactNumOkUptoCardSaid : Prop := Claim7.holds Tryd.pinned (.plain (OpenSpec.upto fnExactNumOkSpec)) fnExactNumOkUptoCard

/-- THE SECOND FORM's CARD OF 'laws.FnExactNumInt'. -/
def fnExactNumIntUptoCard : Claim7 := { stood := { row := fnExactNumIntUptoRow, standIns := [], harness := (true, "3da0a6c28f8c19f49cd7f4575f42c1b004075c54f4cd12de376d1a9c3eedc15d"), looks := false }, kinds := [], alts := [], laidByText := true, laidKinds := [.data], laidTests := true, laidLooks := .later }
def FnExactNumIntUptoCardSaid : Prop := Claim7.holds Tryd.pinned (.plain (OpenSpec.upto fnExactNumIntSpec)) fnExactNumIntUptoCard

/-- THE SECOND FORM's CARD OF 'laws.FnExactNumParse'. -/
def fnExactNumParseUptoCard : Claim7 := { stood := { row := fnExactNumParseUptoRow, standIns := [], harness := (true, "3da0a6c28f8c19f49cd7f4575f42c1b004075c54f4cd12de376d1a9c3eedc15d"), looks := false }, kinds := [], alts := [], laidByText := true, laidKinds := [.data], laidTests := true, laidLooks := .later }
def FnExactNumParseUptoCardSaid : Prop := Claim7.holds Tryd.pinned (.plain (OpenSpec.upto fnExactNumParseSpec)) fnExactNumParseUptoCard

/-- THE SECOND FORM's CARD OF 'laws.FnExactNumPrint'. -/
def fnExactNumPrintUptoCard : Claim7 := { stood := { row := fnExactNumPrintUptoRow, standIns := [], harness := (true, "3da0a6c28f8c19f49cd7f4575f42c1b004075c54f4cd12de376d1a9c3eedc15d"), looks := false }, kinds := [], alts := [], laidByText := true, laidKinds := [.data], laidTests := true, laidLooks := .later }
def FnExactNumPrintUptoCardSaid : Prop := Claim7.holds Tryd.pinned (.plain (OpenSpec.upto fnExactNumPrintSpec)) fnExactNumPrintUptoCard

/-- THE SECOND FORM's CARD OF 'laws.FnExactNumCmp'. -/
def fnExactNumCmpUptoCard : Claim7 := { stood := { row := fnExactNumCmpUptoRow, standIns := [], harness := (true, "3da0a6c28f8c19f49cd7f4575f42c1b004075c54f4cd12de376d1a9c3eedc15d"), looks := false }, kinds := [], alts := [], laidByText := true, laidKinds := [.data], laidTests := true, laidLooks := .later }
def FnExactNumCmpUptoCardSaid : Prop := Claim7.holds Tryd.pinned (.plain (OpenSpec.upto fnExactNumCmpSpec)) fnExactNumCmpUptoCard

/-- THE SECOND FORM's CARD OF 'laws.FnExactNumAdd'. -/
def fnExactNumAddUptoCard : Claim7 := { stood := { row := fnExactNumAddUptoRow, standIns := [], harness := (true, "3da0a6c28f8c19f49cd7f4575f42c1b004075c54f4cd12de376d1a9c3eedc15d"), looks := false }, kinds := [], alts := [], laidByText := true, laidKinds := [.data], laidTests := true, laidLooks := .later }
def FnExactNumAddUptoCardSaid : Prop := Claim7.holds Tryd.pinned (.plain (OpenSpec.upto fnExactNumAddSpec)) fnExactNumAddUptoCard
end Rows
end Go.Proofs.YtodpndmdmopghaaDoor
