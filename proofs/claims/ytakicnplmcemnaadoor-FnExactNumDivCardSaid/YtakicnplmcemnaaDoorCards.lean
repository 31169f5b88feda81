/-
  DERIVED. GIVEN WITH THE SEED: THE CARDS: each row of YtakicnplmcemnaaDoorRows.lean that lists a variable, with what it lists TIED to the program's text (the seventh form; the later family's looks); each row that meets fmt, with fmt's text TOLD by the authors' own Lean function (tested against real Go, not proved from fmt's source: count such statements apart). THE CARD IS WHAT COUNTS. Prove the row's statement (the work); the ties are given (YtakicnplmcemnaaDoorTie.lean); close each card by the builder's one call (the guide's Derived/Test/ToyasCard.lean, 'card_holds'). Laid BY PROGRAM, IN A SANDBOX (cutbox-door.mjs). By AI agents, Wed Nov 11 2026. No macro, syntax, notation, axiom, sorry.
-/
import Derived.Test.YtakicnplmcemnaaDoorRows
import GoSem.ClaimSeven
namespace Go.Proofs.YtakicnplmcemnaaDoor
namespace Rows

/-- THE TIED CARD OF 'laws.FnExactNumOk'. -/
def fnExactNumOkCard : Claim7 := { stood := { row := fnExactNumOkRow, standIns := [], harness := (true, "1db909831c1e95701357375c7a0753cca29b95fa8972bab5be050c365b9af1df"), looks := false }, kinds := [], alts := [], laidByText := true, laidKinds := [.data], laidTests := true, laidLooks := .later }
def FnExactNumOkCardSaid : Prop := Claim7.holds Tryd.pinned (.plain (OpenSpec.ofChange fnExactNumOkSpec)) fnExactNumOkCard

/-- THE TIED CARD OF 'laws.FnExactNumInt'. -/
def fnExactNumIntCard : Claim7 := { stood := { row := fnExactNumIntRow, standIns := [], harness := (true, "1db909831c1e95701357375c7a0753cca29b95fa8972bab5be050c365b9af1df"), looks := false }, kinds := [], alts := [], laidByText := true, laidKinds := [.data], laidTests := true, laidLooks := .later }
def FnExactNumIntCardSaid : Prop := Claim7.holds Tryd.pinned (.plain (OpenSpec.ofChange fnExactNumIntSpec)) fnExactNumIntCard

/-- THE TIED CARD OF 'laws.FnExactNumParse'. -/
def fnExactNumParseCard : Claim7 := { stood := { row := fnExactNumParseRow, standIns := [], harness := (true, "1db909831c1e95701357375c7a0753cca29b95fa8972bab5be050c365b9af1df"), looks := false }, kinds := [], alts := [], laidByText := true, laidKinds := [.data], laidTests := true, laidLooks := .later }
def FnExactNumParseCardSaid : Prop := Claim7.holds Tryd.pinned (.plain (OpenSpec.ofChange fnExactNumParseSpec)) fnExactNumParseCard

/-- THE TIED CARD OF 'laws.FnExactNumPrint'. -/
def fnExactNumPrintCard : Claim7 := { stood := { row := fnExactNumPrintRow, standIns := [], harness := (true, "1db909831c1e95701357375c7a0753cca29b95fa8972bab5be050c365b9af1df"), looks := false }, kinds := [], alts := [], laidByText := true, laidKinds := [.data], laidTests := true, laidLooks := .later }
def FnExactNumPrintCardSaid : Prop := Claim7.holds Tryd.pinned (.plain (OpenSpec.ofChange fnExactNumPrintSpec)) fnExactNumPrintCard

/-- THE TIED CARD OF 'laws.FnExactNumCmp'. -/
def fnExactNumCmpCard : Claim7 := { stood := { row := fnExactNumCmpRow, standIns := [], harness := (true, "1db909831c1e95701357375c7a0753cca29b95fa8972bab5be050c365b9af1df"), looks := false }, kinds := [], alts := [], laidByText := true, laidKinds := [.data], laidTests := true, laidLooks := .later }
def FnExactNumCmpCardSaid : Prop := Claim7.holds Tryd.pinned (.plain (OpenSpec.ofChange fnExactNumCmpSpec)) fnExactNumCmpCard

/-- THE TIED CARD OF 'laws.FnExactNumAdd'. -/
def fnExactNumAddCard : Claim7 := { stood := { row := fnExactNumAddRow, standIns := [], harness := (true, "1db909831c1e95701357375c7a0753cca29b95fa8972bab5be050c365b9af1df"), looks := false }, kinds := [], alts := [], laidByText := true, laidKinds := [.data], laidTests := true, laidLooks := .later }
def FnExactNumAddCardSaid : Prop := Claim7.holds Tryd.pinned (.plain (OpenSpec.ofChange fnExactNumAddSpec)) fnExactNumAddCard

/-- THE TIED CARD OF 'laws.FnExactNumSub'. -/
def fnExactNumSubCard : Claim7 := { stood := { row := fnExactNumSubRow, standIns := [], harness := (true, "1db909831c1e95701357375c7a0753cca29b95fa8972bab5be050c365b9af1df"), looks := false }, kinds := [], alts := [], laidByText := true, laidKinds := [.data], laidTests := true, laidLooks := .later }
def FnExactNumSubCardSaid : Prop := Claim7.holds Tryd.pinned (.plain (OpenSpec.ofChange fnExactNumSubSpec)) fnExactNumSubCard

/-- THE TIED CARD OF 'laws.FnExactNumMul'. -/
def fnExactNumMulCard : Claim7 := { stood := { row := fnExactNumMulRow, standIns := [], harness := (true, "1db909831c1e95701357375c7a0753cca29b95fa8972bab5be050c365b9af1df"), looks := false }, kinds := [], alts := [], laidByText := true, laidKinds := [.data], laidTests := true, laidLooks := .later }
def FnExactNumMulCardSaid : Prop := Claim7.holds Tryd.pinned (.plain (OpenSpec.ofChange fnExactNumMulSpec)) fnExactNumMulCard

/-- THE TIED CARD OF 'laws.FnExactNumDiv'. -/
def fnExactNumDivCard : Claim7 := { stood := { row := fnExactNumDivRow, standIns := [], harness := (true, "1db909831c1e95701357375c7a0753cca29b95fa8972bab5be050c365b9af1df"), looks := false }, kinds := [], alts := [], laidByText := true, laidKinds := [.data], laidTests := true, laidLooks := .later }
def FnExactNumDivCardSaid : Prop := Claim7.holds Tryd.pinned (.plain (OpenSpec.ofChange fnExactNumDivSpec)) fnExactNumDivCard

/-- THE SECOND FORM's CARD OF 'laws.FnExactNumOk'. -/
def fnExactNumOkUptoCard : Claim7 := { stood := { row := fnExactNumOkUptoRow, standIns := [], harness := (true, "1db909831c1e95701357375c7a0753cca29b95fa8972bab5be050c365b9af1df"), looks := false }, kinds := [], alts := [], laidByText := true, laidKinds := [.data], laidTests := true, laidLooks := .later }
def FnExactNumOkUptoCardSaid : Prop := Claim7.holds Tryd.pinned (.plain (OpenSpec.upto fnExactNumOkSpec)) fnExactNumOkUptoCard

/-- THE SECOND FORM's CARD OF 'laws.FnExactNumInt'. -/
def fnExactNumIntUptoCard : Claim7 := { stood := { row := fnExactNumIntUptoRow, standIns := [], harness := (true, "1db909831c1e95701357375c7a0753cca29b95fa8972bab5be050c365b9af1df"), looks := false }, kinds := [], alts := [], laidByText := true, laidKinds := [.data], laidTests := true, laidLooks := .later }
def FnExactNumIntUptoCardSaid : Prop := Claim7.holds Tryd.pinned (.plain (OpenSpec.upto fnExactNumIntSpec)) fnExactNumIntUptoCard

/-- THE SECOND FORM's CARD OF 'laws.FnExactNumParse'. -/
def fnExactNumParseUptoCard : Claim7 := { stood := { row := fnExactNumParseUptoRow, standIns := [], harness := (true, "1db909831c1e95701357375c7a0753cca29b95fa8972bab5be050c365b9af1df"), looks := false }, kinds := [], alts := [], laidByText := true, laidKinds := [.data], laidTests := true, laidLooks := .later }
def FnExactNumParseUptoCardSaid : Prop := Claim7.holds Tryd.pinned (.plain (OpenSpec.upto fnExactNumParseSpec)) fnExactNumParseUptoCard

/-- THE SECOND FORM's CARD OF 'laws.FnExactNumPrint'. -/
def fnExactNumPrintUptoCard : Claim7 := { stood := { row := fnExactNumPrintUptoRow, standIns := [], harness := (true, "1db909831c1e95701357375c7a0753cca29b95fa8972bab5be050c365b9af1df"), looks := false }, kinds := [], alts := [], laidByText := true, laidKinds := [.data], laidTests := true, laidLooks := .later }
def FnExactNumPrintUptoCardSaid : Prop := Claim7.holds Tryd.pinned (.plain (OpenSpec.upto fnExactNumPrintSpec)) fnExactNumPrintUptoCard

/-- THE SECOND FORM's CARD OF 'laws.FnExactNumCmp'. -/
def fnExactNumCmpUptoCard : Claim7 := { stood := { row := fnExactNumCmpUptoRow, standIns := [], harness := (true, "1db909831c1e95701357375c7a0753cca29b95fa8972bab5be050c365b9af1df"), looks := false }, kinds := [], alts := [], laidByText := true, laidKinds := [.data], laidTests := true, laidLooks := .later }
def FnExactNumCmpUptoCardSaid : Prop := Claim7.holds Tryd.pinned (.plain (OpenSpec.upto fnExactNumCmpSpec)) fnExactNumCmpUptoCard

/-- THE SECOND FORM's CARD OF 'laws.FnExactNumAdd'. -/
def fnExactNumAddUptoCard : Claim7 := { stood := { row := fnExactNumAddUptoRow, standIns := [], harness := (true, "1db909831c1e95701357375c7a0753cca29b95fa8972bab5be050c365b9af1df"), looks := false }, kinds := [], alts := [], laidByText := true, laidKinds := [.data], laidTests := true, laidLooks := .later }
def FnExactNumAddUptoCardSaid : Prop := Claim7.holds Tryd.pinned (.plain (OpenSpec.upto fnExactNumAddSpec)) fnExactNumAddUptoCard

/-- THE SECOND FORM's CARD OF 'laws.FnExactNumSub'. -/
def fnExactNumSubUptoCard : Claim7 := { stood := { row := fnExactNumSubUptoRow, standIns := [], harness := (true, "1db909831c1e95701357375c7a0753cca29b95fa8972bab5be050c365b9af1df"), looks := false }, kinds := [], alts := [], laidByText := true, laidKinds := [.data], laidTests := true, laidLooks := .later }
def FnExactNumSubUptoCardSaid : Prop := Claim7.holds Tryd.pinned (.plain (OpenSpec.upto fnExactNumSubSpec)) fnExactNumSubUptoCard

/-- THE SECOND FORM's CARD OF 'laws.FnExactNumMul'. -/
def fnExactNumMulUptoCard : Claim7 := { stood := { row := fnExactNumMulUptoRow, standIns := [], harness := (true, "1db909831c1e95701357375c7a0753cca29b95fa8972bab5be050c365b9af1df"), looks := false }, kinds := [], alts := [], laidByText := true, laidKinds := [.data], laidTests := true, laidLooks := .later }
def FnExactNumMulUptoCardSaid : Prop := Claim7.holds Tryd.pinned (.plain (OpenSpec.upto fnExactNumMulSpec)) fnExactNumMulUptoCard

/-- THE SECOND FORM's CARD OF 'laws.FnExactNumDiv'. -/
def fnExactNumDivUptoCard : Claim7 := { stood := { row := fnExactNumDivUptoRow, standIns := [], harness := (true, "1db909831c1e95701357375c7a0753cca29b95fa8972bab5be050c365b9af1df"), looks := false }, kinds := [], alts := [], laidByText := true, laidKinds := [.data], laidTests := true, laidLooks := .later }
def FnExactNumDivUptoCardSaid : Prop := Claim7.holds Tryd.pinned (.plain (OpenSpec.upto fnExactNumDivSpec)) fnExactNumDivUptoCard
end Rows
end Go.Proofs.YtakicnplmcemnaaDoor
