/-
  DERIVED. GIVEN WITH THE SEED: THE CARDS: each row of YtodpndmdmopghabDoorRows.lean that lists a variable, with what it lists TIED to the program's text (the seventh form; the later family's looks); each row that meets fmt, with fmt's text TOLD by the authors' own Lean function (tested against real Go, not proved from fmt's source: count such statements apart). THE CARD IS WHAT COUNTS. Prove the row's statement (the work); the ties are given (YtodpndmdmopghabDoorTie.lean); close each card by the builder's one call (the guide's Derived/Test/ToyasCard.lean, 'card_holds'). Laid BY PROGRAM, IN A SANDBOX (cutbox-door.mjs). By AI agents, Wed Nov 11 2026. No macro, syntax, notation, axiom, sorry.
-/
import Derived.Test.YtodpndmdmopghabDoorRows
import GoSem.ClaimSeven
namespace Go.Proofs.YtodpndmdmopghabDoor
namespace Rows

/-- THE TIED CARD OF 'laws.FnExactNumSub'. -/
def fnExactNumSubCard : Claim7 := { stood := { row := fnExactNumSubRow, standIns := [], harness := (true, "993a2f572adc488dd2ea69d6c9d80b8a996693f53540a862d195f93bbaab9e8f"), looks := false }, kinds := [], alts := [], laidByText := true, laidKinds := [.data], laidTests := true, laidLooks := .later }
def FnExactNumSubCardSaid : Prop := Claim7.holds Tryd.pinned (.plain (OpenSpec.ofChange fnExactNumSubSpec)) fnExactNumSubCard

/-- THE TIED CARD OF 'laws.FnExactNumMul'. -/
def fnExactNumMulCard : Claim7 := { stood := { row := fnExactNumMulRow, standIns := [], harness := (true, "993a2f572adc488dd2ea69d6c9d80b8a996693f53540a862d195f93bbaab9e8f"), looks := false }, kinds := [], alts := [], laidByText := true, laidKinds := [.data], laidTests := true, laidLooks := .later }
def FnExactNumMulCardSaid : Prop := Claim7.holds Tryd.pinned (.plain (OpenSpec.ofChange fnExactNumMulSpec)) fnExactNumMulCard

/-- THE TIED CARD OF 'laws.FnExactNumDiv'. -/
def fnExactNumDivCard : Claim7 := { stood := { row := fnExactNumDivRow, standIns := [], harness := (true, "993a2f572adc488dd2ea69d6c9d80b8a996693f53540a862d195f93bbaab9e8f"), looks := false }, kinds := [], alts := [], laidByText := true, laidKinds := [.data], laidTests := true, laidLooks := .later }
def FnExactNumDivCardSaid : Prop := Claim7.holds Tryd.pinned (.plain (OpenSpec.ofChange fnExactNumDivSpec)) fnExactNumDivCard

/-- THE SECOND FORM's CARD OF 'laws.FnExactNumSub'. -/
def fnExactNumSubUptoCard : Claim7 := { stood := { row := fnExactNumSubUptoRow, standIns := [], harness := (true, "993a2f572adc488dd2ea69d6c9d80b8a996693f53540a862d195f93bbaab9e8f"), looks := false }, kinds := [], alts := [], laidByText := true, laidKinds := [.data], laidTests := true, laidLooks := .later }
def FnExactNumSubUptoCardSaid : Prop := Claim7.holds Tryd.pinned (.plain (OpenSpec.upto fnExactNumSubSpec)) fnExactNumSubUptoCard

/-- THE SECOND FORM's CARD OF 'laws.FnExactNumMul'. -/
def fnExactNumMulUptoCard : Claim7 := { stood := { row := fnExactNumMulUptoRow, standIns := [], harness := (true, "993a2f572adc488dd2ea69d6c9d80b8a996693f53540a862d195f93bbaab9e8f"), looks := false }, kinds := [], alts := [], laidByText := true, laidKinds := [.data], laidTests := true, laidLooks := .later }
def FnExactNumMulUptoCardSaid : Prop := Claim7.holds Tryd.pinned (.plain (OpenSpec.upto fnExactNumMulSpec)) fnExactNumMulUptoCard

/-- THE SECOND FORM's CARD OF 'laws.FnExactNumDiv'. -/
def fnExactNumDivUptoCard : Claim7 := { stood := { row := fnExactNumDivUptoRow, standIns := [], harness := (true, "993a2f572adc488dd2ea69d6c9d80b8a996693f53540a862d195f93bbaab9e8f"), looks := false }, kinds := [], alts := [], laidByText := true, laidKinds := [.data], laidTests := true, laidLooks := .later }
def FnExactNumDivUptoCardSaid : Prop := Claim7.holds Tryd.pinned (.plain (OpenSpec.upto fnExactNumDivSpec)) fnExactNumDivUptoCard
end Rows
end Go.Proofs.YtodpndmdmopghabDoor
