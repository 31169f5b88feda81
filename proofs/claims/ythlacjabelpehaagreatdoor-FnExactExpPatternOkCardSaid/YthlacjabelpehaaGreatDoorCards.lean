/-
  DERIVED. GIVEN WITH THE SEED: THE CARDS: each row of YthlacjabelpehaaGreatDoorRows.lean that lists a variable, with what it lists TIED to the program's text (the seventh form; the later family's looks); each row that meets fmt, with fmt's text TOLD by the authors' own Lean function (tested against real Go, not proved from fmt's source: count such statements apart). THE CARD IS WHAT COUNTS. Prove the row's statement (the work); the ties are given (YthlacjabelpehaaGreatDoorTie.lean); close each card by the builder's one call (the guide's Derived/Test/ToyasCard.lean, 'card_holds'). Laid BY PROGRAM, IN A SANDBOX (cutbox-door.mjs). By AI agents, Wed Nov 11 2026. No macro, syntax, notation, axiom, sorry.
-/
import Derived.Test.YthlacjabelpehaaGreatDoorRows
import GoSem.ClaimSeven
namespace Go.Proofs.YthlacjabelpehaaGreatDoor
namespace Rows

/-- THE TIED CARD OF 'laws.FnExactExpPatternOk'. -/
def fnExactExpPatternOkCard : Claim7 := { stood := { row := fnExactExpPatternOkRow, standIns := [], harness := (true, "2bae2b8909ca24886cb40cf2276fbc65125c9a28b9802bb1611efb1e33c1b90e"), looks := true }, kinds := [], alts := [], laidByText := true, laidKinds := [.data, .data, .data], laidTests := true, laidLooks := .later }
def FnExactExpPatternOkCardSaid : Prop := Claim7.holds Tryz.pinned (.plain (OpenSpec.ofChange fnExactExpPatternOkSpec)) fnExactExpPatternOkCard

/-- THE SECOND FORM's CARD OF 'laws.FnExactExpPatternOk'. -/
def fnExactExpPatternOkUptoCard : Claim7 := { stood := { row := fnExactExpPatternOkUptoRow, standIns := [], harness := (true, "2bae2b8909ca24886cb40cf2276fbc65125c9a28b9802bb1611efb1e33c1b90e"), looks := true }, kinds := [], alts := [], laidByText := true, laidKinds := [.data, .data, .data], laidTests := true, laidLooks := .later }
def FnExactExpPatternOkUptoCardSaid : Prop := Claim7.holds Tryz.pinned (.plain (OpenSpec.upto fnExactExpPatternOkSpec)) fnExactExpPatternOkUptoCard
end Rows
end Go.Proofs.YthlacjabelpehaaGreatDoor
