/-
  DERIVED. GIVEN WITH THE SEED: THE CARDS: each row of YtbbffhpppacihaaDoorRows.lean that lists a variable, with what it lists TIED to the program's text (the seventh form; the later family's looks); each row that meets fmt, with fmt's text TOLD by the authors' own Lean function (tested against real Go, not proved from fmt's source: count such statements apart). THE CARD IS WHAT COUNTS. Prove the row's statement (the work); the ties are given (YtbbffhpppacihaaDoorTie.lean); close each card by the builder's one call (the guide's Derived/Test/ToyasCard.lean, 'card_holds'). Laid BY PROGRAM, IN A SANDBOX (cutbox-door.mjs). By AI agents, Wed Nov 11 2026. No macro, syntax, notation, axiom, sorry.
-/
import Derived.Test.YtbbffhpppacihaaDoorRows
import GoSem.ClaimSeven
namespace Go.Proofs.YtbbffhpppacihaaDoor
namespace Rows

/-- THE TIED CARD OF 'laws.FnExactNumQuo'. -/
def fnExactNumQuoCard : Claim7 := { stood := { row := fnExactNumQuoRow, standIns := [], harness := (true, "87abdfa5200ba2d3ae4fc59ced0e60c49222ae3e7ee6cf9db0b25cdd489cd1f4"), looks := true }, kinds := [], alts := [], laidByText := true, laidKinds := [.handle, .data], laidTests := true, laidLooks := .later }
def FnExactNumQuoCardSaid : Prop := Claim7.holds Tryd.pinned (.plain (OpenSpec.ofChange fnExactNumQuoSpec)) fnExactNumQuoCard

/-- THE TIED CARD OF 'laws.FnExactNumPower'. -/
def fnExactNumPowerCard : Claim7 := { stood := { row := fnExactNumPowerRow, standIns := [], harness := (true, "87abdfa5200ba2d3ae4fc59ced0e60c49222ae3e7ee6cf9db0b25cdd489cd1f4"), looks := true }, kinds := [], alts := [], laidByText := true, laidKinds := [.handle, .data], laidTests := true, laidLooks := .later }
def FnExactNumPowerCardSaid : Prop := Claim7.holds Tryd.pinned (.plain (OpenSpec.ofChange fnExactNumPowerSpec)) fnExactNumPowerCard

/-- THE TIED CARD OF 'laws.FnNumTop'. -/
def fnNumTopCard : Claim7 := { stood := { row := fnNumTopRow, standIns := [], harness := (true, "87abdfa5200ba2d3ae4fc59ced0e60c49222ae3e7ee6cf9db0b25cdd489cd1f4"), looks := true }, kinds := [], alts := [], laidByText := true, laidKinds := [.data], laidTests := true, laidLooks := .later }
def FnNumTopCardSaid : Prop := Claim7.holds Tryd.pinned (.plain (OpenSpec.ofChange fnNumTopSpec)) fnNumTopCard

/-- THE TIED CARD OF 'laws.FnNumOrder'. -/
def fnNumOrderCard : Claim7 := { stood := { row := fnNumOrderRow, standIns := [], harness := (true, "87abdfa5200ba2d3ae4fc59ced0e60c49222ae3e7ee6cf9db0b25cdd489cd1f4"), looks := true }, kinds := [], alts := [], laidByText := true, laidKinds := [.data], laidTests := true, laidLooks := .later }
def FnNumOrderCardSaid : Prop := Claim7.holds Tryd.pinned (.plain (OpenSpec.ofChange fnNumOrderSpec)) fnNumOrderCard

/-- THE TIED CARD OF 'laws.FnNumGcd'. -/
def fnNumGcdCard : Claim7 := { stood := { row := fnNumGcdRow, standIns := [], harness := (true, "87abdfa5200ba2d3ae4fc59ced0e60c49222ae3e7ee6cf9db0b25cdd489cd1f4"), looks := true }, kinds := [], alts := [], laidByText := true, laidKinds := [.handle, .data], laidTests := true, laidLooks := .later }
def FnNumGcdCardSaid : Prop := Claim7.holds Tryd.pinned (.plain (OpenSpec.ofChange fnNumGcdSpec)) fnNumGcdCard

/-- THE SECOND FORM's CARD OF 'laws.FnExactNumQuo'. -/
def fnExactNumQuoUptoCard : Claim7 := { stood := { row := fnExactNumQuoUptoRow, standIns := [], harness := (true, "87abdfa5200ba2d3ae4fc59ced0e60c49222ae3e7ee6cf9db0b25cdd489cd1f4"), looks := true }, kinds := [], alts := [], laidByText := true, laidKinds := [.handle, .data], laidTests := true, laidLooks := .later }
def FnExactNumQuoUptoCardSaid : Prop := Claim7.holds Tryd.pinned (.plain (OpenSpec.upto fnExactNumQuoSpec)) fnExactNumQuoUptoCard

/-- THE SECOND FORM's CARD OF 'laws.FnExactNumPower'. -/
def fnExactNumPowerUptoCard : Claim7 := { stood := { row := fnExactNumPowerUptoRow, standIns := [], harness := (true, "87abdfa5200ba2d3ae4fc59ced0e60c49222ae3e7ee6cf9db0b25cdd489cd1f4"), looks := true }, kinds := [], alts := [], laidByText := true, laidKinds := [.handle, .data], laidTests := true, laidLooks := .later }
def FnExactNumPowerUptoCardSaid : Prop := Claim7.holds Tryd.pinned (.plain (OpenSpec.upto fnExactNumPowerSpec)) fnExactNumPowerUptoCard

/-- THE SECOND FORM's CARD OF 'laws.FnNumTop'. -/
def fnNumTopUptoCard : Claim7 := { stood := { row := fnNumTopUptoRow, standIns := [], harness := (true, "87abdfa5200ba2d3ae4fc59ced0e60c49222ae3e7ee6cf9db0b25cdd489cd1f4"), looks := true }, kinds := [], alts := [], laidByText := true, laidKinds := [.data], laidTests := true, laidLooks := .later }
def FnNumTopUptoCardSaid : Prop := Claim7.holds Tryd.pinned (.plain (OpenSpec.upto fnNumTopSpec)) fnNumTopUptoCard

/-- THE SECOND FORM's CARD OF 'laws.FnNumOrder'. -/
def fnNumOrderUptoCard : Claim7 := { stood := { row := fnNumOrderUptoRow, standIns := [], harness := (true, "87abdfa5200ba2d3ae4fc59ced0e60c49222ae3e7ee6cf9db0b25cdd489cd1f4"), looks := true }, kinds := [], alts := [], laidByText := true, laidKinds := [.data], laidTests := true, laidLooks := .later }
def FnNumOrderUptoCardSaid : Prop := Claim7.holds Tryd.pinned (.plain (OpenSpec.upto fnNumOrderSpec)) fnNumOrderUptoCard

/-- THE SECOND FORM's CARD OF 'laws.FnNumGcd'. -/
def fnNumGcdUptoCard : Claim7 := { stood := { row := fnNumGcdUptoRow, standIns := [], harness := (true, "87abdfa5200ba2d3ae4fc59ced0e60c49222ae3e7ee6cf9db0b25cdd489cd1f4"), looks := true }, kinds := [], alts := [], laidByText := true, laidKinds := [.handle, .data], laidTests := true, laidLooks := .later }
def FnNumGcdUptoCardSaid : Prop := Claim7.holds Tryd.pinned (.plain (OpenSpec.upto fnNumGcdSpec)) fnNumGcdUptoCard
end Rows
end Go.Proofs.YtbbffhpppacihaaDoor
