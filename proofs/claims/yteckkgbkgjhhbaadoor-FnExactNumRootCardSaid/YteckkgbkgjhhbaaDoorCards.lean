/-
  DERIVED. GIVEN WITH THE SEED: THE CARDS: each row of YteckkgbkgjhhbaaDoorRows.lean that lists a variable, with what it lists TIED to the program's text (the seventh form; the later family's looks); each row that meets fmt, with fmt's text TOLD by the authors' own Lean function (tested against real Go, not proved from fmt's source: count such statements apart). THE CARD IS WHAT COUNTS. Prove the row's statement (the work); the ties are given (YteckkgbkgjhhbaaDoorTie.lean); close each card by the builder's one call (the guide's Derived/Test/ToyasCard.lean, 'card_holds'). Laid BY PROGRAM, IN A SANDBOX (cutbox-door.mjs). By AI agents, Wed Nov 11 2026. No macro, syntax, notation, axiom, sorry.
-/
import Derived.Test.YteckkgbkgjhhbaaDoorRows
import GoSem.ClaimSeven
namespace Go.Proofs.YteckkgbkgjhhbaaDoor
namespace Rows

/-- THE TIED CARD OF 'laws.FnExactNumRound'. -/
def fnExactNumRoundCard : Claim7 := { stood := { row := fnExactNumRoundRow, standIns := [], harness := (true, "841a405b1b7493977eade03271726dd925d0b52cbb491d0f8ace9148a6ddb571"), looks := true }, kinds := [], alts := [], laidByText := true, laidKinds := [.handle, .data], laidTests := true, laidLooks := .later }
def FnExactNumRoundCardSaid : Prop := Claim7.holds Tryd.pinned (.plain (OpenSpec.ofChange fnExactNumRoundSpec)) fnExactNumRoundCard

/-- THE TIED CARD OF 'laws.FnExactNumQuo'. -/
def fnExactNumQuoCard : Claim7 := { stood := { row := fnExactNumQuoRow, standIns := [], harness := (true, "841a405b1b7493977eade03271726dd925d0b52cbb491d0f8ace9148a6ddb571"), looks := true }, kinds := [], alts := [], laidByText := true, laidKinds := [.handle, .data], laidTests := true, laidLooks := .later }
def FnExactNumQuoCardSaid : Prop := Claim7.holds Tryd.pinned (.plain (OpenSpec.ofChange fnExactNumQuoSpec)) fnExactNumQuoCard

/-- THE TIED CARD OF 'laws.FnExactNumMod'. -/
def fnExactNumModCard : Claim7 := { stood := { row := fnExactNumModRow, standIns := [], harness := (true, "841a405b1b7493977eade03271726dd925d0b52cbb491d0f8ace9148a6ddb571"), looks := true }, kinds := [], alts := [], laidByText := true, laidKinds := [.handle, .data], laidTests := true, laidLooks := .later }
def FnExactNumModCardSaid : Prop := Claim7.holds Tryd.pinned (.plain (OpenSpec.ofChange fnExactNumModSpec)) fnExactNumModCard

/-- THE TIED CARD OF 'laws.FnExactNumGcd'. -/
def fnExactNumGcdCard : Claim7 := { stood := { row := fnExactNumGcdRow, standIns := [], harness := (true, "841a405b1b7493977eade03271726dd925d0b52cbb491d0f8ace9148a6ddb571"), looks := true }, kinds := [], alts := [], laidByText := true, laidKinds := [.handle, .data], laidTests := true, laidLooks := .later }
def FnExactNumGcdCardSaid : Prop := Claim7.holds Tryd.pinned (.plain (OpenSpec.ofChange fnExactNumGcdSpec)) fnExactNumGcdCard

/-- THE TIED CARD OF 'laws.FnExactNumPower'. -/
def fnExactNumPowerCard : Claim7 := { stood := { row := fnExactNumPowerRow, standIns := [], harness := (true, "841a405b1b7493977eade03271726dd925d0b52cbb491d0f8ace9148a6ddb571"), looks := true }, kinds := [], alts := [], laidByText := true, laidKinds := [.handle, .data], laidTests := true, laidLooks := .later }
def FnExactNumPowerCardSaid : Prop := Claim7.holds Tryd.pinned (.plain (OpenSpec.ofChange fnExactNumPowerSpec)) fnExactNumPowerCard

/-- THE TIED CARD OF 'laws.FnExactNumRoot'. -/
def fnExactNumRootCard : Claim7 := { stood := { row := fnExactNumRootRow, standIns := [], harness := (true, "841a405b1b7493977eade03271726dd925d0b52cbb491d0f8ace9148a6ddb571"), looks := true }, kinds := [], alts := [], laidByText := true, laidKinds := [.handle, .data], laidTests := true, laidLooks := .later }
def FnExactNumRootCardSaid : Prop := Claim7.holds Tryd.pinned (.plain (OpenSpec.ofChange fnExactNumRootSpec)) fnExactNumRootCard

/-- THE TIED CARD OF 'laws.FnNumGcd'. -/
def fnNumGcdCard : Claim7 := { stood := { row := fnNumGcdRow, standIns := [], harness := (true, "841a405b1b7493977eade03271726dd925d0b52cbb491d0f8ace9148a6ddb571"), looks := true }, kinds := [], alts := [], laidByText := true, laidKinds := [.handle, .data], laidTests := true, laidLooks := .later }
def FnNumGcdCardSaid : Prop := Claim7.holds Tryd.pinned (.plain (OpenSpec.ofChange fnNumGcdSpec)) fnNumGcdCard

/-- THE TIED CARD OF 'laws.FnNumTop'. -/
def fnNumTopCard : Claim7 := { stood := { row := fnNumTopRow, standIns := [], harness := (true, "841a405b1b7493977eade03271726dd925d0b52cbb491d0f8ace9148a6ddb571"), looks := true }, kinds := [], alts := [], laidByText := true, laidKinds := [.data], laidTests := true, laidLooks := .later }
def FnNumTopCardSaid : Prop := Claim7.holds Tryd.pinned (.plain (OpenSpec.ofChange fnNumTopSpec)) fnNumTopCard

/-- THE TIED CARD OF 'laws.FnNumOrder'. -/
def fnNumOrderCard : Claim7 := { stood := { row := fnNumOrderRow, standIns := [], harness := (true, "841a405b1b7493977eade03271726dd925d0b52cbb491d0f8ace9148a6ddb571"), looks := true }, kinds := [], alts := [], laidByText := true, laidKinds := [.data], laidTests := true, laidLooks := .later }
def FnNumOrderCardSaid : Prop := Claim7.holds Tryd.pinned (.plain (OpenSpec.ofChange fnNumOrderSpec)) fnNumOrderCard

/-- THE SECOND FORM's CARD OF 'laws.FnExactNumRound'. -/
def fnExactNumRoundUptoCard : Claim7 := { stood := { row := fnExactNumRoundUptoRow, standIns := [], harness := (true, "841a405b1b7493977eade03271726dd925d0b52cbb491d0f8ace9148a6ddb571"), looks := true }, kinds := [], alts := [], laidByText := true, laidKinds := [.handle, .data], laidTests := true, laidLooks := .later }
def FnExactNumRoundUptoCardSaid : Prop := Claim7.holds Tryd.pinned (.plain (OpenSpec.upto fnExactNumRoundSpec)) fnExactNumRoundUptoCard

/-- THE SECOND FORM's CARD OF 'laws.FnExactNumQuo'. -/
def fnExactNumQuoUptoCard : Claim7 := { stood := { row := fnExactNumQuoUptoRow, standIns := [], harness := (true, "841a405b1b7493977eade03271726dd925d0b52cbb491d0f8ace9148a6ddb571"), looks := true }, kinds := [], alts := [], laidByText := true, laidKinds := [.handle, .data], laidTests := true, laidLooks := .later }
def FnExactNumQuoUptoCardSaid : Prop := Claim7.holds Tryd.pinned (.plain (OpenSpec.upto fnExactNumQuoSpec)) fnExactNumQuoUptoCard

/-- THE SECOND FORM's CARD OF 'laws.FnExactNumMod'. -/
def fnExactNumModUptoCard : Claim7 := { stood := { row := fnExactNumModUptoRow, standIns := [], harness := (true, "841a405b1b7493977eade03271726dd925d0b52cbb491d0f8ace9148a6ddb571"), looks := true }, kinds := [], alts := [], laidByText := true, laidKinds := [.handle, .data], laidTests := true, laidLooks := .later }
def FnExactNumModUptoCardSaid : Prop := Claim7.holds Tryd.pinned (.plain (OpenSpec.upto fnExactNumModSpec)) fnExactNumModUptoCard

/-- THE SECOND FORM's CARD OF 'laws.FnExactNumGcd'. -/
def fnExactNumGcdUptoCard : Claim7 := { stood := { row := fnExactNumGcdUptoRow, standIns := [], harness := (true, "841a405b1b7493977eade03271726dd925d0b52cbb491d0f8ace9148a6ddb571"), looks := true }, kinds := [], alts := [], laidByText := true, laidKinds := [.handle, .data], laidTests := true, laidLooks := .later }
def FnExactNumGcdUptoCardSaid : Prop := Claim7.holds Tryd.pinned (.plain (OpenSpec.upto fnExactNumGcdSpec)) fnExactNumGcdUptoCard

/-- THE SECOND FORM's CARD OF 'laws.FnExactNumPower'. -/
def fnExactNumPowerUptoCard : Claim7 := { stood := { row := fnExactNumPowerUptoRow, standIns := [], harness := (true, "841a405b1b7493977eade03271726dd925d0b52cbb491d0f8ace9148a6ddb571"), looks := true }, kinds := [], alts := [], laidByText := true, laidKinds := [.handle, .data], laidTests := true, laidLooks := .later }
def FnExactNumPowerUptoCardSaid : Prop := Claim7.holds Tryd.pinned (.plain (OpenSpec.upto fnExactNumPowerSpec)) fnExactNumPowerUptoCard

/-- THE SECOND FORM's CARD OF 'laws.FnExactNumRoot'. -/
def fnExactNumRootUptoCard : Claim7 := { stood := { row := fnExactNumRootUptoRow, standIns := [], harness := (true, "841a405b1b7493977eade03271726dd925d0b52cbb491d0f8ace9148a6ddb571"), looks := true }, kinds := [], alts := [], laidByText := true, laidKinds := [.handle, .data], laidTests := true, laidLooks := .later }
def FnExactNumRootUptoCardSaid : Prop := Claim7.holds Tryd.pinned (.plain (OpenSpec.upto fnExactNumRootSpec)) fnExactNumRootUptoCard

/-- THE SECOND FORM's CARD OF 'laws.FnNumGcd'. -/
def fnNumGcdUptoCard : Claim7 := { stood := { row := fnNumGcdUptoRow, standIns := [], harness := (true, "841a405b1b7493977eade03271726dd925d0b52cbb491d0f8ace9148a6ddb571"), looks := true }, kinds := [], alts := [], laidByText := true, laidKinds := [.handle, .data], laidTests := true, laidLooks := .later }
def FnNumGcdUptoCardSaid : Prop := Claim7.holds Tryd.pinned (.plain (OpenSpec.upto fnNumGcdSpec)) fnNumGcdUptoCard

/-- THE SECOND FORM's CARD OF 'laws.FnNumTop'. -/
def fnNumTopUptoCard : Claim7 := { stood := { row := fnNumTopUptoRow, standIns := [], harness := (true, "841a405b1b7493977eade03271726dd925d0b52cbb491d0f8ace9148a6ddb571"), looks := true }, kinds := [], alts := [], laidByText := true, laidKinds := [.data], laidTests := true, laidLooks := .later }
def FnNumTopUptoCardSaid : Prop := Claim7.holds Tryd.pinned (.plain (OpenSpec.upto fnNumTopSpec)) fnNumTopUptoCard

/-- THE SECOND FORM's CARD OF 'laws.FnNumOrder'. -/
def fnNumOrderUptoCard : Claim7 := { stood := { row := fnNumOrderUptoRow, standIns := [], harness := (true, "841a405b1b7493977eade03271726dd925d0b52cbb491d0f8ace9148a6ddb571"), looks := true }, kinds := [], alts := [], laidByText := true, laidKinds := [.data], laidTests := true, laidLooks := .later }
def FnNumOrderUptoCardSaid : Prop := Claim7.holds Tryd.pinned (.plain (OpenSpec.upto fnNumOrderSpec)) fnNumOrderUptoCard
end Rows
end Go.Proofs.YteckkgbkgjhhbaaDoor
