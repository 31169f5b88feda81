/-
  NARROWER THAN 'FOR EVERY INPUT', by the rows' own cells (each row's printed sentence says how): FnExactNumQuo: laid · FnExactNumPower: laid · FnNumTop: laid · FnNumOrder: laid · FnNumGcd: laid.
  DERIVED. THE GIVEN ROWS OF THIS SEAT. 5 by the template 'for every input the law returns true; each argument reads behind the call as it read before'; 0 by the template 'total and deterministic' (their statements: YtbbffhpppacihaaDoorTotals.lean).
  GIVEN WITH THE SEED: the statements are not yours to turn. If you find one false, say at which input.
  Laid BY PROGRAM, IN A SANDBOX (cutbox-rows.mjs): the forced cells as the released guide's own fill.sh prints them over the translation 2311b96f40bbee13… (all of the seat's roots in one cut). By AI agents, Wed Nov 11 2026. No macro, syntax, notation, axiom, sorry.
-/
import Derived.Test.YtbbffhpppacihaaDoorChecked
import GoSem.Claim
import GoSem.ClaimJoined
import GoSem.ClaimMapViews
import Derived.JoinedTies
import Derived.KernelRfl
namespace Go.Proofs.YtbbffhpppacihaaDoor
/- THE CELL 'sum', in the pinned program and in every row, IS THE sha256 OF THE DUMP (.gsa) THAT YtbbffhpppacihaaDoorProg.lean LOADS. Nothing in Lean hashes anything: it is a label: what it is worth is what the hold of that sum in a sandbox is worth. -/
noncomputable def Tryd.pinned : Pinned := { name := "ytbbffhpppacihaadoor", sum := "2311b96f40bbee13cdb6fb35db94f73374cfa702261b88deb77ca1efcd916fe5", checked := Tryd.checked }
namespace Rows
def none {H : Type} : Left H := { results := [], args := [] }

/- WHAT THE LISTED PACKAGE-LEVEL VARIABLES READ AS WHEN THE CALL BEGINS. Each datum BY PROGRAM (the guide's laid-datum.mjs) off the statement by which the dump's own 'gosem.cut.vars' lays the variable. In a bare row this is a premise. The card (YtbbffhpppacihaaDoorCards.lean) ties it to the program's text. -/
def laid_errors_errorType {H : Type} : DataW H := .iface "internal/reflectlite.rtype" (.agg [.ptr (.lit (.string [101, 114, 114, 111, 114]))])
def laid_loop_example_siskin_impl_powersOfTen {H : Type} : DataW H := .agg [.lit (.int .u64 1), .lit (.int .u64 10), .lit (.int .u64 100), .lit (.int .u64 1000), .lit (.int .u64 10000), .lit (.int .u64 100000), .lit (.int .u64 1000000), .lit (.int .u64 10000000), .lit (.int .u64 100000000)]

/-- 'laws.FnExactNumQuo': WHATEVER THE INPUT: true; the input reads as it did. -/
def fnExactNumQuoSpec : ChangeSpec := { name := "fnExactNumQuo", vars := ["loop.example/siskin/impl.powersOfTen"], fn := fun _ => fun
  | [d1, d2, g1] => { results := [.lit (.bool true)], args := [d1, d2], vars := [g1] }
  | _ => none }
def fnExactNumQuoRow : OpenClaim := { program := "ytbbffhpppacihaadoor", sum := "2311b96f40bbee13cdb6fb35db94f73374cfa702261b88deb77ca1efcd916fe5", func := "loop.example/siskin/laws.FnExactNumQuo", spec := "fnExactNumQuo", inPlace := ["internal/reflectlite.ValueOf", "(internal/reflectlite.Value).Type", "(internal/reflectlite.Value).IsNil", "internal/reflectlite.TypeOf", "(internal/reflectlite.Value).Elem", "(internal/reflectlite.Value).Set", "internal/abi.NoEscape"], unfollowed := true, recurses := true, named := ["loop.example/siskin/impl.powersOfTen", "errors.errorType"], apart := false, laid := [("errors.errorType", laid_errors_errorType), ("loop.example/siskin/impl.powersOfTen", laid_loop_example_siskin_impl_powersOfTen)] }
def FnExactNumQuoSaid : Prop := fnExactNumQuoRow.holds Tryd.pinned (OpenSpec.ofChange fnExactNumQuoSpec)

/-- ITS FALSE NEIGHBOUR: 'it returns false'. Refute it at one input. -/
def fnExactNumQuoWrong : ChangeSpec := { name := "fnExactNumQuo", vars := ["loop.example/siskin/impl.powersOfTen"], fn := fun _ => fun
  | [d1, d2, g1] => { results := [.lit (.bool false)], args := [d1, d2], vars := [g1] }
  | _ => none }
def FnExactNumQuoWrongFalsely : Prop := fnExactNumQuoRow.holds Tryd.pinned (OpenSpec.ofChange fnExactNumQuoWrong)

/-- 'laws.FnExactNumPower': WHATEVER THE INPUT: true; the input reads as it did. -/
def fnExactNumPowerSpec : ChangeSpec := { name := "fnExactNumPower", vars := ["loop.example/siskin/impl.powersOfTen"], fn := fun _ => fun
  | [d1, d2, g1] => { results := [.lit (.bool true)], args := [d1, d2], vars := [g1] }
  | _ => none }
def fnExactNumPowerRow : OpenClaim := { program := "ytbbffhpppacihaadoor", sum := "2311b96f40bbee13cdb6fb35db94f73374cfa702261b88deb77ca1efcd916fe5", func := "loop.example/siskin/laws.FnExactNumPower", spec := "fnExactNumPower", inPlace := ["internal/reflectlite.ValueOf", "(internal/reflectlite.Value).Type", "(internal/reflectlite.Value).IsNil", "internal/reflectlite.TypeOf", "(internal/reflectlite.Value).Elem", "(internal/reflectlite.Value).Set", "internal/abi.NoEscape"], unfollowed := true, recurses := true, named := ["loop.example/siskin/impl.powersOfTen", "errors.errorType"], apart := false, laid := [("errors.errorType", laid_errors_errorType), ("loop.example/siskin/impl.powersOfTen", laid_loop_example_siskin_impl_powersOfTen)] }
def FnExactNumPowerSaid : Prop := fnExactNumPowerRow.holds Tryd.pinned (OpenSpec.ofChange fnExactNumPowerSpec)

/-- ITS FALSE NEIGHBOUR: 'it returns false'. Refute it at one input. -/
def fnExactNumPowerWrong : ChangeSpec := { name := "fnExactNumPower", vars := ["loop.example/siskin/impl.powersOfTen"], fn := fun _ => fun
  | [d1, d2, g1] => { results := [.lit (.bool false)], args := [d1, d2], vars := [g1] }
  | _ => none }
def FnExactNumPowerWrongFalsely : Prop := fnExactNumPowerRow.holds Tryd.pinned (OpenSpec.ofChange fnExactNumPowerWrong)

/-- 'laws.FnNumTop': WHATEVER THE INPUT: true; the input reads as it did. -/
def fnNumTopSpec : ChangeSpec := { name := "fnNumTop", vars := ["loop.example/siskin/impl.powersOfTen"], fn := fun _ => fun
  | [d1, d2, g1] => { results := [.lit (.bool true)], args := [d1, d2], vars := [g1] }
  | _ => none }
def fnNumTopRow : OpenClaim := { program := "ytbbffhpppacihaadoor", sum := "2311b96f40bbee13cdb6fb35db94f73374cfa702261b88deb77ca1efcd916fe5", func := "loop.example/siskin/laws.FnNumTop", spec := "fnNumTop", inPlace := ["internal/abi.NoEscape"], unfollowed := true, recurses := true, named := ["loop.example/siskin/impl.powersOfTen"], apart := false, laid := [("loop.example/siskin/impl.powersOfTen", laid_loop_example_siskin_impl_powersOfTen)] }
def FnNumTopSaid : Prop := fnNumTopRow.holds Tryd.pinned (OpenSpec.ofChange fnNumTopSpec)

/-- ITS FALSE NEIGHBOUR: 'it returns false'. Refute it at one input. -/
def fnNumTopWrong : ChangeSpec := { name := "fnNumTop", vars := ["loop.example/siskin/impl.powersOfTen"], fn := fun _ => fun
  | [d1, d2, g1] => { results := [.lit (.bool false)], args := [d1, d2], vars := [g1] }
  | _ => none }
def FnNumTopWrongFalsely : Prop := fnNumTopRow.holds Tryd.pinned (OpenSpec.ofChange fnNumTopWrong)

/-- 'laws.FnNumOrder': WHATEVER THE INPUT: true; the input reads as it did. -/
def fnNumOrderSpec : ChangeSpec := { name := "fnNumOrder", vars := ["loop.example/siskin/impl.powersOfTen"], fn := fun _ => fun
  | [d1, d2, g1] => { results := [.lit (.bool true)], args := [d1, d2], vars := [g1] }
  | _ => none }
def fnNumOrderRow : OpenClaim := { program := "ytbbffhpppacihaadoor", sum := "2311b96f40bbee13cdb6fb35db94f73374cfa702261b88deb77ca1efcd916fe5", func := "loop.example/siskin/laws.FnNumOrder", spec := "fnNumOrder", inPlace := ["internal/abi.NoEscape"], unfollowed := true, recurses := true, named := ["loop.example/siskin/impl.powersOfTen"], apart := false, laid := [("loop.example/siskin/impl.powersOfTen", laid_loop_example_siskin_impl_powersOfTen)] }
def FnNumOrderSaid : Prop := fnNumOrderRow.holds Tryd.pinned (OpenSpec.ofChange fnNumOrderSpec)

/-- ITS FALSE NEIGHBOUR: 'it returns false'. Refute it at one input. -/
def fnNumOrderWrong : ChangeSpec := { name := "fnNumOrder", vars := ["loop.example/siskin/impl.powersOfTen"], fn := fun _ => fun
  | [d1, d2, g1] => { results := [.lit (.bool false)], args := [d1, d2], vars := [g1] }
  | _ => none }
def FnNumOrderWrongFalsely : Prop := fnNumOrderRow.holds Tryd.pinned (OpenSpec.ofChange fnNumOrderWrong)

/-- 'laws.FnNumGcd': WHATEVER THE INPUT: true; the input reads as it did. -/
def fnNumGcdSpec : ChangeSpec := { name := "fnNumGcd", vars := ["loop.example/siskin/impl.powersOfTen"], fn := fun _ => fun
  | [d, g1] => { results := [.lit (.bool true)], args := [d], vars := [g1] }
  | _ => none }
def fnNumGcdRow : OpenClaim := { program := "ytbbffhpppacihaadoor", sum := "2311b96f40bbee13cdb6fb35db94f73374cfa702261b88deb77ca1efcd916fe5", func := "loop.example/siskin/laws.FnNumGcd", spec := "fnNumGcd", inPlace := ["internal/reflectlite.ValueOf", "(internal/reflectlite.Value).Type", "(internal/reflectlite.Value).IsNil", "internal/reflectlite.TypeOf", "(internal/reflectlite.Value).Elem", "(internal/reflectlite.Value).Set", "internal/abi.NoEscape"], unfollowed := true, recurses := true, named := ["loop.example/siskin/impl.powersOfTen", "errors.errorType"], apart := false, laid := [("errors.errorType", laid_errors_errorType), ("loop.example/siskin/impl.powersOfTen", laid_loop_example_siskin_impl_powersOfTen)] }
def FnNumGcdSaid : Prop := fnNumGcdRow.holds Tryd.pinned (OpenSpec.ofChange fnNumGcdSpec)

/-- ITS FALSE NEIGHBOUR: 'it returns false'. Refute it at one input. -/
def fnNumGcdWrong : ChangeSpec := { name := "fnNumGcd", vars := ["loop.example/siskin/impl.powersOfTen"], fn := fun _ => fun
  | [d, g1] => { results := [.lit (.bool false)], args := [d], vars := [g1] }
  | _ => none }
def FnNumGcdWrongFalsely : Prop := fnNumGcdRow.holds Tryd.pinned (OpenSpec.ofChange fnNumGcdWrong)

/- THE SECOND FORM. 'bulk': how many values and letters a reading holds, each counted each time it is reached (what is shared counts as often as it is met; a slice's spare places count too). A statement '..UptoSaid' is the law's where the arguments, and the package variables that the reading takes, are together of bulk at most 1048576: NARROWER than '..Said'. Prove '..Said' where nothing that the law and all that it calls make is longer than what came in: it says more and counts as full. Else prove '..UptoSaid'. A law counts once. -/
mutual
def uptoBulk {H : Type} : DataW H → Nat
  | .lit (.string bytes) => bytes.length + 1
  | .lit _ => 1
  | .nil => 1
  | .ptr d => uptoBulk d + 1
  | .slice elems spare => uptoBulkAll elems + uptoBulkAll spare + 1
  | .agg parts => uptoBulkAll parts + 1
  | .iface _ d => uptoBulk d + 1
  | .map entries => uptoBulkEntries entries + 1
  | .held _ => 1
def uptoBulkAll {H : Type} : List (DataW H) → Nat
  | [] => 0
  | d :: r => uptoBulk d + uptoBulkAll r
def uptoBulkEntries {H : Type} : List (Lit × DataW H) → Nat
  | [] => 0
  | x :: r => uptoBulkEntry x + uptoBulkEntries r
def uptoBulkEntry {H : Type} : Lit × DataW H → Nat
  | (.string bytes, d) => bytes.length + uptoBulk d + 1
  | (_, d) => uptoBulk d + 1
 end
def uptoSmall : (H : Type) → List (DataW H) → Bool := fun _ ds => decide (uptoBulkAll ds ≤ 1048576)
def OpenSpec.upto (s : _root_.Go.ChangeSpec) : _root_.Go.OpenSpec := { _root_.Go.OpenSpec.ofChange s with cond := some uptoSmall }

/-- 'laws.FnExactNumQuo', WHERE WHAT IT READS IS OF BULK AT MOST 1048576: true; the input reads as it did. -/
def fnExactNumQuoUptoRow : OpenClaim := { program := "ytbbffhpppacihaadoor", sum := "2311b96f40bbee13cdb6fb35db94f73374cfa702261b88deb77ca1efcd916fe5", func := "loop.example/siskin/laws.FnExactNumQuo", spec := "fnExactNumQuo", inPlace := ["internal/reflectlite.ValueOf", "(internal/reflectlite.Value).Type", "(internal/reflectlite.Value).IsNil", "internal/reflectlite.TypeOf", "(internal/reflectlite.Value).Elem", "(internal/reflectlite.Value).Set", "internal/abi.NoEscape"], unfollowed := true, recurses := true, named := ["loop.example/siskin/impl.powersOfTen", "errors.errorType"], apart := false, laid := [("errors.errorType", laid_errors_errorType), ("loop.example/siskin/impl.powersOfTen", laid_loop_example_siskin_impl_powersOfTen)], narrowed := true }
def FnExactNumQuoUptoSaid : Prop := fnExactNumQuoUptoRow.holds Tryd.pinned (OpenSpec.upto fnExactNumQuoSpec)

/-- 'laws.FnExactNumPower', WHERE WHAT IT READS IS OF BULK AT MOST 1048576: true; the input reads as it did. -/
def fnExactNumPowerUptoRow : OpenClaim := { program := "ytbbffhpppacihaadoor", sum := "2311b96f40bbee13cdb6fb35db94f73374cfa702261b88deb77ca1efcd916fe5", func := "loop.example/siskin/laws.FnExactNumPower", spec := "fnExactNumPower", inPlace := ["internal/reflectlite.ValueOf", "(internal/reflectlite.Value).Type", "(internal/reflectlite.Value).IsNil", "internal/reflectlite.TypeOf", "(internal/reflectlite.Value).Elem", "(internal/reflectlite.Value).Set", "internal/abi.NoEscape"], unfollowed := true, recurses := true, named := ["loop.example/siskin/impl.powersOfTen", "errors.errorType"], apart := false, laid := [("errors.errorType", laid_errors_errorType), ("loop.example/siskin/impl.powersOfTen", laid_loop_example_siskin_impl_powersOfTen)], narrowed := true }
def FnExactNumPowerUptoSaid : Prop := fnExactNumPowerUptoRow.holds Tryd.pinned (OpenSpec.upto fnExactNumPowerSpec)

/-- 'laws.FnNumTop', WHERE WHAT IT READS IS OF BULK AT MOST 1048576: true; the input reads as it did. -/
def fnNumTopUptoRow : OpenClaim := { program := "ytbbffhpppacihaadoor", sum := "2311b96f40bbee13cdb6fb35db94f73374cfa702261b88deb77ca1efcd916fe5", func := "loop.example/siskin/laws.FnNumTop", spec := "fnNumTop", inPlace := ["internal/abi.NoEscape"], unfollowed := true, recurses := true, named := ["loop.example/siskin/impl.powersOfTen"], apart := false, laid := [("loop.example/siskin/impl.powersOfTen", laid_loop_example_siskin_impl_powersOfTen)], narrowed := true }
def FnNumTopUptoSaid : Prop := fnNumTopUptoRow.holds Tryd.pinned (OpenSpec.upto fnNumTopSpec)

/-- 'laws.FnNumOrder', WHERE WHAT IT READS IS OF BULK AT MOST 1048576: true; the input reads as it did. -/
def fnNumOrderUptoRow : OpenClaim := { program := "ytbbffhpppacihaadoor", sum := "2311b96f40bbee13cdb6fb35db94f73374cfa702261b88deb77ca1efcd916fe5", func := "loop.example/siskin/laws.FnNumOrder", spec := "fnNumOrder", inPlace := ["internal/abi.NoEscape"], unfollowed := true, recurses := true, named := ["loop.example/siskin/impl.powersOfTen"], apart := false, laid := [("loop.example/siskin/impl.powersOfTen", laid_loop_example_siskin_impl_powersOfTen)], narrowed := true }
def FnNumOrderUptoSaid : Prop := fnNumOrderUptoRow.holds Tryd.pinned (OpenSpec.upto fnNumOrderSpec)

/-- 'laws.FnNumGcd', WHERE WHAT IT READS IS OF BULK AT MOST 1048576: true; the input reads as it did. -/
def fnNumGcdUptoRow : OpenClaim := { program := "ytbbffhpppacihaadoor", sum := "2311b96f40bbee13cdb6fb35db94f73374cfa702261b88deb77ca1efcd916fe5", func := "loop.example/siskin/laws.FnNumGcd", spec := "fnNumGcd", inPlace := ["internal/reflectlite.ValueOf", "(internal/reflectlite.Value).Type", "(internal/reflectlite.Value).IsNil", "internal/reflectlite.TypeOf", "(internal/reflectlite.Value).Elem", "(internal/reflectlite.Value).Set", "internal/abi.NoEscape"], unfollowed := true, recurses := true, named := ["loop.example/siskin/impl.powersOfTen", "errors.errorType"], apart := false, laid := [("errors.errorType", laid_errors_errorType), ("loop.example/siskin/impl.powersOfTen", laid_loop_example_siskin_impl_powersOfTen)], narrowed := true }
def FnNumGcdUptoSaid : Prop := fnNumGcdUptoRow.holds Tryd.pinned (OpenSpec.upto fnNumGcdSpec)

end Rows
end Go.Proofs.YtbbffhpppacihaaDoor
