/-
  NARROWER THAN 'FOR EVERY INPUT', by the rows' own cells (each row's printed sentence says how): FnExactNumOk: laid · FnExactNumInt: laid · FnExactNumParse: laid · FnExactNumPrint: laid · FnExactNumCmp: laid · FnExactNumAdd: laid · FnExactNumSub: laid · FnExactNumMul: laid · FnExactNumDiv: laid.
  DERIVED. THE GIVEN ROWS OF THIS SEAT. 9 by the template 'for every input the law returns true; each argument reads behind the call as it read before'; 0 by the template 'total and deterministic' (their statements: YtakicnplmcemnaaDoorTotals.lean).
  GIVEN WITH THE SEED: the statements are not yours to turn. If you find one false, say at which input.
  Laid BY PROGRAM, IN A SANDBOX (cutbox-rows.mjs): the forced cells as the released guide's own fill.sh prints them over the translation a7ea8734ca9a4c9b… (all of the seat's roots in one cut). By AI agents, Wed Nov 11 2026. No macro, syntax, notation, axiom, sorry.
-/
import Derived.Test.YtakicnplmcemnaaDoorChecked
import GoSem.Claim
import GoSem.ClaimJoined
import GoSem.ClaimMapViews
import Derived.JoinedTies
import Derived.KernelRfl
namespace Go.Proofs.YtakicnplmcemnaaDoor
/- THE CELL 'sum', in the pinned program and in every row, IS THE sha256 OF THE DUMP (.gsa) THAT YtakicnplmcemnaaDoorProg.lean LOADS. Nothing in Lean hashes anything: it is a label: what it is worth is what the hold of that sum in a sandbox is worth. -/
noncomputable def Tryd.pinned : Pinned := { name := "ytakicnplmcemnaadoor", sum := "a7ea8734ca9a4c9b213751399c53159977b4225406268e93f63853989b96860b", checked := Tryd.checked }
namespace Rows
def none {H : Type} : Left H := { results := [], args := [] }

/- WHAT THE LISTED PACKAGE-LEVEL VARIABLES READ AS WHEN THE CALL BEGINS. Each datum BY PROGRAM (the guide's laid-datum.mjs) off the statement by which the dump's own 'gosem.cut.vars' lays the variable. In a bare row this is a premise. The card (YtakicnplmcemnaaDoorCards.lean) ties it to the program's text. -/
def laid_loop_example_siskin_impl_powersOfTen {H : Type} : DataW H := .agg [.lit (.int .u64 1), .lit (.int .u64 10), .lit (.int .u64 100), .lit (.int .u64 1000), .lit (.int .u64 10000), .lit (.int .u64 100000), .lit (.int .u64 1000000), .lit (.int .u64 10000000), .lit (.int .u64 100000000)]

/-- 'laws.FnExactNumOk': WHATEVER THE INPUT: true; the input reads as it did. -/
def fnExactNumOkSpec : ChangeSpec := { name := "fnExactNumOk", vars := ["loop.example/siskin/impl.powersOfTen"], fn := fun _ => fun
  | [d, g1] => { results := [.lit (.bool true)], args := [d], vars := [g1] }
  | _ => none }
def fnExactNumOkRow : OpenClaim := { program := "ytakicnplmcemnaadoor", sum := "a7ea8734ca9a4c9b213751399c53159977b4225406268e93f63853989b96860b", func := "loop.example/siskin/laws.FnExactNumOk", spec := "fnExactNumOk", named := ["loop.example/siskin/impl.powersOfTen"], apart := false, laid := [("loop.example/siskin/impl.powersOfTen", laid_loop_example_siskin_impl_powersOfTen)] }
def FnExactNumOkSaid : Prop := fnExactNumOkRow.holds Tryd.pinned (OpenSpec.ofChange fnExactNumOkSpec)

/-- ITS FALSE NEIGHBOUR: 'it returns false'. Refute it at one input. -/
def fnExactNumOkWrong : ChangeSpec := { name := "fnExactNumOk", vars := ["loop.example/siskin/impl.powersOfTen"], fn := fun _ => fun
  | [d, g1] => { results := [.lit (.bool false)], args := [d], vars := [g1] }
  | _ => none }
def FnExactNumOkWrongFalsely : Prop := fnExactNumOkRow.holds Tryd.pinned (OpenSpec.ofChange fnExactNumOkWrong)

/-- 'laws.FnExactNumInt': WHATEVER THE INPUT: true; the input reads as it did. -/
def fnExactNumIntSpec : ChangeSpec := { name := "fnExactNumInt", vars := ["loop.example/siskin/impl.powersOfTen"], fn := fun _ => fun
  | [d, g1] => { results := [.lit (.bool true)], args := [d], vars := [g1] }
  | _ => none }
def fnExactNumIntRow : OpenClaim := { program := "ytakicnplmcemnaadoor", sum := "a7ea8734ca9a4c9b213751399c53159977b4225406268e93f63853989b96860b", func := "loop.example/siskin/laws.FnExactNumInt", spec := "fnExactNumInt", inPlace := ["internal/abi.NoEscape"], recurses := true, named := ["loop.example/siskin/impl.powersOfTen"], apart := false, laid := [("loop.example/siskin/impl.powersOfTen", laid_loop_example_siskin_impl_powersOfTen)] }
def FnExactNumIntSaid : Prop := fnExactNumIntRow.holds Tryd.pinned (OpenSpec.ofChange fnExactNumIntSpec)

/-- ITS FALSE NEIGHBOUR: 'it returns false'. Refute it at one input. -/
def fnExactNumIntWrong : ChangeSpec := { name := "fnExactNumInt", vars := ["loop.example/siskin/impl.powersOfTen"], fn := fun _ => fun
  | [d, g1] => { results := [.lit (.bool false)], args := [d], vars := [g1] }
  | _ => none }
def FnExactNumIntWrongFalsely : Prop := fnExactNumIntRow.holds Tryd.pinned (OpenSpec.ofChange fnExactNumIntWrong)

/-- 'laws.FnExactNumParse': WHATEVER THE INPUT: true; the input reads as it did. -/
def fnExactNumParseSpec : ChangeSpec := { name := "fnExactNumParse", vars := ["loop.example/siskin/impl.powersOfTen"], fn := fun _ => fun
  | [d1, d2, g1] => { results := [.lit (.bool true)], args := [d1, d2], vars := [g1] }
  | _ => none }
def fnExactNumParseRow : OpenClaim := { program := "ytakicnplmcemnaadoor", sum := "a7ea8734ca9a4c9b213751399c53159977b4225406268e93f63853989b96860b", func := "loop.example/siskin/laws.FnExactNumParse", spec := "fnExactNumParse", inPlace := ["internal/bytealg.IndexByteString", "internal/bytealg.IndexString", "internal/abi.NoEscape"], recurses := true, named := ["internal/bytealg.MaxLen", "loop.example/siskin/impl.powersOfTen"], apart := false, laid := [("loop.example/siskin/impl.powersOfTen", laid_loop_example_siskin_impl_powersOfTen)] }
def FnExactNumParseSaid : Prop := fnExactNumParseRow.holds Tryd.pinned (OpenSpec.ofChange fnExactNumParseSpec)

/-- ITS FALSE NEIGHBOUR: 'it returns false'. Refute it at one input. -/
def fnExactNumParseWrong : ChangeSpec := { name := "fnExactNumParse", vars := ["loop.example/siskin/impl.powersOfTen"], fn := fun _ => fun
  | [d1, d2, g1] => { results := [.lit (.bool false)], args := [d1, d2], vars := [g1] }
  | _ => none }
def FnExactNumParseWrongFalsely : Prop := fnExactNumParseRow.holds Tryd.pinned (OpenSpec.ofChange fnExactNumParseWrong)

/-- 'laws.FnExactNumPrint': WHATEVER THE INPUT: true; the input reads as it did. -/
def fnExactNumPrintSpec : ChangeSpec := { name := "fnExactNumPrint", vars := ["loop.example/siskin/impl.powersOfTen"], fn := fun _ => fun
  | [d1, d2, g1] => { results := [.lit (.bool true)], args := [d1, d2], vars := [g1] }
  | _ => none }
def fnExactNumPrintRow : OpenClaim := { program := "ytakicnplmcemnaadoor", sum := "a7ea8734ca9a4c9b213751399c53159977b4225406268e93f63853989b96860b", func := "loop.example/siskin/laws.FnExactNumPrint", spec := "fnExactNumPrint", inPlace := ["internal/abi.NoEscape"], recurses := true, named := ["loop.example/siskin/impl.powersOfTen"], apart := false, laid := [("loop.example/siskin/impl.powersOfTen", laid_loop_example_siskin_impl_powersOfTen)] }
def FnExactNumPrintSaid : Prop := fnExactNumPrintRow.holds Tryd.pinned (OpenSpec.ofChange fnExactNumPrintSpec)

/-- ITS FALSE NEIGHBOUR: 'it returns false'. Refute it at one input. -/
def fnExactNumPrintWrong : ChangeSpec := { name := "fnExactNumPrint", vars := ["loop.example/siskin/impl.powersOfTen"], fn := fun _ => fun
  | [d1, d2, g1] => { results := [.lit (.bool false)], args := [d1, d2], vars := [g1] }
  | _ => none }
def FnExactNumPrintWrongFalsely : Prop := fnExactNumPrintRow.holds Tryd.pinned (OpenSpec.ofChange fnExactNumPrintWrong)

/-- 'laws.FnExactNumCmp': WHATEVER THE INPUT: true; the input reads as it did. -/
def fnExactNumCmpSpec : ChangeSpec := { name := "fnExactNumCmp", vars := ["loop.example/siskin/impl.powersOfTen"], fn := fun _ => fun
  | [d1, d2, g1] => { results := [.lit (.bool true)], args := [d1, d2], vars := [g1] }
  | _ => none }
def fnExactNumCmpRow : OpenClaim := { program := "ytakicnplmcemnaadoor", sum := "a7ea8734ca9a4c9b213751399c53159977b4225406268e93f63853989b96860b", func := "loop.example/siskin/laws.FnExactNumCmp", spec := "fnExactNumCmp", unfollowed := true, recurses := true, named := ["loop.example/siskin/impl.powersOfTen"], apart := false, laid := [("loop.example/siskin/impl.powersOfTen", laid_loop_example_siskin_impl_powersOfTen)] }
def FnExactNumCmpSaid : Prop := fnExactNumCmpRow.holds Tryd.pinned (OpenSpec.ofChange fnExactNumCmpSpec)

/-- ITS FALSE NEIGHBOUR: 'it returns false'. Refute it at one input. -/
def fnExactNumCmpWrong : ChangeSpec := { name := "fnExactNumCmp", vars := ["loop.example/siskin/impl.powersOfTen"], fn := fun _ => fun
  | [d1, d2, g1] => { results := [.lit (.bool false)], args := [d1, d2], vars := [g1] }
  | _ => none }
def FnExactNumCmpWrongFalsely : Prop := fnExactNumCmpRow.holds Tryd.pinned (OpenSpec.ofChange fnExactNumCmpWrong)

/-- 'laws.FnExactNumAdd': WHATEVER THE INPUT: true; the input reads as it did. -/
def fnExactNumAddSpec : ChangeSpec := { name := "fnExactNumAdd", vars := ["loop.example/siskin/impl.powersOfTen"], fn := fun _ => fun
  | [d1, d2, g1] => { results := [.lit (.bool true)], args := [d1, d2], vars := [g1] }
  | _ => none }
def fnExactNumAddRow : OpenClaim := { program := "ytakicnplmcemnaadoor", sum := "a7ea8734ca9a4c9b213751399c53159977b4225406268e93f63853989b96860b", func := "loop.example/siskin/laws.FnExactNumAdd", spec := "fnExactNumAdd", inPlace := ["internal/abi.NoEscape"], unfollowed := true, recurses := true, named := ["loop.example/siskin/impl.powersOfTen"], apart := false, laid := [("loop.example/siskin/impl.powersOfTen", laid_loop_example_siskin_impl_powersOfTen)] }
def FnExactNumAddSaid : Prop := fnExactNumAddRow.holds Tryd.pinned (OpenSpec.ofChange fnExactNumAddSpec)

/-- ITS FALSE NEIGHBOUR: 'it returns false'. Refute it at one input. -/
def fnExactNumAddWrong : ChangeSpec := { name := "fnExactNumAdd", vars := ["loop.example/siskin/impl.powersOfTen"], fn := fun _ => fun
  | [d1, d2, g1] => { results := [.lit (.bool false)], args := [d1, d2], vars := [g1] }
  | _ => none }
def FnExactNumAddWrongFalsely : Prop := fnExactNumAddRow.holds Tryd.pinned (OpenSpec.ofChange fnExactNumAddWrong)

/-- 'laws.FnExactNumSub': WHATEVER THE INPUT: true; the input reads as it did. -/
def fnExactNumSubSpec : ChangeSpec := { name := "fnExactNumSub", vars := ["loop.example/siskin/impl.powersOfTen"], fn := fun _ => fun
  | [d1, d2, g1] => { results := [.lit (.bool true)], args := [d1, d2], vars := [g1] }
  | _ => none }
def fnExactNumSubRow : OpenClaim := { program := "ytakicnplmcemnaadoor", sum := "a7ea8734ca9a4c9b213751399c53159977b4225406268e93f63853989b96860b", func := "loop.example/siskin/laws.FnExactNumSub", spec := "fnExactNumSub", inPlace := ["internal/abi.NoEscape"], unfollowed := true, recurses := true, named := ["loop.example/siskin/impl.powersOfTen"], apart := false, laid := [("loop.example/siskin/impl.powersOfTen", laid_loop_example_siskin_impl_powersOfTen)] }
def FnExactNumSubSaid : Prop := fnExactNumSubRow.holds Tryd.pinned (OpenSpec.ofChange fnExactNumSubSpec)

/-- ITS FALSE NEIGHBOUR: 'it returns false'. Refute it at one input. -/
def fnExactNumSubWrong : ChangeSpec := { name := "fnExactNumSub", vars := ["loop.example/siskin/impl.powersOfTen"], fn := fun _ => fun
  | [d1, d2, g1] => { results := [.lit (.bool false)], args := [d1, d2], vars := [g1] }
  | _ => none }
def FnExactNumSubWrongFalsely : Prop := fnExactNumSubRow.holds Tryd.pinned (OpenSpec.ofChange fnExactNumSubWrong)

/-- 'laws.FnExactNumMul': WHATEVER THE INPUT: true; the input reads as it did. -/
def fnExactNumMulSpec : ChangeSpec := { name := "fnExactNumMul", vars := ["loop.example/siskin/impl.powersOfTen"], fn := fun _ => fun
  | [d1, d2, g1] => { results := [.lit (.bool true)], args := [d1, d2], vars := [g1] }
  | _ => none }
def fnExactNumMulRow : OpenClaim := { program := "ytakicnplmcemnaadoor", sum := "a7ea8734ca9a4c9b213751399c53159977b4225406268e93f63853989b96860b", func := "loop.example/siskin/laws.FnExactNumMul", spec := "fnExactNumMul", inPlace := ["internal/abi.NoEscape"], unfollowed := true, recurses := true, named := ["loop.example/siskin/impl.powersOfTen"], apart := false, laid := [("loop.example/siskin/impl.powersOfTen", laid_loop_example_siskin_impl_powersOfTen)] }
def FnExactNumMulSaid : Prop := fnExactNumMulRow.holds Tryd.pinned (OpenSpec.ofChange fnExactNumMulSpec)

/-- ITS FALSE NEIGHBOUR: 'it returns false'. Refute it at one input. -/
def fnExactNumMulWrong : ChangeSpec := { name := "fnExactNumMul", vars := ["loop.example/siskin/impl.powersOfTen"], fn := fun _ => fun
  | [d1, d2, g1] => { results := [.lit (.bool false)], args := [d1, d2], vars := [g1] }
  | _ => none }
def FnExactNumMulWrongFalsely : Prop := fnExactNumMulRow.holds Tryd.pinned (OpenSpec.ofChange fnExactNumMulWrong)

/-- 'laws.FnExactNumDiv': WHATEVER THE INPUT: true; the input reads as it did. -/
def fnExactNumDivSpec : ChangeSpec := { name := "fnExactNumDiv", vars := ["loop.example/siskin/impl.powersOfTen"], fn := fun _ => fun
  | [d1, d2, g1] => { results := [.lit (.bool true)], args := [d1, d2], vars := [g1] }
  | _ => none }
def fnExactNumDivRow : OpenClaim := { program := "ytakicnplmcemnaadoor", sum := "a7ea8734ca9a4c9b213751399c53159977b4225406268e93f63853989b96860b", func := "loop.example/siskin/laws.FnExactNumDiv", spec := "fnExactNumDiv", inPlace := ["internal/abi.NoEscape"], unfollowed := true, recurses := true, named := ["loop.example/siskin/impl.powersOfTen"], apart := false, laid := [("loop.example/siskin/impl.powersOfTen", laid_loop_example_siskin_impl_powersOfTen)] }
def FnExactNumDivSaid : Prop := fnExactNumDivRow.holds Tryd.pinned (OpenSpec.ofChange fnExactNumDivSpec)

/-- ITS FALSE NEIGHBOUR: 'it returns false'. Refute it at one input. -/
def fnExactNumDivWrong : ChangeSpec := { name := "fnExactNumDiv", vars := ["loop.example/siskin/impl.powersOfTen"], fn := fun _ => fun
  | [d1, d2, g1] => { results := [.lit (.bool false)], args := [d1, d2], vars := [g1] }
  | _ => none }
def FnExactNumDivWrongFalsely : Prop := fnExactNumDivRow.holds Tryd.pinned (OpenSpec.ofChange fnExactNumDivWrong)

/- THE SECOND FORM. 'bulk': how many values and letters a reading holds, each counted each time it is reached (what is shared counts as often as it is met; a slice's spare places count too). A statement '..UptoSaid' is the law's where the arguments, and the package variables that the reading takes, are together of bulk at most 1048576: NARROWER than '..Said'. Prove '..Said' where nothing that the law and all that it calls make is longer than what came in: it says more and counts as full. Else prove '..UptoSaid'. A law counts once. -/
mutual
def uptoBulk {H : Type} : DataW H → Nat
  | .lit (.string bytes) => bytes.length + 1
  | .lit _ => 1
  | .nil => 1
  | .ptr d => uptoBulk d + 1
  | .slice elems spare => uptoBulkAll elems + uptoBulkAll spare + 1
  | .agg parts => uptoBulkAll parts + 1
  | .iface _ d => uptoBulk d + 1
  | .map entries => uptoBulkEntries entries + 1
  | .held _ => 1
def uptoBulkAll {H : Type} : List (DataW H) → Nat
  | [] => 0
  | d :: r => uptoBulk d + uptoBulkAll r
def uptoBulkEntries {H : Type} : List (Lit × DataW H) → Nat
  | [] => 0
  | x :: r => uptoBulkEntry x + uptoBulkEntries r
def uptoBulkEntry {H : Type} : Lit × DataW H → Nat
  | (.string bytes, d) => bytes.length + uptoBulk d + 1
  | (_, d) => uptoBulk d + 1
 end
def uptoSmall : (H : Type) → List (DataW H) → Bool := fun _ ds => decide (uptoBulkAll ds ≤ 1048576)
def OpenSpec.upto (s : _root_.Go.ChangeSpec) : _root_.Go.OpenSpec := { _root_.Go.OpenSpec.ofChange s with cond := some uptoSmall }

/-- 'laws.FnExactNumOk', WHERE WHAT IT READS IS OF BULK AT MOST 1048576: true; the input reads as it did. -/
def fnExactNumOkUptoRow : OpenClaim := { program := "ytakicnplmcemnaadoor", sum := "a7ea8734ca9a4c9b213751399c53159977b4225406268e93f63853989b96860b", func := "loop.example/siskin/laws.FnExactNumOk", spec := "fnExactNumOk", named := ["loop.example/siskin/impl.powersOfTen"], apart := false, laid := [("loop.example/siskin/impl.powersOfTen", laid_loop_example_siskin_impl_powersOfTen)], narrowed := true }
def FnExactNumOkUptoSaid : Prop := fnExactNumOkUptoRow.holds Tryd.pinned (OpenSpec.upto fnExactNumOkSpec)

/-- 'laws.FnExactNumInt', WHERE WHAT IT READS IS OF BULK AT MOST 1048576: true; the input reads as it did. -/
def fnExactNumIntUptoRow : OpenClaim := { program := "ytakicnplmcemnaadoor", sum := "a7ea8734ca9a4c9b213751399c53159977b4225406268e93f63853989b96860b", func := "loop.example/siskin/laws.FnExactNumInt", spec := "fnExactNumInt", inPlace := ["internal/abi.NoEscape"], recurses := true, named := ["loop.example/siskin/impl.powersOfTen"], apart := false, laid := [("loop.example/siskin/impl.powersOfTen", laid_loop_example_siskin_impl_powersOfTen)], narrowed := true }
def FnExactNumIntUptoSaid : Prop := fnExactNumIntUptoRow.holds Tryd.pinned (OpenSpec.upto fnExactNumIntSpec)

/-- 'laws.FnExactNumParse', WHERE WHAT IT READS IS OF BULK AT MOST 1048576: true; the input reads as it did. -/
def fnExactNumParseUptoRow : OpenClaim := { program := "ytakicnplmcemnaadoor", sum := "a7ea8734ca9a4c9b213751399c53159977b4225406268e93f63853989b96860b", func := "loop.example/siskin/laws.FnExactNumParse", spec := "fnExactNumParse", inPlace := ["internal/bytealg.IndexByteString", "internal/bytealg.IndexString", "internal/abi.NoEscape"], recurses := true, named := ["internal/bytealg.MaxLen", "loop.example/siskin/impl.powersOfTen"], apart := false, laid := [("loop.example/siskin/impl.powersOfTen", laid_loop_example_siskin_impl_powersOfTen)], narrowed := true }
def FnExactNumParseUptoSaid : Prop := fnExactNumParseUptoRow.holds Tryd.pinned (OpenSpec.upto fnExactNumParseSpec)

/-- 'laws.FnExactNumPrint', WHERE WHAT IT READS IS OF BULK AT MOST 1048576: true; the input reads as it did. -/
def fnExactNumPrintUptoRow : OpenClaim := { program := "ytakicnplmcemnaadoor", sum := "a7ea8734ca9a4c9b213751399c53159977b4225406268e93f63853989b96860b", func := "loop.example/siskin/laws.FnExactNumPrint", spec := "fnExactNumPrint", inPlace := ["internal/abi.NoEscape"], recurses := true, named := ["loop.example/siskin/impl.powersOfTen"], apart := false, laid := [("loop.example/siskin/impl.powersOfTen", laid_loop_example_siskin_impl_powersOfTen)], narrowed := true }
def FnExactNumPrintUptoSaid : Prop := fnExactNumPrintUptoRow.holds Tryd.pinned (OpenSpec.upto fnExactNumPrintSpec)

/-- 'laws.FnExactNumCmp', WHERE WHAT IT READS IS OF BULK AT MOST 1048576: true; the input reads as it did. -/
def fnExactNumCmpUptoRow : OpenClaim := { program := "ytakicnplmcemnaadoor", sum := "a7ea8734ca9a4c9b213751399c53159977b4225406268e93f63853989b96860b", func := "loop.example/siskin/laws.FnExactNumCmp", spec := "fnExactNumCmp", unfollowed := true, recurses := true, named := ["loop.example/siskin/impl.powersOfTen"], apart := false, laid := [("loop.example/siskin/impl.powersOfTen", laid_loop_example_siskin_impl_powersOfTen)], narrowed := true }
def FnExactNumCmpUptoSaid : Prop := fnExactNumCmpUptoRow.holds Tryd.pinned (OpenSpec.upto fnExactNumCmpSpec)

/-- 'laws.FnExactNumAdd', WHERE WHAT IT READS IS OF BULK AT MOST 1048576: true; the input reads as it did. -/
def fnExactNumAddUptoRow : OpenClaim := { program := "ytakicnplmcemnaadoor", sum := "a7ea8734ca9a4c9b213751399c53159977b4225406268e93f63853989b96860b", func := "loop.example/siskin/laws.FnExactNumAdd", spec := "fnExactNumAdd", inPlace := ["internal/abi.NoEscape"], unfollowed := true, recurses := true, named := ["loop.example/siskin/impl.powersOfTen"], apart := false, laid := [("loop.example/siskin/impl.powersOfTen", laid_loop_example_siskin_impl_powersOfTen)], narrowed := true }
def FnExactNumAddUptoSaid : Prop := fnExactNumAddUptoRow.holds Tryd.pinned (OpenSpec.upto fnExactNumAddSpec)

/-- 'laws.FnExactNumSub', WHERE WHAT IT READS IS OF BULK AT MOST 1048576: true; the input reads as it did. -/
def fnExactNumSubUptoRow : OpenClaim := { program := "ytakicnplmcemnaadoor", sum := "a7ea8734ca9a4c9b213751399c53159977b4225406268e93f63853989b96860b", func := "loop.example/siskin/laws.FnExactNumSub", spec := "fnExactNumSub", inPlace := ["internal/abi.NoEscape"], unfollowed := true, recurses := true, named := ["loop.example/siskin/impl.powersOfTen"], apart := false, laid := [("loop.example/siskin/impl.powersOfTen", laid_loop_example_siskin_impl_powersOfTen)], narrowed := true }
def FnExactNumSubUptoSaid : Prop := fnExactNumSubUptoRow.holds Tryd.pinned (OpenSpec.upto fnExactNumSubSpec)

/-- 'laws.FnExactNumMul', WHERE WHAT IT READS IS OF BULK AT MOST 1048576: true; the input reads as it did. -/
def fnExactNumMulUptoRow : OpenClaim := { program := "ytakicnplmcemnaadoor", sum := "a7ea8734ca9a4c9b213751399c53159977b4225406268e93f63853989b96860b", func := "loop.example/siskin/laws.FnExactNumMul", spec := "fnExactNumMul", inPlace := ["internal/abi.NoEscape"], unfollowed := true, recurses := true, named := ["loop.example/siskin/impl.powersOfTen"], apart := false, laid := [("loop.example/siskin/impl.powersOfTen", laid_loop_example_siskin_impl_powersOfTen)], narrowed := true }
def FnExactNumMulUptoSaid : Prop := fnExactNumMulUptoRow.holds Tryd.pinned (OpenSpec.upto fnExactNumMulSpec)

/-- 'laws.FnExactNumDiv', WHERE WHAT IT READS IS OF BULK AT MOST 1048576: true; the input reads as it did. -/
def fnExactNumDivUptoRow : OpenClaim := { program := "ytakicnplmcemnaadoor", sum := "a7ea8734ca9a4c9b213751399c53159977b4225406268e93f63853989b96860b", func := "loop.example/siskin/laws.FnExactNumDiv", spec := "fnExactNumDiv", inPlace := ["internal/abi.NoEscape"], unfollowed := true, recurses := true, named := ["loop.example/siskin/impl.powersOfTen"], apart := false, laid := [("loop.example/siskin/impl.powersOfTen", laid_loop_example_siskin_impl_powersOfTen)], narrowed := true }
def FnExactNumDivUptoSaid : Prop := fnExactNumDivUptoRow.holds Tryd.pinned (OpenSpec.upto fnExactNumDivSpec)

end Rows
end Go.Proofs.YtakicnplmcemnaaDoor
