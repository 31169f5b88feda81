/-
  NARROWER THAN 'FOR EVERY INPUT', by the rows' own cells (each row's printed sentence says how): FnExactExpShow: loops · FnExactExpFormOk: loops · FnExactExpFind: loops.
  DERIVED. THE GIVEN ROWS OF THIS SEAT. 3 by the template 'for every input the law returns true; each argument reads behind the call as it read before'; 0 by the template 'total and deterministic' (their statements: YtoefpcegekfggaaTotals.lean).
  GIVEN WITH THE SEED: the statements are not yours to turn. If you find one false, say at which input.
  Laid BY PROGRAM, IN A SANDBOX (cutbox-rows.mjs): the forced cells as the released guide's own fill.sh prints them over the translation 81c39c7a6dceab0a… (all of the seat's roots in one cut). By AI agents, Wed Nov 11 2026. No macro, syntax, notation, axiom, sorry.
-/
import Derived.Test.YtoefpcegekfggaaChecked
import GoSem.Claim
import GoSem.ClaimJoined
import GoSem.ClaimMapViews
import Derived.JoinedTies
import Derived.KernelRfl
namespace Go.Proofs.Ytoefpcegekfggaa
/- THE CELL 'sum', in the pinned program and in every row, IS THE sha256 OF THE DUMP (.gsa) THAT YtoefpcegekfggaaProg.lean LOADS. Nothing in Lean hashes anything: it is a label: what it is worth is what the hold of that sum in a sandbox is worth. -/
noncomputable def Try.pinned : Pinned := { name := "ytoefpcegekfggaa", sum := "81c39c7a6dceab0aac69883f1aa0bb960c2da3ba1d912aaef9cac1ca532d80d3", checked := Try.checked }
namespace Rows
def none {H : Type} : Left H := { results := [], args := [] }

/-- 'laws.FnExactExpShow': WHATEVER THE INPUT: true; the input reads as it did. -/
def fnExactExpShowSpec : ChangeSpec := { name := "fnExactExpShow", fn := fun _ => fun
  | [d] => { results := [.lit (.bool true)], args := [d] }
  | _ => none }
def fnExactExpShowRow : OpenClaim := { program := "ytoefpcegekfggaa", sum := "81c39c7a6dceab0aac69883f1aa0bb960c2da3ba1d912aaef9cac1ca532d80d3", func := "loop.example/siskin/laws.FnExactExpShow", spec := "fnExactExpShow", inPlace := ["internal/bytealg.IndexByteString", "internal/bytealg.IndexString"], unfollowed := true, recurses := true, named := ["internal/bytealg.MaxLen"], loops := true, apart := false }
def FnExactExpShowSaid : Prop := fnExactExpShowRow.holds Try.pinned (OpenSpec.ofChange fnExactExpShowSpec)

/-- ITS FALSE NEIGHBOUR: 'it returns false'. Refute it at one input. -/
def fnExactExpShowWrong : ChangeSpec := { name := "fnExactExpShow", fn := fun _ => fun
  | [d] => { results := [.lit (.bool false)], args := [d] }
  | _ => none }
def FnExactExpShowWrongFalsely : Prop := fnExactExpShowRow.holds Try.pinned (OpenSpec.ofChange fnExactExpShowWrong)

/-- 'laws.FnExactExpFormOk': WHATEVER THE INPUT: true; the input reads as it did. -/
def fnExactExpFormOkSpec : ChangeSpec := { name := "fnExactExpFormOk", fn := fun _ => fun
  | [d] => { results := [.lit (.bool true)], args := [d] }
  | _ => none }
def fnExactExpFormOkRow : OpenClaim := { program := "ytoefpcegekfggaa", sum := "81c39c7a6dceab0aac69883f1aa0bb960c2da3ba1d912aaef9cac1ca532d80d3", func := "loop.example/siskin/laws.FnExactExpFormOk", spec := "fnExactExpFormOk", inPlace := ["internal/bytealg.IndexByteString", "internal/bytealg.IndexString"], recurses := true, named := ["internal/bytealg.MaxLen"], loops := true, apart := false }
def FnExactExpFormOkSaid : Prop := fnExactExpFormOkRow.holds Try.pinned (OpenSpec.ofChange fnExactExpFormOkSpec)

/-- ITS FALSE NEIGHBOUR: 'it returns false'. Refute it at one input. -/
def fnExactExpFormOkWrong : ChangeSpec := { name := "fnExactExpFormOk", fn := fun _ => fun
  | [d] => { results := [.lit (.bool false)], args := [d] }
  | _ => none }
def FnExactExpFormOkWrongFalsely : Prop := fnExactExpFormOkRow.holds Try.pinned (OpenSpec.ofChange fnExactExpFormOkWrong)

/-- 'laws.FnExactExpFind': WHATEVER THE INPUT: true; the input reads as it did. -/
def fnExactExpFindSpec : ChangeSpec := { name := "fnExactExpFind", fn := fun _ => fun
  | [d1, d2] => { results := [.lit (.bool true)], args := [d1, d2] }
  | _ => none }
def fnExactExpFindRow : OpenClaim := { program := "ytoefpcegekfggaa", sum := "81c39c7a6dceab0aac69883f1aa0bb960c2da3ba1d912aaef9cac1ca532d80d3", func := "loop.example/siskin/laws.FnExactExpFind", spec := "fnExactExpFind", recurses := true, loops := true, apart := false }
def FnExactExpFindSaid : Prop := fnExactExpFindRow.holds Try.pinned (OpenSpec.ofChange fnExactExpFindSpec)

/-- ITS FALSE NEIGHBOUR: 'it returns false'. Refute it at one input. -/
def fnExactExpFindWrong : ChangeSpec := { name := "fnExactExpFind", fn := fun _ => fun
  | [d1, d2] => { results := [.lit (.bool false)], args := [d1, d2] }
  | _ => none }
def FnExactExpFindWrongFalsely : Prop := fnExactExpFindRow.holds Try.pinned (OpenSpec.ofChange fnExactExpFindWrong)

/- THE SECOND FORM. 'bulk': how many values and letters a reading holds, each counted each time it is reached (what is shared counts as often as it is met; a slice's spare places count too). A statement '..UptoSaid' is the law's where the arguments, and the package variables that the reading takes, are together of bulk at most 1048576: NARROWER than '..Said'. Prove '..Said' where nothing that the law and all that it calls make is longer than what came in: it says more and counts as full. Else prove '..UptoSaid'. A law counts once. -/
mutual
def uptoBulk {H : Type} : DataW H → Nat
  | .lit (.string bytes) => bytes.length + 1
  | .lit _ => 1
  | .nil => 1
  | .ptr d => uptoBulk d + 1
  | .slice elems spare => uptoBulkAll elems + uptoBulkAll spare + 1
  | .agg parts => uptoBulkAll parts + 1
  | .iface _ d => uptoBulk d + 1
  | .map entries => uptoBulkEntries entries + 1
  | .held _ => 1
def uptoBulkAll {H : Type} : List (DataW H) → Nat
  | [] => 0
  | d :: r => uptoBulk d + uptoBulkAll r
def uptoBulkEntries {H : Type} : List (Lit × DataW H) → Nat
  | [] => 0
  | x :: r => uptoBulkEntry x + uptoBulkEntries r
def uptoBulkEntry {H : Type} : Lit × DataW H → Nat
  | (.string bytes, d) => bytes.length + uptoBulk d + 1
  | (_, d) => uptoBulk d + 1
 end
def uptoSmall : (H : Type) → List (DataW H) → Bool := fun _ ds => decide (uptoBulkAll ds ≤ 1048576)
def OpenSpec.upto (s : _root_.Go.ChangeSpec) : _root_.Go.OpenSpec := { _root_.Go.OpenSpec.ofChange s with cond := some uptoSmall }

/-- 'laws.FnExactExpShow', WHERE WHAT IT READS IS OF BULK AT MOST 1048576: true; the input reads as it did. -/
def fnExactExpShowUptoRow : OpenClaim := { program := "ytoefpcegekfggaa", sum := "81c39c7a6dceab0aac69883f1aa0bb960c2da3ba1d912aaef9cac1ca532d80d3", func := "loop.example/siskin/laws.FnExactExpShow", spec := "fnExactExpShow", inPlace := ["internal/bytealg.IndexByteString", "internal/bytealg.IndexString"], unfollowed := true, recurses := true, named := ["internal/bytealg.MaxLen"], loops := true, apart := false, narrowed := true }
def FnExactExpShowUptoSaid : Prop := fnExactExpShowUptoRow.holds Try.pinned (OpenSpec.upto fnExactExpShowSpec)

/-- 'laws.FnExactExpFormOk', WHERE WHAT IT READS IS OF BULK AT MOST 1048576: true; the input reads as it did. -/
def fnExactExpFormOkUptoRow : OpenClaim := { program := "ytoefpcegekfggaa", sum := "81c39c7a6dceab0aac69883f1aa0bb960c2da3ba1d912aaef9cac1ca532d80d3", func := "loop.example/siskin/laws.FnExactExpFormOk", spec := "fnExactExpFormOk", inPlace := ["internal/bytealg.IndexByteString", "internal/bytealg.IndexString"], recurses := true, named := ["internal/bytealg.MaxLen"], loops := true, apart := false, narrowed := true }
def FnExactExpFormOkUptoSaid : Prop := fnExactExpFormOkUptoRow.holds Try.pinned (OpenSpec.upto fnExactExpFormOkSpec)

/-- 'laws.FnExactExpFind', WHERE WHAT IT READS IS OF BULK AT MOST 1048576: true; the input reads as it did. -/
def fnExactExpFindUptoRow : OpenClaim := { program := "ytoefpcegekfggaa", sum := "81c39c7a6dceab0aac69883f1aa0bb960c2da3ba1d912aaef9cac1ca532d80d3", func := "loop.example/siskin/laws.FnExactExpFind", spec := "fnExactExpFind", recurses := true, loops := true, apart := false, narrowed := true }
def FnExactExpFindUptoSaid : Prop := fnExactExpFindUptoRow.holds Try.pinned (OpenSpec.upto fnExactExpFindSpec)

end Rows
end Go.Proofs.Ytoefpcegekfggaa
