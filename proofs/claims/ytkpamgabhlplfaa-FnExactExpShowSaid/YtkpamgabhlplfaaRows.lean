/-
  NARROWER THAN 'FOR EVERY INPUT', by the rows' own cells (each row's printed sentence says how): FnExactExpShow: loops · FnExactExpFind: loops · FnExactExpCoreShow: loops · FnExactExpFormOk: loops.
  DERIVED. THE GIVEN ROWS OF THIS SEAT. 4 by the template 'for every input the law returns true; each argument reads behind the call as it read before'; 0 by the template 'total and deterministic' (their statements: YtkpamgabhlplfaaTotals.lean).
  GIVEN WITH THE SEED: the statements are not yours to turn. If you find one false, say at which input.
  Laid BY PROGRAM, IN A SANDBOX (cutbox-rows.mjs): the forced cells as the released guide's own fill.sh prints them over the translation 1453218d82486cb4… (all of the seat's roots in one cut). By AI agents, Wed Nov 11 2026. No macro, syntax, notation, axiom, sorry.
-/
import Derived.Test.YtkpamgabhlplfaaChecked
import GoSem.Claim
import GoSem.ClaimJoined
import GoSem.ClaimMapViews
import Derived.JoinedTies
import Derived.KernelRfl
namespace Go.Proofs.Ytkpamgabhlplfaa
/- THE CELL 'sum', in the pinned program and in every row, IS THE sha256 OF THE DUMP (.gsa) THAT YtkpamgabhlplfaaProg.lean LOADS. Nothing in Lean hashes anything: it is a label: what it is worth is what the hold of that sum in a sandbox is worth. -/
noncomputable def Try.pinned : Pinned := { name := "ytkpamgabhlplfaa", sum := "1453218d82486cb4f425da6a5ad7987503964e33695227b4b485762d4878be12", checked := Try.checked }
namespace Rows
def none {H : Type} : Left H := { results := [], args := [] }

/-- 'laws.FnExactExpShow': WHATEVER THE INPUT: true; the input reads as it did. -/
def fnExactExpShowSpec : ChangeSpec := { name := "fnExactExpShow", fn := fun _ => fun
  | [d] => { results := [.lit (.bool true)], args := [d] }
  | _ => none }
def fnExactExpShowRow : OpenClaim := { program := "ytkpamgabhlplfaa", sum := "1453218d82486cb4f425da6a5ad7987503964e33695227b4b485762d4878be12", func := "loop.example/siskin/laws.FnExactExpShow", spec := "fnExactExpShow", inPlace := ["internal/bytealg.IndexByteString", "internal/bytealg.IndexString"], unfollowed := true, recurses := true, named := ["internal/bytealg.MaxLen"], loops := true, plainKeys := false, apart := false }
def FnExactExpShowSaid : Prop := fnExactExpShowRow.holds Try.pinned (OpenSpec.ofChange fnExactExpShowSpec)

/-- ITS FALSE NEIGHBOUR: 'it returns false'. Refute it at one input. -/
def fnExactExpShowWrong : ChangeSpec := { name := "fnExactExpShow", fn := fun _ => fun
  | [d] => { results := [.lit (.bool false)], args := [d] }
  | _ => none }
def FnExactExpShowWrongFalsely : Prop := fnExactExpShowRow.holds Try.pinned (OpenSpec.ofChange fnExactExpShowWrong)

/-- 'laws.FnExactExpFind': WHATEVER THE INPUT: true; the input reads as it did. -/
def fnExactExpFindSpec : ChangeSpec := { name := "fnExactExpFind", fn := fun _ => fun
  | [d1, d2] => { results := [.lit (.bool true)], args := [d1, d2] }
  | _ => none }
def fnExactExpFindRow : OpenClaim := { program := "ytkpamgabhlplfaa", sum := "1453218d82486cb4f425da6a5ad7987503964e33695227b4b485762d4878be12", func := "loop.example/siskin/laws.FnExactExpFind", spec := "fnExactExpFind", recurses := true, loops := true, plainKeys := false, apart := false }
def FnExactExpFindSaid : Prop := fnExactExpFindRow.holds Try.pinned (OpenSpec.ofChange fnExactExpFindSpec)

/-- ITS FALSE NEIGHBOUR: 'it returns false'. Refute it at one input. -/
def fnExactExpFindWrong : ChangeSpec := { name := "fnExactExpFind", fn := fun _ => fun
  | [d1, d2] => { results := [.lit (.bool false)], args := [d1, d2] }
  | _ => none }
def FnExactExpFindWrongFalsely : Prop := fnExactExpFindRow.holds Try.pinned (OpenSpec.ofChange fnExactExpFindWrong)

/-- 'laws.FnExactExpCoreShow': WHATEVER THE INPUT: true; the input reads as it did. -/
def fnExactExpCoreShowSpec : ChangeSpec := { name := "fnExactExpCoreShow", fn := fun _ => fun
  | [d] => { results := [.lit (.bool true)], args := [d] }
  | _ => none }
def fnExactExpCoreShowRow : OpenClaim := { program := "ytkpamgabhlplfaa", sum := "1453218d82486cb4f425da6a5ad7987503964e33695227b4b485762d4878be12", func := "loop.example/siskin/laws.FnExactExpCoreShow", spec := "fnExactExpCoreShow", inPlace := ["internal/abi.NoEscape"], unfollowed := true, recurses := true, loops := true, plainKeys := false, apart := false }
def FnExactExpCoreShowSaid : Prop := fnExactExpCoreShowRow.holds Try.pinned (OpenSpec.ofChange fnExactExpCoreShowSpec)

/-- ITS FALSE NEIGHBOUR: 'it returns false'. Refute it at one input. -/
def fnExactExpCoreShowWrong : ChangeSpec := { name := "fnExactExpCoreShow", fn := fun _ => fun
  | [d] => { results := [.lit (.bool false)], args := [d] }
  | _ => none }
def FnExactExpCoreShowWrongFalsely : Prop := fnExactExpCoreShowRow.holds Try.pinned (OpenSpec.ofChange fnExactExpCoreShowWrong)

/-- 'laws.FnExactExpFormOk': WHATEVER THE INPUT: true; the input reads as it did. -/
def fnExactExpFormOkSpec : ChangeSpec := { name := "fnExactExpFormOk", fn := fun _ => fun
  | [d] => { results := [.lit (.bool true)], args := [d] }
  | _ => none }
def fnExactExpFormOkRow : OpenClaim := { program := "ytkpamgabhlplfaa", sum := "1453218d82486cb4f425da6a5ad7987503964e33695227b4b485762d4878be12", func := "loop.example/siskin/laws.FnExactExpFormOk", spec := "fnExactExpFormOk", inPlace := ["internal/bytealg.IndexByteString", "internal/bytealg.IndexString"], recurses := true, named := ["internal/bytealg.MaxLen"], loops := true, plainKeys := false, apart := false }
def FnExactExpFormOkSaid : Prop := fnExactExpFormOkRow.holds Try.pinned (OpenSpec.ofChange fnExactExpFormOkSpec)

/-- ITS FALSE NEIGHBOUR: 'it returns false'. Refute it at one input. -/
def fnExactExpFormOkWrong : ChangeSpec := { name := "fnExactExpFormOk", fn := fun _ => fun
  | [d] => { results := [.lit (.bool false)], args := [d] }
  | _ => none }
def FnExactExpFormOkWrongFalsely : Prop := fnExactExpFormOkRow.holds Try.pinned (OpenSpec.ofChange fnExactExpFormOkWrong)

/- THE SECOND FORM. 'bulk': how many values and letters a reading holds, each counted each time it is reached (what is shared counts as often as it is met; a slice's spare places count too). A statement '..UptoSaid' is the law's where the arguments, and the package variables that the reading takes, are together of bulk at most 1048576: NARROWER than '..Said'. Prove '..Said' where nothing that the law and all that it calls make is longer than what came in: it says more and counts as full. Else prove '..UptoSaid'. A law counts once. -/
mutual
def uptoBulk {H : Type} : DataW H → Nat
  | .lit (.string bytes) => bytes.length + 1
  | .lit _ => 1
  | .nil => 1
  | .ptr d => uptoBulk d + 1
  | .slice elems spare => uptoBulkAll elems + uptoBulkAll spare + 1
  | .agg parts => uptoBulkAll parts + 1
  | .iface _ d => uptoBulk d + 1
  | .map entries => uptoBulkEntries entries + 1
  | .held _ => 1
def uptoBulkAll {H : Type} : List (DataW H) → Nat
  | [] => 0
  | d :: r => uptoBulk d + uptoBulkAll r
def uptoBulkEntries {H : Type} : List (Lit × DataW H) → Nat
  | [] => 0
  | x :: r => uptoBulkEntry x + uptoBulkEntries r
def uptoBulkEntry {H : Type} : Lit × DataW H → Nat
  | (.string bytes, d) => bytes.length + uptoBulk d + 1
  | (_, d) => uptoBulk d + 1
 end
def uptoSmall : (H : Type) → List (DataW H) → Bool := fun _ ds => decide (uptoBulkAll ds ≤ 1048576)
def OpenSpec.upto (s : _root_.Go.ChangeSpec) : _root_.Go.OpenSpec := { _root_.Go.OpenSpec.ofChange s with cond := some uptoSmall }

/-- 'laws.FnExactExpShow', WHERE WHAT IT READS IS OF BULK AT MOST 1048576: true; the input reads as it did. -/
def fnExactExpShowUptoRow : OpenClaim := { program := "ytkpamgabhlplfaa", sum := "1453218d82486cb4f425da6a5ad7987503964e33695227b4b485762d4878be12", func := "loop.example/siskin/laws.FnExactExpShow", spec := "fnExactExpShow", inPlace := ["internal/bytealg.IndexByteString", "internal/bytealg.IndexString"], unfollowed := true, recurses := true, named := ["internal/bytealg.MaxLen"], loops := true, plainKeys := false, apart := false, narrowed := true }
def FnExactExpShowUptoSaid : Prop := fnExactExpShowUptoRow.holds Try.pinned (OpenSpec.upto fnExactExpShowSpec)

/-- 'laws.FnExactExpFind', WHERE WHAT IT READS IS OF BULK AT MOST 1048576: true; the input reads as it did. -/
def fnExactExpFindUptoRow : OpenClaim := { program := "ytkpamgabhlplfaa", sum := "1453218d82486cb4f425da6a5ad7987503964e33695227b4b485762d4878be12", func := "loop.example/siskin/laws.FnExactExpFind", spec := "fnExactExpFind", recurses := true, loops := true, plainKeys := false, apart := false, narrowed := true }
def FnExactExpFindUptoSaid : Prop := fnExactExpFindUptoRow.holds Try.pinned (OpenSpec.upto fnExactExpFindSpec)

/-- 'laws.FnExactExpCoreShow', WHERE WHAT IT READS IS OF BULK AT MOST 1048576: true; the input reads as it did. -/
def fnExactExpCoreShowUptoRow : OpenClaim := { program := "ytkpamgabhlplfaa", sum := "1453218d82486cb4f425da6a5ad7987503964e33695227b4b485762d4878be12", func := "loop.example/siskin/laws.FnExactExpCoreShow", spec := "fnExactExpCoreShow", inPlace := ["internal/abi.NoEscape"], unfollowed := true, recurses := true, loops := true, plainKeys := false, apart := false, narrowed := true }
def FnExactExpCoreShowUptoSaid : Prop := fnExactExpCoreShowUptoRow.holds Try.pinned (OpenSpec.upto fnExactExpCoreShowSpec)

/-- 'laws.FnExactExpFormOk', WHERE WHAT IT READS IS OF BULK AT MOST 1048576: true; the input reads as it did. -/
def fnExactExpFormOkUptoRow : OpenClaim := { program := "ytkpamgabhlplfaa", sum := "1453218d82486cb4f425da6a5ad7987503964e33695227b4b485762d4878be12", func := "loop.example/siskin/laws.FnExactExpFormOk", spec := "fnExactExpFormOk", inPlace := ["internal/bytealg.IndexByteString", "internal/bytealg.IndexString"], recurses := true, named := ["internal/bytealg.MaxLen"], loops := true, plainKeys := false, apart := false, narrowed := true }
def FnExactExpFormOkUptoSaid : Prop := fnExactExpFormOkUptoRow.holds Try.pinned (OpenSpec.upto fnExactExpFormOkSpec)

end Rows
end Go.Proofs.Ytkpamgabhlplfaa
