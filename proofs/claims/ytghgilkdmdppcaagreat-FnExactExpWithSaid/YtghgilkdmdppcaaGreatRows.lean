/-
  NARROWER THAN 'FOR EVERY INPUT', by the rows' own cells (each row's printed sentence says how): FnExactExpWith: loops · FnExactExpFlip: loops.
  DERIVED. THE GIVEN ROWS OF THIS SEAT. 2 by the template 'for every input the law returns true; each argument reads behind the call as it read before'; 0 by the template 'total and deterministic' (their statements: YtghgilkdmdppcaaGreatTotals.lean).
  GIVEN WITH THE SEED: the statements are not yours to turn. If you find one false, say at which input.
  Laid BY PROGRAM, IN A SANDBOX (cutbox-rows.mjs): the forced cells as the released guide's own fill.sh prints them over the translation 75d5e9192fcbd39d… (all of the seat's roots in one cut). By AI agents, Wed Nov 11 2026. No macro, syntax, notation, axiom, sorry.
-/
import Derived.Test.YtghgilkdmdppcaaGreatChecked
import GoSem.Claim
import GoSem.ClaimJoined
import GoSem.ClaimMapViews
import Derived.JoinedTies
import Derived.KernelRfl
namespace Go.Proofs.YtghgilkdmdppcaaGreat
/- THE CELL 'sum', in the pinned program and in every row, IS THE sha256 OF THE DUMP (.gsa) THAT YtghgilkdmdppcaaGreatProg.lean LOADS. Nothing in Lean hashes anything: it is a label: what it is worth is what the hold of that sum in a sandbox is worth. -/
noncomputable def Tryz.pinned : Pinned := { name := "ytghgilkdmdppcaagreat", sum := "75d5e9192fcbd39d5f415776db913a61f0580f878ae6644482da0f1de77d5660", checked := Tryz.checked }
namespace Rows
def none {H : Type} : Left H := { results := [], args := [] }

/-- 'laws.FnExactExpWith': WHATEVER THE INPUT: true; the input reads as it did. -/
def fnExactExpWithSpec : ChangeSpec := { name := "fnExactExpWith", fn := fun _ => fun
  | [d1, d2] => { results := [.lit (.bool true)], args := [d1, d2] }
  | _ => none }
def fnExactExpWithRow : OpenClaim := { program := "ytghgilkdmdppcaagreat", sum := "75d5e9192fcbd39d5f415776db913a61f0580f878ae6644482da0f1de77d5660", func := "loop.example/siskin/laws.FnExactExpWith", spec := "fnExactExpWith", inPlace := ["internal/bytealg.IndexByteString", "internal/bytealg.IndexString"], unfollowed := true, recurses := true, named := ["internal/bytealg.MaxLen"], loops := true, apart := false }
def FnExactExpWithSaid : Prop := fnExactExpWithRow.holds Tryz.pinned (OpenSpec.ofChange fnExactExpWithSpec)

/-- ITS FALSE NEIGHBOUR: 'it returns false'. Refute it at one input. -/
def fnExactExpWithWrong : ChangeSpec := { name := "fnExactExpWith", fn := fun _ => fun
  | [d1, d2] => { results := [.lit (.bool false)], args := [d1, d2] }
  | _ => none }
def FnExactExpWithWrongFalsely : Prop := fnExactExpWithRow.holds Tryz.pinned (OpenSpec.ofChange fnExactExpWithWrong)

/-- 'laws.FnExactExpFlip': WHATEVER THE INPUT: true; the input reads as it did. -/
def fnExactExpFlipSpec : ChangeSpec := { name := "fnExactExpFlip", fn := fun _ => fun
  | [d1, d2] => { results := [.lit (.bool true)], args := [d1, d2] }
  | _ => none }
def fnExactExpFlipRow : OpenClaim := { program := "ytghgilkdmdppcaagreat", sum := "75d5e9192fcbd39d5f415776db913a61f0580f878ae6644482da0f1de77d5660", func := "loop.example/siskin/laws.FnExactExpFlip", spec := "fnExactExpFlip", inPlace := ["internal/bytealg.IndexByteString", "internal/bytealg.IndexString"], unfollowed := true, recurses := true, named := ["internal/bytealg.MaxLen"], loops := true, apart := false }
def FnExactExpFlipSaid : Prop := fnExactExpFlipRow.holds Tryz.pinned (OpenSpec.ofChange fnExactExpFlipSpec)

/-- ITS FALSE NEIGHBOUR: 'it returns false'. Refute it at one input. -/
def fnExactExpFlipWrong : ChangeSpec := { name := "fnExactExpFlip", fn := fun _ => fun
  | [d1, d2] => { results := [.lit (.bool false)], args := [d1, d2] }
  | _ => none }
def FnExactExpFlipWrongFalsely : Prop := fnExactExpFlipRow.holds Tryz.pinned (OpenSpec.ofChange fnExactExpFlipWrong)

/- THE SECOND FORM. 'bulk': how many values and letters a reading holds, each counted each time it is reached (what is shared counts as often as it is met; a slice's spare places count too). A statement '..UptoSaid' is the law's where the arguments, and the package variables that the reading takes, are together of bulk at most 1048576: NARROWER than '..Said'. Prove '..Said' where nothing that the law and all that it calls make is longer than what came in: it says more and counts as full. Else prove '..UptoSaid'. A law counts once. -/
mutual
def uptoBulk {H : Type} : DataW H → Nat
  | .lit (.string bytes) => bytes.length + 1
  | .lit _ => 1
  | .nil => 1
  | .ptr d => uptoBulk d + 1
  | .slice elems spare => uptoBulkAll elems + uptoBulkAll spare + 1
  | .agg parts => uptoBulkAll parts + 1
  | .iface _ d => uptoBulk d + 1
  | .map entries => uptoBulkEntries entries + 1
  | .held _ => 1
def uptoBulkAll {H : Type} : List (DataW H) → Nat
  | [] => 0
  | d :: r => uptoBulk d + uptoBulkAll r
def uptoBulkEntries {H : Type} : List (Lit × DataW H) → Nat
  | [] => 0
  | x :: r => uptoBulkEntry x + uptoBulkEntries r
def uptoBulkEntry {H : Type} : Lit × DataW H → Nat
  | (.string bytes, d) => bytes.length + uptoBulk d + 1
  | (_, d) => uptoBulk d + 1
 end
def uptoSmall : (H : Type) → List (DataW H) → Bool := fun _ ds => decide (uptoBulkAll ds ≤ 1048576)
def OpenSpec.upto (s : _root_.Go.ChangeSpec) : _root_.Go.OpenSpec := { _root_.Go.OpenSpec.ofChange s with cond := some uptoSmall }

/-- 'laws.FnExactExpWith', WHERE WHAT IT READS IS OF BULK AT MOST 1048576: true; the input reads as it did. -/
def fnExactExpWithUptoRow : OpenClaim := { program := "ytghgilkdmdppcaagreat", sum := "75d5e9192fcbd39d5f415776db913a61f0580f878ae6644482da0f1de77d5660", func := "loop.example/siskin/laws.FnExactExpWith", spec := "fnExactExpWith", inPlace := ["internal/bytealg.IndexByteString", "internal/bytealg.IndexString"], unfollowed := true, recurses := true, named := ["internal/bytealg.MaxLen"], loops := true, apart := false, narrowed := true }
def FnExactExpWithUptoSaid : Prop := fnExactExpWithUptoRow.holds Tryz.pinned (OpenSpec.upto fnExactExpWithSpec)

/-- 'laws.FnExactExpFlip', WHERE WHAT IT READS IS OF BULK AT MOST 1048576: true; the input reads as it did. -/
def fnExactExpFlipUptoRow : OpenClaim := { program := "ytghgilkdmdppcaagreat", sum := "75d5e9192fcbd39d5f415776db913a61f0580f878ae6644482da0f1de77d5660", func := "loop.example/siskin/laws.FnExactExpFlip", spec := "fnExactExpFlip", inPlace := ["internal/bytealg.IndexByteString", "internal/bytealg.IndexString"], unfollowed := true, recurses := true, named := ["internal/bytealg.MaxLen"], loops := true, apart := false, narrowed := true }
def FnExactExpFlipUptoSaid : Prop := fnExactExpFlipUptoRow.holds Tryz.pinned (OpenSpec.upto fnExactExpFlipSpec)

end Rows
end Go.Proofs.YtghgilkdmdppcaaGreat
