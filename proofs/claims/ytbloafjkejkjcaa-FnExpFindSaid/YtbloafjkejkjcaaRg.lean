/- Blocks that were there, and those that are new. No program is named. -/
import Derived.Test.YtbloafjkejkjcaaMem
namespace Go.Siskin
def Reg (B : Nat → Prop) (w w' : World) (b : Nat) : Prop := B b ∨ (w.heap.size ≤ b ∧ b < w'.heap.size)
end Go.Siskin
