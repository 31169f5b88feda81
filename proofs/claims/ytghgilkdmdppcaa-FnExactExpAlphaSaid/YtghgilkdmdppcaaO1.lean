/-
  A form that comes in as an argument, read as data, lies in memory as a tree.
-/
import Derived.Test.YtghgilkdmdppcaaMem
import Derived.Test.YtghgilkdmdppcaaProg
import Derived.ProofKit
import Derived.OpenShut
import Derived.Deep.Slices
namespace Go.Proofs.Ytghgilkdmdppcaa
open Go.ChangeShapes Go.WideShapes Go.ChangeAt Go.RowKit Go.Siskin

theorem Try.cellsInt : Try.prog.cellsOf 3 = 1 := by kernel_rfl
theorem Try.cellsStr : Try.prog.cellsOf 9 = 1 := by kernel_rfl
theorem Try.cellsInts : Try.prog.cellsOf 68 = 1 := by kernel_rfl
theorem list5 {α : Type} {cs : List α} (h : cs.length = 5) : ∃ c0 c1 c2 c3 c4, cs = [c0, c1, c2, c3, c4] := by
  match cs, h with
  | [c0, c1, c2, c3, c4], _ => exact ⟨c0, c1, c2, c3, c4, rfl⟩
theorem array5 {α : Type} {cs : Array α} (h : cs.size = 5) : ∃ c0 c1 c2 c3 c4, cs = #[c0, c1, c2, c3, c4] := by
  obtain ⟨l⟩ := cs
  obtain ⟨c0, c1, c2, c3, c4, e⟩ := list5 (cs := l) h
  exact ⟨c0, c1, c2, c3, c4, by rw [e]⟩

section
variable {H : Type} {enc : TypeId × Value → H} {W : World} {spare : Nat → Bool} {held : Bool}

/-- A cell that is there lies in a block that is there. -/
theorem cell_lt {a : Addr} {v : Value} (h : W.cell? a = some v) : a.block < W.heap.size := by
  unfold World.cell? at h
  cases e : W.heap[a.block]? with
  | none => rw [e] at h; simp at h
  | some o => exact (Array.getElem?_eq_some_iff.1 e).1

theorem ints_of {fuel : Nat} {v : Value} {x : DataW H × List MemPlace} (h : DataW.trod enc Try.prog W 0 spare held fuel 68 [v] = some x) : ∃ xs : List Int, IntsAt (fun b => b < W.heap.size) W v xs := by
  rcases open_ints Try.underlying68 Try.underlying3 Try.cellsInt h with ⟨hcs, _⟩ | ⟨a, len, cap, zs, hcs, _, hl, hm, hz, _, hcell, _⟩
  · simp only [List.cons.injEq, and_true] at hcs
    exact ⟨[], none, 0, hcs, ⟨Nat.zero_le _, Nat.le_refl _⟩, Or.inl rfl⟩
  · simp only [List.cons.injEq, and_true] at hcs
    have hlen : len ≤ zs.length := by rw [hz]; split <;> omega
    have hl2 : (zs.take len).length = len := by rw [List.length_take]; omega
    refine ⟨zs.take len, some a, cap, by rw [hl2]; exact hcs, ⟨by rw [hl2]; omega, by rw [hl2]; omega⟩, ?_⟩
    by_cases h0 : len = 0
    · left; subst h0; simp
    · right
      obtain ⟨b, o, rfl, hc⟩ := ints_at hcell (by omega)
      refine ⟨b, o, rfl, ?_, fun i hi => ?_⟩
      · exact cell_lt (hc 0 (by omega))
      · rw [hl2] at hi
        rw [hc i (by omega)]
        simp [List.getD_eq_getElem?_getD, hi]

theorem cells5 {a : Addr} {k0 k1 k2 k3 k4 : Value} (h : W.cells? 0 a 5 = some [k0, k1, k2, k3, k4]) : W.cell? (a.add 0) = some k0 ∧ W.cell? (a.add 1) = some k1 ∧ W.cell? (a.add 2) = some k2 ∧ W.cell? (a.add 3) = some k3 ∧ W.cell? (a.add 4) = some k4 := by
  unfold World.cells? at h
  rw [if_pos (Nat.zero_le _), show List.range 5 = [0, 1, 2, 3, 4] from rfl] at h
  have g := mapM_some_get h
  have e0 := g 0 0 rfl
  have e1 := g 1 1 rfl
  have e2 := g 2 2 rfl
  have e3 := g 3 3 rfl
  have e4 := g 4 4 rfl
  exact ⟨e0, e1, e2, e3, e4⟩

end
end Go.Proofs.Ytghgilkdmdppcaa
