/-
  The law's szIntS and eqIntS over slices of ints return what their plain functions say. Condition: the slices lie in memory as IntsAt says.
  Blocks that were there, and those that are new. No program is named.
-/
import Derived.Test.YtbbffhpppacihaaDoorPart23
import Derived.Test.YtbbffhpppacihaaDoorPart1
import Derived.Deep.QuietTactic
import Derived.BigQuiet
import Derived.Deep.Draws
namespace Go.Proofs.YtbbffhpppacihaaDoor
open Go.RowKit Go.Siskin

def szI (n : Nat) (left : Int) : Int := if left - n < 0 then -1 else left - n

theorem eq_bad (xs ys : List Int) (k : Nat) (h : k < xs.length) (h2 : k < ys.length) (hx : (xs[k] != ys[k]) = true) : (xs == ys) = false := by
  rw [beq_eq_false_iff_ne]
  intro e; subst e; simp at hx
theorem eq_step (xs ys : List Int) (k : Nat) (h : k < xs.length) (h2 : k < ys.length) (he : xs.take k = ys.take k) (hx : (xs[k] != ys[k]) = false) : xs.take (k + 1) = ys.take (k + 1) := by
  rw [List.take_succ_eq_append_getElem h, List.take_succ_eq_append_getElem h2, he]
  simp at hx; rw [hx]
theorem eq_end (xs ys : List Int) (k : Nat) (h : ¬ k < xs.length) (hn : xs.length = ys.length) (he : xs.take k = ys.take k) : (xs == ys) = true := by
  rw [List.take_of_length_le (by omega), List.take_of_length_le (by omega)] at he
  subst he; simp

/-- ascending up to place k, by index -/
def AscTo (xs : List Int) (k : Nat) : Prop := ∀ i, i + 1 < k → (xs.getD i 0) < (xs.getD (i + 1) 0)
def NonTo (xs : List Int) (k : Nat) : Prop := ∀ i, i < k → 0 ≤ xs.getD i 0

theorem asc_iff : ∀ xs : List Int, ascB xs = true ↔ AscTo xs xs.length
  | [] => by simp [ascB, AscTo]
  | [a] => by simp [ascB, AscTo]
  | a :: b :: r => by
    have ih := asc_iff (b :: r)
    unfold ascB
    rw [Bool.and_eq_true, ih, decide_eq_true_eq]
    constructor
    · rintro ⟨h1, h2⟩ i hi
      cases i with
      | zero => simpa using h1
      | succ i => have := h2 i (by simp at hi ⊢; omega); simpa using this
    · intro h
      refine ⟨by simpa using h 0 (by simp), fun i hi => ?_⟩
      have := h (i + 1) (by simp at hi ⊢; omega)
      simpa using this

theorem scopes_iff (xs : List Int) : scopesB xs = true ↔ AscTo xs xs.length ∧ NonTo xs xs.length := by
  unfold scopesB
  rw [Bool.and_eq_true, asc_iff, List.all_eq_true]
  refine and_congr Iff.rfl ⟨fun h i hi => ?_, fun h x hx => ?_⟩
  · have := h (xs[i]) (List.getElem_mem hi)
    simpa [List.getD_eq_getElem?_getD, hi] using this
  · obtain ⟨i, hi, rfl⟩ := List.getElem_of_mem hx
    have := h i hi
    simpa [List.getD_eq_getElem?_getD, hi] using this

end Go.Proofs.YtbbffhpppacihaaDoor

namespace Go.Siskin
def Reg (B : Nat → Prop) (w w' : World) (b : Nat) : Prop := B b ∨ (w.heap.size ≤ b ∧ b < w'.heap.size)
end Go.Siskin
