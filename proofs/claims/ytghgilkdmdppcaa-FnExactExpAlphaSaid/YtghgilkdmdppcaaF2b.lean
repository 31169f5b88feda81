/-
  The law's toExpForm and toExpFormS copy forms into new memory. Condition: the forms lie in memory, and cost at most 1048576.
-/
import Derived.Test.YtghgilkdmdppcaaF2
namespace Go.Proofs.Ytghgilkdmdppcaa
open Go.RowKit Go.Siskin

/-- The first k forms stand in a block of the call's own; what they lead to lies behind it. -/
def Got (g : Nat) (wr : World) (cs : Array Value) (ks : List Fm) (k : Nat) : Prop :=
  ∀ j (hj : j < ks.length), j < k → ∃ d0 d1 d2 d3 d4, cs[j * 5]? = some d0 ∧ cs[j * 5 + 1]? = some d1 ∧ cs[j * 5 + 2]? = some d2 ∧ cs[j * 5 + 3]? = some d3 ∧ cs[j * 5 + 4]? = some d4 ∧ FormAt (fun b => g < b ∧ b < wr.heap.size) wr ks[j] d0 d1 d2 d3 d4

/-- Five cells in a row. -/
def put5 (w : World) (g o : Nat) (d0 d1 d2 d3 d4 : Value) : World :=
  ((((w.setCell ⟨g, o, none⟩ d0).setCell ⟨g, o + 1, none⟩ d1).setCell ⟨g, o + 2, none⟩ d2).setCell ⟨g, o + 3, none⟩ d3).setCell ⟨g, o + 4, none⟩ d4
def arr5 (cs : Array Value) (o : Nat) (d0 d1 d2 d3 d4 : Value) : Array Value :=
  ((((cs.setIfInBounds o d0).setIfInBounds (o + 1) d1).setIfInBounds (o + 2) d2).setIfInBounds (o + 3) d3).setIfInBounds (o + 4) d4

theorem put5_own {w : World} {g : Nat} {e : TypeId} {cs : Array Value} (h : Own w g e cs) (o : Nat) (d0 d1 d2 d3 d4 : Value) : Own (put5 w g o d0 d1 d2 d3 d4) g e (arr5 cs o d0 d1 d2 d3 d4) :=
  ((((h.set o d0).set (o + 1) d1).set (o + 2) d2).set (o + 3) d3).set (o + 4) d4
theorem put5_size (w : World) (g o : Nat) (d0 d1 d2 d3 d4 : Value) : (put5 w g o d0 d1 d2 d3 d4).heap.size = w.heap.size := by simp [put5]
theorem put5_same {R : Nat → Prop} {a w : World} (h : SameOn R a w) {g : Nat} (hg : ¬ R g) (o : Nat) (d0 d1 d2 d3 d4 : Value) : SameOn R a (put5 w g o d0 d1 d2 d3 d4) :=
  ((((h.setCell hg _).setCell hg _).setCell hg _).setCell hg _).setCell hg _
theorem put5_below {B : Nat} {a w : World} (h : Below B a w) {g : Nat} (hg : B ≤ g) (o : Nat) (d0 d1 d2 d3 d4 : Value) : Below B a (put5 w g o d0 d1 d2 d3 d4) :=
  ((((h.setCell hg _).setCell hg _).setCell hg _).setCell hg _).setCell hg _
theorem arr5_size (cs : Array Value) (o : Nat) (d0 d1 d2 d3 d4 : Value) : (arr5 cs o d0 d1 d2 d3 d4).size = cs.size := by simp [arr5]
theorem arr5_out {cs : Array Value} {o : Nat} (d0 d1 d2 d3 d4 : Value) {i : Nat} (h : i < o ∨ o + 5 ≤ i) : (arr5 cs o d0 d1 d2 d3 d4)[i]? = cs[i]? := by
  unfold arr5
  rw [Array.getElem?_setIfInBounds, if_neg (by omega), Array.getElem?_setIfInBounds, if_neg (by omega), Array.getElem?_setIfInBounds, if_neg (by omega), Array.getElem?_setIfInBounds, if_neg (by omega), Array.getElem?_setIfInBounds, if_neg (by omega)]
theorem arr5_in {cs : Array Value} {o : Nat} (d0 d1 d2 d3 d4 : Value) (h : o + 5 ≤ cs.size) :
    (arr5 cs o d0 d1 d2 d3 d4)[o]? = some d0 ∧ (arr5 cs o d0 d1 d2 d3 d4)[o + 1]? = some d1 ∧ (arr5 cs o d0 d1 d2 d3 d4)[o + 2]? = some d2 ∧ (arr5 cs o d0 d1 d2 d3 d4)[o + 3]? = some d3 ∧ (arr5 cs o d0 d1 d2 d3 d4)[o + 4]? = some d4 := by
  unfold arr5
  refine ⟨?_, ?_, ?_, ?_, ?_⟩ <;> simp [Array.getElem?_setIfInBounds] <;> omega

theorem got_step {g k : Nat} {wr w1 : World} {cs : Array Value} {ks : List Fm} {d0 d1 d2 d3 d4 : Value} (hcs : cs.size = ks.length * 5) (hlt : k < ks.length) (hg : g < wr.heap.size) (hb : Below wr.heap.size wr w1)
    (hf : FormAt (Fresh wr w1) w1 ks[k] d0 d1 d2 d3 d4) (got : Got g wr cs ks k) : Got g (put5 w1 g (k * 5) d0 d1 d2 d3 d4) (arr5 cs (k * 5) d0 d1 d2 d3 d4) ks (k + 1) := by
  intro j hj hjk
  have hs := hb.size
  by_cases e : j = k
  · subst e
    obtain ⟨e0, e1, e2, e3, e4⟩ := arr5_in (cs := cs) (o := j * 5) d0 d1 d2 d3 d4 (by omega)
    refine ⟨d0, d1, d2, d3, d4, e0, e1, e2, e3, e4, FormAt.mono ?_ _ (FormAt.keep (put5_same (SameOn.refl _ _) ?_ _ _ _ _ _ _) _ hf)⟩
    · intro b h; have h1 := h.1; have h2 := h.2; rw [put5_size]; exact ⟨by omega, h2⟩
    · intro h; have h1 := h.1; omega
  · obtain ⟨x0, x1, x2, x3, x4, e0, e1, e2, e3, e4, hx⟩ := got j hj (by omega)
    refine ⟨x0, x1, x2, x3, x4, ?_, ?_, ?_, ?_, ?_, FormAt.mono ?_ _ (FormAt.keep (put5_same ((SameOn.refl _ _).below hb ?_) ?_ _ _ _ _ _ _) _ hx)⟩
    · rw [arr5_out _ _ _ _ _ (by omega)]; exact e0
    · rw [arr5_out _ _ _ _ _ (by omega)]; exact e1
    · rw [arr5_out _ _ _ _ _ (by omega)]; exact e2
    · rw [arr5_out _ _ _ _ _ (by omega)]; exact e3
    · rw [arr5_out _ _ _ _ _ (by omega)]; exact e4
    · intro b h; rw [put5_size]; exact ⟨h.1, by omega⟩
    · intro b h; exact h.2
    · intro h; omega

end Go.Proofs.Ytghgilkdmdppcaa
