/- The law's toExpBind and toExpBindS copy binds into new memory. Condition: the binds lie in memory, and cost at most 1048576. -/
import Derived.Test.YtbloafjkejkjcaaB1
namespace Go.Proofs.Ytbloafjkejkjcaa
open Go.RowKit Go.Siskin

theorem Try.infoBind : (Try.prog.info? 34).map (fun i => (i.zero, i.size, i.bytes)) = some (some (.agg #[.string ⟨#[]⟩, .slice none 0 0, .string ⟨#[]⟩]), 3, 56) := by kernel_rfl

/-- The first k binds stand in a block of the call's own; what they lead to lies behind it. -/
def GotB (g : Nat) (wr : World) (cs : Array Value) (ks : List Bd) (k : Nat) : Prop :=
  ∀ j (hj : j < ks.length), j < k → ∃ d0 d1 d2, cs[j * 3]? = some d0 ∧ cs[j * 3 + 1]? = some d1 ∧ cs[j * 3 + 2]? = some d2 ∧ BindAt (fun b => g < b ∧ b < wr.heap.size) wr ks[j] d0 d1 d2
/-- Three cells in a row. -/
def put3 (w : World) (g o : Nat) (d0 d1 d2 : Value) : World := ((w.setCell ⟨g, o, none⟩ d0).setCell ⟨g, o + 1, none⟩ d1).setCell ⟨g, o + 2, none⟩ d2
def arr3 (cs : Array Value) (o : Nat) (d0 d1 d2 : Value) : Array Value := ((cs.setIfInBounds o d0).setIfInBounds (o + 1) d1).setIfInBounds (o + 2) d2
theorem put3_own {w : World} {g : Nat} {e : TypeId} {cs : Array Value} (h : Own w g e cs) (o : Nat) (d0 d1 d2 : Value) : Own (put3 w g o d0 d1 d2) g e (arr3 cs o d0 d1 d2) := ((h.set o d0).set (o + 1) d1).set (o + 2) d2
theorem put3_size (w : World) (g o : Nat) (d0 d1 d2 : Value) : (put3 w g o d0 d1 d2).heap.size = w.heap.size := by simp [put3]
theorem put3_same {R : Nat → Prop} {a w : World} (h : SameOn R a w) {g : Nat} (hg : ¬ R g) (o : Nat) (d0 d1 d2 : Value) : SameOn R a (put3 w g o d0 d1 d2) := ((h.setCell hg _).setCell hg _).setCell hg _
theorem put3_below {B : Nat} {a w : World} (h : Below B a w) {g : Nat} (hg : B ≤ g) (o : Nat) (d0 d1 d2 : Value) : Below B a (put3 w g o d0 d1 d2) := ((h.setCell hg _).setCell hg _).setCell hg _
theorem arr3_size (cs : Array Value) (o : Nat) (d0 d1 d2 : Value) : (arr3 cs o d0 d1 d2).size = cs.size := by simp [arr3]
theorem arr3_out {cs : Array Value} {o : Nat} (d0 d1 d2 : Value) {i : Nat} (h : i < o ∨ o + 3 ≤ i) : (arr3 cs o d0 d1 d2)[i]? = cs[i]? := by
  unfold arr3
  rw [Array.getElem?_setIfInBounds, if_neg (by omega), Array.getElem?_setIfInBounds, if_neg (by omega), Array.getElem?_setIfInBounds, if_neg (by omega)]
theorem arr3_in {cs : Array Value} {o : Nat} (d0 d1 d2 : Value) (h : o + 3 ≤ cs.size) :
    (arr3 cs o d0 d1 d2)[o]? = some d0 ∧ (arr3 cs o d0 d1 d2)[o + 1]? = some d1 ∧ (arr3 cs o d0 d1 d2)[o + 2]? = some d2 := by
  unfold arr3
  refine ⟨?_, ?_, ?_⟩ <;> simp [Array.getElem?_setIfInBounds] <;> omega
theorem gotB_step {g k : Nat} {wr w1 : World} {cs : Array Value} {ks : List Bd} {d0 d1 d2 : Value} (hcs : cs.size = ks.length * 3) (hlt : k < ks.length) (hg : g < wr.heap.size) (hb : Below wr.heap.size wr w1)
    (hf : BindAt (Fresh wr w1) w1 ks[k] d0 d1 d2) (got : GotB g wr cs ks k) : GotB g (put3 w1 g (k * 3) d0 d1 d2) (arr3 cs (k * 3) d0 d1 d2) ks (k + 1) := by
  intro j hj hjk
  have hs := hb.size
  by_cases e : j = k
  · subst e
    obtain ⟨e0, e1, e2⟩ := arr3_in (cs := cs) (o := j * 3) d0 d1 d2 (by omega)
    refine ⟨d0, d1, d2, e0, e1, e2, BindAt.mono ?_ (BindAt.keep (put3_same (SameOn.refl _ _) ?_ _ _ _ _) hf)⟩
    · intro b h; have h1 := h.1; have h2 := h.2; rw [put3_size]; exact ⟨by omega, h2⟩
    · intro h; have h1 := h.1; omega
  · obtain ⟨x0, x1, x2, e0, e1, e2, hx⟩ := got j hj (by omega)
    refine ⟨x0, x1, x2, ?_, ?_, ?_, BindAt.mono ?_ (BindAt.keep (put3_same ((SameOn.refl _ _).below hb ?_) ?_ _ _ _ _) hx)⟩
    · rw [arr3_out _ _ _ (by omega)]; exact e0
    · rw [arr3_out _ _ _ (by omega)]; exact e1
    · rw [arr3_out _ _ _ (by omega)]; exact e2
    · intro b h; rw [put3_size]; exact ⟨h.1, by omega⟩
    · intro b h; exact h.2
    · intro h; omega

end Go.Proofs.Ytbloafjkejkjcaa
