/- The program's openForm and ExpFormOk say whether a form is ok; what is opened lies in the form's own memory and in new memory. Condition: the form lies in memory, and costs at most 1048576. -/
import Derived.Test.YtoefpcegekfggaaG6
import Derived.Test.YtoefpcegekfggaaF6
namespace Go.Proofs.Ytoefpcegekfggaa
open Go.RowKit Go.Siskin

theorem good_ok (f : Fm) : goodB f 0 0 = formOk f := by
  unfold goodB formOk; rw [Nat.zero_add]

/-- The program's way into a form: just where it is ok; what comes out lies in the form's own memory and in new memory. -/
theorem openForm_any (f : Fm) (B : Nat → Prop) (w : World) (c0 c1 c2 c3 c4 : Value) (hA : FormAt B w f c0 c1 c2 c3 c4) (hB : ∀ b, B b → b < w.heap.size) (hc : f.cost ≤ 1048576) :
    Calls Try.prog 23 #[.agg #[c0, c1, c2, c3, c4]] w fun e w' => ∃ v, e = .returned (.tuple #[v, .bool (formOk f)]) ∧ Below w.heap.size w w' ∧ (formOk f = true → InAt (Reg B w w') w' (toIm f) v) := by
  have H := hid (fun o1 : Obj => (openForm_all f.sz).1 f (Nat.le_refl _) B ((w.alloc o1).alloc (.cells #[.int .i64 0] 77)) c0 c1 c2 c3 c4 0 0 (w.heap.size + 1) (FormAt.keep (((SameOn.refl _ _).alloc hB _).alloc (fun b hb => by have := hB b hb; simp; omega) _) _ hA) (fun b hb => by have := hB b hb; simp; omega) (by have := own_new (w.alloc o1) #[.int .i64 0] 77; simpa using this) (by omega) (by omega) hc)
  obtain ⟨rfl, rfl, ht, h2, rfl, h4⟩ := (formAt_iff _ _ _ _ _ _ _ _).1 hA
  obtain ⟨a2, k2, rfl, -⟩ := h2
  obtain ⟨a4, k4, rfl, -⟩ := h4
  clear hA hB
  go_enter Try.func23, Try.ntmps23
  go_wp2_with fail
  refine (H.out _).mono ?_
  rintro e w2 ⟨m', v, hop, rfl, hgo⟩
  have HOP := hid hop
  have HGO := hid hgo
  clear hop hgo H
  go_wp2_with fail
  go_ret2
  have h := HOP.out
  have hs := h.1.size
  simp only [World.size_alloc] at hs
  refine ⟨v, ret_tup (good_ok f), ⟨h.1.os, h.1.tape, h.1.output, by omega, fun k hk => ?_⟩, fun hg => ?_⟩
  · rw [h.1.block k (by simp; omega) (fun e => by have := Option.some.inj e; omega), Below.heap_alloc _ _ _ (by simp; omega), Below.heap_alloc _ _ _ hk]
  · obtain ⟨-, h2⟩ := HGO.out ((good_ok f).trans hg)
    exact InAt.mono (reg_after (by simp; omega)) _ h2

set_option maxHeartbeats 1000000 in
theorem implFormOk_any (f : Fm) (B : Nat → Prop) (w : World) (c0 c1 c2 c3 c4 : Value) (hA : FormAt B w f c0 c1 c2 c3 c4) (hB : ∀ b, B b → b < w.heap.size) (hc : f.cost ≤ 1048576) :
    Calls Try.prog 12 #[.agg #[c0, c1, c2, c3, c4]] w fun e w' => e = .returned (.bool (formOk f)) ∧ Below w.heap.size w w' := by
  have H := hid (fun o1 : Obj => openForm_any f B (w.alloc o1) c0 c1 c2 c3 c4 (FormAt.keep ((SameOn.refl _ _).alloc hB _) _ hA) (fun b hb => by have := hB b hb; simp; omega) hc)
  obtain ⟨rfl, rfl, ht, h2, rfl, h4⟩ := (formAt_iff _ _ _ _ _ _ _ _).1 hA
  obtain ⟨a2, k2, rfl, -⟩ := h2
  obtain ⟨a4, k4, rfl, -⟩ := h4
  clear hA hB
  go_enter Try.func12, Try.ntmps12
  go_wp2_with fail
  refine (H.out _).mono ?_
  rintro e w2 ⟨v, rfl, hw, -⟩
  have HW := hid hw
  clear hw H
  go_wp2_with fail
  go_ret
  exact ⟨rfl, ((Below.refl _ _).alloc (Nat.le_refl _) _).trans (HW.out.mono (by simp))⟩

end Go.Proofs.Ytoefpcegekfggaa
