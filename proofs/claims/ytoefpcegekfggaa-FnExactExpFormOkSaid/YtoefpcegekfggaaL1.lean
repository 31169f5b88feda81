/- The law FnExactExpFormOk returns true, and nothing that was there has turned. Condition: the form that it is given lies in memory as FormAt says. -/
import Derived.Test.YtoefpcegekfggaaG7
import Derived.Test.YtoefpcegekfggaaF3
namespace Go.Proofs.Ytoefpcegekfggaa
open Go.RowKit Go.Siskin

theorem boxq {w w' : World} {o : Obj} (h : Below (w.heap.size + 1) (w.alloc o) w') : ∀ j, w'.cell? ⟨w.heap.size, j, none⟩ = (w.alloc o).cell? ⟨w.heap.size, j, none⟩ :=
  fun j => h.cell (p := ⟨w.heap.size, j, none⟩) (by simp)
theorem box_step {w w' w2 : World} {o : Obj} (h : Below (w.heap.size + 1) (w.alloc o) w') (h2 : Below w'.heap.size w' w2) : Below (w.heap.size + 1) (w.alloc o) w2 :=
  h.trans (h2.mono (by have := h.size; simpa using this))
theorem box_on {R : Nat → Prop} {w w' : World} {o : Obj} (h : Below (w.heap.size + 1) (w.alloc o) w') (hR : ∀ b, R b → b < w.heap.size) : SameOn R w w' :=
  ((SameOn.refl _ _).alloc hR _).below h (fun b hb => by have := hR b hb; omega)
theorem box_done {w w' : World} {o : Obj} (h : Below (w.heap.size + 1) (w.alloc o) w') : Below w.heap.size w w' :=
  ((Below.refl _ _).alloc (Nat.le_refl _) _).trans (h.mono (by omega))

set_option maxHeartbeats 4000000 in
theorem lawFormOk_any (f : Fm) (B : Nat → Prop) (w : World) (c0 c1 c2 c3 c4 : Value) (hA : FormAt B w f c0 c1 c2 c3 c4) (hB : ∀ b, B b → b < w.heap.size) :
    Calls Try.prog 4 #[.agg #[c0, c1, c2, c3, c4]] w fun e w' => e = .returned (.bool true) ∧ Below w.heap.size w w' := by
  have HA := hid hA
  have HR := hid hB
  have H1 := hid (fun o : Obj => szExpForm_any f B (w.alloc o) c0 c1 c2 c3 c4 1048576 (FormAt.keep ((SameOn.refl _ _).alloc hB _) _ hA) (fun b hb => by have := hB b hb; simp; omega) (by omega) (by omega))
  obtain ⟨rfl, rfl, ht, h2, rfl, h4⟩ := (formAt_iff _ _ _ _ _ _ _ _).1 hA
  obtain ⟨a2, k2, rfl, -⟩ := h2
  obtain ⟨a4, k4, rfl, -⟩ := h4
  clear hA hB
  go_enter Try.func4, Try.ntmps4
  go_wp2_with fail
  refine (H1.out _).mono ?_
  rintro e w1 ⟨rfl, hw1⟩
  simp only [World.size_alloc] at hw1
  have q1 := boxq hw1
  have s1 := hw1.size
  simp only [World.size_alloc] at s1
  have HW1 := hid hw1
  clear hw1 H1
  by_cases hneg : szI f.cost 1048576 < 0
  · go_wp2_with fail
    go_ret
    exact ⟨rfl, box_done HW1.out⟩
  have hc : f.cost ≤ 1048576 := by rw [szI_neg] at hneg; omega
  go_wp2_with fail
  refine (toExpForm_any f B w1 _ _ _ _ _ (FormAt.keep (box_on HW1.out HR.out) _ HA.out) (fun b hb => by have := HR.out b hb; omega) hc).mono ?_
  rintro e w2 ⟨d0, d1, d2, d3, d4, rfl, hf2, hw2⟩
  have HW2 := hid (box_step HW1.out hw2)
  have s2 := hw2.size
  have HF2 := hid hf2
  clear hw2 hf2 q1
  go_wp2_with fail
  refine (specFormOk_any f (Fresh w1 w2) w2 _ _ _ _ _ HF2.out (fun b hb => hb.2) hc).mono ?_
  rintro e w3 ⟨rfl, hw3⟩
  have HW3 := hid (box_step HW2.out hw3)
  have q3 := boxq HW3.out
  have s3 := hw3.size
  clear hw3 HF2 HW2
  go_wp2_with fail
  refine (toExpForm_any f B w3 _ _ _ _ _ (FormAt.keep (box_on HW3.out HR.out) _ HA.out) (fun b hb => by have := HR.out b hb; omega) hc).mono ?_
  rintro e w4 ⟨e0, e1, e2, e3, e4, rfl, hf4, hw4⟩
  have HW4 := hid (box_step HW3.out hw4)
  have s4 := hw4.size
  have HF4 := hid hf4
  obtain ⟨rfl, rfl, -, h2, rfl, h4⟩ := (formAt_iff _ _ _ _ _ _ _ _).1 hf4
  obtain ⟨x2, y2, rfl, -⟩ := h2
  obtain ⟨x4, y4, rfl, -⟩ := h4
  clear hw4 hf4 q3
  go_wp2_with fail
  refine (implFormOk_any f (Fresh w3 w4) (w4.alloc _) _ _ _ _ _ (FormAt.keep ((SameOn.refl _ _).alloc (fun b hb => hb.2) _) _ HF4.out) (fun b hb => by have := hb.2; simp; omega) hc).mono ?_
  rintro e w5 ⟨rfl, hw5⟩
  have HW5 := hid ((HW4.out.alloc (by omega) _).trans (hw5.mono (by simp; omega)))
  have HF5 := hid (FormAt.keep (((SameOn.refl _ _).alloc (fun b hb => hb.2) _).below hw5 (fun b hb => by have := hb.2; simp; omega)) f HF4.out)
  simp only [World.size_alloc] at hw5
  have x5 := boxq hw5
  have q5 := boxq HW5.out
  have s5 := hw5.size
  simp only [World.size_alloc] at s5
  have hx5 : w.heap.size < w4.heap.size := by omega
  have HC6 := hid (toExpForm_any f B w5.drew _ _ _ _ _ (FormAt.keep (SameOn.drew _ _) _ (FormAt.keep (box_on HW5.out HR.out) _ HA.out)) (fun b hb => by have := HR.out b hb; show b < w5.heap.size; omega) hc)
  clear hw5 HW4 HF4
  go_wp2_with fail
  go_region_with (first
    | (go_at_call 8; refine HC6.out.mono ?_; rintro e w6 ⟨g0, g1, g2, g3, g4, rfl, hf6, hw6⟩; have x6 : ∀ j, w6.cell? ⟨w4.heap.size, j, none⟩ = w5.cell? ⟨w4.heap.size, j, none⟩ := fun j => hw6.cell (p := ⟨w4.heap.size, j, none⟩) (by show w4.heap.size < w5.heap.size; omega); have HF6 := hid hf6; have HW6 := hid hw6; clear hf6 hw6)
    | (go_at_call 10; refine (eqExpForm_any f (Fresh w3 w4) (Fresh w5.drew w6) w6 _ _ _ _ _ _ _ _ _ _ (FormAt.keep (HW6.out.on (fun b hb => by have := hb.2; show b < w5.heap.size; omega)) _ (FormAt.keep (SameOn.drew _ _) _ HF5.out)) HF6.out (fun b hb => by have := hb.2; have := HW6.out.size; have h : w5.heap.size ≤ w6.heap.size := this; omega) (fun b hb => hb.2)).mono ?_; rintro e w7 ⟨rfl, hw7⟩))
  all_goals go_wp2_with fail
  all_goals go_ret
  all_goals exact ⟨rfl, box_done (box_step (box_step HW5.out.drew HW6.out) hw7)⟩

end Go.Proofs.Ytoefpcegekfggaa
