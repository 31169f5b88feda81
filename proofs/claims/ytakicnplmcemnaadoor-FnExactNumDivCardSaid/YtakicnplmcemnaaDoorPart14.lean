/-
  The program's overBoth, answerOf. Condition: the groups lie in memory as NatA says; at most 100 groups each.
  The model's l11Div: what comes of dividing numerals, and what is left. Condition: numerals of at most 10,000 digits, the second above nought.
-/
import Derived.Test.YtakicnplmcemnaaDoorPart9
import Derived.Test.YtakicnplmcemnaaDoorPart13
import Derived.Test.YtakicnplmcemnaaDoorPart7
namespace Go.Proofs.YtakicnplmcemnaaDoor
open Go.RowKit Go.Siskin

theorem ratBox_no (n m : Bool) (a b : Option Addr) (l c k d : Nat) : ∀ (i : Nat) (z : Int), (#[Value.bool n, .slice a l c, .bool m, .slice b k d] : Array Value)[i]? ≠ some (.int .u64 z) := by
  intro i z
  rcases i with _ | _ | _ | _ | i <;> simp
theorem natA_set4 {w : World} {v : Value} {gs : List Nat} {fb : Nat} {e : TypeId} {n m : Bool} {a b : Option Addr} {l c k d : Nat} (h : NatA w v gs) (ho : Own w fb e #[.bool n, .slice a l c, .bool m, .slice b k d]) (x y z t : Value) : NatA ((((w.setCell ⟨fb, 0, none⟩ x).setCell ⟨fb, 1, none⟩ y).setCell ⟨fb, 2, none⟩ z).setCell ⟨fb, 3, none⟩ t) v gs :=
  natA_boxG h ho (ratBox_no n m a b l c k d) (fun b hb => by rw [Below.heap_setCell _ _ _ _ hb, Below.heap_setCell _ _ _ _ hb, Below.heap_setCell _ _ _ _ hb, Below.heap_setCell _ _ _ _ hb]) (by simp [World.setCell])

set_option maxRecDepth 20000 in
set_option maxHeartbeats 4000000 in
theorem overSum_any (n1 n2 : Bool) (x1 y1 x2 y2 : Nat) (a1 b1 a2 b2 : Option Addr) (l1 c1 k1 d1 l2 c2 k2 d2 : Nat) (w : World) (hx1 : NatA w (.slice a1 l1 c1) (grp x1)) (hy1 : NatA w (.slice b1 k1 d1) (grp y1)) (hx2 : NatA w (.slice a2 l2 c2) (grp x2)) (hy2 : NatA w (.slice b2 k2 d2) (grp y2))
    (g1 : nG x1 ≤ 100) (g2 : nG y1 ≤ 100) (g3 : nG x2 ≤ 100) (g4 : nG y2 ≤ 100) :
    Calls Tryd.prog 65 #[.agg #[.bool n1, .slice a1 l1 c1, .bool false, .slice b1 k1 d1], .agg #[.bool n2, .slice a2 l2 c2, .bool false, .slice b2 k2 d2], .func (.func 60) #[] #[]] w fun e w' => ∃ a c b d, e = .returned (.agg #[.bool (sumN n1 (x1 * y2) n2 (x2 * y1)), .slice a (grp (sumZ n1 (x1 * y2) n2 (x2 * y1))).length c, .bool (false), .slice b (grp (y1 * y2)).length d]) ∧ NatA w' (.slice a (grp (sumZ n1 (x1 * y2) n2 (x2 * y1))).length c) (grp (sumZ n1 (x1 * y2) n2 (x2 * y1))) ∧ NatA w' (.slice b (grp (y1 * y2)).length d) (grp (y1 * y2)) ∧ Below w.heap.size w w' := by
  have mt := meth_times
  have HF := hid (fun W (hb : Below w.heap.size w W) => sumAbove_any n1 n2 x1 y1 x2 y2 a1 b1 a2 b2 l1 c1 k1 d1 l2 c2 k2 d2 W (hx1.below hb (Nat.le_refl _)) (hy1.below hb (Nat.le_refl _)) (hx2.below hb (Nat.le_refl _)) (hy2.below hb (Nat.le_refl _)) g1 g2 g3 g4)
  have HTd := hid (fun W (hb : Below w.heap.size w W) => intTimes_slice false false false y1 y2 _ _ W rfl (hy1.below hb (Nat.le_refl _)) (hy2.below hb (Nat.le_refl _)) (by omega) (by omega))
  generalize sumN n1 (x1 * y2) n2 (x2 * y1) = S at *
  generalize sumZ n1 (x1 * y2) n2 (x2 * y1) = Z at *
  generalize y1 * y2 = D at *
  obtain ⟨W0, HW0⟩ : ∃ W, Hid (((w.alloc (boxR n1 (.slice a1 l1 c1) false (.slice b1 k1 d1))).alloc (boxR n2 (.slice a2 l2 c2) false (.slice b2 k2 d2))).alloc (boxR false (.slice none 0 0) false (.slice none 0 0)) = W) := ⟨_, rfl⟩
  have HX : Hid (∀ W, Below (w.heap.size + 3) W0 W → Own W w.heap.size 80 #[.bool n1, .slice a1 l1 c1, .bool false, .slice b1 k1 d1] ∧ Own W (w.heap.size + 1) 80 #[.bool n2, .slice a2 l2 c2, .bool false, .slice b2 k2 d2] ∧ Own W (w.heap.size + 1 + 1) 80 #[.bool false, .slice none 0 0, .bool false, .slice none 0 0] ∧ Below w.heap.size w W) := fun W h => by
    rw [← HW0.out] at h
    exact boxes3 w _ _ _ _ _ _ h
  have HSt : Hid (∀ W, Below (w.heap.size + 3) W0 W → ∀ x' y' z' t' : Value, (((((W.setCell ⟨w.heap.size + 1 + 1, 0, none⟩ x').setCell ⟨w.heap.size + 1 + 1, 1, none⟩ y').setCell ⟨w.heap.size + 1 + 1, 2, none⟩ z').setCell ⟨w.heap.size + 1 + 1, 3, none⟩ t').cell? ⟨w.heap.size, 0, none⟩ = some (.bool n1) ∧ ((((W.setCell ⟨w.heap.size + 1 + 1, 0, none⟩ x').setCell ⟨w.heap.size + 1 + 1, 1, none⟩ y').setCell ⟨w.heap.size + 1 + 1, 2, none⟩ z').setCell ⟨w.heap.size + 1 + 1, 3, none⟩ t').cell? ⟨w.heap.size, 1, none⟩ = some (.slice a1 l1 c1) ∧ ((((W.setCell ⟨w.heap.size + 1 + 1, 0, none⟩ x').setCell ⟨w.heap.size + 1 + 1, 1, none⟩ y').setCell ⟨w.heap.size + 1 + 1, 2, none⟩ z').setCell ⟨w.heap.size + 1 + 1, 3, none⟩ t').cell? ⟨w.heap.size, 2, none⟩ = some (.bool false) ∧ ((((W.setCell ⟨w.heap.size + 1 + 1, 0, none⟩ x').setCell ⟨w.heap.size + 1 + 1, 1, none⟩ y').setCell ⟨w.heap.size + 1 + 1, 2, none⟩ z').setCell ⟨w.heap.size + 1 + 1, 3, none⟩ t').cell? ⟨w.heap.size, 3, none⟩ = some (.slice b1 k1 d1)) ∧ ((((W.setCell ⟨w.heap.size + 1 + 1, 0, none⟩ x').setCell ⟨w.heap.size + 1 + 1, 1, none⟩ y').setCell ⟨w.heap.size + 1 + 1, 2, none⟩ z').setCell ⟨w.heap.size + 1 + 1, 3, none⟩ t').cell? ⟨w.heap.size + 1, 0, none⟩ = some (.bool n2) ∧ ((((W.setCell ⟨w.heap.size + 1 + 1, 0, none⟩ x').setCell ⟨w.heap.size + 1 + 1, 1, none⟩ y').setCell ⟨w.heap.size + 1 + 1, 2, none⟩ z').setCell ⟨w.heap.size + 1 + 1, 3, none⟩ t').cell? ⟨w.heap.size + 1, 1, none⟩ = some (.slice a2 l2 c2) ∧ ((((W.setCell ⟨w.heap.size + 1 + 1, 0, none⟩ x').setCell ⟨w.heap.size + 1 + 1, 1, none⟩ y').setCell ⟨w.heap.size + 1 + 1, 2, none⟩ z').setCell ⟨w.heap.size + 1 + 1, 3, none⟩ t').cell? ⟨w.heap.size + 1, 2, none⟩ = some (.bool false) ∧ ((((W.setCell ⟨w.heap.size + 1 + 1, 0, none⟩ x').setCell ⟨w.heap.size + 1 + 1, 1, none⟩ y').setCell ⟨w.heap.size + 1 + 1, 2, none⟩ z').setCell ⟨w.heap.size + 1 + 1, 3, none⟩ t').cell? ⟨w.heap.size + 1, 3, none⟩ = some (.slice b2 k2 d2)) := fun W h x' y' z' t' => by
    have h0 := HX.out W h
    exact ⟨(own4V (own_set4 h0.1 (by omega) x' y' z' t')).1, (own4V (own_set4 h0.2.1 (by omega) x' y' z' t')).1⟩
  have HS0 : Hid (w.heap.size + 3 ≤ W0.heap.size) := by show _ ≤ _; rw [← HW0.out]; simp
  clear hx1 hy1 hx2 hy2 g1 g2 g3 g4
  go_enter Tryd.func65, Tryd.ntmps65
  go_wp2_with fail
  rw [HW0.out]
  have HB : Hid (Below (w.heap.size + 3) W0 W0.drew) := (Below.refl _ _).drew
  obtain ⟨⟨r0, r1, r2, r3⟩, q0, q1, q2, q3⟩ := own4V (HX.out _ HB.out).2.2.1
  go_region_held3 (fun W => (W.cell? ⟨w.heap.size, 0, none⟩ = some (.bool n1) ∧ W.cell? ⟨w.heap.size, 1, none⟩ = some (.slice a1 l1 c1) ∧ W.cell? ⟨w.heap.size, 2, none⟩ = some (.bool false) ∧ W.cell? ⟨w.heap.size, 3, none⟩ = some (.slice b1 k1 d1)) ∧ W.cell? ⟨w.heap.size + 1, 0, none⟩ = some (.bool n2) ∧ W.cell? ⟨w.heap.size + 1, 1, none⟩ = some (.slice a2 l2 c2) ∧ W.cell? ⟨w.heap.size + 1, 2, none⟩ = some (.bool false) ∧ W.cell? ⟨w.heap.size + 1, 3, none⟩ = some (.slice b2 k2 d2))
    (first
      | exact ⟨(own4V (HX.out _ HB.out).1).1, (own4V (HX.out _ HB.out).2.1).1⟩
      | exact HSt.out _ HB.out _ _ _ _)
    (first
      | (go_at_call 60
         go_loud (
         refine (HF.out _ (HX.out _ HB.out).2.2.2).mono ?_
         rintro e w3 ⟨ta, tc, rfl, hu, hw3⟩
         have HTa := hid hu
         first
           | (have HTb := hid (HTb.out.below hw3 (Nat.le_refl _)))
           | skip
         have HB := hid (HB.out.trans (hw3.mono (Nat.le_trans HS0.out HB.out.size)))
         clear hu hw3 r0 r1 r2 r3 q0 q1 q2 q3
         obtain ⟨⟨r0, r1, r2, r3⟩, q0, q1, q2, q3⟩ := own4V (HX.out _ HB.out).2.2.1))
      | (go_at_call 139
         go_loud (
         refine (HTd.out _ (HX.out _ HB.out).2.2.2).mono ?_
         rintro e w4 ⟨sa, sc, rfl, hu, hw3⟩
         have HTb := hid hu
         first
           | (have HTa := hid (HTa.out.below hw3 (Nat.le_refl _)))
           | skip
         have HB := hid (HB.out.trans (hw3.mono (Nat.le_trans HS0.out HB.out.size)))
         clear hu hw3 r0 r1 r2 r3 q0 q1 q2 q3
         obtain ⟨⟨r0, r1, r2, r3⟩, q0, q1, q2, q3⟩ := own4V (HX.out _ HB.out).2.2.1)))
  all_goals
    go_wp2_with fail
    refine bodyPost_ret (v := .agg #[.bool S, .slice ta (grp Z).length tc, .bool false, .slice sa (grp D).length sc]) (by simp [results, Tryd.results65, go_sem, r0, r1, r2, r3]) rfl ⟨ta, tc, sa, sc, rfl, ?_, ?_, ?_⟩
    · exact natA_set4 HTa.out (HX.out _ HB.out).2.2.1 _ _ _ _
    · exact natA_set4 HTb.out (HX.out _ HB.out).2.2.1 _ _ _ _
    · exact below_set4 (HX.out _ HB.out).2.2.2 (by omega) _ _ _ _

set_option maxRecDepth 20000 in
set_option maxHeartbeats 4000000 in
theorem overProduct_any (n1 m1 m2 n2 : Bool) (x1 y1 x2 y2 : Nat) (a1 b1 a2 b2 : Option Addr) (l1 c1 k1 d1 l2 c2 k2 d2 : Nat) (w : World) (hx1 : NatA w (.slice a1 l1 c1) (grp x1)) (hy1 : NatA w (.slice b1 k1 d1) (grp y1)) (hx2 : NatA w (.slice a2 l2 c2) (grp x2)) (hy2 : NatA w (.slice b2 k2 d2) (grp y2))
    (g1 : nG x1 ≤ 100) (g2 : nG y1 ≤ 100) (g3 : nG x2 ≤ 100) (g4 : nG y2 ≤ 100) :
    Calls Tryd.prog 65 #[.agg #[.bool n1, .slice a1 l1 c1, .bool m1, .slice b1 k1 d1], .agg #[.bool n2, .slice a2 l2 c2, .bool m2, .slice b2 k2 d2], .func (.func 69) #[] #[]] w fun e w' => ∃ a c b d, e = .returned (.agg #[.bool (n1 != n2), .slice a (grp (x1 * x2)).length c, .bool (m1 != m2), .slice b (grp (y1 * y2)).length d]) ∧ NatA w' (.slice a (grp (x1 * x2)).length c) (grp (x1 * x2)) ∧ NatA w' (.slice b (grp (y1 * y2)).length d) (grp (y1 * y2)) ∧ Below w.heap.size w w' := by
  have mt := meth_times
  have HF := hid (fun W (hb : Below w.heap.size w W) => productAbove_any n1 m1 n2 m2 x1 x2 a1 b1 a2 b2 l1 c1 k1 d1 l2 c2 k2 d2 W (hx1.below hb (Nat.le_refl _)) (hx2.below hb (Nat.le_refl _)) g1 g3)
  have HTd := hid (fun W (hb : Below w.heap.size w W) => intTimes_slice m1 m2 _ y1 y2 _ _ W rfl (hy1.below hb (Nat.le_refl _)) (hy2.below hb (Nat.le_refl _)) (by omega) (by omega))
  generalize (n1 != n2) = S at *
  generalize x1 * x2 = Z at *
  generalize y1 * y2 = D at *
  generalize (m1 != m2) = M at *
  obtain ⟨W0, HW0⟩ : ∃ W, Hid (((w.alloc (boxR n1 (.slice a1 l1 c1) m1 (.slice b1 k1 d1))).alloc (boxR n2 (.slice a2 l2 c2) m2 (.slice b2 k2 d2))).alloc (boxR false (.slice none 0 0) false (.slice none 0 0)) = W) := ⟨_, rfl⟩
  have HX : Hid (∀ W, Below (w.heap.size + 3) W0 W → Own W w.heap.size 80 #[.bool n1, .slice a1 l1 c1, .bool m1, .slice b1 k1 d1] ∧ Own W (w.heap.size + 1) 80 #[.bool n2, .slice a2 l2 c2, .bool m2, .slice b2 k2 d2] ∧ Own W (w.heap.size + 1 + 1) 80 #[.bool false, .slice none 0 0, .bool false, .slice none 0 0] ∧ Below w.heap.size w W) := fun W h => by
    rw [← HW0.out] at h
    exact boxes3 w _ _ _ _ _ _ h
  have HSt : Hid (∀ W, Below (w.heap.size + 3) W0 W → ∀ x' y' z' t' : Value, (((((W.setCell ⟨w.heap.size + 1 + 1, 0, none⟩ x').setCell ⟨w.heap.size + 1 + 1, 1, none⟩ y').setCell ⟨w.heap.size + 1 + 1, 2, none⟩ z').setCell ⟨w.heap.size + 1 + 1, 3, none⟩ t').cell? ⟨w.heap.size, 0, none⟩ = some (.bool n1) ∧ ((((W.setCell ⟨w.heap.size + 1 + 1, 0, none⟩ x').setCell ⟨w.heap.size + 1 + 1, 1, none⟩ y').setCell ⟨w.heap.size + 1 + 1, 2, none⟩ z').setCell ⟨w.heap.size + 1 + 1, 3, none⟩ t').cell? ⟨w.heap.size, 1, none⟩ = some (.slice a1 l1 c1) ∧ ((((W.setCell ⟨w.heap.size + 1 + 1, 0, none⟩ x').setCell ⟨w.heap.size + 1 + 1, 1, none⟩ y').setCell ⟨w.heap.size + 1 + 1, 2, none⟩ z').setCell ⟨w.heap.size + 1 + 1, 3, none⟩ t').cell? ⟨w.heap.size, 2, none⟩ = some (.bool m1) ∧ ((((W.setCell ⟨w.heap.size + 1 + 1, 0, none⟩ x').setCell ⟨w.heap.size + 1 + 1, 1, none⟩ y').setCell ⟨w.heap.size + 1 + 1, 2, none⟩ z').setCell ⟨w.heap.size + 1 + 1, 3, none⟩ t').cell? ⟨w.heap.size, 3, none⟩ = some (.slice b1 k1 d1)) ∧ ((((W.setCell ⟨w.heap.size + 1 + 1, 0, none⟩ x').setCell ⟨w.heap.size + 1 + 1, 1, none⟩ y').setCell ⟨w.heap.size + 1 + 1, 2, none⟩ z').setCell ⟨w.heap.size + 1 + 1, 3, none⟩ t').cell? ⟨w.heap.size + 1, 0, none⟩ = some (.bool n2) ∧ ((((W.setCell ⟨w.heap.size + 1 + 1, 0, none⟩ x').setCell ⟨w.heap.size + 1 + 1, 1, none⟩ y').setCell ⟨w.heap.size + 1 + 1, 2, none⟩ z').setCell ⟨w.heap.size + 1 + 1, 3, none⟩ t').cell? ⟨w.heap.size + 1, 1, none⟩ = some (.slice a2 l2 c2) ∧ ((((W.setCell ⟨w.heap.size + 1 + 1, 0, none⟩ x').setCell ⟨w.heap.size + 1 + 1, 1, none⟩ y').setCell ⟨w.heap.size + 1 + 1, 2, none⟩ z').setCell ⟨w.heap.size + 1 + 1, 3, none⟩ t').cell? ⟨w.heap.size + 1, 2, none⟩ = some (.bool m2) ∧ ((((W.setCell ⟨w.heap.size + 1 + 1, 0, none⟩ x').setCell ⟨w.heap.size + 1 + 1, 1, none⟩ y').setCell ⟨w.heap.size + 1 + 1, 2, none⟩ z').setCell ⟨w.heap.size + 1 + 1, 3, none⟩ t').cell? ⟨w.heap.size + 1, 3, none⟩ = some (.slice b2 k2 d2)) := fun W h x' y' z' t' => by
    have h0 := HX.out W h
    exact ⟨(own4V (own_set4 h0.1 (by omega) x' y' z' t')).1, (own4V (own_set4 h0.2.1 (by omega) x' y' z' t')).1⟩
  have HS0 : Hid (w.heap.size + 3 ≤ W0.heap.size) := by show _ ≤ _; rw [← HW0.out]; simp
  clear hx1 hy1 hx2 hy2 g1 g2 g3 g4
  go_enter Tryd.func65, Tryd.ntmps65
  go_wp2_with fail
  rw [HW0.out]
  have HB : Hid (Below (w.heap.size + 3) W0 W0.drew) := (Below.refl _ _).drew
  obtain ⟨⟨r0, r1, r2, r3⟩, q0, q1, q2, q3⟩ := own4V (HX.out _ HB.out).2.2.1
  go_region_held3 (fun W => (W.cell? ⟨w.heap.size, 0, none⟩ = some (.bool n1) ∧ W.cell? ⟨w.heap.size, 1, none⟩ = some (.slice a1 l1 c1) ∧ W.cell? ⟨w.heap.size, 2, none⟩ = some (.bool m1) ∧ W.cell? ⟨w.heap.size, 3, none⟩ = some (.slice b1 k1 d1)) ∧ W.cell? ⟨w.heap.size + 1, 0, none⟩ = some (.bool n2) ∧ W.cell? ⟨w.heap.size + 1, 1, none⟩ = some (.slice a2 l2 c2) ∧ W.cell? ⟨w.heap.size + 1, 2, none⟩ = some (.bool m2) ∧ W.cell? ⟨w.heap.size + 1, 3, none⟩ = some (.slice b2 k2 d2))
    (first
      | exact ⟨(own4V (HX.out _ HB.out).1).1, (own4V (HX.out _ HB.out).2.1).1⟩
      | exact HSt.out _ HB.out _ _ _ _)
    (first
      | (go_at_call 69
         go_loud (
         refine (HF.out _ (HX.out _ HB.out).2.2.2).mono ?_
         rintro e w3 ⟨ta, tc, rfl, hu, hw3⟩
         have HTa := hid hu
         first
           | (have HTb := hid (HTb.out.below hw3 (Nat.le_refl _)))
           | skip
         have HB := hid (HB.out.trans (hw3.mono (Nat.le_trans HS0.out HB.out.size)))
         clear hu hw3 r0 r1 r2 r3 q0 q1 q2 q3
         obtain ⟨⟨r0, r1, r2, r3⟩, q0, q1, q2, q3⟩ := own4V (HX.out _ HB.out).2.2.1))
      | (go_at_call 139
         go_loud (
         refine (HTd.out _ (HX.out _ HB.out).2.2.2).mono ?_
         rintro e w4 ⟨sa, sc, rfl, hu, hw3⟩
         have HTb := hid hu
         first
           | (have HTa := hid (HTa.out.below hw3 (Nat.le_refl _)))
           | skip
         have HB := hid (HB.out.trans (hw3.mono (Nat.le_trans HS0.out HB.out.size)))
         clear hu hw3 r0 r1 r2 r3 q0 q1 q2 q3
         obtain ⟨⟨r0, r1, r2, r3⟩, q0, q1, q2, q3⟩ := own4V (HX.out _ HB.out).2.2.1)))
  all_goals
    go_wp2_with fail
    refine bodyPost_ret (v := .agg #[.bool S, .slice ta (grp Z).length tc, .bool M, .slice sa (grp D).length sc]) (by simp [results, Tryd.results65, go_sem, r0, r1, r2, r3]) rfl ⟨ta, tc, sa, sc, rfl, ?_, ?_, ?_⟩
    · exact natA_set4 HTa.out (HX.out _ HB.out).2.2.1 _ _ _ _
    · exact natA_set4 HTb.out (HX.out _ HB.out).2.2.1 _ _ _ _
    · exact below_set4 (HX.out _ HB.out).2.2.2 (by omega) _ _ _ _
end Go.Proofs.YtakicnplmcemnaaDoor

namespace Go.Proofs.YtakicnplmcemnaaDoor
open Go.RowKit Go.Siskin

theorem cut_one (m v i : Nat) (h : i < m) : (digT m v).extract i (i + 1) = ⟨#[UInt8.ofNat (48 + v / 10 ^ (m - 1 - i) % 10)]⟩ := by
  apply ba_ext
  rw [ByteArray.data_extract, Array.toList_extract]
  show ((digL m v).toArray.toList.drop i).take (i + 1 - i) = _
  rw [List.toList_toArray, Nat.add_sub_cancel_left]
  apply List.ext_getElem
  · simp [digL]; omega
  · intro j h1 h2
    simp at h2
    subst h2
    simp [digL, Lib.dg]

set_option maxRecDepth 20000 in
set_option maxHeartbeats 2000000 in
theorem l11Div_of (a b n : Nat) (w : World) (HNa : Hid (Lib.nDigits a = n)) (hn : n ≤ 10000) (hbn : Lib.nDigits b ≤ 10000) (hb : 0 < b) :
    Calls Tryd.prog 71 #[.string (dec a), .string (dec b)] w fun e w' => e = .returned (.tuple #[.string (dec (a / b)), .string (dec (a % b))]) ∧ Below w.heap.size w w' := by
  have hla : ((dec a).size : Int) = (n : Int) := by rw [dec_size, HNa.out]
  have HCut : Hid (∀ i, i < n → (dec a).extract i (i + 1) = ⟨#[UInt8.ofNat (48 + a / 10 ^ (n - 1 - i) % 10)]⟩) := fun i hi => by unfold dec; rw [HNa.out]; exact cut_one n a i hi
  have HBp := hid hb
  have HBn := hid hbn
  obtain ⟨i0, hi, hz0, hz1, hz2⟩ := info_partsZ Tryd.infoByteZ2
  have Hi := hid hi
  have Hz0 := hid hz0
  have Hz1 := hid hz1
  have Hz2 := hid hz2
  clear hi hz0 hz1 hz2 hb hbn
  go_enter Tryd.func71, Tryd.ntmps71
  go_wp2_with fail
  go_loopw [6, 7, 8] (fun q r i wr => ∃ (k g cap : Nat), q = .slice (some ⟨g, 0, none⟩) k cap ∧ r = .string (dec (a / 10 ^ (n - k) % b)) ∧ i = .int .i64 k ∧ k ≤ n ∧ Hid (wr.ownsRow w.heap.size 5 1 (.slice (some ⟨g, 0, none⟩) k cap) k (byteL (digT k (a / 10 ^ (n - k) / b)))) ∧ Hid (Below w.heap.size w wr)) (fun _ _ i _ => n - (intOf i).toNat)
  case atStart =>
    have h0 : a / 10 ^ (n - 0) = 0 := by rw [Nat.sub_zero, ← HNa.out]; exact Nat.div_eq_of_lt (Lib.lt_pow_nDigits a)
    refine ⟨0, _, 0, rfl, ?_, rfl, Nat.zero_le _, ?_, (Below.refl _ _).alloc (Nat.le_refl _) _⟩
    · rw [h0, Nat.zero_mod, dec_small (by decide)]; rfl
    · show World.ownsRow _ _ _ _ _ _ _
      rw [h0, Nat.zero_div]
      exact World.ownsRow_made w #[] 0 (Nat.le_refl _) (Nat.zero_le _) (by simp)
  case round =>
    obtain ⟨k, g, cap, rfl, rfl, rfl, hk, HU, HB⟩ := hrel
    have hsz := HB.out.size
    by_cases hlt : k < n
    · have hst := div_step (a := a) (n := n) HBp.out hlt
      obtain ⟨r, HR⟩ : ∃ r : Nat, Hid (a / 10 ^ (n - k) % b = r) := ⟨_, rfl⟩
      obtain ⟨q, HQ⟩ : ∃ q : Nat, Hid (a / 10 ^ (n - k) / b = q) := ⟨_, rfl⟩
      obtain ⟨d, HD⟩ : ∃ d : Nat, Hid (a / 10 ^ (n - 1 - k) % 10 = d) := ⟨_, rfl⟩
      have hd10 : d < 10 := by rw [← HD.out]; exact Nat.mod_lt _ (by decide)
      have hcut := HCut.out k hlt
      rw [HD.out] at hcut
      rw [HR.out, HQ.out, HD.out] at hst
      rw [HQ.out] at HU
      rw [HR.out]
      have hrb : r < b := by rw [← HR.out]; exact Nat.mod_lt _ HBp.out
      have HST := hid hst
      have hrs : (dec r).size ≤ 10000 := by rw [dec_size]; exact Nat.le_trans (nDigits_mono (Nat.le_of_lt hrb)) HBn.out
      have HCat := hid (digT_snoc (Lib.nDigits r) r d hd10)
      obtain ⟨c, HCc⟩ : ∃ c : UInt8, Hid (UInt8.ofNat (48 + d) = c) := ⟨_, rfl⟩
      rw [HCc.out] at hcut HCat
      have HTr := hid (fun w => l11Trim_any (Lib.nDigits r + 1) (r * 10 + d) w (by rw [dec_size] at hrs; unfold maxLen; omega) (by omega) (by rw [Nat.pow_succ]; have := Lib.lt_pow_nDigits r; omega))
      rw [← HCat.out] at HTr
      clear hst
      go_wp2_with fail
      refine (HTr.out _).mono ?_
      rintro e w' ⟨rfl, hw⟩
      obtain rfl := hw.symm
      obtain ⟨R, HRR⟩ : ∃ R : Nat, Hid (r * 10 + d = R) := ⟨_, rfl⟩
      rw [HRR.out] at HST ⊢
      clear HTr HCat hcut
      go_wp2_with fail
      rename World => w1
      go_loopw [7, 9] (fun rr nn wr => ∃ j : Nat, rr = .string (dec (R - j * b)) ∧ nn = .int .u8 ((48 + j : Nat) : Int) ∧ Hid (j * b ≤ R) ∧ j ≤ 9 ∧ Hid (Below w1.heap.size w1 wr)) (fun _ nn _ => (60 - intOf nn).toNat)
      case atStart => exact ⟨0, by rw [Nat.zero_mul]; rfl, rfl, by show _ ≤ _; omega, by omega, Below.refl _ _⟩
      case round =>
        obtain ⟨j, rfl, rfl, HJ, hj, HB2⟩ := hrel
        have hs2 := HB2.out.size
        have HCm := hid (l11Cmp_any (R - j * b) b)
        by_cases hge : b ≤ R - j * b
        · have HV : Hid (0 ≤ cmpI (R - j * b) b) := by
            show _ ≤ _; unfold cmpI; rw [if_neg (by omega)]; split <;> omega
          have hj9 : j < 9 := by
            rcases Nat.lt_or_ge j 9 with h | h
            · exact h
            · exfalso
              have e : j = 9 := by omega
              subst e
              have := HST.out.2.2; omega
          have HSb := hid (fun w => l11Sub_any (R - j * b) b w (by
            have h1 : Lib.nDigits (R - j * b) ≤ Lib.nDigits b + 1 := nDigits_le (by rw [Nat.pow_succ]; have := Lib.lt_pow_nDigits b; have := HST.out.2.2; omega) (by omega)
            have := HBn.out; omega) hge)
          have HE : Hid (R - j * b - b = R - (j + 1) * b) := by show _ = _; rw [Nat.succ_mul]; omega
          rw [HE.out] at HSb
          have HJ2 : Hid ((j + 1) * b ≤ R) := by
            have h := HJ.out
            show _ ≤ _; rw [Nat.succ_mul]; omega
          obtain ⟨cv, HCV⟩ : ∃ cv : Int, Hid (cmpI (R - j * b) b = cv) := ⟨_, rfl⟩
          rw [HCV.out] at HCm
          have hcv : 0 ≤ cv := by rw [← HCV.out]; exact HV.out
          clear hge HV
          go_wp2_with fail
          refine (HCm.out _).mono ?_
          rintro e w' ⟨rfl, hw⟩
          obtain rfl := hw.symm
          go_wp2_with fail
          refine (HSb.out _).mono ?_
          rintro e w3 ⟨rfl, hw3⟩
          have HW3 := hid hw3
          clear hw3
          go_wp2_with fail
          refine ⟨⟨j + 1, rfl, by congr 1, HJ2, by omega, HB2.out.trans (HW3.out.mono hs2)⟩, by simp [intOf]; omega⟩
        · have HV : Hid (cmpI (R - j * b) b < 0) := by
            show _ < _; unfold cmpI; rw [if_pos (by omega)]; omega
          obtain ⟨cv, HCV⟩ : ∃ cv : Int, Hid (cmpI (R - j * b) b = cv) := ⟨_, rfl⟩
          rw [HCV.out] at HCm
          have hcv : cv < 0 := by rw [← HCV.out]; exact HV.out
          have HJq : Hid (R / b = j ∧ R % b = R - j * b) := by
            have h := HJ.out
            have hb := HBp.out
            have e : R = b * j + (R - j * b) := by rw [Nat.mul_comm b j]; omega
            generalize R - j * b = z at *
            constructor
            · rw [e, Nat.mul_add_div hb, Nat.div_eq_of_lt (by omega), Nat.add_zero]
            · rw [e, Nat.mul_add_mod, Nat.mod_eq_of_lt (by omega)]
          have HU2 : Hid (wr.ownsRow w.heap.size 5 1 (.slice (some ⟨g, 0, none⟩) k cap) k (byteL (digT k q))) := World.ownsRow.kept (row := none) HU.out ⟨HB2.out.os, HB2.out.tape, HB2.out.output, HB2.out.size, fun i hi _ => HB2.out.block i hi⟩ (Or.inr (by simp [Value.ownBlock]))
          have hsz2 : w.heap.size ≤ wr.heap.size := by omega
          clear hge HV
          go_wp2_with fail
          refine (HCm.out _).mono ?_
          rintro e w' ⟨rfl, hw⟩
          obtain rfl := hw.symm
          go_wp2_with (at_builtin; go_loud (refine wpList_append_lies _ rfl _ _ _ rfl w.heap.size 5 i0 (.int .u8 0) 1 1 Tryd.underlying67 Hi.out Hz0.out Hz1.out Hz2.out rfl (by decide) _ k (byteL (digT k q)) rfl (HU2.out.alloc _) ⟨wr.heap.size, 0, none⟩ 1 1 [.int .u8 ((48 + j : Nat) : Int)] rfl rfl (cell_one_newZ _ _ _) (by simp [Value.oneCell']) (by omega) (by unfold maxLen; omega) (by omega) (by simp; omega) (wr.heap.size + 1) (by simp) ?_; intro gg cc w4 hown' hg hat hgl; have hall := (World.grownBy_alloc wr _ _).trans hg))
          have hlow : ∀ g', (Value.slice (some ⟨g, 0, none⟩) k cap).ownBlock = some g' → w.heap.size ≤ g' := fun g' e => (HU2.out.lt g' e).1
          refine ⟨⟨k + 1, gg, cc, rfl, ?_, by go_num, by omega, ?_, (HB.out.trans (HB2.out.mono hsz)).grown hall hsz2 hlow⟩, by simp [intOf]; omega⟩
          · rw [HST.out.2.1, HJq.out.2]
          · show World.ownsRow _ _ _ _ _ _ _
            rw [HST.out.1, HJq.out.1, byteL_snoc k q j (by omega)]
            exact hown'
    · have hkn : k = n := by omega
      subst hkn
      have he : a / 10 ^ (k - k) = a := by rw [Nat.sub_self, Nat.pow_zero, Nat.div_one]
      rw [he] at HU ⊢
      have HCv := hid (conv_back wr w.heap.size k g cap _ HU.out)
      have HTr := hid (fun w => l11Trim_any k (a / b) w (by unfold maxLen; omega) (by have := Lib.nDigits_pos a; have := HNa.out; omega) (Nat.lt_of_le_of_lt (Nat.div_le_self _ _) (by rw [← HNa.out]; exact Lib.lt_pow_nDigits a)))
      have hcv := HCv.out
      clear he
      go_wp2_with fail
      refine (HTr.out _).mono ?_
      rintro e w' ⟨rfl, hw⟩
      obtain rfl := hw.symm
      go_wp2_with fail
      go_ret2
      exact ⟨rfl, HB.out⟩
theorem l11Div_any (a b : Nat) (w : World) (hn : Lib.nDigits a ≤ 10000) (hbn : Lib.nDigits b ≤ 10000) (hb : 0 < b) :
    Calls Tryd.prog 71 #[.string (dec a), .string (dec b)] w fun e w' => e = .returned (.tuple #[.string (dec (a / b)), .string (dec (a % b))]) ∧ Below w.heap.size w w' := l11Div_of a b _ w rfl hn hbn hb

/-- The greatest number that divides both. -/
theorem gcd_step (a b : Nat) : Nat.gcd a b = Nat.gcd b (a % b) := by rw [Nat.gcd_comm a b, Nat.gcd_rec b a, Nat.gcd_comm]

set_option maxRecDepth 20000 in
set_option maxHeartbeats 2000000 in
theorem l11Gcd_any (a b : Nat) (w : World) (hn : Lib.nDigits a ≤ 10000) (hbn : Lib.nDigits b ≤ 10000) :
    Calls Tryd.prog 34 #[.string (dec a), .string (dec b)] w fun e w' => e = .returned (.string (dec (Nat.gcd a b))) ∧ Below w.heap.size w w' := by
  obtain ⟨G, HG⟩ : ∃ G : Nat, Hid (Nat.gcd a b = G) := ⟨_, rfl⟩
  rw [HG.out]
  have HN := hid hn
  have HBn := hid hbn
  have hz : dec 0 = ⟨#[48]⟩ := by rw [dec_small (by decide)]; rfl
  have HZ := hid hz
  clear hn hbn hz
  go_enter Tryd.func34, Tryd.ntmps34
  go_wp2_with fail
  go_loopw [0, 1] (fun x y wr => ∃ (u v : Nat), x = .string (dec u) ∧ y = .string (dec v) ∧ Hid (Nat.gcd u v = G) ∧ Hid (Lib.nDigits u ≤ 10000) ∧ Hid (Lib.nDigits v ≤ 10000) ∧ Hid (Below w.heap.size w wr)) (fun _ y _ => match y with | .string t => valT t | _ => 0)
  case atStart => exact ⟨a, b, rfl, rfl, HG.out, HN.out, HBn.out, Below.refl _ _⟩
  case round =>
    obtain ⟨u, v, rfl, rfl, HGu, HNu, HNv, HB⟩ := hrel
    have hsz := HB.out.size
    by_cases hv : v = 0
    · subst hv
      have hne : ((dec 0).toList == [48]) = true := by rw [HZ.out, Go.ByteArray.toList_eq]; rfl
      have HU : Hid (u = G) := by rw [← HGu.out]; exact (Nat.gcd_zero_right u).symm
      go_wp2_with fail
      go_ret
      exact ⟨ret_strz (by rw [HU.out]), HB.out⟩
    · have hne : ((dec v).toList == [48]) = false := by
        rw [beq_eq_false_iff_ne]
        intro e
        rw [Go.ByteArray.toList_eq] at e
        have h2 : dec v = dec 0 := by rw [HZ.out]; exact ba_ext e
        exact hv (dec_inj h2)
      have HD := hid (fun w => l11Div_any u v w HNu.out HNv.out (by omega))
      have HM : Hid (valT (dec (u % v)) < valT (dec v)) := by
        show _ < _
        rw [valT_dec, valT_dec]
        exact Nat.mod_lt _ (by omega)
      have HGs : Hid (Nat.gcd v (u % v) = G) := by show _ = _; rw [← gcd_step]; exact HGu.out
      have HN2 : Hid (Lib.nDigits (u % v) ≤ 10000) := by
        show _ ≤ _
        exact Nat.le_trans (nDigits_mono (Nat.le_of_lt (Nat.mod_lt _ (by omega)))) HNv.out
      clear hv
      go_wp2_with fail
      refine (HD.out _).mono ?_
      rintro e w2 ⟨rfl, hw⟩
      have HW := hid hw
      clear hw
      go_wp2_with fail
      refine ⟨⟨v, u % v, rfl, rfl, HGs, HNv, HN2, HB.out.trans (HW.out.mono hsz)⟩, ?_⟩
      exact HM.out
end Go.Proofs.YtakicnplmcemnaaDoor
