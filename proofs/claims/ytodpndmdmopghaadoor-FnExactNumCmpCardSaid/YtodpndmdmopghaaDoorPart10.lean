/-
  The program's ratiosOf. Condition: the table of powers stands.
  The program's NumAdd, NumSub, NumMul, NumDiv, NumCmp. Condition: the table of powers stands. Made by wip/tools/genuo.py.
  The model's l12Make: a number of a sign, above and below. Condition: numerals of at most 1,000 digits.
  Digits with room above: setting one, adding a row of a product, carrying on. Condition: none.
-/
import Derived.Test.YtodpndmdmopghaaDoorPart9
import Derived.Test.YtodpndmdmopghaaDoorPart8
import Derived.Test.YtodpndmdmopghaaDoorPart4
import Derived.Test.YtodpndmdmopghaaDoorPart2
namespace Go.Proofs.YtodpndmdmopghaaDoor
open Go.RowKit Go.Siskin

/-- Four boxes of a call's own. -/
theorem boxes4 (w : World) (c1 c2 c3 c4 : Array Value) (t1 t2 t3 t4 : TypeId) {W : World} (h : Below (w.heap.size + 4) ((((w.alloc (.cells c1 t1)).alloc (.cells c2 t2)).alloc (.cells c3 t3)).alloc (.cells c4 t4)) W) :
    (Own W w.heap.size t1 c1 ∧ Own W (w.heap.size + 1) t2 c2) ∧ Own W (w.heap.size + 1 + 1) t3 c3 ∧ Own W (w.heap.size + 1 + 1 + 1) t4 c4 ∧ Below w.heap.size w W := by
  have hb : Below (w.heap.size + 3) (((w.alloc (.cells c1 t1)).alloc (.cells c2 t2)).alloc (.cells c3 t3)) W := ((Below.refl (w.heap.size + 3) _).alloc (by simp) _).trans (h.mono (by omega))
  obtain ⟨h1, h2, h3, h5⟩ := boxes3 w c1 c2 c3 t1 t2 t3 hb
  have h4 := own_new (((w.alloc (.cells c1 t1)).alloc (.cells c2 t2)).alloc (.cells c3 t3)) c4 t4
  rw [World.size_alloc, World.size_alloc, World.size_alloc] at h4
  exact ⟨⟨h1, h2⟩, h3, h4.keep h (by omega), h5⟩
/-- What stands behind two fractions that are laid there. -/
theorem frac_keep {w wa wb : World} {B : Nat} {c1 c2 : Array Value} (hb1 : Below B w wa) (hb2 : Below (wa.heap.size + 1) (wa.alloc (.cells c1 46)) wb) (hB : B ≤ wa.heap.size) {W : World} (h : Below (wb.heap.size + 1) (wb.alloc (.cells c2 46)) W) :
    Own W wa.heap.size 46 c1 ∧ Own W wb.heap.size 46 c2 ∧ Below B w W := by
  have hs := hb2.size
  rw [World.size_alloc] at hs
  have h1 : Own wb wa.heap.size 46 c1 := (own_new wa c1 46).keep hb2 (Nat.lt_succ_self _)
  have h2 := own_new wb c2 46
  have h1' : Own (wb.alloc (.cells c2 46)) wa.heap.size 46 c1 := (Below.heap_alloc _ _ _ (by omega)).trans h1
  refine ⟨h1'.keep h (by omega), h2.keep h (Nat.lt_succ_self _), ?_⟩
  exact ((hb1.alloc hB _).trans (hb2.mono (by omega))).trans (((Below.refl wb.heap.size wb).alloc (Nat.le_refl _) _).trans (h.mono (by omega)) |>.mono (by omega))

set_option maxRecDepth 20000 in
set_option maxHeartbeats 4000000 in
theorem ratiosOf_any (n1 n2 : Bool) (u1 v1 u2 v2 : ByteArray) (b1 b2 p1 p2 : Bool) (U1 D1 U2 D2 : Nat) (w : World)
    (h1 : ∀ w, Pow9 w → Calls Tryd.prog 26 #[.agg #[.bool n1, .string u1, .string v1]] w fun e w' => ∃ ua uc da dc, e = .returned (.tuple #[.agg #[.bool p1, .slice ua (grp U1).length uc, .slice da (grp D1).length dc], .bool b1]) ∧ NatA w' (.slice ua (grp U1).length uc) (grp U1) ∧ NatA w' (.slice da (grp D1).length dc) (grp D1) ∧ Below w.heap.size w w')
    (h2 : ∀ w, Pow9 w → Calls Tryd.prog 26 #[.agg #[.bool n2, .string u2, .string v2]] w fun e w' => ∃ ua uc da dc, e = .returned (.tuple #[.agg #[.bool p2, .slice ua (grp U2).length uc, .slice da (grp D2).length dc], .bool b2]) ∧ NatA w' (.slice ua (grp U2).length uc) (grp U2) ∧ NatA w' (.slice da (grp D2).length dc) (grp D2) ∧ Below w.heap.size w w')
    (hP : Pow9 w) :
    Calls Tryd.prog 49 #[.agg #[.bool n1, .string u1, .string v1], .agg #[.bool n2, .string u2, .string v2]] w fun e w' => ∃ a1 c1 e1 d1 a2 c2 e2 d2, e = .returned (.tuple #[.agg #[.bool p1, .slice a1 (grp U1).length c1, .bool false, .slice e1 (grp D1).length d1], .agg #[.bool p2, .slice a2 (grp U2).length c2, .bool false, .slice e2 (grp D2).length d2], .bool (b1 && b2)]) ∧
      NatA w' (.slice a1 (grp U1).length c1) (grp U1) ∧ NatA w' (.slice e1 (grp D1).length d1) (grp D1) ∧ NatA w' (.slice a2 (grp U2).length c2) (grp U2) ∧ NatA w' (.slice e2 (grp D2).length d2) (grp D2) ∧ Below w.heap.size w w' := by
  have HO1 := hid h1
  have HO2 := hid h2
  have HPw := hid hP
  have HRo := hid (fun n a b l c k d w => ratioOf_any n a b l c k d w)
  obtain ⟨W0, HW0⟩ : ∃ W, Hid ((((w.alloc (boxN n1 u1 v1)).alloc (boxN n2 u2 v2)).alloc (boxR false (.slice none 0 0) false (.slice none 0 0))).alloc (boxR false (.slice none 0 0) false (.slice none 0 0)) = W) := ⟨_, rfl⟩
  have HX : Hid (∀ W, Below (w.heap.size + 4) W0 W → (Own W w.heap.size 26 #[.bool n1, .string u1, .string v1] ∧ Own W (w.heap.size + 1) 26 #[.bool n2, .string u2, .string v2]) ∧ Own W (w.heap.size + 1 + 1) 79 #[.bool false, .slice none 0 0, .bool false, .slice none 0 0] ∧ Own W (w.heap.size + 1 + 1 + 1) 79 #[.bool false, .slice none 0 0, .bool false, .slice none 0 0] ∧ Below w.heap.size w W) := fun W h => by
    rw [← HW0.out] at h
    exact boxes4 w _ _ _ _ _ _ _ _ h
  have HS0 : Hid (w.heap.size + 4 ≤ W0.heap.size) := by show _ ≤ _; rw [← HW0.out]; simp
  have HB0 : Hid (Below (w.heap.size + 4) W0 W0) := Below.refl _ _
  obtain ⟨⟨x0, x1, x2⟩, -⟩ := own3V (HX.out _ HB0.out).1.1
  generalize (grp U1).length = l1 at *
  generalize (grp D1).length = k1 at *
  generalize (grp U2).length = l2 at *
  generalize (grp D2).length = k2 at *
  clear h1 h2 hP
  go_enter Tryd.func49, Tryd.ntmps49
  go_wp2_with fail
  rw [HW0.out]
  go_wp2_with fail
  refine (HO1.out _ (HPw.out.below (HX.out _ HB0.out).2.2.2 (Nat.le_refl _))).mono ?_
  rintro e wa ⟨a1, c1, e1, d1, rfl, ha, hd, hw1⟩
  have HA1 := hid ha
  have HD1 := hid hd
  have HBa := hid (HB0.out.trans (hw1.mono HS0.out))
  have hsa : w.heap.size + 4 ≤ wa.heap.size := Nat.le_trans HS0.out HBa.out.size
  clear ha hd hw1 x0 x1 x2
  have HBa2 := hid (HBa.out.alloc hsa (.cells #[.bool p1, .slice a1 l1 c1, .slice e1 k1 d1] 46))
  obtain ⟨⟨x0, x1, x2⟩, -⟩ := own3V (HX.out _ HBa2.out).1.2
  go_wp2_with fail
  refine (HO2.out _ (HPw.out.below (HX.out _ HBa2.out).2.2.2 (Nat.le_refl _))).mono ?_
  rintro e wb ⟨a2, c2, e2, d2, rfl, ha, hd, hw1⟩
  have HA2 := hid ha
  have HD2 := hid hd
  have HBb : Hid (Below (wa.heap.size + 1) (wa.alloc (.cells #[.bool p1, .slice a1 l1 c1, .slice e1 k1 d1] 46)) wb) := by
    rw [World.size_alloc] at hw1; exact hw1
  have hsb : wa.heap.size + 1 ≤ wb.heap.size := by have := HBb.out.size; rw [World.size_alloc] at this; exact this
  clear ha hd hw1 x0 x1 x2
  obtain ⟨W1, HW1⟩ : ∃ W, Hid (wb.alloc (.cells #[.bool p2, .slice a2 l2 c2, .slice e2 k2 d2] 46) = W) := ⟨_, rfl⟩
  have HY : Hid (∀ W, Below (wb.heap.size + 1) W1 W → Own W wa.heap.size 46 #[.bool p1, .slice a1 l1 c1, .slice e1 k1 d1] ∧ Own W wb.heap.size 46 #[.bool p2, .slice a2 l2 c2, .slice e2 k2 d2] ∧ Below (w.heap.size + 4) W0 W) := fun W h => by
    rw [← HW1.out] at h
    exact frac_keep HBa.out HBb.out hsa h
  have HNs : Hid (∀ W, Below (wb.heap.size + 1) W1 W → (NatA W (.slice a1 l1 c1) (grp U1) ∧ NatA W (.slice e1 k1 d1) (grp D1)) ∧ NatA W (.slice a2 l2 c2) (grp U2) ∧ NatA W (.slice e2 k2 d2) (grp D2)) := fun W h => by
    rw [← HW1.out] at h
    have hbw : Below wb.heap.size wb W := ((Below.refl _ _).alloc (Nat.le_refl _) _).trans (h.mono (by omega))
    have hba : Below wa.heap.size wa W := (((Below.refl wa.heap.size wa).alloc (Nat.le_refl _) _).trans (HBb.out.mono (by omega))).trans (hbw.mono (by omega))
    exact ⟨⟨HA1.out.below hba (Nat.le_refl _), HD1.out.below hba (Nat.le_refl _)⟩, HA2.out.below hbw (Nat.le_refl _), HD2.out.below hbw (Nat.le_refl _)⟩
  have HS1 : Hid (wb.heap.size + 1 ≤ W1.heap.size) := by show _ ≤ _; rw [← HW1.out]; simp
  have HSt4 : Hid (∀ W, Below (wb.heap.size + 1) W1 W → ∀ x y z t : Value, (((((W.setCell ⟨w.heap.size + 1 + 1, 0, none⟩ x).setCell ⟨w.heap.size + 1 + 1, 1, none⟩ y).setCell ⟨w.heap.size + 1 + 1, 2, none⟩ z).setCell ⟨w.heap.size + 1 + 1, 3, none⟩ t).cell? ⟨wa.heap.size, 0, none⟩ = some (.bool p1) ∧ ((((W.setCell ⟨w.heap.size + 1 + 1, 0, none⟩ x).setCell ⟨w.heap.size + 1 + 1, 1, none⟩ y).setCell ⟨w.heap.size + 1 + 1, 2, none⟩ z).setCell ⟨w.heap.size + 1 + 1, 3, none⟩ t).cell? ⟨wa.heap.size, 1, none⟩ = some (.slice a1 l1 c1) ∧ ((((W.setCell ⟨w.heap.size + 1 + 1, 0, none⟩ x).setCell ⟨w.heap.size + 1 + 1, 1, none⟩ y).setCell ⟨w.heap.size + 1 + 1, 2, none⟩ z).setCell ⟨w.heap.size + 1 + 1, 3, none⟩ t).cell? ⟨wa.heap.size, 2, none⟩ = some (.slice e1 k1 d1)) ∧ ((((W.setCell ⟨w.heap.size + 1 + 1, 0, none⟩ x).setCell ⟨w.heap.size + 1 + 1, 1, none⟩ y).setCell ⟨w.heap.size + 1 + 1, 2, none⟩ z).setCell ⟨w.heap.size + 1 + 1, 3, none⟩ t).cell? ⟨wb.heap.size, 0, none⟩ = some (.bool p2) ∧ ((((W.setCell ⟨w.heap.size + 1 + 1, 0, none⟩ x).setCell ⟨w.heap.size + 1 + 1, 1, none⟩ y).setCell ⟨w.heap.size + 1 + 1, 2, none⟩ z).setCell ⟨w.heap.size + 1 + 1, 3, none⟩ t).cell? ⟨wb.heap.size, 1, none⟩ = some (.slice a2 l2 c2) ∧ ((((W.setCell ⟨w.heap.size + 1 + 1, 0, none⟩ x).setCell ⟨w.heap.size + 1 + 1, 1, none⟩ y).setCell ⟨w.heap.size + 1 + 1, 2, none⟩ z).setCell ⟨w.heap.size + 1 + 1, 3, none⟩ t).cell? ⟨wb.heap.size, 2, none⟩ = some (.slice e2 k2 d2)) := fun W h x y z t => by
    have h0 := HY.out W h
    exact ⟨(own3V (own_set4 h0.1 (by omega) x y z t)).1, (own3V (own_set4 h0.2.1 (by omega) x y z t)).1⟩
  have HSt8 : Hid (∀ W, Below (wb.heap.size + 1) W1 W → ∀ x y z t x' y' z' t' : Value, (((((((((W.setCell ⟨w.heap.size + 1 + 1, 0, none⟩ x).setCell ⟨w.heap.size + 1 + 1, 1, none⟩ y).setCell ⟨w.heap.size + 1 + 1, 2, none⟩ z).setCell ⟨w.heap.size + 1 + 1, 3, none⟩ t).setCell ⟨w.heap.size + 1 + 1 + 1, 0, none⟩ x').setCell ⟨w.heap.size + 1 + 1 + 1, 1, none⟩ y').setCell ⟨w.heap.size + 1 + 1 + 1, 2, none⟩ z').setCell ⟨w.heap.size + 1 + 1 + 1, 3, none⟩ t').cell? ⟨wa.heap.size, 0, none⟩ = some (.bool p1) ∧ ((((((((W.setCell ⟨w.heap.size + 1 + 1, 0, none⟩ x).setCell ⟨w.heap.size + 1 + 1, 1, none⟩ y).setCell ⟨w.heap.size + 1 + 1, 2, none⟩ z).setCell ⟨w.heap.size + 1 + 1, 3, none⟩ t).setCell ⟨w.heap.size + 1 + 1 + 1, 0, none⟩ x').setCell ⟨w.heap.size + 1 + 1 + 1, 1, none⟩ y').setCell ⟨w.heap.size + 1 + 1 + 1, 2, none⟩ z').setCell ⟨w.heap.size + 1 + 1 + 1, 3, none⟩ t').cell? ⟨wa.heap.size, 1, none⟩ = some (.slice a1 l1 c1) ∧ ((((((((W.setCell ⟨w.heap.size + 1 + 1, 0, none⟩ x).setCell ⟨w.heap.size + 1 + 1, 1, none⟩ y).setCell ⟨w.heap.size + 1 + 1, 2, none⟩ z).setCell ⟨w.heap.size + 1 + 1, 3, none⟩ t).setCell ⟨w.heap.size + 1 + 1 + 1, 0, none⟩ x').setCell ⟨w.heap.size + 1 + 1 + 1, 1, none⟩ y').setCell ⟨w.heap.size + 1 + 1 + 1, 2, none⟩ z').setCell ⟨w.heap.size + 1 + 1 + 1, 3, none⟩ t').cell? ⟨wa.heap.size, 2, none⟩ = some (.slice e1 k1 d1)) ∧ ((((((((W.setCell ⟨w.heap.size + 1 + 1, 0, none⟩ x).setCell ⟨w.heap.size + 1 + 1, 1, none⟩ y).setCell ⟨w.heap.size + 1 + 1, 2, none⟩ z).setCell ⟨w.heap.size + 1 + 1, 3, none⟩ t).setCell ⟨w.heap.size + 1 + 1 + 1, 0, none⟩ x').setCell ⟨w.heap.size + 1 + 1 + 1, 1, none⟩ y').setCell ⟨w.heap.size + 1 + 1 + 1, 2, none⟩ z').setCell ⟨w.heap.size + 1 + 1 + 1, 3, none⟩ t').cell? ⟨wb.heap.size, 0, none⟩ = some (.bool p2) ∧ ((((((((W.setCell ⟨w.heap.size + 1 + 1, 0, none⟩ x).setCell ⟨w.heap.size + 1 + 1, 1, none⟩ y).setCell ⟨w.heap.size + 1 + 1, 2, none⟩ z).setCell ⟨w.heap.size + 1 + 1, 3, none⟩ t).setCell ⟨w.heap.size + 1 + 1 + 1, 0, none⟩ x').setCell ⟨w.heap.size + 1 + 1 + 1, 1, none⟩ y').setCell ⟨w.heap.size + 1 + 1 + 1, 2, none⟩ z').setCell ⟨w.heap.size + 1 + 1 + 1, 3, none⟩ t').cell? ⟨wb.heap.size, 1, none⟩ = some (.slice a2 l2 c2) ∧ ((((((((W.setCell ⟨w.heap.size + 1 + 1, 0, none⟩ x).setCell ⟨w.heap.size + 1 + 1, 1, none⟩ y).setCell ⟨w.heap.size + 1 + 1, 2, none⟩ z).setCell ⟨w.heap.size + 1 + 1, 3, none⟩ t).setCell ⟨w.heap.size + 1 + 1 + 1, 0, none⟩ x').setCell ⟨w.heap.size + 1 + 1 + 1, 1, none⟩ y').setCell ⟨w.heap.size + 1 + 1 + 1, 2, none⟩ z').setCell ⟨w.heap.size + 1 + 1 + 1, 3, none⟩ t').cell? ⟨wb.heap.size, 2, none⟩ = some (.slice e2 k2 d2)) := fun W h x y z t x' y' z' t' => by
    have h0 := HY.out W h
    exact ⟨(own3V (own_set4 (own_set4 h0.1 (by omega) x y z t) (by omega) x' y' z' t')).1, (own3V (own_set4 (own_set4 h0.2.1 (by omega) x y z t) (by omega) x' y' z' t')).1⟩
  have hsx : w.heap.size + 1 + 1 < wa.heap.size := by omega
  have HL : Hid (∀ W, Below (wb.heap.size + 1) W1 W → (W.cell? ⟨wa.heap.size, 0, none⟩ = some (.bool p1) ∧ W.cell? ⟨wa.heap.size, 1, none⟩ = some (.slice a1 l1 c1) ∧ W.cell? ⟨wa.heap.size, 2, none⟩ = some (.slice e1 k1 d1)) ∧ W.cell? ⟨wb.heap.size, 0, none⟩ = some (.bool p2) ∧ W.cell? ⟨wb.heap.size, 1, none⟩ = some (.slice a2 l2 c2) ∧ W.cell? ⟨wb.heap.size, 2, none⟩ = some (.slice e2 k2 d2)) := fun W h => ⟨(own3V (HY.out W h).1).1, (own3V (HY.out W h).2.1).1⟩
  cases b1
  · go_wp2_with fail
    rw [HW1.out]
    have HB : Hid (Below (wb.heap.size + 1) W1 W1.drew) := (Below.refl _ _).drew
    have L0 := hid (HL.out _ HB.out)
    refine wp_region_held_drew (S := fun W => (W.cell? ⟨wa.heap.size, 0, none⟩ = some (.bool p1) ∧ W.cell? ⟨wa.heap.size, 1, none⟩ = some (.slice a1 l1 c1) ∧ W.cell? ⟨wa.heap.size, 2, none⟩ = some (.slice e1 k1 d1)) ∧ W.cell? ⟨wb.heap.size, 0, none⟩ = some (.bool p2) ∧ W.cell? ⟨wb.heap.size, 1, none⟩ = some (.slice a2 l2 c2) ∧ W.cell? ⟨wb.heap.size, 2, none⟩ = some (.slice e2 k2 d2)) rfl L0.out (fun _ => ?_)
    refine wpAnyH_take (i := 0) (oi := ({ dst := some 21, op := _, type := _, pos := _, after := _, guard := _ } : Oper)) (v := (.agg #[.bool p1, .slice a1 l1 c1, .slice e1 k1 d1])) rfl (by kernel_rfl) (by kernel_rfl) (by kernel_rfl) (fun _ _ _ h => h) (Or.inl ⟨by rfl, ?_⟩) L0.out ?_
    · intro w hSw; (try dsimp only at hSw); go_simp
    try simp only [Act.put, List.setIfInBounds_toArray, List.set_cons_zero, List.set_cons_succ]
    refine wpAnyH_take (i := 2) (oi := ({ dst := some 23, op := _, type := _, pos := _, after := _, guard := _ } : Oper)) (v := (.agg #[.bool p2, .slice a2 l2 c2, .slice e2 k2 d2])) rfl (by kernel_rfl) (by kernel_rfl) (by kernel_rfl) (fun _ _ _ h => h) (Or.inl ⟨by rfl, ?_⟩) L0.out ?_
    · intro w hSw; (try dsimp only at hSw); go_simp
    try simp only [Act.put, List.setIfInBounds_toArray, List.set_cons_zero, List.set_cons_succ]
    refine wpAnyH_take (i := 4) (oi := ({ dst := some 25, op := _, type := _, pos := _, after := _, guard := _ } : Oper)) (v := (.bool false)) rfl (by kernel_rfl) (by kernel_rfl) (by kernel_rfl) (fun _ _ _ h => h) (Or.inl ⟨by rfl, ?_⟩) L0.out ?_
    · intro w hSw; (try dsimp only at hSw); go_simp
    try simp only [Act.put, List.setIfInBounds_toArray, List.set_cons_zero, List.set_cons_succ]
    refine wpAnyH_ready (rs := [1]) (by kernel_rfl) (by simp) ?_
    refine AllReadyH.cons (o := ({ dst := some 22, op := _, type := _, pos := _, after := _, guard := _ } : Oper)) rfl (fun K hK => ?_) AllReadyH.nil
    go_simp
    go_at_call 77
    refine (HRo.out _ _ _ _ _ _ _ _).mono ?_
    rintro e w5 ⟨rfl, hw5⟩
    have HB := hid (HB.out.trans (hw5.mono (Nat.le_trans HS1.out HB.out.size)))
    have L1 := hid (HL.out _ HB.out)
    clear hw5
    go_wp2_with fail
    refine hK.out _ _ L1.out (fun _ => ?_)
    clear hK K
    try simp only [Act.put, List.setIfInBounds_toArray, List.set_cons_zero, List.set_cons_succ]
    refine wpAnyH_ready (rs := [3]) (by kernel_rfl) (by simp) ?_
    refine AllReadyH.cons (o := ({ dst := some 24, op := _, type := _, pos := _, after := _, guard := _ } : Oper)) rfl (fun K hK => ?_) AllReadyH.nil
    go_simp
    go_at_call 77
    refine (HRo.out _ _ _ _ _ _ _ _).mono ?_
    rintro e w6 ⟨rfl, hw5⟩
    have HB := hid (HB.out.trans (hw5.mono (Nat.le_trans HS1.out HB.out.size)))
    have L2 := hid (HL.out _ HB.out)
    clear hw5
    go_wp2_with fail
    refine hK.out _ _ L2.out (fun _ => ?_)
    clear hK K
    try simp only [Act.put, List.setIfInBounds_toArray, List.set_cons_zero, List.set_cons_succ]
    refine wpAnyH_take (i := 5) (oi := ({ dst := some 26, op := _, type := _, pos := _, after := _, guard := _ } : Oper)) (v := (.bool false)) rfl (by kernel_rfl) (by kernel_rfl) (by kernel_rfl) (fun _ _ _ h => h) (Or.inl ⟨by rfl, ?_⟩) L2.out ?_
    · intro w hSw; (try dsimp only at hSw); go_simp
    try simp only [Act.put, List.setIfInBounds_toArray, List.set_cons_zero, List.set_cons_succ]
    refine wpAnyH_take (i := 6) (oi := ({ dst := some 27, op := _, type := _, pos := _, after := _, guard := _ } : Oper)) (v := undef) rfl (by kernel_rfl) (by kernel_rfl) (by kernel_rfl) (fun _ _ _ h => h) (Or.inr ⟨by rfl, rfl⟩) L2.out ?_
    try simp only [Act.put, List.setIfInBounds_toArray, List.set_cons_zero, List.set_cons_succ]
    refine wpAnyH_take (i := 7) (oi := ({ dst := some 28, op := _, type := _, pos := _, after := _, guard := _ } : Oper)) (v := (.bool false)) rfl (by kernel_rfl) (by kernel_rfl) (by kernel_rfl) (fun _ _ _ h => h) (Or.inl ⟨by rfl, ?_⟩) L2.out ?_
    · intro w hSw; (try dsimp only at hSw); go_simp
    try simp only [Act.put, List.setIfInBounds_toArray, List.set_cons_zero, List.set_cons_succ]
    have HXW := hid (HX.out _ (HY.out _ HB.out).2.2)
    obtain ⟨⟨r0, r1, r2, r3⟩, q0, q1, q2, q3⟩ := own4V HXW.out.2.1
    obtain ⟨⟨s0, s1, s2, s3⟩, z0, z1, z2, z3⟩ := own4V HXW.out.2.2.1
    have L3 := hid (HSt4.out w6 HB.out (.bool p1) (.slice a1 l1 c1) (.bool false) (.slice e1 k1 d1))
    have L4 := hid (HSt8.out w6 HB.out (.bool p1) (.slice a1 l1 c1) (.bool false) (.slice e1 k1 d1) (.bool p2) (.slice a2 l2 c2) (.bool false) (.slice e2 k2 d2))
    refine wpAnyH_ready (rs := [8]) (by kernel_rfl) (by simp) ?_
    refine AllReadyH.cons (o := ({ dst := none, op := _, type := _, pos := _, after := _, guard := _ } : Oper)) rfl (fun K hK => ?_) AllReadyH.nil
    go_simp
    refine hK.out _ _ L3.out (fun _ => ?_)
    clear hK K
    try simp only [Act.put, List.setIfInBounds_toArray, List.set_cons_zero, List.set_cons_succ]
    refine wpAnyH_ready (rs := [9]) (by kernel_rfl) (by simp) ?_
    refine AllReadyH.cons (o := ({ dst := none, op := _, type := _, pos := _, after := _, guard := _ } : Oper)) rfl (fun K hK => ?_) AllReadyH.nil
    go_simp
    refine hK.out _ _ L4.out (fun _ => ?_)
    clear hK K
    try simp only [Act.put, List.setIfInBounds_toArray, List.set_cons_zero, List.set_cons_succ]
    refine wpAnyH_take (i := 10) (oi := ({ dst := some 6, op := _, type := _, pos := _, after := _, guard := _ } : Oper)) (v := (.bool false)) rfl (by kernel_rfl) (by kernel_rfl) (by kernel_rfl) (fun _ _ _ h => h) (Or.inl ⟨by rfl, ?_⟩) L4.out ?_
    · intro w hSw; (try dsimp only at hSw); go_simp
    try simp only [Act.put, List.setIfInBounds_toArray, List.set_cons_zero, List.set_cons_succ]
    refine wpAnyH_done (by kernel_rfl) ?_ _
    go_wp2_with fail
    refine bodyPost_ret (v := .tuple #[.agg #[.bool p1, .slice a1 l1 c1, .bool false, .slice e1 k1 d1], .agg #[.bool p2, .slice a2 l2 c2, .bool false, .slice e2 k2 d2], .bool false]) (by simp [results, Tryd.results49, go_sem, r0, r1, r2, r3, s0, s1, s2, s3]) rfl ⟨a1, c1, e1, d1, a2, c2, e2, d2, rfl, ?_⟩
    have hN := HNs.out _ HB.out
    have o1 := HXW.out.2.1
    have o2 := HXW.out.2.2.1
    refine ⟨?_, ?_, ?_, ?_, ?_⟩
    · exact natA_set4 (natA_set4 hN.1.1 o1 _ _ _ _) (own_set4 o2 (by omega) _ _ _ _) _ _ _ _
    · exact natA_set4 (natA_set4 hN.1.2 o1 _ _ _ _) (own_set4 o2 (by omega) _ _ _ _) _ _ _ _
    · exact natA_set4 (natA_set4 hN.2.1 o1 _ _ _ _) (own_set4 o2 (by omega) _ _ _ _) _ _ _ _
    · exact natA_set4 (natA_set4 hN.2.2 o1 _ _ _ _) (own_set4 o2 (by omega) _ _ _ _) _ _ _ _
    · exact below_set4 (below_set4 HXW.out.2.2.2 (by omega) _ _ _ _) (by omega) _ _ _ _
  · go_wp2_with fail
    rw [HW1.out]
    have HB : Hid (Below (wb.heap.size + 1) W1 W1.drew) := (Below.refl _ _).drew
    have L0 := hid (HL.out _ HB.out)
    refine wp_region_held_drew (S := fun W => (W.cell? ⟨wa.heap.size, 0, none⟩ = some (.bool p1) ∧ W.cell? ⟨wa.heap.size, 1, none⟩ = some (.slice a1 l1 c1) ∧ W.cell? ⟨wa.heap.size, 2, none⟩ = some (.slice e1 k1 d1)) ∧ W.cell? ⟨wb.heap.size, 0, none⟩ = some (.bool p2) ∧ W.cell? ⟨wb.heap.size, 1, none⟩ = some (.slice a2 l2 c2) ∧ W.cell? ⟨wb.heap.size, 2, none⟩ = some (.slice e2 k2 d2)) rfl L0.out (fun _ => ?_)
    refine wpAnyH_take (i := 0) (oi := ({ dst := some 21, op := _, type := _, pos := _, after := _, guard := _ } : Oper)) (v := (.agg #[.bool p1, .slice a1 l1 c1, .slice e1 k1 d1])) rfl (by kernel_rfl) (by kernel_rfl) (by kernel_rfl) (fun _ _ _ h => h) (Or.inl ⟨by rfl, ?_⟩) L0.out ?_
    · intro w hSw; (try dsimp only at hSw); go_simp
    try simp only [Act.put, List.setIfInBounds_toArray, List.set_cons_zero, List.set_cons_succ]
    refine wpAnyH_take (i := 2) (oi := ({ dst := some 23, op := _, type := _, pos := _, after := _, guard := _ } : Oper)) (v := (.agg #[.bool p2, .slice a2 l2 c2, .slice e2 k2 d2])) rfl (by kernel_rfl) (by kernel_rfl) (by kernel_rfl) (fun _ _ _ h => h) (Or.inl ⟨by rfl, ?_⟩) L0.out ?_
    · intro w hSw; (try dsimp only at hSw); go_simp
    try simp only [Act.put, List.setIfInBounds_toArray, List.set_cons_zero, List.set_cons_succ]
    refine wpAnyH_take (i := 4) (oi := ({ dst := some 25, op := _, type := _, pos := _, after := _, guard := _ } : Oper)) (v := (.bool true)) rfl (by kernel_rfl) (by kernel_rfl) (by kernel_rfl) (fun _ _ _ h => h) (Or.inl ⟨by rfl, ?_⟩) L0.out ?_
    · intro w hSw; (try dsimp only at hSw); go_simp
    try simp only [Act.put, List.setIfInBounds_toArray, List.set_cons_zero, List.set_cons_succ]
    refine wpAnyH_ready (rs := [1]) (by kernel_rfl) (by simp) ?_
    refine AllReadyH.cons (o := ({ dst := some 22, op := _, type := _, pos := _, after := _, guard := _ } : Oper)) rfl (fun K hK => ?_) AllReadyH.nil
    go_simp
    go_at_call 77
    refine (HRo.out _ _ _ _ _ _ _ _).mono ?_
    rintro e w5 ⟨rfl, hw5⟩
    have HB := hid (HB.out.trans (hw5.mono (Nat.le_trans HS1.out HB.out.size)))
    have L1 := hid (HL.out _ HB.out)
    clear hw5
    go_wp2_with fail
    refine hK.out _ _ L1.out (fun _ => ?_)
    clear hK K
    try simp only [Act.put, List.setIfInBounds_toArray, List.set_cons_zero, List.set_cons_succ]
    refine wpAnyH_ready (rs := [3]) (by kernel_rfl) (by simp) ?_
    refine AllReadyH.cons (o := ({ dst := some 24, op := _, type := _, pos := _, after := _, guard := _ } : Oper)) rfl (fun K hK => ?_) AllReadyH.nil
    go_simp
    go_at_call 77
    refine (HRo.out _ _ _ _ _ _ _ _).mono ?_
    rintro e w6 ⟨rfl, hw5⟩
    have HB := hid (HB.out.trans (hw5.mono (Nat.le_trans HS1.out HB.out.size)))
    have L2 := hid (HL.out _ HB.out)
    clear hw5
    go_wp2_with fail
    refine hK.out _ _ L2.out (fun _ => ?_)
    clear hK K
    try simp only [Act.put, List.setIfInBounds_toArray, List.set_cons_zero, List.set_cons_succ]
    refine wpAnyH_take (i := 5) (oi := ({ dst := some 26, op := _, type := _, pos := _, after := _, guard := _ } : Oper)) (v := (.bool true)) rfl (by kernel_rfl) (by kernel_rfl) (by kernel_rfl) (fun _ _ _ h => h) (Or.inl ⟨by rfl, ?_⟩) L2.out ?_
    · intro w hSw; (try dsimp only at hSw); go_simp
    try simp only [Act.put, List.setIfInBounds_toArray, List.set_cons_zero, List.set_cons_succ]
    refine wpAnyH_take (i := 6) (oi := ({ dst := some 27, op := _, type := _, pos := _, after := _, guard := _ } : Oper)) (v := (.bool b2)) rfl (by kernel_rfl) (by kernel_rfl) (by kernel_rfl) (fun _ _ _ h => h) (Or.inl ⟨by rfl, ?_⟩) L2.out ?_
    · intro w hSw; (try dsimp only at hSw); go_simp
    try simp only [Act.put, List.setIfInBounds_toArray, List.set_cons_zero, List.set_cons_succ]
    refine wpAnyH_take (i := 7) (oi := ({ dst := some 28, op := _, type := _, pos := _, after := _, guard := _ } : Oper)) (v := (.bool b2)) rfl (by kernel_rfl) (by kernel_rfl) (by kernel_rfl) (fun _ _ _ h => h) (Or.inl ⟨by rfl, ?_⟩) L2.out ?_
    · intro w hSw; (try dsimp only at hSw); go_simp
    try simp only [Act.put, List.setIfInBounds_toArray, List.set_cons_zero, List.set_cons_succ]
    have HXW := hid (HX.out _ (HY.out _ HB.out).2.2)
    obtain ⟨⟨r0, r1, r2, r3⟩, q0, q1, q2, q3⟩ := own4V HXW.out.2.1
    obtain ⟨⟨s0, s1, s2, s3⟩, z0, z1, z2, z3⟩ := own4V HXW.out.2.2.1
    have L3 := hid (HSt4.out w6 HB.out (.bool p1) (.slice a1 l1 c1) (.bool false) (.slice e1 k1 d1))
    have L4 := hid (HSt8.out w6 HB.out (.bool p1) (.slice a1 l1 c1) (.bool false) (.slice e1 k1 d1) (.bool p2) (.slice a2 l2 c2) (.bool false) (.slice e2 k2 d2))
    refine wpAnyH_ready (rs := [8]) (by kernel_rfl) (by simp) ?_
    refine AllReadyH.cons (o := ({ dst := none, op := _, type := _, pos := _, after := _, guard := _ } : Oper)) rfl (fun K hK => ?_) AllReadyH.nil
    go_simp
    refine hK.out _ _ L3.out (fun _ => ?_)
    clear hK K
    try simp only [Act.put, List.setIfInBounds_toArray, List.set_cons_zero, List.set_cons_succ]
    refine wpAnyH_ready (rs := [9]) (by kernel_rfl) (by simp) ?_
    refine AllReadyH.cons (o := ({ dst := none, op := _, type := _, pos := _, after := _, guard := _ } : Oper)) rfl (fun K hK => ?_) AllReadyH.nil
    go_simp
    refine hK.out _ _ L4.out (fun _ => ?_)
    clear hK K
    try simp only [Act.put, List.setIfInBounds_toArray, List.set_cons_zero, List.set_cons_succ]
    refine wpAnyH_take (i := 10) (oi := ({ dst := some 6, op := _, type := _, pos := _, after := _, guard := _ } : Oper)) (v := (.bool b2)) rfl (by kernel_rfl) (by kernel_rfl) (by kernel_rfl) (fun _ _ _ h => h) (Or.inl ⟨by rfl, ?_⟩) L4.out ?_
    · intro w hSw; (try dsimp only at hSw); go_simp
    try simp only [Act.put, List.setIfInBounds_toArray, List.set_cons_zero, List.set_cons_succ]
    refine wpAnyH_done (by kernel_rfl) ?_ _
    go_wp2_with fail
    refine bodyPost_ret (v := .tuple #[.agg #[.bool p1, .slice a1 l1 c1, .bool false, .slice e1 k1 d1], .agg #[.bool p2, .slice a2 l2 c2, .bool false, .slice e2 k2 d2], .bool b2]) (by simp [results, Tryd.results49, go_sem, r0, r1, r2, r3, s0, s1, s2, s3]) rfl ⟨a1, c1, e1, d1, a2, c2, e2, d2, rfl, ?_⟩
    have hN := HNs.out _ HB.out
    have o1 := HXW.out.2.1
    have o2 := HXW.out.2.2.1
    refine ⟨?_, ?_, ?_, ?_, ?_⟩
    · exact natA_set4 (natA_set4 hN.1.1 o1 _ _ _ _) (own_set4 o2 (by omega) _ _ _ _) _ _ _ _
    · exact natA_set4 (natA_set4 hN.1.2 o1 _ _ _ _) (own_set4 o2 (by omega) _ _ _ _) _ _ _ _
    · exact natA_set4 (natA_set4 hN.2.1 o1 _ _ _ _) (own_set4 o2 (by omega) _ _ _ _) _ _ _ _
    · exact natA_set4 (natA_set4 hN.2.2 o1 _ _ _ _) (own_set4 o2 (by omega) _ _ _ _) _ _ _ _
    · exact below_set4 (below_set4 HXW.out.2.2.2 (by omega) _ _ _ _) (by omega) _ _ _ _
end Go.Proofs.YtodpndmdmopghaaDoor

namespace Go.Proofs.YtodpndmdmopghaaDoor
open Go.RowKit Go.Siskin

theorem nG_sumZ {n1 n2 : Bool} {x y M : Nat} (hx : nG x ≤ M) (hy : nG y ≤ M) : nG (sumZ n1 x n2 y) ≤ M + 1 := by
  have h := sum_lim hx hy
  refine nG_le (Nat.lt_of_le_of_lt ?_ h)
  unfold sumZ
  split
  · exact Nat.le_refl _
  · split <;> omega
theorem ansQ_form (neg : Bool) (u d : Nat) : ∃ (n : Bool) (x y : ByteArray) (c : Int), ansQ neg u d = .tuple #[.agg #[.bool n, .string x, .string y], .int .i64 c] := by
  rcases ansQ_parts neg u d with ⟨n, x, y, -, h⟩ | ⟨-, h⟩
  · exact ⟨_, _, _, _, h⟩
  · exact ⟨_, _, _, _, h⟩
theorem below_set3 {B r : Nat} {w W : World} (h : Below B w W) (hr : B ≤ r) (x y z : Value) : Below B w (((W.setCell ⟨r, 0, none⟩ x).setCell ⟨r, 1, none⟩ y).setCell ⟨r, 2, none⟩ z) :=
  ((h.setCell (p := ⟨r, 0, none⟩) hr x).setCell (p := ⟨r, 1, none⟩) hr y).setCell (p := ⟨r, 2, none⟩) hr z
theorem own_set3 {w : World} {g r : Nat} {e : TypeId} {cs : Array Value} (h : Own w g e cs) (hne : g ≠ r) (x y z : Value) : Own (((w.setCell ⟨r, 0, none⟩ x).setCell ⟨r, 1, none⟩ y).setCell ⟨r, 2, none⟩ z) g e cs := by
  unfold Own
  rw [Below.heap_setCell _ ⟨r, 2, none⟩ _ _ hne, Below.heap_setCell _ ⟨r, 1, none⟩ _ _ hne, Below.heap_setCell _ ⟨r, 0, none⟩ _ _ hne]
  exact h
theorem size_set3 (W : World) (r : Nat) (x y z : Value) : (((W.setCell ⟨r, 0, none⟩ x).setCell ⟨r, 1, none⟩ y).setCell ⟨r, 2, none⟩ z).heap.size = W.heap.size := by simp [World.setCell]
abbrev box0 : Obj := .cells #[.bool false, .string ⟨#[]⟩, .string ⟨#[]⟩] 26

set_option maxRecDepth 20000 in
set_option maxHeartbeats 4000000 in
theorem implNumAdd_of (n1 n2 : Bool) (u1 v1 u2 v2 : ByteArray) (b1 b2 p1 p2 : Bool) (U1 D1 U2 D2 : Nat) (w : World)
    (h1 : ∀ w, Pow9 w → Calls Tryd.prog 26 #[.agg #[.bool n1, .string u1, .string v1]] w fun e w' => ∃ ua uc da dc, e = .returned (.tuple #[.agg #[.bool p1, .slice ua (grp U1).length uc, .slice da (grp D1).length dc], .bool b1]) ∧ NatA w' (.slice ua (grp U1).length uc) (grp U1) ∧ NatA w' (.slice da (grp D1).length dc) (grp D1) ∧ Below w.heap.size w w')
    (h2 : ∀ w, Pow9 w → Calls Tryd.prog 26 #[.agg #[.bool n2, .string u2, .string v2]] w fun e w' => ∃ ua uc da dc, e = .returned (.tuple #[.agg #[.bool p2, .slice ua (grp U2).length uc, .slice da (grp D2).length dc], .bool b2]) ∧ NatA w' (.slice ua (grp U2).length uc) (grp U2) ∧ NatA w' (.slice da (grp D2).length dc) (grp D2) ∧ Below w.heap.size w w')
    (g1 : nG U1 ≤ 60) (g2 : nG D1 ≤ 60) (g3 : nG U2 ≤ 60) (g4 : nG D2 ≤ 60) (hd : (b1 && b2) = true → 0 < D1 ∧ 0 < D2) (hP : Pow9 w) :
    Calls Tryd.prog 23 #[.agg #[.bool n1, .string u1, .string v1], .agg #[.bool n2, .string u2, .string v2]] w fun e w' => e = .returned (if (b1 && b2) = true then ansQ (sumN p1 (U1 * D2) p2 (U2 * D1)) (sumZ p1 (U1 * D2) p2 (U2 * D1)) (D1 * D2) else noAns 1) ∧ Below w.heap.size w w' := by
  have HRt := hid (fun w h => ratiosOf_any n1 n2 u1 v1 u2 v2 b1 b2 p1 p2 U1 D1 U2 D2 w h1 h2 h)
  have HPw := hid hP
  have HG := hid (And.intro (And.intro g1 g2) (And.intro g3 g4))
  have HD := hid hd
  have HB0 : Hid (Below (w.heap.size + 3) (((w.alloc (boxN n1 u1 v1)).alloc (boxN n2 u2 v2)).alloc box0) (((w.alloc (boxN n1 u1 v1)).alloc (boxN n2 u2 v2)).alloc box0)) := Below.refl _ _
  have HX : Hid (∀ W, Below (w.heap.size + 3) (((w.alloc (boxN n1 u1 v1)).alloc (boxN n2 u2 v2)).alloc box0) W → Own W (w.heap.size + 1 + 1) 26 #[.bool false, .string ⟨#[]⟩, .string ⟨#[]⟩] ∧ Below w.heap.size w W) := fun W h => (boxes3 w _ _ _ _ _ _ h).2.2
  clear h1 h2 g1 g2 g3 g4 hd hP
  obtain ⟨bb, hbb⟩ : ∃ b, (b1 && b2) = b := ⟨_, rfl⟩
  rw [hbb] at HRt HD ⊢
  clear hbb
  cases bb
  · have HV : Hid ((if false = true then ansQ (sumN p1 (U1 * D2) p2 (U2 * D1)) (sumZ p1 (U1 * D2) p2 (U2 * D1)) (D1 * D2) else noAns 1) = noAns 1) := if_neg (by decide)
    rw [HV.out]
    go_enter Tryd.func23, Tryd.ntmps23
    go_wp2_with fail
    refine (HRt.out _ (HPw.out.below (HX.out _ HB0.out).2 (Nat.le_refl _))).mono ?_
    rintro e wr ⟨a1, c1, e1, d1, a2, c2, e2, d2, rfl, -, -, -, -, hw⟩
    have HBr := hid (HB0.out.trans (hw.mono (by simp)))
    have hsr : w.heap.size + 3 ≤ wr.heap.size := by have := hw.size; simp at this; omega
    have hlr : w.heap.size + 1 + 1 < wr.heap.size := by omega
    have hlr2 : w.heap.size + 1 + 1 < wr.heap.size + 1 := by omega
    clear hw
    obtain ⟨⟨r0, r1, r2⟩, q0, q1, q2⟩ := own3V (HX.out _ HBr.out).1
    have hX := (HX.out _ HBr.out).2
    go_wp2_with fail
    refine bodyPost_ret (v := noAns 1) (by simp [results, Tryd.results23, go_sem, r0, r1, r2, hlr, hlr2]) rfl ⟨rfl, ?_⟩
    exact ((below_set3 hX (by omega) _ _ _).alloc (by rw [size_set3]; omega) _).alloc (by rw [World.size_alloc, size_set3]; omega) _
  · have HDp := hid (HD.out rfl)
    obtain ⟨ma, mx, my, mc, hmf⟩ := ansQ_form (sumN p1 (U1 * D2) p2 (U2 * D1)) (sumZ p1 (U1 * D2) p2 (U2 * D1)) (D1 * D2)
    have HV : Hid ((if true = true then ansQ (sumN p1 (U1 * D2) p2 (U2 * D1)) (sumZ p1 (U1 * D2) p2 (U2 * D1)) (D1 * D2) else noAns 1) = .tuple #[.agg #[.bool ma, .string mx, .string my], .int .i64 mc]) := by show _ = _; rw [if_pos rfl, hmf]
    have HMF := hid hmf
    rw [HV.out]
    clear HV hmf
    go_enter Tryd.func23, Tryd.ntmps23
    go_wp2_with fail
    refine (HRt.out _ (HPw.out.below (HX.out _ HB0.out).2 (Nat.le_refl _))).mono ?_
    rintro e wr ⟨a1, c1, e1, d1, a2, c2, e2, d2, rfl, hN1, hN2, hN3, hN4, hw⟩
    have HBr := hid (HB0.out.trans (hw.mono (by simp)))
    have hsr : w.heap.size + 3 ≤ wr.heap.size := by have := hw.size; simp at this; omega
    have hlr : w.heap.size + 1 + 1 < wr.heap.size := by omega
    clear hw
    have HW : Hid (∀ W, Below (wr.heap.size + 2) ((wr.alloc (boxR p1 (.slice a1 (grp U1).length c1) false (.slice e1 (grp D1).length d1))).alloc (boxR p2 (.slice a2 (grp U2).length c2) false (.slice e2 (grp D2).length d2))) W → Own W wr.heap.size 79 #[.bool p1, .slice a1 (grp U1).length c1, .bool false, .slice e1 (grp D1).length d1] ∧ Own W (wr.heap.size + 1) 79 #[.bool p2, .slice a2 (grp U2).length c2, .bool false, .slice e2 (grp D2).length d2] ∧ Below wr.heap.size wr W) := fun W h => boxes2 wr _ _ _ _ h
    have HRes : Hid (∀ W, Below wr.heap.size wr W → Own W (w.heap.size + 1 + 1) 26 #[.bool false, .string ⟨#[]⟩, .string ⟨#[]⟩] ∧ Below w.heap.size w W ∧ Pow9 W) := fun W h => by
      have h0 := HX.out _ (HBr.out.trans (h.mono hsr))
      exact ⟨h0.1, h0.2, HPw.out.below h0.2 (Nat.le_refl _)⟩
    have HNs : Hid (∀ W, Below wr.heap.size wr W → (NatA W (.slice a1 (grp U1).length c1) (grp U1) ∧ NatA W (.slice e1 (grp D1).length d1) (grp D1)) ∧ NatA W (.slice a2 (grp U2).length c2) (grp U2) ∧ NatA W (.slice e2 (grp D2).length d2) (grp D2)) := fun W h => ⟨⟨hN1.below h (Nat.le_refl _), hN2.below h (Nat.le_refl _)⟩, hN3.below h (Nat.le_refl _), hN4.below h (Nat.le_refl _)⟩
    clear hN1 hN2 hN3 hN4
    have HOv : Hid (∀ W, Below wr.heap.size wr W → Calls Tryd.prog 55 #[.agg #[.bool p1, .slice a1 (grp U1).length c1, .bool false, .slice e1 (grp D1).length d1], .agg #[.bool p2, .slice a2 (grp U2).length c2, .bool false, .slice e2 (grp D2).length d2], .func (.func 50) #[] #[]] W fun e w' => ∃ a c b d, e = .returned (.agg #[.bool (sumN p1 (U1 * D2) p2 (U2 * D1)), .slice a (grp (sumZ p1 (U1 * D2) p2 (U2 * D1))).length c, .bool false, .slice b (grp (D1 * D2)).length d]) ∧ NatA w' (.slice a (grp (sumZ p1 (U1 * D2) p2 (U2 * D1))).length c) (grp (sumZ p1 (U1 * D2) p2 (U2 * D1))) ∧ NatA w' (.slice b (grp (D1 * D2)).length d) (grp (D1 * D2)) ∧ Below W.heap.size W w') := fun W h => by
      have hn := HNs.out W h
      have hg := HG.out
      exact overSum_any p1 p2 U1 D1 U2 D2 _ _ _ _ _ _ _ _ _ _ _ _ W (hn.1.1) (hn.1.2) (hn.2.1) (hn.2.2) (by omega) (by omega) (by omega) (by omega)
    have HAn : Hid (∀ W a l c b k d, Below wr.heap.size wr W → NatA W (.slice a l c) (grp (sumZ p1 (U1 * D2) p2 (U2 * D1))) → NatA W (.slice b k d) (grp (D1 * D2)) → Calls Tryd.prog 54 #[.agg #[.bool (sumN p1 (U1 * D2) p2 (U2 * D1)), .slice a l c, .bool false, .slice b k d]] W fun e w' => e = .returned (.tuple #[.agg #[.bool ma, .string mx, .string my], .int .i64 mc]) ∧ Below W.heap.size W w') := fun W a l c b k d h hu hd => by
      have hg := HG.out
      have h := answerOf_any (sumN p1 (U1 * D2) p2 (U2 * D1)) false (sumZ p1 (U1 * D2) p2 (U2 * D1)) (D1 * D2) a b l c k d W hu hd (by have h1 := nG_mul U1 D2; have h2 := nG_mul U2 D1; exact Nat.le_trans (nG_sumZ (M := 120) (by omega) (by omega)) (by decide)) (by have := nG_mul D1 D2; have := nG_mul D1 U2; omega) (Nat.mul_pos HDp.out.1 (HDp.out.2)) (HRes.out W h).2.2
      rw [show ∀ b : Bool, (b != false) = b from fun b => by cases b <;> rfl, HMF.out] at h
      exact h
    have HB2 : Hid (Below (wr.heap.size + 2) ((wr.alloc (boxR p1 (.slice a1 (grp U1).length c1) false (.slice e1 (grp D1).length d1))).alloc (boxR p2 (.slice a2 (grp U2).length c2) false (.slice e2 (grp D2).length d2))) ((wr.alloc (boxR p1 (.slice a1 (grp U1).length c1) false (.slice e1 (grp D1).length d1))).alloc (boxR p2 (.slice a2 (grp U2).length c2) false (.slice e2 (grp D2).length d2)))) := Below.refl _ _
    have hw2 := HW.out _ HB2.out
    obtain ⟨⟨x0, x1, x2, x3⟩, -⟩ := own4V hw2.1
    obtain ⟨⟨y0, y1, y2, y3⟩, -⟩ := own4V hw2.2.1
    clear hw2
    go_wp2_with fail
    refine (HOv.out _ (HW.out _ HB2.out).2.2).mono ?_
    rintro e w5 ⟨oa, oc, ob, od, rfl, hu, hd, hw5⟩
    have HB5 := hid (HB2.out.trans (hw5.mono (by simp)))
    have HU := hid hu
    have HDd := hid hd
    clear hu hd hw5 x0 x1 x2 x3 y0 y1 y2 y3
    go_wp2_with fail
    refine (HAn.out _ _ _ _ _ _ _ (HW.out _ HB5.out).2.2 HU.out HDd.out).mono ?_
    rintro e w6 ⟨rfl, hw6⟩
    have HB6 := hid (HB5.out.trans (hw6.mono (Nat.le_trans (by simp) HB5.out.size)))
    clear hw6
    obtain ⟨⟨r0, r1, r2⟩, q0, q1, q2⟩ := own3V (HRes.out _ (HW.out _ HB6.out).2.2).1
    go_wp2_with fail
    refine bodyPost_ret (v := .tuple #[.agg #[.bool ma, .string mx, .string my], .int .i64 mc]) (by simp [results, Tryd.results23, go_sem, r0, r1, r2]) rfl ⟨rfl, ?_⟩
    exact below_set3 (HRes.out _ (HW.out _ HB6.out).2.2).2.1 (by omega) _ _ _
end Go.Proofs.YtodpndmdmopghaaDoor

namespace Go.Proofs.YtodpndmdmopghaaDoor
open Go.RowKit Go.Siskin

abbrev noNum : Value := .tuple #[.agg #[.bool false, .string ⟨#[]⟩, .string ⟨#[]⟩], .bool false]
def makeV (neg : Bool) (u d : Nat) : Value := if d = 0 then noNum else closedV neg (u / Nat.gcd u d) (d / Nat.gcd u d)

set_option maxRecDepth 20000 in
set_option maxHeartbeats 1000000 in
theorem l12Make_any (neg : Bool) (u d : Nat) (w : World) (hu : Lib.nDigits u ≤ 1000) (hd : Lib.nDigits d ≤ 1000) :
    Calls Tryd.prog 36 #[.bool neg, .string (dec u), .string (dec d)] w fun e w' => e = .returned (makeV neg u d) ∧ Below w.heap.size w w' := by
  have HBw : Hid (Below (w.heap.size + 1) (w.alloc (.cells #[.bool false, .string ⟨#[]⟩, .string ⟨#[]⟩] 26)) (w.alloc (.cells #[.bool false, .string ⟨#[]⟩, .string ⟨#[]⟩] 26))) := Below.refl _ _
  obtain ⟨n0, n1, n2⟩ := res3 HBw.out
  obtain ⟨f0, f1, f2⟩ := res3f HBw.out
  have hzd := nought_text d
  by_cases hd0 : d = 0
  · rw [decide_eq_true hd0] at hzd
    have HV : Hid (makeV neg u d = noNum) := by show _ = _; unfold makeV; rw [if_pos hd0]
    rw [HV.out]
    clear hd0 hu hd
    generalize dec u = ut at *
    generalize dec d = dt at *
    go_enter Tryd.func36, Tryd.ntmps36
    go_wp2_with fail
    refine bodyPost_ret (v := noNum) (by simp [results, Tryd.results36, go_sem, n0, n1, n2]) rfl ⟨rfl, ?_⟩
    first | exact res_done HBw.out | exact below3 (res_done HBw.out) _ _ _
  · rw [decide_eq_false hd0] at hzd
    obtain ⟨G, HG⟩ : ∃ G : Nat, Hid (Nat.gcd u d = G) := ⟨_, rfl⟩
    have HGc := hid (fun w => l11Gcd_any u d w (by omega) (by omega))
    have hG0 : 0 < G := by rw [← HG.out]; exact Nat.gcd_pos_of_pos_right _ (by omega)
    have hGd : Lib.nDigits G ≤ 1000 := Nat.le_trans (nDigits_mono (by rw [← HG.out]; exact Nat.gcd_le_right _ (by omega))) hd
    rw [HG.out] at HGc
    have HDu := hid (fun w => l11Div_any u G w (by omega) (by omega) hG0)
    have HDd := hid (fun w => l11Div_any d G w (by omega) (by omega) hG0)
    obtain ⟨A, HA⟩ : ∃ A : Nat, Hid (u / G = A) := ⟨_, rfl⟩
    obtain ⟨B, HB⟩ : ∃ B : Nat, Hid (d / G = B) := ⟨_, rfl⟩
    have HV : Hid (makeV neg u d = if (dec A).size ≤ 60 ∧ (dec B).size ≤ 60 then .tuple #[.agg #[.bool (neg && !(A == 0)), .string (dec A), .string (dec B)], .bool true] else noNum) := by
      show _ = _
      unfold makeV
      rw [if_neg hd0, HG.out, HA.out, HB.out, dec_size, dec_size]
      rfl
    have hza := nought_text A
    have hqa : (A == 0) = decide (A = 0) := by rw [Bool.eq_iff_iff]; simp
    rw [hqa] at HV
    rw [HV.out]
    rw [HA.out] at HDu
    rw [HB.out] at HDd
    generalize decide (A = 0) = az at *
    generalize dec A = aT at *
    generalize dec B = bT at *
    generalize dec (u % G) = um at *
    generalize dec (d % G) = dm at *
    generalize dec G = gt at *
    generalize dec u = ut at *
    generalize dec d = dt at *
    obtain ⟨ZV, HZV⟩ : ∃ Z, Hid ((if aT.size ≤ 60 ∧ bT.size ≤ 60 then Value.tuple #[.agg #[.bool (neg && !az), .string aT, .string bT], .bool true] else noNum) = Z) := ⟨_, rfl⟩
    rw [HZV.out]
    clear hd0 hu hd hG0 hGd hqa
    have hzn : (aT.toList != [48]) = !az := by rw [bne, hza]
    have hparts : 60 < aT.size ∨ (¬ 60 < aT.size ∧ 60 < bT.size) ∨ (¬ 60 < aT.size ∧ ¬ 60 < bT.size) := by omega
    rcases hparts with h1 | ⟨h1, h2⟩ | ⟨h1, h2⟩
    · have HE : Hid (ZV = noNum) := by show _ = _; rw [← HZV.out, if_neg (by omega)]
      go_enter Tryd.func36, Tryd.ntmps36
      go_wp2_with fail
      refine (HGc.out _).mono ?_
      rintro e w1 ⟨rfl, hw1⟩
      have HB1 := hid (res_step HBw.out hw1)
      clear hw1
      go_wp2_with fail
      refine (HDu.out _).mono ?_
      rintro e w2 ⟨rfl, hw2⟩
      have HB2 := hid (res_step HB1.out hw2)
      clear hw2
      go_wp2_with fail
      refine (HDd.out _).mono ?_
      rintro e w3 ⟨rfl, hw3⟩
      have HB3 := hid (res_step HB2.out hw3)
      clear hw3 n0 n1 n2 f0 f1 f2
      obtain ⟨n0, n1, n2⟩ := res3 HB3.out
      obtain ⟨f0, f1, f2⟩ := res3f HB3.out
      go_wp2_with fail
      refine bodyPost_ret (v := noNum) (by simp [results, Tryd.results36, go_sem, n0, n1, n2]) rfl ⟨by rw [HE.out], ?_⟩
      first | exact res_done HB3.out | exact below3 (res_done HB3.out) _ _ _
    · have HE : Hid (ZV = noNum) := by show _ = _; rw [← HZV.out, if_neg (by omega)]
      go_enter Tryd.func36, Tryd.ntmps36
      go_wp2_with fail
      refine (HGc.out _).mono ?_
      rintro e w1 ⟨rfl, hw1⟩
      have HB1 := hid (res_step HBw.out hw1)
      clear hw1
      go_wp2_with fail
      refine (HDu.out _).mono ?_
      rintro e w2 ⟨rfl, hw2⟩
      have HB2 := hid (res_step HB1.out hw2)
      clear hw2
      go_wp2_with fail
      refine (HDd.out _).mono ?_
      rintro e w3 ⟨rfl, hw3⟩
      have HB3 := hid (res_step HB2.out hw3)
      clear hw3 n0 n1 n2 f0 f1 f2
      obtain ⟨n0, n1, n2⟩ := res3 HB3.out
      obtain ⟨f0, f1, f2⟩ := res3f HB3.out
      go_wp2_with fail
      refine bodyPost_ret (v := noNum) (by simp [results, Tryd.results36, go_sem, n0, n1, n2]) rfl ⟨by rw [HE.out], ?_⟩
      first | exact res_done HB3.out | exact below3 (res_done HB3.out) _ _ _
    · have HE : Hid (ZV = .tuple #[.agg #[.bool (neg && !az), .string aT, .string bT], .bool true]) := by show _ = _; rw [← HZV.out, if_pos (by omega)]
      cases neg <;> cases az
      all_goals
        go_enter Tryd.func36, Tryd.ntmps36
        go_wp2_with fail
        refine (HGc.out _).mono ?_
        rintro e w1 ⟨rfl, hw1⟩
        have HB1 := hid (res_step HBw.out hw1)
        clear hw1
        go_wp2_with fail
        refine (HDu.out _).mono ?_
        rintro e w2 ⟨rfl, hw2⟩
        have HB2 := hid (res_step HB1.out hw2)
        clear hw2
        go_wp2_with fail
        refine (HDd.out _).mono ?_
        rintro e w3 ⟨rfl, hw3⟩
        have HB3 := hid (res_step HB2.out hw3)
        clear hw3 n0 n1 n2 f0 f1 f2
        obtain ⟨n0, n1, n2⟩ := res3 HB3.out
        obtain ⟨f0, f1, f2⟩ := res3f HB3.out
        go_wp2_with fail
        refine bodyPost_ret (v := .tuple #[.agg #[.bool _, .string aT, .string bT], .bool true]) (by simp [results, Tryd.results36, go_sem, n0, n1, n2]; rfl) rfl ⟨by rw [HE.out]; rfl, ?_⟩
        first | exact res_done HB3.out | exact below3 (res_done HB3.out) _ _ _
end Go.Proofs.YtodpndmdmopghaaDoor

namespace Go.Proofs.YtodpndmdmopghaaDoor
open Go.RowKit Go.Siskin

theorem lowD_set : ∀ (ds : List Nat) (i x : Nat) (h : i < ds.length), lowD (ds.set i x) + ds[i] * 10 ^ i = lowD ds + x * 10 ^ i
  | d :: r, 0, x, _ => by simp [lowD]; omega
  | d :: r, i + 1, x, h => by
    have h1 := lowD_set r i x (by simpa using h)
    rw [List.set_cons_succ, lowD, lowD, List.getElem_cons_succ, Nat.pow_succ, ← Nat.mul_assoc, ← Nat.mul_assoc]
    omega
theorem lowD_one : ∀ (ds : List Nat) (i : Nat) (h : i < ds.length), ds[i] * 10 ^ i ≤ lowD ds
  | d :: r, 0, _ => by simp [lowD]
  | d :: r, i + 1, h => by
    have h1 := lowD_one r i (by simpa using h)
    rw [lowD, List.getElem_cons_succ, Nat.pow_succ, ← Nat.mul_assoc]
    omega
theorem mod_step (v i : Nat) : v % 10 ^ (i + 1) = v % 10 ^ i + v / 10 ^ i % 10 * 10 ^ i := by
  rw [Nat.pow_succ, Nat.mod_mul, Nat.mul_comm (10 ^ i)]

/-- Behind k digits of b in row i of a. -/
def MulIn (a b i k L : Nat) (ds : List Nat) : Prop :=
  ds.length = L ∧ (∀ t, ds.getD t 0 ≤ 90) ∧ (∀ t, i + k ≤ t → ds.getD t 0 ≤ 9) ∧ lowD ds = a % 10 ^ i * b + a / 10 ^ i % 10 * 10 ^ i * (b % 10 ^ k)
theorem getD_setV (ds : List Nat) (i x t : Nat) : (ds.set i x).getD t 0 = if t = i ∧ i < ds.length then x else ds.getD t 0 := by
  rw [List.getD_eq_getElem?_getD, List.getD_eq_getElem?_getD, List.getElem?_set]
  by_cases h : i = t
  · subst h
    by_cases h2 : i < ds.length
    · simp [h2]
    · simp [h2]
  · rw [if_neg h, if_neg (fun e => h e.1.symm)]
theorem getD_atV {ds : List Nat} {t : Nat} (h : t < ds.length) : ds.getD t 0 = ds[t] := by rw [List.getD_eq_getElem?_getD, List.getElem?_eq_getElem h]; rfl
theorem mulIn_step {a b i k L x y : Nat} {ds : List Nat} (h : MulIn a b i k L ds) (hp : i + k < L) (hx : a / 10 ^ i % 10 = x) (hy : b / 10 ^ k % 10 = y) :
    MulIn a b i (k + 1) L (ds.set (i + k) (ds.getD (i + k) 0 + x * y)) := by
  obtain ⟨h1, h2, h3, h4⟩ := h
  have hxl : x ≤ 9 := by rw [← hx]; omega
  have hyl : y ≤ 9 := by rw [← hy]; omega
  have hxy : x * y ≤ 9 * 9 := Nat.mul_le_mul hxl hyl
  have h9 := h3 (i + k) (Nat.le_refl _)
  refine ⟨by rw [List.length_set]; exact h1, fun t => ?_, fun t ht => ?_, ?_⟩
  · rw [getD_setV]; split
    · omega
    · exact h2 t
  · rw [getD_setV, if_neg (by omega)]; exact h3 t (by omega)
  · have hs := lowD_set ds (i + k) (ds.getD (i + k) 0 + x * y) (by omega)
    rw [← getD_atV (by omega), Nat.add_mul, h4] at hs
    rw [mod_step b k, hx, hy, Nat.mul_add]
    rw [hx] at hs
    have e : x * 10 ^ i * (y * 10 ^ k) = x * y * 10 ^ (i + k) := by rw [Nat.pow_add, Nat.mul_mul_mul_comm]
    omega

/-- Behind j digits of the carrying. -/
def MulOut (V j L : Nat) (ds : List Nat) : Prop :=
  ds.length = L ∧ (∀ t, ds.getD t 0 ≤ 100) ∧ (∀ t, j < t → ds.getD t 0 ≤ 90) ∧ (∀ t, t < j → ds.getD t 0 ≤ 9) ∧ lowD ds = V
theorem mulOut_step {V j L : Nat} {ds : List Nat} (h : MulOut V j L ds) (hp : j + 1 < L) :
    MulOut V (j + 1) L ((ds.set (j + 1) (ds.getD (j + 1) 0 + ds.getD j 0 / 10)).set j (ds.getD j 0 % 10)) := by
  obtain ⟨h1, h2, h3, h4, h5⟩ := h
  have a1 := h2 j
  have a2 := h3 (j + 1) (Nat.lt_succ_self _)
  refine ⟨by rw [List.length_set, List.length_set]; exact h1, fun t => ?_, fun t ht => ?_, fun t ht => ?_, ?_⟩
  · rw [getD_setV, getD_setV]; split
    · omega
    · split
      · omega
      · exact h2 t
  · rw [getD_setV, getD_setV, if_neg (by omega), if_neg (by omega)]; exact h3 t (by omega)
  · rw [getD_setV, getD_setV]; split
    · omega
    · rename_i hne
      rw [List.length_set] at hne
      rw [if_neg (by omega)]
      exact h4 t (by omega)
  · have s1 := lowD_set ds (j + 1) (ds.getD (j + 1) 0 + ds.getD j 0 / 10) (by omega)
    have s2 := lowD_set (ds.set (j + 1) (ds.getD (j + 1) 0 + ds.getD j 0 / 10)) j (ds.getD j 0 % 10) (by rw [List.length_set]; omega)
    rw [← getD_atV (by omega)] at s1
    rw [← getD_atV (by rw [List.length_set]; omega), getD_setV, if_neg (by omega)] at s2
    rw [Nat.add_mul, Nat.pow_succ, ← Nat.mul_assoc, ← Nat.mul_assoc] at s1
    have e : ds.getD j 0 * 10 ^ j = (ds.getD j 0 / 10) * 10 ^ j * 10 + (ds.getD j 0 % 10) * 10 ^ j := by
      have := Nat.div_add_mod (ds.getD j 0) 10
      rw [Nat.mul_right_comm, ← Nat.add_mul]; congr 1; omega
    have e2 : ds.getD j 0 / 10 * (10 ^ j * 10) = ds.getD j 0 / 10 * 10 ^ j * 10 := by rw [Nat.mul_assoc]
    omega
theorem mulOut_end {V j L : Nat} {ds : List Nat} (h : MulOut V j L ds) (hj : j + 1 = L) (hV : V < 10 ^ L) : OkD ds := by
  obtain ⟨h1, h2, h3, h4, h5⟩ := h
  intro d hd
  obtain ⟨t, ht, rfl⟩ := List.getElem_of_mem hd
  rcases Nat.lt_or_ge t j with h | h
  · have := h4 t h; rw [getD_atV ht] at this; omega
  · have e : t = j := by omega
    subst e
    have h6 := lowD_one ds t ht
    rw [h5] at h6
    rw [← hj, Nat.pow_succ] at hV
    have h7 : ds[t] * 10 ^ t < 10 * 10 ^ t := by omega
    exact Nat.lt_of_mul_lt_mul_right h7
theorem mul_lt {a b i la lb : Nat} (hb : Lib.nDigits b = lb) (hi : i ≤ la) : a % 10 ^ i * b < 10 ^ (la + lb) := by
  have h1 : a % 10 ^ i < 10 ^ la := Nat.lt_of_lt_of_le (Nat.mod_lt _ (Nat.pow_pos (by decide))) (Nat.pow_le_pow_right (by decide) hi)
  have h2 : b < 10 ^ lb := by rw [← hb]; exact Lib.lt_pow_nDigits b
  rw [Nat.pow_add]
  exact Nat.lt_of_le_of_lt (Nat.mul_le_mul_left _ (Nat.le_of_lt h2)) (Nat.mul_lt_mul_of_pos_right h1 (Nat.pow_pos (by decide)))
theorem mulIn_start {a b i L : Nat} {ds : List Nat} (h1 : ds.length = L) (h2 : OkD ds) (h3 : lowD ds = a % 10 ^ i * b) : MulIn a b i 0 L ds := by
  have h9 : ∀ t, ds.getD t 0 ≤ 9 := fun t => by
    rcases Nat.lt_or_ge t ds.length with h | h
    · rw [getD_atV h]; have := h2 _ (List.getElem_mem h); omega
    · rw [List.getD_eq_getElem?_getD, List.getElem?_eq_none h]; simp
  exact ⟨h1, fun t => by have := h9 t; omega, fun t _ => h9 t, by rw [h3, Nat.pow_zero, Nat.mod_one, Nat.mul_zero, Nat.add_zero]⟩
theorem mulIn_out {a b i lb L : Nat} {ds : List Nat} (hb : Lib.nDigits b = lb) (h : MulIn a b i lb L ds) : MulOut (a % 10 ^ (i + 1) * b) 0 L ds := by
  obtain ⟨h1, h2, h3, h4⟩ := h
  refine ⟨h1, fun t => by have := h2 t; omega, fun t _ => h2 t, fun t ht => by omega, ?_⟩
  have e : b % 10 ^ lb = b := Nat.mod_eq_of_lt (by rw [← hb]; exact Lib.lt_pow_nDigits b)
  rw [h4, e, mod_step, Nat.add_mul]

/-- Ints that lie in a block of their own. -/
def GrI (w : World) (b : Nat) (ls : List Nat) : Prop := Own w b 3 (numL .i64 ls).toArray
theorem GrI.get {w : World} {b : Nat} {ls : List Nat} (h : GrI w b ls) (i : Nat) (hi : i < ls.length) : w.cell? ⟨b, i, none⟩ = some (.int .i64 ((ls.getD i 0 : Nat) : Int)) := by
  rw [Own.cell h i, List.getElem?_toArray, getD_atV hi]
  exact numL_get .i64 ls i hi
theorem GrI.set {w : World} {b : Nat} {ls : List Nat} (h : GrI w b ls) (i x : Nat) : GrI (w.setCell ⟨b, i, none⟩ (.int .i64 (x : Int))) b (ls.set i x) := by
  have := Own.set h i (.int .i64 (x : Int))
  unfold GrI
  rw [numL_set]
  simpa using this
theorem GrI.frozen {w : World} {b : Nat} {ls : List Nat} (h : GrI w b ls) (i : Nat) : w.frozen? ⟨b, i, none⟩ = false := Own.frozen h i
theorem GrI.ints {w : World} {b cap : Nat} {ls : List Nat} (h : GrI w b ls) (h1 : ls.length ≤ cap) (h2 : cap ≤ maxLen) : IntsAt (fun b => b < w.heap.size) w (.slice (some ⟨b, 0, none⟩) ls.length cap) (ls.map fun d : Nat => (d : Int)) := by
  refine ⟨some ⟨b, 0, none⟩, cap, by rw [List.length_map], ⟨by rw [List.length_map]; omega, by rw [List.length_map]; omega⟩, ?_⟩
  refine Or.inr ⟨b, 0, rfl, Own.lt h, fun i hi => ?_⟩
  rw [List.length_map] at hi
  rw [Nat.zero_add, h.get i hi, getD_atV hi]
  simp [List.getD_eq_getElem?_getD, hi]
theorem GrI.made (w : World) (n : Nat) : GrI (w.alloc (.cells (madeCells #[Value.int .i64 0] n) 3)) w.heap.size (List.replicate n 0) := by
  have h := own_new w (madeCells #[Value.int .i64 0] n) 3
  unfold GrI
  have e : (numL .i64 (List.replicate n 0)).toArray = madeCells #[Value.int .i64 0] n := by
    apply Array.ext
    · simp [numL, size_madeCells]
    · intro i h1 h2
      simp [numL, madeCells, Nat.mod_one]
  rw [e]; exact h
theorem lowD_zeros : ∀ n, lowD (List.replicate n 0) = 0
  | 0 => rfl
  | n + 1 => by rw [List.replicate_succ, lowD, lowD_zeros n]
end Go.Proofs.YtodpndmdmopghaaDoor
