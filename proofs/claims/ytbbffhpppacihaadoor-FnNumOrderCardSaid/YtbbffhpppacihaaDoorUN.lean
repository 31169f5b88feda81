/-
  The program's ratiosOf. Condition: the table of powers stands.
-/
import Derived.Test.YtbbffhpppacihaaDoorPart14
namespace Go.Proofs.YtbbffhpppacihaaDoor
open Go.RowKit Go.Siskin

/-- Four boxes of a call's own. -/
theorem boxes4 (w : World) (c1 c2 c3 c4 : Array Value) (t1 t2 t3 t4 : TypeId) {W : World} (h : Below (w.heap.size + 4) ((((w.alloc (.cells c1 t1)).alloc (.cells c2 t2)).alloc (.cells c3 t3)).alloc (.cells c4 t4)) W) :
    (Own W w.heap.size t1 c1 ∧ Own W (w.heap.size + 1) t2 c2) ∧ Own W (w.heap.size + 1 + 1) t3 c3 ∧ Own W (w.heap.size + 1 + 1 + 1) t4 c4 ∧ Below w.heap.size w W := by
  have hb : Below (w.heap.size + 3) (((w.alloc (.cells c1 t1)).alloc (.cells c2 t2)).alloc (.cells c3 t3)) W := ((Below.refl (w.heap.size + 3) _).alloc (by simp) _).trans (h.mono (by omega))
  obtain ⟨h1, h2, h3, h5⟩ := boxes3 w c1 c2 c3 t1 t2 t3 hb
  have h4 := own_new (((w.alloc (.cells c1 t1)).alloc (.cells c2 t2)).alloc (.cells c3 t3)) c4 t4
  rw [World.size_alloc, World.size_alloc, World.size_alloc] at h4
  exact ⟨⟨h1, h2⟩, h3, h4.keep h (by omega), h5⟩
/-- What stands behind two fractions that are laid there. -/
theorem frac_keep {w wa wb : World} {B : Nat} {c1 c2 : Array Value} (hb1 : Below B w wa) (hb2 : Below (wa.heap.size + 1) (wa.alloc (.cells c1 71)) wb) (hB : B ≤ wa.heap.size) {W : World} (h : Below (wb.heap.size + 1) (wb.alloc (.cells c2 71)) W) :
    Own W wa.heap.size 71 c1 ∧ Own W wb.heap.size 71 c2 ∧ Below B w W := by
  have hs := hb2.size
  rw [World.size_alloc] at hs
  have h1 : Own wb wa.heap.size 71 c1 := (own_new wa c1 71).keep hb2 (Nat.lt_succ_self _)
  have h2 := own_new wb c2 71
  have h1' : Own (wb.alloc (.cells c2 71)) wa.heap.size 71 c1 := (Below.heap_alloc _ _ _ (by omega)).trans h1
  refine ⟨h1'.keep h (by omega), h2.keep h (Nat.lt_succ_self _), ?_⟩
  exact ((hb1.alloc hB _).trans (hb2.mono (by omega))).trans (((Below.refl wb.heap.size wb).alloc (Nat.le_refl _) _).trans (h.mono (by omega)) |>.mono (by omega))

set_option maxRecDepth 20000 in
set_option maxHeartbeats 4000000 in
theorem ratiosOf_any (n1 n2 : Bool) (u1 v1 u2 v2 : ByteArray) (b1 b2 p1 p2 : Bool) (U1 D1 U2 D2 : Nat) (w : World)
    (h1 : ∀ w, Pow9 w → Calls Tryd.prog 49 #[.agg #[.bool n1, .string u1, .string v1]] w fun e w' => ∃ ua uc da dc, e = .returned (.tuple #[.agg #[.bool p1, .slice ua (grp U1).length uc, .slice da (grp D1).length dc], .bool b1]) ∧ NatA w' (.slice ua (grp U1).length uc) (grp U1) ∧ NatA w' (.slice da (grp D1).length dc) (grp D1) ∧ Below w.heap.size w w')
    (h2 : ∀ w, Pow9 w → Calls Tryd.prog 49 #[.agg #[.bool n2, .string u2, .string v2]] w fun e w' => ∃ ua uc da dc, e = .returned (.tuple #[.agg #[.bool p2, .slice ua (grp U2).length uc, .slice da (grp D2).length dc], .bool b2]) ∧ NatA w' (.slice ua (grp U2).length uc) (grp U2) ∧ NatA w' (.slice da (grp D2).length dc) (grp D2) ∧ Below w.heap.size w w')
    (hP : Pow9 w) :
    Calls Tryd.prog 44 #[.agg #[.bool n1, .string u1, .string v1], .agg #[.bool n2, .string u2, .string v2]] w fun e w' => ∃ a1 c1 e1 d1 a2 c2 e2 d2, e = .returned (.tuple #[.agg #[.bool p1, .slice a1 (grp U1).length c1, .bool false, .slice e1 (grp D1).length d1], .agg #[.bool p2, .slice a2 (grp U2).length c2, .bool false, .slice e2 (grp D2).length d2], .bool (b1 && b2)]) ∧
      NatA w' (.slice a1 (grp U1).length c1) (grp U1) ∧ NatA w' (.slice e1 (grp D1).length d1) (grp D1) ∧ NatA w' (.slice a2 (grp U2).length c2) (grp U2) ∧ NatA w' (.slice e2 (grp D2).length d2) (grp D2) ∧ Below w.heap.size w w' := by
  have HO1 := hid h1
  have HO2 := hid h2
  have HPw := hid hP
  have HRo := hid (fun n a b l c k d w => ratioOf_any n a b l c k d w)
  obtain ⟨W0, HW0⟩ : ∃ W, Hid ((((w.alloc (boxN n1 u1 v1)).alloc (boxN n2 u2 v2)).alloc (boxR false (.slice none 0 0) false (.slice none 0 0))).alloc (boxR false (.slice none 0 0) false (.slice none 0 0)) = W) := ⟨_, rfl⟩
  have HX : Hid (∀ W, Below (w.heap.size + 4) W0 W → (Own W w.heap.size 25 #[.bool n1, .string u1, .string v1] ∧ Own W (w.heap.size + 1) 25 #[.bool n2, .string u2, .string v2]) ∧ Own W (w.heap.size + 1 + 1) 61 #[.bool false, .slice none 0 0, .bool false, .slice none 0 0] ∧ Own W (w.heap.size + 1 + 1 + 1) 61 #[.bool false, .slice none 0 0, .bool false, .slice none 0 0] ∧ Below w.heap.size w W) := fun W h => by
    rw [← HW0.out] at h
    exact boxes4 w _ _ _ _ _ _ _ _ h
  have HS0 : Hid (w.heap.size + 4 ≤ W0.heap.size) := by show _ ≤ _; rw [← HW0.out]; simp
  have HB0 : Hid (Below (w.heap.size + 4) W0 W0) := Below.refl _ _
  obtain ⟨⟨x0, x1, x2⟩, -⟩ := own3V (HX.out _ HB0.out).1.1
  generalize (grp U1).length = l1 at *
  generalize (grp D1).length = k1 at *
  generalize (grp U2).length = l2 at *
  generalize (grp D2).length = k2 at *
  clear h1 h2 hP
  go_enter Tryd.func44, Tryd.ntmps44
  go_wp2_with fail
  rw [HW0.out]
  go_wp2_with fail
  refine (HO1.out _ (HPw.out.below (HX.out _ HB0.out).2.2.2 (Nat.le_refl _))).mono ?_
  rintro e wa ⟨a1, c1, e1, d1, rfl, ha, hd, hw1⟩
  have HA1 := hid ha
  have HD1 := hid hd
  have HBa := hid (HB0.out.trans (hw1.mono HS0.out))
  have hsa : w.heap.size + 4 ≤ wa.heap.size := Nat.le_trans HS0.out HBa.out.size
  clear ha hd hw1 x0 x1 x2
  have HBa2 := hid (HBa.out.alloc hsa (.cells #[.bool p1, .slice a1 l1 c1, .slice e1 k1 d1] 71))
  obtain ⟨⟨x0, x1, x2⟩, -⟩ := own3V (HX.out _ HBa2.out).1.2
  go_wp2_with fail
  refine (HO2.out _ (HPw.out.below (HX.out _ HBa2.out).2.2.2 (Nat.le_refl _))).mono ?_
  rintro e wb ⟨a2, c2, e2, d2, rfl, ha, hd, hw1⟩
  have HA2 := hid ha
  have HD2 := hid hd
  have HBb : Hid (Below (wa.heap.size + 1) (wa.alloc (.cells #[.bool p1, .slice a1 l1 c1, .slice e1 k1 d1] 71)) wb) := by
    rw [World.size_alloc] at hw1; exact hw1
  have hsb : wa.heap.size + 1 ≤ wb.heap.size := by have := HBb.out.size; rw [World.size_alloc] at this; exact this
  clear ha hd hw1 x0 x1 x2
  obtain ⟨W1, HW1⟩ : ∃ W, Hid (wb.alloc (.cells #[.bool p2, .slice a2 l2 c2, .slice e2 k2 d2] 71) = W) := ⟨_, rfl⟩
  have HY : Hid (∀ W, Below (wb.heap.size + 1) W1 W → Own W wa.heap.size 71 #[.bool p1, .slice a1 l1 c1, .slice e1 k1 d1] ∧ Own W wb.heap.size 71 #[.bool p2, .slice a2 l2 c2, .slice e2 k2 d2] ∧ Below (w.heap.size + 4) W0 W) := fun W h => by
    rw [← HW1.out] at h
    exact frac_keep HBa.out HBb.out hsa h
  have HNs : Hid (∀ W, Below (wb.heap.size + 1) W1 W → (NatA W (.slice a1 l1 c1) (grp U1) ∧ NatA W (.slice e1 k1 d1) (grp D1)) ∧ NatA W (.slice a2 l2 c2) (grp U2) ∧ NatA W (.slice e2 k2 d2) (grp D2)) := fun W h => by
    rw [← HW1.out] at h
    have hbw : Below wb.heap.size wb W := ((Below.refl _ _).alloc (Nat.le_refl _) _).trans (h.mono (by omega))
    have hba : Below wa.heap.size wa W := (((Below.refl wa.heap.size wa).alloc (Nat.le_refl _) _).trans (HBb.out.mono (by omega))).trans (hbw.mono (by omega))
    exact ⟨⟨HA1.out.below hba (Nat.le_refl _), HD1.out.below hba (Nat.le_refl _)⟩, HA2.out.below hbw (Nat.le_refl _), HD2.out.below hbw (Nat.le_refl _)⟩
  have HS1 : Hid (wb.heap.size + 1 ≤ W1.heap.size) := by show _ ≤ _; rw [← HW1.out]; simp
  have HSt4 : Hid (∀ W, Below (wb.heap.size + 1) W1 W → ∀ x y z t : Value, (((((W.setCell ⟨w.heap.size + 1 + 1, 0, none⟩ x).setCell ⟨w.heap.size + 1 + 1, 1, none⟩ y).setCell ⟨w.heap.size + 1 + 1, 2, none⟩ z).setCell ⟨w.heap.size + 1 + 1, 3, none⟩ t).cell? ⟨wa.heap.size, 0, none⟩ = some (.bool p1) ∧ ((((W.setCell ⟨w.heap.size + 1 + 1, 0, none⟩ x).setCell ⟨w.heap.size + 1 + 1, 1, none⟩ y).setCell ⟨w.heap.size + 1 + 1, 2, none⟩ z).setCell ⟨w.heap.size + 1 + 1, 3, none⟩ t).cell? ⟨wa.heap.size, 1, none⟩ = some (.slice a1 l1 c1) ∧ ((((W.setCell ⟨w.heap.size + 1 + 1, 0, none⟩ x).setCell ⟨w.heap.size + 1 + 1, 1, none⟩ y).setCell ⟨w.heap.size + 1 + 1, 2, none⟩ z).setCell ⟨w.heap.size + 1 + 1, 3, none⟩ t).cell? ⟨wa.heap.size, 2, none⟩ = some (.slice e1 k1 d1)) ∧ ((((W.setCell ⟨w.heap.size + 1 + 1, 0, none⟩ x).setCell ⟨w.heap.size + 1 + 1, 1, none⟩ y).setCell ⟨w.heap.size + 1 + 1, 2, none⟩ z).setCell ⟨w.heap.size + 1 + 1, 3, none⟩ t).cell? ⟨wb.heap.size, 0, none⟩ = some (.bool p2) ∧ ((((W.setCell ⟨w.heap.size + 1 + 1, 0, none⟩ x).setCell ⟨w.heap.size + 1 + 1, 1, none⟩ y).setCell ⟨w.heap.size + 1 + 1, 2, none⟩ z).setCell ⟨w.heap.size + 1 + 1, 3, none⟩ t).cell? ⟨wb.heap.size, 1, none⟩ = some (.slice a2 l2 c2) ∧ ((((W.setCell ⟨w.heap.size + 1 + 1, 0, none⟩ x).setCell ⟨w.heap.size + 1 + 1, 1, none⟩ y).setCell ⟨w.heap.size + 1 + 1, 2, none⟩ z).setCell ⟨w.heap.size + 1 + 1, 3, none⟩ t).cell? ⟨wb.heap.size, 2, none⟩ = some (.slice e2 k2 d2)) := fun W h x y z t => by
    have h0 := HY.out W h
    exact ⟨(own3V (own_set4 h0.1 (by omega) x y z t)).1, (own3V (own_set4 h0.2.1 (by omega) x y z t)).1⟩
  have HSt8 : Hid (∀ W, Below (wb.heap.size + 1) W1 W → ∀ x y z t x' y' z' t' : Value, (((((((((W.setCell ⟨w.heap.size + 1 + 1, 0, none⟩ x).setCell ⟨w.heap.size + 1 + 1, 1, none⟩ y).setCell ⟨w.heap.size + 1 + 1, 2, none⟩ z).setCell ⟨w.heap.size + 1 + 1, 3, none⟩ t).setCell ⟨w.heap.size + 1 + 1 + 1, 0, none⟩ x').setCell ⟨w.heap.size + 1 + 1 + 1, 1, none⟩ y').setCell ⟨w.heap.size + 1 + 1 + 1, 2, none⟩ z').setCell ⟨w.heap.size + 1 + 1 + 1, 3, none⟩ t').cell? ⟨wa.heap.size, 0, none⟩ = some (.bool p1) ∧ ((((((((W.setCell ⟨w.heap.size + 1 + 1, 0, none⟩ x).setCell ⟨w.heap.size + 1 + 1, 1, none⟩ y).setCell ⟨w.heap.size + 1 + 1, 2, none⟩ z).setCell ⟨w.heap.size + 1 + 1, 3, none⟩ t).setCell ⟨w.heap.size + 1 + 1 + 1, 0, none⟩ x').setCell ⟨w.heap.size + 1 + 1 + 1, 1, none⟩ y').setCell ⟨w.heap.size + 1 + 1 + 1, 2, none⟩ z').setCell ⟨w.heap.size + 1 + 1 + 1, 3, none⟩ t').cell? ⟨wa.heap.size, 1, none⟩ = some (.slice a1 l1 c1) ∧ ((((((((W.setCell ⟨w.heap.size + 1 + 1, 0, none⟩ x).setCell ⟨w.heap.size + 1 + 1, 1, none⟩ y).setCell ⟨w.heap.size + 1 + 1, 2, none⟩ z).setCell ⟨w.heap.size + 1 + 1, 3, none⟩ t).setCell ⟨w.heap.size + 1 + 1 + 1, 0, none⟩ x').setCell ⟨w.heap.size + 1 + 1 + 1, 1, none⟩ y').setCell ⟨w.heap.size + 1 + 1 + 1, 2, none⟩ z').setCell ⟨w.heap.size + 1 + 1 + 1, 3, none⟩ t').cell? ⟨wa.heap.size, 2, none⟩ = some (.slice e1 k1 d1)) ∧ ((((((((W.setCell ⟨w.heap.size + 1 + 1, 0, none⟩ x).setCell ⟨w.heap.size + 1 + 1, 1, none⟩ y).setCell ⟨w.heap.size + 1 + 1, 2, none⟩ z).setCell ⟨w.heap.size + 1 + 1, 3, none⟩ t).setCell ⟨w.heap.size + 1 + 1 + 1, 0, none⟩ x').setCell ⟨w.heap.size + 1 + 1 + 1, 1, none⟩ y').setCell ⟨w.heap.size + 1 + 1 + 1, 2, none⟩ z').setCell ⟨w.heap.size + 1 + 1 + 1, 3, none⟩ t').cell? ⟨wb.heap.size, 0, none⟩ = some (.bool p2) ∧ ((((((((W.setCell ⟨w.heap.size + 1 + 1, 0, none⟩ x).setCell ⟨w.heap.size + 1 + 1, 1, none⟩ y).setCell ⟨w.heap.size + 1 + 1, 2, none⟩ z).setCell ⟨w.heap.size + 1 + 1, 3, none⟩ t).setCell ⟨w.heap.size + 1 + 1 + 1, 0, none⟩ x').setCell ⟨w.heap.size + 1 + 1 + 1, 1, none⟩ y').setCell ⟨w.heap.size + 1 + 1 + 1, 2, none⟩ z').setCell ⟨w.heap.size + 1 + 1 + 1, 3, none⟩ t').cell? ⟨wb.heap.size, 1, none⟩ = some (.slice a2 l2 c2) ∧ ((((((((W.setCell ⟨w.heap.size + 1 + 1, 0, none⟩ x).setCell ⟨w.heap.size + 1 + 1, 1, none⟩ y).setCell ⟨w.heap.size + 1 + 1, 2, none⟩ z).setCell ⟨w.heap.size + 1 + 1, 3, none⟩ t).setCell ⟨w.heap.size + 1 + 1 + 1, 0, none⟩ x').setCell ⟨w.heap.size + 1 + 1 + 1, 1, none⟩ y').setCell ⟨w.heap.size + 1 + 1 + 1, 2, none⟩ z').setCell ⟨w.heap.size + 1 + 1 + 1, 3, none⟩ t').cell? ⟨wb.heap.size, 2, none⟩ = some (.slice e2 k2 d2)) := fun W h x y z t x' y' z' t' => by
    have h0 := HY.out W h
    exact ⟨(own3V (own_set4 (own_set4 h0.1 (by omega) x y z t) (by omega) x' y' z' t')).1, (own3V (own_set4 (own_set4 h0.2.1 (by omega) x y z t) (by omega) x' y' z' t')).1⟩
  have hsx : w.heap.size + 1 + 1 < wa.heap.size := by omega
  have HL : Hid (∀ W, Below (wb.heap.size + 1) W1 W → (W.cell? ⟨wa.heap.size, 0, none⟩ = some (.bool p1) ∧ W.cell? ⟨wa.heap.size, 1, none⟩ = some (.slice a1 l1 c1) ∧ W.cell? ⟨wa.heap.size, 2, none⟩ = some (.slice e1 k1 d1)) ∧ W.cell? ⟨wb.heap.size, 0, none⟩ = some (.bool p2) ∧ W.cell? ⟨wb.heap.size, 1, none⟩ = some (.slice a2 l2 c2) ∧ W.cell? ⟨wb.heap.size, 2, none⟩ = some (.slice e2 k2 d2)) := fun W h => ⟨(own3V (HY.out W h).1).1, (own3V (HY.out W h).2.1).1⟩
  cases b1
  · go_wp2_with fail
    rw [HW1.out]
    have HB : Hid (Below (wb.heap.size + 1) W1 W1.drew) := (Below.refl _ _).drew
    have L0 := hid (HL.out _ HB.out)
    refine wp_region_held_drew (S := fun W => (W.cell? ⟨wa.heap.size, 0, none⟩ = some (.bool p1) ∧ W.cell? ⟨wa.heap.size, 1, none⟩ = some (.slice a1 l1 c1) ∧ W.cell? ⟨wa.heap.size, 2, none⟩ = some (.slice e1 k1 d1)) ∧ W.cell? ⟨wb.heap.size, 0, none⟩ = some (.bool p2) ∧ W.cell? ⟨wb.heap.size, 1, none⟩ = some (.slice a2 l2 c2) ∧ W.cell? ⟨wb.heap.size, 2, none⟩ = some (.slice e2 k2 d2)) rfl L0.out (fun _ => ?_)
    refine wpAnyH_take (i := 0) (oi := ({ dst := some 21, op := _, type := _, pos := _, after := _, guard := _ } : Oper)) (v := (.agg #[.bool p1, .slice a1 l1 c1, .slice e1 k1 d1])) rfl (by kernel_rfl) (by kernel_rfl) (by kernel_rfl) (fun _ _ _ h => h) (Or.inl ⟨by rfl, ?_⟩) L0.out ?_
    · intro w hSw; (try dsimp only at hSw); go_simp
    try simp only [Act.put, List.setIfInBounds_toArray, List.set_cons_zero, List.set_cons_succ]
    refine wpAnyH_take (i := 2) (oi := ({ dst := some 23, op := _, type := _, pos := _, after := _, guard := _ } : Oper)) (v := (.agg #[.bool p2, .slice a2 l2 c2, .slice e2 k2 d2])) rfl (by kernel_rfl) (by kernel_rfl) (by kernel_rfl) (fun _ _ _ h => h) (Or.inl ⟨by rfl, ?_⟩) L0.out ?_
    · intro w hSw; (try dsimp only at hSw); go_simp
    try simp only [Act.put, List.setIfInBounds_toArray, List.set_cons_zero, List.set_cons_succ]
    refine wpAnyH_take (i := 4) (oi := ({ dst := some 25, op := _, type := _, pos := _, after := _, guard := _ } : Oper)) (v := (.bool false)) rfl (by kernel_rfl) (by kernel_rfl) (by kernel_rfl) (fun _ _ _ h => h) (Or.inl ⟨by rfl, ?_⟩) L0.out ?_
    · intro w hSw; (try dsimp only at hSw); go_simp
    try simp only [Act.put, List.setIfInBounds_toArray, List.set_cons_zero, List.set_cons_succ]
    refine wpAnyH_ready (rs := [1]) (by kernel_rfl) (by simp) ?_
    refine AllReadyH.cons (o := ({ dst := some 22, op := _, type := _, pos := _, after := _, guard := _ } : Oper)) rfl (fun K hK => ?_) AllReadyH.nil
    go_simp
    go_at_call 69
    refine (HRo.out _ _ _ _ _ _ _ _).mono ?_
    rintro e w5 ⟨rfl, hw5⟩
    have HB := hid (HB.out.trans (hw5.mono (Nat.le_trans HS1.out HB.out.size)))
    have L1 := hid (HL.out _ HB.out)
    clear hw5
    go_wp2_with fail
    refine hK.out _ _ L1.out (fun _ => ?_)
    clear hK K
    try simp only [Act.put, List.setIfInBounds_toArray, List.set_cons_zero, List.set_cons_succ]
    refine wpAnyH_ready (rs := [3]) (by kernel_rfl) (by simp) ?_
    refine AllReadyH.cons (o := ({ dst := some 24, op := _, type := _, pos := _, after := _, guard := _ } : Oper)) rfl (fun K hK => ?_) AllReadyH.nil
    go_simp
    go_at_call 69
    refine (HRo.out _ _ _ _ _ _ _ _).mono ?_
    rintro e w6 ⟨rfl, hw5⟩
    have HB := hid (HB.out.trans (hw5.mono (Nat.le_trans HS1.out HB.out.size)))
    have L2 := hid (HL.out _ HB.out)
    clear hw5
    go_wp2_with fail
    refine hK.out _ _ L2.out (fun _ => ?_)
    clear hK K
    try simp only [Act.put, List.setIfInBounds_toArray, List.set_cons_zero, List.set_cons_succ]
    refine wpAnyH_take (i := 5) (oi := ({ dst := some 26, op := _, type := _, pos := _, after := _, guard := _ } : Oper)) (v := (.bool false)) rfl (by kernel_rfl) (by kernel_rfl) (by kernel_rfl) (fun _ _ _ h => h) (Or.inl ⟨by rfl, ?_⟩) L2.out ?_
    · intro w hSw; (try dsimp only at hSw); go_simp
    try simp only [Act.put, List.setIfInBounds_toArray, List.set_cons_zero, List.set_cons_succ]
    refine wpAnyH_take (i := 6) (oi := ({ dst := some 27, op := _, type := _, pos := _, after := _, guard := _ } : Oper)) (v := undef) rfl (by kernel_rfl) (by kernel_rfl) (by kernel_rfl) (fun _ _ _ h => h) (Or.inr ⟨by rfl, rfl⟩) L2.out ?_
    try simp only [Act.put, List.setIfInBounds_toArray, List.set_cons_zero, List.set_cons_succ]
    refine wpAnyH_take (i := 7) (oi := ({ dst := some 28, op := _, type := _, pos := _, after := _, guard := _ } : Oper)) (v := (.bool false)) rfl (by kernel_rfl) (by kernel_rfl) (by kernel_rfl) (fun _ _ _ h => h) (Or.inl ⟨by rfl, ?_⟩) L2.out ?_
    · intro w hSw; (try dsimp only at hSw); go_simp
    try simp only [Act.put, List.setIfInBounds_toArray, List.set_cons_zero, List.set_cons_succ]
    have HXW := hid (HX.out _ (HY.out _ HB.out).2.2)
    obtain ⟨⟨r0, r1, r2, r3⟩, q0, q1, q2, q3⟩ := own4V HXW.out.2.1
    obtain ⟨⟨s0, s1, s2, s3⟩, z0, z1, z2, z3⟩ := own4V HXW.out.2.2.1
    have L3 := hid (HSt4.out w6 HB.out (.bool p1) (.slice a1 l1 c1) (.bool false) (.slice e1 k1 d1))
    have L4 := hid (HSt8.out w6 HB.out (.bool p1) (.slice a1 l1 c1) (.bool false) (.slice e1 k1 d1) (.bool p2) (.slice a2 l2 c2) (.bool false) (.slice e2 k2 d2))
    refine wpAnyH_ready (rs := [8]) (by kernel_rfl) (by simp) ?_
    refine AllReadyH.cons (o := ({ dst := none, op := _, type := _, pos := _, after := _, guard := _ } : Oper)) rfl (fun K hK => ?_) AllReadyH.nil
    go_simp
    refine hK.out _ _ L3.out (fun _ => ?_)
    clear hK K
    try simp only [Act.put, List.setIfInBounds_toArray, List.set_cons_zero, List.set_cons_succ]
    refine wpAnyH_ready (rs := [9]) (by kernel_rfl) (by simp) ?_
    refine AllReadyH.cons (o := ({ dst := none, op := _, type := _, pos := _, after := _, guard := _ } : Oper)) rfl (fun K hK => ?_) AllReadyH.nil
    go_simp
    refine hK.out _ _ L4.out (fun _ => ?_)
    clear hK K
    try simp only [Act.put, List.setIfInBounds_toArray, List.set_cons_zero, List.set_cons_succ]
    refine wpAnyH_take (i := 10) (oi := ({ dst := some 6, op := _, type := _, pos := _, after := _, guard := _ } : Oper)) (v := (.bool false)) rfl (by kernel_rfl) (by kernel_rfl) (by kernel_rfl) (fun _ _ _ h => h) (Or.inl ⟨by rfl, ?_⟩) L4.out ?_
    · intro w hSw; (try dsimp only at hSw); go_simp
    try simp only [Act.put, List.setIfInBounds_toArray, List.set_cons_zero, List.set_cons_succ]
    refine wpAnyH_done (by kernel_rfl) ?_ _
    go_wp2_with fail
    refine bodyPost_ret (v := .tuple #[.agg #[.bool p1, .slice a1 l1 c1, .bool false, .slice e1 k1 d1], .agg #[.bool p2, .slice a2 l2 c2, .bool false, .slice e2 k2 d2], .bool false]) (by simp [results, Tryd.results44, go_sem, r0, r1, r2, r3, s0, s1, s2, s3]) rfl ⟨a1, c1, e1, d1, a2, c2, e2, d2, rfl, ?_⟩
    have hN := HNs.out _ HB.out
    have o1 := HXW.out.2.1
    have o2 := HXW.out.2.2.1
    refine ⟨?_, ?_, ?_, ?_, ?_⟩
    · exact natA_set4 (natA_set4 hN.1.1 o1 _ _ _ _) (own_set4 o2 (by omega) _ _ _ _) _ _ _ _
    · exact natA_set4 (natA_set4 hN.1.2 o1 _ _ _ _) (own_set4 o2 (by omega) _ _ _ _) _ _ _ _
    · exact natA_set4 (natA_set4 hN.2.1 o1 _ _ _ _) (own_set4 o2 (by omega) _ _ _ _) _ _ _ _
    · exact natA_set4 (natA_set4 hN.2.2 o1 _ _ _ _) (own_set4 o2 (by omega) _ _ _ _) _ _ _ _
    · exact below_set4 (below_set4 HXW.out.2.2.2 (by omega) _ _ _ _) (by omega) _ _ _ _
  · go_wp2_with fail
    rw [HW1.out]
    have HB : Hid (Below (wb.heap.size + 1) W1 W1.drew) := (Below.refl _ _).drew
    have L0 := hid (HL.out _ HB.out)
    refine wp_region_held_drew (S := fun W => (W.cell? ⟨wa.heap.size, 0, none⟩ = some (.bool p1) ∧ W.cell? ⟨wa.heap.size, 1, none⟩ = some (.slice a1 l1 c1) ∧ W.cell? ⟨wa.heap.size, 2, none⟩ = some (.slice e1 k1 d1)) ∧ W.cell? ⟨wb.heap.size, 0, none⟩ = some (.bool p2) ∧ W.cell? ⟨wb.heap.size, 1, none⟩ = some (.slice a2 l2 c2) ∧ W.cell? ⟨wb.heap.size, 2, none⟩ = some (.slice e2 k2 d2)) rfl L0.out (fun _ => ?_)
    refine wpAnyH_take (i := 0) (oi := ({ dst := some 21, op := _, type := _, pos := _, after := _, guard := _ } : Oper)) (v := (.agg #[.bool p1, .slice a1 l1 c1, .slice e1 k1 d1])) rfl (by kernel_rfl) (by kernel_rfl) (by kernel_rfl) (fun _ _ _ h => h) (Or.inl ⟨by rfl, ?_⟩) L0.out ?_
    · intro w hSw; (try dsimp only at hSw); go_simp
    try simp only [Act.put, List.setIfInBounds_toArray, List.set_cons_zero, List.set_cons_succ]
    refine wpAnyH_take (i := 2) (oi := ({ dst := some 23, op := _, type := _, pos := _, after := _, guard := _ } : Oper)) (v := (.agg #[.bool p2, .slice a2 l2 c2, .slice e2 k2 d2])) rfl (by kernel_rfl) (by kernel_rfl) (by kernel_rfl) (fun _ _ _ h => h) (Or.inl ⟨by rfl, ?_⟩) L0.out ?_
    · intro w hSw; (try dsimp only at hSw); go_simp
    try simp only [Act.put, List.setIfInBounds_toArray, List.set_cons_zero, List.set_cons_succ]
    refine wpAnyH_take (i := 4) (oi := ({ dst := some 25, op := _, type := _, pos := _, after := _, guard := _ } : Oper)) (v := (.bool true)) rfl (by kernel_rfl) (by kernel_rfl) (by kernel_rfl) (fun _ _ _ h => h) (Or.inl ⟨by rfl, ?_⟩) L0.out ?_
    · intro w hSw; (try dsimp only at hSw); go_simp
    try simp only [Act.put, List.setIfInBounds_toArray, List.set_cons_zero, List.set_cons_succ]
    refine wpAnyH_ready (rs := [1]) (by kernel_rfl) (by simp) ?_
    refine AllReadyH.cons (o := ({ dst := some 22, op := _, type := _, pos := _, after := _, guard := _ } : Oper)) rfl (fun K hK => ?_) AllReadyH.nil
    go_simp
    go_at_call 69
    refine (HRo.out _ _ _ _ _ _ _ _).mono ?_
    rintro e w5 ⟨rfl, hw5⟩
    have HB := hid (HB.out.trans (hw5.mono (Nat.le_trans HS1.out HB.out.size)))
    have L1 := hid (HL.out _ HB.out)
    clear hw5
    go_wp2_with fail
    refine hK.out _ _ L1.out (fun _ => ?_)
    clear hK K
    try simp only [Act.put, List.setIfInBounds_toArray, List.set_cons_zero, List.set_cons_succ]
    refine wpAnyH_ready (rs := [3]) (by kernel_rfl) (by simp) ?_
    refine AllReadyH.cons (o := ({ dst := some 24, op := _, type := _, pos := _, after := _, guard := _ } : Oper)) rfl (fun K hK => ?_) AllReadyH.nil
    go_simp
    go_at_call 69
    refine (HRo.out _ _ _ _ _ _ _ _).mono ?_
    rintro e w6 ⟨rfl, hw5⟩
    have HB := hid (HB.out.trans (hw5.mono (Nat.le_trans HS1.out HB.out.size)))
    have L2 := hid (HL.out _ HB.out)
    clear hw5
    go_wp2_with fail
    refine hK.out _ _ L2.out (fun _ => ?_)
    clear hK K
    try simp only [Act.put, List.setIfInBounds_toArray, List.set_cons_zero, List.set_cons_succ]
    refine wpAnyH_take (i := 5) (oi := ({ dst := some 26, op := _, type := _, pos := _, after := _, guard := _ } : Oper)) (v := (.bool true)) rfl (by kernel_rfl) (by kernel_rfl) (by kernel_rfl) (fun _ _ _ h => h) (Or.inl ⟨by rfl, ?_⟩) L2.out ?_
    · intro w hSw; (try dsimp only at hSw); go_simp
    try simp only [Act.put, List.setIfInBounds_toArray, List.set_cons_zero, List.set_cons_succ]
    refine wpAnyH_take (i := 6) (oi := ({ dst := some 27, op := _, type := _, pos := _, after := _, guard := _ } : Oper)) (v := (.bool b2)) rfl (by kernel_rfl) (by kernel_rfl) (by kernel_rfl) (fun _ _ _ h => h) (Or.inl ⟨by rfl, ?_⟩) L2.out ?_
    · intro w hSw; (try dsimp only at hSw); go_simp
    try simp only [Act.put, List.setIfInBounds_toArray, List.set_cons_zero, List.set_cons_succ]
    refine wpAnyH_take (i := 7) (oi := ({ dst := some 28, op := _, type := _, pos := _, after := _, guard := _ } : Oper)) (v := (.bool b2)) rfl (by kernel_rfl) (by kernel_rfl) (by kernel_rfl) (fun _ _ _ h => h) (Or.inl ⟨by rfl, ?_⟩) L2.out ?_
    · intro w hSw; (try dsimp only at hSw); go_simp
    try simp only [Act.put, List.setIfInBounds_toArray, List.set_cons_zero, List.set_cons_succ]
    have HXW := hid (HX.out _ (HY.out _ HB.out).2.2)
    obtain ⟨⟨r0, r1, r2, r3⟩, q0, q1, q2, q3⟩ := own4V HXW.out.2.1
    obtain ⟨⟨s0, s1, s2, s3⟩, z0, z1, z2, z3⟩ := own4V HXW.out.2.2.1
    have L3 := hid (HSt4.out w6 HB.out (.bool p1) (.slice a1 l1 c1) (.bool false) (.slice e1 k1 d1))
    have L4 := hid (HSt8.out w6 HB.out (.bool p1) (.slice a1 l1 c1) (.bool false) (.slice e1 k1 d1) (.bool p2) (.slice a2 l2 c2) (.bool false) (.slice e2 k2 d2))
    refine wpAnyH_ready (rs := [8]) (by kernel_rfl) (by simp) ?_
    refine AllReadyH.cons (o := ({ dst := none, op := _, type := _, pos := _, after := _, guard := _ } : Oper)) rfl (fun K hK => ?_) AllReadyH.nil
    go_simp
    refine hK.out _ _ L3.out (fun _ => ?_)
    clear hK K
    try simp only [Act.put, List.setIfInBounds_toArray, List.set_cons_zero, List.set_cons_succ]
    refine wpAnyH_ready (rs := [9]) (by kernel_rfl) (by simp) ?_
    refine AllReadyH.cons (o := ({ dst := none, op := _, type := _, pos := _, after := _, guard := _ } : Oper)) rfl (fun K hK => ?_) AllReadyH.nil
    go_simp
    refine hK.out _ _ L4.out (fun _ => ?_)
    clear hK K
    try simp only [Act.put, List.setIfInBounds_toArray, List.set_cons_zero, List.set_cons_succ]
    refine wpAnyH_take (i := 10) (oi := ({ dst := some 6, op := _, type := _, pos := _, after := _, guard := _ } : Oper)) (v := (.bool b2)) rfl (by kernel_rfl) (by kernel_rfl) (by kernel_rfl) (fun _ _ _ h => h) (Or.inl ⟨by rfl, ?_⟩) L4.out ?_
    · intro w hSw; (try dsimp only at hSw); go_simp
    try simp only [Act.put, List.setIfInBounds_toArray, List.set_cons_zero, List.set_cons_succ]
    refine wpAnyH_done (by kernel_rfl) ?_ _
    go_wp2_with fail
    refine bodyPost_ret (v := .tuple #[.agg #[.bool p1, .slice a1 l1 c1, .bool false, .slice e1 k1 d1], .agg #[.bool p2, .slice a2 l2 c2, .bool false, .slice e2 k2 d2], .bool b2]) (by simp [results, Tryd.results44, go_sem, r0, r1, r2, r3, s0, s1, s2, s3]) rfl ⟨a1, c1, e1, d1, a2, c2, e2, d2, rfl, ?_⟩
    have hN := HNs.out _ HB.out
    have o1 := HXW.out.2.1
    have o2 := HXW.out.2.2.1
    refine ⟨?_, ?_, ?_, ?_, ?_⟩
    · exact natA_set4 (natA_set4 hN.1.1 o1 _ _ _ _) (own_set4 o2 (by omega) _ _ _ _) _ _ _ _
    · exact natA_set4 (natA_set4 hN.1.2 o1 _ _ _ _) (own_set4 o2 (by omega) _ _ _ _) _ _ _ _
    · exact natA_set4 (natA_set4 hN.2.1 o1 _ _ _ _) (own_set4 o2 (by omega) _ _ _ _) _ _ _ _
    · exact natA_set4 (natA_set4 hN.2.2 o1 _ _ _ _) (own_set4 o2 (by omega) _ _ _ _) _ _ _ _
    · exact below_set4 (below_set4 HXW.out.2.2.2 (by omega) _ _ _ _) (by omega) _ _ _ _
end Go.Proofs.YtbbffhpppacihaaDoor
