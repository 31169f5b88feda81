/-
  The program's whole numbers of any size: plus, opposite, sign. Condition: the groups lie in memory as NatA says; at most 4,000 groups.
  The program's whole numbers and ratios: opposite, sign, ratioOf, turned. Condition: what is above and below lies in memory.
  The program's sumAbove and productAbove. Condition: the groups lie in memory as NatA says; at most 100 groups each.
  Numbers as rationals: what a sign, above and below tell; the ring's answers in these words. Pure.
-/
import Derived.Test.YtbbffhpppacihaaDoorPart8
namespace Go.Proofs.YtbbffhpppacihaaDoor
open Go.RowKit Go.Siskin

theorem box3_keep {w Wb : World} {B : Nat} {t1 t2 t3 : TypeId} {c1 c2 c3 : Array Value} (h0 : Own Wb B t1 c1 ∧ Own Wb (B + 1) t2 c2 ∧ Own Wb (B + 1 + 1) t3 c3 ∧ Below B w Wb) {W : World} (h : Below (B + 3) Wb W) :
    Own W B t1 c1 ∧ Own W (B + 1) t2 c2 ∧ Own W (B + 1 + 1) t3 c3 ∧ Below B w W :=
  ⟨h0.1.keep h (by omega), h0.2.1.keep h (by omega), h0.2.2.1.keep h (by omega), h0.2.2.2.trans (h.mono (by omega))⟩

set_option maxRecDepth 20000 in
set_option maxHeartbeats 2000000 in
theorem intPlus_same (n : Bool) (x y : Nat) (vx vy : Value) (w : World) (hx : NatA w vx (grp x)) (hy : NatA w vy (grp y)) (hnx : nG x ≤ 5000) (hny : nG y ≤ 5000) :
    Calls Tryd.prog 140 #[.agg #[.bool n, vx], .agg #[.bool n, vy]] w fun e w' => ∃ u, e = .returned (.agg #[.bool n, u]) ∧ NatA w' u (grp (x + y)) ∧ Below w.heap.size w w' := by
  obtain ⟨xa, xc, rfl⟩ := natA_formR hx
  obtain ⟨ya, yc, rfl⟩ := natA_formR hy
  have hnn : (n == n) = true := by simp
  obtain ⟨W0, HW0⟩ : ∃ W, Hid (((w.alloc (boxI n (.slice xa (grp x).length xc))).alloc (boxI n (.slice ya (grp y).length yc))).alloc (boxI false (.slice none 0 0)) = W) := ⟨_, rfl⟩
  have HX : Hid (∀ W, Below (w.heap.size + 3) W0 W → Own W w.heap.size 50 #[.bool n, .slice xa (grp x).length xc] ∧ Own W (w.heap.size + 1) 50 #[.bool n, .slice ya (grp y).length yc] ∧ Own W (w.heap.size + 1 + 1) 50 #[.bool false, .slice none 0 0] ∧ Below w.heap.size w W) := fun W h => by
    rw [← HW0.out] at h
    exact boxes3 w _ _ _ _ _ _ h
  have HCT : Hid (∀ W, Below w.heap.size w W → Calls Tryd.prog 137 #[.slice xa (grp x).length xc, .slice ya (grp y).length yc] W fun e w' => ∃ ua uc, e = .returned (.slice ua (grp (x + y)).length uc) ∧ NatA w' (.slice ua (grp (x + y)).length uc) (grp (x + y)) ∧ Below W.heap.size W w') := fun W hb => by
    refine (plus_any x y _ _ W (hx.below hb (Nat.le_refl _)) (hy.below hb (Nat.le_refl _)) hnx hny).mono ?_
    rintro e w' ⟨u, rfl, h1, h2⟩
    obtain ⟨ua, uc, rfl⟩ := natA_formR h1
    exact ⟨ua, uc, rfl, h1, h2⟩
  have HSt : Hid (∀ W, Below (w.heap.size + 3) W0 W → ∀ x' y' : Value, ((((W.setCell ⟨w.heap.size + 1 + 1, 0, none⟩ x').setCell ⟨w.heap.size + 1 + 1, 1, none⟩ y').cell? ⟨w.heap.size, 0, none⟩ = some (.bool n) ∧ ((W.setCell ⟨w.heap.size + 1 + 1, 0, none⟩ x').setCell ⟨w.heap.size + 1 + 1, 1, none⟩ y').cell? ⟨w.heap.size, 1, none⟩ = some (.slice xa (grp x).length xc)) ∧
      ((W.setCell ⟨w.heap.size + 1 + 1, 0, none⟩ x').setCell ⟨w.heap.size + 1 + 1, 1, none⟩ y').cell? ⟨w.heap.size + 1, 0, none⟩ = some (.bool n) ∧ ((W.setCell ⟨w.heap.size + 1 + 1, 0, none⟩ x').setCell ⟨w.heap.size + 1 + 1, 1, none⟩ y').cell? ⟨w.heap.size + 1, 1, none⟩ = some (.slice ya (grp y).length yc))) := fun W h x' y' => by
    have h0 := HX.out W h
    exact ⟨(own2V (own_set2 h0.1 (by omega) x' y')).1, (own2V (own_set2 h0.2.1 (by omega) x' y')).1⟩
  have HS0 : Hid (w.heap.size + 3 ≤ W0.heap.size) := by show _ ≤ _; rw [← HW0.out]; simp
  clear hx hy
  generalize (grp x).length = lx at *
  generalize (grp y).length = ly at *
  go_enter Tryd.func140, Tryd.ntmps140
  go_wp2_with fail
  rw [HW0.out]
  have HB : Hid (Below (w.heap.size + 3) W0 W0.drew) := (Below.refl _ _).drew
  obtain ⟨⟨r0, r1⟩, q0, q1⟩ := own2V (HX.out _ HB.out).2.2.1
  go_region_held3 (fun W => (W.cell? ⟨w.heap.size, 0, none⟩ = some (.bool n) ∧ W.cell? ⟨w.heap.size, 1, none⟩ = some (.slice xa lx xc)) ∧ W.cell? ⟨w.heap.size + 1, 0, none⟩ = some (.bool n) ∧ W.cell? ⟨w.heap.size + 1, 1, none⟩ = some (.slice ya ly yc))
    (first
      | exact ⟨(own2V (HX.out _ HB.out).1).1, (own2V (HX.out _ HB.out).2.1).1⟩
      | exact HSt.out _ HB.out _ _)
    (first
      | (go_at_call 137
         go_loud (
         refine (HCT.out _ (HX.out _ HB.out).2.2.2).mono ?_
         rintro e w3 ⟨ua, uc, rfl, hu, hw3⟩
         have HU := hid hu
         have HB := hid (HB.out.trans (hw3.mono (Nat.le_trans HS0.out HB.out.size)))
         clear hu hw3 r0 r1 q0 q1
         obtain ⟨⟨r0, r1⟩, q0, q1⟩ := own2V (HX.out _ HB.out).2.2.1)))
  go_wp2_with fail
  refine bodyPost_ret (v := .agg #[.bool n, .slice ua (grp (x + y)).length uc]) (by simp [results, Tryd.results140, go_sem, r0, r1]) rfl ⟨.slice ua (grp (x + y)).length uc, rfl, ?_, ?_⟩
  · exact natA_set2 HU.out (HX.out _ HB.out).2.2.1 _ _
  · exact below_set2 (HX.out _ HB.out).2.2.2 (by omega) _ _

theorem ordN_lt {x y : Nat} (h : x < y) : ordN x y = -1 := if_pos h
theorem ordN_ge {x y : Nat} (h : ¬ x < y) : 0 ≤ ordN x y := by
  unfold ordN
  rw [if_neg h]
  split <;> decide

set_option maxRecDepth 20000 in
set_option maxHeartbeats 4000000 in
theorem intPlus_diff (n : Bool) (x y : Nat) (vx vy : Value) (w : World) (hx : NatA w vx (grp x)) (hy : NatA w vy (grp y)) (hnx : nG x ≤ 5000) (hny : nG y ≤ 5000) :
    Calls Tryd.prog 140 #[.agg #[.bool n, vx], .agg #[.bool !n, vy]] w fun e w' => ∃ u, e = .returned (.agg #[.bool (if x < y then !n else n), u]) ∧ NatA w' u (grp (if x < y then y - x else x - y)) ∧ Below w.heap.size w w' := by
  obtain ⟨xa, xc, rfl⟩ := natA_formR hx
  obtain ⟨ya, yc, rfl⟩ := natA_formR hy
  obtain ⟨n', hn'⟩ : ∃ b, (!n) = b := ⟨_, rfl⟩
  have hnn : (n == n') = false := by rw [← hn']; cases n <;> rfl
  rw [hn']
  clear hn'
  obtain ⟨W0, HW0⟩ : ∃ W, Hid (((w.alloc (boxI n (.slice xa (grp x).length xc))).alloc (boxI n' (.slice ya (grp y).length yc))).alloc (boxI false (.slice none 0 0)) = W) := ⟨_, rfl⟩
  have HX : Hid (∀ W, Below (w.heap.size + 3) W0 W → Own W w.heap.size 50 #[.bool n, .slice xa (grp x).length xc] ∧ Own W (w.heap.size + 1) 50 #[.bool n', .slice ya (grp y).length yc] ∧ Own W (w.heap.size + 1 + 1) 50 #[.bool false, .slice none 0 0] ∧ Below w.heap.size w W) := fun W h => by
    rw [← HW0.out] at h
    exact boxes3 w _ _ _ _ _ _ h
  have HCC := hid (fun W (hb : Below w.heap.size w W) => compare_any x y _ _ W (hx.below hb (Nat.le_refl _)) (hy.below hb (Nat.le_refl _)) hnx hny)
  have HMi : Hid (∀ W x y vx vy, NatA W vx (grp x) → NatA W vy (grp y) → nG x ≤ 5000 → ¬ x < y → Calls Tryd.prog 143 #[vx, vy] W fun e w' => ∃ ua uc, e = .returned (.slice ua (grp (x - y)).length uc) ∧ NatA w' (.slice ua (grp (x - y)).length uc) (grp (x - y)) ∧ Below W.heap.size W w') := fun W x y vx vy hx hy hnx h => by
    refine (minus_any x y _ _ W hx hy hnx (by omega)).mono ?_
    rintro e w' ⟨u, rfl, h1, h2⟩
    obtain ⟨ua, uc, rfl⟩ := natA_formR h1
    exact ⟨ua, uc, rfl, h1, h2⟩
  have HXn := hid hx
  have HYn := hid hy
  have HNx := hid hnx
  have HNy := hid hny
  have HS0 : Hid (w.heap.size + 3 ≤ W0.heap.size) := by show _ ≤ _; rw [← HW0.out]; simp
  clear hx hy
  obtain ⟨lx, HLx⟩ : ∃ l, Hid ((grp x).length = l) := ⟨_, rfl⟩
  obtain ⟨ly, HLy⟩ : ∃ l, Hid ((grp y).length = l) := ⟨_, rfl⟩
  rw [HLx.out] at HXn
  rw [HLy.out] at HYn
  rw [HLx.out, HLy.out] at HW0 HX HCC ⊢
  have HB0 : Hid (Below (w.heap.size + 3) W0 W0) := Below.refl _ _
  obtain ⟨⟨a0, a1⟩, d0, d1⟩ := own2V (HX.out _ HB0.out).1
  obtain ⟨⟨b0, b1⟩, p0, p1⟩ := own2V (HX.out _ HB0.out).2.1
  by_cases hlt : x < y
  · rw [if_pos hlt, if_pos hlt]
    rw [ordN_lt hlt] at HCC
    have HLt := hid hlt
    clear hlt
    go_enter Tryd.func140, Tryd.ntmps140
    go_wp2_with fail
    rw [HW0.out]
    go_wp2_with fail
    refine (HCC.out _ (HX.out _ HB0.out).2.2.2).mono ?_
    rintro e w1 ⟨rfl, hw1⟩
    have HB1 := hid (HB0.out.trans (hw1.mono HS0.out))
    clear hw1 a0 a1 b0 b1 d0 d1 p0 p1
    obtain ⟨⟨a0, a1⟩, d0, d1⟩ := own2V (HX.out _ HB1.out).1
    obtain ⟨⟨b0, b1⟩, p0, p1⟩ := own2V (HX.out _ HB1.out).2.1
    go_wp2_with fail
    obtain ⟨W2, HW2⟩ : ∃ W, Hid (((((w1.setCell ⟨w.heap.size, 0, none⟩ (.bool n')).setCell ⟨w.heap.size, 1, none⟩ (.slice ya ly yc)).setCell ⟨w.heap.size + 1, 0, none⟩ (.bool n)).setCell ⟨w.heap.size + 1, 1, none⟩ (.slice xa lx xc)) = W) := ⟨_, rfl⟩
    rw [HW2.out]
    have h1 := HX.out _ HB1.out
    have H2 : Hid (Own W2 w.heap.size 50 #[.bool n', .slice ya ly yc] ∧ Own W2 (w.heap.size + 1) 50 #[.bool n, .slice xa lx xc] ∧ Own W2 (w.heap.size + 1 + 1) 50 #[.bool false, .slice none 0 0] ∧ Below w.heap.size w W2) := by
      rw [← HW2.out]
      exact ⟨own_set2 ((h1.1.set 0 _).set 1 _) (by omega) _ _, ((own_set2 h1.2.1 (by omega) _ _).set 0 _).set 1 _, own_set2 (own_set2 h1.2.2.1 (by omega) _ _) (by omega) _ _, below_set2 (below_set2 h1.2.2.2 (Nat.le_refl _) _ _) (by omega) _ _⟩
    have HSz : Hid (w.heap.size + 3 ≤ W2.heap.size) := by
      show _ ≤ _
      rw [← HW2.out]
      have := HB1.out.size
      have := HS0.out
      simp [World.setCell]; omega
    have HM2 : Hid (∀ W, Below (w.heap.size + 3) W2 W → Calls Tryd.prog 143 #[.slice ya ly yc, .slice xa lx xc] W fun e w' => ∃ ua uc, e = .returned (.slice ua (grp (y - x)).length uc) ∧ NatA w' (.slice ua (grp (y - x)).length uc) (grp (y - x)) ∧ Below W.heap.size W w') := fun W hb => HMi.out W y x _ _ (HYn.out.below (H2.out.2.2.2.trans (hb.mono (by omega))) (Nat.le_refl _)) (HXn.out.below (H2.out.2.2.2.trans (hb.mono (by omega))) (Nat.le_refl _)) HNy.out (by have := HLt.out; omega)
    clear h1 a0 a1 b0 b1 d0 d1 p0 p1
    have HX2 : Hid (∀ W, Below (w.heap.size + 3) W2 W → Own W w.heap.size 50 #[.bool n', .slice ya ly yc] ∧ Own W (w.heap.size + 1) 50 #[.bool n, .slice xa lx xc] ∧ Own W (w.heap.size + 1 + 1) 50 #[.bool false, .slice none 0 0] ∧ Below w.heap.size w W) := fun W h => box3_keep H2.out h
    have HSt2 : Hid (∀ W, Below (w.heap.size + 3) W2 W → ∀ x' y' : Value, ((((W.setCell ⟨w.heap.size + 1 + 1, 0, none⟩ x').setCell ⟨w.heap.size + 1 + 1, 1, none⟩ y').cell? ⟨w.heap.size, 0, none⟩ = some (.bool n') ∧ ((W.setCell ⟨w.heap.size + 1 + 1, 0, none⟩ x').setCell ⟨w.heap.size + 1 + 1, 1, none⟩ y').cell? ⟨w.heap.size, 1, none⟩ = some (.slice ya ly yc)) ∧ ((W.setCell ⟨w.heap.size + 1 + 1, 0, none⟩ x').setCell ⟨w.heap.size + 1 + 1, 1, none⟩ y').cell? ⟨w.heap.size + 1, 0, none⟩ = some (.bool n) ∧ ((W.setCell ⟨w.heap.size + 1 + 1, 0, none⟩ x').setCell ⟨w.heap.size + 1 + 1, 1, none⟩ y').cell? ⟨w.heap.size + 1, 1, none⟩ = some (.slice xa lx xc))) := fun W h x' y' => by
      have h0 := HX2.out W h
      exact ⟨(own2V (own_set2 h0.1 (by omega) x' y')).1, (own2V (own_set2 h0.2.1 (by omega) x' y')).1⟩
    have HB : Hid (Below (w.heap.size + 3) W2 W2.drew) := (Below.refl _ _).drew
    obtain ⟨⟨r0, r1⟩, q0, q1⟩ := own2V (HX2.out _ HB.out).2.2.1
    go_region_held3 (fun W => (W.cell? ⟨w.heap.size, 0, none⟩ = some (.bool n') ∧ W.cell? ⟨w.heap.size, 1, none⟩ = some (.slice ya ly yc)) ∧ W.cell? ⟨w.heap.size + 1, 0, none⟩ = some (.bool n) ∧ W.cell? ⟨w.heap.size + 1, 1, none⟩ = some (.slice xa lx xc))
      (first
        | exact ⟨(own2V (HX2.out _ HB.out).1).1, (own2V (HX2.out _ HB.out).2.1).1⟩
        | exact HSt2.out _ HB.out _ _)
      (first
        | (go_at_call 143
           go_loud (
           refine (HM2.out _ HB.out).mono ?_
           rintro e w3 ⟨ua, uc, rfl, hu, hw3⟩
           have HU := hid hu
           have HB := hid (HB.out.trans (hw3.mono (Nat.le_trans HSz.out HB.out.size)))
           clear hu hw3 r0 r1 q0 q1
           obtain ⟨⟨r0, r1⟩, q0, q1⟩ := own2V (HX2.out _ HB.out).2.2.1)))
    go_wp2_with fail
    refine bodyPost_ret (v := .agg #[.bool n', .slice ua (grp (y - x)).length uc]) (by simp [results, Tryd.results140, go_sem, r0, r1]) rfl ⟨.slice ua (grp (y - x)).length uc, rfl, ?_, ?_⟩
    · exact natA_set2 HU.out (HX2.out _ HB.out).2.2.1 _ _
    · exact below_set2 (HX2.out _ HB.out).2.2.2 (by omega) _ _
  · rw [if_neg hlt, if_neg hlt]
    obtain ⟨c, hc⟩ : ∃ c, ordN x y = c := ⟨_, rfl⟩
    have hc0 : 0 ≤ c := by rw [← hc]; exact ordN_ge hlt
    rw [hc] at HCC
    have HLt := hid hlt
    clear hlt hc
    go_enter Tryd.func140, Tryd.ntmps140
    go_wp2_with fail
    rw [HW0.out]
    go_wp2_with fail
    refine (HCC.out _ (HX.out _ HB0.out).2.2.2).mono ?_
    rintro e w1 ⟨rfl, hw1⟩
    have HB1 := hid (HB0.out.trans (hw1.mono HS0.out))
    clear hw1 a0 a1 b0 b1 d0 d1 p0 p1
    go_wp2_with fail
    have H2 := hid (HX.out _ HB1.out)
    have HSz : Hid (w.heap.size + 3 ≤ w1.heap.size) := Nat.le_trans HS0.out HB1.out.size
    have HM2 : Hid (∀ W, Below (w.heap.size + 3) w1 W → Calls Tryd.prog 143 #[.slice xa lx xc, .slice ya ly yc] W fun e w' => ∃ ua uc, e = .returned (.slice ua (grp (x - y)).length uc) ∧ NatA w' (.slice ua (grp (x - y)).length uc) (grp (x - y)) ∧ Below W.heap.size W w') := fun W hb => HMi.out W x y _ _ (HXn.out.below (H2.out.2.2.2.trans (hb.mono (by omega))) (Nat.le_refl _)) (HYn.out.below (H2.out.2.2.2.trans (hb.mono (by omega))) (Nat.le_refl _)) HNx.out HLt.out
    have HX2 : Hid (∀ W, Below (w.heap.size + 3) w1 W → Own W w.heap.size 50 #[.bool n, .slice xa lx xc] ∧ Own W (w.heap.size + 1) 50 #[.bool n', .slice ya ly yc] ∧ Own W (w.heap.size + 1 + 1) 50 #[.bool false, .slice none 0 0] ∧ Below w.heap.size w W) := fun W h => box3_keep H2.out h
    have HSt2 : Hid (∀ W, Below (w.heap.size + 3) w1 W → ∀ x' y' : Value, ((((W.setCell ⟨w.heap.size + 1 + 1, 0, none⟩ x').setCell ⟨w.heap.size + 1 + 1, 1, none⟩ y').cell? ⟨w.heap.size, 0, none⟩ = some (.bool n) ∧ ((W.setCell ⟨w.heap.size + 1 + 1, 0, none⟩ x').setCell ⟨w.heap.size + 1 + 1, 1, none⟩ y').cell? ⟨w.heap.size, 1, none⟩ = some (.slice xa lx xc)) ∧ ((W.setCell ⟨w.heap.size + 1 + 1, 0, none⟩ x').setCell ⟨w.heap.size + 1 + 1, 1, none⟩ y').cell? ⟨w.heap.size + 1, 0, none⟩ = some (.bool n') ∧ ((W.setCell ⟨w.heap.size + 1 + 1, 0, none⟩ x').setCell ⟨w.heap.size + 1 + 1, 1, none⟩ y').cell? ⟨w.heap.size + 1, 1, none⟩ = some (.slice ya ly yc))) := fun W h x' y' => by
      have h0 := HX2.out W h
      exact ⟨(own2V (own_set2 h0.1 (by omega) x' y')).1, (own2V (own_set2 h0.2.1 (by omega) x' y')).1⟩
    have HB : Hid (Below (w.heap.size + 3) w1 w1.drew) := (Below.refl _ _).drew
    obtain ⟨⟨r0, r1⟩, q0, q1⟩ := own2V (HX2.out _ HB.out).2.2.1
    go_region_held3 (fun W => (W.cell? ⟨w.heap.size, 0, none⟩ = some (.bool n) ∧ W.cell? ⟨w.heap.size, 1, none⟩ = some (.slice xa lx xc)) ∧ W.cell? ⟨w.heap.size + 1, 0, none⟩ = some (.bool n') ∧ W.cell? ⟨w.heap.size + 1, 1, none⟩ = some (.slice ya ly yc))
      (first
        | exact ⟨(own2V (HX2.out _ HB.out).1).1, (own2V (HX2.out _ HB.out).2.1).1⟩
        | exact HSt2.out _ HB.out _ _)
      (first
        | (go_at_call 143
           go_loud (
           refine (HM2.out _ HB.out).mono ?_
           rintro e w3 ⟨ua, uc, rfl, hu, hw3⟩
           have HU := hid hu
           have HB := hid (HB.out.trans (hw3.mono (Nat.le_trans HSz.out HB.out.size)))
           clear hu hw3 r0 r1 q0 q1
           obtain ⟨⟨r0, r1⟩, q0, q1⟩ := own2V (HX2.out _ HB.out).2.2.1)))
    go_wp2_with fail
    refine bodyPost_ret (v := .agg #[.bool n, .slice ua (grp (x - y)).length uc]) (by simp [results, Tryd.results140, go_sem, r0, r1]) rfl ⟨.slice ua (grp (x - y)).length uc, rfl, ?_, ?_⟩
    · exact natA_set2 HU.out (HX2.out _ HB.out).2.2.1 _ _
    · exact below_set2 (HX2.out _ HB.out).2.2.2 (by omega) _ _
end Go.Proofs.YtbbffhpppacihaaDoor

namespace Go.Proofs.YtbbffhpppacihaaDoor
open Go.RowKit Go.Siskin

theorem meth_times (x : Value) (w : World) : (method 302 50 x "loop.example/siskin/impl.times").run Tryd.prog w = .ok (141, x) w := by kernel_rfl
theorem meth_plus (x : Value) (w : World) : (method 302 50 x "loop.example/siskin/impl.plus").run Tryd.prog w = .ok (140, x) w := by kernel_rfl
theorem meth_opposite (x : Value) (w : World) : (method 302 50 x "loop.example/siskin/impl.opposite").run Tryd.prog w = .ok (139, x) w := by kernel_rfl

/-- Two boxes of a call's own. -/
theorem boxes2 (w : World) (c1 c2 : Array Value) (t1 t2 : TypeId) {W : World} (h : Below (w.heap.size + 2) ((w.alloc (.cells c1 t1)).alloc (.cells c2 t2)) W) :
    Own W w.heap.size t1 c1 ∧ Own W (w.heap.size + 1) t2 c2 ∧ Below w.heap.size w W := by
  have h1 : Own ((w.alloc (.cells c1 t1)).alloc (.cells c2 t2)) w.heap.size t1 c1 := (Below.heap_alloc _ _ _ (by simp)).trans (own_new w _ _)
  have h2 := own_new (w.alloc (.cells c1 t1)) c2 t2
  rw [World.size_alloc] at h2
  exact ⟨h1.keep h (by omega), h2.keep h (by omega), (((Below.refl _ _).alloc (Nat.le_refl _) _).alloc (by simp) _).trans (h.mono (by omega))⟩
abbrev boxR (n : Bool) (v : Value) (m : Bool) (u : Value) : Obj := .cells #[.bool n, v, .bool m, u] 61
theorem own4V {w : World} {g : Nat} {e : TypeId} {a b c d : Value} (h : Own w g e #[a, b, c, d]) : (w.cell? ⟨g, 0, none⟩ = some a ∧ w.cell? ⟨g, 1, none⟩ = some b ∧ w.cell? ⟨g, 2, none⟩ = some c ∧ w.cell? ⟨g, 3, none⟩ = some d) ∧ w.frozen? ⟨g, 0, none⟩ = false ∧ w.frozen? ⟨g, 1, none⟩ = false ∧ w.frozen? ⟨g, 2, none⟩ = false ∧ w.frozen? ⟨g, 3, none⟩ = false :=
  ⟨⟨h.cell 0, h.cell 1, h.cell 2, h.cell 3⟩, h.frozen 0, h.frozen 1, h.frozen 2, h.frozen 3⟩

set_option maxRecDepth 20000 in
set_option maxHeartbeats 1000000 in
theorem intOpposite_any (n : Bool) (a : Option Addr) (l c : Nat) (w : World) :
    Calls Tryd.prog 139 #[.agg #[.bool n, .slice a l c]] w fun e w' => e = .returned (.agg #[.bool !n, .slice a l c]) ∧ Below w.heap.size w w' := by
  go_enter Tryd.func139, Tryd.ntmps139
  go_wp2_with fail
  have h2 := own_new (w.alloc (boxI n (.slice a l c))) #[.bool !n, .slice a l c] 50
  rw [World.size_alloc] at h2
  obtain ⟨⟨r0, r1⟩, -⟩ := own2V h2
  refine bodyPost_ret (v := .agg #[.bool !n, .slice a l c]) (by simp [results, Tryd.results139, go_sem, r0, r1]) rfl ⟨rfl, ?_⟩
  exact ((Below.refl _ _).alloc (Nat.le_refl _) _).alloc (by simp) _

def signI (n : Bool) (x : Nat) : Int := if x = 0 then 0 else if n then -1 else 1

set_option maxRecDepth 20000 in
set_option maxHeartbeats 1000000 in
theorem intSign_any (n : Bool) (x : Nat) (v : Value) (w : World) (h : NatA w v (grp x)) :
    Calls Tryd.prog 53 #[.agg #[.bool n, v]] w fun e w' => e = .returned (.int .i64 (signI n x)) ∧ Below w.heap.size w w' := by
  obtain ⟨a, c, rfl⟩ := natA_formR h
  have HN := hid (isNought_any x _ _ (h.alloc (boxI n (.slice a (grp x).length c))))
  have h0 := own_new w #[.bool n, .slice a (grp x).length c] 50
  obtain ⟨⟨a0, a1⟩, -⟩ := own2V h0
  have HB : Hid (Below w.heap.size w (w.alloc (boxI n (.slice a (grp x).length c)))) := (Below.refl _ _).alloc (Nat.le_refl _) _
  clear h h0
  obtain ⟨z, hz⟩ : ∃ z, signI n x = z := ⟨_, rfl⟩
  rw [hz]
  have hc : ((x == 0) = true ∧ z = 0) ∨ ((x == 0) = false ∧ n = true ∧ z = -1) ∨ ((x == 0) = false ∧ n = false ∧ z = 1) := by
    rw [← hz]; unfold signI
    by_cases hx : x = 0
    · exact Or.inl ⟨by rw [hx]; rfl, if_pos hx⟩
    · cases n
      · exact Or.inr (Or.inr ⟨by simpa using hx, rfl, by rw [if_neg hx]; rfl⟩)
      · exact Or.inr (Or.inl ⟨by simpa using hx, rfl, by rw [if_neg hx]; rfl⟩)
  clear hz
  rcases hc with ⟨h1, rfl⟩ | ⟨h1, rfl, rfl⟩ | ⟨h1, rfl, rfl⟩
  all_goals
    rw [h1] at HN
    go_enter Tryd.func53, Tryd.ntmps53
    go_wp2_with fail
    refine HN.out.mono ?_
    rintro e w' ⟨rfl, hw⟩
    obtain rfl := hw.symm
    go_wp2_with fail
    go_ret
    exact ⟨rfl, HB.out⟩

set_option maxRecDepth 20000 in
set_option maxHeartbeats 1000000 in
theorem ratioOf_any (n : Bool) (a b : Option Addr) (l c k d : Nat) (w : World) :
    Calls Tryd.prog 69 #[.agg #[.bool n, .slice a l c, .slice b k d]] w fun e w' => e = .returned (.agg #[.bool n, .slice a l c, .bool false, .slice b k d]) ∧ Below w.heap.size w w' := by
  go_enter Tryd.func69, Tryd.ntmps69
  go_wp2_with fail
  have h2 := own_new (w.alloc (.cells #[.bool n, .slice a l c, .slice b k d] 71)) #[.bool n, .slice a l c, .bool false, .slice b k d] 61
  rw [World.size_alloc] at h2
  obtain ⟨⟨r0, r1, r2, r3⟩, -⟩ := own4V h2
  refine bodyPost_ret (v := .agg #[.bool n, .slice a l c, .bool false, .slice b k d]) (by simp [results, Tryd.results69, go_sem, r0, r1, r2, r3]) rfl ⟨rfl, ?_⟩
  exact ((Below.refl _ _).alloc (Nat.le_refl _) _).alloc (by simp) _

set_option maxRecDepth 20000 in
set_option maxHeartbeats 1000000 in
theorem turned_any (n m : Bool) (a b : Option Addr) (l c k d : Nat) (w : World) :
    Calls Tryd.prog 54 #[.agg #[.bool n, .slice a l c, .bool m, .slice b k d]] w fun e w' => e = .returned (.agg #[.bool m, .slice b k d, .bool n, .slice a l c]) ∧ Below w.heap.size w w' := by
  go_enter Tryd.func54, Tryd.ntmps54
  go_wp2_with fail
  have h2 := own_new (w.alloc (boxR n (.slice a l c) m (.slice b k d))) #[.bool m, .slice b k d, .bool n, .slice a l c] 61
  rw [World.size_alloc] at h2
  obtain ⟨⟨r0, r1, r2, r3⟩, -⟩ := own4V h2
  refine bodyPost_ret (v := .agg #[.bool m, .slice b k d, .bool n, .slice a l c]) (by simp [results, Tryd.results54, go_sem, r0, r1, r2, r3]) rfl ⟨rfl, ?_⟩
  exact ((Below.refl _ _).alloc (Nat.le_refl _) _).alloc (by simp) _

set_option maxRecDepth 20000 in
set_option maxHeartbeats 1000000 in
theorem ratioOpposite_any (n m : Bool) (a b : Option Addr) (l c k d : Nat) (w : World) :
    Calls Tryd.prog 52 #[.agg #[.bool n, .slice a l c, .bool m, .slice b k d]] w fun e w' => e = .returned (.agg #[.bool !n, .slice a l c, .bool m, .slice b k d]) ∧ Below w.heap.size w w' := by
  have HO := hid (fun w => intOpposite_any n a l c w)
  have mo := meth_opposite
  obtain ⟨W0, HW0⟩ : ∃ W, Hid ((w.alloc (boxR n (.slice a l c) m (.slice b k d))).alloc (boxR false (.slice none 0 0) false (.slice none 0 0)) = W) := ⟨_, rfl⟩
  have HX : Hid (∀ W, Below (w.heap.size + 2) W0 W → Own W w.heap.size 61 #[.bool n, .slice a l c, .bool m, .slice b k d] ∧ Own W (w.heap.size + 1) 61 #[.bool false, .slice none 0 0, .bool false, .slice none 0 0] ∧ Below w.heap.size w W) := fun W h => by
    rw [← HW0.out] at h
    exact boxes2 w _ _ _ _ h
  have HSt : Hid (∀ W, Below (w.heap.size + 2) W0 W → ∀ x y z t : Value, (((((W.setCell ⟨w.heap.size + 1, 0, none⟩ x).setCell ⟨w.heap.size + 1, 1, none⟩ y).setCell ⟨w.heap.size + 1, 2, none⟩ z).setCell ⟨w.heap.size + 1, 3, none⟩ t).cell? ⟨w.heap.size, 0, none⟩ = some (.bool n) ∧ ((((W.setCell ⟨w.heap.size + 1, 0, none⟩ x).setCell ⟨w.heap.size + 1, 1, none⟩ y).setCell ⟨w.heap.size + 1, 2, none⟩ z).setCell ⟨w.heap.size + 1, 3, none⟩ t).cell? ⟨w.heap.size, 1, none⟩ = some (.slice a l c) ∧
      ((((W.setCell ⟨w.heap.size + 1, 0, none⟩ x).setCell ⟨w.heap.size + 1, 1, none⟩ y).setCell ⟨w.heap.size + 1, 2, none⟩ z).setCell ⟨w.heap.size + 1, 3, none⟩ t).cell? ⟨w.heap.size, 2, none⟩ = some (.bool m) ∧ ((((W.setCell ⟨w.heap.size + 1, 0, none⟩ x).setCell ⟨w.heap.size + 1, 1, none⟩ y).setCell ⟨w.heap.size + 1, 2, none⟩ z).setCell ⟨w.heap.size + 1, 3, none⟩ t).cell? ⟨w.heap.size, 3, none⟩ = some (.slice b k d))) := fun W h x y z t => (own4V (own_set4 (HX.out W h).1 (by omega) x y z t)).1
  have HS0 : Hid (w.heap.size + 2 ≤ W0.heap.size) := by show _ ≤ _; rw [← HW0.out]; simp
  go_enter Tryd.func52, Tryd.ntmps52
  go_wp2_with fail
  rw [HW0.out]
  have HB : Hid (Below (w.heap.size + 2) W0 W0.drew) := (Below.refl _ _).drew
  obtain ⟨⟨r0, r1, r2, r3⟩, q0, q1, q2, q3⟩ := own4V (HX.out _ HB.out).2.1
  go_region_held3 (fun W => W.cell? ⟨w.heap.size, 0, none⟩ = some (.bool n) ∧ W.cell? ⟨w.heap.size, 1, none⟩ = some (.slice a l c) ∧ W.cell? ⟨w.heap.size, 2, none⟩ = some (.bool m) ∧ W.cell? ⟨w.heap.size, 3, none⟩ = some (.slice b k d))
    (first
      | exact (own4V (HX.out _ HB.out).1).1
      | exact HSt.out _ HB.out _ _ _ _)
    (first
      | (go_at_call 139
         go_loud (
         refine (HO.out _).mono ?_
         rintro e w3 ⟨rfl, hw3⟩
         have HB := hid (HB.out.trans (hw3.mono (Nat.le_trans HS0.out HB.out.size)))
         clear hw3 r0 r1 r2 r3 q0 q1 q2 q3
         obtain ⟨⟨r0, r1, r2, r3⟩, q0, q1, q2, q3⟩ := own4V (HX.out _ HB.out).2.1)))
  go_wp2_with fail
  refine bodyPost_ret (v := .agg #[.bool !n, .slice a l c, .bool m, .slice b k d]) (by simp [results, Tryd.results52, go_sem, r0, r1, r2, r3]) rfl ⟨rfl, ?_⟩
  exact below_set4 (HX.out _ HB.out).2.2 (by omega) _ _ _ _
end Go.Proofs.YtbbffhpppacihaaDoor

namespace Go.Proofs.YtbbffhpppacihaaDoor
open Go.RowKit Go.Siskin

theorem nG_mul (x y : Nat) : nG (x * y) ≤ nG x + nG y := nG_le (by rw [Nat.pow_add]; exact Nat.mul_lt_mul'' (lt_pow_nG x) (lt_pow_nG y))
/-- The sum of two numbers with signs. -/
def sumN (n1 : Bool) (x : Nat) (n2 : Bool) (y : Nat) : Bool := if n1 = n2 then n1 else if x < y then n2 else n1
def sumZ (n1 : Bool) (x : Nat) (n2 : Bool) (y : Nat) : Nat := if n1 = n2 then x + y else if x < y then y - x else x - y
theorem intPlus_any (n1 n2 : Bool) (x y : Nat) (vx vy : Value) (w : World) (hx : NatA w vx (grp x)) (hy : NatA w vy (grp y)) (hnx : nG x ≤ 5000) (hny : nG y ≤ 5000) :
    Calls Tryd.prog 140 #[.agg #[.bool n1, vx], .agg #[.bool n2, vy]] w fun e w' => ∃ a c, e = .returned (.agg #[.bool (sumN n1 x n2 y), .slice a (grp (sumZ n1 x n2 y)).length c]) ∧ NatA w' (.slice a (grp (sumZ n1 x n2 y)).length c) (grp (sumZ n1 x n2 y)) ∧ Below w.heap.size w w' := by
  by_cases h : n1 = n2
  · subst h
    have e1 : sumN n1 x n1 y = n1 := if_pos rfl
    have e2 : sumZ n1 x n1 y = x + y := if_pos rfl
    rw [e1, e2]
    refine (intPlus_same n1 x y vx vy w hx hy hnx hny).mono ?_
    rintro e w' ⟨u, rfl, h1, h2⟩
    obtain ⟨a, c, rfl⟩ := natA_formR h1
    exact ⟨a, c, rfl, h1, h2⟩
  · have hn : n2 = !n1 := by cases n1 <;> cases n2 <;> simp_all
    subst hn
    have e1 : sumN n1 x (!n1) y = if x < y then !n1 else n1 := if_neg h
    have e2 : sumZ n1 x (!n1) y = if x < y then y - x else x - y := if_neg h
    rw [e1, e2]
    refine (intPlus_diff n1 x y vx vy w hx hy hnx hny).mono ?_
    rintro e w' ⟨u, rfl, h1, h2⟩
    obtain ⟨a, c, rfl⟩ := natA_formR h1
    exact ⟨a, c, rfl, h1, h2⟩
theorem intTimes_slice (n1 n2 n : Bool) (x y : Nat) (vx vy : Value) (w : World) (hn : (n1 != n2) = n) (hx : NatA w vx (grp x)) (hy : NatA w vy (grp y)) (hnx : nG x ≤ 2000) (hny : nG y ≤ 2000) :
    Calls Tryd.prog 141 #[.agg #[.bool n1, vx], .agg #[.bool n2, vy]] w fun e w' => ∃ a c, e = .returned (.agg #[.bool n, .slice a (grp (x * y)).length c]) ∧ NatA w' (.slice a (grp (x * y)).length c) (grp (x * y)) ∧ Below w.heap.size w w' := by
  refine (intTimes_any n1 n2 x y vx vy w hx hy hnx hny).mono ?_
  rintro e w' ⟨u, rfl, h1, h2⟩
  obtain ⟨a, c, rfl⟩ := natA_formR h1
  exact ⟨a, c, by rw [hn], h1, h2⟩

set_option maxRecDepth 20000 in
set_option maxHeartbeats 4000000 in
theorem sumAbove_any (n1 n2 : Bool) (x1 y1 x2 y2 : Nat) (a1 b1 a2 b2 : Option Addr) (l1 c1 k1 d1 l2 c2 k2 d2 : Nat) (w : World) (hx1 : NatA w (.slice a1 l1 c1) (grp x1)) (hy1 : NatA w (.slice b1 k1 d1) (grp y1)) (hx2 : NatA w (.slice a2 l2 c2) (grp x2)) (hy2 : NatA w (.slice b2 k2 d2) (grp y2))
    (g1 : nG x1 ≤ 100) (g2 : nG y1 ≤ 100) (g3 : nG x2 ≤ 100) (g4 : nG y2 ≤ 100) :
    Calls Tryd.prog 46 #[.agg #[.bool n1, .slice a1 l1 c1, .bool false, .slice b1 k1 d1], .agg #[.bool n2, .slice a2 l2 c2, .bool false, .slice b2 k2 d2]] w fun e w' => ∃ a c, e = .returned (.agg #[.bool (sumN n1 (x1 * y2) n2 (x2 * y1)), .slice a (grp (sumZ n1 (x1 * y2) n2 (x2 * y1))).length c]) ∧ NatA w' (.slice a (grp (sumZ n1 (x1 * y2) n2 (x2 * y1))).length c) (grp (sumZ n1 (x1 * y2) n2 (x2 * y1))) ∧ Below w.heap.size w w' := by
  have mt := meth_times
  have mp := meth_plus
  have hf : ∀ b : Bool, (b != false) = b := fun b => by cases b <;> rfl
  have HT1 := hid (fun W (hb : Below w.heap.size w W) => intTimes_slice n1 false n1 x1 y2 _ _ W (hf n1) (hx1.below hb (Nat.le_refl _)) (hy2.below hb (Nat.le_refl _)) (by omega) (by omega))
  have HT2 := hid (fun W (hb : Below w.heap.size w W) => intTimes_slice n2 false n2 x2 y1 _ _ W (hf n2) (hx2.below hb (Nat.le_refl _)) (hy1.below hb (Nat.le_refl _)) (by omega) (by omega))
  have HP := hid (fun va vb W h1 h2 => intPlus_any n1 n2 (x1 * y2) (x2 * y1) va vb W h1 h2 (by have := nG_mul x1 y2; omega) (by have := nG_mul x2 y1; omega))
  generalize x1 * y2 = X at *
  generalize x2 * y1 = Y at *
  generalize sumN n1 X n2 Y = S at *
  generalize sumZ n1 X n2 Y = Z at *
  obtain ⟨W0, HW0⟩ : ∃ W, Hid (((w.alloc (boxR n1 (.slice a1 l1 c1) false (.slice b1 k1 d1))).alloc (boxR n2 (.slice a2 l2 c2) false (.slice b2 k2 d2))).alloc (boxI false (.slice none 0 0)) = W) := ⟨_, rfl⟩
  have HX : Hid (∀ W, Below (w.heap.size + 3) W0 W → Own W w.heap.size 61 #[.bool n1, .slice a1 l1 c1, .bool false, .slice b1 k1 d1] ∧ Own W (w.heap.size + 1) 61 #[.bool n2, .slice a2 l2 c2, .bool false, .slice b2 k2 d2] ∧ Own W (w.heap.size + 1 + 1) 50 #[.bool false, .slice none 0 0] ∧ Below w.heap.size w W) := fun W h => by
    rw [← HW0.out] at h
    exact boxes3 w _ _ _ _ _ _ h
  have HSt : Hid (∀ W, Below (w.heap.size + 3) W0 W → ∀ x' y' : Value, (((W.setCell ⟨w.heap.size + 1 + 1, 0, none⟩ x').setCell ⟨w.heap.size + 1 + 1, 1, none⟩ y').cell? ⟨w.heap.size, 0, none⟩ = some (.bool n1) ∧ ((W.setCell ⟨w.heap.size + 1 + 1, 0, none⟩ x').setCell ⟨w.heap.size + 1 + 1, 1, none⟩ y').cell? ⟨w.heap.size, 1, none⟩ = some (.slice a1 l1 c1) ∧ ((W.setCell ⟨w.heap.size + 1 + 1, 0, none⟩ x').setCell ⟨w.heap.size + 1 + 1, 1, none⟩ y').cell? ⟨w.heap.size, 2, none⟩ = some (.bool false) ∧ ((W.setCell ⟨w.heap.size + 1 + 1, 0, none⟩ x').setCell ⟨w.heap.size + 1 + 1, 1, none⟩ y').cell? ⟨w.heap.size, 3, none⟩ = some (.slice b1 k1 d1)) ∧
      ((W.setCell ⟨w.heap.size + 1 + 1, 0, none⟩ x').setCell ⟨w.heap.size + 1 + 1, 1, none⟩ y').cell? ⟨w.heap.size + 1, 0, none⟩ = some (.bool n2) ∧ ((W.setCell ⟨w.heap.size + 1 + 1, 0, none⟩ x').setCell ⟨w.heap.size + 1 + 1, 1, none⟩ y').cell? ⟨w.heap.size + 1, 1, none⟩ = some (.slice a2 l2 c2) ∧ ((W.setCell ⟨w.heap.size + 1 + 1, 0, none⟩ x').setCell ⟨w.heap.size + 1 + 1, 1, none⟩ y').cell? ⟨w.heap.size + 1, 2, none⟩ = some (.bool false) ∧ ((W.setCell ⟨w.heap.size + 1 + 1, 0, none⟩ x').setCell ⟨w.heap.size + 1 + 1, 1, none⟩ y').cell? ⟨w.heap.size + 1, 3, none⟩ = some (.slice b2 k2 d2)) := fun W h x' y' => by
    have h0 := HX.out W h
    exact ⟨(own4V (own_set2 h0.1 (by omega) x' y')).1, (own4V (own_set2 h0.2.1 (by omega) x' y')).1⟩
  have HS0 : Hid (w.heap.size + 3 ≤ W0.heap.size) := by show _ ≤ _; rw [← HW0.out]; simp
  clear hx1 hy1 hx2 hy2 g1 g2 g3 g4 hf
  go_enter Tryd.func46, Tryd.ntmps46
  go_wp2_with fail
  rw [HW0.out]
  have HB : Hid (Below (w.heap.size + 3) W0 W0.drew) := (Below.refl _ _).drew
  obtain ⟨⟨r0, r1⟩, q0, q1⟩ := own2V (HX.out _ HB.out).2.2.1
  go_region_held3 (fun W => (W.cell? ⟨w.heap.size, 0, none⟩ = some (.bool n1) ∧ W.cell? ⟨w.heap.size, 1, none⟩ = some (.slice a1 l1 c1) ∧ W.cell? ⟨w.heap.size, 2, none⟩ = some (.bool false) ∧ W.cell? ⟨w.heap.size, 3, none⟩ = some (.slice b1 k1 d1)) ∧ W.cell? ⟨w.heap.size + 1, 0, none⟩ = some (.bool n2) ∧ W.cell? ⟨w.heap.size + 1, 1, none⟩ = some (.slice a2 l2 c2) ∧ W.cell? ⟨w.heap.size + 1, 2, none⟩ = some (.bool false) ∧ W.cell? ⟨w.heap.size + 1, 3, none⟩ = some (.slice b2 k2 d2))
    (first
      | exact ⟨(own4V (HX.out _ HB.out).1).1, (own4V (HX.out _ HB.out).2.1).1⟩
      | exact HSt.out _ HB.out _ _)
    (first
      | (go_at_call_of 141 (Value.slice a1 l1 c1)
         go_loud (
         refine (HT1.out _ (HX.out _ HB.out).2.2.2).mono ?_
         rintro e w3 ⟨ta, tc, rfl, hu, hw3⟩
         have HTa := hid hu
         first
           | (have HTb := hid (HTb.out.below hw3 (Nat.le_refl _)))
           | skip
         have HB := hid (HB.out.trans (hw3.mono (Nat.le_trans HS0.out HB.out.size)))
         clear hu hw3 r0 r1 q0 q1
         obtain ⟨⟨r0, r1⟩, q0, q1⟩ := own2V (HX.out _ HB.out).2.2.1))
      | (go_at_call_of 141 (Value.slice a2 l2 c2)
         go_loud (
         refine (HT2.out _ (HX.out _ HB.out).2.2.2).mono ?_
         rintro e w4 ⟨sa, sc, rfl, hu, hw3⟩
         have HTb := hid hu
         first
           | (have HTa := hid (HTa.out.below hw3 (Nat.le_refl _)))
           | skip
         have HB := hid (HB.out.trans (hw3.mono (Nat.le_trans HS0.out HB.out.size)))
         clear hu hw3 r0 r1 q0 q1
         obtain ⟨⟨r0, r1⟩, q0, q1⟩ := own2V (HX.out _ HB.out).2.2.1))
      | (go_at_call 140
         go_loud (
         refine (HP.out _ _ _ HTa.out HTb.out).mono ?_
         rintro e w5 ⟨pa, pc, rfl, hu, hw3⟩
         have HU := hid hu
         have HB := hid (HB.out.trans (hw3.mono (Nat.le_trans HS0.out HB.out.size)))
         clear hu hw3 r0 r1 q0 q1
         obtain ⟨⟨r0, r1⟩, q0, q1⟩ := own2V (HX.out _ HB.out).2.2.1)))
  all_goals
    go_wp2_with fail
    refine bodyPost_ret (v := .agg #[.bool S, .slice pa (grp Z).length pc]) (by simp [results, Tryd.results46, go_sem, r0, r1]) rfl ⟨pa, pc, rfl, ?_, ?_⟩
    · exact natA_set2 HU.out (HX.out _ HB.out).2.2.1 _ _
    · exact below_set2 (HX.out _ HB.out).2.2.2 (by omega) _ _

set_option maxRecDepth 20000 in
set_option maxHeartbeats 4000000 in
theorem productAbove_any (n1 m1 n2 m2 : Bool) (x1 x2 : Nat) (a1 b1 a2 b2 : Option Addr) (l1 c1 k1 d1 l2 c2 k2 d2 : Nat) (w : World) (hx1 : NatA w (.slice a1 l1 c1) (grp x1)) (hx2 : NatA w (.slice a2 l2 c2) (grp x2)) (g1 : nG x1 ≤ 100) (g3 : nG x2 ≤ 100) :
    Calls Tryd.prog 48 #[.agg #[.bool n1, .slice a1 l1 c1, .bool m1, .slice b1 k1 d1], .agg #[.bool n2, .slice a2 l2 c2, .bool m2, .slice b2 k2 d2]] w fun e w' => ∃ a c, e = .returned (.agg #[.bool (n1 != n2), .slice a (grp (x1 * x2)).length c]) ∧ NatA w' (.slice a (grp (x1 * x2)).length c) (grp (x1 * x2)) ∧ Below w.heap.size w w' := by
  have mt := meth_times
  have HT1 := hid (fun W (hb : Below w.heap.size w W) => intTimes_slice n1 n2 _ x1 x2 _ _ W rfl (hx1.below hb (Nat.le_refl _)) (hx2.below hb (Nat.le_refl _)) (by omega) (by omega))
  generalize x1 * x2 = Z at *
  generalize (n1 != n2) = S at *
  obtain ⟨W0, HW0⟩ : ∃ W, Hid (((w.alloc (boxR n1 (.slice a1 l1 c1) m1 (.slice b1 k1 d1))).alloc (boxR n2 (.slice a2 l2 c2) m2 (.slice b2 k2 d2))).alloc (boxI false (.slice none 0 0)) = W) := ⟨_, rfl⟩
  have HX : Hid (∀ W, Below (w.heap.size + 3) W0 W → Own W w.heap.size 61 #[.bool n1, .slice a1 l1 c1, .bool m1, .slice b1 k1 d1] ∧ Own W (w.heap.size + 1) 61 #[.bool n2, .slice a2 l2 c2, .bool m2, .slice b2 k2 d2] ∧ Own W (w.heap.size + 1 + 1) 50 #[.bool false, .slice none 0 0] ∧ Below w.heap.size w W) := fun W h => by
    rw [← HW0.out] at h
    exact boxes3 w _ _ _ _ _ _ h
  have HS0 : Hid (w.heap.size + 3 ≤ W0.heap.size) := by show _ ≤ _; rw [← HW0.out]; simp
  have HB0 : Hid (Below (w.heap.size + 3) W0 W0) := Below.refl _ _
  obtain ⟨⟨e0, e1, e2, e3⟩, -⟩ := own4V (HX.out _ HB0.out).1
  obtain ⟨⟨f0, f1, f2, f3⟩, -⟩ := own4V (HX.out _ HB0.out).2.1
  clear hx1 hx2 g1 g3
  go_enter Tryd.func48, Tryd.ntmps48
  go_wp2_with fail
  rw [HW0.out]
  go_wp2_with fail
  refine (HT1.out _ (HX.out _ HB0.out).2.2.2).mono ?_
  rintro e w3 ⟨ta, tc, rfl, hu, hw3⟩
  have HU := hid hu
  have HB := hid (HB0.out.trans (hw3.mono HS0.out))
  clear hu hw3 e0 e1 e2 e3 f0 f1 f2 f3
  obtain ⟨⟨r0, r1⟩, q0, q1⟩ := own2V (HX.out _ HB.out).2.2.1
  go_wp2_with fail
  refine bodyPost_ret (v := .agg #[.bool S, .slice ta (grp Z).length tc]) (by simp [results, Tryd.results48, go_sem, r0, r1]) rfl ⟨ta, tc, rfl, ?_, ?_⟩
  · exact natA_set2 HU.out (HX.out _ HB.out).2.2.1 _ _
  · exact below_set2 (HX.out _ HB.out).2.2.2 (by omega) _ _
end Go.Proofs.YtbbffhpppacihaaDoor

namespace Go.Proofs.YtbbffhpppacihaaDoor
open Go.RowKit Go.Siskin

abbrev sg (neg : Bool) (u : Nat) : Int := if neg then -(u : Int) else u
theorem sg_abs (neg : Bool) (u : Nat) : (sg neg u).natAbs = u := by
  unfold sg; cases neg <;> simp
def ratQ (neg : Bool) (u d : Nat) : Rat := mkRat (sg neg u) d
theorem ratQ_den (neg : Bool) (u d : Nat) (hd : d ≠ 0) : (ratQ neg u d).den = d / Nat.gcd u d := by
  unfold ratQ
  rw [Rat.den_mkRat, if_neg hd, sg_abs, Nat.gcd_comm]
theorem ratQ_num (neg : Bool) (u d : Nat) (hd : d ≠ 0) : (ratQ neg u d).num = sg neg (u / Nat.gcd u d) := by
  unfold ratQ
  rw [Rat.num_mkRat, if_neg hd, sg_abs, Nat.gcd_comm d u]
  have hg : ((Nat.gcd u d : Nat) : Int) ∣ (u : Int) := Int.natCast_dvd_natCast.2 (Nat.gcd_dvd_left u d)
  unfold sg
  cases neg
  · simp
  · simp [Int.neg_ediv_of_dvd hg]
theorem ratQ_abs (neg : Bool) (u d : Nat) (hd : d ≠ 0) : (ratQ neg u d).num.natAbs = u / Nat.gcd u d := by
  rw [ratQ_num neg u d hd, sg_abs]
theorem ratQ_neg (neg : Bool) (u d : Nat) (hd : d ≠ 0) : decide ((ratQ neg u d).num < 0) = (neg && !(u / Nat.gcd u d == 0)) := by
  rw [ratQ_num neg u d hd]
  generalize u / Nat.gcd u d = k
  unfold sg
  cases neg
  · simp
  · cases k <;> simp <;> omega
theorem rat_ratQ (q : Rat) : ratQ (decide (q.num < 0)) q.num.natAbs q.den = q := by
  unfold ratQ
  have : sg (decide (q.num < 0)) q.num.natAbs = q.num := by
    unfold sg
    by_cases h : q.num < 0
    · simp [h]; omega
    · simp [h]; omega
  rw [this, Rat.mkRat_self]
theorem ratQ_div (neg : Bool) (u d : Nat) : ratQ neg u d = (sg neg u : Rat) / (d : Rat) := by
  unfold ratQ; rw [Rat.mkRat_eq_div]; 
theorem sg_rat (neg : Bool) (u : Nat) : ((sg neg u : Int) : Rat) = if neg then -(u : Rat) else u := by
  unfold sg; cases neg <;> simp [Rat.intCast_natCast]
theorem ratQ_mul (n1 n2 : Bool) (u1 d1 u2 d2 : Nat) : ratQ (n1 != n2) (u1 * u2) (d1 * d2) = ratQ n1 u1 d1 * ratQ n2 u2 d2 := by
  unfold ratQ
  rw [Rat.mkRat_mul_mkRat]
  congr 1
  unfold sg; cases n1 <;> cases n2 <;> simp [Int.neg_mul, Int.mul_neg]
theorem sg_sum (n1 n2 : Bool) (x y : Nat) : sg (sumN n1 x n2 y) (sumZ n1 x n2 y) = sg n1 x + sg n2 y := by
  unfold sg sumN sumZ
  by_cases h : x < y <;> cases n1 <;> cases n2 <;> simp [h] <;> omega
theorem sg_mul (n : Bool) (x y : Nat) : sg n (x * y) = sg n x * y := by unfold sg; cases n <;> simp [Int.neg_mul]
theorem ratQ_add (n1 n2 : Bool) (u1 d1 u2 d2 : Nat) (h1 : d1 ≠ 0) (h2 : d2 ≠ 0) : ratQ (sumN n1 (u1 * d2) n2 (u2 * d1)) (sumZ n1 (u1 * d2) n2 (u2 * d1)) (d1 * d2) = ratQ n1 u1 d1 + ratQ n2 u2 d2 := by
  unfold ratQ
  rw [Rat.mkRat_add_mkRat _ _ h1 h2, sg_sum, sg_mul, sg_mul]
theorem ratQ_opp (n : Bool) (u d : Nat) : ratQ (!n) u d = - ratQ n u d := by
  unfold ratQ
  rw [Rat.neg_mkRat]; congr 1; unfold sg; cases n <;> simp
theorem ratQ_sub (n1 n2 : Bool) (u1 d1 u2 d2 : Nat) (h1 : d1 ≠ 0) (h2 : d2 ≠ 0) : ratQ (sumN n1 (u1 * d2) (!n2) (u2 * d1)) (sumZ n1 (u1 * d2) (!n2) (u2 * d1)) (d1 * d2) = ratQ n1 u1 d1 - ratQ n2 u2 d2 := by
  rw [ratQ_add _ _ _ _ _ _ h1 h2, ratQ_opp, Rat.sub_eq_add_neg]
theorem ratQ_inv (n : Bool) (u d : Nat) (hu : u ≠ 0) (hd : d ≠ 0) : ratQ n d u = (ratQ n u d)⁻¹ := by
  rw [ratQ_div, ratQ_div, sg_rat, sg_rat]
  have h1 : (u : Rat) ≠ 0 := by simpa using hu
  have h2 : (d : Rat) ≠ 0 := by simpa using hd
  cases n <;> simp <;> grind
theorem ratQ_quo (n1 n2 : Bool) (u1 d1 u2 d2 : Nat) (h2 : d2 ≠ 0) (hu : u2 ≠ 0) : ratQ (n1 != n2) (u1 * d2) (d1 * u2) = ratQ n1 u1 d1 / ratQ n2 u2 d2 := by
  rw [ratQ_mul, ratQ_inv n2 u2 d2 hu h2, Rat.div_def]
def sgnR (q : Rat) : Int := if q = 0 then 0 else if q < 0 then -1 else 1
theorem sgnR_Q (n : Bool) (u d : Nat) (hd : d ≠ 0) : sgnR (ratQ n u d) = signI n u := by
  have h2 : (0 : Rat) < (d : Rat) := Rat.natCast_pos.2 (Nat.pos_of_ne_zero hd)
  unfold sgnR signI
  rw [ratQ_div, sg_rat]
  by_cases hu : u = 0
  · subst hu; cases n <;> simp [Rat.div_def]
  · have h1 : (0 : Rat) < (u : Rat) := Rat.natCast_pos.2 (Nat.pos_of_ne_zero hu)
    have h3 : 0 < (u : Rat) / d := by rw [Rat.div_def]; exact Rat.mul_pos h1 (Rat.inv_pos.2 h2)
    cases n
    · simp only [Bool.false_eq_true, if_false, hu]
      rw [if_neg (by grind), if_neg (by grind)]
    · simp only [if_true, hu, if_false]
      have : -(u : Rat) / d = - ((u : Rat) / d) := by rw [Rat.div_def, Rat.div_def, Rat.neg_mul]
      rw [this, if_neg (by grind), if_pos (by grind)]
end Go.Proofs.YtbbffhpppacihaaDoor
