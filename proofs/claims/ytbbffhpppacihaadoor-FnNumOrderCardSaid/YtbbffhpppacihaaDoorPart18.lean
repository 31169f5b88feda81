/-
  The model's l13Add, l13Neg, NumSub, NumAdd. Condition: none. Made by wip/tools/genuv.py.
  The model of stage 8: l14Sign, l14Down, l14Nearest. Condition: above and below have at most 60 digits.
  The model of stage 8: l14Nearest, NumRound. Condition: above and below have at most 60 digits.
  Numbers as rationals: what a sign, above and below tell; the ring's answers in these words. Pure.
-/
import Derived.Test.YtbbffhpppacihaaDoorPart17
import Derived.Test.YtbbffhpppacihaaDoorPart6
import Derived.Test.YtbbffhpppacihaaDoorPart7
import Derived.Test.YtbbffhpppacihaaDoorPart10
import Derived.Test.YtbbffhpppacihaaDoorPart14
namespace Go.Proofs.YtbbffhpppacihaaDoor
open Go.RowKit Go.Siskin

theorem sum_zero (n m : Bool) (X : Nat) : sumN n X m 0 = n ∧ sumZ n X m 0 = X := by
  unfold sumN sumZ
  by_cases h : n = m
  · rw [if_pos h, if_pos h]; exact ⟨rfl, Nat.add_zero X⟩
  · rw [if_neg h, if_neg h, if_neg (Nat.not_lt_zero X), if_neg (Nat.not_lt_zero X)]; exact ⟨rfl, Nat.sub_zero X⟩

set_option maxRecDepth 20000 in
set_option maxHeartbeats 4000000 in
theorem l13Add_same (n1 n2 : Bool) (u1 d1 u2 d2 : Nat) (w : World) (h1 : Lib.nDigits u1 ≤ 60) (h2 : Lib.nDigits d1 ≤ 60) (h3 : Lib.nDigits u2 ≤ 60) (h4 : Lib.nDigits d2 ≤ 60) (k1 : d1 ≠ 0) (k2 : d2 ≠ 0) (hs : n1 = n2) :
    Calls Tryd.prog 47 #[.agg #[.bool n1, .string (dec u1), .string (dec d1)], .agg #[.bool n2, .string (dec u2), .string (dec d2)]] w fun e w' => e = .returned (ansQ n1 (u1 * d2 + u2 * d1) (d1 * d2)) ∧ Below w.heap.size w w' := by
  have HMx := hid (fun w => l11Mul_any u1 d2 w (by omega) (by omega))
  have HMy := hid (fun w => l11Mul_any u2 d1 w (by omega) (by omega))
  have HMd := hid (fun w => l11Mul_any d1 d2 w (by omega) (by omega))
  have gx : Lib.nDigits (u1 * d2) ≤ 120 := nDigits_mul (m := 60) (k := 60) h1 h4 (by decide)
  have gy : Lib.nDigits (u2 * d1) ≤ 120 := nDigits_mul (m := 60) (k := 60) h3 h2 (by decide)
  have gd : Lib.nDigits (d1 * d2) ≤ 120 := nDigits_mul (m := 60) (k := 60) h2 h4 (by decide)
  have gz : Lib.nDigits (u1 * d2 + u2 * d1) ≤ 121 := nDigits_le (by have a := Nat.lt_of_lt_of_le (Lib.lt_pow_nDigits (u1 * d2)) (Nat.pow_le_pow_right (by decide) gx); have b := Nat.lt_of_lt_of_le (Lib.lt_pow_nDigits (u2 * d1)) (Nat.pow_le_pow_right (by decide) gy); rw [Nat.pow_succ]; omega) (by decide)
  have HA := hid (fun w => l13Answer_any n1 (u1 * d2 + u2 * d1) (d1 * d2) w (Nat.le_trans gz (by decide)) (Nat.le_trans gd (by decide)) (Nat.mul_ne_zero k1 k2))
  have HOp := hid (fun w => l11Add_any (u1 * d2) (u2 * d1) w (by omega) (by omega))
  obtain ⟨ma, mx, my, mc, hmf⟩ := ansQ_form n1 (u1 * d2 + u2 * d1) (d1 * d2)
  rw [hmf] at HA ⊢
  have hnn : (n1 == n2) = true := by rw [hs]; simp
  clear hs
  clear hmf h1 h2 h3 h4 k1 k2 gx gy gd gz
  generalize dec (u1 * d2 + u2 * d1) = PZ at *
  generalize dec (u1 * d2) = PX at *
  generalize dec (u2 * d1) = PY at *
  generalize dec (d1 * d2) = PD at *
  generalize dec u1 = T1 at *
  generalize dec d1 = R1 at *
  generalize dec u2 = T2 at *
  generalize dec d2 = R2 at *
  have HB0 : Hid (Below (w.heap.size + 3) (((w.alloc (boxN n1 T1 R1)).alloc (boxN n2 T2 R2)).alloc box0) (((w.alloc (boxN n1 T1 R1)).alloc (boxN n2 T2 R2)).alloc box0)) := Below.refl _ _
  have HX : Hid (∀ W, Below (w.heap.size + 3) (((w.alloc (boxN n1 T1 R1)).alloc (boxN n2 T2 R2)).alloc box0) W → Own W w.heap.size 25 #[.bool n1, .string T1, .string R1] ∧ Own W (w.heap.size + 1) 25 #[.bool n2, .string T2, .string R2] ∧ Own W (w.heap.size + 1 + 1) 25 #[.bool false, .string ⟨#[]⟩, .string ⟨#[]⟩] ∧ Below w.heap.size w W) := fun W h => boxes3 w _ _ _ _ _ _ h
  have HSz : Hid (w.heap.size + 3 ≤ (((w.alloc (boxN n1 T1 R1)).alloc (boxN n2 T2 R2)).alloc box0).heap.size) := by show _ ≤ _; simp
  have HSt : Hid (∀ W, Below (w.heap.size + 3) (((w.alloc (boxN n1 T1 R1)).alloc (boxN n2 T2 R2)).alloc box0) W → ∀ x y z : Value, ((((W.setCell ⟨w.heap.size + 1 + 1, 0, none⟩ x).setCell ⟨w.heap.size + 1 + 1, 1, none⟩ y).setCell ⟨w.heap.size + 1 + 1, 2, none⟩ z).cell? ⟨w.heap.size, 0, none⟩ = some (.bool n1) ∧ (((W.setCell ⟨w.heap.size + 1 + 1, 0, none⟩ x).setCell ⟨w.heap.size + 1 + 1, 1, none⟩ y).setCell ⟨w.heap.size + 1 + 1, 2, none⟩ z).cell? ⟨w.heap.size, 1, none⟩ = some (.string T1) ∧ (((W.setCell ⟨w.heap.size + 1 + 1, 0, none⟩ x).setCell ⟨w.heap.size + 1 + 1, 1, none⟩ y).setCell ⟨w.heap.size + 1 + 1, 2, none⟩ z).cell? ⟨w.heap.size, 2, none⟩ = some (.string R1)) ∧ (((W.setCell ⟨w.heap.size + 1 + 1, 0, none⟩ x).setCell ⟨w.heap.size + 1 + 1, 1, none⟩ y).setCell ⟨w.heap.size + 1 + 1, 2, none⟩ z).cell? ⟨w.heap.size + 1, 0, none⟩ = some (.bool n2) ∧ (((W.setCell ⟨w.heap.size + 1 + 1, 0, none⟩ x).setCell ⟨w.heap.size + 1 + 1, 1, none⟩ y).setCell ⟨w.heap.size + 1 + 1, 2, none⟩ z).cell? ⟨w.heap.size + 1, 1, none⟩ = some (.string T2) ∧ (((W.setCell ⟨w.heap.size + 1 + 1, 0, none⟩ x).setCell ⟨w.heap.size + 1 + 1, 1, none⟩ y).setCell ⟨w.heap.size + 1 + 1, 2, none⟩ z).cell? ⟨w.heap.size + 1, 2, none⟩ = some (.string R2)) := fun W h x y z => by
    have h0 := HX.out W h
    exact ⟨(own3V (own_set3 h0.1 (by omega) x y z)).1, (own3V (own_set3 h0.2.1 (by omega) x y z)).1⟩
  go_enter Tryd.func47, Tryd.ntmps47
  obtain ⟨⟨x0, x1, x2⟩, -⟩ := own3V (HX.out _ HB0.out).1
  obtain ⟨⟨y0, y1, y2⟩, -⟩ := own3V (HX.out _ HB0.out).2.1
  go_wp2_with fail
  refine (HMx.out _).mono ?_
  rintro e wa ⟨rfl, hwa⟩
  have HBa := hid (HB0.out.trans (hwa.mono HSz.out))
  clear hwa x0 x1 x2 y0 y1 y2
  obtain ⟨⟨x0, x1, x2⟩, -⟩ := own3V (HX.out _ HBa.out).1
  obtain ⟨⟨y0, y1, y2⟩, -⟩ := own3V (HX.out _ HBa.out).2.1
  go_wp2_with fail
  refine (HMy.out _).mono ?_
  rintro e wc ⟨rfl, hwa⟩
  have HBc := hid (HBa.out.trans (hwa.mono (Nat.le_trans HSz.out HBa.out.size)))
  clear hwa x0 x1 x2 y0 y1 y2
  obtain ⟨⟨x0, x1, x2⟩, -⟩ := own3V (HX.out _ HBc.out).1
  obtain ⟨⟨y0, y1, y2⟩, -⟩ := own3V (HX.out _ HBc.out).2.1
  go_wp2_with fail
  refine (HMd.out _).mono ?_
  rintro e wb ⟨rfl, hwa⟩
  have HBb := hid (HBc.out.trans (hwa.mono (Nat.le_trans HSz.out HBc.out.size)))
  clear hwa x0 x1 x2 y0 y1 y2
  obtain ⟨⟨x0, x1, x2⟩, -⟩ := own3V (HX.out _ HBb.out).1
  obtain ⟨⟨y0, y1, y2⟩, -⟩ := own3V (HX.out _ HBb.out).2.1
  go_wp2_with fail
  clear x0 x1 x2 y0 y1 y2
  have HB := hid HBb.out.drew
  obtain ⟨⟨r0, r1, r2⟩, q0, q1, q2⟩ := own3V (HX.out _ HB.out).2.2.1
  go_region_held3 (fun W => (W.cell? ⟨w.heap.size, 0, none⟩ = some (.bool n1) ∧ W.cell? ⟨w.heap.size, 1, none⟩ = some (.string T1) ∧ W.cell? ⟨w.heap.size, 2, none⟩ = some (.string R1)) ∧ W.cell? ⟨w.heap.size + 1, 0, none⟩ = some (.bool n2) ∧ W.cell? ⟨w.heap.size + 1, 1, none⟩ = some (.string T2) ∧ W.cell? ⟨w.heap.size + 1, 2, none⟩ = some (.string R2))
    (first
      | exact ⟨(own3V (HX.out _ HB.out).1).1, (own3V (HX.out _ HB.out).2.1).1⟩
      | exact HSt.out _ HB.out _ _ _)
    (first
      | (go_at_call 78
         go_loud (
           refine (HOp.out _).mono ?_
           rintro e w5 ⟨rfl, hw5⟩
           have HB := hid (HB.out.trans (hw5.mono (Nat.le_trans HSz.out HB.out.size)))
           clear hw5 r0 r1 r2 q0 q1 q2
           obtain ⟨⟨r0, r1, r2⟩, q0, q1, q2⟩ := own3V (HX.out _ HB.out).2.2.1))
      | (go_at_call 67
         go_loud (
           refine (HA.out _).mono ?_
           rintro e w5 ⟨rfl, hw5⟩
           have HB := hid (HB.out.trans (hw5.mono (Nat.le_trans HSz.out HB.out.size)))
           clear hw5 r0 r1 r2 q0 q1 q2
           obtain ⟨⟨r0, r1, r2⟩, q0, q1, q2⟩ := own3V (HX.out _ HB.out).2.2.1)))
  all_goals
    go_wp2_with fail
    refine bodyPost_ret (v := .tuple #[.agg #[.bool ma, .string mx, .string my], .int .i64 mc]) (by simp [results, Tryd.results47, go_sem, r0, r1, r2]) rfl ⟨rfl, ?_⟩
    exact below_set3 (HX.out _ HB.out).2.2.2 (by omega) _ _ _

set_option maxRecDepth 20000 in
set_option maxHeartbeats 4000000 in
theorem l13Add_ge (n1 n2 : Bool) (u1 d1 u2 d2 : Nat) (w : World) (h1 : Lib.nDigits u1 ≤ 60) (h2 : Lib.nDigits d1 ≤ 60) (h3 : Lib.nDigits u2 ≤ 60) (h4 : Lib.nDigits d2 ≤ 60) (k1 : d1 ≠ 0) (k2 : d2 ≠ 0) (hs : n1 ≠ n2) (hlt : ¬ u1 * d2 < u2 * d1) :
    Calls Tryd.prog 47 #[.agg #[.bool n1, .string (dec u1), .string (dec d1)], .agg #[.bool n2, .string (dec u2), .string (dec d2)]] w fun e w' => e = .returned (ansQ n1 (u1 * d2 - u2 * d1) (d1 * d2)) ∧ Below w.heap.size w w' := by
  have HMx := hid (fun w => l11Mul_any u1 d2 w (by omega) (by omega))
  have HMy := hid (fun w => l11Mul_any u2 d1 w (by omega) (by omega))
  have HMd := hid (fun w => l11Mul_any d1 d2 w (by omega) (by omega))
  have gx : Lib.nDigits (u1 * d2) ≤ 120 := nDigits_mul (m := 60) (k := 60) h1 h4 (by decide)
  have gy : Lib.nDigits (u2 * d1) ≤ 120 := nDigits_mul (m := 60) (k := 60) h3 h2 (by decide)
  have gd : Lib.nDigits (d1 * d2) ≤ 120 := nDigits_mul (m := 60) (k := 60) h2 h4 (by decide)
  have gz : Lib.nDigits (u1 * d2 - u2 * d1) ≤ 120 := Nat.le_trans (nDigits_mono (Nat.sub_le _ _)) gx
  have HA := hid (fun w => l13Answer_any n1 (u1 * d2 - u2 * d1) (d1 * d2) w (Nat.le_trans gz (by decide)) (Nat.le_trans gd (by decide)) (Nat.mul_ne_zero k1 k2))
  have HOp := hid (fun w => l11Sub_any (u1 * d2) (u2 * d1) w (by omega) (by omega))
  obtain ⟨ma, mx, my, mc, hmf⟩ := ansQ_form n1 (u1 * d2 - u2 * d1) (d1 * d2)
  rw [hmf] at HA ⊢
  have hnn : (n1 == n2) = false := by rw [beq_eq_false_iff_ne]; exact hs
  have HCm := hid (fun w => l11Cmp_any (u1 * d2) (u2 * d1) w)
  obtain ⟨cz, hcz⟩ : ∃ c, cmpI (u1 * d2) (u2 * d1) = c := ⟨_, rfl⟩
  have hcz0 : 0 ≤ cz := by rw [← hcz]; unfold cmpI; rw [if_neg hlt]; split <;> decide
  rw [hcz] at HCm
  clear hs hlt hcz
  clear hmf h1 h2 h3 h4 k1 k2 gx gy gd gz
  generalize dec (u1 * d2 - u2 * d1) = PZ at *
  generalize dec (u1 * d2) = PX at *
  generalize dec (u2 * d1) = PY at *
  generalize dec (d1 * d2) = PD at *
  generalize dec u1 = T1 at *
  generalize dec d1 = R1 at *
  generalize dec u2 = T2 at *
  generalize dec d2 = R2 at *
  have HB0 : Hid (Below (w.heap.size + 3) (((w.alloc (boxN n1 T1 R1)).alloc (boxN n2 T2 R2)).alloc box0) (((w.alloc (boxN n1 T1 R1)).alloc (boxN n2 T2 R2)).alloc box0)) := Below.refl _ _
  have HX : Hid (∀ W, Below (w.heap.size + 3) (((w.alloc (boxN n1 T1 R1)).alloc (boxN n2 T2 R2)).alloc box0) W → Own W w.heap.size 25 #[.bool n1, .string T1, .string R1] ∧ Own W (w.heap.size + 1) 25 #[.bool n2, .string T2, .string R2] ∧ Own W (w.heap.size + 1 + 1) 25 #[.bool false, .string ⟨#[]⟩, .string ⟨#[]⟩] ∧ Below w.heap.size w W) := fun W h => boxes3 w _ _ _ _ _ _ h
  have HSz : Hid (w.heap.size + 3 ≤ (((w.alloc (boxN n1 T1 R1)).alloc (boxN n2 T2 R2)).alloc box0).heap.size) := by show _ ≤ _; simp
  have HSt : Hid (∀ W, Below (w.heap.size + 3) (((w.alloc (boxN n1 T1 R1)).alloc (boxN n2 T2 R2)).alloc box0) W → ∀ x y z : Value, ((((W.setCell ⟨w.heap.size + 1 + 1, 0, none⟩ x).setCell ⟨w.heap.size + 1 + 1, 1, none⟩ y).setCell ⟨w.heap.size + 1 + 1, 2, none⟩ z).cell? ⟨w.heap.size, 0, none⟩ = some (.bool n1) ∧ (((W.setCell ⟨w.heap.size + 1 + 1, 0, none⟩ x).setCell ⟨w.heap.size + 1 + 1, 1, none⟩ y).setCell ⟨w.heap.size + 1 + 1, 2, none⟩ z).cell? ⟨w.heap.size, 1, none⟩ = some (.string T1) ∧ (((W.setCell ⟨w.heap.size + 1 + 1, 0, none⟩ x).setCell ⟨w.heap.size + 1 + 1, 1, none⟩ y).setCell ⟨w.heap.size + 1 + 1, 2, none⟩ z).cell? ⟨w.heap.size, 2, none⟩ = some (.string R1)) ∧ (((W.setCell ⟨w.heap.size + 1 + 1, 0, none⟩ x).setCell ⟨w.heap.size + 1 + 1, 1, none⟩ y).setCell ⟨w.heap.size + 1 + 1, 2, none⟩ z).cell? ⟨w.heap.size + 1, 0, none⟩ = some (.bool n2) ∧ (((W.setCell ⟨w.heap.size + 1 + 1, 0, none⟩ x).setCell ⟨w.heap.size + 1 + 1, 1, none⟩ y).setCell ⟨w.heap.size + 1 + 1, 2, none⟩ z).cell? ⟨w.heap.size + 1, 1, none⟩ = some (.string T2) ∧ (((W.setCell ⟨w.heap.size + 1 + 1, 0, none⟩ x).setCell ⟨w.heap.size + 1 + 1, 1, none⟩ y).setCell ⟨w.heap.size + 1 + 1, 2, none⟩ z).cell? ⟨w.heap.size + 1, 2, none⟩ = some (.string R2)) := fun W h x y z => by
    have h0 := HX.out W h
    exact ⟨(own3V (own_set3 h0.1 (by omega) x y z)).1, (own3V (own_set3 h0.2.1 (by omega) x y z)).1⟩
  go_enter Tryd.func47, Tryd.ntmps47
  obtain ⟨⟨x0, x1, x2⟩, -⟩ := own3V (HX.out _ HB0.out).1
  obtain ⟨⟨y0, y1, y2⟩, -⟩ := own3V (HX.out _ HB0.out).2.1
  go_wp2_with fail
  refine (HMx.out _).mono ?_
  rintro e wa ⟨rfl, hwa⟩
  have HBa := hid (HB0.out.trans (hwa.mono HSz.out))
  clear hwa x0 x1 x2 y0 y1 y2
  obtain ⟨⟨x0, x1, x2⟩, -⟩ := own3V (HX.out _ HBa.out).1
  obtain ⟨⟨y0, y1, y2⟩, -⟩ := own3V (HX.out _ HBa.out).2.1
  go_wp2_with fail
  refine (HMy.out _).mono ?_
  rintro e wc ⟨rfl, hwa⟩
  have HBc := hid (HBa.out.trans (hwa.mono (Nat.le_trans HSz.out HBa.out.size)))
  clear hwa x0 x1 x2 y0 y1 y2
  obtain ⟨⟨x0, x1, x2⟩, -⟩ := own3V (HX.out _ HBc.out).1
  obtain ⟨⟨y0, y1, y2⟩, -⟩ := own3V (HX.out _ HBc.out).2.1
  go_wp2_with fail
  refine (HMd.out _).mono ?_
  rintro e wb ⟨rfl, hwa⟩
  have HBb := hid (HBc.out.trans (hwa.mono (Nat.le_trans HSz.out HBc.out.size)))
  clear hwa x0 x1 x2 y0 y1 y2
  obtain ⟨⟨x0, x1, x2⟩, -⟩ := own3V (HX.out _ HBb.out).1
  obtain ⟨⟨y0, y1, y2⟩, -⟩ := own3V (HX.out _ HBb.out).2.1
  go_wp2_with fail
  refine (HCm.out _).mono ?_
  rintro e w' ⟨rfl, hw⟩
  obtain rfl := hw.symm
  go_wp2_with fail
  clear x0 x1 x2 y0 y1 y2
  have HB := hid HBb.out.drew
  obtain ⟨⟨r0, r1, r2⟩, q0, q1, q2⟩ := own3V (HX.out _ HB.out).2.2.1
  go_region_held3 (fun W => (W.cell? ⟨w.heap.size, 0, none⟩ = some (.bool n1) ∧ W.cell? ⟨w.heap.size, 1, none⟩ = some (.string T1) ∧ W.cell? ⟨w.heap.size, 2, none⟩ = some (.string R1)) ∧ W.cell? ⟨w.heap.size + 1, 0, none⟩ = some (.bool n2) ∧ W.cell? ⟨w.heap.size + 1, 1, none⟩ = some (.string T2) ∧ W.cell? ⟨w.heap.size + 1, 2, none⟩ = some (.string R2))
    (first
      | exact ⟨(own3V (HX.out _ HB.out).1).1, (own3V (HX.out _ HB.out).2.1).1⟩
      | exact HSt.out _ HB.out _ _ _)
    (first
      | (go_at_call 64
         go_loud (
           refine (HOp.out _).mono ?_
           rintro e w5 ⟨rfl, hw5⟩
           have HB := hid (HB.out.trans (hw5.mono (Nat.le_trans HSz.out HB.out.size)))
           clear hw5 r0 r1 r2 q0 q1 q2
           obtain ⟨⟨r0, r1, r2⟩, q0, q1, q2⟩ := own3V (HX.out _ HB.out).2.2.1))
      | (go_at_call 67
         go_loud (
           refine (HA.out _).mono ?_
           rintro e w5 ⟨rfl, hw5⟩
           have HB := hid (HB.out.trans (hw5.mono (Nat.le_trans HSz.out HB.out.size)))
           clear hw5 r0 r1 r2 q0 q1 q2
           obtain ⟨⟨r0, r1, r2⟩, q0, q1, q2⟩ := own3V (HX.out _ HB.out).2.2.1)))
  all_goals
    go_wp2_with fail
    refine bodyPost_ret (v := .tuple #[.agg #[.bool ma, .string mx, .string my], .int .i64 mc]) (by simp [results, Tryd.results47, go_sem, r0, r1, r2]) rfl ⟨rfl, ?_⟩
    exact below_set3 (HX.out _ HB.out).2.2.2 (by omega) _ _ _

set_option maxRecDepth 20000 in
set_option maxHeartbeats 4000000 in
theorem l13Add_lt (n1 n2 : Bool) (u1 d1 u2 d2 : Nat) (w : World) (h1 : Lib.nDigits u1 ≤ 60) (h2 : Lib.nDigits d1 ≤ 60) (h3 : Lib.nDigits u2 ≤ 60) (h4 : Lib.nDigits d2 ≤ 60) (k1 : d1 ≠ 0) (k2 : d2 ≠ 0) (hs : n1 ≠ n2) (hlt : u1 * d2 < u2 * d1) :
    Calls Tryd.prog 47 #[.agg #[.bool n1, .string (dec u1), .string (dec d1)], .agg #[.bool n2, .string (dec u2), .string (dec d2)]] w fun e w' => e = .returned (ansQ n2 (u2 * d1 - u1 * d2) (d1 * d2)) ∧ Below w.heap.size w w' := by
  have HMx := hid (fun w => l11Mul_any u1 d2 w (by omega) (by omega))
  have HMy := hid (fun w => l11Mul_any u2 d1 w (by omega) (by omega))
  have HMd := hid (fun w => l11Mul_any d1 d2 w (by omega) (by omega))
  have gx : Lib.nDigits (u1 * d2) ≤ 120 := nDigits_mul (m := 60) (k := 60) h1 h4 (by decide)
  have gy : Lib.nDigits (u2 * d1) ≤ 120 := nDigits_mul (m := 60) (k := 60) h3 h2 (by decide)
  have gd : Lib.nDigits (d1 * d2) ≤ 120 := nDigits_mul (m := 60) (k := 60) h2 h4 (by decide)
  have gz : Lib.nDigits (u2 * d1 - u1 * d2) ≤ 120 := Nat.le_trans (nDigits_mono (Nat.sub_le _ _)) gy
  have HA := hid (fun w => l13Answer_any n2 (u2 * d1 - u1 * d2) (d1 * d2) w (Nat.le_trans gz (by decide)) (Nat.le_trans gd (by decide)) (Nat.mul_ne_zero k1 k2))
  have HOp := hid (fun w => l11Sub_any (u2 * d1) (u1 * d2) w (by omega) (by omega))
  obtain ⟨ma, mx, my, mc, hmf⟩ := ansQ_form n2 (u2 * d1 - u1 * d2) (d1 * d2)
  rw [hmf] at HA ⊢
  have hnn : (n1 == n2) = false := by rw [beq_eq_false_iff_ne]; exact hs
  have HCm := hid (fun w => l11Cmp_any (u1 * d2) (u2 * d1) w)
  have hcz : cmpI (u1 * d2) (u2 * d1) = -1 := if_pos hlt
  rw [hcz] at HCm
  clear hs hlt hcz
  clear hmf h1 h2 h3 h4 k1 k2 gx gy gd gz
  generalize dec (u2 * d1 - u1 * d2) = PZ at *
  generalize dec (u1 * d2) = PX at *
  generalize dec (u2 * d1) = PY at *
  generalize dec (d1 * d2) = PD at *
  generalize dec u1 = T1 at *
  generalize dec d1 = R1 at *
  generalize dec u2 = T2 at *
  generalize dec d2 = R2 at *
  have HB0 : Hid (Below (w.heap.size + 3) (((w.alloc (boxN n1 T1 R1)).alloc (boxN n2 T2 R2)).alloc box0) (((w.alloc (boxN n1 T1 R1)).alloc (boxN n2 T2 R2)).alloc box0)) := Below.refl _ _
  have HX : Hid (∀ W, Below (w.heap.size + 3) (((w.alloc (boxN n1 T1 R1)).alloc (boxN n2 T2 R2)).alloc box0) W → Own W w.heap.size 25 #[.bool n1, .string T1, .string R1] ∧ Own W (w.heap.size + 1) 25 #[.bool n2, .string T2, .string R2] ∧ Own W (w.heap.size + 1 + 1) 25 #[.bool false, .string ⟨#[]⟩, .string ⟨#[]⟩] ∧ Below w.heap.size w W) := fun W h => boxes3 w _ _ _ _ _ _ h
  have HSz : Hid (w.heap.size + 3 ≤ (((w.alloc (boxN n1 T1 R1)).alloc (boxN n2 T2 R2)).alloc box0).heap.size) := by show _ ≤ _; simp
  have HSt : Hid (∀ W, Below (w.heap.size + 3) (((w.alloc (boxN n1 T1 R1)).alloc (boxN n2 T2 R2)).alloc box0) W → ∀ x y z : Value, ((((W.setCell ⟨w.heap.size + 1 + 1, 0, none⟩ x).setCell ⟨w.heap.size + 1 + 1, 1, none⟩ y).setCell ⟨w.heap.size + 1 + 1, 2, none⟩ z).cell? ⟨w.heap.size, 0, none⟩ = some (.bool n1) ∧ (((W.setCell ⟨w.heap.size + 1 + 1, 0, none⟩ x).setCell ⟨w.heap.size + 1 + 1, 1, none⟩ y).setCell ⟨w.heap.size + 1 + 1, 2, none⟩ z).cell? ⟨w.heap.size, 1, none⟩ = some (.string T1) ∧ (((W.setCell ⟨w.heap.size + 1 + 1, 0, none⟩ x).setCell ⟨w.heap.size + 1 + 1, 1, none⟩ y).setCell ⟨w.heap.size + 1 + 1, 2, none⟩ z).cell? ⟨w.heap.size, 2, none⟩ = some (.string R1)) ∧ (((W.setCell ⟨w.heap.size + 1 + 1, 0, none⟩ x).setCell ⟨w.heap.size + 1 + 1, 1, none⟩ y).setCell ⟨w.heap.size + 1 + 1, 2, none⟩ z).cell? ⟨w.heap.size + 1, 0, none⟩ = some (.bool n2) ∧ (((W.setCell ⟨w.heap.size + 1 + 1, 0, none⟩ x).setCell ⟨w.heap.size + 1 + 1, 1, none⟩ y).setCell ⟨w.heap.size + 1 + 1, 2, none⟩ z).cell? ⟨w.heap.size + 1, 1, none⟩ = some (.string T2) ∧ (((W.setCell ⟨w.heap.size + 1 + 1, 0, none⟩ x).setCell ⟨w.heap.size + 1 + 1, 1, none⟩ y).setCell ⟨w.heap.size + 1 + 1, 2, none⟩ z).cell? ⟨w.heap.size + 1, 2, none⟩ = some (.string R2)) := fun W h x y z => by
    have h0 := HX.out W h
    exact ⟨(own3V (own_set3 h0.1 (by omega) x y z)).1, (own3V (own_set3 h0.2.1 (by omega) x y z)).1⟩
  go_enter Tryd.func47, Tryd.ntmps47
  obtain ⟨⟨x0, x1, x2⟩, -⟩ := own3V (HX.out _ HB0.out).1
  obtain ⟨⟨y0, y1, y2⟩, -⟩ := own3V (HX.out _ HB0.out).2.1
  go_wp2_with fail
  refine (HMx.out _).mono ?_
  rintro e wa ⟨rfl, hwa⟩
  have HBa := hid (HB0.out.trans (hwa.mono HSz.out))
  clear hwa x0 x1 x2 y0 y1 y2
  obtain ⟨⟨x0, x1, x2⟩, -⟩ := own3V (HX.out _ HBa.out).1
  obtain ⟨⟨y0, y1, y2⟩, -⟩ := own3V (HX.out _ HBa.out).2.1
  go_wp2_with fail
  refine (HMy.out _).mono ?_
  rintro e wc ⟨rfl, hwa⟩
  have HBc := hid (HBa.out.trans (hwa.mono (Nat.le_trans HSz.out HBa.out.size)))
  clear hwa x0 x1 x2 y0 y1 y2
  obtain ⟨⟨x0, x1, x2⟩, -⟩ := own3V (HX.out _ HBc.out).1
  obtain ⟨⟨y0, y1, y2⟩, -⟩ := own3V (HX.out _ HBc.out).2.1
  go_wp2_with fail
  refine (HMd.out _).mono ?_
  rintro e wb ⟨rfl, hwa⟩
  have HBb := hid (HBc.out.trans (hwa.mono (Nat.le_trans HSz.out HBc.out.size)))
  clear hwa x0 x1 x2 y0 y1 y2
  obtain ⟨⟨x0, x1, x2⟩, -⟩ := own3V (HX.out _ HBb.out).1
  obtain ⟨⟨y0, y1, y2⟩, -⟩ := own3V (HX.out _ HBb.out).2.1
  go_wp2_with fail
  refine (HCm.out _).mono ?_
  rintro e w' ⟨rfl, hw⟩
  obtain rfl := hw.symm
  go_wp2_with fail
  clear x0 x1 x2 y0 y1 y2
  have HB := hid HBb.out.drew
  obtain ⟨⟨r0, r1, r2⟩, q0, q1, q2⟩ := own3V (HX.out _ HB.out).2.2.1
  go_region_held3 (fun W => (W.cell? ⟨w.heap.size, 0, none⟩ = some (.bool n1) ∧ W.cell? ⟨w.heap.size, 1, none⟩ = some (.string T1) ∧ W.cell? ⟨w.heap.size, 2, none⟩ = some (.string R1)) ∧ W.cell? ⟨w.heap.size + 1, 0, none⟩ = some (.bool n2) ∧ W.cell? ⟨w.heap.size + 1, 1, none⟩ = some (.string T2) ∧ W.cell? ⟨w.heap.size + 1, 2, none⟩ = some (.string R2))
    (first
      | exact ⟨(own3V (HX.out _ HB.out).1).1, (own3V (HX.out _ HB.out).2.1).1⟩
      | exact HSt.out _ HB.out _ _ _)
    (first
      | (go_at_call 64
         go_loud (
           refine (HOp.out _).mono ?_
           rintro e w5 ⟨rfl, hw5⟩
           have HB := hid (HB.out.trans (hw5.mono (Nat.le_trans HSz.out HB.out.size)))
           clear hw5 r0 r1 r2 q0 q1 q2
           obtain ⟨⟨r0, r1, r2⟩, q0, q1, q2⟩ := own3V (HX.out _ HB.out).2.2.1))
      | (go_at_call 67
         go_loud (
           refine (HA.out _).mono ?_
           rintro e w5 ⟨rfl, hw5⟩
           have HB := hid (HB.out.trans (hw5.mono (Nat.le_trans HSz.out HB.out.size)))
           clear hw5 r0 r1 r2 q0 q1 q2
           obtain ⟨⟨r0, r1, r2⟩, q0, q1, q2⟩ := own3V (HX.out _ HB.out).2.2.1)))
  all_goals
    go_wp2_with fail
    refine bodyPost_ret (v := .tuple #[.agg #[.bool ma, .string mx, .string my], .int .i64 mc]) (by simp [results, Tryd.results47, go_sem, r0, r1, r2]) rfl ⟨rfl, ?_⟩
    exact below_set3 (HX.out _ HB.out).2.2.2 (by omega) _ _ _

theorem l13Add_any (n1 n2 : Bool) (u1 d1 u2 d2 : Nat) (w : World) (h1 : Lib.nDigits u1 ≤ 60) (h2 : Lib.nDigits d1 ≤ 60) (h3 : Lib.nDigits u2 ≤ 60) (h4 : Lib.nDigits d2 ≤ 60) (k1 : d1 ≠ 0) (k2 : d2 ≠ 0) :
    Calls Tryd.prog 47 #[.agg #[.bool n1, .string (dec u1), .string (dec d1)], .agg #[.bool n2, .string (dec u2), .string (dec d2)]] w fun e w' => e = .returned (ansQ (sumN n1 (u1 * d2) n2 (u2 * d1)) (sumZ n1 (u1 * d2) n2 (u2 * d1)) (d1 * d2)) ∧ Below w.heap.size w w' := by
  by_cases hs : n1 = n2
  · have e1 : sumN n1 (u1 * d2) n2 (u2 * d1) = n1 := if_pos hs
    have e2 : sumZ n1 (u1 * d2) n2 (u2 * d1) = u1 * d2 + u2 * d1 := if_pos hs
    rw [e1, e2]
    exact l13Add_same n1 n2 u1 d1 u2 d2 w h1 h2 h3 h4 k1 k2 hs
  · by_cases hlt : u1 * d2 < u2 * d1
    · have e1 : sumN n1 (u1 * d2) n2 (u2 * d1) = n2 := by unfold sumN; rw [if_neg hs, if_pos hlt]
      have e2 : sumZ n1 (u1 * d2) n2 (u2 * d1) = u2 * d1 - u1 * d2 := by unfold sumZ; rw [if_neg hs, if_pos hlt]
      rw [e1, e2]
      exact l13Add_lt n1 n2 u1 d1 u2 d2 w h1 h2 h3 h4 k1 k2 hs hlt
    · have e1 : sumN n1 (u1 * d2) n2 (u2 * d1) = n1 := by unfold sumN; rw [if_neg hs, if_neg hlt]
      have e2 : sumZ n1 (u1 * d2) n2 (u2 * d1) = u1 * d2 - u2 * d1 := by unfold sumZ; rw [if_neg hs, if_neg hlt]
      rw [e1, e2]
      exact l13Add_ge n1 n2 u1 d1 u2 d2 w h1 h2 h3 h4 k1 k2 hs hlt

set_option maxRecDepth 20000 in
set_option maxHeartbeats 2000000 in
theorem l13Neg_any (n : Bool) (u : Nat) (R : ByteArray) (w : World) :
    Calls Tryd.prog 77 #[.agg #[.bool n, .string (dec u), .string R]] w fun e w' => e = .returned (.agg #[.bool (!n && !decide (u = 0)), .string (dec u), .string R]) ∧ Below w.heap.size w w' := by
  have hzt := nought_text u
  generalize decide (u = 0) = z at *
  generalize dec u = T at *
  have hzn : (T.toList != [48]) = !z := by rw [bne, hzt]
  cases n
  all_goals
    go_enter Tryd.func77, Tryd.ntmps77
    go_wp2_with fail
    refine bodyPost_ret (v := .agg #[.bool _, .string T, .string R]) (by first | (simp [results, Tryd.results77, go_sem]; done) | (simp [results, Tryd.results77, go_sem]; rfl)) rfl ⟨rfl, ?_⟩
    exact ((Below.refl _ _).alloc (Nat.le_refl _) _).alloc (by simp) _

set_option maxRecDepth 20000 in
set_option maxHeartbeats 4000000 in
theorem specNumAdd_yes (n1 n2 : Bool) (u1 d1 u2 d2 : Nat) (w : World) (h1 : (dec u1).size ≤ 60) (h2 : (dec d1).size ≤ 60) (h3 : (dec u2).size ≤ 60) (h4 : (dec d2).size ≤ 60) (ok1 : OkUD n1 u1 d1) (ok2 : OkUD n2 u2 d2) :
    Calls Tryd.prog 18 #[.agg #[.bool n1, .string (dec u1), .string (dec d1)], .agg #[.bool n2, .string (dec u2), .string (dec d2)]] w fun e w' => e = .returned (ansQ (sumN n1 (u1 * d2) n2 (u2 * d1)) (sumZ n1 (u1 * d2) n2 (u2 * d1)) (d1 * d2)) ∧ Below w.heap.size w w' := by
  have HO1 := hid (fun w => specNumOk_any n1 (dec u1) (dec d1) w (Nat.le_trans h1 (by decide)) (Nat.le_trans h2 (by decide)) true ⟨fun _ => ⟨u1, d1, rfl, rfl, h1, h2, ok1⟩, fun _ => rfl⟩)
  have HO2 := hid (fun w => specNumOk_any n2 (dec u2) (dec d2) w (Nat.le_trans h3 (by decide)) (Nat.le_trans h4 (by decide)) true ⟨fun _ => ⟨u2, d2, rfl, rfl, h3, h4, ok2⟩, fun _ => rfl⟩)
  rw [dec_size] at h1 h2 h3 h4
  have HAd := hid (fun w => l13Add_any n1 n2 u1 d1 u2 d2 w h1 h2 h3 h4 ok1.1 ok2.1)
  obtain ⟨ma, mx, my, mc, hmf⟩ := ansQ_form (sumN n1 (u1 * d2) n2 (u2 * d1)) (sumZ n1 (u1 * d2) n2 (u2 * d1)) (d1 * d2)
  rw [hmf] at HAd ⊢
  clear hmf h1 h2 h3 h4 ok1 ok2
  generalize dec u1 = T1 at *
  generalize dec d1 = R1 at *
  generalize dec u2 = T2 at *
  generalize dec d2 = R2 at *
  have HB0 : Hid (Below (w.heap.size + 3) (((w.alloc (boxN n1 T1 R1)).alloc (boxN n2 T2 R2)).alloc box0) (((w.alloc (boxN n1 T1 R1)).alloc (boxN n2 T2 R2)).alloc box0)) := Below.refl _ _
  have HX : Hid (∀ W, Below (w.heap.size + 3) (((w.alloc (boxN n1 T1 R1)).alloc (boxN n2 T2 R2)).alloc box0) W → Own W w.heap.size 25 #[.bool n1, .string T1, .string R1] ∧ Own W (w.heap.size + 1) 25 #[.bool n2, .string T2, .string R2] ∧ Own W (w.heap.size + 1 + 1) 25 #[.bool false, .string ⟨#[]⟩, .string ⟨#[]⟩] ∧ Below w.heap.size w W) := fun W h => boxes3 w _ _ _ _ _ _ h
  have HSz : Hid (w.heap.size + 3 ≤ (((w.alloc (boxN n1 T1 R1)).alloc (boxN n2 T2 R2)).alloc box0).heap.size) := by show _ ≤ _; simp
  have HSt : Hid (∀ W, Below (w.heap.size + 3) (((w.alloc (boxN n1 T1 R1)).alloc (boxN n2 T2 R2)).alloc box0) W → ∀ x y z : Value, ((((W.setCell ⟨w.heap.size + 1 + 1, 0, none⟩ x).setCell ⟨w.heap.size + 1 + 1, 1, none⟩ y).setCell ⟨w.heap.size + 1 + 1, 2, none⟩ z).cell? ⟨w.heap.size, 0, none⟩ = some (.bool n1) ∧ (((W.setCell ⟨w.heap.size + 1 + 1, 0, none⟩ x).setCell ⟨w.heap.size + 1 + 1, 1, none⟩ y).setCell ⟨w.heap.size + 1 + 1, 2, none⟩ z).cell? ⟨w.heap.size, 1, none⟩ = some (.string T1) ∧ (((W.setCell ⟨w.heap.size + 1 + 1, 0, none⟩ x).setCell ⟨w.heap.size + 1 + 1, 1, none⟩ y).setCell ⟨w.heap.size + 1 + 1, 2, none⟩ z).cell? ⟨w.heap.size, 2, none⟩ = some (.string R1)) ∧ (((W.setCell ⟨w.heap.size + 1 + 1, 0, none⟩ x).setCell ⟨w.heap.size + 1 + 1, 1, none⟩ y).setCell ⟨w.heap.size + 1 + 1, 2, none⟩ z).cell? ⟨w.heap.size + 1, 0, none⟩ = some (.bool n2) ∧ (((W.setCell ⟨w.heap.size + 1 + 1, 0, none⟩ x).setCell ⟨w.heap.size + 1 + 1, 1, none⟩ y).setCell ⟨w.heap.size + 1 + 1, 2, none⟩ z).cell? ⟨w.heap.size + 1, 1, none⟩ = some (.string T2) ∧ (((W.setCell ⟨w.heap.size + 1 + 1, 0, none⟩ x).setCell ⟨w.heap.size + 1 + 1, 1, none⟩ y).setCell ⟨w.heap.size + 1 + 1, 2, none⟩ z).cell? ⟨w.heap.size + 1, 2, none⟩ = some (.string R2)) := fun W h x y z => by
    have h0 := HX.out W h
    exact ⟨(own3V (own_set3 h0.1 (by omega) x y z)).1, (own3V (own_set3 h0.2.1 (by omega) x y z)).1⟩
  go_enter Tryd.func18, Tryd.ntmps18
  go_wp2_with fail
  refine (HO1.out _).mono ?_
  rintro e wa ⟨rfl, hwa⟩
  have HBa := hid (HB0.out.trans (hwa.mono HSz.out))
  clear hwa
  obtain ⟨⟨y0, y1, y2⟩, -⟩ := own3V (HX.out _ HBa.out).2.1
  go_wp2_with fail
  refine (HO2.out _).mono ?_
  rintro e wb ⟨rfl, hwb⟩
  have HBb := hid (HBa.out.trans (hwb.mono (Nat.le_trans HSz.out HBa.out.size)))
  clear hwb y0 y1 y2
  obtain ⟨⟨x0, x1, x2⟩, -⟩ := own3V (HX.out _ HBb.out).1
  obtain ⟨⟨y0, y1, y2⟩, -⟩ := own3V (HX.out _ HBb.out).2.1
  go_wp2_with fail
  refine (HAd.out _).mono ?_
  rintro e w7 ⟨rfl, hwb⟩
  have HB7 := hid (HBb.out.trans (hwb.mono (Nat.le_trans HSz.out HBb.out.size)))
  clear hwb x0 x1 x2 y0 y1 y2
  obtain ⟨⟨r0, r1, r2⟩, q0, q1, q2⟩ := own3V (HX.out _ HB7.out).2.2.1
  go_wp2_with fail
  refine bodyPost_ret (v := .tuple #[.agg #[.bool ma, .string mx, .string my], .int .i64 mc]) (by simp [results, Tryd.results18, go_sem, r0, r1, r2]) rfl ⟨rfl, ?_⟩
  exact below_set3 (HX.out _ HB7.out).2.2.2 (by omega) _ _ _

theorem numAdd_both (n1 n2 : Bool) (T1 R1 T2 R2 : ByteArray) (h1 : T1.size ≤ maxLen) (h2 : R1.size ≤ maxLen) (h3 : T2.size ≤ maxLen) (h4 : R2.size ≤ maxLen) : ∃ (n : Bool) (x y : ByteArray) (c : Int),
    (∀ w, Calls Tryd.prog 18 #[.agg #[.bool n1, .string T1, .string R1], .agg #[.bool n2, .string T2, .string R2]] w fun e w' => e = .returned (.tuple #[.agg #[.bool n, .string x, .string y], .int .i64 c]) ∧ Below w.heap.size w w') ∧
    (∀ w, Pow9 w → Calls Tryd.prog 17 #[.agg #[.bool n1, .string T1, .string R1], .agg #[.bool n2, .string T2, .string R2]] w fun e w' => e = .returned (.tuple #[.agg #[.bool n, .string x, .string y], .int .i64 c]) ∧ Below w.heap.size w w') := by
  obtain ⟨b1, p1, U1, D1, o1, c1⟩ := openNum_all n1 T1 R1 h1 h2
  obtain ⟨b2, p2, U2, D2, o2, c2⟩ := openNum_all n2 T2 R2 h3 h4
  have g1 := o1.small
  have g2 := o2.small
  rcases both_parts o1 o2 with ⟨rfl, rfl, rfl, rfl, rfl, rfl, rfl, rfl, s1, s2, s3, s4, k1, k2⟩ | ⟨hb, hno⟩
  · obtain ⟨n, x, y, c, hf⟩ := ansQ_form (sumN n1 (U1 * D2) n2 (U2 * D1)) (sumZ n1 (U1 * D2) n2 (U2 * D1)) (D1 * D2)
    refine ⟨n, x, y, c, fun w => ?_, fun w hP => ?_⟩
    · have h := specNumAdd_yes n1 n2 U1 D1 U2 D2 w s1 s2 s3 s4 k1 k2
      rw [hf] at h
      exact h
    · have h := implNumAdd_of n1 n2 _ _ _ _ true true n1 n2 U1 D1 U2 D2 w c1 c2 g1.1 g1.2 g2.1 g2.2 (fun _ => ⟨Nat.pos_of_ne_zero k1.1, Nat.pos_of_ne_zero k2.1⟩) hP
      rw [if_pos (show (true && true) = true from rfl), hf] at h
      exact h
  · refine ⟨false, ⟨#[]⟩, ⟨#[]⟩, _, fun w => specNumAdd_no n1 n2 T1 R1 T2 R2 w h1 h2 h3 h4 hno, fun w hP => ?_⟩
    have h := implNumAdd_of n1 n2 _ _ _ _ b1 b2 p1 p2 U1 D1 U2 D2 w c1 c2 g1.1 g1.2 g2.1 g2.2 (fun h => by rw [hb] at h; cases h) hP
    rw [hb, if_neg (by decide)] at h
    exact h
end Go.Proofs.YtbbffhpppacihaaDoor

namespace Go.Proofs.YtbbffhpppacihaaDoor
open Go.RowKit Go.Siskin

set_option maxRecDepth 20000 in
set_option maxHeartbeats 1000000 in
theorem l14Sign_any (n : Bool) (u : Nat) (w : World) :
    Calls Tryd.prog 34 #[.bool n, .string (dec u)] w fun e w' => e = .returned (.agg #[.bool (n && !decide (u = 0)), .string (dec u), .string (dec 1)]) ∧ Below w.heap.size w w' := by
  have hzt := nought_text u
  rw [dec_one]
  generalize decide (u = 0) = z at *
  generalize dec u = T at *
  have hzn : (T.toList != [48]) = !z := by rw [bne, hzt]
  cases n
  all_goals
    go_enter Tryd.func34, Tryd.ntmps34
    go_wp2_with fail
    refine bodyPost_ret (v := .agg #[.bool _, .string T, .string ⟨#[49]⟩]) (by first | (simp [results, Tryd.results34, go_sem]; done) | (simp [results, Tryd.results34, go_sem]; rfl)) rfl ⟨rfl, ?_⟩
    first
      | exact Below.refl _ _
      | exact (Below.refl _ _).alloc (Nat.le_refl _) _
      | exact ((Below.refl _ _).alloc (Nat.le_refl _) _).alloc (by simp) _

theorem nDigits_one : Lib.nDigits 1 = 1 := Lib.nDigits_small (by decide)
/-- One more, if. -/
def oneIf (b : Bool) : Nat := if b then 1 else 0
/-- A whole number as an answer. -/
def ansW (n : Bool) (z : Nat) : Value := .tuple #[.agg #[.bool (n && !decide (z = 0)), .string (dec z), .string (dec 1)], .int .i64 0]
theorem ansQ_W (n : Bool) {z : Nat} (h : Lib.nDigits z ≤ 60) : ansQ n z 1 = ansW n z := by
  unfold ansQ ansW
  rw [Nat.gcd_one_right, Nat.div_one, if_pos ⟨h, by rw [nDigits_one]; decide⟩]
  rfl
theorem round_le {u d : Nat} (hd : 0 < d) (h : u % d ≠ 0) : u / d + 1 ≤ u := by
  have h1 := Nat.div_add_mod u d
  have h2 := Nat.mod_lt u hd
  have h3 : 2 * (u / d) ≤ d * (u / d) := Nat.mul_le_mul_right _ (by omega)
  omega
/-- What is one more away from nought is not too big. -/
theorem round_digits {u d : Nat} {b : Bool} (hu : Lib.nDigits u ≤ 60) (hd : 0 < d) (hb : b = true → u % d ≠ 0) : Lib.nDigits (u / d + oneIf b) ≤ 60 := by
  refine Nat.le_trans (nDigits_mono ?_) hu
  unfold oneIf
  cases b
  · exact Nat.div_le_self _ _
  · exact round_le hd (hb rfl)

/-- The model's last steps: one more or not, then the answer. -/
abbrev upDown (n : Bool) (u d : Nat) : Bool := n && !decide (u % d = 0)
abbrev upNear (u d : Nat) : Bool := decide (d < u % d + u % d) || (decide (u % d + u % d = d) && decide (u / d % 2 = 1))
theorem upDown_left {n : Bool} {u d : Nat} (h : upDown n u d = true) : u % d ≠ 0 := by
  unfold upDown at h
  cases n <;> simp at h
  exact h
theorem upNear_left {u d : Nat} (hd : 0 < d) (h : upNear u d = true) : u % d ≠ 0 := by
  unfold upNear at h
  intro h0
  rw [h0] at h
  simp at h
  omega

end Go.Proofs.YtbbffhpppacihaaDoor

namespace Go.Proofs.YtbbffhpppacihaaDoor
open Go.RowKit Go.Siskin

theorem l11In_any (n lo hi : Int) (w : World) (b : Bool) (hb : decide (lo ≤ n ∧ n ≤ hi) = b) :
    Calls Tryd.prog 38 #[.int .i64 n, .int .i64 lo, .int .i64 hi] w fun e w' => e = .returned (.bool b) ∧ w' = w := by
  by_cases h1 : lo ≤ n
  · by_cases h2 : n ≤ hi
    · obtain rfl : b = true := by rw [← hb]; exact decide_eq_true ⟨h1, h2⟩
      clear hb
      go_enter Tryd.func38, Tryd.ntmps38
      go_wp2_with fail
      go_ret
      exact ⟨by first | rfl | (simp; omega), rfl⟩
    · obtain rfl : b = false := by rw [← hb]; exact decide_eq_false (fun h => h2 h.2)
      clear hb
      go_enter Tryd.func38, Tryd.ntmps38
      go_wp2_with fail
      go_ret
      exact ⟨by first | rfl | (simp; omega), rfl⟩
  · obtain rfl : b = false := by rw [← hb]; exact decide_eq_false (fun h => h1 h.1)
    clear hb
    go_enter Tryd.func38, Tryd.ntmps38
    go_wp2_with fail
    go_ret
    exact ⟨by first | rfl | (simp; omega), rfl⟩
end Go.Proofs.YtbbffhpppacihaaDoor

namespace Go.Proofs.YtbbffhpppacihaaDoor
open Go.RowKit Go.Siskin

abbrev sg (neg : Bool) (u : Nat) : Int := if neg then -(u : Int) else u
theorem sg_abs (neg : Bool) (u : Nat) : (sg neg u).natAbs = u := by
  unfold sg; cases neg <;> simp
def ratQ (neg : Bool) (u d : Nat) : Rat := mkRat (sg neg u) d
theorem ratQ_den (neg : Bool) (u d : Nat) (hd : d ≠ 0) : (ratQ neg u d).den = d / Nat.gcd u d := by
  unfold ratQ
  rw [Rat.den_mkRat, if_neg hd, sg_abs, Nat.gcd_comm]
theorem ratQ_num (neg : Bool) (u d : Nat) (hd : d ≠ 0) : (ratQ neg u d).num = sg neg (u / Nat.gcd u d) := by
  unfold ratQ
  rw [Rat.num_mkRat, if_neg hd, sg_abs, Nat.gcd_comm d u]
  have hg : ((Nat.gcd u d : Nat) : Int) ∣ (u : Int) := Int.natCast_dvd_natCast.2 (Nat.gcd_dvd_left u d)
  unfold sg
  cases neg
  · simp
  · simp [Int.neg_ediv_of_dvd hg]
theorem ratQ_abs (neg : Bool) (u d : Nat) (hd : d ≠ 0) : (ratQ neg u d).num.natAbs = u / Nat.gcd u d := by
  rw [ratQ_num neg u d hd, sg_abs]
theorem ratQ_neg (neg : Bool) (u d : Nat) (hd : d ≠ 0) : decide ((ratQ neg u d).num < 0) = (neg && !(u / Nat.gcd u d == 0)) := by
  rw [ratQ_num neg u d hd]
  generalize u / Nat.gcd u d = k
  unfold sg
  cases neg
  · simp
  · cases k <;> simp <;> omega
theorem rat_ratQ (q : Rat) : ratQ (decide (q.num < 0)) q.num.natAbs q.den = q := by
  unfold ratQ
  have : sg (decide (q.num < 0)) q.num.natAbs = q.num := by
    unfold sg
    by_cases h : q.num < 0
    · simp [h]; omega
    · simp [h]; omega
  rw [this, Rat.mkRat_self]
theorem ratQ_div (neg : Bool) (u d : Nat) : ratQ neg u d = (sg neg u : Rat) / (d : Rat) := by
  unfold ratQ; rw [Rat.mkRat_eq_div]; 
theorem sg_rat (neg : Bool) (u : Nat) : ((sg neg u : Int) : Rat) = if neg then -(u : Rat) else u := by
  unfold sg; cases neg <;> simp [Rat.intCast_natCast]
theorem ratQ_mul (n1 n2 : Bool) (u1 d1 u2 d2 : Nat) : ratQ (n1 != n2) (u1 * u2) (d1 * d2) = ratQ n1 u1 d1 * ratQ n2 u2 d2 := by
  unfold ratQ
  rw [Rat.mkRat_mul_mkRat]
  congr 1
  unfold sg; cases n1 <;> cases n2 <;> simp [Int.neg_mul, Int.mul_neg]
theorem sg_sum (n1 n2 : Bool) (x y : Nat) : sg (sumN n1 x n2 y) (sumZ n1 x n2 y) = sg n1 x + sg n2 y := by
  unfold sg sumN sumZ
  by_cases h : x < y <;> cases n1 <;> cases n2 <;> simp [h] <;> omega
theorem sg_mul (n : Bool) (x y : Nat) : sg n (x * y) = sg n x * y := by unfold sg; cases n <;> simp [Int.neg_mul]
theorem ratQ_add (n1 n2 : Bool) (u1 d1 u2 d2 : Nat) (h1 : d1 ≠ 0) (h2 : d2 ≠ 0) : ratQ (sumN n1 (u1 * d2) n2 (u2 * d1)) (sumZ n1 (u1 * d2) n2 (u2 * d1)) (d1 * d2) = ratQ n1 u1 d1 + ratQ n2 u2 d2 := by
  unfold ratQ
  rw [Rat.mkRat_add_mkRat _ _ h1 h2, sg_sum, sg_mul, sg_mul]
theorem ratQ_opp (n : Bool) (u d : Nat) : ratQ (!n) u d = - ratQ n u d := by
  unfold ratQ
  rw [Rat.neg_mkRat]; congr 1; unfold sg; cases n <;> simp
theorem ratQ_sub (n1 n2 : Bool) (u1 d1 u2 d2 : Nat) (h1 : d1 ≠ 0) (h2 : d2 ≠ 0) : ratQ (sumN n1 (u1 * d2) (!n2) (u2 * d1)) (sumZ n1 (u1 * d2) (!n2) (u2 * d1)) (d1 * d2) = ratQ n1 u1 d1 - ratQ n2 u2 d2 := by
  rw [ratQ_add _ _ _ _ _ _ h1 h2, ratQ_opp, Rat.sub_eq_add_neg]
theorem ratQ_inv (n : Bool) (u d : Nat) (hu : u ≠ 0) (hd : d ≠ 0) : ratQ n d u = (ratQ n u d)⁻¹ := by
  rw [ratQ_div, ratQ_div, sg_rat, sg_rat]
  have h1 : (u : Rat) ≠ 0 := by simpa using hu
  have h2 : (d : Rat) ≠ 0 := by simpa using hd
  cases n <;> simp <;> grind
theorem ratQ_quo (n1 n2 : Bool) (u1 d1 u2 d2 : Nat) (h2 : d2 ≠ 0) (hu : u2 ≠ 0) : ratQ (n1 != n2) (u1 * d2) (d1 * u2) = ratQ n1 u1 d1 / ratQ n2 u2 d2 := by
  rw [ratQ_mul, ratQ_inv n2 u2 d2 hu h2, Rat.div_def]
def sgnR (q : Rat) : Int := if q = 0 then 0 else if q < 0 then -1 else 1
theorem sgnR_Q (n : Bool) (u d : Nat) (hd : d ≠ 0) : sgnR (ratQ n u d) = signI n u := by
  have h2 : (0 : Rat) < (d : Rat) := Rat.natCast_pos.2 (Nat.pos_of_ne_zero hd)
  unfold sgnR signI
  rw [ratQ_div, sg_rat]
  by_cases hu : u = 0
  · subst hu; cases n <;> simp [Rat.div_def]
  · have h1 : (0 : Rat) < (u : Rat) := Rat.natCast_pos.2 (Nat.pos_of_ne_zero hu)
    have h3 : 0 < (u : Rat) / d := by rw [Rat.div_def]; exact Rat.mul_pos h1 (Rat.inv_pos.2 h2)
    cases n
    · simp only [Bool.false_eq_true, if_false, hu]
      rw [if_neg (by grind), if_neg (by grind)]
    · simp only [if_true, hu, if_false]
      have : -(u : Rat) / d = - ((u : Rat) / d) := by rw [Rat.div_def, Rat.div_def, Rat.neg_mul]
      rw [this, if_neg (by grind), if_pos (by grind)]
end Go.Proofs.YtbbffhpppacihaaDoor
