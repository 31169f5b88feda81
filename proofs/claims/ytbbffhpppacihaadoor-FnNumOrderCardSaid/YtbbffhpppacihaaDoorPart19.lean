/-
  The model's l13Add, l13Neg, NumSub, NumAdd. Condition: none. Made by wip/tools/genuv.py.
  The functions of two numbers in the words of rationals. Condition: the table of powers stands.
  Stage 8, the program's small parts: isOdd, isWhole, integerOf, a whole number as it is handed out. Condition: the table of powers stands.
-/
import Derived.Test.YtbbffhpppacihaaDoorPart18
import Derived.Test.YtbbffhpppacihaaDoorPart7
import Derived.Test.YtbbffhpppacihaaDoorPart9
import Derived.Test.YtbbffhpppacihaaDoorPart12
import Derived.Test.YtbbffhpppacihaaDoorPart5
import Derived.Test.YtbbffhpppacihaaDoorPart8
namespace Go.Proofs.YtbbffhpppacihaaDoor
open Go.RowKit Go.Siskin

theorem sum_zero (n m : Bool) (X : Nat) : sumN n X m 0 = n ∧ sumZ n X m 0 = X := by
  unfold sumN sumZ
  by_cases h : n = m
  · rw [if_pos h, if_pos h]; exact ⟨rfl, Nat.add_zero X⟩
  · rw [if_neg h, if_neg h, if_neg (Nat.not_lt_zero X), if_neg (Nat.not_lt_zero X)]; exact ⟨rfl, Nat.sub_zero X⟩

set_option maxRecDepth 20000 in
set_option maxHeartbeats 4000000 in
theorem l13Add_same (n1 n2 : Bool) (u1 d1 u2 d2 : Nat) (w : World) (h1 : Lib.nDigits u1 ≤ 60) (h2 : Lib.nDigits d1 ≤ 60) (h3 : Lib.nDigits u2 ≤ 60) (h4 : Lib.nDigits d2 ≤ 60) (k1 : d1 ≠ 0) (k2 : d2 ≠ 0) (hs : n1 = n2) :
    Calls Tryd.prog 47 #[.agg #[.bool n1, .string (dec u1), .string (dec d1)], .agg #[.bool n2, .string (dec u2), .string (dec d2)]] w fun e w' => e = .returned (ansQ n1 (u1 * d2 + u2 * d1) (d1 * d2)) ∧ Below w.heap.size w w' := by
  have HMx := hid (fun w => l11Mul_any u1 d2 w (by omega) (by omega))
  have HMy := hid (fun w => l11Mul_any u2 d1 w (by omega) (by omega))
  have HMd := hid (fun w => l11Mul_any d1 d2 w (by omega) (by omega))
  have gx : Lib.nDigits (u1 * d2) ≤ 120 := nDigits_mul (m := 60) (k := 60) h1 h4 (by decide)
  have gy : Lib.nDigits (u2 * d1) ≤ 120 := nDigits_mul (m := 60) (k := 60) h3 h2 (by decide)
  have gd : Lib.nDigits (d1 * d2) ≤ 120 := nDigits_mul (m := 60) (k := 60) h2 h4 (by decide)
  have gz : Lib.nDigits (u1 * d2 + u2 * d1) ≤ 121 := nDigits_le (by have a := Nat.lt_of_lt_of_le (Lib.lt_pow_nDigits (u1 * d2)) (Nat.pow_le_pow_right (by decide) gx); have b := Nat.lt_of_lt_of_le (Lib.lt_pow_nDigits (u2 * d1)) (Nat.pow_le_pow_right (by decide) gy); rw [Nat.pow_succ]; omega) (by decide)
  have HA := hid (fun w => l13Answer_any n1 (u1 * d2 + u2 * d1) (d1 * d2) w (Nat.le_trans gz (by decide)) (Nat.le_trans gd (by decide)) (Nat.mul_ne_zero k1 k2))
  have HOp := hid (fun w => l11Add_any (u1 * d2) (u2 * d1) w (by omega) (by omega))
  obtain ⟨ma, mx, my, mc, hmf⟩ := ansQ_form n1 (u1 * d2 + u2 * d1) (d1 * d2)
  rw [hmf] at HA ⊢
  have hnn : (n1 == n2) = true := by rw [hs]; simp
  clear hs
  clear hmf h1 h2 h3 h4 k1 k2 gx gy gd gz
  generalize dec (u1 * d2 + u2 * d1) = PZ at *
  generalize dec (u1 * d2) = PX at *
  generalize dec (u2 * d1) = PY at *
  generalize dec (d1 * d2) = PD at *
  generalize dec u1 = T1 at *
  generalize dec d1 = R1 at *
  generalize dec u2 = T2 at *
  generalize dec d2 = R2 at *
  have HB0 : Hid (Below (w.heap.size + 3) (((w.alloc (boxN n1 T1 R1)).alloc (boxN n2 T2 R2)).alloc box0) (((w.alloc (boxN n1 T1 R1)).alloc (boxN n2 T2 R2)).alloc box0)) := Below.refl _ _
  have HX : Hid (∀ W, Below (w.heap.size + 3) (((w.alloc (boxN n1 T1 R1)).alloc (boxN n2 T2 R2)).alloc box0) W → Own W w.heap.size 25 #[.bool n1, .string T1, .string R1] ∧ Own W (w.heap.size + 1) 25 #[.bool n2, .string T2, .string R2] ∧ Own W (w.heap.size + 1 + 1) 25 #[.bool false, .string ⟨#[]⟩, .string ⟨#[]⟩] ∧ Below w.heap.size w W) := fun W h => boxes3 w _ _ _ _ _ _ h
  have HSz : Hid (w.heap.size + 3 ≤ (((w.alloc (boxN n1 T1 R1)).alloc (boxN n2 T2 R2)).alloc box0).heap.size) := by show _ ≤ _; simp
  have HSt : Hid (∀ W, Below (w.heap.size + 3) (((w.alloc (boxN n1 T1 R1)).alloc (boxN n2 T2 R2)).alloc box0) W → ∀ x y z : Value, ((((W.setCell ⟨w.heap.size + 1 + 1, 0, none⟩ x).setCell ⟨w.heap.size + 1 + 1, 1, none⟩ y).setCell ⟨w.heap.size + 1 + 1, 2, none⟩ z).cell? ⟨w.heap.size, 0, none⟩ = some (.bool n1) ∧ (((W.setCell ⟨w.heap.size + 1 + 1, 0, none⟩ x).setCell ⟨w.heap.size + 1 + 1, 1, none⟩ y).setCell ⟨w.heap.size + 1 + 1, 2, none⟩ z).cell? ⟨w.heap.size, 1, none⟩ = some (.string T1) ∧ (((W.setCell ⟨w.heap.size + 1 + 1, 0, none⟩ x).setCell ⟨w.heap.size + 1 + 1, 1, none⟩ y).setCell ⟨w.heap.size + 1 + 1, 2, none⟩ z).cell? ⟨w.heap.size, 2, none⟩ = some (.string R1)) ∧ (((W.setCell ⟨w.heap.size + 1 + 1, 0, none⟩ x).setCell ⟨w.heap.size + 1 + 1, 1, none⟩ y).setCell ⟨w.heap.size + 1 + 1, 2, none⟩ z).cell? ⟨w.heap.size + 1, 0, none⟩ = some (.bool n2) ∧ (((W.setCell ⟨w.heap.size + 1 + 1, 0, none⟩ x).setCell ⟨w.heap.size + 1 + 1, 1, none⟩ y).setCell ⟨w.heap.size + 1 + 1, 2, none⟩ z).cell? ⟨w.heap.size + 1, 1, none⟩ = some (.string T2) ∧ (((W.setCell ⟨w.heap.size + 1 + 1, 0, none⟩ x).setCell ⟨w.heap.size + 1 + 1, 1, none⟩ y).setCell ⟨w.heap.size + 1 + 1, 2, none⟩ z).cell? ⟨w.heap.size + 1, 2, none⟩ = some (.string R2)) := fun W h x y z => by
    have h0 := HX.out W h
    exact ⟨(own3V (own_set3 h0.1 (by omega) x y z)).1, (own3V (own_set3 h0.2.1 (by omega) x y z)).1⟩
  go_enter Tryd.func47, Tryd.ntmps47
  obtain ⟨⟨x0, x1, x2⟩, -⟩ := own3V (HX.out _ HB0.out).1
  obtain ⟨⟨y0, y1, y2⟩, -⟩ := own3V (HX.out _ HB0.out).2.1
  go_wp2_with fail
  refine (HMx.out _).mono ?_
  rintro e wa ⟨rfl, hwa⟩
  have HBa := hid (HB0.out.trans (hwa.mono HSz.out))
  clear hwa x0 x1 x2 y0 y1 y2
  obtain ⟨⟨x0, x1, x2⟩, -⟩ := own3V (HX.out _ HBa.out).1
  obtain ⟨⟨y0, y1, y2⟩, -⟩ := own3V (HX.out _ HBa.out).2.1
  go_wp2_with fail
  refine (HMy.out _).mono ?_
  rintro e wc ⟨rfl, hwa⟩
  have HBc := hid (HBa.out.trans (hwa.mono (Nat.le_trans HSz.out HBa.out.size)))
  clear hwa x0 x1 x2 y0 y1 y2
  obtain ⟨⟨x0, x1, x2⟩, -⟩ := own3V (HX.out _ HBc.out).1
  obtain ⟨⟨y0, y1, y2⟩, -⟩ := own3V (HX.out _ HBc.out).2.1
  go_wp2_with fail
  refine (HMd.out _).mono ?_
  rintro e wb ⟨rfl, hwa⟩
  have HBb := hid (HBc.out.trans (hwa.mono (Nat.le_trans HSz.out HBc.out.size)))
  clear hwa x0 x1 x2 y0 y1 y2
  obtain ⟨⟨x0, x1, x2⟩, -⟩ := own3V (HX.out _ HBb.out).1
  obtain ⟨⟨y0, y1, y2⟩, -⟩ := own3V (HX.out _ HBb.out).2.1
  go_wp2_with fail
  clear x0 x1 x2 y0 y1 y2
  have HB := hid HBb.out.drew
  obtain ⟨⟨r0, r1, r2⟩, q0, q1, q2⟩ := own3V (HX.out _ HB.out).2.2.1
  go_region_held3 (fun W => (W.cell? ⟨w.heap.size, 0, none⟩ = some (.bool n1) ∧ W.cell? ⟨w.heap.size, 1, none⟩ = some (.string T1) ∧ W.cell? ⟨w.heap.size, 2, none⟩ = some (.string R1)) ∧ W.cell? ⟨w.heap.size + 1, 0, none⟩ = some (.bool n2) ∧ W.cell? ⟨w.heap.size + 1, 1, none⟩ = some (.string T2) ∧ W.cell? ⟨w.heap.size + 1, 2, none⟩ = some (.string R2))
    (first
      | exact ⟨(own3V (HX.out _ HB.out).1).1, (own3V (HX.out _ HB.out).2.1).1⟩
      | exact HSt.out _ HB.out _ _ _)
    (first
      | (go_at_call 78
         go_loud (
           refine (HOp.out _).mono ?_
           rintro e w5 ⟨rfl, hw5⟩
           have HB := hid (HB.out.trans (hw5.mono (Nat.le_trans HSz.out HB.out.size)))
           clear hw5 r0 r1 r2 q0 q1 q2
           obtain ⟨⟨r0, r1, r2⟩, q0, q1, q2⟩ := own3V (HX.out _ HB.out).2.2.1))
      | (go_at_call 67
         go_loud (
           refine (HA.out _).mono ?_
           rintro e w5 ⟨rfl, hw5⟩
           have HB := hid (HB.out.trans (hw5.mono (Nat.le_trans HSz.out HB.out.size)))
           clear hw5 r0 r1 r2 q0 q1 q2
           obtain ⟨⟨r0, r1, r2⟩, q0, q1, q2⟩ := own3V (HX.out _ HB.out).2.2.1)))
  all_goals
    go_wp2_with fail
    refine bodyPost_ret (v := .tuple #[.agg #[.bool ma, .string mx, .string my], .int .i64 mc]) (by simp [results, Tryd.results47, go_sem, r0, r1, r2]) rfl ⟨rfl, ?_⟩
    exact below_set3 (HX.out _ HB.out).2.2.2 (by omega) _ _ _

set_option maxRecDepth 20000 in
set_option maxHeartbeats 4000000 in
theorem l13Add_ge (n1 n2 : Bool) (u1 d1 u2 d2 : Nat) (w : World) (h1 : Lib.nDigits u1 ≤ 60) (h2 : Lib.nDigits d1 ≤ 60) (h3 : Lib.nDigits u2 ≤ 60) (h4 : Lib.nDigits d2 ≤ 60) (k1 : d1 ≠ 0) (k2 : d2 ≠ 0) (hs : n1 ≠ n2) (hlt : ¬ u1 * d2 < u2 * d1) :
    Calls Tryd.prog 47 #[.agg #[.bool n1, .string (dec u1), .string (dec d1)], .agg #[.bool n2, .string (dec u2), .string (dec d2)]] w fun e w' => e = .returned (ansQ n1 (u1 * d2 - u2 * d1) (d1 * d2)) ∧ Below w.heap.size w w' := by
  have HMx := hid (fun w => l11Mul_any u1 d2 w (by omega) (by omega))
  have HMy := hid (fun w => l11Mul_any u2 d1 w (by omega) (by omega))
  have HMd := hid (fun w => l11Mul_any d1 d2 w (by omega) (by omega))
  have gx : Lib.nDigits (u1 * d2) ≤ 120 := nDigits_mul (m := 60) (k := 60) h1 h4 (by decide)
  have gy : Lib.nDigits (u2 * d1) ≤ 120 := nDigits_mul (m := 60) (k := 60) h3 h2 (by decide)
  have gd : Lib.nDigits (d1 * d2) ≤ 120 := nDigits_mul (m := 60) (k := 60) h2 h4 (by decide)
  have gz : Lib.nDigits (u1 * d2 - u2 * d1) ≤ 120 := Nat.le_trans (nDigits_mono (Nat.sub_le _ _)) gx
  have HA := hid (fun w => l13Answer_any n1 (u1 * d2 - u2 * d1) (d1 * d2) w (Nat.le_trans gz (by decide)) (Nat.le_trans gd (by decide)) (Nat.mul_ne_zero k1 k2))
  have HOp := hid (fun w => l11Sub_any (u1 * d2) (u2 * d1) w (by omega) (by omega))
  obtain ⟨ma, mx, my, mc, hmf⟩ := ansQ_form n1 (u1 * d2 - u2 * d1) (d1 * d2)
  rw [hmf] at HA ⊢
  have hnn : (n1 == n2) = false := by rw [beq_eq_false_iff_ne]; exact hs
  have HCm := hid (fun w => l11Cmp_any (u1 * d2) (u2 * d1) w)
  obtain ⟨cz, hcz⟩ : ∃ c, cmpI (u1 * d2) (u2 * d1) = c := ⟨_, rfl⟩
  have hcz0 : 0 ≤ cz := by rw [← hcz]; unfold cmpI; rw [if_neg hlt]; split <;> decide
  rw [hcz] at HCm
  clear hs hlt hcz
  clear hmf h1 h2 h3 h4 k1 k2 gx gy gd gz
  generalize dec (u1 * d2 - u2 * d1) = PZ at *
  generalize dec (u1 * d2) = PX at *
  generalize dec (u2 * d1) = PY at *
  generalize dec (d1 * d2) = PD at *
  generalize dec u1 = T1 at *
  generalize dec d1 = R1 at *
  generalize dec u2 = T2 at *
  generalize dec d2 = R2 at *
  have HB0 : Hid (Below (w.heap.size + 3) (((w.alloc (boxN n1 T1 R1)).alloc (boxN n2 T2 R2)).alloc box0) (((w.alloc (boxN n1 T1 R1)).alloc (boxN n2 T2 R2)).alloc box0)) := Below.refl _ _
  have HX : Hid (∀ W, Below (w.heap.size + 3) (((w.alloc (boxN n1 T1 R1)).alloc (boxN n2 T2 R2)).alloc box0) W → Own W w.heap.size 25 #[.bool n1, .string T1, .string R1] ∧ Own W (w.heap.size + 1) 25 #[.bool n2, .string T2, .string R2] ∧ Own W (w.heap.size + 1 + 1) 25 #[.bool false, .string ⟨#[]⟩, .string ⟨#[]⟩] ∧ Below w.heap.size w W) := fun W h => boxes3 w _ _ _ _ _ _ h
  have HSz : Hid (w.heap.size + 3 ≤ (((w.alloc (boxN n1 T1 R1)).alloc (boxN n2 T2 R2)).alloc box0).heap.size) := by show _ ≤ _; simp
  have HSt : Hid (∀ W, Below (w.heap.size + 3) (((w.alloc (boxN n1 T1 R1)).alloc (boxN n2 T2 R2)).alloc box0) W → ∀ x y z : Value, ((((W.setCell ⟨w.heap.size + 1 + 1, 0, none⟩ x).setCell ⟨w.heap.size + 1 + 1, 1, none⟩ y).setCell ⟨w.heap.size + 1 + 1, 2, none⟩ z).cell? ⟨w.heap.size, 0, none⟩ = some (.bool n1) ∧ (((W.setCell ⟨w.heap.size + 1 + 1, 0, none⟩ x).setCell ⟨w.heap.size + 1 + 1, 1, none⟩ y).setCell ⟨w.heap.size + 1 + 1, 2, none⟩ z).cell? ⟨w.heap.size, 1, none⟩ = some (.string T1) ∧ (((W.setCell ⟨w.heap.size + 1 + 1, 0, none⟩ x).setCell ⟨w.heap.size + 1 + 1, 1, none⟩ y).setCell ⟨w.heap.size + 1 + 1, 2, none⟩ z).cell? ⟨w.heap.size, 2, none⟩ = some (.string R1)) ∧ (((W.setCell ⟨w.heap.size + 1 + 1, 0, none⟩ x).setCell ⟨w.heap.size + 1 + 1, 1, none⟩ y).setCell ⟨w.heap.size + 1 + 1, 2, none⟩ z).cell? ⟨w.heap.size + 1, 0, none⟩ = some (.bool n2) ∧ (((W.setCell ⟨w.heap.size + 1 + 1, 0, none⟩ x).setCell ⟨w.heap.size + 1 + 1, 1, none⟩ y).setCell ⟨w.heap.size + 1 + 1, 2, none⟩ z).cell? ⟨w.heap.size + 1, 1, none⟩ = some (.string T2) ∧ (((W.setCell ⟨w.heap.size + 1 + 1, 0, none⟩ x).setCell ⟨w.heap.size + 1 + 1, 1, none⟩ y).setCell ⟨w.heap.size + 1 + 1, 2, none⟩ z).cell? ⟨w.heap.size + 1, 2, none⟩ = some (.string R2)) := fun W h x y z => by
    have h0 := HX.out W h
    exact ⟨(own3V (own_set3 h0.1 (by omega) x y z)).1, (own3V (own_set3 h0.2.1 (by omega) x y z)).1⟩
  go_enter Tryd.func47, Tryd.ntmps47
  obtain ⟨⟨x0, x1, x2⟩, -⟩ := own3V (HX.out _ HB0.out).1
  obtain ⟨⟨y0, y1, y2⟩, -⟩ := own3V (HX.out _ HB0.out).2.1
  go_wp2_with fail
  refine (HMx.out _).mono ?_
  rintro e wa ⟨rfl, hwa⟩
  have HBa := hid (HB0.out.trans (hwa.mono HSz.out))
  clear hwa x0 x1 x2 y0 y1 y2
  obtain ⟨⟨x0, x1, x2⟩, -⟩ := own3V (HX.out _ HBa.out).1
  obtain ⟨⟨y0, y1, y2⟩, -⟩ := own3V (HX.out _ HBa.out).2.1
  go_wp2_with fail
  refine (HMy.out _).mono ?_
  rintro e wc ⟨rfl, hwa⟩
  have HBc := hid (HBa.out.trans (hwa.mono (Nat.le_trans HSz.out HBa.out.size)))
  clear hwa x0 x1 x2 y0 y1 y2
  obtain ⟨⟨x0, x1, x2⟩, -⟩ := own3V (HX.out _ HBc.out).1
  obtain ⟨⟨y0, y1, y2⟩, -⟩ := own3V (HX.out _ HBc.out).2.1
  go_wp2_with fail
  refine (HMd.out _).mono ?_
  rintro e wb ⟨rfl, hwa⟩
  have HBb := hid (HBc.out.trans (hwa.mono (Nat.le_trans HSz.out HBc.out.size)))
  clear hwa x0 x1 x2 y0 y1 y2
  obtain ⟨⟨x0, x1, x2⟩, -⟩ := own3V (HX.out _ HBb.out).1
  obtain ⟨⟨y0, y1, y2⟩, -⟩ := own3V (HX.out _ HBb.out).2.1
  go_wp2_with fail
  refine (HCm.out _).mono ?_
  rintro e w' ⟨rfl, hw⟩
  obtain rfl := hw.symm
  go_wp2_with fail
  clear x0 x1 x2 y0 y1 y2
  have HB := hid HBb.out.drew
  obtain ⟨⟨r0, r1, r2⟩, q0, q1, q2⟩ := own3V (HX.out _ HB.out).2.2.1
  go_region_held3 (fun W => (W.cell? ⟨w.heap.size, 0, none⟩ = some (.bool n1) ∧ W.cell? ⟨w.heap.size, 1, none⟩ = some (.string T1) ∧ W.cell? ⟨w.heap.size, 2, none⟩ = some (.string R1)) ∧ W.cell? ⟨w.heap.size + 1, 0, none⟩ = some (.bool n2) ∧ W.cell? ⟨w.heap.size + 1, 1, none⟩ = some (.string T2) ∧ W.cell? ⟨w.heap.size + 1, 2, none⟩ = some (.string R2))
    (first
      | exact ⟨(own3V (HX.out _ HB.out).1).1, (own3V (HX.out _ HB.out).2.1).1⟩
      | exact HSt.out _ HB.out _ _ _)
    (first
      | (go_at_call 64
         go_loud (
           refine (HOp.out _).mono ?_
           rintro e w5 ⟨rfl, hw5⟩
           have HB := hid (HB.out.trans (hw5.mono (Nat.le_trans HSz.out HB.out.size)))
           clear hw5 r0 r1 r2 q0 q1 q2
           obtain ⟨⟨r0, r1, r2⟩, q0, q1, q2⟩ := own3V (HX.out _ HB.out).2.2.1))
      | (go_at_call 67
         go_loud (
           refine (HA.out _).mono ?_
           rintro e w5 ⟨rfl, hw5⟩
           have HB := hid (HB.out.trans (hw5.mono (Nat.le_trans HSz.out HB.out.size)))
           clear hw5 r0 r1 r2 q0 q1 q2
           obtain ⟨⟨r0, r1, r2⟩, q0, q1, q2⟩ := own3V (HX.out _ HB.out).2.2.1)))
  all_goals
    go_wp2_with fail
    refine bodyPost_ret (v := .tuple #[.agg #[.bool ma, .string mx, .string my], .int .i64 mc]) (by simp [results, Tryd.results47, go_sem, r0, r1, r2]) rfl ⟨rfl, ?_⟩
    exact below_set3 (HX.out _ HB.out).2.2.2 (by omega) _ _ _

set_option maxRecDepth 20000 in
set_option maxHeartbeats 4000000 in
theorem l13Add_lt (n1 n2 : Bool) (u1 d1 u2 d2 : Nat) (w : World) (h1 : Lib.nDigits u1 ≤ 60) (h2 : Lib.nDigits d1 ≤ 60) (h3 : Lib.nDigits u2 ≤ 60) (h4 : Lib.nDigits d2 ≤ 60) (k1 : d1 ≠ 0) (k2 : d2 ≠ 0) (hs : n1 ≠ n2) (hlt : u1 * d2 < u2 * d1) :
    Calls Tryd.prog 47 #[.agg #[.bool n1, .string (dec u1), .string (dec d1)], .agg #[.bool n2, .string (dec u2), .string (dec d2)]] w fun e w' => e = .returned (ansQ n2 (u2 * d1 - u1 * d2) (d1 * d2)) ∧ Below w.heap.size w w' := by
  have HMx := hid (fun w => l11Mul_any u1 d2 w (by omega) (by omega))
  have HMy := hid (fun w => l11Mul_any u2 d1 w (by omega) (by omega))
  have HMd := hid (fun w => l11Mul_any d1 d2 w (by omega) (by omega))
  have gx : Lib.nDigits (u1 * d2) ≤ 120 := nDigits_mul (m := 60) (k := 60) h1 h4 (by decide)
  have gy : Lib.nDigits (u2 * d1) ≤ 120 := nDigits_mul (m := 60) (k := 60) h3 h2 (by decide)
  have gd : Lib.nDigits (d1 * d2) ≤ 120 := nDigits_mul (m := 60) (k := 60) h2 h4 (by decide)
  have gz : Lib.nDigits (u2 * d1 - u1 * d2) ≤ 120 := Nat.le_trans (nDigits_mono (Nat.sub_le _ _)) gy
  have HA := hid (fun w => l13Answer_any n2 (u2 * d1 - u1 * d2) (d1 * d2) w (Nat.le_trans gz (by decide)) (Nat.le_trans gd (by decide)) (Nat.mul_ne_zero k1 k2))
  have HOp := hid (fun w => l11Sub_any (u2 * d1) (u1 * d2) w (by omega) (by omega))
  obtain ⟨ma, mx, my, mc, hmf⟩ := ansQ_form n2 (u2 * d1 - u1 * d2) (d1 * d2)
  rw [hmf] at HA ⊢
  have hnn : (n1 == n2) = false := by rw [beq_eq_false_iff_ne]; exact hs
  have HCm := hid (fun w => l11Cmp_any (u1 * d2) (u2 * d1) w)
  have hcz : cmpI (u1 * d2) (u2 * d1) = -1 := if_pos hlt
  rw [hcz] at HCm
  clear hs hlt hcz
  clear hmf h1 h2 h3 h4 k1 k2 gx gy gd gz
  generalize dec (u2 * d1 - u1 * d2) = PZ at *
  generalize dec (u1 * d2) = PX at *
  generalize dec (u2 * d1) = PY at *
  generalize dec (d1 * d2) = PD at *
  generalize dec u1 = T1 at *
  generalize dec d1 = R1 at *
  generalize dec u2 = T2 at *
  generalize dec d2 = R2 at *
  have HB0 : Hid (Below (w.heap.size + 3) (((w.alloc (boxN n1 T1 R1)).alloc (boxN n2 T2 R2)).alloc box0) (((w.alloc (boxN n1 T1 R1)).alloc (boxN n2 T2 R2)).alloc box0)) := Below.refl _ _
  have HX : Hid (∀ W, Below (w.heap.size + 3) (((w.alloc (boxN n1 T1 R1)).alloc (boxN n2 T2 R2)).alloc box0) W → Own W w.heap.size 25 #[.bool n1, .string T1, .string R1] ∧ Own W (w.heap.size + 1) 25 #[.bool n2, .string T2, .string R2] ∧ Own W (w.heap.size + 1 + 1) 25 #[.bool false, .string ⟨#[]⟩, .string ⟨#[]⟩] ∧ Below w.heap.size w W) := fun W h => boxes3 w _ _ _ _ _ _ h
  have HSz : Hid (w.heap.size + 3 ≤ (((w.alloc (boxN n1 T1 R1)).alloc (boxN n2 T2 R2)).alloc box0).heap.size) := by show _ ≤ _; simp
  have HSt : Hid (∀ W, Below (w.heap.size + 3) (((w.alloc (boxN n1 T1 R1)).alloc (boxN n2 T2 R2)).alloc box0) W → ∀ x y z : Value, ((((W.setCell ⟨w.heap.size + 1 + 1, 0, none⟩ x).setCell ⟨w.heap.size + 1 + 1, 1, none⟩ y).setCell ⟨w.heap.size + 1 + 1, 2, none⟩ z).cell? ⟨w.heap.size, 0, none⟩ = some (.bool n1) ∧ (((W.setCell ⟨w.heap.size + 1 + 1, 0, none⟩ x).setCell ⟨w.heap.size + 1 + 1, 1, none⟩ y).setCell ⟨w.heap.size + 1 + 1, 2, none⟩ z).cell? ⟨w.heap.size, 1, none⟩ = some (.string T1) ∧ (((W.setCell ⟨w.heap.size + 1 + 1, 0, none⟩ x).setCell ⟨w.heap.size + 1 + 1, 1, none⟩ y).setCell ⟨w.heap.size + 1 + 1, 2, none⟩ z).cell? ⟨w.heap.size, 2, none⟩ = some (.string R1)) ∧ (((W.setCell ⟨w.heap.size + 1 + 1, 0, none⟩ x).setCell ⟨w.heap.size + 1 + 1, 1, none⟩ y).setCell ⟨w.heap.size + 1 + 1, 2, none⟩ z).cell? ⟨w.heap.size + 1, 0, none⟩ = some (.bool n2) ∧ (((W.setCell ⟨w.heap.size + 1 + 1, 0, none⟩ x).setCell ⟨w.heap.size + 1 + 1, 1, none⟩ y).setCell ⟨w.heap.size + 1 + 1, 2, none⟩ z).cell? ⟨w.heap.size + 1, 1, none⟩ = some (.string T2) ∧ (((W.setCell ⟨w.heap.size + 1 + 1, 0, none⟩ x).setCell ⟨w.heap.size + 1 + 1, 1, none⟩ y).setCell ⟨w.heap.size + 1 + 1, 2, none⟩ z).cell? ⟨w.heap.size + 1, 2, none⟩ = some (.string R2)) := fun W h x y z => by
    have h0 := HX.out W h
    exact ⟨(own3V (own_set3 h0.1 (by omega) x y z)).1, (own3V (own_set3 h0.2.1 (by omega) x y z)).1⟩
  go_enter Tryd.func47, Tryd.ntmps47
  obtain ⟨⟨x0, x1, x2⟩, -⟩ := own3V (HX.out _ HB0.out).1
  obtain ⟨⟨y0, y1, y2⟩, -⟩ := own3V (HX.out _ HB0.out).2.1
  go_wp2_with fail
  refine (HMx.out _).mono ?_
  rintro e wa ⟨rfl, hwa⟩
  have HBa := hid (HB0.out.trans (hwa.mono HSz.out))
  clear hwa x0 x1 x2 y0 y1 y2
  obtain ⟨⟨x0, x1, x2⟩, -⟩ := own3V (HX.out _ HBa.out).1
  obtain ⟨⟨y0, y1, y2⟩, -⟩ := own3V (HX.out _ HBa.out).2.1
  go_wp2_with fail
  refine (HMy.out _).mono ?_
  rintro e wc ⟨rfl, hwa⟩
  have HBc := hid (HBa.out.trans (hwa.mono (Nat.le_trans HSz.out HBa.out.size)))
  clear hwa x0 x1 x2 y0 y1 y2
  obtain ⟨⟨x0, x1, x2⟩, -⟩ := own3V (HX.out _ HBc.out).1
  obtain ⟨⟨y0, y1, y2⟩, -⟩ := own3V (HX.out _ HBc.out).2.1
  go_wp2_with fail
  refine (HMd.out _).mono ?_
  rintro e wb ⟨rfl, hwa⟩
  have HBb := hid (HBc.out.trans (hwa.mono (Nat.le_trans HSz.out HBc.out.size)))
  clear hwa x0 x1 x2 y0 y1 y2
  obtain ⟨⟨x0, x1, x2⟩, -⟩ := own3V (HX.out _ HBb.out).1
  obtain ⟨⟨y0, y1, y2⟩, -⟩ := own3V (HX.out _ HBb.out).2.1
  go_wp2_with fail
  refine (HCm.out _).mono ?_
  rintro e w' ⟨rfl, hw⟩
  obtain rfl := hw.symm
  go_wp2_with fail
  clear x0 x1 x2 y0 y1 y2
  have HB := hid HBb.out.drew
  obtain ⟨⟨r0, r1, r2⟩, q0, q1, q2⟩ := own3V (HX.out _ HB.out).2.2.1
  go_region_held3 (fun W => (W.cell? ⟨w.heap.size, 0, none⟩ = some (.bool n1) ∧ W.cell? ⟨w.heap.size, 1, none⟩ = some (.string T1) ∧ W.cell? ⟨w.heap.size, 2, none⟩ = some (.string R1)) ∧ W.cell? ⟨w.heap.size + 1, 0, none⟩ = some (.bool n2) ∧ W.cell? ⟨w.heap.size + 1, 1, none⟩ = some (.string T2) ∧ W.cell? ⟨w.heap.size + 1, 2, none⟩ = some (.string R2))
    (first
      | exact ⟨(own3V (HX.out _ HB.out).1).1, (own3V (HX.out _ HB.out).2.1).1⟩
      | exact HSt.out _ HB.out _ _ _)
    (first
      | (go_at_call 64
         go_loud (
           refine (HOp.out _).mono ?_
           rintro e w5 ⟨rfl, hw5⟩
           have HB := hid (HB.out.trans (hw5.mono (Nat.le_trans HSz.out HB.out.size)))
           clear hw5 r0 r1 r2 q0 q1 q2
           obtain ⟨⟨r0, r1, r2⟩, q0, q1, q2⟩ := own3V (HX.out _ HB.out).2.2.1))
      | (go_at_call 67
         go_loud (
           refine (HA.out _).mono ?_
           rintro e w5 ⟨rfl, hw5⟩
           have HB := hid (HB.out.trans (hw5.mono (Nat.le_trans HSz.out HB.out.size)))
           clear hw5 r0 r1 r2 q0 q1 q2
           obtain ⟨⟨r0, r1, r2⟩, q0, q1, q2⟩ := own3V (HX.out _ HB.out).2.2.1)))
  all_goals
    go_wp2_with fail
    refine bodyPost_ret (v := .tuple #[.agg #[.bool ma, .string mx, .string my], .int .i64 mc]) (by simp [results, Tryd.results47, go_sem, r0, r1, r2]) rfl ⟨rfl, ?_⟩
    exact below_set3 (HX.out _ HB.out).2.2.2 (by omega) _ _ _

theorem l13Add_any (n1 n2 : Bool) (u1 d1 u2 d2 : Nat) (w : World) (h1 : Lib.nDigits u1 ≤ 60) (h2 : Lib.nDigits d1 ≤ 60) (h3 : Lib.nDigits u2 ≤ 60) (h4 : Lib.nDigits d2 ≤ 60) (k1 : d1 ≠ 0) (k2 : d2 ≠ 0) :
    Calls Tryd.prog 47 #[.agg #[.bool n1, .string (dec u1), .string (dec d1)], .agg #[.bool n2, .string (dec u2), .string (dec d2)]] w fun e w' => e = .returned (ansQ (sumN n1 (u1 * d2) n2 (u2 * d1)) (sumZ n1 (u1 * d2) n2 (u2 * d1)) (d1 * d2)) ∧ Below w.heap.size w w' := by
  by_cases hs : n1 = n2
  · have e1 : sumN n1 (u1 * d2) n2 (u2 * d1) = n1 := if_pos hs
    have e2 : sumZ n1 (u1 * d2) n2 (u2 * d1) = u1 * d2 + u2 * d1 := if_pos hs
    rw [e1, e2]
    exact l13Add_same n1 n2 u1 d1 u2 d2 w h1 h2 h3 h4 k1 k2 hs
  · by_cases hlt : u1 * d2 < u2 * d1
    · have e1 : sumN n1 (u1 * d2) n2 (u2 * d1) = n2 := by unfold sumN; rw [if_neg hs, if_pos hlt]
      have e2 : sumZ n1 (u1 * d2) n2 (u2 * d1) = u2 * d1 - u1 * d2 := by unfold sumZ; rw [if_neg hs, if_pos hlt]
      rw [e1, e2]
      exact l13Add_lt n1 n2 u1 d1 u2 d2 w h1 h2 h3 h4 k1 k2 hs hlt
    · have e1 : sumN n1 (u1 * d2) n2 (u2 * d1) = n1 := by unfold sumN; rw [if_neg hs, if_neg hlt]
      have e2 : sumZ n1 (u1 * d2) n2 (u2 * d1) = u1 * d2 - u2 * d1 := by unfold sumZ; rw [if_neg hs, if_neg hlt]
      rw [e1, e2]
      exact l13Add_ge n1 n2 u1 d1 u2 d2 w h1 h2 h3 h4 k1 k2 hs hlt

set_option maxRecDepth 20000 in
set_option maxHeartbeats 2000000 in
theorem l13Neg_any (n : Bool) (u : Nat) (R : ByteArray) (w : World) :
    Calls Tryd.prog 77 #[.agg #[.bool n, .string (dec u), .string R]] w fun e w' => e = .returned (.agg #[.bool (!n && !decide (u = 0)), .string (dec u), .string R]) ∧ Below w.heap.size w w' := by
  have hzt := nought_text u
  generalize decide (u = 0) = z at *
  generalize dec u = T at *
  have hzn : (T.toList != [48]) = !z := by rw [bne, hzt]
  cases n
  all_goals
    go_enter Tryd.func77, Tryd.ntmps77
    go_wp2_with fail
    refine bodyPost_ret (v := .agg #[.bool _, .string T, .string R]) (by first | (simp [results, Tryd.results77, go_sem]; done) | (simp [results, Tryd.results77, go_sem]; rfl)) rfl ⟨rfl, ?_⟩
    exact ((Below.refl _ _).alloc (Nat.le_refl _) _).alloc (by simp) _

set_option maxRecDepth 20000 in
set_option maxHeartbeats 4000000 in
theorem specNumAdd_yes (n1 n2 : Bool) (u1 d1 u2 d2 : Nat) (w : World) (h1 : (dec u1).size ≤ 60) (h2 : (dec d1).size ≤ 60) (h3 : (dec u2).size ≤ 60) (h4 : (dec d2).size ≤ 60) (ok1 : OkUD n1 u1 d1) (ok2 : OkUD n2 u2 d2) :
    Calls Tryd.prog 18 #[.agg #[.bool n1, .string (dec u1), .string (dec d1)], .agg #[.bool n2, .string (dec u2), .string (dec d2)]] w fun e w' => e = .returned (ansQ (sumN n1 (u1 * d2) n2 (u2 * d1)) (sumZ n1 (u1 * d2) n2 (u2 * d1)) (d1 * d2)) ∧ Below w.heap.size w w' := by
  have HO1 := hid (fun w => specNumOk_any n1 (dec u1) (dec d1) w (Nat.le_trans h1 (by decide)) (Nat.le_trans h2 (by decide)) true ⟨fun _ => ⟨u1, d1, rfl, rfl, h1, h2, ok1⟩, fun _ => rfl⟩)
  have HO2 := hid (fun w => specNumOk_any n2 (dec u2) (dec d2) w (Nat.le_trans h3 (by decide)) (Nat.le_trans h4 (by decide)) true ⟨fun _ => ⟨u2, d2, rfl, rfl, h3, h4, ok2⟩, fun _ => rfl⟩)
  rw [dec_size] at h1 h2 h3 h4
  have HAd := hid (fun w => l13Add_any n1 n2 u1 d1 u2 d2 w h1 h2 h3 h4 ok1.1 ok2.1)
  obtain ⟨ma, mx, my, mc, hmf⟩ := ansQ_form (sumN n1 (u1 * d2) n2 (u2 * d1)) (sumZ n1 (u1 * d2) n2 (u2 * d1)) (d1 * d2)
  rw [hmf] at HAd ⊢
  clear hmf h1 h2 h3 h4 ok1 ok2
  generalize dec u1 = T1 at *
  generalize dec d1 = R1 at *
  generalize dec u2 = T2 at *
  generalize dec d2 = R2 at *
  have HB0 : Hid (Below (w.heap.size + 3) (((w.alloc (boxN n1 T1 R1)).alloc (boxN n2 T2 R2)).alloc box0) (((w.alloc (boxN n1 T1 R1)).alloc (boxN n2 T2 R2)).alloc box0)) := Below.refl _ _
  have HX : Hid (∀ W, Below (w.heap.size + 3) (((w.alloc (boxN n1 T1 R1)).alloc (boxN n2 T2 R2)).alloc box0) W → Own W w.heap.size 25 #[.bool n1, .string T1, .string R1] ∧ Own W (w.heap.size + 1) 25 #[.bool n2, .string T2, .string R2] ∧ Own W (w.heap.size + 1 + 1) 25 #[.bool false, .string ⟨#[]⟩, .string ⟨#[]⟩] ∧ Below w.heap.size w W) := fun W h => boxes3 w _ _ _ _ _ _ h
  have HSz : Hid (w.heap.size + 3 ≤ (((w.alloc (boxN n1 T1 R1)).alloc (boxN n2 T2 R2)).alloc box0).heap.size) := by show _ ≤ _; simp
  have HSt : Hid (∀ W, Below (w.heap.size + 3) (((w.alloc (boxN n1 T1 R1)).alloc (boxN n2 T2 R2)).alloc box0) W → ∀ x y z : Value, ((((W.setCell ⟨w.heap.size + 1 + 1, 0, none⟩ x).setCell ⟨w.heap.size + 1 + 1, 1, none⟩ y).setCell ⟨w.heap.size + 1 + 1, 2, none⟩ z).cell? ⟨w.heap.size, 0, none⟩ = some (.bool n1) ∧ (((W.setCell ⟨w.heap.size + 1 + 1, 0, none⟩ x).setCell ⟨w.heap.size + 1 + 1, 1, none⟩ y).setCell ⟨w.heap.size + 1 + 1, 2, none⟩ z).cell? ⟨w.heap.size, 1, none⟩ = some (.string T1) ∧ (((W.setCell ⟨w.heap.size + 1 + 1, 0, none⟩ x).setCell ⟨w.heap.size + 1 + 1, 1, none⟩ y).setCell ⟨w.heap.size + 1 + 1, 2, none⟩ z).cell? ⟨w.heap.size, 2, none⟩ = some (.string R1)) ∧ (((W.setCell ⟨w.heap.size + 1 + 1, 0, none⟩ x).setCell ⟨w.heap.size + 1 + 1, 1, none⟩ y).setCell ⟨w.heap.size + 1 + 1, 2, none⟩ z).cell? ⟨w.heap.size + 1, 0, none⟩ = some (.bool n2) ∧ (((W.setCell ⟨w.heap.size + 1 + 1, 0, none⟩ x).setCell ⟨w.heap.size + 1 + 1, 1, none⟩ y).setCell ⟨w.heap.size + 1 + 1, 2, none⟩ z).cell? ⟨w.heap.size + 1, 1, none⟩ = some (.string T2) ∧ (((W.setCell ⟨w.heap.size + 1 + 1, 0, none⟩ x).setCell ⟨w.heap.size + 1 + 1, 1, none⟩ y).setCell ⟨w.heap.size + 1 + 1, 2, none⟩ z).cell? ⟨w.heap.size + 1, 2, none⟩ = some (.string R2)) := fun W h x y z => by
    have h0 := HX.out W h
    exact ⟨(own3V (own_set3 h0.1 (by omega) x y z)).1, (own3V (own_set3 h0.2.1 (by omega) x y z)).1⟩
  go_enter Tryd.func18, Tryd.ntmps18
  go_wp2_with fail
  refine (HO1.out _).mono ?_
  rintro e wa ⟨rfl, hwa⟩
  have HBa := hid (HB0.out.trans (hwa.mono HSz.out))
  clear hwa
  obtain ⟨⟨y0, y1, y2⟩, -⟩ := own3V (HX.out _ HBa.out).2.1
  go_wp2_with fail
  refine (HO2.out _).mono ?_
  rintro e wb ⟨rfl, hwb⟩
  have HBb := hid (HBa.out.trans (hwb.mono (Nat.le_trans HSz.out HBa.out.size)))
  clear hwb y0 y1 y2
  obtain ⟨⟨x0, x1, x2⟩, -⟩ := own3V (HX.out _ HBb.out).1
  obtain ⟨⟨y0, y1, y2⟩, -⟩ := own3V (HX.out _ HBb.out).2.1
  go_wp2_with fail
  refine (HAd.out _).mono ?_
  rintro e w7 ⟨rfl, hwb⟩
  have HB7 := hid (HBb.out.trans (hwb.mono (Nat.le_trans HSz.out HBb.out.size)))
  clear hwb x0 x1 x2 y0 y1 y2
  obtain ⟨⟨r0, r1, r2⟩, q0, q1, q2⟩ := own3V (HX.out _ HB7.out).2.2.1
  go_wp2_with fail
  refine bodyPost_ret (v := .tuple #[.agg #[.bool ma, .string mx, .string my], .int .i64 mc]) (by simp [results, Tryd.results18, go_sem, r0, r1, r2]) rfl ⟨rfl, ?_⟩
  exact below_set3 (HX.out _ HB7.out).2.2.2 (by omega) _ _ _

theorem numAdd_both (n1 n2 : Bool) (T1 R1 T2 R2 : ByteArray) (h1 : T1.size ≤ maxLen) (h2 : R1.size ≤ maxLen) (h3 : T2.size ≤ maxLen) (h4 : R2.size ≤ maxLen) : ∃ (n : Bool) (x y : ByteArray) (c : Int),
    (∀ w, Calls Tryd.prog 18 #[.agg #[.bool n1, .string T1, .string R1], .agg #[.bool n2, .string T2, .string R2]] w fun e w' => e = .returned (.tuple #[.agg #[.bool n, .string x, .string y], .int .i64 c]) ∧ Below w.heap.size w w') ∧
    (∀ w, Pow9 w → Calls Tryd.prog 17 #[.agg #[.bool n1, .string T1, .string R1], .agg #[.bool n2, .string T2, .string R2]] w fun e w' => e = .returned (.tuple #[.agg #[.bool n, .string x, .string y], .int .i64 c]) ∧ Below w.heap.size w w') := by
  obtain ⟨b1, p1, U1, D1, o1, c1⟩ := openNum_all n1 T1 R1 h1 h2
  obtain ⟨b2, p2, U2, D2, o2, c2⟩ := openNum_all n2 T2 R2 h3 h4
  have g1 := o1.small
  have g2 := o2.small
  rcases both_parts o1 o2 with ⟨rfl, rfl, rfl, rfl, rfl, rfl, rfl, rfl, s1, s2, s3, s4, k1, k2⟩ | ⟨hb, hno⟩
  · obtain ⟨n, x, y, c, hf⟩ := ansQ_form (sumN n1 (U1 * D2) n2 (U2 * D1)) (sumZ n1 (U1 * D2) n2 (U2 * D1)) (D1 * D2)
    refine ⟨n, x, y, c, fun w => ?_, fun w hP => ?_⟩
    · have h := specNumAdd_yes n1 n2 U1 D1 U2 D2 w s1 s2 s3 s4 k1 k2
      rw [hf] at h
      exact h
    · have h := implNumAdd_of n1 n2 _ _ _ _ true true n1 n2 U1 D1 U2 D2 w c1 c2 g1.1 g1.2 g2.1 g2.2 (fun _ => ⟨Nat.pos_of_ne_zero k1.1, Nat.pos_of_ne_zero k2.1⟩) hP
      rw [if_pos (show (true && true) = true from rfl), hf] at h
      exact h
  · refine ⟨false, ⟨#[]⟩, ⟨#[]⟩, _, fun w => specNumAdd_no n1 n2 T1 R1 T2 R2 w h1 h2 h3 h4 hno, fun w hP => ?_⟩
    have h := implNumAdd_of n1 n2 _ _ _ _ b1 b2 p1 p2 U1 D1 U2 D2 w c1 c2 g1.1 g1.2 g2.1 g2.2 (fun h => by rw [hb] at h; cases h) hP
    rw [hb, if_neg (by decide)] at h
    exact h
end Go.Proofs.YtbbffhpppacihaaDoor

namespace Go.Proofs.YtbbffhpppacihaaDoor
open Go.RowKit Go.Siskin

/-- A rational as a number. -/
def numR (q : Rat) : Value := .agg #[.bool (decide (q.num < 0)), .string (dec q.num.natAbs), .string (dec q.den)]
/-- What is not too big. -/
def Sm (q : Rat) : Prop := Lib.nDigits q.num.natAbs ≤ 60 ∧ Lib.nDigits q.den ≤ 60
instance (q : Rat) : Decidable (Sm q) := inferInstanceAs (Decidable (_ ∧ _))
def ansR (q : Rat) : Value := if Sm q then .tuple #[numR q, .int .i64 0] else noAns 3

theorem ansQ_R (n : Bool) (u d : Nat) (hd : d ≠ 0) : ansQ n u d = ansR (ratQ n u d) := by
  have hs : Sm (ratQ n u d) ↔ (Lib.nDigits (u / Nat.gcd u d) ≤ 60 ∧ Lib.nDigits (d / Nat.gcd u d) ≤ 60) := by
    unfold Sm
    rw [ratQ_abs n u d hd, ratQ_den n u d hd]
  unfold ansQ ansR
  by_cases h : Sm (ratQ n u d)
  · rw [if_pos h, if_pos (hs.1 h)]
    unfold numR
    rw [ratQ_neg n u d hd, ratQ_abs n u d hd, ratQ_den n u d hd]
  · rw [if_neg h, if_neg (fun h' => h (hs.2 h'))]

theorem okUD_R {n : Bool} {u d : Nat} (h : OkUD n u d) : decide ((ratQ n u d).num < 0) = n ∧ (ratQ n u d).num.natAbs = u ∧ (ratQ n u d).den = d := by
  obtain ⟨h1, h2, h3⟩ := h
  rw [ratQ_neg n u d h1, ratQ_abs n u d h1, ratQ_den n u d h1, h3, Nat.div_one, Nat.div_one]
  refine ⟨?_, rfl, rfl⟩
  cases n
  · rfl
  · have : u ≠ 0 := fun h => h2 ⟨rfl, h⟩
    simp [this]
theorem ok_rat (q : Rat) : OkUD (decide (q.num < 0)) q.num.natAbs q.den := by
  refine ⟨q.den_nz, ?_, q.reduced⟩
  rintro ⟨h1, h2⟩
  have := of_decide_eq_true h1
  omega
/-- A number that is ok is a rational that is not too big. -/
theorem numP_R {n : Bool} {T R : ByteArray} (h : NumP n T R) : ∃ q, Sm q ∧ n = decide (q.num < 0) ∧ T = dec q.num.natAbs ∧ R = dec q.den := by
  obtain ⟨u, d, rfl, rfl, h1, h2, hok⟩ := h
  obtain ⟨e1, e2, e3⟩ := okUD_R hok
  rw [dec_size] at h1 h2
  exact ⟨ratQ n u d, ⟨by rw [e2]; exact h1, by rw [e3]; exact h2⟩, e1.symm, by rw [e2], by rw [e3]⟩
theorem numP_of {q : Rat} (h : Sm q) : NumP (decide (q.num < 0)) (dec q.num.natAbs) (dec q.den) :=
  ⟨_, _, rfl, rfl, by rw [dec_size]; exact h.1, by rw [dec_size]; exact h.2, ok_rat q⟩
theorem numR_inj {p q : Rat} (h1 : decide (p.num < 0) = decide (q.num < 0)) (h2 : dec p.num.natAbs = dec q.num.natAbs) (h3 : dec p.den = dec q.den) : p = q := by
  have e2 := dec_inj h2
  have e3 := dec_inj h3
  have e1 := decide_eq_decide.1 h1
  exact Rat.ext (by omega) e3

theorem sm_len {q : Rat} (h : Sm q) : (dec q.num.natAbs).size ≤ 60 ∧ (dec q.den).size ≤ 60 := by
  rw [dec_size, dec_size]; exact h
theorem max60 : (60 : Nat) ≤ maxLen := by decide

/-- What the program's opening of a rational tells. -/
theorem open_R (q : Rat) (h : Sm q) : nG q.num.natAbs ≤ 60 ∧ nG q.den ≤ 60 ∧ ∀ w, Pow9 w → Calls Tryd.prog 49 #[numR q] w fun e w' => ∃ ua uc da dc, e = .returned (.tuple #[.agg #[.bool (decide (q.num < 0)), .slice ua (grp q.num.natAbs).length uc, .slice da (grp q.den).length dc], .bool true]) ∧ NatA w' (.slice ua (grp q.num.natAbs).length uc) (grp q.num.natAbs) ∧ NatA w' (.slice da (grp q.den).length dc) (grp q.den) ∧ Below w.heap.size w w' := by
  obtain ⟨s1, s2⟩ := sm_len h
  obtain ⟨b, p, U, D, o, c⟩ := openNum_all (decide (q.num < 0)) (dec q.num.natAbs) (dec q.den) (Nat.le_trans s1 max60) (Nat.le_trans s2 max60)
  have g := o.small
  rcases o with ⟨rfl, rfl, e1, e2, -, -, -⟩ | ⟨-, hno, -⟩
  · obtain rfl := dec_inj e1
    obtain rfl := dec_inj e2
    exact ⟨g.1, g.2, c⟩
  · exact absurd (numP_of h) hno

theorem den_pos (q : Rat) : 0 < q.den := Nat.pos_of_ne_zero q.den_nz
theorem mulR (p q : Rat) (hp : Sm p) (hq : Sm q) (w : World) (hP : Pow9 w) :
    Calls Tryd.prog 19 #[numR p, numR q] w fun e w' => e = .returned (ansR (p * q)) ∧ Below w.heap.size w w' := by
  obtain ⟨g1, g2, c1⟩ := open_R p hp
  obtain ⟨g3, g4, c2⟩ := open_R q hq
  have h := implNumMul_of _ _ _ _ _ _ true true _ _ _ _ _ _ w c1 c2 g1 g2 g3 g4 (fun _ => ⟨den_pos p, den_pos q⟩) hP
  rw [if_pos (show (true && true) = true from rfl), ansQ_R _ _ _ (Nat.mul_ne_zero p.den_nz q.den_nz), ratQ_mul, rat_ratQ, rat_ratQ] at h
  exact h
theorem addR (p q : Rat) (hp : Sm p) (hq : Sm q) (w : World) (hP : Pow9 w) :
    Calls Tryd.prog 17 #[numR p, numR q] w fun e w' => e = .returned (ansR (p + q)) ∧ Below w.heap.size w w' := by
  obtain ⟨g1, g2, c1⟩ := open_R p hp
  obtain ⟨g3, g4, c2⟩ := open_R q hq
  have h := implNumAdd_of _ _ _ _ _ _ true true _ _ _ _ _ _ w c1 c2 g1 g2 g3 g4 (fun _ => ⟨den_pos p, den_pos q⟩) hP
  rw [if_pos (show (true && true) = true from rfl), ansQ_R _ _ _ (Nat.mul_ne_zero p.den_nz q.den_nz), ratQ_add _ _ _ _ _ _ p.den_nz q.den_nz, rat_ratQ, rat_ratQ] at h
  exact h
theorem subR (p q : Rat) (hp : Sm p) (hq : Sm q) (w : World) (hP : Pow9 w) :
    Calls Tryd.prog 23 #[numR p, numR q] w fun e w' => e = .returned (ansR (p - q)) ∧ Below w.heap.size w w' := by
  obtain ⟨g1, g2, c1⟩ := open_R p hp
  obtain ⟨g3, g4, c2⟩ := open_R q hq
  have h := implNumSub_of _ _ _ _ _ _ true true _ _ _ _ _ _ w c1 c2 g1 g2 g3 g4 (fun _ => ⟨den_pos p, den_pos q⟩) hP
  rw [if_pos (show (true && true) = true from rfl), ansQ_R _ _ _ (Nat.mul_ne_zero p.den_nz q.den_nz), ratQ_sub _ _ _ _ _ _ p.den_nz q.den_nz, rat_ratQ, rat_ratQ] at h
  exact h
theorem divR (p q : Rat) (hp : Sm p) (hq : Sm q) (w : World) (hP : Pow9 w) :
    Calls Tryd.prog 24 #[numR p, numR q] w fun e w' => e = .returned (if q = 0 then noAns 2 else ansR (p / q)) ∧ Below w.heap.size w w' := by
  obtain ⟨g1, g2, c1⟩ := open_R p hp
  obtain ⟨g3, g4, c2⟩ := open_R q hq
  have h := implNumDiv_of _ _ _ _ _ _ true true _ _ _ _ _ _ w c1 c2 g1 g2 g3 g4 (fun _ => ⟨den_pos p, den_pos q⟩) hP
  rw [if_pos (show (true && true) = true from rfl)] at h
  have e0 : q.num.natAbs = 0 ↔ q = 0 := by rw [Int.natAbs_eq_zero, Rat.num_eq_zero]
  by_cases hz : q = 0
  · rw [if_pos hz]
    rw [if_pos (e0.2 hz)] at h
    exact h
  · have hz' : q.num.natAbs ≠ 0 := fun h => hz (e0.1 h)
    rw [if_neg hz]
    rw [if_neg hz', ansQ_R _ _ _ (Nat.mul_ne_zero p.den_nz hz'), ratQ_quo _ _ _ _ _ _ q.den_nz hz', rat_ratQ, rat_ratQ] at h
    exact h
/-- Less, the same, or more. -/
def cmpR (p q : Rat) : Int := sgnR (p - q)
theorem cmpRR (p q : Rat) (hp : Sm p) (hq : Sm q) (w : World) (hP : Pow9 w) :
    Calls Tryd.prog 27 #[numR p, numR q] w fun e w' => e = .returned (.int .i64 (cmpR p q)) ∧ Below w.heap.size w w' := by
  obtain ⟨g1, g2, c1⟩ := open_R p hp
  obtain ⟨g3, g4, c2⟩ := open_R q hq
  have h := implNumCmp_of _ _ _ _ _ _ true true _ _ _ _ _ _ w c1 c2 g1 g2 g3 g4 hP
  rw [if_pos (show (true && true) = true from rfl), ← sgnR_Q _ _ _ (Nat.mul_ne_zero p.den_nz q.den_nz), ratQ_sub _ _ _ _ _ _ p.den_nz q.den_nz, rat_ratQ, rat_ratQ] at h
  exact h
/-- A small integer. -/
theorem intR (i : Int) (w : World) (h1 : -9223372036854775808 ≤ i) (h2 : i ≤ 9223372036854775807) (hP : Pow9 w) :
    Calls Tryd.prog 25 #[.int .i64 i] w fun e w' => e = .returned (numR (i : Rat)) ∧ Below w.heap.size w w' := implNumInt_any i w h1 h2 hP
end Go.Proofs.YtbbffhpppacihaaDoor

namespace Go.Proofs.YtbbffhpppacihaaDoor
open Go.RowKit Go.Siskin

set_option maxRecDepth 20000 in
set_option maxHeartbeats 1000000 in
theorem integerOf_any (i : Int) (w : World) (h1 : -9223372036854775808 ≤ i) (h2 : i ≤ 9223372036854775807) :
    Calls Tryd.prog 71 #[.int .i64 i] w fun e w' => ∃ a c, e = .returned (.agg #[.bool (decide (i < 0)), .slice a (grp i.natAbs).length c]) ∧ NatA w' (.slice a (grp i.natAbs).length c) (grp i.natAbs) ∧ Below w.heap.size w w' := by
  have HO := hid (fun w => sizeOf_any i w h1 h2)
  obtain ⟨b, hb⟩ : ∃ b : Bool, decide (i < 0) = b := ⟨_, rfl⟩
  obtain ⟨x, hx⟩ : ∃ x, i.natAbs = x := ⟨_, rfl⟩
  rw [hx] at HO ⊢
  rw [hb]
  clear hx
  go_enter Tryd.func71, Tryd.ntmps71
  go_wp2_with fail
  refine (HO.out _).mono ?_
  rintro e w1 ⟨vu, rfl, hu, hw⟩
  rw [World.size_alloc] at hw
  have HU := hid hu
  have HW := hid hw
  obtain ⟨ua, uc, rfl⟩ := natA_formR hu
  obtain ⟨⟨r0, r1⟩, q0, q1⟩ := own2V ((own_new w #[.bool false, .slice none 0 0] 50).keep hw (Nat.lt_succ_self _))
  have hO := (own_new w #[.bool false, .slice none 0 0] 50).keep hw (Nat.lt_succ_self _)
  have HO2 := hid hO
  clear hw hu hO
  go_wp2_with fail
  refine bodyPost_ret (v := .agg #[.bool b, .slice ua (grp x).length uc]) (by simp [results, Tryd.results71, go_sem, r0, r1]) rfl ⟨ua, uc, rfl, ?_, ?_⟩
  · exact natA_set2 HU.out HO2.out _ _
  · exact below_set2 (res_done HW.out) (Nat.le_refl _) _ _
end Go.Proofs.YtbbffhpppacihaaDoor
