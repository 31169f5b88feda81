/-
  The model's l13Add, l13Neg, NumSub, NumAdd. Condition: none. Made by wip/tools/genuv.py.
  The law FnExactNumSub. Condition: the table of powers stands. Made by wip/tools/genup.py.
  The table of powers of ten as the card lists it, and as the walks read it.
-/
import Derived.Test.YtodpndmdmopghabDoorPart12
import Derived.Test.YtodpndmdmopghabDoorPart4
import Derived.Test.YtodpndmdmopghabDoorRows
import Derived.Test.YtodpndmdmopghabDoorPart1
import Derived.ProofKit
import Derived.OpenShut
import Derived.ShutString
import Derived.ChangeOld
import Derived.ChangeVars
import Derived.Below
import Derived.Carry
import Derived.LaidMore
import Derived.Stop.Joined
import Derived.Stop.LaidErr
import Derived.Lib.LaidTab
namespace Go.Proofs.YtodpndmdmopghabDoor
open Go.RowKit Go.Siskin

theorem sum_zero (n m : Bool) (X : Nat) : sumN n X m 0 = n ∧ sumZ n X m 0 = X := by
  unfold sumN sumZ
  by_cases h : n = m
  · rw [if_pos h, if_pos h]; exact ⟨rfl, Nat.add_zero X⟩
  · rw [if_neg h, if_neg h, if_neg (Nat.not_lt_zero X), if_neg (Nat.not_lt_zero X)]; exact ⟨rfl, Nat.sub_zero X⟩

set_option maxRecDepth 20000 in
set_option maxHeartbeats 4000000 in
theorem l13Add_same (n1 n2 : Bool) (u1 d1 u2 d2 : Nat) (w : World) (h1 : Lib.nDigits u1 ≤ 60) (h2 : Lib.nDigits d1 ≤ 60) (h3 : Lib.nDigits u2 ≤ 60) (h4 : Lib.nDigits d2 ≤ 60) (k1 : d1 ≠ 0) (k2 : d2 ≠ 0) (hs : n1 = n2) :
    Calls Tryd.prog 16 #[.agg #[.bool n1, .string (dec u1), .string (dec d1)], .agg #[.bool n2, .string (dec u2), .string (dec d2)]] w fun e w' => e = .returned (ansQ n1 (u1 * d2 + u2 * d1) (d1 * d2)) ∧ Below w.heap.size w w' := by
  have HMx := hid (fun w => l11Mul_any u1 d2 w (by omega) (by omega))
  have HMy := hid (fun w => l11Mul_any u2 d1 w (by omega) (by omega))
  have HMd := hid (fun w => l11Mul_any d1 d2 w (by omega) (by omega))
  have gx : Lib.nDigits (u1 * d2) ≤ 120 := nDigits_mul (m := 60) (k := 60) h1 h4 (by decide)
  have gy : Lib.nDigits (u2 * d1) ≤ 120 := nDigits_mul (m := 60) (k := 60) h3 h2 (by decide)
  have gd : Lib.nDigits (d1 * d2) ≤ 120 := nDigits_mul (m := 60) (k := 60) h2 h4 (by decide)
  have gz : Lib.nDigits (u1 * d2 + u2 * d1) ≤ 121 := nDigits_le (by have a := Nat.lt_of_lt_of_le (Lib.lt_pow_nDigits (u1 * d2)) (Nat.pow_le_pow_right (by decide) gx); have b := Nat.lt_of_lt_of_le (Lib.lt_pow_nDigits (u2 * d1)) (Nat.pow_le_pow_right (by decide) gy); rw [Nat.pow_succ]; omega) (by decide)
  have HA := hid (fun w => l13Answer_any n1 (u1 * d2 + u2 * d1) (d1 * d2) w (Nat.le_trans gz (by decide)) (Nat.le_trans gd (by decide)) (Nat.mul_ne_zero k1 k2))
  have HOp := hid (fun w => l11Add_any (u1 * d2) (u2 * d1) w (by omega) (by omega))
  obtain ⟨ma, mx, my, mc, hmf⟩ := ansQ_form n1 (u1 * d2 + u2 * d1) (d1 * d2)
  rw [hmf] at HA ⊢
  have hnn : (n1 == n2) = true := by rw [hs]; simp
  clear hs
  clear hmf h1 h2 h3 h4 k1 k2 gx gy gd gz
  generalize dec (u1 * d2 + u2 * d1) = PZ at *
  generalize dec (u1 * d2) = PX at *
  generalize dec (u2 * d1) = PY at *
  generalize dec (d1 * d2) = PD at *
  generalize dec u1 = T1 at *
  generalize dec d1 = R1 at *
  generalize dec u2 = T2 at *
  generalize dec d2 = R2 at *
  have HB0 : Hid (Below (w.heap.size + 3) (((w.alloc (boxN n1 T1 R1)).alloc (boxN n2 T2 R2)).alloc box0) (((w.alloc (boxN n1 T1 R1)).alloc (boxN n2 T2 R2)).alloc box0)) := Below.refl _ _
  have HX : Hid (∀ W, Below (w.heap.size + 3) (((w.alloc (boxN n1 T1 R1)).alloc (boxN n2 T2 R2)).alloc box0) W → Own W w.heap.size 25 #[.bool n1, .string T1, .string R1] ∧ Own W (w.heap.size + 1) 25 #[.bool n2, .string T2, .string R2] ∧ Own W (w.heap.size + 1 + 1) 25 #[.bool false, .string ⟨#[]⟩, .string ⟨#[]⟩] ∧ Below w.heap.size w W) := fun W h => boxes3 w _ _ _ _ _ _ h
  have HSz : Hid (w.heap.size + 3 ≤ (((w.alloc (boxN n1 T1 R1)).alloc (boxN n2 T2 R2)).alloc box0).heap.size) := by show _ ≤ _; simp
  have HSt : Hid (∀ W, Below (w.heap.size + 3) (((w.alloc (boxN n1 T1 R1)).alloc (boxN n2 T2 R2)).alloc box0) W → ∀ x y z : Value, ((((W.setCell ⟨w.heap.size + 1 + 1, 0, none⟩ x).setCell ⟨w.heap.size + 1 + 1, 1, none⟩ y).setCell ⟨w.heap.size + 1 + 1, 2, none⟩ z).cell? ⟨w.heap.size, 0, none⟩ = some (.bool n1) ∧ (((W.setCell ⟨w.heap.size + 1 + 1, 0, none⟩ x).setCell ⟨w.heap.size + 1 + 1, 1, none⟩ y).setCell ⟨w.heap.size + 1 + 1, 2, none⟩ z).cell? ⟨w.heap.size, 1, none⟩ = some (.string T1) ∧ (((W.setCell ⟨w.heap.size + 1 + 1, 0, none⟩ x).setCell ⟨w.heap.size + 1 + 1, 1, none⟩ y).setCell ⟨w.heap.size + 1 + 1, 2, none⟩ z).cell? ⟨w.heap.size, 2, none⟩ = some (.string R1)) ∧ (((W.setCell ⟨w.heap.size + 1 + 1, 0, none⟩ x).setCell ⟨w.heap.size + 1 + 1, 1, none⟩ y).setCell ⟨w.heap.size + 1 + 1, 2, none⟩ z).cell? ⟨w.heap.size + 1, 0, none⟩ = some (.bool n2) ∧ (((W.setCell ⟨w.heap.size + 1 + 1, 0, none⟩ x).setCell ⟨w.heap.size + 1 + 1, 1, none⟩ y).setCell ⟨w.heap.size + 1 + 1, 2, none⟩ z).cell? ⟨w.heap.size + 1, 1, none⟩ = some (.string T2) ∧ (((W.setCell ⟨w.heap.size + 1 + 1, 0, none⟩ x).setCell ⟨w.heap.size + 1 + 1, 1, none⟩ y).setCell ⟨w.heap.size + 1 + 1, 2, none⟩ z).cell? ⟨w.heap.size + 1, 2, none⟩ = some (.string R2)) := fun W h x y z => by
    have h0 := HX.out W h
    exact ⟨(own3V (own_set3 h0.1 (by omega) x y z)).1, (own3V (own_set3 h0.2.1 (by omega) x y z)).1⟩
  go_enter Tryd.func16, Tryd.ntmps16
  obtain ⟨⟨x0, x1, x2⟩, -⟩ := own3V (HX.out _ HB0.out).1
  obtain ⟨⟨y0, y1, y2⟩, -⟩ := own3V (HX.out _ HB0.out).2.1
  go_wp2_with fail
  refine (HMx.out _).mono ?_
  rintro e wa ⟨rfl, hwa⟩
  have HBa := hid (HB0.out.trans (hwa.mono HSz.out))
  clear hwa x0 x1 x2 y0 y1 y2
  obtain ⟨⟨x0, x1, x2⟩, -⟩ := own3V (HX.out _ HBa.out).1
  obtain ⟨⟨y0, y1, y2⟩, -⟩ := own3V (HX.out _ HBa.out).2.1
  go_wp2_with fail
  refine (HMy.out _).mono ?_
  rintro e wc ⟨rfl, hwa⟩
  have HBc := hid (HBa.out.trans (hwa.mono (Nat.le_trans HSz.out HBa.out.size)))
  clear hwa x0 x1 x2 y0 y1 y2
  obtain ⟨⟨x0, x1, x2⟩, -⟩ := own3V (HX.out _ HBc.out).1
  obtain ⟨⟨y0, y1, y2⟩, -⟩ := own3V (HX.out _ HBc.out).2.1
  go_wp2_with fail
  refine (HMd.out _).mono ?_
  rintro e wb ⟨rfl, hwa⟩
  have HBb := hid (HBc.out.trans (hwa.mono (Nat.le_trans HSz.out HBc.out.size)))
  clear hwa x0 x1 x2 y0 y1 y2
  obtain ⟨⟨x0, x1, x2⟩, -⟩ := own3V (HX.out _ HBb.out).1
  obtain ⟨⟨y0, y1, y2⟩, -⟩ := own3V (HX.out _ HBb.out).2.1
  go_wp2_with fail
  clear x0 x1 x2 y0 y1 y2
  have HB := hid HBb.out.drew
  obtain ⟨⟨r0, r1, r2⟩, q0, q1, q2⟩ := own3V (HX.out _ HB.out).2.2.1
  go_region_held3 (fun W => (W.cell? ⟨w.heap.size, 0, none⟩ = some (.bool n1) ∧ W.cell? ⟨w.heap.size, 1, none⟩ = some (.string T1) ∧ W.cell? ⟨w.heap.size, 2, none⟩ = some (.string R1)) ∧ W.cell? ⟨w.heap.size + 1, 0, none⟩ = some (.bool n2) ∧ W.cell? ⟨w.heap.size + 1, 1, none⟩ = some (.string T2) ∧ W.cell? ⟨w.heap.size + 1, 2, none⟩ = some (.string R2))
    (first
      | exact ⟨(own3V (HX.out _ HB.out).1).1, (own3V (HX.out _ HB.out).2.1).1⟩
      | exact HSt.out _ HB.out _ _ _)
    (first
      | (go_at_call 30
         go_loud (
           refine (HOp.out _).mono ?_
           rintro e w5 ⟨rfl, hw5⟩
           have HB := hid (HB.out.trans (hw5.mono (Nat.le_trans HSz.out HB.out.size)))
           clear hw5 r0 r1 r2 q0 q1 q2
           obtain ⟨⟨r0, r1, r2⟩, q0, q1, q2⟩ := own3V (HX.out _ HB.out).2.2.1))
      | (go_at_call 23
         go_loud (
           refine (HA.out _).mono ?_
           rintro e w5 ⟨rfl, hw5⟩
           have HB := hid (HB.out.trans (hw5.mono (Nat.le_trans HSz.out HB.out.size)))
           clear hw5 r0 r1 r2 q0 q1 q2
           obtain ⟨⟨r0, r1, r2⟩, q0, q1, q2⟩ := own3V (HX.out _ HB.out).2.2.1)))
  all_goals
    go_wp2_with fail
    refine bodyPost_ret (v := .tuple #[.agg #[.bool ma, .string mx, .string my], .int .i64 mc]) (by simp [results, Tryd.results16, go_sem, r0, r1, r2]) rfl ⟨rfl, ?_⟩
    exact below_set3 (HX.out _ HB.out).2.2.2 (by omega) _ _ _

set_option maxRecDepth 20000 in
set_option maxHeartbeats 4000000 in
theorem l13Add_ge (n1 n2 : Bool) (u1 d1 u2 d2 : Nat) (w : World) (h1 : Lib.nDigits u1 ≤ 60) (h2 : Lib.nDigits d1 ≤ 60) (h3 : Lib.nDigits u2 ≤ 60) (h4 : Lib.nDigits d2 ≤ 60) (k1 : d1 ≠ 0) (k2 : d2 ≠ 0) (hs : n1 ≠ n2) (hlt : ¬ u1 * d2 < u2 * d1) :
    Calls Tryd.prog 16 #[.agg #[.bool n1, .string (dec u1), .string (dec d1)], .agg #[.bool n2, .string (dec u2), .string (dec d2)]] w fun e w' => e = .returned (ansQ n1 (u1 * d2 - u2 * d1) (d1 * d2)) ∧ Below w.heap.size w w' := by
  have HMx := hid (fun w => l11Mul_any u1 d2 w (by omega) (by omega))
  have HMy := hid (fun w => l11Mul_any u2 d1 w (by omega) (by omega))
  have HMd := hid (fun w => l11Mul_any d1 d2 w (by omega) (by omega))
  have gx : Lib.nDigits (u1 * d2) ≤ 120 := nDigits_mul (m := 60) (k := 60) h1 h4 (by decide)
  have gy : Lib.nDigits (u2 * d1) ≤ 120 := nDigits_mul (m := 60) (k := 60) h3 h2 (by decide)
  have gd : Lib.nDigits (d1 * d2) ≤ 120 := nDigits_mul (m := 60) (k := 60) h2 h4 (by decide)
  have gz : Lib.nDigits (u1 * d2 - u2 * d1) ≤ 120 := Nat.le_trans (nDigits_mono (Nat.sub_le _ _)) gx
  have HA := hid (fun w => l13Answer_any n1 (u1 * d2 - u2 * d1) (d1 * d2) w (Nat.le_trans gz (by decide)) (Nat.le_trans gd (by decide)) (Nat.mul_ne_zero k1 k2))
  have HOp := hid (fun w => l11Sub_any (u1 * d2) (u2 * d1) w (by omega) (by omega))
  obtain ⟨ma, mx, my, mc, hmf⟩ := ansQ_form n1 (u1 * d2 - u2 * d1) (d1 * d2)
  rw [hmf] at HA ⊢
  have hnn : (n1 == n2) = false := by rw [beq_eq_false_iff_ne]; exact hs
  have HCm := hid (fun w => l11Cmp_any (u1 * d2) (u2 * d1) w)
  obtain ⟨cz, hcz⟩ : ∃ c, cmpI (u1 * d2) (u2 * d1) = c := ⟨_, rfl⟩
  have hcz0 : 0 ≤ cz := by rw [← hcz]; unfold cmpI; rw [if_neg hlt]; split <;> decide
  rw [hcz] at HCm
  clear hs hlt hcz
  clear hmf h1 h2 h3 h4 k1 k2 gx gy gd gz
  generalize dec (u1 * d2 - u2 * d1) = PZ at *
  generalize dec (u1 * d2) = PX at *
  generalize dec (u2 * d1) = PY at *
  generalize dec (d1 * d2) = PD at *
  generalize dec u1 = T1 at *
  generalize dec d1 = R1 at *
  generalize dec u2 = T2 at *
  generalize dec d2 = R2 at *
  have HB0 : Hid (Below (w.heap.size + 3) (((w.alloc (boxN n1 T1 R1)).alloc (boxN n2 T2 R2)).alloc box0) (((w.alloc (boxN n1 T1 R1)).alloc (boxN n2 T2 R2)).alloc box0)) := Below.refl _ _
  have HX : Hid (∀ W, Below (w.heap.size + 3) (((w.alloc (boxN n1 T1 R1)).alloc (boxN n2 T2 R2)).alloc box0) W → Own W w.heap.size 25 #[.bool n1, .string T1, .string R1] ∧ Own W (w.heap.size + 1) 25 #[.bool n2, .string T2, .string R2] ∧ Own W (w.heap.size + 1 + 1) 25 #[.bool false, .string ⟨#[]⟩, .string ⟨#[]⟩] ∧ Below w.heap.size w W) := fun W h => boxes3 w _ _ _ _ _ _ h
  have HSz : Hid (w.heap.size + 3 ≤ (((w.alloc (boxN n1 T1 R1)).alloc (boxN n2 T2 R2)).alloc box0).heap.size) := by show _ ≤ _; simp
  have HSt : Hid (∀ W, Below (w.heap.size + 3) (((w.alloc (boxN n1 T1 R1)).alloc (boxN n2 T2 R2)).alloc box0) W → ∀ x y z : Value, ((((W.setCell ⟨w.heap.size + 1 + 1, 0, none⟩ x).setCell ⟨w.heap.size + 1 + 1, 1, none⟩ y).setCell ⟨w.heap.size + 1 + 1, 2, none⟩ z).cell? ⟨w.heap.size, 0, none⟩ = some (.bool n1) ∧ (((W.setCell ⟨w.heap.size + 1 + 1, 0, none⟩ x).setCell ⟨w.heap.size + 1 + 1, 1, none⟩ y).setCell ⟨w.heap.size + 1 + 1, 2, none⟩ z).cell? ⟨w.heap.size, 1, none⟩ = some (.string T1) ∧ (((W.setCell ⟨w.heap.size + 1 + 1, 0, none⟩ x).setCell ⟨w.heap.size + 1 + 1, 1, none⟩ y).setCell ⟨w.heap.size + 1 + 1, 2, none⟩ z).cell? ⟨w.heap.size, 2, none⟩ = some (.string R1)) ∧ (((W.setCell ⟨w.heap.size + 1 + 1, 0, none⟩ x).setCell ⟨w.heap.size + 1 + 1, 1, none⟩ y).setCell ⟨w.heap.size + 1 + 1, 2, none⟩ z).cell? ⟨w.heap.size + 1, 0, none⟩ = some (.bool n2) ∧ (((W.setCell ⟨w.heap.size + 1 + 1, 0, none⟩ x).setCell ⟨w.heap.size + 1 + 1, 1, none⟩ y).setCell ⟨w.heap.size + 1 + 1, 2, none⟩ z).cell? ⟨w.heap.size + 1, 1, none⟩ = some (.string T2) ∧ (((W.setCell ⟨w.heap.size + 1 + 1, 0, none⟩ x).setCell ⟨w.heap.size + 1 + 1, 1, none⟩ y).setCell ⟨w.heap.size + 1 + 1, 2, none⟩ z).cell? ⟨w.heap.size + 1, 2, none⟩ = some (.string R2)) := fun W h x y z => by
    have h0 := HX.out W h
    exact ⟨(own3V (own_set3 h0.1 (by omega) x y z)).1, (own3V (own_set3 h0.2.1 (by omega) x y z)).1⟩
  go_enter Tryd.func16, Tryd.ntmps16
  obtain ⟨⟨x0, x1, x2⟩, -⟩ := own3V (HX.out _ HB0.out).1
  obtain ⟨⟨y0, y1, y2⟩, -⟩ := own3V (HX.out _ HB0.out).2.1
  go_wp2_with fail
  refine (HMx.out _).mono ?_
  rintro e wa ⟨rfl, hwa⟩
  have HBa := hid (HB0.out.trans (hwa.mono HSz.out))
  clear hwa x0 x1 x2 y0 y1 y2
  obtain ⟨⟨x0, x1, x2⟩, -⟩ := own3V (HX.out _ HBa.out).1
  obtain ⟨⟨y0, y1, y2⟩, -⟩ := own3V (HX.out _ HBa.out).2.1
  go_wp2_with fail
  refine (HMy.out _).mono ?_
  rintro e wc ⟨rfl, hwa⟩
  have HBc := hid (HBa.out.trans (hwa.mono (Nat.le_trans HSz.out HBa.out.size)))
  clear hwa x0 x1 x2 y0 y1 y2
  obtain ⟨⟨x0, x1, x2⟩, -⟩ := own3V (HX.out _ HBc.out).1
  obtain ⟨⟨y0, y1, y2⟩, -⟩ := own3V (HX.out _ HBc.out).2.1
  go_wp2_with fail
  refine (HMd.out _).mono ?_
  rintro e wb ⟨rfl, hwa⟩
  have HBb := hid (HBc.out.trans (hwa.mono (Nat.le_trans HSz.out HBc.out.size)))
  clear hwa x0 x1 x2 y0 y1 y2
  obtain ⟨⟨x0, x1, x2⟩, -⟩ := own3V (HX.out _ HBb.out).1
  obtain ⟨⟨y0, y1, y2⟩, -⟩ := own3V (HX.out _ HBb.out).2.1
  go_wp2_with fail
  refine (HCm.out _).mono ?_
  rintro e w' ⟨rfl, hw⟩
  obtain rfl := hw.symm
  go_wp2_with fail
  clear x0 x1 x2 y0 y1 y2
  have HB := hid HBb.out.drew
  obtain ⟨⟨r0, r1, r2⟩, q0, q1, q2⟩ := own3V (HX.out _ HB.out).2.2.1
  go_region_held3 (fun W => (W.cell? ⟨w.heap.size, 0, none⟩ = some (.bool n1) ∧ W.cell? ⟨w.heap.size, 1, none⟩ = some (.string T1) ∧ W.cell? ⟨w.heap.size, 2, none⟩ = some (.string R1)) ∧ W.cell? ⟨w.heap.size + 1, 0, none⟩ = some (.bool n2) ∧ W.cell? ⟨w.heap.size + 1, 1, none⟩ = some (.string T2) ∧ W.cell? ⟨w.heap.size + 1, 2, none⟩ = some (.string R2))
    (first
      | exact ⟨(own3V (HX.out _ HB.out).1).1, (own3V (HX.out _ HB.out).2.1).1⟩
      | exact HSt.out _ HB.out _ _ _)
    (first
      | (go_at_call 32
         go_loud (
           refine (HOp.out _).mono ?_
           rintro e w5 ⟨rfl, hw5⟩
           have HB := hid (HB.out.trans (hw5.mono (Nat.le_trans HSz.out HB.out.size)))
           clear hw5 r0 r1 r2 q0 q1 q2
           obtain ⟨⟨r0, r1, r2⟩, q0, q1, q2⟩ := own3V (HX.out _ HB.out).2.2.1))
      | (go_at_call 23
         go_loud (
           refine (HA.out _).mono ?_
           rintro e w5 ⟨rfl, hw5⟩
           have HB := hid (HB.out.trans (hw5.mono (Nat.le_trans HSz.out HB.out.size)))
           clear hw5 r0 r1 r2 q0 q1 q2
           obtain ⟨⟨r0, r1, r2⟩, q0, q1, q2⟩ := own3V (HX.out _ HB.out).2.2.1)))
  all_goals
    go_wp2_with fail
    refine bodyPost_ret (v := .tuple #[.agg #[.bool ma, .string mx, .string my], .int .i64 mc]) (by simp [results, Tryd.results16, go_sem, r0, r1, r2]) rfl ⟨rfl, ?_⟩
    exact below_set3 (HX.out _ HB.out).2.2.2 (by omega) _ _ _

set_option maxRecDepth 20000 in
set_option maxHeartbeats 4000000 in
theorem l13Add_lt (n1 n2 : Bool) (u1 d1 u2 d2 : Nat) (w : World) (h1 : Lib.nDigits u1 ≤ 60) (h2 : Lib.nDigits d1 ≤ 60) (h3 : Lib.nDigits u2 ≤ 60) (h4 : Lib.nDigits d2 ≤ 60) (k1 : d1 ≠ 0) (k2 : d2 ≠ 0) (hs : n1 ≠ n2) (hlt : u1 * d2 < u2 * d1) :
    Calls Tryd.prog 16 #[.agg #[.bool n1, .string (dec u1), .string (dec d1)], .agg #[.bool n2, .string (dec u2), .string (dec d2)]] w fun e w' => e = .returned (ansQ n2 (u2 * d1 - u1 * d2) (d1 * d2)) ∧ Below w.heap.size w w' := by
  have HMx := hid (fun w => l11Mul_any u1 d2 w (by omega) (by omega))
  have HMy := hid (fun w => l11Mul_any u2 d1 w (by omega) (by omega))
  have HMd := hid (fun w => l11Mul_any d1 d2 w (by omega) (by omega))
  have gx : Lib.nDigits (u1 * d2) ≤ 120 := nDigits_mul (m := 60) (k := 60) h1 h4 (by decide)
  have gy : Lib.nDigits (u2 * d1) ≤ 120 := nDigits_mul (m := 60) (k := 60) h3 h2 (by decide)
  have gd : Lib.nDigits (d1 * d2) ≤ 120 := nDigits_mul (m := 60) (k := 60) h2 h4 (by decide)
  have gz : Lib.nDigits (u2 * d1 - u1 * d2) ≤ 120 := Nat.le_trans (nDigits_mono (Nat.sub_le _ _)) gy
  have HA := hid (fun w => l13Answer_any n2 (u2 * d1 - u1 * d2) (d1 * d2) w (Nat.le_trans gz (by decide)) (Nat.le_trans gd (by decide)) (Nat.mul_ne_zero k1 k2))
  have HOp := hid (fun w => l11Sub_any (u2 * d1) (u1 * d2) w (by omega) (by omega))
  obtain ⟨ma, mx, my, mc, hmf⟩ := ansQ_form n2 (u2 * d1 - u1 * d2) (d1 * d2)
  rw [hmf] at HA ⊢
  have hnn : (n1 == n2) = false := by rw [beq_eq_false_iff_ne]; exact hs
  have HCm := hid (fun w => l11Cmp_any (u1 * d2) (u2 * d1) w)
  have hcz : cmpI (u1 * d2) (u2 * d1) = -1 := if_pos hlt
  rw [hcz] at HCm
  clear hs hlt hcz
  clear hmf h1 h2 h3 h4 k1 k2 gx gy gd gz
  generalize dec (u2 * d1 - u1 * d2) = PZ at *
  generalize dec (u1 * d2) = PX at *
  generalize dec (u2 * d1) = PY at *
  generalize dec (d1 * d2) = PD at *
  generalize dec u1 = T1 at *
  generalize dec d1 = R1 at *
  generalize dec u2 = T2 at *
  generalize dec d2 = R2 at *
  have HB0 : Hid (Below (w.heap.size + 3) (((w.alloc (boxN n1 T1 R1)).alloc (boxN n2 T2 R2)).alloc box0) (((w.alloc (boxN n1 T1 R1)).alloc (boxN n2 T2 R2)).alloc box0)) := Below.refl _ _
  have HX : Hid (∀ W, Below (w.heap.size + 3) (((w.alloc (boxN n1 T1 R1)).alloc (boxN n2 T2 R2)).alloc box0) W → Own W w.heap.size 25 #[.bool n1, .string T1, .string R1] ∧ Own W (w.heap.size + 1) 25 #[.bool n2, .string T2, .string R2] ∧ Own W (w.heap.size + 1 + 1) 25 #[.bool false, .string ⟨#[]⟩, .string ⟨#[]⟩] ∧ Below w.heap.size w W) := fun W h => boxes3 w _ _ _ _ _ _ h
  have HSz : Hid (w.heap.size + 3 ≤ (((w.alloc (boxN n1 T1 R1)).alloc (boxN n2 T2 R2)).alloc box0).heap.size) := by show _ ≤ _; simp
  have HSt : Hid (∀ W, Below (w.heap.size + 3) (((w.alloc (boxN n1 T1 R1)).alloc (boxN n2 T2 R2)).alloc box0) W → ∀ x y z : Value, ((((W.setCell ⟨w.heap.size + 1 + 1, 0, none⟩ x).setCell ⟨w.heap.size + 1 + 1, 1, none⟩ y).setCell ⟨w.heap.size + 1 + 1, 2, none⟩ z).cell? ⟨w.heap.size, 0, none⟩ = some (.bool n1) ∧ (((W.setCell ⟨w.heap.size + 1 + 1, 0, none⟩ x).setCell ⟨w.heap.size + 1 + 1, 1, none⟩ y).setCell ⟨w.heap.size + 1 + 1, 2, none⟩ z).cell? ⟨w.heap.size, 1, none⟩ = some (.string T1) ∧ (((W.setCell ⟨w.heap.size + 1 + 1, 0, none⟩ x).setCell ⟨w.heap.size + 1 + 1, 1, none⟩ y).setCell ⟨w.heap.size + 1 + 1, 2, none⟩ z).cell? ⟨w.heap.size, 2, none⟩ = some (.string R1)) ∧ (((W.setCell ⟨w.heap.size + 1 + 1, 0, none⟩ x).setCell ⟨w.heap.size + 1 + 1, 1, none⟩ y).setCell ⟨w.heap.size + 1 + 1, 2, none⟩ z).cell? ⟨w.heap.size + 1, 0, none⟩ = some (.bool n2) ∧ (((W.setCell ⟨w.heap.size + 1 + 1, 0, none⟩ x).setCell ⟨w.heap.size + 1 + 1, 1, none⟩ y).setCell ⟨w.heap.size + 1 + 1, 2, none⟩ z).cell? ⟨w.heap.size + 1, 1, none⟩ = some (.string T2) ∧ (((W.setCell ⟨w.heap.size + 1 + 1, 0, none⟩ x).setCell ⟨w.heap.size + 1 + 1, 1, none⟩ y).setCell ⟨w.heap.size + 1 + 1, 2, none⟩ z).cell? ⟨w.heap.size + 1, 2, none⟩ = some (.string R2)) := fun W h x y z => by
    have h0 := HX.out W h
    exact ⟨(own3V (own_set3 h0.1 (by omega) x y z)).1, (own3V (own_set3 h0.2.1 (by omega) x y z)).1⟩
  go_enter Tryd.func16, Tryd.ntmps16
  obtain ⟨⟨x0, x1, x2⟩, -⟩ := own3V (HX.out _ HB0.out).1
  obtain ⟨⟨y0, y1, y2⟩, -⟩ := own3V (HX.out _ HB0.out).2.1
  go_wp2_with fail
  refine (HMx.out _).mono ?_
  rintro e wa ⟨rfl, hwa⟩
  have HBa := hid (HB0.out.trans (hwa.mono HSz.out))
  clear hwa x0 x1 x2 y0 y1 y2
  obtain ⟨⟨x0, x1, x2⟩, -⟩ := own3V (HX.out _ HBa.out).1
  obtain ⟨⟨y0, y1, y2⟩, -⟩ := own3V (HX.out _ HBa.out).2.1
  go_wp2_with fail
  refine (HMy.out _).mono ?_
  rintro e wc ⟨rfl, hwa⟩
  have HBc := hid (HBa.out.trans (hwa.mono (Nat.le_trans HSz.out HBa.out.size)))
  clear hwa x0 x1 x2 y0 y1 y2
  obtain ⟨⟨x0, x1, x2⟩, -⟩ := own3V (HX.out _ HBc.out).1
  obtain ⟨⟨y0, y1, y2⟩, -⟩ := own3V (HX.out _ HBc.out).2.1
  go_wp2_with fail
  refine (HMd.out _).mono ?_
  rintro e wb ⟨rfl, hwa⟩
  have HBb := hid (HBc.out.trans (hwa.mono (Nat.le_trans HSz.out HBc.out.size)))
  clear hwa x0 x1 x2 y0 y1 y2
  obtain ⟨⟨x0, x1, x2⟩, -⟩ := own3V (HX.out _ HBb.out).1
  obtain ⟨⟨y0, y1, y2⟩, -⟩ := own3V (HX.out _ HBb.out).2.1
  go_wp2_with fail
  refine (HCm.out _).mono ?_
  rintro e w' ⟨rfl, hw⟩
  obtain rfl := hw.symm
  go_wp2_with fail
  clear x0 x1 x2 y0 y1 y2
  have HB := hid HBb.out.drew
  obtain ⟨⟨r0, r1, r2⟩, q0, q1, q2⟩ := own3V (HX.out _ HB.out).2.2.1
  go_region_held3 (fun W => (W.cell? ⟨w.heap.size, 0, none⟩ = some (.bool n1) ∧ W.cell? ⟨w.heap.size, 1, none⟩ = some (.string T1) ∧ W.cell? ⟨w.heap.size, 2, none⟩ = some (.string R1)) ∧ W.cell? ⟨w.heap.size + 1, 0, none⟩ = some (.bool n2) ∧ W.cell? ⟨w.heap.size + 1, 1, none⟩ = some (.string T2) ∧ W.cell? ⟨w.heap.size + 1, 2, none⟩ = some (.string R2))
    (first
      | exact ⟨(own3V (HX.out _ HB.out).1).1, (own3V (HX.out _ HB.out).2.1).1⟩
      | exact HSt.out _ HB.out _ _ _)
    (first
      | (go_at_call 32
         go_loud (
           refine (HOp.out _).mono ?_
           rintro e w5 ⟨rfl, hw5⟩
           have HB := hid (HB.out.trans (hw5.mono (Nat.le_trans HSz.out HB.out.size)))
           clear hw5 r0 r1 r2 q0 q1 q2
           obtain ⟨⟨r0, r1, r2⟩, q0, q1, q2⟩ := own3V (HX.out _ HB.out).2.2.1))
      | (go_at_call 23
         go_loud (
           refine (HA.out _).mono ?_
           rintro e w5 ⟨rfl, hw5⟩
           have HB := hid (HB.out.trans (hw5.mono (Nat.le_trans HSz.out HB.out.size)))
           clear hw5 r0 r1 r2 q0 q1 q2
           obtain ⟨⟨r0, r1, r2⟩, q0, q1, q2⟩ := own3V (HX.out _ HB.out).2.2.1)))
  all_goals
    go_wp2_with fail
    refine bodyPost_ret (v := .tuple #[.agg #[.bool ma, .string mx, .string my], .int .i64 mc]) (by simp [results, Tryd.results16, go_sem, r0, r1, r2]) rfl ⟨rfl, ?_⟩
    exact below_set3 (HX.out _ HB.out).2.2.2 (by omega) _ _ _

theorem l13Add_any (n1 n2 : Bool) (u1 d1 u2 d2 : Nat) (w : World) (h1 : Lib.nDigits u1 ≤ 60) (h2 : Lib.nDigits d1 ≤ 60) (h3 : Lib.nDigits u2 ≤ 60) (h4 : Lib.nDigits d2 ≤ 60) (k1 : d1 ≠ 0) (k2 : d2 ≠ 0) :
    Calls Tryd.prog 16 #[.agg #[.bool n1, .string (dec u1), .string (dec d1)], .agg #[.bool n2, .string (dec u2), .string (dec d2)]] w fun e w' => e = .returned (ansQ (sumN n1 (u1 * d2) n2 (u2 * d1)) (sumZ n1 (u1 * d2) n2 (u2 * d1)) (d1 * d2)) ∧ Below w.heap.size w w' := by
  by_cases hs : n1 = n2
  · have e1 : sumN n1 (u1 * d2) n2 (u2 * d1) = n1 := if_pos hs
    have e2 : sumZ n1 (u1 * d2) n2 (u2 * d1) = u1 * d2 + u2 * d1 := if_pos hs
    rw [e1, e2]
    exact l13Add_same n1 n2 u1 d1 u2 d2 w h1 h2 h3 h4 k1 k2 hs
  · by_cases hlt : u1 * d2 < u2 * d1
    · have e1 : sumN n1 (u1 * d2) n2 (u2 * d1) = n2 := by unfold sumN; rw [if_neg hs, if_pos hlt]
      have e2 : sumZ n1 (u1 * d2) n2 (u2 * d1) = u2 * d1 - u1 * d2 := by unfold sumZ; rw [if_neg hs, if_pos hlt]
      rw [e1, e2]
      exact l13Add_lt n1 n2 u1 d1 u2 d2 w h1 h2 h3 h4 k1 k2 hs hlt
    · have e1 : sumN n1 (u1 * d2) n2 (u2 * d1) = n1 := by unfold sumN; rw [if_neg hs, if_neg hlt]
      have e2 : sumZ n1 (u1 * d2) n2 (u2 * d1) = u1 * d2 - u2 * d1 := by unfold sumZ; rw [if_neg hs, if_neg hlt]
      rw [e1, e2]
      exact l13Add_ge n1 n2 u1 d1 u2 d2 w h1 h2 h3 h4 k1 k2 hs hlt

set_option maxRecDepth 20000 in
set_option maxHeartbeats 2000000 in
theorem l13Neg_any (n : Bool) (u : Nat) (R : ByteArray) (w : World) :
    Calls Tryd.prog 17 #[.agg #[.bool n, .string (dec u), .string R]] w fun e w' => e = .returned (.agg #[.bool (!n && !decide (u = 0)), .string (dec u), .string R]) ∧ Below w.heap.size w w' := by
  have hzt := nought_text u
  generalize decide (u = 0) = z at *
  generalize dec u = T at *
  have hzn : (T.toList != [48]) = !z := by rw [bne, hzt]
  cases n
  all_goals
    go_enter Tryd.func17, Tryd.ntmps17
    go_wp2_with fail
    refine bodyPost_ret (v := .agg #[.bool _, .string T, .string R]) (by first | (simp [results, Tryd.results17, go_sem]; done) | (simp [results, Tryd.results17, go_sem]; rfl)) rfl ⟨rfl, ?_⟩
    exact ((Below.refl _ _).alloc (Nat.le_refl _) _).alloc (by simp) _

set_option maxRecDepth 20000 in
set_option maxHeartbeats 4000000 in
theorem specNumSub_yes (n1 n2 : Bool) (u1 d1 u2 d2 : Nat) (w : World) (h1 : (dec u1).size ≤ 60) (h2 : (dec d1).size ≤ 60) (h3 : (dec u2).size ≤ 60) (h4 : (dec d2).size ≤ 60) (ok1 : OkUD n1 u1 d1) (ok2 : OkUD n2 u2 d2) :
    Calls Tryd.prog 7 #[.agg #[.bool n1, .string (dec u1), .string (dec d1)], .agg #[.bool n2, .string (dec u2), .string (dec d2)]] w fun e w' => e = .returned (ansQ (sumN n1 (u1 * d2) (!n2) (u2 * d1)) (sumZ n1 (u1 * d2) (!n2) (u2 * d1)) (d1 * d2)) ∧ Below w.heap.size w w' := by
  have HO1 := hid (fun w => specNumOk_any n1 (dec u1) (dec d1) w (Nat.le_trans h1 (by decide)) (Nat.le_trans h2 (by decide)) true ⟨fun _ => ⟨u1, d1, rfl, rfl, h1, h2, ok1⟩, fun _ => rfl⟩)
  have HO2 := hid (fun w => specNumOk_any n2 (dec u2) (dec d2) w (Nat.le_trans h3 (by decide)) (Nat.le_trans h4 (by decide)) true ⟨fun _ => ⟨u2, d2, rfl, rfl, h3, h4, ok2⟩, fun _ => rfl⟩)
  rw [dec_size] at h1 h2 h3 h4
  have HN := hid (fun w => l13Neg_any n2 u2 (dec d2) w)
  have HAd := hid (fun w => l13Add_any n1 (!n2 && !decide (u2 = 0)) u1 d1 u2 d2 w h1 h2 h3 h4 ok1.1 ok2.1)
  have hEq : sumN n1 (u1 * d2) (!n2 && !decide (u2 = 0)) (u2 * d1) = sumN n1 (u1 * d2) (!n2) (u2 * d1) ∧ sumZ n1 (u1 * d2) (!n2 && !decide (u2 = 0)) (u2 * d1) = sumZ n1 (u1 * d2) (!n2) (u2 * d1) := by
    by_cases hz : u2 = 0
    · rw [hz, Nat.zero_mul]
      exact ⟨by rw [(sum_zero _ _ _).1, (sum_zero _ _ _).1], by rw [(sum_zero _ _ _).2, (sum_zero _ _ _).2]⟩
    · rw [decide_eq_false hz, Bool.not_false, Bool.and_true]; exact ⟨rfl, rfl⟩
  rw [hEq.1, hEq.2] at HAd
  obtain ⟨ma, mx, my, mc, hmf⟩ := ansQ_form (sumN n1 (u1 * d2) (!n2) (u2 * d1)) (sumZ n1 (u1 * d2) (!n2) (u2 * d1)) (d1 * d2)
  rw [hmf] at HAd ⊢
  clear hmf hEq h1 h2 h3 h4 ok1 ok2
  generalize (!n2 && !decide (u2 = 0)) = m2 at *
  generalize dec u1 = T1 at *
  generalize dec d1 = R1 at *
  generalize dec u2 = T2 at *
  generalize dec d2 = R2 at *
  have HB0 : Hid (Below (w.heap.size + 3) (((w.alloc (boxN n1 T1 R1)).alloc (boxN n2 T2 R2)).alloc box0) (((w.alloc (boxN n1 T1 R1)).alloc (boxN n2 T2 R2)).alloc box0)) := Below.refl _ _
  have HX : Hid (∀ W, Below (w.heap.size + 3) (((w.alloc (boxN n1 T1 R1)).alloc (boxN n2 T2 R2)).alloc box0) W → Own W w.heap.size 25 #[.bool n1, .string T1, .string R1] ∧ Own W (w.heap.size + 1) 25 #[.bool n2, .string T2, .string R2] ∧ Own W (w.heap.size + 1 + 1) 25 #[.bool false, .string ⟨#[]⟩, .string ⟨#[]⟩] ∧ Below w.heap.size w W) := fun W h => boxes3 w _ _ _ _ _ _ h
  have HSz : Hid (w.heap.size + 3 ≤ (((w.alloc (boxN n1 T1 R1)).alloc (boxN n2 T2 R2)).alloc box0).heap.size) := by show _ ≤ _; simp
  have HSt : Hid (∀ W, Below (w.heap.size + 3) (((w.alloc (boxN n1 T1 R1)).alloc (boxN n2 T2 R2)).alloc box0) W → ∀ x y z : Value, ((((W.setCell ⟨w.heap.size + 1 + 1, 0, none⟩ x).setCell ⟨w.heap.size + 1 + 1, 1, none⟩ y).setCell ⟨w.heap.size + 1 + 1, 2, none⟩ z).cell? ⟨w.heap.size, 0, none⟩ = some (.bool n1) ∧ (((W.setCell ⟨w.heap.size + 1 + 1, 0, none⟩ x).setCell ⟨w.heap.size + 1 + 1, 1, none⟩ y).setCell ⟨w.heap.size + 1 + 1, 2, none⟩ z).cell? ⟨w.heap.size, 1, none⟩ = some (.string T1) ∧ (((W.setCell ⟨w.heap.size + 1 + 1, 0, none⟩ x).setCell ⟨w.heap.size + 1 + 1, 1, none⟩ y).setCell ⟨w.heap.size + 1 + 1, 2, none⟩ z).cell? ⟨w.heap.size, 2, none⟩ = some (.string R1)) ∧ (((W.setCell ⟨w.heap.size + 1 + 1, 0, none⟩ x).setCell ⟨w.heap.size + 1 + 1, 1, none⟩ y).setCell ⟨w.heap.size + 1 + 1, 2, none⟩ z).cell? ⟨w.heap.size + 1, 0, none⟩ = some (.bool n2) ∧ (((W.setCell ⟨w.heap.size + 1 + 1, 0, none⟩ x).setCell ⟨w.heap.size + 1 + 1, 1, none⟩ y).setCell ⟨w.heap.size + 1 + 1, 2, none⟩ z).cell? ⟨w.heap.size + 1, 1, none⟩ = some (.string T2) ∧ (((W.setCell ⟨w.heap.size + 1 + 1, 0, none⟩ x).setCell ⟨w.heap.size + 1 + 1, 1, none⟩ y).setCell ⟨w.heap.size + 1 + 1, 2, none⟩ z).cell? ⟨w.heap.size + 1, 2, none⟩ = some (.string R2)) := fun W h x y z => by
    have h0 := HX.out W h
    exact ⟨(own3V (own_set3 h0.1 (by omega) x y z)).1, (own3V (own_set3 h0.2.1 (by omega) x y z)).1⟩
  go_enter Tryd.func7, Tryd.ntmps7
  go_wp2_with fail
  refine (HO1.out _).mono ?_
  rintro e wa ⟨rfl, hwa⟩
  have HBa := hid (HB0.out.trans (hwa.mono HSz.out))
  clear hwa
  obtain ⟨⟨y0, y1, y2⟩, -⟩ := own3V (HX.out _ HBa.out).2.1
  go_wp2_with fail
  refine (HO2.out _).mono ?_
  rintro e wb ⟨rfl, hwb⟩
  have HBb := hid (HBa.out.trans (hwb.mono (Nat.le_trans HSz.out HBa.out.size)))
  clear hwb y0 y1 y2
  go_wp2_with fail
  have HB := hid HBb.out.drew
  obtain ⟨⟨r0, r1, r2⟩, q0, q1, q2⟩ := own3V (HX.out _ HB.out).2.2.1
  go_region_held3 (fun W => (W.cell? ⟨w.heap.size, 0, none⟩ = some (.bool n1) ∧ W.cell? ⟨w.heap.size, 1, none⟩ = some (.string T1) ∧ W.cell? ⟨w.heap.size, 2, none⟩ = some (.string R1)) ∧ W.cell? ⟨w.heap.size + 1, 0, none⟩ = some (.bool n2) ∧ W.cell? ⟨w.heap.size + 1, 1, none⟩ = some (.string T2) ∧ W.cell? ⟨w.heap.size + 1, 2, none⟩ = some (.string R2))
    (first
      | exact ⟨(own3V (HX.out _ HB.out).1).1, (own3V (HX.out _ HB.out).2.1).1⟩
      | exact HSt.out _ HB.out _ _ _)
    (first
      | (go_at_call 17
         go_loud (
           refine (HN.out _).mono ?_
           rintro e w5 ⟨rfl, hw5⟩
           have HB := hid (HB.out.trans (hw5.mono (Nat.le_trans HSz.out HB.out.size)))
           clear hw5 r0 r1 r2 q0 q1 q2
           obtain ⟨⟨r0, r1, r2⟩, q0, q1, q2⟩ := own3V (HX.out _ HB.out).2.2.1))
      | (go_at_call 16
         go_loud (
           refine (HAd.out _).mono ?_
           rintro e w5 ⟨rfl, hw5⟩
           have HB := hid (HB.out.trans (hw5.mono (Nat.le_trans HSz.out HB.out.size)))
           clear hw5 r0 r1 r2 q0 q1 q2
           obtain ⟨⟨r0, r1, r2⟩, q0, q1, q2⟩ := own3V (HX.out _ HB.out).2.2.1)))
  all_goals
    go_wp2_with fail
    refine bodyPost_ret (v := .tuple #[.agg #[.bool ma, .string mx, .string my], .int .i64 mc]) (by simp [results, Tryd.results7, go_sem, r0, r1, r2]) rfl ⟨rfl, ?_⟩
    exact below_set3 (HX.out _ HB.out).2.2.2 (by omega) _ _ _

theorem numSub_both (n1 n2 : Bool) (T1 R1 T2 R2 : ByteArray) (h1 : T1.size ≤ maxLen) (h2 : R1.size ≤ maxLen) (h3 : T2.size ≤ maxLen) (h4 : R2.size ≤ maxLen) : ∃ (n : Bool) (x y : ByteArray) (c : Int),
    (∀ w, Calls Tryd.prog 7 #[.agg #[.bool n1, .string T1, .string R1], .agg #[.bool n2, .string T2, .string R2]] w fun e w' => e = .returned (.tuple #[.agg #[.bool n, .string x, .string y], .int .i64 c]) ∧ Below w.heap.size w w') ∧
    (∀ w, Pow9 w → Calls Tryd.prog 9 #[.agg #[.bool n1, .string T1, .string R1], .agg #[.bool n2, .string T2, .string R2]] w fun e w' => e = .returned (.tuple #[.agg #[.bool n, .string x, .string y], .int .i64 c]) ∧ Below w.heap.size w w') := by
  obtain ⟨b1, p1, U1, D1, o1, c1⟩ := openNum_all n1 T1 R1 h1 h2
  obtain ⟨b2, p2, U2, D2, o2, c2⟩ := openNum_all n2 T2 R2 h3 h4
  have g1 := o1.small
  have g2 := o2.small
  rcases both_parts o1 o2 with ⟨rfl, rfl, rfl, rfl, rfl, rfl, rfl, rfl, s1, s2, s3, s4, k1, k2⟩ | ⟨hb, hno⟩
  · obtain ⟨n, x, y, c, hf⟩ := ansQ_form (sumN n1 (U1 * D2) (!n2) (U2 * D1)) (sumZ n1 (U1 * D2) (!n2) (U2 * D1)) (D1 * D2)
    refine ⟨n, x, y, c, fun w => ?_, fun w hP => ?_⟩
    · have h := specNumSub_yes n1 n2 U1 D1 U2 D2 w s1 s2 s3 s4 k1 k2
      rw [hf] at h
      exact h
    · have h := implNumSub_of n1 n2 _ _ _ _ true true n1 n2 U1 D1 U2 D2 w c1 c2 g1.1 g1.2 g2.1 g2.2 (fun _ => ⟨Nat.pos_of_ne_zero k1.1, Nat.pos_of_ne_zero k2.1⟩) hP
      rw [if_pos (show (true && true) = true from rfl), hf] at h
      exact h
  · refine ⟨false, ⟨#[]⟩, ⟨#[]⟩, _, fun w => specNumSub_no n1 n2 T1 R1 T2 R2 w h1 h2 h3 h4 hno, fun w hP => ?_⟩
    have h := implNumSub_of n1 n2 _ _ _ _ b1 b2 p1 p2 U1 D1 U2 D2 w c1 c2 g1.1 g1.2 g2.1 g2.2 (fun h => by rw [hb] at h; cases h) hP
    rw [hb, if_neg (by decide)] at h
    exact h

end Go.Proofs.YtodpndmdmopghabDoor

namespace Go.Proofs.YtodpndmdmopghabDoor
open Go.RowKit Go.Siskin

set_option maxRecDepth 20000 in
set_option maxHeartbeats 4000000 in
theorem lawNumSub_of (n1 n2 : Bool) (T1 R1 T2 R2 : ByteArray) (w : World) (h1 : T1.size ≤ maxLen) (h2 : R1.size ≤ maxLen) (h3 : T2.size ≤ maxLen) (h4 : R2.size ≤ maxLen) (hP : Pow9 w) (n : Bool) (x y : ByteArray) (c : Int)
    (hS : ∀ w, Calls Tryd.prog 7 #[.agg #[.bool n1, .string T1, .string R1], .agg #[.bool n2, .string T2, .string R2]] w fun e w' => e = .returned (.tuple #[.agg #[.bool n, .string x, .string y], .int .i64 c]) ∧ Below w.heap.size w w')
    (hI : ∀ w, Pow9 w → Calls Tryd.prog 9 #[.agg #[.bool n1, .string T1, .string R1], .agg #[.bool n2, .string T2, .string R2]] w fun e w' => e = .returned (.tuple #[.agg #[.bool n, .string x, .string y], .int .i64 c]) ∧ Below w.heap.size w w') :
    Calls Tryd.prog 3 #[.agg #[.bool n1, .string T1, .string R1], .agg #[.bool n2, .string T2, .string R2]] w fun e w' => e = .returned (.bool true) ∧ Below w.heap.size w w' := by
  have HZ1 := hid (fun w => szNum_any n1 T1 R1 1048576 w (by decide) (by decide) h1 h2)
  obtain ⟨z1, hz1⟩ : ∃ z, szN T1.size R1.size 1048576 = z := ⟨_, rfl⟩
  have hz1l : z1 ≤ 1048576 := by rw [← hz1]; exact szN_le _ _ _ (by decide)
  rw [hz1] at HZ1
  have HZ2 : Hid (0 ≤ z1 → ∃ z2 : Int, ∀ w, Calls Tryd.prog 6 #[.agg #[.bool n2, .string T2, .string R2], .int .i64 z1] w fun e w' => e = .returned (.int .i64 z2) ∧ Below w.heap.size w w') := fun h0 => ⟨_, fun w => szNum_any n2 T2 R2 z1 w h0 hz1l h3 h4⟩
  have HT1 := hid (fun w => toNum_any n1 T1 R1 w)
  have HT2 := hid (fun w => toNum_any n2 T2 R2 w)
  have HS := hid hS
  have HI := hid hI
  have HPw := hid hP
  have HE := hid (eqNum_same n x y)
  have hcc : (c != c) = false := by simp
  clear h1 h2 h3 h4 hP hS hI hz1 hz1l
  obtain ⟨W0, HW0⟩ : ∃ W, Hid ((w.alloc (.cells #[.bool n1, .string T1, .string R1] 23)).alloc (.cells #[.bool n2, .string T2, .string R2] 23) = W) := ⟨_, rfl⟩
  have HX : Hid (∀ W, Below (w.heap.size + 2) W0 W → Own W w.heap.size 23 #[.bool n1, .string T1, .string R1] ∧ Own W (w.heap.size + 1) 23 #[.bool n2, .string T2, .string R2] ∧ Below w.heap.size w W) := fun W h => by
    rw [← HW0.out] at h
    exact boxes2 w _ _ _ _ h
  have HS0 : Hid (w.heap.size + 2 ≤ W0.heap.size) := by show _ ≤ _; rw [← HW0.out]; simp
  have HB0 : Hid (Below (w.heap.size + 2) W0 W0) := Below.refl _ _
  obtain ⟨⟨x0, x1, x2⟩, -⟩ := own3V (HX.out _ HB0.out).1
  go_enter Tryd.func3, Tryd.ntmps3
  go_wp2_with fail
  rw [HW0.out]
  go_wp2_with fail
  refine (HZ1.out _).mono ?_
  rintro e wa ⟨rfl, hwa⟩
  have HBa := hid (HB0.out.trans (hwa.mono HS0.out))
  clear hwa x0 x1 x2
  obtain ⟨⟨x0, x1, x2⟩, -⟩ := own3V (HX.out _ HBa.out).2.1
  by_cases hn1 : z1 < 0
  · go_wp2_with fail
    go_ret
    exact ⟨rfl, (HX.out _ HBa.out).2.2⟩
  obtain ⟨z2, hz2⟩ := HZ2.out (by omega)
  have HZ2b := hid hz2
  clear hz2
  go_wp2_with fail
  refine (HZ2b.out _).mono ?_
  rintro e wb ⟨rfl, hwb⟩
  have HBb := hid (HBa.out.trans (hwb.mono (Nat.le_trans HS0.out HBa.out.size)))
  clear hwb x0 x1 x2
  by_cases hn2 : z2 < 0
  · go_wp2_with fail
    go_ret
    exact ⟨rfl, (HX.out _ HBb.out).2.2⟩
  have HLb : Hid (∀ W, Below wb.heap.size wb W → (W.cell? ⟨w.heap.size, 0, none⟩ = some (.bool n1) ∧ W.cell? ⟨w.heap.size, 1, none⟩ = some (.string T1) ∧ W.cell? ⟨w.heap.size, 2, none⟩ = some (.string R1)) ∧ W.cell? ⟨w.heap.size + 1, 0, none⟩ = some (.bool n2) ∧ W.cell? ⟨w.heap.size + 1, 1, none⟩ = some (.string T2) ∧ W.cell? ⟨w.heap.size + 1, 2, none⟩ = some (.string R2)) := fun W h => by
    have h0 := HX.out W (HBb.out.trans (h.mono (Nat.le_trans HS0.out HBb.out.size)))
    exact ⟨(own3V h0.1).1, (own3V h0.2.1).1⟩
  go_wp2_with fail
  go_cut [6, 7] (fun f v wc => ∃ fb : Nat, f = .pointer (some ⟨fb, 0, none⟩) ∧ v = .int .i64 c ∧ Hid (Own wc fb 25 #[.bool n, .string x, .string y]) ∧ Hid (wb.heap.size ≤ fb) ∧ Hid (Below wb.heap.size wb wc))
  case first =>
    have HB : Hid (Below wb.heap.size wb wb.drew) := (Below.refl _ _).drew
    go_region_held3 (fun W => (W.cell? ⟨w.heap.size, 0, none⟩ = some (.bool n1) ∧ W.cell? ⟨w.heap.size, 1, none⟩ = some (.string T1) ∧ W.cell? ⟨w.heap.size, 2, none⟩ = some (.string R1)) ∧ W.cell? ⟨w.heap.size + 1, 0, none⟩ = some (.bool n2) ∧ W.cell? ⟨w.heap.size + 1, 1, none⟩ = some (.string T2) ∧ W.cell? ⟨w.heap.size + 1, 2, none⟩ = some (.string R2))
      (first
        | exact HLb.out _ HB.out
        | exact HLb.out _ (HB.out.alloc HB.out.size _)
        | exact HLb.out _ (((Below.refl _ _).alloc (Nat.le_refl _) _).drew)
        | exact HLb.out _ (below_set3 HB.out (by first | assumption | omega) _ _ _))
      (first
        | (go_at_call_of 8 (Value.string T1)
           go_loud (
             refine (HT1.out _).mono ?_
             rintro e w3 ⟨rfl, hw3⟩
             have yy := HB.out.size
             have hz3 := hw3.size
             try simp only [World.size_alloc] at hz3
             first
               | (have OB2 := OB.out.keep hw3 OB.out.lt
                  clear c0 c1 c2 p0 p1 p2
                  obtain ⟨⟨c0, c1, c2⟩, p0, p1, p2⟩ := own3V OB2
                  have OB := hid OB2
                  clear OB2)
               | (have OB2 := (own_new _ #[.bool false, .string ⟨#[]⟩, .string ⟨#[]⟩] 25).keep hw3 (by simp)
                  obtain ⟨⟨c0, c1, c2⟩, p0, p1, p2⟩ := own3V OB2
                  have OB := hid OB2
                  clear OB2)
               | (have OB2 := Own.keep (w := (World.alloc wb (.cells #[.bool false, .string ⟨#[]⟩, .string ⟨#[]⟩] 25)).drew) (own_new wb #[.bool false, .string ⟨#[]⟩, .string ⟨#[]⟩] 25) hw3 (by simp)
                  obtain ⟨⟨c0, c1, c2⟩, p0, p1, p2⟩ := own3V OB2
                  have OB := hid OB2
                  clear OB2)
               | skip
             have HB := hid (show Below wb.heap.size wb w3 by first | exact HB.out.trans (hw3.mono HB.out.size) | exact (((Below.refl wb.heap.size wb).alloc (Nat.le_refl _) _).drew).trans (hw3.mono (by simp)) | exact (HB.out.alloc HB.out.size _).trans (hw3.mono (by rw [World.size_alloc]; exact Nat.le_trans HB.out.size (Nat.le_succ _))))
             clear hw3))
        | (go_at_call_of 8 (Value.string T2)
           go_loud (
             refine (HT2.out _).mono ?_
             rintro e w3 ⟨rfl, hw3⟩
             have yy := HB.out.size
             have hz3 := hw3.size
             try simp only [World.size_alloc] at hz3
             first
               | (have OB2 := OB.out.keep hw3 OB.out.lt
                  clear c0 c1 c2 p0 p1 p2
                  obtain ⟨⟨c0, c1, c2⟩, p0, p1, p2⟩ := own3V OB2
                  have OB := hid OB2
                  clear OB2)
               | (have OB2 := (own_new _ #[.bool false, .string ⟨#[]⟩, .string ⟨#[]⟩] 25).keep hw3 (by simp)
                  obtain ⟨⟨c0, c1, c2⟩, p0, p1, p2⟩ := own3V OB2
                  have OB := hid OB2
                  clear OB2)
               | (have OB2 := Own.keep (w := (World.alloc wb (.cells #[.bool false, .string ⟨#[]⟩, .string ⟨#[]⟩] 25)).drew) (own_new wb #[.bool false, .string ⟨#[]⟩, .string ⟨#[]⟩] 25) hw3 (by simp)
                  obtain ⟨⟨c0, c1, c2⟩, p0, p1, p2⟩ := own3V OB2
                  have OB := hid OB2
                  clear OB2)
               | skip
             have HB := hid (show Below wb.heap.size wb w3 by first | exact HB.out.trans (hw3.mono HB.out.size) | exact (((Below.refl wb.heap.size wb).alloc (Nat.le_refl _) _).drew).trans (hw3.mono (by simp)) | exact (HB.out.alloc HB.out.size _).trans (hw3.mono (by rw [World.size_alloc]; exact Nat.le_trans HB.out.size (Nat.le_succ _))))
             clear hw3))
        | (go_at_call 7
           go_loud (
             refine (HS.out _).mono ?_
             rintro e w3 ⟨rfl, hw3⟩
             have yy := HB.out.size
             have hz3 := hw3.size
             try simp only [World.size_alloc] at hz3
             first
               | (have OB2 := OB.out.keep hw3 OB.out.lt
                  clear c0 c1 c2 p0 p1 p2
                  obtain ⟨⟨c0, c1, c2⟩, p0, p1, p2⟩ := own3V OB2
                  have OB := hid OB2
                  clear OB2)
               | (have OB2 := (own_new _ #[.bool false, .string ⟨#[]⟩, .string ⟨#[]⟩] 25).keep hw3 (by simp)
                  obtain ⟨⟨c0, c1, c2⟩, p0, p1, p2⟩ := own3V OB2
                  have OB := hid OB2
                  clear OB2)
               | (have OB2 := Own.keep (w := (World.alloc wb (.cells #[.bool false, .string ⟨#[]⟩, .string ⟨#[]⟩] 25)).drew) (own_new wb #[.bool false, .string ⟨#[]⟩, .string ⟨#[]⟩] 25) hw3 (by simp)
                  obtain ⟨⟨c0, c1, c2⟩, p0, p1, p2⟩ := own3V OB2
                  have OB := hid OB2
                  clear OB2)
               | skip
             have HB := hid (show Below wb.heap.size wb w3 by first | exact HB.out.trans (hw3.mono HB.out.size) | exact (((Below.refl wb.heap.size wb).alloc (Nat.le_refl _) _).drew).trans (hw3.mono (by simp)) | exact (HB.out.alloc HB.out.size _).trans (hw3.mono (by rw [World.size_alloc]; exact Nat.le_trans HB.out.size (Nat.le_succ _))))
             clear hw3)))
    all_goals go_wp2_with fail
    all_goals go_meet
    all_goals first
      | exact ⟨_, rfl, rfl, own_new _ _ _, HB.out.size, HB.out.alloc HB.out.size _⟩
      | exact ⟨_, rfl, rfl, ((OB.out.set 0 _).set 1 _).set 2 _, by first | assumption | omega, below_set3 HB.out (by first | assumption | omega) _ _ _⟩
  case rest =>
    obtain ⟨f1, rfl, rfl, HO1, HF1, HBc⟩ := hcut
    rename World => wA
    have HLc : Hid (∀ W, Below wA.heap.size wA W → (W.cell? ⟨w.heap.size, 0, none⟩ = some (.bool n1) ∧ W.cell? ⟨w.heap.size, 1, none⟩ = some (.string T1) ∧ W.cell? ⟨w.heap.size, 2, none⟩ = some (.string R1)) ∧ W.cell? ⟨w.heap.size + 1, 0, none⟩ = some (.bool n2) ∧ W.cell? ⟨w.heap.size + 1, 1, none⟩ = some (.string T2) ∧ W.cell? ⟨w.heap.size + 1, 2, none⟩ = some (.string R2)) := fun W h => HLb.out W (HBc.out.trans (h.mono HBc.out.size))
    have HPc : Hid (∀ W, Below wA.heap.size wA W → Pow9 W) := fun W h => HPw.out.below (HX.out W ((HBb.out.trans (HBc.out.mono (Nat.le_trans HS0.out HBb.out.size))).trans (h.mono (Nat.le_trans HS0.out (Nat.le_trans HBb.out.size HBc.out.size))))).2.2 (Nat.le_refl _)
    go_wp2_with fail
    go_cut [8, 9] (fun f v wc => ∃ fb : Nat, f = .pointer (some ⟨fb, 0, none⟩) ∧ v = .int .i64 c ∧ Hid (Own wc fb 25 #[.bool n, .string x, .string y]) ∧ Hid (wA.heap.size ≤ fb) ∧ Hid (Below wA.heap.size wA wc))
    case first =>
      have HB : Hid (Below wA.heap.size wA wA.drew) := (Below.refl _ _).drew
      go_region_held3 (fun W => (W.cell? ⟨w.heap.size, 0, none⟩ = some (.bool n1) ∧ W.cell? ⟨w.heap.size, 1, none⟩ = some (.string T1) ∧ W.cell? ⟨w.heap.size, 2, none⟩ = some (.string R1)) ∧ W.cell? ⟨w.heap.size + 1, 0, none⟩ = some (.bool n2) ∧ W.cell? ⟨w.heap.size + 1, 1, none⟩ = some (.string T2) ∧ W.cell? ⟨w.heap.size + 1, 2, none⟩ = some (.string R2))
        (first
          | exact HLc.out _ HB.out
          | exact HLc.out _ (HB.out.alloc HB.out.size _)
          | exact HLc.out _ (((Below.refl _ _).alloc (Nat.le_refl _) _).drew)
          | exact HLc.out _ (below_set3 HB.out (by first | assumption | omega) _ _ _))
        (first
          | (go_at_call_of 8 (Value.string T1)
             go_loud (
               refine (HT1.out _).mono ?_
               rintro e w3 ⟨rfl, hw3⟩
               have yy := HB.out.size
               have hz3 := hw3.size
               try simp only [World.size_alloc] at hz3
               first
                 | (have OB2 := OB.out.keep hw3 OB.out.lt
                    clear c0 c1 c2 p0 p1 p2
                    obtain ⟨⟨c0, c1, c2⟩, p0, p1, p2⟩ := own3V OB2
                    have OB := hid OB2
                    clear OB2)
                 | (have OB2 := (own_new _ #[.bool false, .string ⟨#[]⟩, .string ⟨#[]⟩] 25).keep hw3 (by simp)
                    obtain ⟨⟨c0, c1, c2⟩, p0, p1, p2⟩ := own3V OB2
                    have OB := hid OB2
                    clear OB2)
                 | (have OB2 := Own.keep (w := (World.alloc wA (.cells #[.bool false, .string ⟨#[]⟩, .string ⟨#[]⟩] 25)).drew) (own_new wA #[.bool false, .string ⟨#[]⟩, .string ⟨#[]⟩] 25) hw3 (by simp)
                    obtain ⟨⟨c0, c1, c2⟩, p0, p1, p2⟩ := own3V OB2
                    have OB := hid OB2
                    clear OB2)
                 | skip
               have HB := hid (show Below wA.heap.size wA w3 by first | exact HB.out.trans (hw3.mono HB.out.size) | exact (((Below.refl wA.heap.size wA).alloc (Nat.le_refl _) _).drew).trans (hw3.mono (by simp)) | exact (HB.out.alloc HB.out.size _).trans (hw3.mono (by rw [World.size_alloc]; exact Nat.le_trans HB.out.size (Nat.le_succ _))))
               clear hw3))
          | (go_at_call_of 8 (Value.string T2)
             go_loud (
               refine (HT2.out _).mono ?_
               rintro e w3 ⟨rfl, hw3⟩
               have yy := HB.out.size
               have hz3 := hw3.size
               try simp only [World.size_alloc] at hz3
               first
                 | (have OB2 := OB.out.keep hw3 OB.out.lt
                    clear c0 c1 c2 p0 p1 p2
                    obtain ⟨⟨c0, c1, c2⟩, p0, p1, p2⟩ := own3V OB2
                    have OB := hid OB2
                    clear OB2)
                 | (have OB2 := (own_new _ #[.bool false, .string ⟨#[]⟩, .string ⟨#[]⟩] 25).keep hw3 (by simp)
                    obtain ⟨⟨c0, c1, c2⟩, p0, p1, p2⟩ := own3V OB2
                    have OB := hid OB2
                    clear OB2)
                 | (have OB2 := Own.keep (w := (World.alloc wA (.cells #[.bool false, .string ⟨#[]⟩, .string ⟨#[]⟩] 25)).drew) (own_new wA #[.bool false, .string ⟨#[]⟩, .string ⟨#[]⟩] 25) hw3 (by simp)
                    obtain ⟨⟨c0, c1, c2⟩, p0, p1, p2⟩ := own3V OB2
                    have OB := hid OB2
                    clear OB2)
                 | skip
               have HB := hid (show Below wA.heap.size wA w3 by first | exact HB.out.trans (hw3.mono HB.out.size) | exact (((Below.refl wA.heap.size wA).alloc (Nat.le_refl _) _).drew).trans (hw3.mono (by simp)) | exact (HB.out.alloc HB.out.size _).trans (hw3.mono (by rw [World.size_alloc]; exact Nat.le_trans HB.out.size (Nat.le_succ _))))
               clear hw3))
          | (go_at_call 9
             go_loud (
               refine (HI.out _ (by first | exact HPc.out _ HB.out | exact HPc.out _ (HB.out.alloc HB.out.size _) | exact HPc.out _ (((Below.refl _ _).alloc (Nat.le_refl _) _).drew))).mono ?_
               rintro e w3 ⟨rfl, hw3⟩
               have yy := HB.out.size
               have hz3 := hw3.size
               try simp only [World.size_alloc] at hz3
               first
                 | (have OB2 := OB.out.keep hw3 OB.out.lt
                    clear c0 c1 c2 p0 p1 p2
                    obtain ⟨⟨c0, c1, c2⟩, p0, p1, p2⟩ := own3V OB2
                    have OB := hid OB2
                    clear OB2)
                 | (have OB2 := (own_new _ #[.bool false, .string ⟨#[]⟩, .string ⟨#[]⟩] 25).keep hw3 (by simp)
                    obtain ⟨⟨c0, c1, c2⟩, p0, p1, p2⟩ := own3V OB2
                    have OB := hid OB2
                    clear OB2)
                 | (have OB2 := Own.keep (w := (World.alloc wA (.cells #[.bool false, .string ⟨#[]⟩, .string ⟨#[]⟩] 25)).drew) (own_new wA #[.bool false, .string ⟨#[]⟩, .string ⟨#[]⟩] 25) hw3 (by simp)
                    obtain ⟨⟨c0, c1, c2⟩, p0, p1, p2⟩ := own3V OB2
                    have OB := hid OB2
                    clear OB2)
                 | skip
               have HB := hid (show Below wA.heap.size wA w3 by first | exact HB.out.trans (hw3.mono HB.out.size) | exact (((Below.refl wA.heap.size wA).alloc (Nat.le_refl _) _).drew).trans (hw3.mono (by simp)) | exact (HB.out.alloc HB.out.size _).trans (hw3.mono (by rw [World.size_alloc]; exact Nat.le_trans HB.out.size (Nat.le_succ _))))
               clear hw3)))
      all_goals go_wp2_with fail
      all_goals go_meet
      all_goals first
        | exact ⟨_, rfl, rfl, own_new _ _ _, HB.out.size, HB.out.alloc HB.out.size _⟩
        | exact ⟨_, rfl, rfl, ((OB.out.set 0 _).set 1 _).set 2 _, by first | assumption | omega, below_set3 HB.out (by first | assumption | omega) _ _ _⟩
    case rest =>
      obtain ⟨f2, rfl, rfl, HO2, HF2, HBd⟩ := hcut
      have o1 := HO1.out.keep HBd.out HO1.out.lt
      obtain ⟨⟨x0, x1, x2⟩, -⟩ := own3V o1
      obtain ⟨⟨y0, y1, y2⟩, -⟩ := own3V HO2.out
      have HBe := hid (HX.out wc ((HBb.out.trans (HBc.out.mono (Nat.le_trans HS0.out HBb.out.size))).trans (HBd.out.mono (Nat.le_trans HS0.out (Nat.le_trans HBb.out.size HBc.out.size))))).2.2
      clear o1
      go_wp2_with fail
      refine (HE.out _).mono ?_
      rintro e w9 ⟨rfl, hw9⟩
      have HB9 := hid (HBe.out.trans (hw9.mono HBe.out.size))
      clear hw9 x0 x1 x2 y0 y1 y2
      go_wp2_with fail
      go_ret
      exact ⟨rfl, HB9.out⟩

theorem lawNumSub_any (n1 n2 : Bool) (T1 R1 T2 R2 : ByteArray) (w : World) (h1 : T1.size ≤ maxLen) (h2 : R1.size ≤ maxLen) (h3 : T2.size ≤ maxLen) (h4 : R2.size ≤ maxLen) (hP : Pow9 w) :
    Calls Tryd.prog 3 #[.agg #[.bool n1, .string T1, .string R1], .agg #[.bool n2, .string T2, .string R2]] w fun e w' => e = .returned (.bool true) ∧ Below w.heap.size w w' := by
  obtain ⟨n, x, y, c, hS, hI⟩ := numSub_both n1 n2 T1 R1 T2 R2 h1 h2 h3 h4
  exact lawNumSub_of n1 n2 T1 R1 T2 R2 w h1 h2 h3 h4 hP n x y c hS hI
end Go.Proofs.YtodpndmdmopghabDoor

namespace Go.Proofs.YtodpndmdmopghabDoor
open Go.ChangeShapes Go.WideShapes Go.ChangeAt Go.RowKit Go.Siskin

theorem ownZ : ownKnob Tryd.prog.godebug = none := by kernel_rfl
theorem laidOutZ : laidOutB Tryd.prog = true := by kernel_rfl

/-- What is listed. -/
abbrev laidZ : List (String × DataW Unit) := [("loop.example/siskin/impl.powersOfTen", Rows.laid_loop_example_siskin_impl_powersOfTen)]
def tabZ : List Int := [1, 10, 100, 1000, 10000, 100000, 1000000, 10000000, 100000000]

theorem door_metZ (os : Os) (args : Array Value) : laidMetH Tryd.prog laidZ ((World.doorLaid Tryd.prog 400 os).forCall (fun _ _ => 0) ⟨#[], args, []⟩).memory :=
  laidMetH_of_parts3 (fuel := 8) (laidMet_of_run' 8 (by kernel_rfl) (by kernel_rfl)) (by kernel_rfl) (by kernel_rfl)

theorem tab_dataZ : (Rows.laid_loop_example_siskin_impl_powersOfTen : DataW Unit) = Lib.tabData .u64 tabZ := by kernel_rfl
theorem tab_ofZ {W : World} (h : laidMetH Tryd.prog laidZ W) : Pow9 W := by
  rw [MakeChecks.laidMetH_plain _ _ _ (by kernel_rfl)] at h
  rw [laidZ, tab_dataZ] at h
  have hT : Lib.TabIs Tryd.prog W "loop.example/siskin/impl.powersOfTen" .u64 tabZ :=
    Lib.tabIs_of_head (g := 0) (t := 73) (e := 72) (n := 9) (by kernel_rfl) (by kernel_rfl) (by kernel_rfl) (by kernel_rfl) (by kernel_rfl) (by kernel_rfl) h
  have hc : ∀ i, i < 9 → W.cell? ⟨0, i, none⟩ = some (.int .u64 ((10 ^ i : Nat) : Int)) := by
    intro i hi
    rw [hT.cell (g := 0) (by kernel_rfl) i (by simpa [tabZ] using hi)]
    have hcase : i = 0 ∨ i = 1 ∨ i = 2 ∨ i = 3 ∨ i = 4 ∨ i = 5 ∨ i = 6 ∨ i = 7 ∨ i = 8 := by omega
    rcases hcase with rfl | rfl | rfl | rfl | rfl | rfl | rfl | rfl | rfl <;> rfl
  refine ⟨?_, hc⟩
  have h0 := hc 0 (by omega)
  unfold World.cell? at h0
  cases e : W.heap[0]? with
  | none => rw [e] at h0; simp at h0
  | some o => exact (Array.getElem?_eq_some_iff.1 e).1

theorem var_belowZ {P : Program} {B g : Nat} {W W' : World} {n : String} {cs : Array Value} (h : Below B W W') (hg : P.globalNamed n = some g) (hgB : g < B) (hv : W.var? P n = some cs) : W'.var? P n = some cs := by
  unfold World.var? at hv ⊢
  simp only [hg, Option.bind_some] at hv ⊢
  rw [h.block g hgB]
  exact hv

/-- The listed variable reads behind the call as it did. -/
theorem vars_keptZ {H : Type} {enc : TypeId × Value → H} {W W' : World} {gs : List (DataW H)} {q : List MemPlace} (hV : DataW.TrodVars enc Tryd.prog W (fun _ => true) ["loop.example/siskin/impl.powersOfTen"] gs q) (hb : Below W.heap.size W W') (hP : Pow9 W) :
    ∃ pv, DataW.TrodVars enc Tryd.prog W' (fun b => decide (b < W.heap.size)) ["loop.example/siskin/impl.powersOfTen"] gs pv := by
  obtain ⟨g, t, cs, fuel, d, p, rfl, hg, ht, hvar, hd, rfl⟩ := trodVars_one hV
  have hg0 : Tryd.prog.globalNamed "loop.example/siskin/impl.powersOfTen" = some 0 := by kernel_rfl
  obtain rfl := Option.some.inj (hg0.symm.trans hg)
  have ht0 : (Tryd.prog.globals[0]?).map (·.type) = some 73 := by kernel_rfl
  obtain rfl := Option.some.inj (ht0.symm.trans ht)
  have lt0 : ∀ x ∈ p, x.block < W.heap.size := DataW.trod_lt fuel _ _ _ hd
  obtain ⟨f2, hd2⟩ := Below.trod laidOutZ (by kernel_rfl) (of_decide_eq_true (by kernel_rfl)) (v := .agg cs) (⟨fuel, by simpa [Value.cells] using hd⟩ : DataW.Trod enc Tryd.prog W 0 (fun _ => true) true 73 (.agg cs) d p) hb lt0
  exact ⟨_, trodVars_mk1 (enc := enc) (spare := fun b => decide (b < W.heap.size)) hg ht (var_belowZ hb hg hP.1 hvar) (by simpa [Value.cells] using hd2)⟩
end Go.Proofs.YtodpndmdmopghabDoor
