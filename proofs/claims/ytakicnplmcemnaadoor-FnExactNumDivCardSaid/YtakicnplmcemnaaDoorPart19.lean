/-
  The model's l13Answer, NumMul, NumDiv; where the model's functions of two numbers say 1. Condition: none. Made by wip/tools/genus.py.
  The laws FnExactNumMul, NumDiv and the others of two numbers. Condition: the table of powers stands. Made by wip/tools/genup.py.
-/
import Derived.Test.YtakicnplmcemnaaDoorUO
import Derived.Test.YtakicnplmcemnaaDoorPart18
import Derived.Test.YtakicnplmcemnaaDoorPart13
namespace Go.Proofs.YtakicnplmcemnaaDoor
open Go.RowKit Go.Siskin

set_option maxRecDepth 20000 in
set_option maxHeartbeats 1000000 in
theorem l13Answer_any (neg : Bool) (u d : Nat) (w : World) (hu : Lib.nDigits u ≤ 1000) (hd : Lib.nDigits d ≤ 1000) (hd0 : d ≠ 0) :
    Calls Tryd.prog 67 #[.bool neg, .string (dec u), .string (dec d)] w fun e w' => e = .returned (ansQ neg u d) ∧ Below w.heap.size w w' := by
  have HMk := hid (fun w => l12Make_any neg u d w hu hd)
  have hm : makeV neg u d = closedV neg (u / Nat.gcd u d) (d / Nat.gcd u d) := if_neg hd0
  rw [hm] at HMk
  have HB0 : Hid (Below (w.heap.size + 1) (w.alloc box0) (w.alloc box0)) := Below.refl _ _
  rcases ansQ_parts neg u d with ⟨ma, mx, my, h1, h2⟩ | ⟨h1, h2⟩
  all_goals
    rw [h1] at HMk
    rw [h2]
    clear h1 h2 hm hu hd hd0
    generalize dec u = T at *
    generalize dec d = R at *
    go_enter Tryd.func67, Tryd.ntmps67
    go_wp2_with fail
    refine (HMk.out _).mono ?_
    rintro e w1 ⟨rfl, hw1⟩
    have HB1 := hid (res_step HB0.out hw1)
    have hs1 : w.heap.size + 1 ≤ w1.heap.size := by have := hw1.size; simpa using this
    have hlt : w.heap.size < w1.heap.size := by omega
    clear hw1
    obtain ⟨r0, r1, r2⟩ := res3 HB1.out
    obtain ⟨f0, f1, f2⟩ := res3f HB1.out
    go_wp2_with fail
    first
      | (refine bodyPost_ret (v := .tuple #[.agg #[.bool ma, .string mx, .string my], .int .i64 0]) (by simp [results, Tryd.results67, go_sem, r0, r1, r2, hlt]) rfl ⟨rfl, ?_⟩
         exact (below_set3 (res_done HB1.out) (Nat.le_refl _) _ _ _).alloc (by rw [size_set3]; omega) _)
      | (refine bodyPost_ret (v := noAns 3) (by simp [results, Tryd.results67, go_sem, r0, r1, r2, hlt]) rfl ⟨rfl, ?_⟩
         exact (below_set3 (res_done HB1.out) (Nat.le_refl _) _ _ _).alloc (by rw [size_set3]; omega) _)
theorem nDigits_mul {a b m k : Nat} (ha : Lib.nDigits a ≤ m) (hb : Lib.nDigits b ≤ k) (hm : 0 < m) : Lib.nDigits (a * b) ≤ m + k := by
  refine nDigits_le ?_ (by omega)
  rw [Nat.pow_add]
  exact Nat.mul_lt_mul'' (Nat.lt_of_lt_of_le (Lib.lt_pow_nDigits a) (Nat.pow_le_pow_right (by decide) ha)) (Nat.lt_of_lt_of_le (Lib.lt_pow_nDigits b) (Nat.pow_le_pow_right (by decide) hb))

set_option maxRecDepth 20000 in
set_option maxHeartbeats 1000000 in
theorem specNumMul_no (n1 n2 : Bool) (T1 R1 T2 R2 : ByteArray) (w : World) (h1 : T1.size ≤ maxLen) (h2 : R1.size ≤ maxLen) (h3 : T2.size ≤ maxLen) (h4 : R2.size ≤ maxLen) (hno : ¬ (NumP n1 T1 R1 ∧ NumP n2 T2 R2)) :
    Calls Tryd.prog 29 #[.agg #[.bool n1, .string T1, .string R1], .agg #[.bool n2, .string T2, .string R2]] w fun e w' => e = .returned (noAns 1) ∧ Below w.heap.size w w' := by
  have HB0 : Hid (Below (w.heap.size + 3) (((w.alloc (boxN n1 T1 R1)).alloc (boxN n2 T2 R2)).alloc box0) (((w.alloc (boxN n1 T1 R1)).alloc (boxN n2 T2 R2)).alloc box0)) := Below.refl _ _
  have HX : Hid (∀ W, Below (w.heap.size + 3) (((w.alloc (boxN n1 T1 R1)).alloc (boxN n2 T2 R2)).alloc box0) W → Own W (w.heap.size + 1) 26 #[.bool n2, .string T2, .string R2] ∧ Own W (w.heap.size + 1 + 1) 26 #[.bool false, .string ⟨#[]⟩, .string ⟨#[]⟩] ∧ Below w.heap.size w W) := fun W h => (boxes3 w _ _ _ _ _ _ h).2
  by_cases hp : NumP n1 T1 R1
  · have HO1 := hid (fun w => specNumOk_any n1 T1 R1 w h1 h2 true ⟨fun _ => hp, fun _ => rfl⟩)
    have HO2 := hid (fun w => specNumOk_any n2 T2 R2 w h3 h4 false ⟨fun h => (by cases h), fun h => absurd ⟨hp, h⟩ hno⟩)
    clear h1 h2 h3 h4 hno hp
    go_enter Tryd.func29, Tryd.ntmps29
    go_wp2_with fail
    refine (HO1.out _).mono ?_
    rintro e wa ⟨rfl, hwa⟩
    have HBa := hid (HB0.out.trans (hwa.mono (by simp)))
    clear hwa
    obtain ⟨⟨y0, y1, y2⟩, -⟩ := own3V (HX.out _ HBa.out).1
    go_wp2_with fail
    refine (HO2.out _).mono ?_
    rintro e wb ⟨rfl, hwb⟩
    have HBb := hid (HBa.out.trans (hwb.mono (by have := HBa.out.size; simp at this; omega)))
    clear hwb y0 y1 y2
    obtain ⟨⟨r0, r1, r2⟩, q0, q1, q2⟩ := own3V (HX.out _ HBb.out).2.1
    go_wp2_with fail
    refine bodyPost_ret (v := noAns 1) (by simp [results, Tryd.results29, go_sem, r0, r1, r2]) rfl ⟨rfl, ?_⟩
    exact below_set3 (HX.out _ HBb.out).2.2 (by omega) _ _ _
  · have HO1 := hid (fun w => specNumOk_any n1 T1 R1 w h1 h2 false ⟨fun h => (by cases h), fun h => absurd h hp⟩)
    clear h1 h2 h3 h4 hno hp
    go_enter Tryd.func29, Tryd.ntmps29
    go_wp2_with fail
    refine (HO1.out _).mono ?_
    rintro e wb ⟨rfl, hwb⟩
    have HBb := hid (HB0.out.trans (hwb.mono (by simp)))
    clear hwb
    obtain ⟨⟨r0, r1, r2⟩, q0, q1, q2⟩ := own3V (HX.out _ HBb.out).2.1
    go_wp2_with fail
    refine bodyPost_ret (v := noAns 1) (by simp [results, Tryd.results29, go_sem, r0, r1, r2]) rfl ⟨rfl, ?_⟩
    exact below_set3 (HX.out _ HBb.out).2.2 (by omega) _ _ _

set_option maxRecDepth 20000 in
set_option maxHeartbeats 4000000 in
theorem specNumMul_yes (n1 n2 : Bool) (u1 d1 u2 d2 : Nat) (w : World) (h1 : (dec u1).size ≤ 60) (h2 : (dec d1).size ≤ 60) (h3 : (dec u2).size ≤ 60) (h4 : (dec d2).size ≤ 60) (ok1 : OkUD n1 u1 d1) (ok2 : OkUD n2 u2 d2) :
    Calls Tryd.prog 29 #[.agg #[.bool n1, .string (dec u1), .string (dec d1)], .agg #[.bool n2, .string (dec u2), .string (dec d2)]] w fun e w' => e = .returned (ansQ (n1 != n2) (u1 * u2) (d1 * d2)) ∧ Below w.heap.size w w' := by
  have HO1 := hid (fun w => specNumOk_any n1 (dec u1) (dec d1) w (Nat.le_trans h1 (by decide)) (Nat.le_trans h2 (by decide)) true ⟨fun _ => ⟨u1, d1, rfl, rfl, h1, h2, ok1⟩, fun _ => rfl⟩)
  have HO2 := hid (fun w => specNumOk_any n2 (dec u2) (dec d2) w (Nat.le_trans h3 (by decide)) (Nat.le_trans h4 (by decide)) true ⟨fun _ => ⟨u2, d2, rfl, rfl, h3, h4, ok2⟩, fun _ => rfl⟩)
  rw [dec_size] at h1 h2 h3 h4
  have HM1 := hid (fun w => l11Mul_any u1 u2 w (by omega) (by omega))
  have HM2 := hid (fun w => l11Mul_any d1 d2 w (by omega) (by omega))
  have HA := hid (fun w => l13Answer_any (n1 != n2) (u1 * u2) (d1 * d2) w (Nat.le_trans (nDigits_mul (m := 60) (k := 60) (by omega) (by omega) (by decide)) (by decide)) (Nat.le_trans (nDigits_mul (m := 60) (k := 60) (by omega) (by omega) (by decide)) (by decide)) (Nat.mul_ne_zero ok1.1 ok2.1))
  obtain ⟨ma, mx, my, mc, hmf⟩ := ansQ_form (n1 != n2) (u1 * u2) (d1 * d2)
  rw [hmf] at HA ⊢
  clear hmf h1 h2 h3 h4 ok1 ok2
  obtain ⟨s, hs⟩ : ∃ s, (n1 != n2) = s := ⟨_, rfl⟩
  have hs2 : (!n1 == n2) = s := hs
  rw [hs] at HA
  clear hs
  generalize dec (u1 * u2) = PX at *
  generalize dec (d1 * d2) = PY at *
  generalize dec u1 = T1 at *
  generalize dec d1 = R1 at *
  generalize dec u2 = T2 at *
  generalize dec d2 = R2 at *
  have HB0 : Hid (Below (w.heap.size + 3) (((w.alloc (boxN n1 T1 R1)).alloc (boxN n2 T2 R2)).alloc box0) (((w.alloc (boxN n1 T1 R1)).alloc (boxN n2 T2 R2)).alloc box0)) := Below.refl _ _
  have HX : Hid (∀ W, Below (w.heap.size + 3) (((w.alloc (boxN n1 T1 R1)).alloc (boxN n2 T2 R2)).alloc box0) W → Own W w.heap.size 26 #[.bool n1, .string T1, .string R1] ∧ Own W (w.heap.size + 1) 26 #[.bool n2, .string T2, .string R2] ∧ Own W (w.heap.size + 1 + 1) 26 #[.bool false, .string ⟨#[]⟩, .string ⟨#[]⟩] ∧ Below w.heap.size w W) := fun W h => boxes3 w _ _ _ _ _ _ h
  have HSz : Hid (w.heap.size + 3 ≤ (((w.alloc (boxN n1 T1 R1)).alloc (boxN n2 T2 R2)).alloc box0).heap.size) := by show _ ≤ _; simp
  have HSt : Hid (∀ W, Below (w.heap.size + 3) (((w.alloc (boxN n1 T1 R1)).alloc (boxN n2 T2 R2)).alloc box0) W → ∀ x y z : Value, ((((W.setCell ⟨w.heap.size + 1 + 1, 0, none⟩ x).setCell ⟨w.heap.size + 1 + 1, 1, none⟩ y).setCell ⟨w.heap.size + 1 + 1, 2, none⟩ z).cell? ⟨w.heap.size, 0, none⟩ = some (.bool n1) ∧ (((W.setCell ⟨w.heap.size + 1 + 1, 0, none⟩ x).setCell ⟨w.heap.size + 1 + 1, 1, none⟩ y).setCell ⟨w.heap.size + 1 + 1, 2, none⟩ z).cell? ⟨w.heap.size, 1, none⟩ = some (.string T1) ∧ (((W.setCell ⟨w.heap.size + 1 + 1, 0, none⟩ x).setCell ⟨w.heap.size + 1 + 1, 1, none⟩ y).setCell ⟨w.heap.size + 1 + 1, 2, none⟩ z).cell? ⟨w.heap.size, 2, none⟩ = some (.string R1)) ∧ (((W.setCell ⟨w.heap.size + 1 + 1, 0, none⟩ x).setCell ⟨w.heap.size + 1 + 1, 1, none⟩ y).setCell ⟨w.heap.size + 1 + 1, 2, none⟩ z).cell? ⟨w.heap.size + 1, 0, none⟩ = some (.bool n2) ∧ (((W.setCell ⟨w.heap.size + 1 + 1, 0, none⟩ x).setCell ⟨w.heap.size + 1 + 1, 1, none⟩ y).setCell ⟨w.heap.size + 1 + 1, 2, none⟩ z).cell? ⟨w.heap.size + 1, 1, none⟩ = some (.string T2) ∧ (((W.setCell ⟨w.heap.size + 1 + 1, 0, none⟩ x).setCell ⟨w.heap.size + 1 + 1, 1, none⟩ y).setCell ⟨w.heap.size + 1 + 1, 2, none⟩ z).cell? ⟨w.heap.size + 1, 2, none⟩ = some (.string R2)) := fun W h x y z => by
    have h0 := HX.out W h
    exact ⟨(own3V (own_set3 h0.1 (by omega) x y z)).1, (own3V (own_set3 h0.2.1 (by omega) x y z)).1⟩
  go_enter Tryd.func29, Tryd.ntmps29
  go_wp2_with fail
  refine (HO1.out _).mono ?_
  rintro e wa ⟨rfl, hwa⟩
  have HBa := hid (HB0.out.trans (hwa.mono (by simp)))
  clear hwa
  obtain ⟨⟨y0, y1, y2⟩, -⟩ := own3V (HX.out _ HBa.out).2.1
  go_wp2_with fail
  refine (HO2.out _).mono ?_
  rintro e wb ⟨rfl, hwb⟩
  have HBb := hid (HBa.out.trans (hwb.mono (Nat.le_trans HSz.out HBa.out.size)))
  clear hwb y0 y1 y2
  go_wp2_with fail
  have HB := hid HBb.out.drew
  obtain ⟨⟨r0, r1, r2⟩, q0, q1, q2⟩ := own3V (HX.out _ HB.out).2.2.1
  go_region_held3 (fun W => (W.cell? ⟨w.heap.size, 0, none⟩ = some (.bool n1) ∧ W.cell? ⟨w.heap.size, 1, none⟩ = some (.string T1) ∧ W.cell? ⟨w.heap.size, 2, none⟩ = some (.string R1)) ∧ W.cell? ⟨w.heap.size + 1, 0, none⟩ = some (.bool n2) ∧ W.cell? ⟨w.heap.size + 1, 1, none⟩ = some (.string T2) ∧ W.cell? ⟨w.heap.size + 1, 2, none⟩ = some (.string R2))
    (first
      | exact ⟨(own3V (HX.out _ HB.out).1).1, (own3V (HX.out _ HB.out).2.1).1⟩
      | exact HSt.out _ HB.out _ _ _)
    (first
      | (go_at_call_of 68 (Value.string T1)
         go_loud (
           refine (HM1.out _).mono ?_
           rintro e w5 ⟨rfl, hw5⟩
           have HB := hid (HB.out.trans (hw5.mono (Nat.le_trans HSz.out HB.out.size)))
           clear hw5 r0 r1 r2 q0 q1 q2
           obtain ⟨⟨r0, r1, r2⟩, q0, q1, q2⟩ := own3V (HX.out _ HB.out).2.2.1))
      | (go_at_call_of 68 (Value.string R1)
         go_loud (
           refine (HM2.out _).mono ?_
           rintro e w6 ⟨rfl, hw5⟩
           have HB := hid (HB.out.trans (hw5.mono (Nat.le_trans HSz.out HB.out.size)))
           clear hw5 r0 r1 r2 q0 q1 q2
           obtain ⟨⟨r0, r1, r2⟩, q0, q1, q2⟩ := own3V (HX.out _ HB.out).2.2.1))
      | (go_at_call 67
         go_loud (
           refine (HA.out _).mono ?_
           rintro e w7 ⟨rfl, hw5⟩
           have HB := hid (HB.out.trans (hw5.mono (Nat.le_trans HSz.out HB.out.size)))
           clear hw5 r0 r1 r2 q0 q1 q2
           obtain ⟨⟨r0, r1, r2⟩, q0, q1, q2⟩ := own3V (HX.out _ HB.out).2.2.1)))
  all_goals
    go_wp2_with fail
    refine bodyPost_ret (v := .tuple #[.agg #[.bool ma, .string mx, .string my], .int .i64 mc]) (by simp [results, Tryd.results29, go_sem, r0, r1, r2]) rfl ⟨rfl, ?_⟩
    exact below_set3 (HX.out _ HB.out).2.2.2 (by omega) _ _ _

set_option maxRecDepth 20000 in
set_option maxHeartbeats 1000000 in
theorem specNumDiv_no (n1 n2 : Bool) (T1 R1 T2 R2 : ByteArray) (w : World) (h1 : T1.size ≤ maxLen) (h2 : R1.size ≤ maxLen) (h3 : T2.size ≤ maxLen) (h4 : R2.size ≤ maxLen) (hno : ¬ (NumP n1 T1 R1 ∧ NumP n2 T2 R2)) :
    Calls Tryd.prog 31 #[.agg #[.bool n1, .string T1, .string R1], .agg #[.bool n2, .string T2, .string R2]] w fun e w' => e = .returned (noAns 1) ∧ Below w.heap.size w w' := by
  have HB0 : Hid (Below (w.heap.size + 3) (((w.alloc (boxN n1 T1 R1)).alloc (boxN n2 T2 R2)).alloc box0) (((w.alloc (boxN n1 T1 R1)).alloc (boxN n2 T2 R2)).alloc box0)) := Below.refl _ _
  have HX : Hid (∀ W, Below (w.heap.size + 3) (((w.alloc (boxN n1 T1 R1)).alloc (boxN n2 T2 R2)).alloc box0) W → Own W (w.heap.size + 1) 26 #[.bool n2, .string T2, .string R2] ∧ Own W (w.heap.size + 1 + 1) 26 #[.bool false, .string ⟨#[]⟩, .string ⟨#[]⟩] ∧ Below w.heap.size w W) := fun W h => (boxes3 w _ _ _ _ _ _ h).2
  by_cases hp : NumP n1 T1 R1
  · have HO1 := hid (fun w => specNumOk_any n1 T1 R1 w h1 h2 true ⟨fun _ => hp, fun _ => rfl⟩)
    have HO2 := hid (fun w => specNumOk_any n2 T2 R2 w h3 h4 false ⟨fun h => (by cases h), fun h => absurd ⟨hp, h⟩ hno⟩)
    clear h1 h2 h3 h4 hno hp
    go_enter Tryd.func31, Tryd.ntmps31
    go_wp2_with fail
    refine (HO1.out _).mono ?_
    rintro e wa ⟨rfl, hwa⟩
    have HBa := hid (HB0.out.trans (hwa.mono (by simp)))
    clear hwa
    obtain ⟨⟨y0, y1, y2⟩, -⟩ := own3V (HX.out _ HBa.out).1
    go_wp2_with fail
    refine (HO2.out _).mono ?_
    rintro e wb ⟨rfl, hwb⟩
    have HBb := hid (HBa.out.trans (hwb.mono (by have := HBa.out.size; simp at this; omega)))
    clear hwb y0 y1 y2
    obtain ⟨⟨r0, r1, r2⟩, q0, q1, q2⟩ := own3V (HX.out _ HBb.out).2.1
    go_wp2_with fail
    refine bodyPost_ret (v := noAns 1) (by simp [results, Tryd.results31, go_sem, r0, r1, r2]) rfl ⟨rfl, ?_⟩
    exact below_set3 (HX.out _ HBb.out).2.2 (by omega) _ _ _
  · have HO1 := hid (fun w => specNumOk_any n1 T1 R1 w h1 h2 false ⟨fun h => (by cases h), fun h => absurd h hp⟩)
    clear h1 h2 h3 h4 hno hp
    go_enter Tryd.func31, Tryd.ntmps31
    go_wp2_with fail
    refine (HO1.out _).mono ?_
    rintro e wb ⟨rfl, hwb⟩
    have HBb := hid (HB0.out.trans (hwb.mono (by simp)))
    clear hwb
    obtain ⟨⟨r0, r1, r2⟩, q0, q1, q2⟩ := own3V (HX.out _ HBb.out).2.1
    go_wp2_with fail
    refine bodyPost_ret (v := noAns 1) (by simp [results, Tryd.results31, go_sem, r0, r1, r2]) rfl ⟨rfl, ?_⟩
    exact below_set3 (HX.out _ HBb.out).2.2 (by omega) _ _ _

set_option maxRecDepth 20000 in
set_option maxHeartbeats 4000000 in
theorem specNumDiv_yes (n1 n2 : Bool) (u1 d1 u2 d2 : Nat) (w : World) (h1 : (dec u1).size ≤ 60) (h2 : (dec d1).size ≤ 60) (h3 : (dec u2).size ≤ 60) (h4 : (dec d2).size ≤ 60) (ok1 : OkUD n1 u1 d1) (ok2 : OkUD n2 u2 d2) (hz : u2 ≠ 0) :
    Calls Tryd.prog 31 #[.agg #[.bool n1, .string (dec u1), .string (dec d1)], .agg #[.bool n2, .string (dec u2), .string (dec d2)]] w fun e w' => e = .returned (ansQ (n1 != n2) (u1 * d2) (d1 * u2)) ∧ Below w.heap.size w w' := by
  have HO1 := hid (fun w => specNumOk_any n1 (dec u1) (dec d1) w (Nat.le_trans h1 (by decide)) (Nat.le_trans h2 (by decide)) true ⟨fun _ => ⟨u1, d1, rfl, rfl, h1, h2, ok1⟩, fun _ => rfl⟩)
  have HO2 := hid (fun w => specNumOk_any n2 (dec u2) (dec d2) w (Nat.le_trans h3 (by decide)) (Nat.le_trans h4 (by decide)) true ⟨fun _ => ⟨u2, d2, rfl, rfl, h3, h4, ok2⟩, fun _ => rfl⟩)
  rw [dec_size] at h1 h2 h3 h4
  have HM1 := hid (fun w => l11Mul_any u1 d2 w (by omega) (by omega))
  have HM2 := hid (fun w => l11Mul_any d1 u2 w (by omega) (by omega))
  have HA := hid (fun w => l13Answer_any (n1 != n2) (u1 * d2) (d1 * u2) w (Nat.le_trans (nDigits_mul (m := 60) (k := 60) (by omega) (by omega) (by decide)) (by decide)) (Nat.le_trans (nDigits_mul (m := 60) (k := 60) (by omega) (by omega) (by decide)) (by decide)) (Nat.mul_ne_zero ok1.1 hz))
  obtain ⟨ma, mx, my, mc, hmf⟩ := ansQ_form (n1 != n2) (u1 * d2) (d1 * u2)
  rw [hmf] at HA ⊢
  clear hmf h1 h2 h3 h4 ok1 ok2
  obtain ⟨s, hs⟩ : ∃ s, (n1 != n2) = s := ⟨_, rfl⟩
  have hs2 : (!n1 == n2) = s := hs
  rw [hs] at HA
  clear hs
  have hzt := nought_text u2
  rw [decide_eq_false hz] at hzt
  clear hz
  generalize dec (u1 * d2) = PX at *
  generalize dec (d1 * u2) = PY at *
  generalize dec u1 = T1 at *
  generalize dec d1 = R1 at *
  generalize dec u2 = T2 at *
  generalize dec d2 = R2 at *
  have HB0 : Hid (Below (w.heap.size + 3) (((w.alloc (boxN n1 T1 R1)).alloc (boxN n2 T2 R2)).alloc box0) (((w.alloc (boxN n1 T1 R1)).alloc (boxN n2 T2 R2)).alloc box0)) := Below.refl _ _
  have HX : Hid (∀ W, Below (w.heap.size + 3) (((w.alloc (boxN n1 T1 R1)).alloc (boxN n2 T2 R2)).alloc box0) W → Own W w.heap.size 26 #[.bool n1, .string T1, .string R1] ∧ Own W (w.heap.size + 1) 26 #[.bool n2, .string T2, .string R2] ∧ Own W (w.heap.size + 1 + 1) 26 #[.bool false, .string ⟨#[]⟩, .string ⟨#[]⟩] ∧ Below w.heap.size w W) := fun W h => boxes3 w _ _ _ _ _ _ h
  have HSz : Hid (w.heap.size + 3 ≤ (((w.alloc (boxN n1 T1 R1)).alloc (boxN n2 T2 R2)).alloc box0).heap.size) := by show _ ≤ _; simp
  have HSt : Hid (∀ W, Below (w.heap.size + 3) (((w.alloc (boxN n1 T1 R1)).alloc (boxN n2 T2 R2)).alloc box0) W → ∀ x y z : Value, ((((W.setCell ⟨w.heap.size + 1 + 1, 0, none⟩ x).setCell ⟨w.heap.size + 1 + 1, 1, none⟩ y).setCell ⟨w.heap.size + 1 + 1, 2, none⟩ z).cell? ⟨w.heap.size, 0, none⟩ = some (.bool n1) ∧ (((W.setCell ⟨w.heap.size + 1 + 1, 0, none⟩ x).setCell ⟨w.heap.size + 1 + 1, 1, none⟩ y).setCell ⟨w.heap.size + 1 + 1, 2, none⟩ z).cell? ⟨w.heap.size, 1, none⟩ = some (.string T1) ∧ (((W.setCell ⟨w.heap.size + 1 + 1, 0, none⟩ x).setCell ⟨w.heap.size + 1 + 1, 1, none⟩ y).setCell ⟨w.heap.size + 1 + 1, 2, none⟩ z).cell? ⟨w.heap.size, 2, none⟩ = some (.string R1)) ∧ (((W.setCell ⟨w.heap.size + 1 + 1, 0, none⟩ x).setCell ⟨w.heap.size + 1 + 1, 1, none⟩ y).setCell ⟨w.heap.size + 1 + 1, 2, none⟩ z).cell? ⟨w.heap.size + 1, 0, none⟩ = some (.bool n2) ∧ (((W.setCell ⟨w.heap.size + 1 + 1, 0, none⟩ x).setCell ⟨w.heap.size + 1 + 1, 1, none⟩ y).setCell ⟨w.heap.size + 1 + 1, 2, none⟩ z).cell? ⟨w.heap.size + 1, 1, none⟩ = some (.string T2) ∧ (((W.setCell ⟨w.heap.size + 1 + 1, 0, none⟩ x).setCell ⟨w.heap.size + 1 + 1, 1, none⟩ y).setCell ⟨w.heap.size + 1 + 1, 2, none⟩ z).cell? ⟨w.heap.size + 1, 2, none⟩ = some (.string R2)) := fun W h x y z => by
    have h0 := HX.out W h
    exact ⟨(own3V (own_set3 h0.1 (by omega) x y z)).1, (own3V (own_set3 h0.2.1 (by omega) x y z)).1⟩
  go_enter Tryd.func31, Tryd.ntmps31
  go_wp2_with fail
  refine (HO1.out _).mono ?_
  rintro e wa ⟨rfl, hwa⟩
  have HBa := hid (HB0.out.trans (hwa.mono (by simp)))
  clear hwa
  obtain ⟨⟨y0, y1, y2⟩, -⟩ := own3V (HX.out _ HBa.out).2.1
  go_wp2_with fail
  refine (HO2.out _).mono ?_
  rintro e wb ⟨rfl, hwb⟩
  have HBb := hid (HBa.out.trans (hwb.mono (Nat.le_trans HSz.out HBa.out.size)))
  clear hwb y0 y1 y2
  obtain ⟨⟨y0, y1, y2⟩, -⟩ := own3V (HX.out _ HBb.out).2.1
  go_wp2_with fail
  clear y0 y1 y2
  have HB := hid HBb.out.drew
  obtain ⟨⟨r0, r1, r2⟩, q0, q1, q2⟩ := own3V (HX.out _ HB.out).2.2.1
  go_region_held3 (fun W => (W.cell? ⟨w.heap.size, 0, none⟩ = some (.bool n1) ∧ W.cell? ⟨w.heap.size, 1, none⟩ = some (.string T1) ∧ W.cell? ⟨w.heap.size, 2, none⟩ = some (.string R1)) ∧ W.cell? ⟨w.heap.size + 1, 0, none⟩ = some (.bool n2) ∧ W.cell? ⟨w.heap.size + 1, 1, none⟩ = some (.string T2) ∧ W.cell? ⟨w.heap.size + 1, 2, none⟩ = some (.string R2))
    (first
      | exact ⟨(own3V (HX.out _ HB.out).1).1, (own3V (HX.out _ HB.out).2.1).1⟩
      | exact HSt.out _ HB.out _ _ _)
    (first
      | (go_at_call_of 68 (Value.string T1)
         go_loud (
           refine (HM1.out _).mono ?_
           rintro e w5 ⟨rfl, hw5⟩
           have HB := hid (HB.out.trans (hw5.mono (Nat.le_trans HSz.out HB.out.size)))
           clear hw5 r0 r1 r2 q0 q1 q2
           obtain ⟨⟨r0, r1, r2⟩, q0, q1, q2⟩ := own3V (HX.out _ HB.out).2.2.1))
      | (go_at_call_of 68 (Value.string R1)
         go_loud (
           refine (HM2.out _).mono ?_
           rintro e w6 ⟨rfl, hw5⟩
           have HB := hid (HB.out.trans (hw5.mono (Nat.le_trans HSz.out HB.out.size)))
           clear hw5 r0 r1 r2 q0 q1 q2
           obtain ⟨⟨r0, r1, r2⟩, q0, q1, q2⟩ := own3V (HX.out _ HB.out).2.2.1))
      | (go_at_call 67
         go_loud (
           refine (HA.out _).mono ?_
           rintro e w7 ⟨rfl, hw5⟩
           have HB := hid (HB.out.trans (hw5.mono (Nat.le_trans HSz.out HB.out.size)))
           clear hw5 r0 r1 r2 q0 q1 q2
           obtain ⟨⟨r0, r1, r2⟩, q0, q1, q2⟩ := own3V (HX.out _ HB.out).2.2.1)))
  all_goals
    go_wp2_with fail
    refine bodyPost_ret (v := .tuple #[.agg #[.bool ma, .string mx, .string my], .int .i64 mc]) (by simp [results, Tryd.results31, go_sem, r0, r1, r2]) rfl ⟨rfl, ?_⟩
    exact below_set3 (HX.out _ HB.out).2.2.2 (by omega) _ _ _

set_option maxRecDepth 20000 in
set_option maxHeartbeats 2000000 in
theorem specNumDiv_nought (n1 n2 : Bool) (u1 d1 d2 : Nat) (w : World) (h1 : (dec u1).size ≤ 60) (h2 : (dec d1).size ≤ 60) (h3 : (dec 0).size ≤ 60) (h4 : (dec d2).size ≤ 60) (ok1 : OkUD n1 u1 d1) (ok2 : OkUD n2 0 d2) :
    Calls Tryd.prog 31 #[.agg #[.bool n1, .string (dec u1), .string (dec d1)], .agg #[.bool n2, .string (dec 0), .string (dec d2)]] w fun e w' => e = .returned (noAns 2) ∧ Below w.heap.size w w' := by
  have HO1 := hid (fun w => specNumOk_any n1 (dec u1) (dec d1) w (Nat.le_trans h1 (by decide)) (Nat.le_trans h2 (by decide)) true ⟨fun _ => ⟨u1, d1, rfl, rfl, h1, h2, ok1⟩, fun _ => rfl⟩)
  have HO2 := hid (fun w => specNumOk_any n2 (dec 0) (dec d2) w (Nat.le_trans h3 (by decide)) (Nat.le_trans h4 (by decide)) true ⟨fun _ => ⟨0, d2, rfl, rfl, h3, h4, ok2⟩, fun _ => rfl⟩)
  have hzt := nought_text 0
  rw [decide_eq_true rfl] at hzt
  clear h1 h2 h3 h4 ok1 ok2
  generalize dec u1 = T1 at *
  generalize dec d1 = R1 at *
  generalize dec 0 = T2 at *
  generalize dec d2 = R2 at *
  have HB0 : Hid (Below (w.heap.size + 3) (((w.alloc (boxN n1 T1 R1)).alloc (boxN n2 T2 R2)).alloc box0) (((w.alloc (boxN n1 T1 R1)).alloc (boxN n2 T2 R2)).alloc box0)) := Below.refl _ _
  have HX : Hid (∀ W, Below (w.heap.size + 3) (((w.alloc (boxN n1 T1 R1)).alloc (boxN n2 T2 R2)).alloc box0) W → Own W (w.heap.size + 1) 26 #[.bool n2, .string T2, .string R2] ∧ Own W (w.heap.size + 1 + 1) 26 #[.bool false, .string ⟨#[]⟩, .string ⟨#[]⟩] ∧ Below w.heap.size w W) := fun W h => (boxes3 w _ _ _ _ _ _ h).2
  go_enter Tryd.func31, Tryd.ntmps31
  go_wp2_with fail
  refine (HO1.out _).mono ?_
  rintro e wa ⟨rfl, hwa⟩
  have HBa := hid (HB0.out.trans (hwa.mono (by simp)))
  clear hwa
  obtain ⟨⟨y0, y1, y2⟩, -⟩ := own3V (HX.out _ HBa.out).1
  go_wp2_with fail
  refine (HO2.out _).mono ?_
  rintro e wb ⟨rfl, hwb⟩
  have HBb := hid (HBa.out.trans (hwb.mono (by have := HBa.out.size; simp at this; omega)))
  clear hwb y0 y1 y2
  obtain ⟨⟨y0, y1, y2⟩, -⟩ := own3V (HX.out _ HBb.out).1
  obtain ⟨⟨r0, r1, r2⟩, q0, q1, q2⟩ := own3V (HX.out _ HBb.out).2.1
  go_wp2_with fail
  refine bodyPost_ret (v := noAns 2) (by simp [results, Tryd.results31, go_sem, r0, r1, r2]) rfl ⟨rfl, ?_⟩
  exact below_set3 (HX.out _ HBb.out).2.2 (by omega) _ _ _

set_option maxRecDepth 20000 in
set_option maxHeartbeats 1000000 in
theorem specNumSub_no (n1 n2 : Bool) (T1 R1 T2 R2 : ByteArray) (w : World) (h1 : T1.size ≤ maxLen) (h2 : R1.size ≤ maxLen) (h3 : T2.size ≤ maxLen) (h4 : R2.size ≤ maxLen) (hno : ¬ (NumP n1 T1 R1 ∧ NumP n2 T2 R2)) :
    Calls Tryd.prog 27 #[.agg #[.bool n1, .string T1, .string R1], .agg #[.bool n2, .string T2, .string R2]] w fun e w' => e = .returned (noAns 1) ∧ Below w.heap.size w w' := by
  have HB0 : Hid (Below (w.heap.size + 3) (((w.alloc (boxN n1 T1 R1)).alloc (boxN n2 T2 R2)).alloc box0) (((w.alloc (boxN n1 T1 R1)).alloc (boxN n2 T2 R2)).alloc box0)) := Below.refl _ _
  have HX : Hid (∀ W, Below (w.heap.size + 3) (((w.alloc (boxN n1 T1 R1)).alloc (boxN n2 T2 R2)).alloc box0) W → Own W (w.heap.size + 1) 26 #[.bool n2, .string T2, .string R2] ∧ Own W (w.heap.size + 1 + 1) 26 #[.bool false, .string ⟨#[]⟩, .string ⟨#[]⟩] ∧ Below w.heap.size w W) := fun W h => (boxes3 w _ _ _ _ _ _ h).2
  by_cases hp : NumP n1 T1 R1
  · have HO1 := hid (fun w => specNumOk_any n1 T1 R1 w h1 h2 true ⟨fun _ => hp, fun _ => rfl⟩)
    have HO2 := hid (fun w => specNumOk_any n2 T2 R2 w h3 h4 false ⟨fun h => (by cases h), fun h => absurd ⟨hp, h⟩ hno⟩)
    clear h1 h2 h3 h4 hno hp
    go_enter Tryd.func27, Tryd.ntmps27
    go_wp2_with fail
    refine (HO1.out _).mono ?_
    rintro e wa ⟨rfl, hwa⟩
    have HBa := hid (HB0.out.trans (hwa.mono (by simp)))
    clear hwa
    obtain ⟨⟨y0, y1, y2⟩, -⟩ := own3V (HX.out _ HBa.out).1
    go_wp2_with fail
    refine (HO2.out _).mono ?_
    rintro e wb ⟨rfl, hwb⟩
    have HBb := hid (HBa.out.trans (hwb.mono (by have := HBa.out.size; simp at this; omega)))
    clear hwb y0 y1 y2
    obtain ⟨⟨r0, r1, r2⟩, q0, q1, q2⟩ := own3V (HX.out _ HBb.out).2.1
    go_wp2_with fail
    refine bodyPost_ret (v := noAns 1) (by simp [results, Tryd.results27, go_sem, r0, r1, r2]) rfl ⟨rfl, ?_⟩
    exact below_set3 (HX.out _ HBb.out).2.2 (by omega) _ _ _
  · have HO1 := hid (fun w => specNumOk_any n1 T1 R1 w h1 h2 false ⟨fun h => (by cases h), fun h => absurd h hp⟩)
    clear h1 h2 h3 h4 hno hp
    go_enter Tryd.func27, Tryd.ntmps27
    go_wp2_with fail
    refine (HO1.out _).mono ?_
    rintro e wb ⟨rfl, hwb⟩
    have HBb := hid (HB0.out.trans (hwb.mono (by simp)))
    clear hwb
    obtain ⟨⟨r0, r1, r2⟩, q0, q1, q2⟩ := own3V (HX.out _ HBb.out).2.1
    go_wp2_with fail
    refine bodyPost_ret (v := noAns 1) (by simp [results, Tryd.results27, go_sem, r0, r1, r2]) rfl ⟨rfl, ?_⟩
    exact below_set3 (HX.out _ HBb.out).2.2 (by omega) _ _ _

set_option maxRecDepth 20000 in
set_option maxHeartbeats 1000000 in
theorem specNumAdd_no (n1 n2 : Bool) (T1 R1 T2 R2 : ByteArray) (w : World) (h1 : T1.size ≤ maxLen) (h2 : R1.size ≤ maxLen) (h3 : T2.size ≤ maxLen) (h4 : R2.size ≤ maxLen) (hno : ¬ (NumP n1 T1 R1 ∧ NumP n2 T2 R2)) :
    Calls Tryd.prog 25 #[.agg #[.bool n1, .string T1, .string R1], .agg #[.bool n2, .string T2, .string R2]] w fun e w' => e = .returned (noAns 1) ∧ Below w.heap.size w w' := by
  have HB0 : Hid (Below (w.heap.size + 3) (((w.alloc (boxN n1 T1 R1)).alloc (boxN n2 T2 R2)).alloc box0) (((w.alloc (boxN n1 T1 R1)).alloc (boxN n2 T2 R2)).alloc box0)) := Below.refl _ _
  have HX : Hid (∀ W, Below (w.heap.size + 3) (((w.alloc (boxN n1 T1 R1)).alloc (boxN n2 T2 R2)).alloc box0) W → Own W (w.heap.size + 1) 26 #[.bool n2, .string T2, .string R2] ∧ Own W (w.heap.size + 1 + 1) 26 #[.bool false, .string ⟨#[]⟩, .string ⟨#[]⟩] ∧ Below w.heap.size w W) := fun W h => (boxes3 w _ _ _ _ _ _ h).2
  by_cases hp : NumP n1 T1 R1
  · have HO1 := hid (fun w => specNumOk_any n1 T1 R1 w h1 h2 true ⟨fun _ => hp, fun _ => rfl⟩)
    have HO2 := hid (fun w => specNumOk_any n2 T2 R2 w h3 h4 false ⟨fun h => (by cases h), fun h => absurd ⟨hp, h⟩ hno⟩)
    clear h1 h2 h3 h4 hno hp
    go_enter Tryd.func25, Tryd.ntmps25
    go_wp2_with fail
    refine (HO1.out _).mono ?_
    rintro e wa ⟨rfl, hwa⟩
    have HBa := hid (HB0.out.trans (hwa.mono (by simp)))
    clear hwa
    obtain ⟨⟨y0, y1, y2⟩, -⟩ := own3V (HX.out _ HBa.out).1
    go_wp2_with fail
    refine (HO2.out _).mono ?_
    rintro e wb ⟨rfl, hwb⟩
    have HBb := hid (HBa.out.trans (hwb.mono (by have := HBa.out.size; simp at this; omega)))
    clear hwb y0 y1 y2
    obtain ⟨⟨r0, r1, r2⟩, q0, q1, q2⟩ := own3V (HX.out _ HBb.out).2.1
    go_wp2_with fail
    refine bodyPost_ret (v := noAns 1) (by simp [results, Tryd.results25, go_sem, r0, r1, r2]) rfl ⟨rfl, ?_⟩
    exact below_set3 (HX.out _ HBb.out).2.2 (by omega) _ _ _
  · have HO1 := hid (fun w => specNumOk_any n1 T1 R1 w h1 h2 false ⟨fun h => (by cases h), fun h => absurd h hp⟩)
    clear h1 h2 h3 h4 hno hp
    go_enter Tryd.func25, Tryd.ntmps25
    go_wp2_with fail
    refine (HO1.out _).mono ?_
    rintro e wb ⟨rfl, hwb⟩
    have HBb := hid (HB0.out.trans (hwb.mono (by simp)))
    clear hwb
    obtain ⟨⟨r0, r1, r2⟩, q0, q1, q2⟩ := own3V (HX.out _ HBb.out).2.1
    go_wp2_with fail
    refine bodyPost_ret (v := noAns 1) (by simp [results, Tryd.results25, go_sem, r0, r1, r2]) rfl ⟨rfl, ?_⟩
    exact below_set3 (HX.out _ HBb.out).2.2 (by omega) _ _ _
end Go.Proofs.YtakicnplmcemnaaDoor

namespace Go.Proofs.YtakicnplmcemnaaDoor
open Go.RowKit Go.Siskin

theorem szN_le (a b : Nat) (left : Int) (h : left ≤ 1048576) : szN a b left ≤ 1048576 := by
  unfold szN
  split
  · decide
  · split
    · decide
    · omega

theorem both_parts {n1 n2 : Bool} {T1 R1 T2 R2 : ByteArray} {b1 p1 b2 p2 : Bool} {U1 D1 U2 D2 : Nat} (o1 : OpenP n1 T1 R1 b1 p1 U1 D1) (o2 : OpenP n2 T2 R2 b2 p2 U2 D2) :
    (b1 = true ∧ b2 = true ∧ n1 = p1 ∧ n2 = p2 ∧ T1 = dec U1 ∧ R1 = dec D1 ∧ T2 = dec U2 ∧ R2 = dec D2 ∧ T1.size ≤ 60 ∧ R1.size ≤ 60 ∧ T2.size ≤ 60 ∧ R2.size ≤ 60 ∧ OkUD n1 U1 D1 ∧ OkUD n2 U2 D2) ∨ ((b1 && b2) = false ∧ ¬ (NumP n1 T1 R1 ∧ NumP n2 T2 R2)) := by
  rcases o1 with ⟨rfl, rfl, e1, e2, s1, s2, k1⟩ | ⟨rfl, h1, -, -, -⟩
  · rcases o2 with ⟨rfl, rfl, e3, e4, s3, s4, k2⟩ | ⟨rfl, h2, -, -, -⟩
    · exact Or.inl ⟨rfl, rfl, rfl, rfl, e1, e2, e3, e4, s1, s2, s3, s4, k1, k2⟩
    · exact Or.inr ⟨rfl, fun h => h2 h.2⟩
  · exact Or.inr ⟨rfl, fun h => h1 h.1⟩

theorem numMul_both (n1 n2 : Bool) (T1 R1 T2 R2 : ByteArray) (h1 : T1.size ≤ maxLen) (h2 : R1.size ≤ maxLen) (h3 : T2.size ≤ maxLen) (h4 : R2.size ≤ maxLen) : ∃ (n : Bool) (x y : ByteArray) (c : Int),
    (∀ w, Calls Tryd.prog 29 #[.agg #[.bool n1, .string T1, .string R1], .agg #[.bool n2, .string T2, .string R2]] w fun e w' => e = .returned (.tuple #[.agg #[.bool n, .string x, .string y], .int .i64 c]) ∧ Below w.heap.size w w') ∧
    (∀ w, Pow9 w → Calls Tryd.prog 30 #[.agg #[.bool n1, .string T1, .string R1], .agg #[.bool n2, .string T2, .string R2]] w fun e w' => e = .returned (.tuple #[.agg #[.bool n, .string x, .string y], .int .i64 c]) ∧ Below w.heap.size w w') := by
  obtain ⟨b1, p1, U1, D1, o1, c1⟩ := openNum_all n1 T1 R1 h1 h2
  obtain ⟨b2, p2, U2, D2, o2, c2⟩ := openNum_all n2 T2 R2 h3 h4
  have g1 := o1.small
  have g2 := o2.small
  rcases both_parts o1 o2 with ⟨rfl, rfl, rfl, rfl, rfl, rfl, rfl, rfl, s1, s2, s3, s4, k1, k2⟩ | ⟨hb, hno⟩
  · obtain ⟨n, x, y, c, hf⟩ := ansQ_form (n1 != n2) (U1 * U2) (D1 * D2)
    refine ⟨n, x, y, c, fun w => ?_, fun w hP => ?_⟩
    · have h := specNumMul_yes n1 n2 U1 D1 U2 D2 w s1 s2 s3 s4 k1 k2
      rw [hf] at h
      exact h
    · have h := implNumMul_of n1 n2 _ _ _ _ true true n1 n2 U1 D1 U2 D2 w c1 c2 g1.1 g1.2 g2.1 g2.2 (fun _ => ⟨Nat.pos_of_ne_zero k1.1, Nat.pos_of_ne_zero k2.1⟩) hP
      rw [if_pos (show (true && true) = true from rfl), hf] at h
      exact h
  · refine ⟨false, ⟨#[]⟩, ⟨#[]⟩, _, fun w => specNumMul_no n1 n2 T1 R1 T2 R2 w h1 h2 h3 h4 hno, fun w hP => ?_⟩
    have h := implNumMul_of n1 n2 _ _ _ _ b1 b2 p1 p2 U1 D1 U2 D2 w c1 c2 g1.1 g1.2 g2.1 g2.2 (fun h => by rw [hb] at h; cases h) hP
    rw [hb, if_neg (by decide)] at h
    exact h
theorem numDiv_both (n1 n2 : Bool) (T1 R1 T2 R2 : ByteArray) (h1 : T1.size ≤ maxLen) (h2 : R1.size ≤ maxLen) (h3 : T2.size ≤ maxLen) (h4 : R2.size ≤ maxLen) : ∃ (n : Bool) (x y : ByteArray) (c : Int),
    (∀ w, Calls Tryd.prog 31 #[.agg #[.bool n1, .string T1, .string R1], .agg #[.bool n2, .string T2, .string R2]] w fun e w' => e = .returned (.tuple #[.agg #[.bool n, .string x, .string y], .int .i64 c]) ∧ Below w.heap.size w w') ∧
    (∀ w, Pow9 w → Calls Tryd.prog 32 #[.agg #[.bool n1, .string T1, .string R1], .agg #[.bool n2, .string T2, .string R2]] w fun e w' => e = .returned (.tuple #[.agg #[.bool n, .string x, .string y], .int .i64 c]) ∧ Below w.heap.size w w') := by
  obtain ⟨b1, p1, U1, D1, o1, c1⟩ := openNum_all n1 T1 R1 h1 h2
  obtain ⟨b2, p2, U2, D2, o2, c2⟩ := openNum_all n2 T2 R2 h3 h4
  have g1 := o1.small
  have g2 := o2.small
  rcases both_parts o1 o2 with ⟨rfl, rfl, rfl, rfl, rfl, rfl, rfl, rfl, s1, s2, s3, s4, k1, k2⟩ | ⟨hb, hno⟩
  · have hi := fun w hP => implNumDiv_of n1 n2 _ _ _ _ true true n1 n2 U1 D1 U2 D2 w c1 c2 g1.1 g1.2 g2.1 g2.2 (fun _ => ⟨Nat.pos_of_ne_zero k1.1, Nat.pos_of_ne_zero k2.1⟩) hP
    by_cases hz : U2 = 0
    · subst hz
      refine ⟨false, ⟨#[]⟩, ⟨#[]⟩, _, fun w => specNumDiv_nought n1 n2 U1 D1 D2 w s1 s2 s3 s4 k1 k2, fun w hP => ?_⟩
      have h := hi w hP
      rw [if_pos (show (true && true) = true from rfl), if_pos rfl] at h
      exact h
    · obtain ⟨n, x, y, c, hf⟩ := ansQ_form (n1 != n2) (U1 * D2) (D1 * U2)
      refine ⟨n, x, y, c, fun w => ?_, fun w hP => ?_⟩
      · have h := specNumDiv_yes n1 n2 U1 D1 U2 D2 w s1 s2 s3 s4 k1 k2 hz
        rw [hf] at h
        exact h
      · have h := hi w hP
        rw [if_pos (show (true && true) = true from rfl), if_neg hz, hf] at h
        exact h
  · refine ⟨false, ⟨#[]⟩, ⟨#[]⟩, _, fun w => specNumDiv_no n1 n2 T1 R1 T2 R2 w h1 h2 h3 h4 hno, fun w hP => ?_⟩
    have h := implNumDiv_of n1 n2 _ _ _ _ b1 b2 p1 p2 U1 D1 U2 D2 w c1 c2 g1.1 g1.2 g2.1 g2.2 (fun h => by rw [hb] at h; cases h) hP
    rw [hb, if_neg (by decide)] at h
    exact h
end Go.Proofs.YtakicnplmcemnaaDoor
