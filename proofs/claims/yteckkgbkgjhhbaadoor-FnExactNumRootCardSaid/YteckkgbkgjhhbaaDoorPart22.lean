/-
  The model of stage 8: NumRound. Condition: above and below have at most 60 digits.
  The model of stage 8: l14Whole, NumQuo, NumMod, NumGcd. Condition: none but that texts are no longer than a text may be.
  The model of stage 8: NumQuo, NumMod, NumGcd. Condition: none but that texts are no longer than a text may be.
  Stage 8, the program: leftDownward. Condition: the groups lie in memory as NatA says.
-/
import Derived.Test.YteckkgbkgjhhbaaDoorPart21
import Derived.Test.YteckkgbkgjhhbaaDoorPart18
namespace Go.Proofs.YteckkgbkgjhhbaaDoor
open Go.RowKit Go.Siskin

/-- Whether a way of rounding goes one away from nought. -/
def upWay (way : Int) (n : Bool) (u d : Nat) : Bool :=
  if way = 1 then upDown n u d else if way = 2 then upDown (!n) u d else if way = 3 then false else upNear u d
theorem upWay_left {way : Int} {n : Bool} {u d : Nat} (hd : 0 < d) (h : upWay way n u d = true) : u % d ≠ 0 := by
  unfold upWay at h
  split at h
  · exact upDown_left h
  · split at h
    · exact upDown_left h
    · split at h
      · cases h
      · exact upNear_left hd h
theorem ansW_form (n : Bool) (z : Nat) : ∃ m x y, ansW n z = .tuple #[.agg #[.bool m, .string x, .string y], .int .i64 0] := ⟨_, _, _, rfl⟩

theorem upWay_two {n : Bool} {u d : Nat} : upDown (!n && !decide (u = 0)) u d = upDown (!n) u d := by
  unfold upDown
  by_cases h : u = 0
  · subst h; simp
  · simp [h]
theorem two_signs {n : Bool} {u d : Nat} {z : Nat} (hz : z = u / d + oneIf (upDown (!n) u d)) : (!((!n && !decide (u = 0)) && !decide (z = 0)) && !decide (z = 0)) = (n && !decide (z = 0)) := by
  by_cases h : z = 0
  · simp [h]
  · have hu : u ≠ 0 := by
      rintro rfl
      apply h
      rw [hz]
      simp [upDown, oneIf]
    simp [h, hu]

set_option maxRecDepth 20000 in
set_option maxHeartbeats 2000000 in
theorem specNumRound_no (n : Bool) (T R : ByteArray) (way : Int) (w : World) (h1 : T.size ≤ maxLen) (h2 : R.size ≤ maxLen) (hno : ¬ NumP n T R ∨ ¬ (1 ≤ way ∧ way ≤ 4)) :
    Calls Tryd.prog 13 #[.agg #[.bool n, .string T, .string R], .int .i64 way] w fun e w' => e = .returned (noAns 1) ∧ Below w.heap.size w w' := by
  have HX : Hid (∀ W, Below (w.heap.size + 2) ((w.alloc (boxN n T R)).alloc box0) W → Own W w.heap.size 25 #[.bool n, .string T, .string R] ∧ Own W (w.heap.size + 1) 25 #[.bool false, .string ⟨#[]⟩, .string ⟨#[]⟩] ∧ Below w.heap.size w W) := fun W h => boxes2 w _ _ _ _ h
  have HB0 : Hid (Below (w.heap.size + 2) ((w.alloc (boxN n T R)).alloc box0) ((w.alloc (boxN n T R)).alloc box0)) := Below.refl _ _
  by_cases hp : NumP n T R
  · have HO := hid (fun w => specNumOk_any n T R w h1 h2 true ⟨fun _ => hp, fun _ => rfl⟩)
    have HI := hid (fun w => l11In_any way 1 4 w false (decide_eq_false (by rcases hno with h | h; exact absurd hp h; exact h)))
    clear h1 h2 hno hp
    go_enter Tryd.func13, Tryd.ntmps13
    go_wp2_with fail
    refine (HO.out _).mono ?_
    rintro e wa ⟨rfl, hwa⟩
    have HBa := hid (HB0.out.trans (hwa.mono (by simp)))
    clear hwa
    go_wp2_with fail
    refine (HI.out _).mono ?_
    rintro e w' ⟨rfl, hw⟩
    obtain rfl := hw.symm
    obtain ⟨⟨r0, r1, r2⟩, q0, q1, q2⟩ := own3V (HX.out _ HBa.out).2.1
    go_wp2_with fail
    refine bodyPost_ret (v := noAns 1) (by simp [results, Tryd.results13, go_sem, r0, r1, r2]) rfl ⟨rfl, ?_⟩
    exact below_set3 (HX.out _ HBa.out).2.2 (by omega) _ _ _
  · have HO := hid (fun w => specNumOk_any n T R w h1 h2 false ⟨fun h => (by cases h), fun h => absurd h hp⟩)
    clear h1 h2 hno hp
    go_enter Tryd.func13, Tryd.ntmps13
    go_wp2_with fail
    refine (HO.out _).mono ?_
    rintro e wa ⟨rfl, hwa⟩
    have HBa := hid (HB0.out.trans (hwa.mono (by simp)))
    clear hwa
    obtain ⟨⟨r0, r1, r2⟩, q0, q1, q2⟩ := own3V (HX.out _ HBa.out).2.1
    go_wp2_with fail
    refine bodyPost_ret (v := noAns 1) (by simp [results, Tryd.results13, go_sem, r0, r1, r2]) rfl ⟨rfl, ?_⟩
    exact below_set3 (HX.out _ HBa.out).2.2 (by omega) _ _ _

set_option maxRecDepth 20000 in
set_option maxHeartbeats 4000000 in
theorem specNumRound_yes (n : Bool) (u d : Nat) (way : Int) (w : World) (h1 : (dec u).size ≤ 60) (h2 : (dec d).size ≤ 60) (hok : OkUD n u d) (hw : 1 ≤ way ∧ way ≤ 4) :
    Calls Tryd.prog 13 #[.agg #[.bool n, .string (dec u), .string (dec d)], .int .i64 way] w fun e w' => e = .returned (ansW n (u / d + oneIf (upWay way n u d))) ∧ Below w.heap.size w w' := by
  have HO := hid (fun w => specNumOk_any n (dec u) (dec d) w (Nat.le_trans h1 max60) (Nat.le_trans h2 max60) true ⟨fun _ => ⟨u, d, rfl, rfl, h1, h2, hok⟩, fun _ => rfl⟩)
  have HI := hid (fun w => l11In_any way 1 4 w true (decide_eq_true hw))
  have hd0 : 0 < d := Nat.pos_of_ne_zero hok.1
  rw [dec_size] at h1 h2
  have HX : Hid (∀ W, Below (w.heap.size + 2) ((w.alloc (boxN n (dec u) (dec d))).alloc box0) W → Own W w.heap.size 25 #[.bool n, .string (dec u), .string (dec d)] ∧ Own W (w.heap.size + 1) 25 #[.bool false, .string ⟨#[]⟩, .string ⟨#[]⟩] ∧ Below w.heap.size w W) := fun W h => boxes2 w _ _ _ _ h
  have HB0 : Hid (Below (w.heap.size + 2) ((w.alloc (boxN n (dec u) (dec d))).alloc box0) ((w.alloc (boxN n (dec u) (dec d))).alloc box0)) := Below.refl _ _
  have HSz : Hid (w.heap.size + 2 ≤ ((w.alloc (boxN n (dec u) (dec d))).alloc box0).heap.size) := by show _ ≤ _; simp
  have hcase : way = 1 ∨ way = 2 ∨ way = 3 ∨ way = 4 := by omega
  rcases hcase with rfl | rfl | rfl | rfl
  · have HS := hid (fun w => l14Down_any n u d w h1 h2 hd0)
    have e0 : upWay 1 n u d = upDown n u d := rfl
    rw [e0]
    obtain ⟨m, x, y, hf⟩ := ansW_form n (u / d + oneIf (upDown n u d))
    rw [hf] at HS ⊢
    clear h1 h2 hok hw hd0 hf e0
    go_enter Tryd.func13, Tryd.ntmps13
    go_wp2_with fail
    refine (HO.out _).mono ?_
    rintro e wa ⟨rfl, hwa⟩
    have HBa := hid (HB0.out.trans (hwa.mono (by first | exact HSz.out | simp)))
    clear hwa
    go_wp2_with fail
    refine (HI.out _).mono ?_
    rintro e w' ⟨rfl, hw⟩
    obtain rfl := hw.symm
    obtain ⟨⟨y0, y1, y2⟩, -⟩ := own3V (HX.out _ HBa.out).1
    go_wp2_with fail
    refine (HS.out _).mono ?_
    rintro e w8 ⟨rfl, hw8⟩
    have HB := hid (HBa.out.trans (hw8.mono (Nat.le_trans HSz.out HBa.out.size)))
    clear hw8 y0 y1 y2
    obtain ⟨⟨r0, r1, r2⟩, q0, q1, q2⟩ := own3V (HX.out _ HB.out).2.1
    go_wp2_with fail
    refine bodyPost_ret (v := .tuple #[.agg #[.bool m, .string x, .string y], .int .i64 0]) (by simp [results, Tryd.results13, go_sem, r0, r1, r2]) rfl ⟨rfl, ?_⟩
    exact below_set3 (HX.out _ HB.out).2.2 (by omega) _ _ _
  · have HN1 := hid (fun w => l13Neg_any n u (dec d) w)
    obtain ⟨n', hn'⟩ : ∃ n', (!n && !decide (u = 0)) = n' := ⟨_, rfl⟩
    have HS := hid (fun w => l14Down_any n' u d w h1 h2 hd0)
    have e0 : upWay 2 n u d = upDown (!n) u d := rfl
    have e1 : upDown n' u d = upDown (!n) u d := by rw [← hn']; exact upWay_two
    rw [e0]
    rw [e1] at HS
    obtain ⟨z, hz⟩ : ∃ z, u / d + oneIf (upDown (!n) u d) = z := ⟨_, rfl⟩
    have e2 := two_signs hz.symm
    rw [hn'] at HN1 e2
    rw [hz] at HS ⊢
    have HN2 := hid (fun w => l13Neg_any (n' && !decide (z = 0)) z (dec 1) w)
    rw [e2] at HN2
    unfold ansW at HS ⊢
    generalize (n' && !decide (z = 0)) = b1 at *
    generalize (n && !decide (z = 0)) = b2 at *
    generalize dec z = Z at *
    generalize dec 1 = O at *
    clear h1 h2 hok hw hd0 e0 e1 e2 hz hn'
    go_enter Tryd.func13, Tryd.ntmps13
    go_wp2_with fail
    refine (HO.out _).mono ?_
    rintro e wa ⟨rfl, hwa⟩
    have HBa := hid (HB0.out.trans (hwa.mono (by first | exact HSz.out | simp)))
    clear hwa
    go_wp2_with fail
    refine (HI.out _).mono ?_
    rintro e w' ⟨rfl, hw⟩
    obtain rfl := hw.symm
    obtain ⟨⟨y0, y1, y2⟩, -⟩ := own3V (HX.out _ HBa.out).1
    go_wp2_with fail
    refine (HN1.out _).mono ?_
    rintro e w8 ⟨rfl, hw8⟩
    have HBb := hid (HBa.out.trans (hw8.mono (Nat.le_trans HSz.out HBa.out.size)))
    clear hw8
    go_wp2_with fail
    refine (HS.out _).mono ?_
    rintro e w9 ⟨rfl, hw9⟩
    have HBc := hid (HBb.out.trans (hw9.mono (Nat.le_trans HSz.out HBb.out.size)))
    clear hw9 y0 y1 y2
    go_wp2_with fail
    refine (HN2.out _).mono ?_
    rintro e w10 ⟨rfl, hw10⟩
    have HB := hid ((HBc.out.alloc (Nat.le_trans HSz.out HBc.out.size) (boxN b1 Z O)).trans (hw10.mono (by rw [World.size_alloc]; exact Nat.le_trans (Nat.le_trans HSz.out HBc.out.size) (Nat.le_succ _))))
    clear hw10
    obtain ⟨⟨r0, r1, r2⟩, q0, q1, q2⟩ := own3V (HX.out _ HB.out).2.1
    go_wp2_with fail
    refine bodyPost_ret (v := .tuple #[.agg #[.bool b2, .string Z, .string O], .int .i64 0]) (by simp [results, Tryd.results13, go_sem, r0, r1, r2]) rfl ⟨rfl, ?_⟩
    exact below_set3 (HX.out _ HB.out).2.2 (by omega) _ _ _
  · have hq : Lib.nDigits (u / d) ≤ 60 := Nat.le_trans (nDigits_mono (Nat.div_le_self _ _)) h1
    have HD := hid (fun w => l11Div_any u d w (by omega) (by omega) hd0)
    have HS := hid (fun w => l13Answer_any n (u / d) 1 w (by omega) (by rw [nDigits_one]; decide) (by decide))
    rw [ansQ_W n hq] at HS
    have e0 : u / d + oneIf (upWay 3 n u d) = u / d := rfl
    rw [e0]
    obtain ⟨m, x, y, hf⟩ := ansW_form n (u / d)
    rw [hf] at HS ⊢
    rw [dec_one] at HS
    clear h1 h2 hok hw hd0 hf e0 hq
    go_enter Tryd.func13, Tryd.ntmps13
    go_wp2_with fail
    refine (HO.out _).mono ?_
    rintro e wa ⟨rfl, hwa⟩
    have HBa := hid (HB0.out.trans (hwa.mono (by first | exact HSz.out | simp)))
    clear hwa
    go_wp2_with fail
    refine (HI.out _).mono ?_
    rintro e w' ⟨rfl, hw⟩
    obtain rfl := hw.symm
    obtain ⟨⟨y0, y1, y2⟩, -⟩ := own3V (HX.out _ HBa.out).1
    go_wp2_with fail
    refine (HD.out _).mono ?_
    rintro e w7 ⟨rfl, hw7⟩
    have HBa := hid (HBa.out.trans (hw7.mono (Nat.le_trans HSz.out HBa.out.size)))
    clear hw7 y0 y1 y2
    obtain ⟨⟨y0, y1, y2⟩, -⟩ := own3V (HX.out _ HBa.out).1
    go_wp2_with fail
    refine (HS.out _).mono ?_
    rintro e w8 ⟨rfl, hw8⟩
    have HB := hid (HBa.out.trans (hw8.mono (Nat.le_trans HSz.out HBa.out.size)))
    clear hw8 y0 y1 y2
    obtain ⟨⟨r0, r1, r2⟩, q0, q1, q2⟩ := own3V (HX.out _ HB.out).2.1
    go_wp2_with fail
    refine bodyPost_ret (v := .tuple #[.agg #[.bool m, .string x, .string y], .int .i64 0]) (by simp [results, Tryd.results13, go_sem, r0, r1, r2]) rfl ⟨rfl, ?_⟩
    exact below_set3 (HX.out _ HB.out).2.2 (by omega) _ _ _
  · have HS := hid (fun w => l14Nearest_any n u d w h1 h2 hd0)
    have e0 : upWay 4 n u d = upNear u d := rfl
    rw [e0]
    obtain ⟨m, x, y, hf⟩ := ansW_form n (u / d + oneIf (upNear u d))
    rw [hf] at HS ⊢
    clear h1 h2 hok hw hd0 hf e0
    go_enter Tryd.func13, Tryd.ntmps13
    go_wp2_with fail
    refine (HO.out _).mono ?_
    rintro e wa ⟨rfl, hwa⟩
    have HBa := hid (HB0.out.trans (hwa.mono (by first | exact HSz.out | simp)))
    clear hwa
    go_wp2_with fail
    refine (HI.out _).mono ?_
    rintro e w' ⟨rfl, hw⟩
    obtain rfl := hw.symm
    obtain ⟨⟨y0, y1, y2⟩, -⟩ := own3V (HX.out _ HBa.out).1
    go_wp2_with fail
    refine (HS.out _).mono ?_
    rintro e w8 ⟨rfl, hw8⟩
    have HB := hid (HBa.out.trans (hw8.mono (Nat.le_trans HSz.out HBa.out.size)))
    clear hw8 y0 y1 y2
    obtain ⟨⟨r0, r1, r2⟩, q0, q1, q2⟩ := own3V (HX.out _ HB.out).2.1
    go_wp2_with fail
    refine bodyPost_ret (v := .tuple #[.agg #[.bool m, .string x, .string y], .int .i64 0]) (by simp [results, Tryd.results13, go_sem, r0, r1, r2]) rfl ⟨rfl, ?_⟩
    exact below_set3 (HX.out _ HB.out).2.2 (by omega) _ _ _
end Go.Proofs.YteckkgbkgjhhbaaDoor

namespace Go.Proofs.YteckkgbkgjhhbaaDoor
open Go.RowKit Go.Siskin

/-- What l14Whole tells of two numbers that are ok. -/
def wholeC (d1 d2 u2 : Nat) : Int := if d1 ≠ 1 ∨ d2 ≠ 1 then 4 else if u2 = 0 then 2 else 0

set_option maxRecDepth 20000 in
set_option maxHeartbeats 2000000 in
theorem l14Whole_no (n1 n2 : Bool) (T1 R1 T2 R2 : ByteArray) (w : World) (h1 : T1.size ≤ maxLen) (h2 : R1.size ≤ maxLen) (h3 : T2.size ≤ maxLen) (h4 : R2.size ≤ maxLen) (hno : ¬ (NumP n1 T1 R1 ∧ NumP n2 T2 R2)) :
    Calls Tryd.prog 52 #[.agg #[.bool n1, .string T1, .string R1], .agg #[.bool n2, .string T2, .string R2]] w fun e w' => e = .returned (.int .i64 1) ∧ Below w.heap.size w w' := by
  have HB0 : Hid (Below (w.heap.size + 2) ((w.alloc (boxN n1 T1 R1)).alloc (boxN n2 T2 R2)) ((w.alloc (boxN n1 T1 R1)).alloc (boxN n2 T2 R2))) := Below.refl _ _
  have HX : Hid (∀ W, Below (w.heap.size + 2) ((w.alloc (boxN n1 T1 R1)).alloc (boxN n2 T2 R2)) W → Own W w.heap.size 25 #[.bool n1, .string T1, .string R1] ∧ Own W (w.heap.size + 1) 25 #[.bool n2, .string T2, .string R2] ∧ Below w.heap.size w W) := fun W h => boxes2 w _ _ _ _ h
  by_cases hp : NumP n1 T1 R1
  · have HO1 := hid (fun w => specNumOk_any n1 T1 R1 w h1 h2 true ⟨fun _ => hp, fun _ => rfl⟩)
    have HO2 := hid (fun w => specNumOk_any n2 T2 R2 w h3 h4 false ⟨fun h => (by cases h), fun h => absurd ⟨hp, h⟩ hno⟩)
    clear h1 h2 h3 h4 hno hp
    go_enter Tryd.func52, Tryd.ntmps52
    go_wp2_with fail
    refine (HO1.out _).mono ?_
    rintro e wa ⟨rfl, hwa⟩
    have HBa := hid (HB0.out.trans (hwa.mono (by simp)))
    clear hwa
    obtain ⟨⟨y0, y1, y2⟩, -⟩ := own3V (HX.out _ HBa.out).2.1
    go_wp2_with fail
    refine (HO2.out _).mono ?_
    rintro e wb ⟨rfl, hwb⟩
    have HBb := hid (HBa.out.trans (hwb.mono (by have := HBa.out.size; simp at this; omega)))
    clear hwb y0 y1 y2
    go_wp2_with fail
    go_ret
    exact ⟨rfl, (HX.out _ HBb.out).2.2⟩
  · have HO1 := hid (fun w => specNumOk_any n1 T1 R1 w h1 h2 false ⟨fun h => (by cases h), fun h => absurd h hp⟩)
    clear h1 h2 h3 h4 hno hp
    go_enter Tryd.func52, Tryd.ntmps52
    go_wp2_with fail
    refine (HO1.out _).mono ?_
    rintro e wb ⟨rfl, hwb⟩
    have HBb := hid (HB0.out.trans (hwb.mono (by simp)))
    clear hwb
    go_wp2_with fail
    go_ret
    exact ⟨rfl, (HX.out _ HBb.out).2.2⟩

set_option maxRecDepth 20000 in
set_option maxHeartbeats 2000000 in
theorem l14Whole_yes (n1 n2 : Bool) (u1 d1 u2 d2 : Nat) (w : World) (h1 : (dec u1).size ≤ 60) (h2 : (dec d1).size ≤ 60) (h3 : (dec u2).size ≤ 60) (h4 : (dec d2).size ≤ 60) (ok1 : OkUD n1 u1 d1) (ok2 : OkUD n2 u2 d2) (c : Int) (hc : wholeC d1 d2 u2 = c) :
    Calls Tryd.prog 52 #[.agg #[.bool n1, .string (dec u1), .string (dec d1)], .agg #[.bool n2, .string (dec u2), .string (dec d2)]] w fun e w' => e = .returned (.int .i64 c) ∧ Below w.heap.size w w' := by
  have HO1 := hid (fun w => specNumOk_any n1 (dec u1) (dec d1) w (Nat.le_trans h1 max60) (Nat.le_trans h2 max60) true ⟨fun _ => ⟨u1, d1, rfl, rfl, h1, h2, ok1⟩, fun _ => rfl⟩)
  have HO2 := hid (fun w => specNumOk_any n2 (dec u2) (dec d2) w (Nat.le_trans h3 max60) (Nat.le_trans h4 max60) true ⟨fun _ => ⟨u2, d2, rfl, rfl, h3, h4, ok2⟩, fun _ => rfl⟩)
  have t1 := one_text d1
  have t2 := one_text d2
  have t3 := nought_text u2
  have hcase : (decide (d1 = 1) = false ∧ c = 4) ∨ (decide (d1 = 1) = true ∧ decide (d2 = 1) = false ∧ c = 4) ∨ (decide (d1 = 1) = true ∧ decide (d2 = 1) = true ∧ decide (u2 = 0) = true ∧ c = 2) ∨ (decide (d1 = 1) = true ∧ decide (d2 = 1) = true ∧ decide (u2 = 0) = false ∧ c = 0) := by
    rw [← hc]
    unfold wholeC
    by_cases e1 : d1 = 1 <;> by_cases e2 : d2 = 1 <;> by_cases e3 : u2 = 0 <;> simp [e1, e2, e3]
  clear h1 h2 h3 h4 ok1 ok2 hc
  have HB0 : Hid (Below (w.heap.size + 2) ((w.alloc (boxN n1 (dec u1) (dec d1))).alloc (boxN n2 (dec u2) (dec d2))) ((w.alloc (boxN n1 (dec u1) (dec d1))).alloc (boxN n2 (dec u2) (dec d2)))) := Below.refl _ _
  have HX : Hid (∀ W, Below (w.heap.size + 2) ((w.alloc (boxN n1 (dec u1) (dec d1))).alloc (boxN n2 (dec u2) (dec d2))) W → Own W w.heap.size 25 #[.bool n1, .string (dec u1), .string (dec d1)] ∧ Own W (w.heap.size + 1) 25 #[.bool n2, .string (dec u2), .string (dec d2)] ∧ Below w.heap.size w W) := fun W h => boxes2 w _ _ _ _ h
  generalize decide (d1 = 1) = z1 at *
  generalize decide (d2 = 1) = z2 at *
  generalize decide (u2 = 0) = z3 at *
  generalize dec u1 = T1 at *
  generalize dec d1 = R1 at *
  generalize dec u2 = T2 at *
  generalize dec d2 = R2 at *
  have s1 : (R1.toList != [49]) = !z1 := by rw [bne, t1]
  have s2 : (R2.toList != [49]) = !z2 := by rw [bne, t2]
  rcases hcase with ⟨rfl, rfl⟩ | ⟨rfl, rfl, rfl⟩ | ⟨rfl, rfl, rfl, rfl⟩ | ⟨rfl, rfl, rfl, rfl⟩
  all_goals
    first | change _ = true at s1 | change _ = false at s1
    try first | change _ = true at s2 | change _ = false at s2
    go_enter Tryd.func52, Tryd.ntmps52
    go_wp2_with fail
    refine (HO1.out _).mono ?_
    rintro e wa ⟨rfl, hwa⟩
    have HBa := hid (HB0.out.trans (hwa.mono (by simp)))
    clear hwa
    obtain ⟨⟨y0, y1, y2⟩, -⟩ := own3V (HX.out _ HBa.out).2.1
    go_wp2_with fail
    refine (HO2.out _).mono ?_
    rintro e wb ⟨rfl, hwb⟩
    have HBb := hid (HBa.out.trans (hwb.mono (by have := HBa.out.size; simp at this; omega)))
    clear hwb y0 y1 y2
    obtain ⟨⟨y0, y1, y2⟩, -⟩ := own3V (HX.out _ HBb.out).2.1
    obtain ⟨⟨x0, x1, x2⟩, -⟩ := own3V (HX.out _ HBb.out).1
    go_wp2_with fail
    go_ret
    exact ⟨rfl, (HX.out _ HBb.out).2.2⟩
end Go.Proofs.YteckkgbkgjhhbaaDoor

namespace Go.Proofs.YteckkgbkgjhhbaaDoor
open Go.RowKit Go.Siskin

abbrev noQuo (c : Int) : Value := .tuple #[.agg #[.bool false, .string ⟨#[]⟩, .string ⟨#[]⟩], .agg #[.bool false, .string ⟨#[]⟩, .string ⟨#[]⟩], .int .i64 c]
/-- A whole number as it is handed out. -/
def wholeV (n : Bool) (z : Nat) : Value := .agg #[.bool (n && !decide (z = 0)), .string (dec z), .string (dec 1)]

set_option maxRecDepth 20000 in
set_option maxHeartbeats 2000000 in
theorem specNumQuo_code (n1 n2 : Bool) (T1 R1 T2 R2 : ByteArray) (w : World) (c : Int) (hc : c ≠ 0)
    (hW : ∀ w, Calls Tryd.prog 52 #[.agg #[.bool n1, .string T1, .string R1], .agg #[.bool n2, .string T2, .string R2]] w fun e w' => e = .returned (.int .i64 c) ∧ Below w.heap.size w w') :
    Calls Tryd.prog 17 #[.agg #[.bool n1, .string T1, .string R1], .agg #[.bool n2, .string T2, .string R2]] w fun e w' => e = .returned (noQuo c) ∧ Below w.heap.size w w' := by
  have HW := hid hW
  have hcb : (c != 0) = true := by simp [hc]
  clear hW hc
  have HB0 : Hid (Below (w.heap.size + 4) ((((w.alloc (boxN n1 T1 R1)).alloc (boxN n2 T2 R2)).alloc box0).alloc box0) ((((w.alloc (boxN n1 T1 R1)).alloc (boxN n2 T2 R2)).alloc box0).alloc box0)) := Below.refl _ _
  have HX : Hid (∀ W, Below (w.heap.size + 4) ((((w.alloc (boxN n1 T1 R1)).alloc (boxN n2 T2 R2)).alloc box0).alloc box0) W → (Own W w.heap.size 25 #[.bool n1, .string T1, .string R1] ∧ Own W (w.heap.size + 1) 25 #[.bool n2, .string T2, .string R2]) ∧ Own W (w.heap.size + 1 + 1) 25 #[.bool false, .string ⟨#[]⟩, .string ⟨#[]⟩] ∧ Own W (w.heap.size + 1 + 1 + 1) 25 #[.bool false, .string ⟨#[]⟩, .string ⟨#[]⟩] ∧ Below w.heap.size w W) := fun W h => boxes4 w _ _ _ _ _ _ _ _ h
  go_enter Tryd.func17, Tryd.ntmps17
  go_wp2_with fail
  refine (HW.out _).mono ?_
  rintro e wa ⟨rfl, hwa⟩
  have HBa := hid (HB0.out.trans (hwa.mono (by simp)))
  clear hwa
  obtain ⟨⟨r0, r1, r2⟩, q0, q1, q2⟩ := own3V (HX.out _ HBa.out).2.1
  obtain ⟨⟨s0, s1, s2⟩, p0, p1, p2⟩ := own3V (HX.out _ HBa.out).2.2.1
  go_wp2_with fail
  refine bodyPost_ret (v := noQuo c) (by simp [results, Tryd.results17, go_sem, r0, r1, r2, s0, s1, s2]) rfl ⟨rfl, ?_⟩
  exact below_set3 (below_set3 (HX.out _ HBa.out).2.2.2 (by omega) _ _ _) (by omega) _ _ _

set_option maxRecDepth 20000 in
set_option maxHeartbeats 2000000 in
theorem specNumMod_code (n1 n2 : Bool) (T1 R1 T2 R2 : ByteArray) (w : World) (c : Int) (hc : c ≠ 0)
    (hW : ∀ w, Calls Tryd.prog 52 #[.agg #[.bool n1, .string T1, .string R1], .agg #[.bool n2, .string T2, .string R2]] w fun e w' => e = .returned (.int .i64 c) ∧ Below w.heap.size w w') :
    Calls Tryd.prog 19 #[.agg #[.bool n1, .string T1, .string R1], .agg #[.bool n2, .string T2, .string R2]] w fun e w' => e = .returned (noAns c) ∧ Below w.heap.size w w' := by
  have HW := hid hW
  have hcb : (c != 0) = true := by simp [hc]
  clear hW hc
  have HB0 : Hid (Below (w.heap.size + 3) (((w.alloc (boxN n1 T1 R1)).alloc (boxN n2 T2 R2)).alloc box0) (((w.alloc (boxN n1 T1 R1)).alloc (boxN n2 T2 R2)).alloc box0)) := Below.refl _ _
  have HX : Hid (∀ W, Below (w.heap.size + 3) (((w.alloc (boxN n1 T1 R1)).alloc (boxN n2 T2 R2)).alloc box0) W → Own W w.heap.size 25 #[.bool n1, .string T1, .string R1] ∧ Own W (w.heap.size + 1) 25 #[.bool n2, .string T2, .string R2] ∧ Own W (w.heap.size + 1 + 1) 25 #[.bool false, .string ⟨#[]⟩, .string ⟨#[]⟩] ∧ Below w.heap.size w W) := fun W h => boxes3 w _ _ _ _ _ _ h
  go_enter Tryd.func19, Tryd.ntmps19
  go_wp2_with fail
  refine (HW.out _).mono ?_
  rintro e wa ⟨rfl, hwa⟩
  have HBa := hid (HB0.out.trans (hwa.mono (by simp)))
  clear hwa
  obtain ⟨⟨r0, r1, r2⟩, q0, q1, q2⟩ := own3V (HX.out _ HBa.out).2.2.1
  go_wp2_with fail
  refine bodyPost_ret (v := noAns c) (by simp [results, Tryd.results19, go_sem, r0, r1, r2]) rfl ⟨rfl, ?_⟩
  exact below_set3 (HX.out _ HBa.out).2.2.2 (by omega) _ _ _

/-- What is left downward, without its sign. -/
def modZ (n1 n2 : Bool) (u1 u2 : Nat) : Nat := if (!decide (u1 % u2 = 0) && (n1 != n2)) = true then u2 - u1 % u2 else u1 % u2

set_option maxRecDepth 20000 in
set_option maxHeartbeats 4000000 in
theorem specNumMod_yes (n1 n2 : Bool) (u1 d1 u2 d2 : Nat) (w : World) (h1 : (dec u1).size ≤ 60) (h3 : (dec u2).size ≤ 60) (hu : u2 ≠ 0)
    (hW : ∀ w, Calls Tryd.prog 52 #[.agg #[.bool n1, .string (dec u1), .string (dec d1)], .agg #[.bool n2, .string (dec u2), .string (dec d2)]] w fun e w' => e = .returned (.int .i64 0) ∧ Below w.heap.size w w') :
    Calls Tryd.prog 19 #[.agg #[.bool n1, .string (dec u1), .string (dec d1)], .agg #[.bool n2, .string (dec u2), .string (dec d2)]] w fun e w' => e = .returned (.tuple #[wholeV n2 (modZ n1 n2 u1 u2), .int .i64 0]) ∧ Below w.heap.size w w' := by
  have HW := hid hW
  rw [dec_size] at h1 h3
  have hup := Nat.pos_of_ne_zero hu
  have HD := hid (fun w => l11Div_any u1 u2 w (by omega) (by omega) hup)
  have HSu := hid (fun w => l11Sub_any u2 (u1 % u2) w (by omega) (Nat.le_of_lt (Nat.mod_lt _ hup)))
  have hzt := nought_text (u1 % u2)
  obtain ⟨s, hs⟩ : ∃ s, (n1 != n2) = s := ⟨_, rfl⟩
  have hs2 : (!n1 == n2) = s := hs
  obtain ⟨M, hM⟩ : ∃ M, modZ n1 n2 u1 u2 = M := ⟨_, rfl⟩
  rw [hM]
  have hcase : (decide (u1 % u2 = 0) = true ∧ M = u1 % u2) ∨ (decide (u1 % u2 = 0) = false ∧ s = false ∧ M = u1 % u2) ∨ (decide (u1 % u2 = 0) = false ∧ s = true ∧ M = u2 - u1 % u2) := by
    rw [← hM]
    unfold modZ
    rw [hs]
    by_cases e : u1 % u2 = 0 <;> cases s <;> simp [e]
  have HL := hid (fun w => l14Sign_any n2 M w)
  unfold wholeV
  generalize (n2 && !decide (M = 0)) = b1 at *
  generalize decide (u1 % u2 = 0) = z at *
  clear hs hW h1 h3 hu hup hM
  generalize dec 1 = O at *
  have hzn : ((dec (u1 % u2)).toList != [48]) = !z := by rw [bne, hzt]
  have HB0 : Hid (Below (w.heap.size + 3) (((w.alloc (boxN n1 (dec u1) (dec d1))).alloc (boxN n2 (dec u2) (dec d2))).alloc box0) (((w.alloc (boxN n1 (dec u1) (dec d1))).alloc (boxN n2 (dec u2) (dec d2))).alloc box0)) := Below.refl _ _
  have HX : Hid (∀ W, Below (w.heap.size + 3) (((w.alloc (boxN n1 (dec u1) (dec d1))).alloc (boxN n2 (dec u2) (dec d2))).alloc box0) W → Own W w.heap.size 25 #[.bool n1, .string (dec u1), .string (dec d1)] ∧ Own W (w.heap.size + 1) 25 #[.bool n2, .string (dec u2), .string (dec d2)] ∧ Own W (w.heap.size + 1 + 1) 25 #[.bool false, .string ⟨#[]⟩, .string ⟨#[]⟩] ∧ Below w.heap.size w W) := fun W h => boxes3 w _ _ _ _ _ _ h
  have HSz : Hid (w.heap.size + 3 ≤ (((w.alloc (boxN n1 (dec u1) (dec d1))).alloc (boxN n2 (dec u2) (dec d2))).alloc box0).heap.size) := by show _ ≤ _; simp
  generalize dec u1 = T1 at *
  generalize dec d1 = R1 at *
  generalize dec u2 = T2 at *
  generalize dec d2 = R2 at *
  rcases hcase with ⟨rfl, rfl⟩ | ⟨rfl, rfl, rfl⟩ | ⟨rfl, rfl, rfl⟩
  all_goals
    first | change _ = true at hzn | change _ = false at hzn
    try generalize dec (u2 - u1 % u2) = L2 at *
    generalize dec (u1 % u2) = L at *
    go_enter Tryd.func19, Tryd.ntmps19
    go_wp2_with fail
    refine (HW.out _).mono ?_
    rintro e wa ⟨rfl, hwa⟩
    have HBa := hid (HB0.out.trans (hwa.mono (by first | exact HSz.out | simp)))
    clear hwa
    obtain ⟨⟨x0, x1, x2⟩, -⟩ := own3V (HX.out _ HBa.out).1
    obtain ⟨⟨y0, y1, y2⟩, -⟩ := own3V (HX.out _ HBa.out).2.1
    go_wp2_with fail
    refine (HD.out _).mono ?_
    rintro e wb ⟨rfl, hwb⟩
    have HB := hid (HBa.out.trans (hwb.mono (Nat.le_trans HSz.out HBa.out.size)))
    clear hwb x0 x1 x2 y0 y1 y2
    obtain ⟨⟨x0, x1, x2⟩, -⟩ := own3V (HX.out _ HB.out).1
    obtain ⟨⟨y0, y1, y2⟩, -⟩ := own3V (HX.out _ HB.out).2.1
    go_wp2_with fail
    try
      (go_at_call 56
       refine (HSu.out _).mono ?_
       rintro e w7 ⟨rfl, hw7⟩
       have HB := hid (HB.out.trans (hw7.mono (Nat.le_trans HSz.out HB.out.size)))
       clear x0 x1 x2 y0 y1 y2 hw7
       obtain ⟨⟨y0, y1, y2⟩, -⟩ := own3V (HX.out _ HB.out).2.1
       go_wp2_with fail)
    refine (HL.out _).mono ?_
    rintro e w8 ⟨rfl, hw8⟩
    have HB := hid (HB.out.trans (hw8.mono (Nat.le_trans HSz.out HB.out.size)))
    clear y0 y1 y2 hw8
    obtain ⟨⟨r0, r1, r2⟩, q0, q1, q2⟩ := own3V (HX.out _ HB.out).2.2.1
    go_wp2_with fail
    first
      | (refine bodyPost_ret (v := .tuple #[.agg #[.bool b1, .string L, .string O], .int .i64 0]) (by simp [results, Tryd.results19, go_sem, r0, r1, r2]) rfl ⟨rfl, ?_⟩
         exact below_set3 (HX.out _ HB.out).2.2.2 (by omega) _ _ _)
      | (refine bodyPost_ret (v := .tuple #[.agg #[.bool b1, .string L2, .string O], .int .i64 0]) (by simp [results, Tryd.results19, go_sem, r0, r1, r2]) rfl ⟨rfl, ?_⟩
         exact below_set3 (HX.out _ HB.out).2.2.2 (by omega) _ _ _)

set_option maxRecDepth 20000 in
set_option maxHeartbeats 2000000 in
theorem specNumGcd_code (n1 n2 : Bool) (T1 R1 T2 R2 : ByteArray) (w : World) (c : Int) (hc : c = 1 ∨ c = 4)
    (hW : ∀ w, Calls Tryd.prog 52 #[.agg #[.bool n1, .string T1, .string R1], .agg #[.bool n2, .string T2, .string R2]] w fun e w' => e = .returned (.int .i64 c) ∧ Below w.heap.size w w') :
    Calls Tryd.prog 21 #[.agg #[.bool n1, .string T1, .string R1], .agg #[.bool n2, .string T2, .string R2]] w fun e w' => e = .returned (noAns c) ∧ Below w.heap.size w w' := by
  have HW := hid hW
  clear hW
  have HB0 : Hid (Below (w.heap.size + 3) (((w.alloc (boxN n1 T1 R1)).alloc (boxN n2 T2 R2)).alloc box0) (((w.alloc (boxN n1 T1 R1)).alloc (boxN n2 T2 R2)).alloc box0)) := Below.refl _ _
  have HX : Hid (∀ W, Below (w.heap.size + 3) (((w.alloc (boxN n1 T1 R1)).alloc (boxN n2 T2 R2)).alloc box0) W → Own W w.heap.size 25 #[.bool n1, .string T1, .string R1] ∧ Own W (w.heap.size + 1) 25 #[.bool n2, .string T2, .string R2] ∧ Own W (w.heap.size + 1 + 1) 25 #[.bool false, .string ⟨#[]⟩, .string ⟨#[]⟩] ∧ Below w.heap.size w W) := fun W h => boxes3 w _ _ _ _ _ _ h
  rcases hc with rfl | rfl
  all_goals
    go_enter Tryd.func21, Tryd.ntmps21
    go_wp2_with fail
    refine (HW.out _).mono ?_
    rintro e wa ⟨rfl, hwa⟩
    have HBa := hid (HB0.out.trans (hwa.mono (by simp)))
    clear hwa
    obtain ⟨⟨r0, r1, r2⟩, q0, q1, q2⟩ := own3V (HX.out _ HBa.out).2.2.1
    go_wp2_with fail
    refine bodyPost_ret (v := noAns _) (by simp [results, Tryd.results21, go_sem, r0, r1, r2]) rfl ⟨rfl, ?_⟩
    exact below_set3 (HX.out _ HBa.out).2.2.2 (by omega) _ _ _

set_option maxRecDepth 20000 in
set_option maxHeartbeats 4000000 in
theorem specNumGcd_yes (n1 n2 : Bool) (u1 d1 u2 d2 : Nat) (w : World) (h1 : (dec u1).size ≤ 60) (h3 : (dec u2).size ≤ 60) (c : Int) (hc : c = 0 ∨ c = 2)
    (hW : ∀ w, Calls Tryd.prog 52 #[.agg #[.bool n1, .string (dec u1), .string (dec d1)], .agg #[.bool n2, .string (dec u2), .string (dec d2)]] w fun e w' => e = .returned (.int .i64 c) ∧ Below w.heap.size w w') :
    Calls Tryd.prog 21 #[.agg #[.bool n1, .string (dec u1), .string (dec d1)], .agg #[.bool n2, .string (dec u2), .string (dec d2)]] w fun e w' => e = .returned (.tuple #[wholeV false (Nat.gcd u1 u2), .int .i64 0]) ∧ Below w.heap.size w w' := by
  have HW := hid hW
  rw [dec_size] at h1 h3
  have HG := hid (fun w => l11Gcd_any u1 u2 w (by omega) (by omega))
  have HL := hid (fun w => l14Sign_any false (Nat.gcd u1 u2) w)
  unfold wholeV
  generalize (false && !decide (Nat.gcd u1 u2 = 0)) = b1 at *
  generalize dec (Nat.gcd u1 u2) = G at *
  generalize dec 1 = O at *
  generalize dec u1 = T1 at *
  generalize dec d1 = R1 at *
  generalize dec u2 = T2 at *
  generalize dec d2 = R2 at *
  clear hW h1 h3
  have HB0 : Hid (Below (w.heap.size + 3) (((w.alloc (boxN n1 T1 R1)).alloc (boxN n2 T2 R2)).alloc box0) (((w.alloc (boxN n1 T1 R1)).alloc (boxN n2 T2 R2)).alloc box0)) := Below.refl _ _
  have HX : Hid (∀ W, Below (w.heap.size + 3) (((w.alloc (boxN n1 T1 R1)).alloc (boxN n2 T2 R2)).alloc box0) W → Own W w.heap.size 25 #[.bool n1, .string T1, .string R1] ∧ Own W (w.heap.size + 1) 25 #[.bool n2, .string T2, .string R2] ∧ Own W (w.heap.size + 1 + 1) 25 #[.bool false, .string ⟨#[]⟩, .string ⟨#[]⟩] ∧ Below w.heap.size w W) := fun W h => boxes3 w _ _ _ _ _ _ h
  have HSz : Hid (w.heap.size + 3 ≤ (((w.alloc (boxN n1 T1 R1)).alloc (boxN n2 T2 R2)).alloc box0).heap.size) := by show _ ≤ _; simp
  rcases hc with rfl | rfl
  all_goals
    go_enter Tryd.func21, Tryd.ntmps21
    go_wp2_with fail
    refine (HW.out _).mono ?_
    rintro e wa ⟨rfl, hwa⟩
    have HBa := hid (HB0.out.trans (hwa.mono (by first | exact HSz.out | simp)))
    clear hwa
    obtain ⟨⟨x0, x1, x2⟩, -⟩ := own3V (HX.out _ HBa.out).1
    obtain ⟨⟨y0, y1, y2⟩, -⟩ := own3V (HX.out _ HBa.out).2.1
    go_wp2_with fail
    refine (HG.out _).mono ?_
    rintro e wb ⟨rfl, hwb⟩
    have HB := hid (HBa.out.trans (hwb.mono (Nat.le_trans HSz.out HBa.out.size)))
    clear hwb x0 x1 x2 y0 y1 y2
    go_wp2_with fail
    refine (HL.out _).mono ?_
    rintro e w8 ⟨rfl, hw8⟩
    have HB := hid (HB.out.trans (hw8.mono (Nat.le_trans HSz.out HB.out.size)))
    clear hw8
    obtain ⟨⟨r0, r1, r2⟩, q0, q1, q2⟩ := own3V (HX.out _ HB.out).2.2.1
    go_wp2_with fail
    refine bodyPost_ret (v := .tuple #[.agg #[.bool b1, .string G, .string O], .int .i64 0]) (by simp [results, Tryd.results21, go_sem, r0, r1, r2]) rfl ⟨rfl, ?_⟩
    exact below_set3 (HX.out _ HB.out).2.2.2 (by omega) _ _ _
end Go.Proofs.YteckkgbkgjhhbaaDoor

namespace Go.Proofs.YteckkgbkgjhhbaaDoor
open Go.RowKit Go.Siskin

/-- The sign of what is left downward. -/
def modN (n1 n2 : Bool) (L : Nat) : Bool := if (!decide (L = 0) && (n1 != n2)) = true then n2 else n1

set_option maxRecDepth 20000 in
set_option maxHeartbeats 4000000 in
theorem leftDownward_any (n1 n2 s : Bool) (U L Q : Nat) (a2 qa ra : Option Addr) (c2 qc rc : Nat) (w : World) (hL : L < U) (hU : nG U ≤ 1000) (h2 : NatA w (.slice a2 (grp U).length c2) (grp U)) (hr : NatA w (.slice ra (grp L).length rc) (grp L)) :
    Calls Tryd.prog 57 #[.agg #[.bool n2, .slice a2 (grp U).length c2, .bool s, .slice qa (grp Q).length qc, .bool n1, .slice ra (grp L).length rc]] w fun e w' => ∃ a c, e = .returned (.agg #[.bool (modN n1 n2 L), .slice a (grp (if (!decide (L = 0) && (n1 != n2)) = true then U - L else L)).length c]) ∧ NatA w' (.slice a (grp (if (!decide (L = 0) && (n1 != n2)) = true then U - L else L)).length c) (grp (if (!decide (L = 0) && (n1 != n2)) = true then U - L else L)) ∧ Below w.heap.size w w' := by
  have HSl : Hid (∀ W, Below w.heap.size w W → Calls Tryd.prog 86 #[.agg #[.bool n1, .slice ra (grp L).length rc]] W fun e w' => e = .returned (.int .i64 (signI n1 L)) ∧ Below W.heap.size W w') := fun W hb => intSign_any n1 L _ W (hr.below hb (Nat.le_refl _))
  have HSu : Hid (∀ W, Below w.heap.size w W → Calls Tryd.prog 86 #[.agg #[.bool n2, .slice a2 (grp U).length c2]] W fun e w' => e = .returned (.int .i64 (signI n2 U)) ∧ Below W.heap.size W w') := fun W hb => intSign_any n2 U _ W (h2.below hb (Nat.le_refl _))
  have HPl : Hid (∀ W, Below w.heap.size w W → Calls Tryd.prog 94 #[.agg #[.bool n1, .slice ra (grp L).length rc], .agg #[.bool n2, .slice a2 (grp U).length c2]] W fun e w' => ∃ a c, e = .returned (.agg #[.bool (sumN n1 L n2 U), .slice a (grp (sumZ n1 L n2 U)).length c]) ∧ NatA w' (.slice a (grp (sumZ n1 L n2 U)).length c) (grp (sumZ n1 L n2 U)) ∧ Below W.heap.size W w') := fun W hb => intPlus_any n1 n2 L U _ _ W (hr.below hb (Nat.le_refl _)) (h2.below hb (Nat.le_refl _)) (Nat.le_trans (nG_mono (Nat.le_of_lt hL)) (by omega)) (by omega)
  have HRl := hid hr
  have HU2 := hid h2
  have hcase : (((signI n1 L = 0 ∧ signI n2 U = 1) ∨ (signI n1 L = 0 ∧ signI n2 U = -1) ∨ (signI n1 L = 1 ∧ signI n2 U = 1) ∨ (signI n1 L = -1 ∧ signI n2 U = -1)) ∧ modN n1 n2 L = n1 ∧ (if (!decide (L = 0) && (n1 != n2)) = true then U - L else L) = L) ∨
      (((signI n1 L = 1 ∧ signI n2 U = -1) ∨ (signI n1 L = -1 ∧ signI n2 U = 1)) ∧ modN n1 n2 L = n2 ∧ (if (!decide (L = 0) && (n1 != n2)) = true then U - L else L) = U - L ∧ sumN n1 L n2 U = n2 ∧ sumZ n1 L n2 U = U - L) := by
    have hU0 : U ≠ 0 := by omega
    unfold signI modN sumN sumZ
    by_cases h0 : L = 0
    · cases n1 <;> cases n2 <;> simp [h0, hU0]
    · cases n1 <;> cases n2 <;> simp [h0, hU0, hL]
  generalize signI n1 L = z1 at *
  generalize signI n2 U = z2 at *
  generalize modN n1 n2 L = m at *
  generalize (if (!decide (L = 0) && (n1 != n2)) = true then U - L else L) = V at *
  generalize sumN n1 L n2 U = sn at *
  generalize sumZ n1 L n2 U = sz at *
  clear hr h2 hL hU
  have HX : Hid (∀ W, Below (w.heap.size + 2) ((w.alloc (box6 n2 (.slice a2 (grp U).length c2) s (.slice qa (grp Q).length qc) n1 (.slice ra (grp L).length rc))).alloc boxI0) W → Own W w.heap.size 67 #[.bool n2, .slice a2 (grp U).length c2, .bool s, .slice qa (grp Q).length qc, .bool n1, .slice ra (grp L).length rc] ∧ Own W (w.heap.size + 1) 55 #[.bool false, .slice none 0 0] ∧ Below w.heap.size w W) := fun W h => boxes2 w _ _ _ _ h
  have HB0 : Hid (Below (w.heap.size + 2) ((w.alloc (box6 n2 (.slice a2 (grp U).length c2) s (.slice qa (grp Q).length qc) n1 (.slice ra (grp L).length rc))).alloc boxI0) ((w.alloc (box6 n2 (.slice a2 (grp U).length c2) s (.slice qa (grp Q).length qc) n1 (.slice ra (grp L).length rc))).alloc boxI0)) := Below.refl _ _
  have HSz : Hid (w.heap.size + 2 ≤ ((w.alloc (box6 n2 (.slice a2 (grp U).length c2) s (.slice qa (grp Q).length qc) n1 (.slice ra (grp L).length rc))).alloc boxI0).heap.size) := by show _ ≤ _; simp
  rcases hcase with ⟨hz, hm, hV⟩ | ⟨hz, hm, rfl, hs1, hs2⟩
  · obtain rfl := hm.symm
    obtain rfl := hV.symm
    rcases hz with ⟨rfl, rfl⟩ | ⟨rfl, rfl⟩ | ⟨rfl, rfl⟩ | ⟨rfl, rfl⟩
    all_goals
      go_enter Tryd.func57, Tryd.ntmps57
      go_wp2_with fail
      have HB := hid HB0.out.drew
      have HL : Hid (∀ W, Below (w.heap.size + 2) ((w.alloc (box6 n2 (.slice a2 (grp U).length c2) s (.slice qa (grp Q).length qc) n1 (.slice ra (grp L).length rc))).alloc boxI0) W → (W.cell? ⟨w.heap.size, 0, none⟩ = some (.bool n2) ∧ W.cell? ⟨w.heap.size, 1, none⟩ = some (.slice a2 (grp U).length c2)) ∧ W.cell? ⟨w.heap.size, 4, none⟩ = some (.bool n1) ∧ W.cell? ⟨w.heap.size, 5, none⟩ = some (.slice ra (grp L).length rc)) := fun W h => by
        obtain ⟨⟨c0, c1, -, -, c4, c5⟩, -⟩ := own6V (HX.out _ h).1
        exact ⟨⟨c0, c1⟩, c4, c5⟩
      go_region_held3 (fun W => (W.cell? ⟨w.heap.size, 0, none⟩ = some (.bool n2) ∧ W.cell? ⟨w.heap.size, 1, none⟩ = some (.slice a2 (grp U).length c2)) ∧ W.cell? ⟨w.heap.size, 4, none⟩ = some (.bool n1) ∧ W.cell? ⟨w.heap.size, 5, none⟩ = some (.slice ra (grp L).length rc))
        (first | exact HL.out _ HB.out)
        (first
          | (go_at_call_of 86 (Value.agg #[.bool n1, .slice ra (grp L).length rc])
             go_loud (
               refine (HSl.out _ (HX.out _ HB.out).2.2).mono ?_
               rintro e w5 ⟨rfl, hw5⟩
               have HB := hid (HB.out.trans (hw5.mono (Nat.le_trans HSz.out HB.out.size)))
               clear hw5))
          | (go_at_call_of 86 (Value.agg #[.bool n2, .slice a2 (grp U).length c2])
             go_loud (
               refine (HSu.out _ (HX.out _ HB.out).2.2).mono ?_
               rintro e w5 ⟨rfl, hw5⟩
               have HB := hid (HB.out.trans (hw5.mono (Nat.le_trans HSz.out HB.out.size)))
               clear hw5)))
      obtain ⟨⟨x0, x1, -, -, x4, x5⟩, -⟩ := own6V (HX.out _ HB.out).1
      obtain ⟨⟨r0, r1⟩, q0, q1⟩ := own2V (HX.out _ HB.out).2.1
      go_wp2_with fail
      refine bodyPost_ret (v := .agg #[.bool _, .slice ra (grp _).length rc]) (by simp [results, Tryd.results57, go_sem, r0, r1]) rfl ⟨ra, rc, rfl, ?_, ?_⟩
      · exact natA_set2 (HRl.out.below (HX.out _ HB.out).2.2 (Nat.le_refl _)) (HX.out _ HB.out).2.1 _ _
      · exact below_set2 (HX.out _ HB.out).2.2 (by omega) _ _
  · obtain rfl := hm.symm
    obtain rfl := hs1.symm
    subst hs2
    rcases hz with ⟨rfl, rfl⟩ | ⟨rfl, rfl⟩
    all_goals
      go_enter Tryd.func57, Tryd.ntmps57
      go_wp2_with fail
      have HB := hid HB0.out.drew
      have HL : Hid (∀ W, Below (w.heap.size + 2) ((w.alloc (box6 n2 (.slice a2 (grp U).length c2) s (.slice qa (grp Q).length qc) n1 (.slice ra (grp L).length rc))).alloc boxI0) W → (W.cell? ⟨w.heap.size, 0, none⟩ = some (.bool n2) ∧ W.cell? ⟨w.heap.size, 1, none⟩ = some (.slice a2 (grp U).length c2)) ∧ W.cell? ⟨w.heap.size, 4, none⟩ = some (.bool n1) ∧ W.cell? ⟨w.heap.size, 5, none⟩ = some (.slice ra (grp L).length rc)) := fun W h => by
        obtain ⟨⟨c0, c1, -, -, c4, c5⟩, -⟩ := own6V (HX.out _ h).1
        exact ⟨⟨c0, c1⟩, c4, c5⟩
      go_region_held3 (fun W => (W.cell? ⟨w.heap.size, 0, none⟩ = some (.bool n2) ∧ W.cell? ⟨w.heap.size, 1, none⟩ = some (.slice a2 (grp U).length c2)) ∧ W.cell? ⟨w.heap.size, 4, none⟩ = some (.bool n1) ∧ W.cell? ⟨w.heap.size, 5, none⟩ = some (.slice ra (grp L).length rc))
        (first | exact HL.out _ HB.out)
        (first
          | (go_at_call_of 86 (Value.agg #[.bool n1, .slice ra (grp L).length rc])
             go_loud (
               refine (HSl.out _ (HX.out _ HB.out).2.2).mono ?_
               rintro e w5 ⟨rfl, hw5⟩
               have HB := hid (HB.out.trans (hw5.mono (Nat.le_trans HSz.out HB.out.size)))
               clear hw5))
          | (go_at_call_of 86 (Value.agg #[.bool n2, .slice a2 (grp U).length c2])
             go_loud (
               refine (HSu.out _ (HX.out _ HB.out).2.2).mono ?_
               rintro e w5 ⟨rfl, hw5⟩
               have HB := hid (HB.out.trans (hw5.mono (Nat.le_trans HSz.out HB.out.size)))
               clear hw5)))
      obtain ⟨⟨x0, x1, -, -, x4, x5⟩, -⟩ := own6V (HX.out _ HB.out).1
      obtain ⟨⟨r0, r1⟩, q0, q1⟩ := own2V (HX.out _ HB.out).2.1
      go_wp2_with fail
      refine (HPl.out _ (HX.out _ HB.out).2.2).mono ?_
      rintro e w6 ⟨a, c, rfl, hv, hw6⟩
      have HV := hid hv
      have HB := hid (HB.out.trans (hw6.mono (Nat.le_trans HSz.out HB.out.size)))
      clear hv hw6 x0 x1 x4 x5 r0 r1 q0 q1
      obtain ⟨⟨r0, r1⟩, q0, q1⟩ := own2V (HX.out _ HB.out).2.1
      go_wp2_with fail
      refine bodyPost_ret (v := .agg #[.bool _, .slice a (grp _).length c]) (by simp [results, Tryd.results57, go_sem, r0, r1]) rfl ⟨a, c, rfl, ?_, ?_⟩
      · exact natA_set2 HV.out (HX.out _ HB.out).2.1 _ _
      · exact below_set2 (HX.out _ HB.out).2.2 (by omega) _ _
end Go.Proofs.YteckkgbkgjhhbaaDoor
