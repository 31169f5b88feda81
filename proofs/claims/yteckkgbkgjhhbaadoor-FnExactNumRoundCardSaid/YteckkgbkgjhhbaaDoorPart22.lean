/-
  The model of stage 8: NumRound. Condition: above and below have at most 60 digits.
  Stage 8, the program: ways of rounding. Condition: the groups lie in memory as NatA says.
  Stage 8, the program: rounded. Condition: the table of powers stands.
-/
import Derived.Test.YteckkgbkgjhhbaaDoorPart21
import Derived.Test.YteckkgbkgjhhbaaDoorPart18
import Derived.Laws.EntriesVeiled
namespace Go.Proofs.YteckkgbkgjhhbaaDoor
open Go.RowKit Go.Siskin

/-- Whether a way of rounding goes one away from nought. -/
def upWay (way : Int) (n : Bool) (u d : Nat) : Bool :=
  if way = 1 then upDown n u d else if way = 2 then upDown (!n) u d else if way = 3 then false else upNear u d
theorem upWay_left {way : Int} {n : Bool} {u d : Nat} (hd : 0 < d) (h : upWay way n u d = true) : u % d ≠ 0 := by
  unfold upWay at h
  split at h
  · exact upDown_left h
  · split at h
    · exact upDown_left h
    · split at h
      · cases h
      · exact upNear_left hd h
theorem ansW_form (n : Bool) (z : Nat) : ∃ m x y, ansW n z = .tuple #[.agg #[.bool m, .string x, .string y], .int .i64 0] := ⟨_, _, _, rfl⟩

theorem upWay_two {n : Bool} {u d : Nat} : upDown (!n && !decide (u = 0)) u d = upDown (!n) u d := by
  unfold upDown
  by_cases h : u = 0
  · subst h; simp
  · simp [h]
theorem two_signs {n : Bool} {u d : Nat} {z : Nat} (hz : z = u / d + oneIf (upDown (!n) u d)) : (!((!n && !decide (u = 0)) && !decide (z = 0)) && !decide (z = 0)) = (n && !decide (z = 0)) := by
  by_cases h : z = 0
  · simp [h]
  · have hu : u ≠ 0 := by
      rintro rfl
      apply h
      rw [hz]
      simp [upDown, oneIf]
    simp [h, hu]

set_option maxRecDepth 20000 in
set_option maxHeartbeats 2000000 in
theorem specNumRound_no (n : Bool) (T R : ByteArray) (way : Int) (w : World) (h1 : T.size ≤ maxLen) (h2 : R.size ≤ maxLen) (hno : ¬ NumP n T R ∨ ¬ (1 ≤ way ∧ way ≤ 4)) :
    Calls Tryd.prog 13 #[.agg #[.bool n, .string T, .string R], .int .i64 way] w fun e w' => e = .returned (noAns 1) ∧ Below w.heap.size w w' := by
  have HX : Hid (∀ W, Below (w.heap.size + 2) ((w.alloc (boxN n T R)).alloc box0) W → Own W w.heap.size 25 #[.bool n, .string T, .string R] ∧ Own W (w.heap.size + 1) 25 #[.bool false, .string ⟨#[]⟩, .string ⟨#[]⟩] ∧ Below w.heap.size w W) := fun W h => boxes2 w _ _ _ _ h
  have HB0 : Hid (Below (w.heap.size + 2) ((w.alloc (boxN n T R)).alloc box0) ((w.alloc (boxN n T R)).alloc box0)) := Below.refl _ _
  by_cases hp : NumP n T R
  · have HO := hid (fun w => specNumOk_any n T R w h1 h2 true ⟨fun _ => hp, fun _ => rfl⟩)
    have HI := hid (fun w => l11In_any way 1 4 w false (decide_eq_false (by rcases hno with h | h; exact absurd hp h; exact h)))
    clear h1 h2 hno hp
    go_enter Tryd.func13, Tryd.ntmps13
    go_wp2_with fail
    refine (HO.out _).mono ?_
    rintro e wa ⟨rfl, hwa⟩
    have HBa := hid (HB0.out.trans (hwa.mono (by simp)))
    clear hwa
    go_wp2_with fail
    refine (HI.out _).mono ?_
    rintro e w' ⟨rfl, hw⟩
    obtain rfl := hw.symm
    obtain ⟨⟨r0, r1, r2⟩, q0, q1, q2⟩ := own3V (HX.out _ HBa.out).2.1
    go_wp2_with fail
    refine bodyPost_ret (v := noAns 1) (by simp [results, Tryd.results13, go_sem, r0, r1, r2]) rfl ⟨rfl, ?_⟩
    exact below_set3 (HX.out _ HBa.out).2.2 (by omega) _ _ _
  · have HO := hid (fun w => specNumOk_any n T R w h1 h2 false ⟨fun h => (by cases h), fun h => absurd h hp⟩)
    clear h1 h2 hno hp
    go_enter Tryd.func13, Tryd.ntmps13
    go_wp2_with fail
    refine (HO.out _).mono ?_
    rintro e wa ⟨rfl, hwa⟩
    have HBa := hid (HB0.out.trans (hwa.mono (by simp)))
    clear hwa
    obtain ⟨⟨r0, r1, r2⟩, q0, q1, q2⟩ := own3V (HX.out _ HBa.out).2.1
    go_wp2_with fail
    refine bodyPost_ret (v := noAns 1) (by simp [results, Tryd.results13, go_sem, r0, r1, r2]) rfl ⟨rfl, ?_⟩
    exact below_set3 (HX.out _ HBa.out).2.2 (by omega) _ _ _

set_option maxRecDepth 20000 in
set_option maxHeartbeats 4000000 in
theorem specNumRound_yes (n : Bool) (u d : Nat) (way : Int) (w : World) (h1 : (dec u).size ≤ 60) (h2 : (dec d).size ≤ 60) (hok : OkUD n u d) (hw : 1 ≤ way ∧ way ≤ 4) :
    Calls Tryd.prog 13 #[.agg #[.bool n, .string (dec u), .string (dec d)], .int .i64 way] w fun e w' => e = .returned (ansW n (u / d + oneIf (upWay way n u d))) ∧ Below w.heap.size w w' := by
  have HO := hid (fun w => specNumOk_any n (dec u) (dec d) w (Nat.le_trans h1 max60) (Nat.le_trans h2 max60) true ⟨fun _ => ⟨u, d, rfl, rfl, h1, h2, hok⟩, fun _ => rfl⟩)
  have HI := hid (fun w => l11In_any way 1 4 w true (decide_eq_true hw))
  have hd0 : 0 < d := Nat.pos_of_ne_zero hok.1
  rw [dec_size] at h1 h2
  have HX : Hid (∀ W, Below (w.heap.size + 2) ((w.alloc (boxN n (dec u) (dec d))).alloc box0) W → Own W w.heap.size 25 #[.bool n, .string (dec u), .string (dec d)] ∧ Own W (w.heap.size + 1) 25 #[.bool false, .string ⟨#[]⟩, .string ⟨#[]⟩] ∧ Below w.heap.size w W) := fun W h => boxes2 w _ _ _ _ h
  have HB0 : Hid (Below (w.heap.size + 2) ((w.alloc (boxN n (dec u) (dec d))).alloc box0) ((w.alloc (boxN n (dec u) (dec d))).alloc box0)) := Below.refl _ _
  have HSz : Hid (w.heap.size + 2 ≤ ((w.alloc (boxN n (dec u) (dec d))).alloc box0).heap.size) := by show _ ≤ _; simp
  have hcase : way = 1 ∨ way = 2 ∨ way = 3 ∨ way = 4 := by omega
  rcases hcase with rfl | rfl | rfl | rfl
  · have HS := hid (fun w => l14Down_any n u d w h1 h2 hd0)
    have e0 : upWay 1 n u d = upDown n u d := rfl
    rw [e0]
    obtain ⟨m, x, y, hf⟩ := ansW_form n (u / d + oneIf (upDown n u d))
    rw [hf] at HS ⊢
    clear h1 h2 hok hw hd0 hf e0
    go_enter Tryd.func13, Tryd.ntmps13
    go_wp2_with fail
    refine (HO.out _).mono ?_
    rintro e wa ⟨rfl, hwa⟩
    have HBa := hid (HB0.out.trans (hwa.mono (by first | exact HSz.out | simp)))
    clear hwa
    go_wp2_with fail
    refine (HI.out _).mono ?_
    rintro e w' ⟨rfl, hw⟩
    obtain rfl := hw.symm
    obtain ⟨⟨y0, y1, y2⟩, -⟩ := own3V (HX.out _ HBa.out).1
    go_wp2_with fail
    refine (HS.out _).mono ?_
    rintro e w8 ⟨rfl, hw8⟩
    have HB := hid (HBa.out.trans (hw8.mono (Nat.le_trans HSz.out HBa.out.size)))
    clear hw8 y0 y1 y2
    obtain ⟨⟨r0, r1, r2⟩, q0, q1, q2⟩ := own3V (HX.out _ HB.out).2.1
    go_wp2_with fail
    refine bodyPost_ret (v := .tuple #[.agg #[.bool m, .string x, .string y], .int .i64 0]) (by simp [results, Tryd.results13, go_sem, r0, r1, r2]) rfl ⟨rfl, ?_⟩
    exact below_set3 (HX.out _ HB.out).2.2 (by omega) _ _ _
  · have HN1 := hid (fun w => l13Neg_any n u (dec d) w)
    obtain ⟨n', hn'⟩ : ∃ n', (!n && !decide (u = 0)) = n' := ⟨_, rfl⟩
    have HS := hid (fun w => l14Down_any n' u d w h1 h2 hd0)
    have e0 : upWay 2 n u d = upDown (!n) u d := rfl
    have e1 : upDown n' u d = upDown (!n) u d := by rw [← hn']; exact upWay_two
    rw [e0]
    rw [e1] at HS
    obtain ⟨z, hz⟩ : ∃ z, u / d + oneIf (upDown (!n) u d) = z := ⟨_, rfl⟩
    have e2 := two_signs hz.symm
    rw [hn'] at HN1 e2
    rw [hz] at HS ⊢
    have HN2 := hid (fun w => l13Neg_any (n' && !decide (z = 0)) z (dec 1) w)
    rw [e2] at HN2
    unfold ansW at HS ⊢
    generalize (n' && !decide (z = 0)) = b1 at *
    generalize (n && !decide (z = 0)) = b2 at *
    generalize dec z = Z at *
    generalize dec 1 = O at *
    clear h1 h2 hok hw hd0 e0 e1 e2 hz hn'
    go_enter Tryd.func13, Tryd.ntmps13
    go_wp2_with fail
    refine (HO.out _).mono ?_
    rintro e wa ⟨rfl, hwa⟩
    have HBa := hid (HB0.out.trans (hwa.mono (by first | exact HSz.out | simp)))
    clear hwa
    go_wp2_with fail
    refine (HI.out _).mono ?_
    rintro e w' ⟨rfl, hw⟩
    obtain rfl := hw.symm
    obtain ⟨⟨y0, y1, y2⟩, -⟩ := own3V (HX.out _ HBa.out).1
    go_wp2_with fail
    refine (HN1.out _).mono ?_
    rintro e w8 ⟨rfl, hw8⟩
    have HBb := hid (HBa.out.trans (hw8.mono (Nat.le_trans HSz.out HBa.out.size)))
    clear hw8
    go_wp2_with fail
    refine (HS.out _).mono ?_
    rintro e w9 ⟨rfl, hw9⟩
    have HBc := hid (HBb.out.trans (hw9.mono (Nat.le_trans HSz.out HBb.out.size)))
    clear hw9 y0 y1 y2
    go_wp2_with fail
    refine (HN2.out _).mono ?_
    rintro e w10 ⟨rfl, hw10⟩
    have HB := hid ((HBc.out.alloc (Nat.le_trans HSz.out HBc.out.size) (boxN b1 Z O)).trans (hw10.mono (by rw [World.size_alloc]; exact Nat.le_trans (Nat.le_trans HSz.out HBc.out.size) (Nat.le_succ _))))
    clear hw10
    obtain ⟨⟨r0, r1, r2⟩, q0, q1, q2⟩ := own3V (HX.out _ HB.out).2.1
    go_wp2_with fail
    refine bodyPost_ret (v := .tuple #[.agg #[.bool b2, .string Z, .string O], .int .i64 0]) (by simp [results, Tryd.results13, go_sem, r0, r1, r2]) rfl ⟨rfl, ?_⟩
    exact below_set3 (HX.out _ HB.out).2.2 (by omega) _ _ _
  · have hq : Lib.nDigits (u / d) ≤ 60 := Nat.le_trans (nDigits_mono (Nat.div_le_self _ _)) h1
    have HD := hid (fun w => l11Div_any u d w (by omega) (by omega) hd0)
    have HS := hid (fun w => l13Answer_any n (u / d) 1 w (by omega) (by rw [nDigits_one]; decide) (by decide))
    rw [ansQ_W n hq] at HS
    have e0 : u / d + oneIf (upWay 3 n u d) = u / d := rfl
    rw [e0]
    obtain ⟨m, x, y, hf⟩ := ansW_form n (u / d)
    rw [hf] at HS ⊢
    rw [dec_one] at HS
    clear h1 h2 hok hw hd0 hf e0 hq
    go_enter Tryd.func13, Tryd.ntmps13
    go_wp2_with fail
    refine (HO.out _).mono ?_
    rintro e wa ⟨rfl, hwa⟩
    have HBa := hid (HB0.out.trans (hwa.mono (by first | exact HSz.out | simp)))
    clear hwa
    go_wp2_with fail
    refine (HI.out _).mono ?_
    rintro e w' ⟨rfl, hw⟩
    obtain rfl := hw.symm
    obtain ⟨⟨y0, y1, y2⟩, -⟩ := own3V (HX.out _ HBa.out).1
    go_wp2_with fail
    refine (HD.out _).mono ?_
    rintro e w7 ⟨rfl, hw7⟩
    have HBa := hid (HBa.out.trans (hw7.mono (Nat.le_trans HSz.out HBa.out.size)))
    clear hw7 y0 y1 y2
    obtain ⟨⟨y0, y1, y2⟩, -⟩ := own3V (HX.out _ HBa.out).1
    go_wp2_with fail
    refine (HS.out _).mono ?_
    rintro e w8 ⟨rfl, hw8⟩
    have HB := hid (HBa.out.trans (hw8.mono (Nat.le_trans HSz.out HBa.out.size)))
    clear hw8 y0 y1 y2
    obtain ⟨⟨r0, r1, r2⟩, q0, q1, q2⟩ := own3V (HX.out _ HB.out).2.1
    go_wp2_with fail
    refine bodyPost_ret (v := .tuple #[.agg #[.bool m, .string x, .string y], .int .i64 0]) (by simp [results, Tryd.results13, go_sem, r0, r1, r2]) rfl ⟨rfl, ?_⟩
    exact below_set3 (HX.out _ HB.out).2.2 (by omega) _ _ _
  · have HS := hid (fun w => l14Nearest_any n u d w h1 h2 hd0)
    have e0 : upWay 4 n u d = upNear u d := rfl
    rw [e0]
    obtain ⟨m, x, y, hf⟩ := ansW_form n (u / d + oneIf (upNear u d))
    rw [hf] at HS ⊢
    clear h1 h2 hok hw hd0 hf e0
    go_enter Tryd.func13, Tryd.ntmps13
    go_wp2_with fail
    refine (HO.out _).mono ?_
    rintro e wa ⟨rfl, hwa⟩
    have HBa := hid (HB0.out.trans (hwa.mono (by first | exact HSz.out | simp)))
    clear hwa
    go_wp2_with fail
    refine (HI.out _).mono ?_
    rintro e w' ⟨rfl, hw⟩
    obtain rfl := hw.symm
    obtain ⟨⟨y0, y1, y2⟩, -⟩ := own3V (HX.out _ HBa.out).1
    go_wp2_with fail
    refine (HS.out _).mono ?_
    rintro e w8 ⟨rfl, hw8⟩
    have HB := hid (HBa.out.trans (hw8.mono (Nat.le_trans HSz.out HBa.out.size)))
    clear hw8 y0 y1 y2
    obtain ⟨⟨r0, r1, r2⟩, q0, q1, q2⟩ := own3V (HX.out _ HB.out).2.1
    go_wp2_with fail
    refine bodyPost_ret (v := .tuple #[.agg #[.bool m, .string x, .string y], .int .i64 0]) (by simp [results, Tryd.results13, go_sem, r0, r1, r2]) rfl ⟨rfl, ?_⟩
    exact below_set3 (HX.out _ HB.out).2.2 (by omega) _ _ _
end Go.Proofs.YteckkgbkgjhhbaaDoor

namespace Go.Proofs.YteckkgbkgjhhbaaDoor
open Go.RowKit Go.Siskin

abbrev fnV (k : Nat) : Value := .func (.func k) #[] #[]
abbrev waysV : Value := .agg #[.nilFunc, fnV 119, fnV 120, fnV 121, fnV 122]
set_option maxRecDepth 20000 in
set_option maxHeartbeats 4000000 in
theorem roundings_any (w : World) : Calls Tryd.prog 91 #[] w fun e w' => e = .returned waysV ∧ Below w.heap.size w w' := by
  go_enter Tryd.func91, Tryd.ntmps91
  go_wp2_with fail
  refine bodyPost_ret (v := waysV) (by simp [results, Tryd.results91, go_sem]) rfl ⟨rfl, ?_⟩
  exact (Below.refl _ _).alloc (Nat.le_refl _) _

abbrev DivV (m : Bool) (a2 : Option Addr) (U c2 : Nat) (s : Bool) (qa : Option Addr) (Q qc : Nat) (n : Bool) (ra : Option Addr) (L rc : Nat) : Value :=
  .agg #[.bool m, .slice a2 (grp U).length c2, .bool s, .slice qa (grp Q).length qc, .bool n, .slice ra (grp L).length rc]
abbrev DivB (m : Bool) (a2 : Option Addr) (U c2 : Nat) (s : Bool) (qa : Option Addr) (Q qc : Nat) (n : Bool) (ra : Option Addr) (L rc : Nat) : Obj :=
  box6 m (.slice a2 (grp U).length c2) s (.slice qa (grp Q).length qc) n (.slice ra (grp L).length rc)

set_option maxRecDepth 20000 in
set_option maxHeartbeats 4000000 in
theorem round1_any (m s n : Bool) (a2 qa ra : Option Addr) (U Q L c2 qc rc : Nat) (w : World) (hr : NatA w (.slice ra (grp L).length rc) (grp L)) (z : Int) (hz : (if n = true ∧ L ≠ 0 then -1 else 0) = z) :
    Calls Tryd.prog 119 #[DivV m a2 U c2 s qa Q qc n ra L rc] w fun e w' => e = .returned (.int .i64 z) ∧ Below w.heap.size w w' := by
  have HB0 : Hid (Below w.heap.size w (w.alloc (DivB m a2 U c2 s qa Q qc n ra L rc))) := (Below.refl _ _).alloc (Nat.le_refl _) _
  have HSl : Hid (∀ W, Below w.heap.size w W → Calls Tryd.prog 86 #[.agg #[.bool n, .slice ra (grp L).length rc]] W fun e w' => e = .returned (.int .i64 (signI n L)) ∧ Below W.heap.size W w') := fun W hb => intSign_any n L _ W (hr.below hb (Nat.le_refl _))
  have hc : (signI n L = 0 ∧ z = 0) ∨ (signI n L = -1 ∧ z = -1) ∨ (signI n L = 1 ∧ z = 0) := by
    rw [← hz]
    unfold signI
    by_cases h : L = 0
    · simp [h]
    · cases n <;> simp [h]
  generalize signI n L = g at *
  clear hz hr
  obtain ⟨⟨x0, x1, x2, x3, x4, x5⟩, -⟩ := own6V (own_new w #[.bool m, .slice a2 (grp U).length c2, .bool s, .slice qa (grp Q).length qc, .bool n, .slice ra (grp L).length rc] 67)
  rcases hc with ⟨rfl, rfl⟩ | ⟨rfl, rfl⟩ | ⟨rfl, rfl⟩
  all_goals
    go_enter Tryd.func119, Tryd.ntmps119
    go_wp2_with fail
    refine (HSl.out _ HB0.out).mono ?_
    rintro e w1 ⟨rfl, hw1⟩
    have HB := hid (HB0.out.trans (hw1.mono HB0.out.size))
    clear hw1
    go_wp2_with fail
    go_ret
    exact ⟨by first | rfl | (simp; done), HB.out⟩

set_option maxRecDepth 20000 in
set_option maxHeartbeats 4000000 in
theorem round2_any (m s n : Bool) (a2 qa ra : Option Addr) (U Q L c2 qc rc : Nat) (w : World) (hr : NatA w (.slice ra (grp L).length rc) (grp L)) (z : Int) (hz : (if n = false ∧ L ≠ 0 then 1 else 0) = z) :
    Calls Tryd.prog 120 #[DivV m a2 U c2 s qa Q qc n ra L rc] w fun e w' => e = .returned (.int .i64 z) ∧ Below w.heap.size w w' := by
  have HB0 : Hid (Below w.heap.size w (w.alloc (DivB m a2 U c2 s qa Q qc n ra L rc))) := (Below.refl _ _).alloc (Nat.le_refl _) _
  have HSl : Hid (∀ W, Below w.heap.size w W → Calls Tryd.prog 86 #[.agg #[.bool n, .slice ra (grp L).length rc]] W fun e w' => e = .returned (.int .i64 (signI n L)) ∧ Below W.heap.size W w') := fun W hb => intSign_any n L _ W (hr.below hb (Nat.le_refl _))
  have hc : (signI n L = 0 ∧ z = 0) ∨ (signI n L = -1 ∧ z = 0) ∨ (signI n L = 1 ∧ z = 1) := by
    rw [← hz]
    unfold signI
    by_cases h : L = 0
    · simp [h]
    · cases n <;> simp [h]
  generalize signI n L = g at *
  clear hz hr
  obtain ⟨⟨x0, x1, x2, x3, x4, x5⟩, -⟩ := own6V (own_new w #[.bool m, .slice a2 (grp U).length c2, .bool s, .slice qa (grp Q).length qc, .bool n, .slice ra (grp L).length rc] 67)
  rcases hc with ⟨rfl, rfl⟩ | ⟨rfl, rfl⟩ | ⟨rfl, rfl⟩
  all_goals
    go_enter Tryd.func120, Tryd.ntmps120
    go_wp2_with fail
    refine (HSl.out _ HB0.out).mono ?_
    rintro e w1 ⟨rfl, hw1⟩
    have HB := hid (HB0.out.trans (hw1.mono HB0.out.size))
    clear hw1
    go_wp2_with fail
    go_ret
    exact ⟨by first | rfl | (simp; done), HB.out⟩

set_option maxRecDepth 20000 in
set_option maxHeartbeats 4000000 in
theorem round3_any (m s n : Bool) (a2 qa ra : Option Addr) (U Q L c2 qc rc : Nat) (w : World) :
    Calls Tryd.prog 121 #[DivV m a2 U c2 s qa Q qc n ra L rc] w fun e w' => e = .returned (.int .i64 0) ∧ Below w.heap.size w w' := by
  go_enter Tryd.func121, Tryd.ntmps121
  go_wp2_with fail
  go_ret
  refine ⟨rfl, ?_⟩
  first
    | exact Below.refl _ _
    | exact (Below.refl _ _).alloc (Nat.le_refl _) _

/-- The step to the nearest one. -/
def stepN (n : Bool) (U Q L : Nat) : Int := if U < L + L ∨ (L + L = U ∧ Q % 2 = 1) then signI n L else 0
set_option maxRecDepth 20000 in
set_option maxHeartbeats 4000000 in
theorem nearest_any (m s n : Bool) (a2 qa ra : Option Addr) (U Q L c2 qc rc : Nat) (w : World) (hU : nG U ≤ 1000) (hL : L < U) (h2 : NatA w (.slice a2 (grp U).length c2) (grp U)) (hq : NatA w (.slice qa (grp Q).length qc) (grp Q)) (hr : NatA w (.slice ra (grp L).length rc) (grp L)) (z : Int) (hz : stepN n U Q L = z) :
    Calls Tryd.prog 122 #[DivV m a2 U c2 s qa Q qc n ra L rc] w fun e w' => e = .returned (.int .i64 z) ∧ Below w.heap.size w w' := by
  have hnL : nG L ≤ 1000 := Nat.le_trans (nG_mono (Nat.le_of_lt hL)) hU
  have hnLL : nG (L + L) ≤ 5000 := by
    obtain ⟨M, hM⟩ : ∃ M, M = 1000 := ⟨_, rfl⟩
    have h := nG_le (sum_lim (M := M) (by omega : nG L ≤ M) (by omega : nG L ≤ M))
    omega
  have HSl : Hid (∀ W, Below w.heap.size w W → Calls Tryd.prog 86 #[.agg #[.bool n, .slice ra (grp L).length rc]] W fun e w' => e = .returned (.int .i64 (signI n L)) ∧ Below W.heap.size W w') := fun W hb => intSign_any n L _ W (hr.below hb (Nat.le_refl _))
  have HPl : Hid (∀ W, Below w.heap.size w W → Calls Tryd.prog 107 #[.slice ra (grp L).length rc, .slice ra (grp L).length rc] W fun e w' => ∃ u, e = .returned u ∧ NatA w' u (grp (L + L)) ∧ Below W.heap.size W w') := fun W hb => plus_any L L _ _ W (hr.below hb (Nat.le_refl _)) (hr.below hb (Nat.le_refl _)) (by omega) (by omega)
  have HCm : Hid (∀ W u, Below w.heap.size w W → NatA W u (grp (L + L)) → Calls Tryd.prog 106 #[u, .slice a2 (grp U).length c2] W fun e w' => e = .returned (.int .i64 (ordN (L + L) U)) ∧ Below W.heap.size W w') := fun W u hb hu => compare_any (L + L) U _ _ W hu (h2.below hb (Nat.le_refl _)) hnLL (by omega)
  obtain ⟨o, ho⟩ : ∃ o, (Q % 2 == 1) = o := ⟨_, rfl⟩
  have HOd : Hid (∀ W, Below w.heap.size w W → Calls Tryd.prog 140 #[.slice qa (grp Q).length qc] W fun e w' => e = .returned (.bool o) ∧ w' = W) := fun W hb => isOdd_any Q _ W (hq.below hb (Nat.le_refl _)) o ho
  have hc : (ordN (L + L) U = -1 ∧ z = 0) ∨ (ordN (L + L) U = 0 ∧ o = false ∧ z = 0) ∨ (ordN (L + L) U = 0 ∧ o = true ∧ z = signI n L) ∨ (ordN (L + L) U = 1 ∧ z = signI n L) := by
    rw [← hz, ← ho]
    unfold stepN ordN
    rcases Nat.lt_trichotomy (L + L) U with h | h | h
    · have h1 : ¬ U < L + L := by omega
      have h2 : ¬ L + L = U := by omega
      simp [h, h1, h2]
    · have h1 : ¬ U < L + L := by omega
      have h2 : ¬ L + L < U := by omega
      by_cases h3 : Q % 2 = 1 <;> simp [h, h3]
    · have h1 : ¬ L + L < U := by omega
      simp [h, h1]
  generalize ordN (L + L) U = g at *
  generalize signI n L = sg at *
  clear hU hL h2 hq hr hz ho hnL hnLL
  have HY : Hid (∀ W, Below (w.heap.size + 1) (w.alloc (DivB m a2 U c2 s qa Q qc n ra L rc)) W → Own W w.heap.size 67 #[.bool m, .slice a2 (grp U).length c2, .bool s, .slice qa (grp Q).length qc, .bool n, .slice ra (grp L).length rc] ∧ Below w.heap.size w W) := fun W h => ⟨(own_new w #[.bool m, .slice a2 (grp U).length c2, .bool s, .slice qa (grp Q).length qc, .bool n, .slice ra (grp L).length rc] 67).keep h (Nat.lt_succ_self _), res_done h⟩
  have HB0 : Hid (Below (w.heap.size + 1) (w.alloc (DivB m a2 U c2 s qa Q qc n ra L rc)) (w.alloc (DivB m a2 U c2 s qa Q qc n ra L rc))) := Below.refl _ _
  have HSz : Hid (w.heap.size + 1 ≤ (w.alloc (DivB m a2 U c2 s qa Q qc n ra L rc)).heap.size) := by show _ ≤ _; simp
  have HL : Hid (∀ W, Below (w.heap.size + 1) (w.alloc (DivB m a2 U c2 s qa Q qc n ra L rc)) W → W.cell? ⟨w.heap.size, 1, none⟩ = some (.slice a2 (grp U).length c2) ∧ W.cell? ⟨w.heap.size, 5, none⟩ = some (.slice ra (grp L).length rc)) := fun W h => by
    obtain ⟨⟨-, c1, -, -, -, c5⟩, -⟩ := own6V (HY.out _ h).1
    exact ⟨c1, c5⟩
  rcases hc with ⟨rfl, rfl⟩ | ⟨rfl, rfl, rfl⟩ | ⟨rfl, rfl, hz⟩ | ⟨rfl, hz⟩
  all_goals
    try obtain rfl := hz.symm
    go_enter Tryd.func122, Tryd.ntmps122
    go_wp2_with fail
    have HB := hid HB0.out.drew
    go_region_held3 (fun W => W.cell? ⟨w.heap.size, 1, none⟩ = some (.slice a2 (grp U).length c2) ∧ W.cell? ⟨w.heap.size, 5, none⟩ = some (.slice ra (grp L).length rc))
      (first | exact HL.out _ HB.out)
      (first
        | (go_at_call 107
           go_loud (
             refine (HPl.out _ (HY.out _ HB.out).2).mono ?_
             rintro e w5 ⟨u, rfl, hu, hw5⟩
             obtain ⟨ua, uc, rfl⟩ := natA_formR hu
             have HUU := hid hu
             have HB := hid (HB.out.trans (hw5.mono (Nat.le_trans HSz.out HB.out.size)))
             clear hw5 hu))
        | (go_at_call 106
           go_loud (
             refine (HCm.out _ _ (HY.out _ HB.out).2 HUU.out).mono ?_
             rintro e w5 ⟨rfl, hw5⟩
             have HB := hid (HB.out.trans (hw5.mono (Nat.le_trans HSz.out HB.out.size)))
             clear hw5)))
    obtain ⟨⟨x0, x1, x2, x3, x4, x5⟩, -⟩ := own6V (HY.out _ HB.out).1
    go_wp2_with fail
    try
      (go_at_call 140
       refine (HOd.out _ (HY.out _ HB.out).2).mono ?_
       rintro e w6 ⟨rfl, hw6⟩
       obtain rfl := hw6.symm
       go_wp2_with fail)
    try
      (go_at_call 86
       refine (HSl.out _ (HY.out _ HB.out).2).mono ?_
       rintro e w7 ⟨rfl, hw7⟩
       have HB := hid (HB.out.trans (hw7.mono (Nat.le_trans HSz.out HB.out.size)))
       clear hw7 x0 x1 x2 x3 x4 x5
       go_wp2_with fail)
    go_ret
    exact ⟨rfl, (HY.out _ HB.out).2⟩
end Go.Proofs.YteckkgbkgjhhbaaDoor

namespace Go.Proofs.YteckkgbkgjhhbaaDoor
open Go.RowKit Go.Siskin

abbrev allB : Obj := (.cells #[.nilFunc, fnV 119, fnV 120, fnV 121, fnV 122] 105)
theorem eqlNil (w : World) : (binOp BinOp.eql 104 Value.nilFunc Value.nilFunc).run Tryd.prog w = .ok (.bool true) w := by kernel_rfl
theorem eqlFn (k : Nat) (w : World) : (binOp BinOp.eql 104 (Value.func (.func k) #[] #[]) Value.nilFunc).run Tryd.prog w = .ok (.bool false) w := by kernel_rfl
set_option maxRecDepth 20000 in
set_option maxHeartbeats 4000000 in
theorem rounded_no (n : Bool) (T R : ByteArray) (way : Int) (p b : Bool) (U D : Nat) (w : World) (hP : Pow9 w) (hno : b = false ∨ ¬ (1 ≤ way ∧ way ≤ 4))
    (hO : ∀ w, Pow9 w → Calls Tryd.prog 83 #[.agg #[.bool n, .string T, .string R]] w fun e w' => ∃ ua uc da dc, e = .returned (.tuple #[.agg #[.bool p, .slice ua (grp U).length uc, .slice da (grp D).length dc], .bool b]) ∧ NatA w' (.slice ua (grp U).length uc) (grp U) ∧ NatA w' (.slice da (grp D).length dc) (grp D) ∧ Below w.heap.size w w') :
    Calls Tryd.prog 48 #[.agg #[.bool n, .string T, .string R], .int .i64 way] w fun e w' => e = .returned (.tuple #[int0, whyV 1]) ∧ Below w.heap.size w w' := by
  have HO := hid hO
  have HPw := hid hP
  have HRo := hid (fun w => roundings_any w)
  have hcase : b = false ∨ (b = true ∧ way < 0) ∨ (b = true ∧ ¬ way < 0 ∧ 5 ≤ way) ∨ (b = true ∧ way = 0) := by
    cases b
    · exact Or.inl rfl
    · rcases hno with h | h
      · cases h
      · by_cases h1 : way < 0
        · exact Or.inr (Or.inl ⟨rfl, h1⟩)
        · by_cases h2 : way = 0
          · exact Or.inr (Or.inr (Or.inr ⟨rfl, h2⟩))
          · exact Or.inr (Or.inr (Or.inl ⟨rfl, h1, by omega⟩))
  have en := eqlNil
  clear hO hP hno
  have HX : Hid (∀ W, Below (w.heap.size + 2) ((w.alloc (boxN n T R)).alloc boxI0) W → Own W w.heap.size 25 #[.bool n, .string T, .string R] ∧ Own W (w.heap.size + 1) 55 #[.bool false, .slice none 0 0] ∧ Below w.heap.size w W) := fun W h => boxes2 w _ _ _ _ h
  have HB0 : Hid (Below (w.heap.size + 2) ((w.alloc (boxN n T R)).alloc boxI0) ((w.alloc (boxN n T R)).alloc boxI0)) := Below.refl _ _
  have HSz : Hid (w.heap.size + 2 ≤ ((w.alloc (boxN n T R)).alloc boxI0).heap.size) := by show _ ≤ _; simp
  have HP0 := hid (HPw.out.below (HX.out _ HB0.out).2.2 (Nat.le_refl _))
  rcases hcase with rfl | ⟨rfl, hw0⟩ | ⟨rfl, hw0, hw5⟩ | ⟨rfl, rfl⟩
  all_goals
    go_enter Tryd.func48, Tryd.ntmps48
    go_wp2_with fail
    refine (HO.out _ HP0.out).mono ?_
    rintro e w1 ⟨ua, uc, da, dc, rfl, hu, hd, hw1⟩
    have HU := hid hu
    have HD := hid hd
    have HB1 := hid (HB0.out.trans (hw1.mono (by first | exact HSz.out | simp)))
    have HSz1 := hid (Nat.le_trans HSz.out HB1.out.size)
    have HB1a : Hid (Below (w.heap.size + 2) ((w.alloc (boxN n T R)).alloc boxI0) (w1.alloc (.cells #[.bool p, .slice ua (grp U).length uc, .slice da (grp D).length dc] 90))) := HB1.out.alloc HSz1.out _
    clear hu hd hw1
    go_wp2_with fail
    refine (HRo.out _).mono ?_
    rintro e w2 ⟨rfl, hw2⟩
    have HB2 := hid (HB1a.out.trans (hw2.mono (Nat.le_trans HSz.out HB1a.out.size)))
    have HSz2 := hid (Nat.le_trans HSz.out HB2.out.size)
    have HB3 : Hid (Below (w.heap.size + 2) ((w.alloc (boxN n T R)).alloc boxI0) (w2.alloc allB)) := HB2.out.alloc HSz2.out _
    obtain ⟨⟨r0, r1⟩, q0, q1⟩ := own2V (HX.out _ HB3.out).2.1
    clear hw2
    go_wp2_with fail
    refine bodyPost_ret (v := .tuple #[int0, whyV 1]) (by simp [results, Tryd.results48, go_sem, r0, r1]) rfl ⟨rfl, ?_⟩
    exact below_set2 (HX.out _ HB3.out).2.2 (by omega) _ _

/-- What is known of a step: of its way, the sign of what is left. -/
abbrev stepW (way : Int) (n : Bool) (U D : Nat) : Int :=
  if way = 1 then (if n = true ∧ U % D ≠ 0 then -1 else 0) else if way = 2 then (if n = false ∧ U % D ≠ 0 then 1 else 0) else if way = 3 then 0 else stepN n D (U / D) (U % D)
theorem stepW_up (way : Int) (n : Bool) (U D : Nat) : sumN n (U / D) (decide (stepW way n U D < 0)) (stepW way n U D).natAbs = n ∧ sumZ n (U / D) (decide (stepW way n U D < 0)) (stepW way n U D).natAbs = U / D + oneIf (upWay way n U D) ∧ -1 ≤ stepW way n U D ∧ stepW way n U D ≤ 1 := by
  have hz : ∀ (z : Int) (b : Bool), ((z = 0 ∧ b = false) ∨ (z = -1 ∧ n = true ∧ b = true) ∨ (z = 1 ∧ n = false ∧ b = true)) → sumN n (U / D) (decide (z < 0)) z.natAbs = n ∧ sumZ n (U / D) (decide (z < 0)) z.natAbs = U / D + oneIf b ∧ -1 ≤ z ∧ z ≤ 1 := by
    rintro z b (⟨rfl, rfl⟩ | ⟨rfl, rfl, rfl⟩ | ⟨rfl, rfl, rfl⟩)
    · cases n <;> simp [sumN, sumZ, oneIf]
    · simp [sumN, sumZ, oneIf]
    · simp [sumN, sumZ, oneIf]
  refine hz _ _ ?_
  unfold stepW upWay
  by_cases h1 : way = 1
  · simp only [h1, if_true]
    unfold upDown
    by_cases h : U % D = 0 <;> cases n <;> simp [h]
  · by_cases h2 : way = 2
    · subst h2
      have e : ¬ ((2 : Int) = 1) := by decide
      simp only [e, if_false, if_true]
      unfold upDown
      by_cases h : U % D = 0 <;> cases n <;> simp [h]
    · by_cases h3 : way = 3
      · simp [h3]
      · simp only [h1, h2, h3, if_false]
        unfold stepN signI upNear
        by_cases hL : U % D = 0
        · by_cases c1 : D < U % D + U % D
          · omega
          · by_cases c2 : U % D + U % D = D
            · have : D = 0 := by omega
              subst this
              simp [hL]
            · simp [c1, c2]
        · by_cases c1 : D < U % D + U % D
          · cases n <;> simp [c1, hL]
          · by_cases c2 : U % D + U % D = D
            · by_cases c3 : U / D % 2 = 1
              · cases n <;> simp [c2, c3, hL]
              · simp [c2, c3]
            · simp [c1, c2]
end Go.Proofs.YteckkgbkgjhhbaaDoor
