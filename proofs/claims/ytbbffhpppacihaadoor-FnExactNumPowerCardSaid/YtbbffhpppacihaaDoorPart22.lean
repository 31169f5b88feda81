/-
  Stage 8, the program: dividedOf. Condition: the table of powers and errors.errorType stand.
  The laws FnExactNumMul, NumDiv and the others of two numbers. Condition: the table of powers stands. Made by wip/tools/genup.py.
-/
import Derived.Test.YtbbffhpppacihaaDoorPart21
import Derived.Test.YtbbffhpppacihaaDoorPart17
import Derived.Test.YtbbffhpppacihaaDoorPart12
namespace Go.Proofs.YtbbffhpppacihaaDoor
open Go.RowKit Go.Siskin

abbrev div0 : Value := .agg #[.bool false, .slice none 0 0, .bool false, .slice none 0 0, .bool false, .slice none 0 0]
abbrev box60 : Obj := box6 false (.slice none 0 0) false (.slice none 0 0) false (.slice none 0 0)
/-- What integersOf tells of two whole numbers. -/
def IntPost (p1 p2 : Bool) (U1 U2 : Nat) (w : World) (e : Ending) (w' : World) : Prop :=
  ∃ a1 c1 a2 c2, e = .returned (.tuple #[.agg #[.bool p1, .slice a1 (grp U1).length c1], .agg #[.bool p2, .slice a2 (grp U2).length c2], .nilIface]) ∧ NatA w' (.slice a1 (grp U1).length c1) (grp U1) ∧ NatA w' (.slice a2 (grp U2).length c2) (grp U2) ∧ Below w.heap.size w w'

set_option maxRecDepth 20000 in
set_option maxHeartbeats 4000000 in
theorem dividedOf_err (n1 n2 : Bool) (T1 R1 T2 R2 : ByteArray) (c : Int) (w : World) (hP : Pow9 w)
    (hI : ∀ w, Pow9 w → Calls Tryd.prog 60 #[.agg #[.bool n1, .string T1, .string R1], .agg #[.bool n2, .string T2, .string R2]] w fun e w' => e = .returned (.tuple #[int0, int0, whyV c]) ∧ Below w.heap.size w w') :
    Calls Tryd.prog 35 #[.agg #[.bool n1, .string T1, .string R1], .agg #[.bool n2, .string T2, .string R2]] w fun e w' => e = .returned (.tuple #[div0, whyV c]) ∧ Below w.heap.size w w' := by
  have HI := hid hI
  have HPw := hid hP
  clear hI hP
  have HX : Hid (∀ W, Below (w.heap.size + 3) (((w.alloc (boxN n1 T1 R1)).alloc (boxN n2 T2 R2)).alloc box60) W → Own W w.heap.size 25 #[.bool n1, .string T1, .string R1] ∧ Own W (w.heap.size + 1) 25 #[.bool n2, .string T2, .string R2] ∧ Own W (w.heap.size + 1 + 1) 52 #[.bool false, .slice none 0 0, .bool false, .slice none 0 0, .bool false, .slice none 0 0] ∧ Below w.heap.size w W) := fun W h => boxes3 w _ _ _ _ _ _ h
  have HB0 : Hid (Below (w.heap.size + 3) (((w.alloc (boxN n1 T1 R1)).alloc (boxN n2 T2 R2)).alloc box60) (((w.alloc (boxN n1 T1 R1)).alloc (boxN n2 T2 R2)).alloc box60)) := Below.refl _ _
  have HSz : Hid (w.heap.size + 3 ≤ (((w.alloc (boxN n1 T1 R1)).alloc (boxN n2 T2 R2)).alloc box60).heap.size) := by show _ ≤ _; simp
  have HP0 := hid (HPw.out.below (HX.out _ HB0.out).2.2.2 (Nat.le_refl _))
  go_enter Tryd.func35, Tryd.ntmps35
  go_wp2_with fail
  refine (HI.out _ HP0.out).mono ?_
  rintro e w1 ⟨rfl, hw1⟩
  have HB1 := hid (HB0.out.trans (hw1.mono (by first | exact HSz.out | simp)))
  have HSz1 := hid (Nat.le_trans HSz.out HB1.out.size)
  have HB2 : Hid (Below (w.heap.size + 3) (((w.alloc (boxN n1 T1 R1)).alloc (boxN n2 T2 R2)).alloc box60) ((w1.alloc boxI0).alloc boxI0)) := (HB1.out.alloc HSz1.out _).alloc (by rw [World.size_alloc]; exact Nat.le_trans HSz1.out (Nat.le_succ _)) _
  obtain ⟨⟨r0, r1, r2, r3, r4, r5⟩, q0, q1, q2, q3, q4, q5⟩ := own6V (HX.out _ HB2.out).2.2.1
  clear hw1
  go_wp2_with fail
  refine bodyPost_ret (v := .tuple #[div0, whyV c]) (by simp [results, Tryd.results35, go_sem, r0, r1, r2, r3, r4, r5]) rfl ⟨rfl, ?_⟩
  exact below_set6 (HX.out _ HB2.out).2.2.2 (by omega) _ _ _ _ _ _

set_option maxRecDepth 20000 in
set_option maxHeartbeats 4000000 in
theorem dividedOf_nought (n1 n2 p1 p2 : Bool) (T1 R1 T2 R2 : ByteArray) (U1 : Nat) (w : World) (hP : Pow9 w)
    (hI : ∀ w, Pow9 w → Calls Tryd.prog 60 #[.agg #[.bool n1, .string T1, .string R1], .agg #[.bool n2, .string T2, .string R2]] w (IntPost p1 p2 U1 0 w)) :
    Calls Tryd.prog 35 #[.agg #[.bool n1, .string T1, .string R1], .agg #[.bool n2, .string T2, .string R2]] w fun e w' => e = .returned (.tuple #[div0, whyV 2]) ∧ Below w.heap.size w w' := by
  have HI := hid hI
  have HPw := hid hP
  clear hI hP
  have HX : Hid (∀ W, Below (w.heap.size + 3) (((w.alloc (boxN n1 T1 R1)).alloc (boxN n2 T2 R2)).alloc box60) W → Own W w.heap.size 25 #[.bool n1, .string T1, .string R1] ∧ Own W (w.heap.size + 1) 25 #[.bool n2, .string T2, .string R2] ∧ Own W (w.heap.size + 1 + 1) 52 #[.bool false, .slice none 0 0, .bool false, .slice none 0 0, .bool false, .slice none 0 0] ∧ Below w.heap.size w W) := fun W h => boxes3 w _ _ _ _ _ _ h
  have HB0 : Hid (Below (w.heap.size + 3) (((w.alloc (boxN n1 T1 R1)).alloc (boxN n2 T2 R2)).alloc box60) (((w.alloc (boxN n1 T1 R1)).alloc (boxN n2 T2 R2)).alloc box60)) := Below.refl _ _
  have HSz : Hid (w.heap.size + 3 ≤ (((w.alloc (boxN n1 T1 R1)).alloc (boxN n2 T2 R2)).alloc box60).heap.size) := by show _ ≤ _; simp
  have HP0 := hid (HPw.out.below (HX.out _ HB0.out).2.2.2 (Nat.le_refl _))
  go_enter Tryd.func35, Tryd.ntmps35
  go_wp2_with fail
  refine (HI.out _ HP0.out).mono ?_
  rintro e w1 ⟨a1, c1, a2, c2, rfl, hu1, hu2, hw1⟩
  have HB1 := hid (HB0.out.trans (hw1.mono (by first | exact HSz.out | simp)))
  have HSg : Hid (∀ W, Below w1.heap.size w1 W → Calls Tryd.prog 53 #[.agg #[.bool p2, .slice a2 (grp 0).length c2]] W fun e w' => e = .returned (.int .i64 0) ∧ Below W.heap.size W w') := fun W hb => intSign_any p2 0 _ W (hu2.below hb (Nat.le_refl _))
  have HSz1 := hid (Nat.le_trans HSz.out HB1.out.size)
  obtain ⟨W2, HW2⟩ : ∃ W, Hid ((w1.alloc (boxI p1 (.slice a1 (grp U1).length c1))).alloc (boxI p2 (.slice a2 (grp 0).length c2)) = W) := ⟨_, rfl⟩
  have HC2 : Hid (Below w1.heap.size w1 W2) := by rw [← HW2.out]; exact ((Below.refl _ _).alloc (Nat.le_refl _) _).alloc (by simp) _
  have HB2 := hid (HB1.out.trans (HC2.out.mono HSz1.out))
  obtain ⟨⟨y0, y1⟩, -⟩ := own2V (boxes2 w1 _ _ _ _ (Below.refl _ ((w1.alloc (boxI p1 (.slice a1 (grp U1).length c1))).alloc (boxI p2 (.slice a2 (grp 0).length c2))))).2.1
  rw [HW2.out] at y0 y1
  clear hw1 hu1 hu2
  go_wp2_with fail
  rw [HW2.out]
  go_wp2_with fail
  refine (HSg.out _ HC2.out).mono ?_
  rintro e w2 ⟨rfl, hw2⟩
  have HB3 := hid (HB2.out.trans (hw2.mono (Nat.le_trans HSz.out HB2.out.size)))
  obtain ⟨⟨r0, r1, r2, r3, r4, r5⟩, q0, q1, q2, q3, q4, q5⟩ := own6V (HX.out _ HB3.out).2.2.1
  clear hw2 y0 y1
  go_wp2_with fail
  refine bodyPost_ret (v := .tuple #[div0, whyV 2]) (by simp [results, Tryd.results35, go_sem, r0, r1, r2, r3, r4, r5]) rfl ⟨rfl, ?_⟩
  exact below_set6 (HX.out _ HB3.out).2.2.2 (by omega) _ _ _ _ _ _

set_option maxRecDepth 20000 in
set_option maxHeartbeats 4000000 in
theorem dividedOf_ok (n1 n2 p1 p2 s : Bool) (T1 R1 T2 R2 : ByteArray) (U1 U2 : Nat) (w : World) (hs : (p1 != p2) = s) (hu : U2 ≠ 0) (hn : nG U1 ≤ 1000) (hP : Pow9 w)
    (hI : ∀ w, Pow9 w → Calls Tryd.prog 60 #[.agg #[.bool n1, .string T1, .string R1], .agg #[.bool n2, .string T2, .string R2]] w (IntPost p1 p2 U1 U2 w)) :
    Calls Tryd.prog 35 #[.agg #[.bool n1, .string T1, .string R1], .agg #[.bool n2, .string T2, .string R2]] w fun e w' => ∃ a2 c2 qa qc ra rc, e = .returned (.tuple #[.agg #[.bool p2, .slice a2 (grp U2).length c2, .bool s, .slice qa (grp (U1 / U2)).length qc, .bool p1, .slice ra (grp (U1 % U2)).length rc], .nilIface]) ∧ NatA w' (.slice a2 (grp U2).length c2) (grp U2) ∧ NatA w' (.slice qa (grp (U1 / U2)).length qc) (grp (U1 / U2)) ∧ NatA w' (.slice ra (grp (U1 % U2)).length rc) (grp (U1 % U2)) ∧ Below w.heap.size w w' := by
  have HI := hid hI
  have HPw := hid hP
  have hz : signI p2 U2 = -1 ∨ signI p2 U2 = 1 := by
    unfold signI
    cases p2 <;> simp [hu]
  have HU := hid (Nat.pos_of_ne_zero hu)
  have HN := hid hn
  have HSS := hid hs
  clear hI hP hu hn hs
  have HX : Hid (∀ W, Below (w.heap.size + 3) (((w.alloc (boxN n1 T1 R1)).alloc (boxN n2 T2 R2)).alloc box60) W → Own W w.heap.size 25 #[.bool n1, .string T1, .string R1] ∧ Own W (w.heap.size + 1) 25 #[.bool n2, .string T2, .string R2] ∧ Own W (w.heap.size + 1 + 1) 52 #[.bool false, .slice none 0 0, .bool false, .slice none 0 0, .bool false, .slice none 0 0] ∧ Below w.heap.size w W) := fun W h => boxes3 w _ _ _ _ _ _ h
  have HB0 : Hid (Below (w.heap.size + 3) (((w.alloc (boxN n1 T1 R1)).alloc (boxN n2 T2 R2)).alloc box60) (((w.alloc (boxN n1 T1 R1)).alloc (boxN n2 T2 R2)).alloc box60)) := Below.refl _ _
  have HSz : Hid (w.heap.size + 3 ≤ (((w.alloc (boxN n1 T1 R1)).alloc (boxN n2 T2 R2)).alloc box60).heap.size) := by show _ ≤ _; simp
  have HP0 := hid (HPw.out.below (HX.out _ HB0.out).2.2.2 (Nat.le_refl _))
  have HZ := hid (fun v w h => intSign_any p2 U2 v w h)
  generalize signI p2 U2 = z at *
  rcases hz with rfl | rfl
  all_goals
    go_enter Tryd.func35, Tryd.ntmps35
    go_wp2_with fail
    refine (HI.out _ HP0.out).mono ?_
    rintro e w1 ⟨a1, c1, a2, c2, rfl, hu1, hu2, hw1⟩
    have HU1 := hid hu1
    have HU2 := hid hu2
    have HB1 := hid (HB0.out.trans (hw1.mono (by first | exact HSz.out | simp)))
    have HSg : Hid (∀ W, Below w1.heap.size w1 W → Calls Tryd.prog 53 #[.agg #[.bool p2, .slice a2 (grp U2).length c2]] W fun e w' => e = .returned (.int .i64 _) ∧ Below W.heap.size W w') := fun W hb => HZ.out _ W (hu2.below hb (Nat.le_refl _))
    have HDb : Hid (∀ W, Below w1.heap.size w1 W → Calls Tryd.prog 65 #[.agg #[.bool p1, .slice a1 (grp U1).length c1], .agg #[.bool p2, .slice a2 (grp U2).length c2]] W fun e w' => ∃ qa qc ra rc, e = .returned (.agg #[.bool p2, .slice a2 (grp U2).length c2, .bool s, .slice qa (grp (U1 / U2)).length qc, .bool p1, .slice ra (grp (U1 % U2)).length rc]) ∧ NatA w' (.slice qa (grp (U1 / U2)).length qc) (grp (U1 / U2)) ∧ NatA w' (.slice ra (grp (U1 % U2)).length rc) (grp (U1 % U2)) ∧ Below W.heap.size W w') := fun W hb => intDividedBy_any p1 p2 s U1 U2 _ _ _ _ _ _ W HSS.out (hu1.below hb (Nat.le_refl _)) (hu2.below hb (Nat.le_refl _)) HU.out HN.out
    have HSz1 := hid (Nat.le_trans HSz.out HB1.out.size)
    obtain ⟨W2, HW2⟩ : ∃ W, Hid ((w1.alloc (boxI p1 (.slice a1 (grp U1).length c1))).alloc (boxI p2 (.slice a2 (grp U2).length c2)) = W) := ⟨_, rfl⟩
    have HC2 : Hid (Below w1.heap.size w1 W2) := by rw [← HW2.out]; exact ((Below.refl _ _).alloc (Nat.le_refl _) _).alloc (by simp) _
    have HC3 : Hid (∀ W, Below (w1.heap.size + 2) W2 W → Own W w1.heap.size 50 #[.bool p1, .slice a1 (grp U1).length c1] ∧ Own W (w1.heap.size + 1) 50 #[.bool p2, .slice a2 (grp U2).length c2] ∧ Below w1.heap.size w1 W) := fun W h => by
      rw [← HW2.out] at h
      exact boxes2 w1 _ _ _ _ h
    have HC0 : Hid (Below (w1.heap.size + 2) W2 W2) := Below.refl _ _
    have HS2 : Hid (w1.heap.size + 2 ≤ W2.heap.size) := by show _ ≤ _; rw [← HW2.out]; simp
    obtain ⟨⟨y0, y1⟩, -⟩ := own2V (HC3.out _ HC0.out).2.1
    clear hw1 hu1 hu2
    go_wp2_with fail
    rw [HW2.out]
    go_wp2_with fail
    refine (HSg.out _ HC2.out).mono ?_
    rintro e w2 ⟨rfl, hw2⟩
    have HC4 := hid (HC0.out.trans (hw2.mono HS2.out))
    clear hw2 y0 y1
    obtain ⟨⟨x0, x1⟩, -⟩ := own2V (HC3.out _ HC4.out).1
    obtain ⟨⟨y0, y1⟩, -⟩ := own2V (HC3.out _ HC4.out).2.1
    go_wp2_with fail
    refine (HDb.out _ (HC3.out _ HC4.out).2.2).mono ?_
    rintro e w3 ⟨qa, qc, ra, rc, rfl, hq, hr, hw3⟩
    have HQ := hid hq
    have HR := hid hr
    have HC5 := hid (HC4.out.trans (hw3.mono (Nat.le_trans HS2.out HC4.out.size)))
    have HB5 := hid (HB1.out.trans ((HC3.out _ HC5.out).2.2.mono HSz1.out))
    obtain ⟨⟨r0, r1, r2, r3, r4, r5⟩, q0, q1, q2, q3, q4, q5⟩ := own6V (HX.out _ HB5.out).2.2.1
    have HY2 := hid (HU2.out.below (HC3.out _ HC5.out).2.2 (Nat.le_refl _))
    clear hq hr hw3 x0 x1 y0 y1
    go_wp2_with fail
    refine bodyPost_ret (v := .tuple #[.agg #[.bool p2, .slice a2 (grp U2).length c2, .bool s, .slice qa (grp (U1 / U2)).length qc, .bool p1, .slice ra (grp (U1 % U2)).length rc], .nilIface]) (by simp [results, Tryd.results35, go_sem, r0, r1, r2, r3, r4, r5]) rfl ⟨a2, c2, qa, qc, ra, rc, rfl, ?_, ?_, ?_, ?_⟩
    · exact natA_set6 HY2.out (HX.out _ HB5.out).2.2.1 _ _ _ _ _ _
    · exact natA_set6 HQ.out (HX.out _ HB5.out).2.2.1 _ _ _ _ _ _
    · exact natA_set6 HR.out (HX.out _ HB5.out).2.2.1 _ _ _ _ _ _
    · exact below_set6 (HX.out _ HB5.out).2.2.2 (by omega) _ _ _ _ _ _
end Go.Proofs.YtbbffhpppacihaaDoor

namespace Go.Proofs.YtbbffhpppacihaaDoor
open Go.RowKit Go.Siskin

theorem szN_le (a b : Nat) (left : Int) (h : left ≤ 1048576) : szN a b left ≤ 1048576 := by
  unfold szN
  split
  · decide
  · split
    · decide
    · omega

theorem both_parts {n1 n2 : Bool} {T1 R1 T2 R2 : ByteArray} {b1 p1 b2 p2 : Bool} {U1 D1 U2 D2 : Nat} (o1 : OpenP n1 T1 R1 b1 p1 U1 D1) (o2 : OpenP n2 T2 R2 b2 p2 U2 D2) :
    (b1 = true ∧ b2 = true ∧ n1 = p1 ∧ n2 = p2 ∧ T1 = dec U1 ∧ R1 = dec D1 ∧ T2 = dec U2 ∧ R2 = dec D2 ∧ T1.size ≤ 60 ∧ R1.size ≤ 60 ∧ T2.size ≤ 60 ∧ R2.size ≤ 60 ∧ OkUD n1 U1 D1 ∧ OkUD n2 U2 D2) ∨ ((b1 && b2) = false ∧ ¬ (NumP n1 T1 R1 ∧ NumP n2 T2 R2)) := by
  rcases o1 with ⟨rfl, rfl, e1, e2, s1, s2, k1⟩ | ⟨rfl, h1, -, -, -⟩
  · rcases o2 with ⟨rfl, rfl, e3, e4, s3, s4, k2⟩ | ⟨rfl, h2, -, -, -⟩
    · exact Or.inl ⟨rfl, rfl, rfl, rfl, e1, e2, e3, e4, s1, s2, s3, s4, k1, k2⟩
    · exact Or.inr ⟨rfl, fun h => h2 h.2⟩
  · exact Or.inr ⟨rfl, fun h => h1 h.1⟩

theorem numMul_both (n1 n2 : Bool) (T1 R1 T2 R2 : ByteArray) (h1 : T1.size ≤ maxLen) (h2 : R1.size ≤ maxLen) (h3 : T2.size ≤ maxLen) (h4 : R2.size ≤ maxLen) : ∃ (n : Bool) (x y : ByteArray) (c : Int),
    (∀ w, Calls Tryd.prog 39 #[.agg #[.bool n1, .string T1, .string R1], .agg #[.bool n2, .string T2, .string R2]] w fun e w' => e = .returned (.tuple #[.agg #[.bool n, .string x, .string y], .int .i64 c]) ∧ Below w.heap.size w w') ∧
    (∀ w, Pow9 w → Calls Tryd.prog 19 #[.agg #[.bool n1, .string T1, .string R1], .agg #[.bool n2, .string T2, .string R2]] w fun e w' => e = .returned (.tuple #[.agg #[.bool n, .string x, .string y], .int .i64 c]) ∧ Below w.heap.size w w') := by
  obtain ⟨b1, p1, U1, D1, o1, c1⟩ := openNum_all n1 T1 R1 h1 h2
  obtain ⟨b2, p2, U2, D2, o2, c2⟩ := openNum_all n2 T2 R2 h3 h4
  have g1 := o1.small
  have g2 := o2.small
  rcases both_parts o1 o2 with ⟨rfl, rfl, rfl, rfl, rfl, rfl, rfl, rfl, s1, s2, s3, s4, k1, k2⟩ | ⟨hb, hno⟩
  · obtain ⟨n, x, y, c, hf⟩ := ansQ_form (n1 != n2) (U1 * U2) (D1 * D2)
    refine ⟨n, x, y, c, fun w => ?_, fun w hP => ?_⟩
    · have h := specNumMul_yes n1 n2 U1 D1 U2 D2 w s1 s2 s3 s4 k1 k2
      rw [hf] at h
      exact h
    · have h := implNumMul_of n1 n2 _ _ _ _ true true n1 n2 U1 D1 U2 D2 w c1 c2 g1.1 g1.2 g2.1 g2.2 (fun _ => ⟨Nat.pos_of_ne_zero k1.1, Nat.pos_of_ne_zero k2.1⟩) hP
      rw [if_pos (show (true && true) = true from rfl), hf] at h
      exact h
  · refine ⟨false, ⟨#[]⟩, ⟨#[]⟩, _, fun w => specNumMul_no n1 n2 T1 R1 T2 R2 w h1 h2 h3 h4 hno, fun w hP => ?_⟩
    have h := implNumMul_of n1 n2 _ _ _ _ b1 b2 p1 p2 U1 D1 U2 D2 w c1 c2 g1.1 g1.2 g2.1 g2.2 (fun h => by rw [hb] at h; cases h) hP
    rw [hb, if_neg (by decide)] at h
    exact h
end Go.Proofs.YtbbffhpppacihaaDoor
