/-
  Stage 8, the program: dividedOf. Condition: the table of powers and errors.errorType stand.
  The model of stage 8: NumQuo, NumMod, NumGcd. Condition: none but that texts are no longer than a text may be.
  Stage 8, the program: leftDownward. Condition: the groups lie in memory as NatA says.
-/
import Derived.Test.YtbbffhpppacihaaDoorPart22
import Derived.Test.YtbbffhpppacihaaDoorPart19
namespace Go.Proofs.YtbbffhpppacihaaDoor
open Go.RowKit Go.Siskin

abbrev div0 : Value := .agg #[.bool false, .slice none 0 0, .bool false, .slice none 0 0, .bool false, .slice none 0 0]
abbrev box60 : Obj := box6 false (.slice none 0 0) false (.slice none 0 0) false (.slice none 0 0)
/-- What integersOf tells of two whole numbers. -/
def IntPost (p1 p2 : Bool) (U1 U2 : Nat) (w : World) (e : Ending) (w' : World) : Prop :=
  ∃ a1 c1 a2 c2, e = .returned (.tuple #[.agg #[.bool p1, .slice a1 (grp U1).length c1], .agg #[.bool p2, .slice a2 (grp U2).length c2], .nilIface]) ∧ NatA w' (.slice a1 (grp U1).length c1) (grp U1) ∧ NatA w' (.slice a2 (grp U2).length c2) (grp U2) ∧ Below w.heap.size w w'

set_option maxRecDepth 20000 in
set_option maxHeartbeats 4000000 in
theorem dividedOf_err (n1 n2 : Bool) (T1 R1 T2 R2 : ByteArray) (c : Int) (w : World) (hP : Pow9 w)
    (hI : ∀ w, Pow9 w → Calls Tryd.prog 60 #[.agg #[.bool n1, .string T1, .string R1], .agg #[.bool n2, .string T2, .string R2]] w fun e w' => e = .returned (.tuple #[int0, int0, whyV c]) ∧ Below w.heap.size w w') :
    Calls Tryd.prog 35 #[.agg #[.bool n1, .string T1, .string R1], .agg #[.bool n2, .string T2, .string R2]] w fun e w' => e = .returned (.tuple #[div0, whyV c]) ∧ Below w.heap.size w w' := by
  have HI := hid hI
  have HPw := hid hP
  clear hI hP
  have HX : Hid (∀ W, Below (w.heap.size + 3) (((w.alloc (boxN n1 T1 R1)).alloc (boxN n2 T2 R2)).alloc box60) W → Own W w.heap.size 25 #[.bool n1, .string T1, .string R1] ∧ Own W (w.heap.size + 1) 25 #[.bool n2, .string T2, .string R2] ∧ Own W (w.heap.size + 1 + 1) 52 #[.bool false, .slice none 0 0, .bool false, .slice none 0 0, .bool false, .slice none 0 0] ∧ Below w.heap.size w W) := fun W h => boxes3 w _ _ _ _ _ _ h
  have HB0 : Hid (Below (w.heap.size + 3) (((w.alloc (boxN n1 T1 R1)).alloc (boxN n2 T2 R2)).alloc box60) (((w.alloc (boxN n1 T1 R1)).alloc (boxN n2 T2 R2)).alloc box60)) := Below.refl _ _
  have HSz : Hid (w.heap.size + 3 ≤ (((w.alloc (boxN n1 T1 R1)).alloc (boxN n2 T2 R2)).alloc box60).heap.size) := by show _ ≤ _; simp
  have HP0 := hid (HPw.out.below (HX.out _ HB0.out).2.2.2 (Nat.le_refl _))
  go_enter Tryd.func35, Tryd.ntmps35
  go_wp2_with fail
  refine (HI.out _ HP0.out).mono ?_
  rintro e w1 ⟨rfl, hw1⟩
  have HB1 := hid (HB0.out.trans (hw1.mono (by first | exact HSz.out | simp)))
  have HSz1 := hid (Nat.le_trans HSz.out HB1.out.size)
  have HB2 : Hid (Below (w.heap.size + 3) (((w.alloc (boxN n1 T1 R1)).alloc (boxN n2 T2 R2)).alloc box60) ((w1.alloc boxI0).alloc boxI0)) := (HB1.out.alloc HSz1.out _).alloc (by rw [World.size_alloc]; exact Nat.le_trans HSz1.out (Nat.le_succ _)) _
  obtain ⟨⟨r0, r1, r2, r3, r4, r5⟩, q0, q1, q2, q3, q4, q5⟩ := own6V (HX.out _ HB2.out).2.2.1
  clear hw1
  go_wp2_with fail
  refine bodyPost_ret (v := .tuple #[div0, whyV c]) (by simp [results, Tryd.results35, go_sem, r0, r1, r2, r3, r4, r5]) rfl ⟨rfl, ?_⟩
  exact below_set6 (HX.out _ HB2.out).2.2.2 (by omega) _ _ _ _ _ _

set_option maxRecDepth 20000 in
set_option maxHeartbeats 4000000 in
theorem dividedOf_nought (n1 n2 p1 p2 : Bool) (T1 R1 T2 R2 : ByteArray) (U1 : Nat) (w : World) (hP : Pow9 w)
    (hI : ∀ w, Pow9 w → Calls Tryd.prog 60 #[.agg #[.bool n1, .string T1, .string R1], .agg #[.bool n2, .string T2, .string R2]] w (IntPost p1 p2 U1 0 w)) :
    Calls Tryd.prog 35 #[.agg #[.bool n1, .string T1, .string R1], .agg #[.bool n2, .string T2, .string R2]] w fun e w' => e = .returned (.tuple #[div0, whyV 2]) ∧ Below w.heap.size w w' := by
  have HI := hid hI
  have HPw := hid hP
  clear hI hP
  have HX : Hid (∀ W, Below (w.heap.size + 3) (((w.alloc (boxN n1 T1 R1)).alloc (boxN n2 T2 R2)).alloc box60) W → Own W w.heap.size 25 #[.bool n1, .string T1, .string R1] ∧ Own W (w.heap.size + 1) 25 #[.bool n2, .string T2, .string R2] ∧ Own W (w.heap.size + 1 + 1) 52 #[.bool false, .slice none 0 0, .bool false, .slice none 0 0, .bool false, .slice none 0 0] ∧ Below w.heap.size w W) := fun W h => boxes3 w _ _ _ _ _ _ h
  have HB0 : Hid (Below (w.heap.size + 3) (((w.alloc (boxN n1 T1 R1)).alloc (boxN n2 T2 R2)).alloc box60) (((w.alloc (boxN n1 T1 R1)).alloc (boxN n2 T2 R2)).alloc box60)) := Below.refl _ _
  have HSz : Hid (w.heap.size + 3 ≤ (((w.alloc (boxN n1 T1 R1)).alloc (boxN n2 T2 R2)).alloc box60).heap.size) := by show _ ≤ _; simp
  have HP0 := hid (HPw.out.below (HX.out _ HB0.out).2.2.2 (Nat.le_refl _))
  go_enter Tryd.func35, Tryd.ntmps35
  go_wp2_with fail
  refine (HI.out _ HP0.out).mono ?_
  rintro e w1 ⟨a1, c1, a2, c2, rfl, hu1, hu2, hw1⟩
  have HB1 := hid (HB0.out.trans (hw1.mono (by first | exact HSz.out | simp)))
  have HSg : Hid (∀ W, Below w1.heap.size w1 W → Calls Tryd.prog 53 #[.agg #[.bool p2, .slice a2 (grp 0).length c2]] W fun e w' => e = .returned (.int .i64 0) ∧ Below W.heap.size W w') := fun W hb => intSign_any p2 0 _ W (hu2.below hb (Nat.le_refl _))
  have HSz1 := hid (Nat.le_trans HSz.out HB1.out.size)
  obtain ⟨W2, HW2⟩ : ∃ W, Hid ((w1.alloc (boxI p1 (.slice a1 (grp U1).length c1))).alloc (boxI p2 (.slice a2 (grp 0).length c2)) = W) := ⟨_, rfl⟩
  have HC2 : Hid (Below w1.heap.size w1 W2) := by rw [← HW2.out]; exact ((Below.refl _ _).alloc (Nat.le_refl _) _).alloc (by simp) _
  have HB2 := hid (HB1.out.trans (HC2.out.mono HSz1.out))
  obtain ⟨⟨y0, y1⟩, -⟩ := own2V (boxes2 w1 _ _ _ _ (Below.refl _ ((w1.alloc (boxI p1 (.slice a1 (grp U1).length c1))).alloc (boxI p2 (.slice a2 (grp 0).length c2))))).2.1
  rw [HW2.out] at y0 y1
  clear hw1 hu1 hu2
  go_wp2_with fail
  rw [HW2.out]
  go_wp2_with fail
  refine (HSg.out _ HC2.out).mono ?_
  rintro e w2 ⟨rfl, hw2⟩
  have HB3 := hid (HB2.out.trans (hw2.mono (Nat.le_trans HSz.out HB2.out.size)))
  obtain ⟨⟨r0, r1, r2, r3, r4, r5⟩, q0, q1, q2, q3, q4, q5⟩ := own6V (HX.out _ HB3.out).2.2.1
  clear hw2 y0 y1
  go_wp2_with fail
  refine bodyPost_ret (v := .tuple #[div0, whyV 2]) (by simp [results, Tryd.results35, go_sem, r0, r1, r2, r3, r4, r5]) rfl ⟨rfl, ?_⟩
  exact below_set6 (HX.out _ HB3.out).2.2.2 (by omega) _ _ _ _ _ _

set_option maxRecDepth 20000 in
set_option maxHeartbeats 4000000 in
theorem dividedOf_ok (n1 n2 p1 p2 s : Bool) (T1 R1 T2 R2 : ByteArray) (U1 U2 : Nat) (w : World) (hs : (p1 != p2) = s) (hu : U2 ≠ 0) (hn : nG U1 ≤ 1000) (hP : Pow9 w)
    (hI : ∀ w, Pow9 w → Calls Tryd.prog 60 #[.agg #[.bool n1, .string T1, .string R1], .agg #[.bool n2, .string T2, .string R2]] w (IntPost p1 p2 U1 U2 w)) :
    Calls Tryd.prog 35 #[.agg #[.bool n1, .string T1, .string R1], .agg #[.bool n2, .string T2, .string R2]] w fun e w' => ∃ a2 c2 qa qc ra rc, e = .returned (.tuple #[.agg #[.bool p2, .slice a2 (grp U2).length c2, .bool s, .slice qa (grp (U1 / U2)).length qc, .bool p1, .slice ra (grp (U1 % U2)).length rc], .nilIface]) ∧ NatA w' (.slice a2 (grp U2).length c2) (grp U2) ∧ NatA w' (.slice qa (grp (U1 / U2)).length qc) (grp (U1 / U2)) ∧ NatA w' (.slice ra (grp (U1 % U2)).length rc) (grp (U1 % U2)) ∧ Below w.heap.size w w' := by
  have HI := hid hI
  have HPw := hid hP
  have hz : signI p2 U2 = -1 ∨ signI p2 U2 = 1 := by
    unfold signI
    cases p2 <;> simp [hu]
  have HU := hid (Nat.pos_of_ne_zero hu)
  have HN := hid hn
  have HSS := hid hs
  clear hI hP hu hn hs
  have HX : Hid (∀ W, Below (w.heap.size + 3) (((w.alloc (boxN n1 T1 R1)).alloc (boxN n2 T2 R2)).alloc box60) W → Own W w.heap.size 25 #[.bool n1, .string T1, .string R1] ∧ Own W (w.heap.size + 1) 25 #[.bool n2, .string T2, .string R2] ∧ Own W (w.heap.size + 1 + 1) 52 #[.bool false, .slice none 0 0, .bool false, .slice none 0 0, .bool false, .slice none 0 0] ∧ Below w.heap.size w W) := fun W h => boxes3 w _ _ _ _ _ _ h
  have HB0 : Hid (Below (w.heap.size + 3) (((w.alloc (boxN n1 T1 R1)).alloc (boxN n2 T2 R2)).alloc box60) (((w.alloc (boxN n1 T1 R1)).alloc (boxN n2 T2 R2)).alloc box60)) := Below.refl _ _
  have HSz : Hid (w.heap.size + 3 ≤ (((w.alloc (boxN n1 T1 R1)).alloc (boxN n2 T2 R2)).alloc box60).heap.size) := by show _ ≤ _; simp
  have HP0 := hid (HPw.out.below (HX.out _ HB0.out).2.2.2 (Nat.le_refl _))
  have HZ := hid (fun v w h => intSign_any p2 U2 v w h)
  generalize signI p2 U2 = z at *
  rcases hz with rfl | rfl
  all_goals
    go_enter Tryd.func35, Tryd.ntmps35
    go_wp2_with fail
    refine (HI.out _ HP0.out).mono ?_
    rintro e w1 ⟨a1, c1, a2, c2, rfl, hu1, hu2, hw1⟩
    have HU1 := hid hu1
    have HU2 := hid hu2
    have HB1 := hid (HB0.out.trans (hw1.mono (by first | exact HSz.out | simp)))
    have HSg : Hid (∀ W, Below w1.heap.size w1 W → Calls Tryd.prog 53 #[.agg #[.bool p2, .slice a2 (grp U2).length c2]] W fun e w' => e = .returned (.int .i64 _) ∧ Below W.heap.size W w') := fun W hb => HZ.out _ W (hu2.below hb (Nat.le_refl _))
    have HDb : Hid (∀ W, Below w1.heap.size w1 W → Calls Tryd.prog 65 #[.agg #[.bool p1, .slice a1 (grp U1).length c1], .agg #[.bool p2, .slice a2 (grp U2).length c2]] W fun e w' => ∃ qa qc ra rc, e = .returned (.agg #[.bool p2, .slice a2 (grp U2).length c2, .bool s, .slice qa (grp (U1 / U2)).length qc, .bool p1, .slice ra (grp (U1 % U2)).length rc]) ∧ NatA w' (.slice qa (grp (U1 / U2)).length qc) (grp (U1 / U2)) ∧ NatA w' (.slice ra (grp (U1 % U2)).length rc) (grp (U1 % U2)) ∧ Below W.heap.size W w') := fun W hb => intDividedBy_any p1 p2 s U1 U2 _ _ _ _ _ _ W HSS.out (hu1.below hb (Nat.le_refl _)) (hu2.below hb (Nat.le_refl _)) HU.out HN.out
    have HSz1 := hid (Nat.le_trans HSz.out HB1.out.size)
    obtain ⟨W2, HW2⟩ : ∃ W, Hid ((w1.alloc (boxI p1 (.slice a1 (grp U1).length c1))).alloc (boxI p2 (.slice a2 (grp U2).length c2)) = W) := ⟨_, rfl⟩
    have HC2 : Hid (Below w1.heap.size w1 W2) := by rw [← HW2.out]; exact ((Below.refl _ _).alloc (Nat.le_refl _) _).alloc (by simp) _
    have HC3 : Hid (∀ W, Below (w1.heap.size + 2) W2 W → Own W w1.heap.size 50 #[.bool p1, .slice a1 (grp U1).length c1] ∧ Own W (w1.heap.size + 1) 50 #[.bool p2, .slice a2 (grp U2).length c2] ∧ Below w1.heap.size w1 W) := fun W h => by
      rw [← HW2.out] at h
      exact boxes2 w1 _ _ _ _ h
    have HC0 : Hid (Below (w1.heap.size + 2) W2 W2) := Below.refl _ _
    have HS2 : Hid (w1.heap.size + 2 ≤ W2.heap.size) := by show _ ≤ _; rw [← HW2.out]; simp
    obtain ⟨⟨y0, y1⟩, -⟩ := own2V (HC3.out _ HC0.out).2.1
    clear hw1 hu1 hu2
    go_wp2_with fail
    rw [HW2.out]
    go_wp2_with fail
    refine (HSg.out _ HC2.out).mono ?_
    rintro e w2 ⟨rfl, hw2⟩
    have HC4 := hid (HC0.out.trans (hw2.mono HS2.out))
    clear hw2 y0 y1
    obtain ⟨⟨x0, x1⟩, -⟩ := own2V (HC3.out _ HC4.out).1
    obtain ⟨⟨y0, y1⟩, -⟩ := own2V (HC3.out _ HC4.out).2.1
    go_wp2_with fail
    refine (HDb.out _ (HC3.out _ HC4.out).2.2).mono ?_
    rintro e w3 ⟨qa, qc, ra, rc, rfl, hq, hr, hw3⟩
    have HQ := hid hq
    have HR := hid hr
    have HC5 := hid (HC4.out.trans (hw3.mono (Nat.le_trans HS2.out HC4.out.size)))
    have HB5 := hid (HB1.out.trans ((HC3.out _ HC5.out).2.2.mono HSz1.out))
    obtain ⟨⟨r0, r1, r2, r3, r4, r5⟩, q0, q1, q2, q3, q4, q5⟩ := own6V (HX.out _ HB5.out).2.2.1
    have HY2 := hid (HU2.out.below (HC3.out _ HC5.out).2.2 (Nat.le_refl _))
    clear hq hr hw3 x0 x1 y0 y1
    go_wp2_with fail
    refine bodyPost_ret (v := .tuple #[.agg #[.bool p2, .slice a2 (grp U2).length c2, .bool s, .slice qa (grp (U1 / U2)).length qc, .bool p1, .slice ra (grp (U1 % U2)).length rc], .nilIface]) (by simp [results, Tryd.results35, go_sem, r0, r1, r2, r3, r4, r5]) rfl ⟨a2, c2, qa, qc, ra, rc, rfl, ?_, ?_, ?_, ?_⟩
    · exact natA_set6 HY2.out (HX.out _ HB5.out).2.2.1 _ _ _ _ _ _
    · exact natA_set6 HQ.out (HX.out _ HB5.out).2.2.1 _ _ _ _ _ _
    · exact natA_set6 HR.out (HX.out _ HB5.out).2.2.1 _ _ _ _ _ _
    · exact below_set6 (HX.out _ HB5.out).2.2.2 (by omega) _ _ _ _ _ _
end Go.Proofs.YtbbffhpppacihaaDoor

namespace Go.Proofs.YtbbffhpppacihaaDoor
open Go.RowKit Go.Siskin

abbrev noQuo (c : Int) : Value := .tuple #[.agg #[.bool false, .string ⟨#[]⟩, .string ⟨#[]⟩], .agg #[.bool false, .string ⟨#[]⟩, .string ⟨#[]⟩], .int .i64 c]
/-- A whole number as it is handed out. -/
def wholeV (n : Bool) (z : Nat) : Value := .agg #[.bool (n && !decide (z = 0)), .string (dec z), .string (dec 1)]

set_option maxRecDepth 20000 in
set_option maxHeartbeats 2000000 in
theorem specNumQuo_code (n1 n2 : Bool) (T1 R1 T2 R2 : ByteArray) (w : World) (c : Int) (hc : c ≠ 0)
    (hW : ∀ w, Calls Tryd.prog 32 #[.agg #[.bool n1, .string T1, .string R1], .agg #[.bool n2, .string T2, .string R2]] w fun e w' => e = .returned (.int .i64 c) ∧ Below w.heap.size w w') :
    Calls Tryd.prog 9 #[.agg #[.bool n1, .string T1, .string R1], .agg #[.bool n2, .string T2, .string R2]] w fun e w' => e = .returned (noQuo c) ∧ Below w.heap.size w w' := by
  have HW := hid hW
  have hcb : (c != 0) = true := by simp [hc]
  clear hW hc
  have HB0 : Hid (Below (w.heap.size + 4) ((((w.alloc (boxN n1 T1 R1)).alloc (boxN n2 T2 R2)).alloc box0).alloc box0) ((((w.alloc (boxN n1 T1 R1)).alloc (boxN n2 T2 R2)).alloc box0).alloc box0)) := Below.refl _ _
  have HX : Hid (∀ W, Below (w.heap.size + 4) ((((w.alloc (boxN n1 T1 R1)).alloc (boxN n2 T2 R2)).alloc box0).alloc box0) W → (Own W w.heap.size 25 #[.bool n1, .string T1, .string R1] ∧ Own W (w.heap.size + 1) 25 #[.bool n2, .string T2, .string R2]) ∧ Own W (w.heap.size + 1 + 1) 25 #[.bool false, .string ⟨#[]⟩, .string ⟨#[]⟩] ∧ Own W (w.heap.size + 1 + 1 + 1) 25 #[.bool false, .string ⟨#[]⟩, .string ⟨#[]⟩] ∧ Below w.heap.size w W) := fun W h => boxes4 w _ _ _ _ _ _ _ _ h
  go_enter Tryd.func9, Tryd.ntmps9
  go_wp2_with fail
  refine (HW.out _).mono ?_
  rintro e wa ⟨rfl, hwa⟩
  have HBa := hid (HB0.out.trans (hwa.mono (by simp)))
  clear hwa
  obtain ⟨⟨r0, r1, r2⟩, q0, q1, q2⟩ := own3V (HX.out _ HBa.out).2.1
  obtain ⟨⟨s0, s1, s2⟩, p0, p1, p2⟩ := own3V (HX.out _ HBa.out).2.2.1
  go_wp2_with fail
  refine bodyPost_ret (v := noQuo c) (by simp [results, Tryd.results9, go_sem, r0, r1, r2, s0, s1, s2]) rfl ⟨rfl, ?_⟩
  exact below_set3 (below_set3 (HX.out _ HBa.out).2.2.2 (by omega) _ _ _) (by omega) _ _ _

/-- What is left downward, without its sign. -/
def modZ (n1 n2 : Bool) (u1 u2 : Nat) : Nat := if (!decide (u1 % u2 = 0) && (n1 != n2)) = true then u2 - u1 % u2 else u1 % u2

set_option maxRecDepth 20000 in
set_option maxHeartbeats 2000000 in
theorem specNumGcd_code (n1 n2 : Bool) (T1 R1 T2 R2 : ByteArray) (w : World) (c : Int) (hc : c = 1 ∨ c = 4)
    (hW : ∀ w, Calls Tryd.prog 32 #[.agg #[.bool n1, .string T1, .string R1], .agg #[.bool n2, .string T2, .string R2]] w fun e w' => e = .returned (.int .i64 c) ∧ Below w.heap.size w w') :
    Calls Tryd.prog 31 #[.agg #[.bool n1, .string T1, .string R1], .agg #[.bool n2, .string T2, .string R2]] w fun e w' => e = .returned (noAns c) ∧ Below w.heap.size w w' := by
  have HW := hid hW
  clear hW
  have HB0 : Hid (Below (w.heap.size + 3) (((w.alloc (boxN n1 T1 R1)).alloc (boxN n2 T2 R2)).alloc box0) (((w.alloc (boxN n1 T1 R1)).alloc (boxN n2 T2 R2)).alloc box0)) := Below.refl _ _
  have HX : Hid (∀ W, Below (w.heap.size + 3) (((w.alloc (boxN n1 T1 R1)).alloc (boxN n2 T2 R2)).alloc box0) W → Own W w.heap.size 25 #[.bool n1, .string T1, .string R1] ∧ Own W (w.heap.size + 1) 25 #[.bool n2, .string T2, .string R2] ∧ Own W (w.heap.size + 1 + 1) 25 #[.bool false, .string ⟨#[]⟩, .string ⟨#[]⟩] ∧ Below w.heap.size w W) := fun W h => boxes3 w _ _ _ _ _ _ h
  rcases hc with rfl | rfl
  all_goals
    go_enter Tryd.func31, Tryd.ntmps31
    go_wp2_with fail
    refine (HW.out _).mono ?_
    rintro e wa ⟨rfl, hwa⟩
    have HBa := hid (HB0.out.trans (hwa.mono (by simp)))
    clear hwa
    obtain ⟨⟨r0, r1, r2⟩, q0, q1, q2⟩ := own3V (HX.out _ HBa.out).2.2.1
    go_wp2_with fail
    refine bodyPost_ret (v := noAns _) (by simp [results, Tryd.results31, go_sem, r0, r1, r2]) rfl ⟨rfl, ?_⟩
    exact below_set3 (HX.out _ HBa.out).2.2.2 (by omega) _ _ _

set_option maxRecDepth 20000 in
set_option maxHeartbeats 4000000 in
theorem specNumGcd_yes (n1 n2 : Bool) (u1 d1 u2 d2 : Nat) (w : World) (h1 : (dec u1).size ≤ 60) (h3 : (dec u2).size ≤ 60) (c : Int) (hc : c = 0 ∨ c = 2)
    (hW : ∀ w, Calls Tryd.prog 32 #[.agg #[.bool n1, .string (dec u1), .string (dec d1)], .agg #[.bool n2, .string (dec u2), .string (dec d2)]] w fun e w' => e = .returned (.int .i64 c) ∧ Below w.heap.size w w') :
    Calls Tryd.prog 31 #[.agg #[.bool n1, .string (dec u1), .string (dec d1)], .agg #[.bool n2, .string (dec u2), .string (dec d2)]] w fun e w' => e = .returned (.tuple #[wholeV false (Nat.gcd u1 u2), .int .i64 0]) ∧ Below w.heap.size w w' := by
  have HW := hid hW
  rw [dec_size] at h1 h3
  have HG := hid (fun w => l11Gcd_any u1 u2 w (by omega) (by omega))
  have HL := hid (fun w => l14Sign_any false (Nat.gcd u1 u2) w)
  unfold wholeV
  generalize (false && !decide (Nat.gcd u1 u2 = 0)) = b1 at *
  generalize dec (Nat.gcd u1 u2) = G at *
  generalize dec 1 = O at *
  generalize dec u1 = T1 at *
  generalize dec d1 = R1 at *
  generalize dec u2 = T2 at *
  generalize dec d2 = R2 at *
  clear hW h1 h3
  have HB0 : Hid (Below (w.heap.size + 3) (((w.alloc (boxN n1 T1 R1)).alloc (boxN n2 T2 R2)).alloc box0) (((w.alloc (boxN n1 T1 R1)).alloc (boxN n2 T2 R2)).alloc box0)) := Below.refl _ _
  have HX : Hid (∀ W, Below (w.heap.size + 3) (((w.alloc (boxN n1 T1 R1)).alloc (boxN n2 T2 R2)).alloc box0) W → Own W w.heap.size 25 #[.bool n1, .string T1, .string R1] ∧ Own W (w.heap.size + 1) 25 #[.bool n2, .string T2, .string R2] ∧ Own W (w.heap.size + 1 + 1) 25 #[.bool false, .string ⟨#[]⟩, .string ⟨#[]⟩] ∧ Below w.heap.size w W) := fun W h => boxes3 w _ _ _ _ _ _ h
  have HSz : Hid (w.heap.size + 3 ≤ (((w.alloc (boxN n1 T1 R1)).alloc (boxN n2 T2 R2)).alloc box0).heap.size) := by show _ ≤ _; simp
  rcases hc with rfl | rfl
  all_goals
    go_enter Tryd.func31, Tryd.ntmps31
    go_wp2_with fail
    refine (HW.out _).mono ?_
    rintro e wa ⟨rfl, hwa⟩
    have HBa := hid (HB0.out.trans (hwa.mono (by first | exact HSz.out | simp)))
    clear hwa
    obtain ⟨⟨x0, x1, x2⟩, -⟩ := own3V (HX.out _ HBa.out).1
    obtain ⟨⟨y0, y1, y2⟩, -⟩ := own3V (HX.out _ HBa.out).2.1
    go_wp2_with fail
    refine (HG.out _).mono ?_
    rintro e wb ⟨rfl, hwb⟩
    have HB := hid (HBa.out.trans (hwb.mono (Nat.le_trans HSz.out HBa.out.size)))
    clear hwb x0 x1 x2 y0 y1 y2
    go_wp2_with fail
    refine (HL.out _).mono ?_
    rintro e w8 ⟨rfl, hw8⟩
    have HB := hid (HB.out.trans (hw8.mono (Nat.le_trans HSz.out HB.out.size)))
    clear hw8
    obtain ⟨⟨r0, r1, r2⟩, q0, q1, q2⟩ := own3V (HX.out _ HB.out).2.2.1
    go_wp2_with fail
    refine bodyPost_ret (v := .tuple #[.agg #[.bool b1, .string G, .string O], .int .i64 0]) (by simp [results, Tryd.results31, go_sem, r0, r1, r2]) rfl ⟨rfl, ?_⟩
    exact below_set3 (HX.out _ HB.out).2.2.2 (by omega) _ _ _
end Go.Proofs.YtbbffhpppacihaaDoor

namespace Go.Proofs.YtbbffhpppacihaaDoor
open Go.RowKit Go.Siskin

/-- The sign of what is left downward. -/
def modN (n1 n2 : Bool) (L : Nat) : Bool := if (!decide (L = 0) && (n1 != n2)) = true then n2 else n1

end Go.Proofs.YtbbffhpppacihaaDoor
