/-
  NumQuo, NumMod, NumGcd: the model's and the program's answer the same. Condition: the table of powers and errors.errorType stand.
  Stage 8, the program: NumRound; both sides. Condition: the table of powers and errors.errorType stand.
  The law FnExactNumRound. Condition: the table of powers and errors.errorType stand. Made by wip/tools/genlaw8.py.
  The table of powers of ten as the card lists it, and as the walks read it.
  The table of powers of ten and errors.errorType as the card lists them, and as the walks read them.
-/
import Derived.Test.YteckkgbkgjhhbaaDoorPart25
import Derived.Test.YteckkgbkgjhhbaaDoorUN
import Derived.Test.YteckkgbkgjhhbaaDoorPart19
import Derived.Test.YteckkgbkgjhhbaaDoorPart23
import Derived.Test.YteckkgbkgjhhbaaDoorPart12
import Derived.Test.YteckkgbkgjhhbaaDoorRows
import Derived.Test.YteckkgbkgjhhbaaDoorPart1
import Derived.ProofKit
import Derived.OpenShut
import Derived.ShutString
import Derived.ChangeOld
import Derived.ChangeVars
import Derived.Below
import Derived.Carry
import Derived.LaidMore
import Derived.Stop.Joined
import Derived.Stop.LaidErr
import Derived.Lib.LaidTab
import Derived.LaidSub
namespace Go.Proofs.YteckkgbkgjhhbaaDoor
open Go.RowKit Go.Siskin

/-- Both variables stand. -/
def PowE (w : World) : Prop := Pow9 w ∧ ErrT w
theorem PowE.below {w w' : World} {n : Nat} (h : PowE w) (hb : Below n w w') (hn : w.heap.size ≤ n) : PowE w' := ⟨h.1.below hb hn, h.2.below hb hn⟩

/-- What integersOf tells of any two numbers. -/
theorem integersOf_all (n1 n2 : Bool) (T1 R1 T2 R2 : ByteArray) (h1 : T1.size ≤ maxLen) (h2 : R1.size ≤ maxLen) (h3 : T2.size ≤ maxLen) (h4 : R2.size ≤ maxLen) :
    (¬ (NumP n1 T1 R1 ∧ NumP n2 T2 R2) ∧ ∀ w, Pow9 w → Calls Tryd.prog 59 #[.agg #[.bool n1, .string T1, .string R1], .agg #[.bool n2, .string T2, .string R2]] w fun e w' => e = .returned (.tuple #[int0, int0, whyV 1]) ∧ Below w.heap.size w w') ∨
    (∃ U1 D1 U2 D2, T1 = dec U1 ∧ R1 = dec D1 ∧ T2 = dec U2 ∧ R2 = dec D2 ∧ T1.size ≤ 60 ∧ R1.size ≤ 60 ∧ T2.size ≤ 60 ∧ R2.size ≤ 60 ∧ OkUD n1 U1 D1 ∧ OkUD n2 U2 D2 ∧ nG U1 ≤ 60 ∧ nG U2 ≤ 60 ∧
      ((¬ (D1 = 1 ∧ D2 = 1) ∧ ∀ w, Pow9 w → Calls Tryd.prog 59 #[.agg #[.bool n1, .string T1, .string R1], .agg #[.bool n2, .string T2, .string R2]] w fun e w' => e = .returned (.tuple #[int0, int0, whyV 4]) ∧ Below w.heap.size w w') ∨
       ((D1 = 1 ∧ D2 = 1) ∧ ∀ w, Pow9 w → Calls Tryd.prog 59 #[.agg #[.bool n1, .string T1, .string R1], .agg #[.bool n2, .string T2, .string R2]] w (IntPost n1 n2 U1 U2 w)))) := by
  obtain ⟨b1, p1, U1, D1, o1, c1⟩ := openNum_all n1 T1 R1 h1 h2
  obtain ⟨b2, p2, U2, D2, o2, c2⟩ := openNum_all n2 T2 R2 h3 h4
  have g1 := o1.small
  have g2 := o2.small
  have hR := fun w hP => ratiosOf_any n1 n2 T1 R1 T2 R2 b1 b2 p1 p2 U1 D1 U2 D2 w c1 c2 hP
  rcases both_parts o1 o2 with ⟨rfl, rfl, rfl, rfl, e1, e2, e3, e4, s1, s2, s3, s4, k1, k2⟩ | ⟨hb, hno⟩
  · refine Or.inr ⟨U1, D1, U2, D2, e1, e2, e3, e4, s1, s2, s3, s4, k1, k2, g1.1, g2.1, ?_⟩
    by_cases hd : D1 = 1 ∧ D2 = 1
    · exact Or.inr ⟨hd, fun w hP => integersOf_ok n1 n2 T1 R1 T2 R2 n1 n2 U1 D1 U2 D2 w hP hd hR⟩
    · exact Or.inl ⟨hd, fun w hP => integersOf_part n1 n2 T1 R1 T2 R2 n1 n2 U1 D1 U2 D2 w hP hd hR⟩
  · rw [hb] at hR
    exact Or.inl ⟨hno, fun w hP => integersOf_no n1 n2 T1 R1 T2 R2 p1 p2 U1 D1 U2 D2 w hP hR⟩

abbrev numV (n : Bool) (x y : ByteArray) : Value := .agg #[.bool n, .string x, .string y]
theorem whole_four {D1 D2 U2 : Nat} (h : ¬ (D1 = 1 ∧ D2 = 1)) : wholeC D1 D2 U2 = 4 := by
  unfold wholeC
  rw [if_pos]
  by_cases h1 : D1 = 1
  · exact Or.inr fun h2 => h ⟨h1, h2⟩
  · exact Or.inl h1
theorem whole_two {D1 D2 U2 : Nat} (h : D1 = 1 ∧ D2 = 1) (hu : U2 = 0) : wholeC D1 D2 U2 = 2 := by
  unfold wholeC
  rw [if_neg (by rintro (h1 | h1); exact h1 h.1; exact h1 h.2), if_pos hu]
theorem whole_none {D1 D2 U2 : Nat} (h : D1 = 1 ∧ D2 = 1) (hu : U2 ≠ 0) : wholeC D1 D2 U2 = 0 := by
  unfold wholeC
  rw [if_neg (by rintro (h1 | h1); exact h1 h.1; exact h1 h.2), if_neg hu]

theorem numMod_both (n1 n2 : Bool) (T1 R1 T2 R2 : ByteArray) (h1 : T1.size ≤ maxLen) (h2 : R1.size ≤ maxLen) (h3 : T2.size ≤ maxLen) (h4 : R2.size ≤ maxLen) : ∃ (n : Bool) (x y : ByteArray) (c : Int),
    (∀ w, Calls Tryd.prog 19 #[.agg #[.bool n1, .string T1, .string R1], .agg #[.bool n2, .string T2, .string R2]] w fun e w' => e = .returned (.tuple #[.agg #[.bool n, .string x, .string y], .int .i64 c]) ∧ Below w.heap.size w w') ∧
    (∀ w, PowE w → Calls Tryd.prog 20 #[.agg #[.bool n1, .string T1, .string R1], .agg #[.bool n2, .string T2, .string R2]] w fun e w' => e = .returned (.tuple #[.agg #[.bool n, .string x, .string y], .int .i64 c]) ∧ Below w.heap.size w w') := by
  rcases integersOf_all n1 n2 T1 R1 T2 R2 h1 h2 h3 h4 with ⟨hno, hI⟩ | ⟨U1, D1, U2, D2, rfl, rfl, rfl, rfl, s1, s2, s3, s4, k1, k2, g1, g2, ⟨hd, hI⟩ | ⟨hd, hI⟩⟩
  · exact ⟨false, ⟨#[]⟩, ⟨#[]⟩, 1, fun w => specNumMod_code n1 n2 _ _ _ _ w 1 (by decide) (fun w => l14Whole_no n1 n2 _ _ _ _ w h1 h2 h3 h4 hno),
      fun w hP => implNumMod_err n1 n2 _ _ _ _ 1 w hP.1 hP.2 (fun w hP => dividedOf_err n1 n2 _ _ _ _ 1 w hP hI)⟩
  · exact ⟨false, ⟨#[]⟩, ⟨#[]⟩, 4, fun w => specNumMod_code n1 n2 _ _ _ _ w 4 (by decide) (fun w => l14Whole_yes n1 n2 _ _ _ _ w s1 s2 s3 s4 k1 k2 4 (whole_four hd)),
      fun w hP => implNumMod_err n1 n2 _ _ _ _ 4 w hP.1 hP.2 (fun w hP => dividedOf_err n1 n2 _ _ _ _ 4 w hP hI)⟩
  · by_cases hu : U2 = 0
    · subst hu
      exact ⟨false, ⟨#[]⟩, ⟨#[]⟩, 2, fun w => specNumMod_code n1 n2 _ _ _ _ w 2 (by decide) (fun w => l14Whole_yes n1 n2 _ _ _ _ w s1 s2 s3 s4 k1 k2 2 (whole_two hd rfl)),
        fun w hP => implNumMod_err n1 n2 _ _ _ _ 2 w hP.1 hP.2 (fun w hP => dividedOf_nought n1 n2 n1 n2 _ _ _ _ U1 w hP hI)⟩
    · exact ⟨_, _, _, 0, fun w => specNumMod_yes n1 n2 U1 D1 U2 D2 w s1 s3 hu (fun w => l14Whole_yes n1 n2 _ _ _ _ w s1 s2 s3 s4 k1 k2 0 (whole_none hd hu)),
        fun w hP => implNumMod_ok n1 n2 n1 n2 _ _ _ _ _ U1 U2 w rfl (by omega) (by omega) hu hP.1 (fun w hP => dividedOf_ok n1 n2 n1 n2 _ _ _ _ _ U1 U2 w rfl hu (by omega) hP hI)⟩

theorem numGcd_both (n1 n2 : Bool) (T1 R1 T2 R2 : ByteArray) (h1 : T1.size ≤ maxLen) (h2 : R1.size ≤ maxLen) (h3 : T2.size ≤ maxLen) (h4 : R2.size ≤ maxLen) : ∃ (n : Bool) (x y : ByteArray) (c : Int),
    (∀ w, Calls Tryd.prog 21 #[.agg #[.bool n1, .string T1, .string R1], .agg #[.bool n2, .string T2, .string R2]] w fun e w' => e = .returned (.tuple #[.agg #[.bool n, .string x, .string y], .int .i64 c]) ∧ Below w.heap.size w w') ∧
    (∀ w, PowE w → Calls Tryd.prog 22 #[.agg #[.bool n1, .string T1, .string R1], .agg #[.bool n2, .string T2, .string R2]] w fun e w' => e = .returned (.tuple #[.agg #[.bool n, .string x, .string y], .int .i64 c]) ∧ Below w.heap.size w w') := by
  rcases integersOf_all n1 n2 T1 R1 T2 R2 h1 h2 h3 h4 with ⟨hno, hI⟩ | ⟨U1, D1, U2, D2, rfl, rfl, rfl, rfl, s1, s2, s3, s4, k1, k2, g1, g2, ⟨hd, hI⟩ | ⟨hd, hI⟩⟩
  · exact ⟨false, ⟨#[]⟩, ⟨#[]⟩, 1, fun w => specNumGcd_code n1 n2 _ _ _ _ w 1 (Or.inl rfl) (fun w => l14Whole_no n1 n2 _ _ _ _ w h1 h2 h3 h4 hno),
      fun w hP => implNumGcd_err n1 n2 _ _ _ _ 1 w hP.1 hP.2 hI⟩
  · exact ⟨false, ⟨#[]⟩, ⟨#[]⟩, 4, fun w => specNumGcd_code n1 n2 _ _ _ _ w 4 (Or.inr rfl) (fun w => l14Whole_yes n1 n2 _ _ _ _ w s1 s2 s3 s4 k1 k2 4 (whole_four hd)),
      fun w hP => implNumGcd_err n1 n2 _ _ _ _ 4 w hP.1 hP.2 hI⟩
  · obtain ⟨c, hc, hcw⟩ : ∃ c : Int, (c = 0 ∨ c = 2) ∧ wholeC D1 D2 U2 = c := by
      by_cases hu : U2 = 0
      · exact ⟨2, Or.inr rfl, whole_two hd hu⟩
      · exact ⟨0, Or.inl rfl, whole_none hd hu⟩
    exact ⟨_, _, _, 0, fun w => specNumGcd_yes n1 n2 U1 D1 U2 D2 w s1 s3 c hc (fun w => l14Whole_yes n1 n2 _ _ _ _ w s1 s2 s3 s4 k1 k2 c hcw),
      fun w hP => implNumGcd_ok n1 n2 n1 n2 _ _ _ _ U1 U2 w (by omega) (by omega) hP.1 hI⟩

theorem numQuo_both (n1 n2 : Bool) (T1 R1 T2 R2 : ByteArray) (h1 : T1.size ≤ maxLen) (h2 : R1.size ≤ maxLen) (h3 : T2.size ≤ maxLen) (h4 : R2.size ≤ maxLen) : ∃ (n : Bool) (x y : ByteArray) (m : Bool) (z t : ByteArray) (c : Int),
    (∀ w, Calls Tryd.prog 17 #[.agg #[.bool n1, .string T1, .string R1], .agg #[.bool n2, .string T2, .string R2]] w fun e w' => e = .returned (.tuple #[.agg #[.bool n, .string x, .string y], .agg #[.bool m, .string z, .string t], .int .i64 c]) ∧ Below w.heap.size w w') ∧
    (∀ w, PowE w → Calls Tryd.prog 18 #[.agg #[.bool n1, .string T1, .string R1], .agg #[.bool n2, .string T2, .string R2]] w fun e w' => e = .returned (.tuple #[.agg #[.bool n, .string x, .string y], .agg #[.bool m, .string z, .string t], .int .i64 c]) ∧ Below w.heap.size w w') := by
  rcases integersOf_all n1 n2 T1 R1 T2 R2 h1 h2 h3 h4 with ⟨hno, hI⟩ | ⟨U1, D1, U2, D2, rfl, rfl, rfl, rfl, s1, s2, s3, s4, k1, k2, g1, g2, ⟨hd, hI⟩ | ⟨hd, hI⟩⟩
  · exact ⟨false, ⟨#[]⟩, ⟨#[]⟩, false, ⟨#[]⟩, ⟨#[]⟩, 1, fun w => specNumQuo_code n1 n2 _ _ _ _ w 1 (by decide) (fun w => l14Whole_no n1 n2 _ _ _ _ w h1 h2 h3 h4 hno),
      fun w hP => implNumQuo_err n1 n2 _ _ _ _ 1 w hP.1 hP.2 (fun w hP => dividedOf_err n1 n2 _ _ _ _ 1 w hP hI)⟩
  · exact ⟨false, ⟨#[]⟩, ⟨#[]⟩, false, ⟨#[]⟩, ⟨#[]⟩, 4, fun w => specNumQuo_code n1 n2 _ _ _ _ w 4 (by decide) (fun w => l14Whole_yes n1 n2 _ _ _ _ w s1 s2 s3 s4 k1 k2 4 (whole_four hd)),
      fun w hP => implNumQuo_err n1 n2 _ _ _ _ 4 w hP.1 hP.2 (fun w hP => dividedOf_err n1 n2 _ _ _ _ 4 w hP hI)⟩
  · by_cases hu : U2 = 0
    · subst hu
      exact ⟨false, ⟨#[]⟩, ⟨#[]⟩, false, ⟨#[]⟩, ⟨#[]⟩, 2, fun w => specNumQuo_code n1 n2 _ _ _ _ w 2 (by decide) (fun w => l14Whole_yes n1 n2 _ _ _ _ w s1 s2 s3 s4 k1 k2 2 (whole_two hd rfl)),
        fun w hP => implNumQuo_err n1 n2 _ _ _ _ 2 w hP.1 hP.2 (fun w hP => dividedOf_nought n1 n2 n1 n2 _ _ _ _ U1 w hP hI)⟩
    · exact ⟨_, _, _, _, _, _, 0, fun w => specNumQuo_yes n1 n2 U1 D1 U2 D2 w s1 s3 hu (fun w => l14Whole_yes n1 n2 _ _ _ _ w s1 s2 s3 s4 k1 k2 0 (whole_none hd hu)),
        fun w hP => implNumQuo_ok n1 n2 n1 n2 _ _ _ _ _ U1 U2 w rfl (by omega) (by omega) hu hP.1 (fun w hP => dividedOf_ok n1 n2 n1 n2 _ _ _ _ _ U1 U2 w rfl hu (by omega) hP hI)⟩
end Go.Proofs.YteckkgbkgjhhbaaDoor

namespace Go.Proofs.YteckkgbkgjhhbaaDoor
open Go.RowKit Go.Siskin

set_option maxRecDepth 20000 in
set_option maxHeartbeats 4000000 in
theorem implNumRound_err (n : Bool) (T R : ByteArray) (way c : Int) (w : World) (hP : Pow9 w) (hE : ErrT w)
    (hI : ∀ w, Pow9 w → Calls Tryd.prog 48 #[.agg #[.bool n, .string T, .string R], .int .i64 way] w fun e w' => e = .returned (.tuple #[int0, whyV c]) ∧ Below w.heap.size w w') :
    Calls Tryd.prog 15 #[.agg #[.bool n, .string T, .string R], .int .i64 way] w fun e w' => e = .returned (noAns c) ∧ Below w.heap.size w w' := by
  have HI := hid hI
  have HPw := hid hP
  have HEw := hid hE
  have HCo := hid (fun w hE => codeOf_any c w hE)
  clear hI hP hE
  have HX : Hid (∀ W, Below (w.heap.size + 2) ((w.alloc (boxN n T R)).alloc box0) W → Own W w.heap.size 25 #[.bool n, .string T, .string R] ∧ Own W (w.heap.size + 1) 25 #[.bool false, .string ⟨#[]⟩, .string ⟨#[]⟩] ∧ Below w.heap.size w W) := fun W h => boxes2 w _ _ _ _ h
  have HB0 : Hid (Below (w.heap.size + 2) ((w.alloc (boxN n T R)).alloc box0) ((w.alloc (boxN n T R)).alloc box0)) := Below.refl _ _
  have HSz : Hid (w.heap.size + 2 ≤ ((w.alloc (boxN n T R)).alloc box0).heap.size) := by show _ ≤ _; simp
  have HP0 := hid (HPw.out.below (HX.out _ HB0.out).2.2 (Nat.le_refl _))
  go_enter Tryd.func15, Tryd.ntmps15
  go_wp2_with fail
  refine (HI.out _ HP0.out).mono ?_
  rintro e w1 ⟨rfl, hw1⟩
  have HB1 := hid (HB0.out.trans (hw1.mono (by first | exact HSz.out | simp)))
  have HSz1 := hid (Nat.le_trans HSz.out HB1.out.size)
  have HB2 : Hid (Below (w.heap.size + 2) ((w.alloc (boxN n T R)).alloc box0) (w1.alloc boxI0)) := HB1.out.alloc HSz1.out _
  have HE2 := hid (HEw.out.below (HX.out _ HB2.out).2.2 (Nat.le_refl _))
  clear hw1
  go_wp2_with fail
  refine (HCo.out _ HE2.out).mono ?_
  rintro e w2 ⟨rfl, hw2⟩
  have HB3 := hid (HB2.out.trans (hw2.mono (Nat.le_trans HSz.out HB2.out.size)))
  obtain ⟨⟨r0, r1, r2⟩, q0, q1, q2⟩ := own3V (HX.out _ HB3.out).2.1
  clear hw2
  go_wp2_with fail
  refine bodyPost_ret (v := noAns c) (by simp [results, Tryd.results15, go_sem, r0, r1, r2]) rfl ⟨rfl, ?_⟩
  exact below_set3 (HX.out _ HB3.out).2.2 (by omega) _ _ _

set_option maxRecDepth 20000 in
set_option maxHeartbeats 4000000 in
theorem implNumRound_ok (n : Bool) (T R : ByteArray) (way : Int) (p : Bool) (Z : Nat) (w : World) (hZ : Lib.nDigits Z ≤ 60) (hP : Pow9 w)
    (hI : ∀ w, Pow9 w → Calls Tryd.prog 48 #[.agg #[.bool n, .string T, .string R], .int .i64 way] w fun e w' => ∃ a c, e = .returned (.tuple #[.agg #[.bool p, .slice a (grp Z).length c], .nilIface]) ∧ NatA w' (.slice a (grp Z).length c) (grp Z) ∧ Below w.heap.size w w') :
    Calls Tryd.prog 15 #[.agg #[.bool n, .string T, .string R], .int .i64 way] w fun e w' => e = .returned (ansW p Z) ∧ Below w.heap.size w w' := by
  have HI := hid hI
  have HPw := hid hP
  have hnz : nG Z ≤ 1000 := nG_digits hZ
  have HIo := hid (fun w => integerOf_any 1 w (by decide) (by decide))
  have HAn := hid (fun a b l c k e0 w hu hd hP => answerOf_any p false Z 1 a b l c k e0 w hu hd hnz (by rw [nG_one (by decide) (by decide)]; decide) (by decide) hP)
  have hx : (p != false) = p := by cases p <;> rfl
  rw [hx, ansQ_W p hZ] at HAn
  obtain ⟨m, x, y, hf⟩ := ansW_form p Z
  rw [hf] at HAn ⊢
  clear hI hP hnz hx hf hZ
  have HX : Hid (∀ W, Below (w.heap.size + 2) ((w.alloc (boxN n T R)).alloc box0) W → Own W w.heap.size 25 #[.bool n, .string T, .string R] ∧ Own W (w.heap.size + 1) 25 #[.bool false, .string ⟨#[]⟩, .string ⟨#[]⟩] ∧ Below w.heap.size w W) := fun W h => boxes2 w _ _ _ _ h
  have HB0 : Hid (Below (w.heap.size + 2) ((w.alloc (boxN n T R)).alloc box0) ((w.alloc (boxN n T R)).alloc box0)) := Below.refl _ _
  have HSz : Hid (w.heap.size + 2 ≤ ((w.alloc (boxN n T R)).alloc box0).heap.size) := by show _ ≤ _; simp
  have HP0 := hid (HPw.out.below (HX.out _ HB0.out).2.2 (Nat.le_refl _))
  go_enter Tryd.func15, Tryd.ntmps15
  go_wp2_with fail
  refine (HI.out _ HP0.out).mono ?_
  rintro e w1 ⟨a, c, rfl, hz, hw1⟩
  have HZ := hid hz
  have HB1 := hid (HB0.out.trans (hw1.mono (by first | exact HSz.out | simp)))
  have HSz1 := hid (Nat.le_trans HSz.out HB1.out.size)
  have HY : Hid (∀ W, Below (w1.heap.size + 1) (w1.alloc (boxI p (.slice a (grp Z).length c))) W → Own W w1.heap.size 55 #[.bool p, .slice a (grp Z).length c] ∧ Below w1.heap.size w1 W) := fun W h => keep1 w1 _ _ h
  have HC0 : Hid (Below (w1.heap.size + 1) (w1.alloc (boxI p (.slice a (grp Z).length c))) (w1.alloc (boxI p (.slice a (grp Z).length c)))) := Below.refl _ _
  have HSz2 : Hid (w1.heap.size + 1 ≤ (w1.alloc (boxI p (.slice a (grp Z).length c))).heap.size) := by show _ ≤ _; simp
  have HXa : Hid (∀ W, Below (w1.heap.size + 1) (w1.alloc (boxI p (.slice a (grp Z).length c))) W → Own W w.heap.size 25 #[.bool n, .string T, .string R] ∧ Own W (w.heap.size + 1) 25 #[.bool false, .string ⟨#[]⟩, .string ⟨#[]⟩] ∧ Below w.heap.size w W) := fun W h => HX.out W (HB1.out.trans ((HY.out W h).2.mono HSz1.out))
  have HLs : Hid (∀ W, Below (w1.heap.size + 1) (w1.alloc (boxI p (.slice a (grp Z).length c))) W → ∀ x y z : Value, (((W.setCell ⟨w.heap.size + 1, 0, none⟩ x).setCell ⟨w.heap.size + 1, 1, none⟩ y).setCell ⟨w.heap.size + 1, 2, none⟩ z).cell? ⟨w1.heap.size, 0, none⟩ = some (.bool p) ∧ (((W.setCell ⟨w.heap.size + 1, 0, none⟩ x).setCell ⟨w.heap.size + 1, 1, none⟩ y).setCell ⟨w.heap.size + 1, 2, none⟩ z).cell? ⟨w1.heap.size, 1, none⟩ = some (.slice a (grp Z).length c)) := fun W h x y z => by
    have h1 := HSz1.out
    exact (own2V (own_set3 (HY.out W h).1 (r := w.heap.size + 1) (by omega) x y z)).1
  clear hz hw1
  go_wp2_with fail
  have HB := hid HC0.out.drew
  obtain ⟨⟨r0, r1, r2⟩, q0, q1, q2⟩ := own3V (HXa.out _ HB.out).2.1
  go_region_held3 (fun W => W.cell? ⟨w1.heap.size, 0, none⟩ = some (.bool p) ∧ W.cell? ⟨w1.heap.size, 1, none⟩ = some (.slice a (grp Z).length c))
    (first
      | exact (own2V (HY.out _ HB.out).1).1
      | exact HLs.out _ HB.out _ _ _)
    (first
      | (go_at_call 51
         go_loud (
           refine (HIo.out _).mono ?_
           rintro e w6 ⟨ia, ic, rfl, hi, hw5⟩
           have HII := hid hi
           have HB := hid (HB.out.trans (hw5.mono (Nat.le_trans HSz2.out HB.out.size)))
           clear hw5 hi r0 r1 r2 q0 q1 q2
           obtain ⟨⟨r0, r1, r2⟩, q0, q1, q2⟩ := own3V (HXa.out _ HB.out).2.1))
      | (go_at_call 50
         go_loud (
           refine (HAn.out _ _ _ _ _ _ _ (HZ.out.below (HY.out _ HB.out).2 (Nat.le_refl _)) HII.out (HPw.out.below (HXa.out _ HB.out).2.2 (Nat.le_refl _))).mono ?_
           rintro e w7 ⟨rfl, hw5⟩
           have HB := hid (HB.out.trans (hw5.mono (Nat.le_trans HSz2.out HB.out.size)))
           clear hw5 r0 r1 r2 q0 q1 q2
           obtain ⟨⟨r0, r1, r2⟩, q0, q1, q2⟩ := own3V (HXa.out _ HB.out).2.1)))
  all_goals
    go_wp2_with fail
    refine bodyPost_ret (v := .tuple #[.agg #[.bool m, .string x, .string y], .int .i64 0]) (by simp [results, Tryd.results15, go_sem, r0, r1, r2]) rfl ⟨rfl, ?_⟩
    exact below_set3 (HXa.out _ HB.out).2.2 (by omega) _ _ _

theorem numRound_both (n : Bool) (T R : ByteArray) (way : Int) (h1 : T.size ≤ maxLen) (h2 : R.size ≤ maxLen) : ∃ (m : Bool) (x y : ByteArray) (c : Int),
    (∀ w, Calls Tryd.prog 13 #[.agg #[.bool n, .string T, .string R], .int .i64 way] w fun e w' => e = .returned (.tuple #[.agg #[.bool m, .string x, .string y], .int .i64 c]) ∧ Below w.heap.size w w') ∧
    (∀ w, PowE w → Calls Tryd.prog 15 #[.agg #[.bool n, .string T, .string R], .int .i64 way] w fun e w' => e = .returned (.tuple #[.agg #[.bool m, .string x, .string y], .int .i64 c]) ∧ Below w.heap.size w w') := by
  obtain ⟨b, p, U, D, o, hO⟩ := openNum_all n T R h1 h2
  have g := o.small
  by_cases hok : b = true ∧ (1 ≤ way ∧ way ≤ 4)
  · obtain ⟨rfl, hw⟩ := hok
    rcases o with ⟨-, rfl, rfl, rfl, s1, s2, k⟩ | ⟨h, -⟩
    · have hD0 := Nat.pos_of_ne_zero k.1
      have s1' := s1
      rw [dec_size] at s1'
      have hup : upWay way p U D = true → U % D ≠ 0 := fun h => upWay_left hD0 h
      have hZ := round_digits (b := upWay way p U D) s1' hD0 hup
      refine ⟨_, _, _, 0, fun w => specNumRound_yes p U D way w s1 s2 k hw, fun w hP => ?_⟩
      refine implNumRound_ok p _ _ way p _ w hZ hP.1 fun w hP => ?_
      have hL := Nat.mod_lt U hD0
      have hc : way = 1 ∨ way = 2 ∨ way = 3 ∨ way = 4 := by omega
      rcases hc with rfl | rfl | rfl | rfl
      · exact rounded_at 1 _ p _ _ p U D w hP hD0 g.1 (Or.inl ⟨rfl, rfl⟩) (fun qa da ra qc dc rc w hd hq hr => round1_any false p p da qa ra D (U / D) (U % D) dc qc rc w hr _ rfl) hO
      · exact rounded_at 2 _ p _ _ p U D w hP hD0 g.1 (Or.inr (Or.inl ⟨rfl, rfl⟩)) (fun qa da ra qc dc rc w hd hq hr => round2_any false p p da qa ra D (U / D) (U % D) dc qc rc w hr _ rfl) hO
      · exact rounded_at 3 _ p _ _ p U D w hP hD0 g.1 (Or.inr (Or.inr (Or.inl ⟨rfl, rfl⟩))) (fun qa da ra qc dc rc w hd hq hr => round3_any false p p da qa ra D (U / D) (U % D) dc qc rc w) hO
      · exact rounded_at 4 _ p _ _ p U D w hP hD0 g.1 (Or.inr (Or.inr (Or.inr ⟨rfl, rfl⟩))) (fun qa da ra qc dc rc w hd hq hr => nearest_any false p p da qa ra D (U / D) (U % D) dc qc rc w (by omega) hL hd hq hr _ rfl) hO
    · cases h
  · have hno : ¬ NumP n T R ∨ ¬ (1 ≤ way ∧ way ≤ 4) := by
      rcases o with ⟨rfl, -, e1, e2, s1, s2, k⟩ | ⟨-, h, -⟩
      · exact Or.inr fun h => hok ⟨rfl, h⟩
      · exact Or.inl h
    have hno2 : b = false ∨ ¬ (1 ≤ way ∧ way ≤ 4) := by
      cases b
      · exact Or.inl rfl
      · exact Or.inr fun h => hok ⟨rfl, h⟩
    exact ⟨false, ⟨#[]⟩, ⟨#[]⟩, 1, fun w => specNumRound_no n T R way w h1 h2 hno, fun w hP => implNumRound_err n T R way 1 w hP.1 hP.2 fun w hP => rounded_no n T R way p b U D w hP hno2 hO⟩
end Go.Proofs.YteckkgbkgjhhbaaDoor

namespace Go.Proofs.YteckkgbkgjhhbaaDoor
open Go.RowKit Go.Siskin

set_option maxRecDepth 20000 in
set_option maxHeartbeats 4000000 in
theorem lawNumRound_of (n1 : Bool) (T1 R1 : ByteArray) (k : Int) (w : World) (h1 : T1.size ≤ maxLen) (h2 : R1.size ≤ maxLen) (hP : PowE w) (n : Bool) (x y : ByteArray) (c : Int)
    (hS : ∀ w, Calls Tryd.prog 13 #[.agg #[.bool n1, .string T1, .string R1], .int .i64 k] w fun e w' => e = .returned (.tuple #[.agg #[.bool n, .string x, .string y], .int .i64 c]) ∧ Below w.heap.size w w')
    (hI : ∀ w, PowE w → Calls Tryd.prog 15 #[.agg #[.bool n1, .string T1, .string R1], .int .i64 k] w fun e w' => e = .returned (.tuple #[.agg #[.bool n, .string x, .string y], .int .i64 c]) ∧ Below w.heap.size w w') :
    Calls Tryd.prog 3 #[.agg #[.bool n1, .string T1, .string R1], .int .i64 k] w fun e w' => e = .returned (.bool true) ∧ Below w.heap.size w w' := by
  have HZ1 := hid (fun w => szNum_any n1 T1 R1 1048576 w (by decide) (by decide) h1 h2)
  obtain ⟨z1, hz1⟩ : ∃ z, szN T1.size R1.size 1048576 = z := ⟨_, rfl⟩
  rw [hz1] at HZ1
  have HT1 := hid (fun w => toNum_any n1 T1 R1 w)
  have HS := hid hS
  have HI := hid hI
  have HPw := hid hP
  have HE := hid (eqNum_same n x y)
  have hcc : (c != c) = false := by simp
  clear h1 h2 hP hS hI hz1
  have HX : Hid (∀ W, Below (w.heap.size + 1) (w.alloc (.cells #[.bool n1, .string T1, .string R1] 23)) W → Own W w.heap.size 23 #[.bool n1, .string T1, .string R1] ∧ Below w.heap.size w W) := fun W h => ⟨(own_new w #[.bool n1, .string T1, .string R1] 23).keep h (Nat.lt_succ_self _), res_done h⟩
  have HS0 : Hid (w.heap.size + 1 ≤ (w.alloc (.cells #[.bool n1, .string T1, .string R1] 23)).heap.size) := by show _ ≤ _; simp
  have HB0 : Hid (Below (w.heap.size + 1) (w.alloc (.cells #[.bool n1, .string T1, .string R1] 23)) (w.alloc (.cells #[.bool n1, .string T1, .string R1] 23))) := Below.refl _ _
  go_enter Tryd.func3, Tryd.ntmps3
  go_wp2_with fail
  refine (HZ1.out _).mono ?_
  rintro e wb ⟨rfl, hwb⟩
  have HBb := hid (HB0.out.trans (hwb.mono (by first | exact HS0.out | simp)))
  clear hwb
  by_cases hn1 : z1 < 0
  · go_wp2_with fail
    go_ret
    exact ⟨rfl, (HX.out _ HBb.out).2⟩
  obtain ⟨⟨x0, x1, x2⟩, -⟩ := own3V (HX.out _ HBb.out).1
  go_wp2_with fail
  refine (HT1.out _).mono ?_
  rintro e w2 ⟨rfl, hw2⟩
  have HB2 := hid (HBb.out.trans (hw2.mono (Nat.le_trans HS0.out HBb.out.size)))
  clear hw2 x0 x1 x2
  go_wp2_with fail
  refine (HS.out _).mono ?_
  rintro e w3 ⟨rfl, hw3⟩
  have HB3 := hid (HB2.out.trans (hw3.mono (Nat.le_trans HS0.out HB2.out.size)))
  have HS3 := hid (Nat.le_trans HS0.out HB3.out.size)
  have HY : Hid (∀ W, Below (w3.heap.size + 1) (w3.alloc (.cells #[.bool n, .string x, .string y] 25)) W → Own W w3.heap.size 25 #[.bool n, .string x, .string y] ∧ Below w3.heap.size w3 W) := fun W h => ⟨(own_new w3 #[.bool n, .string x, .string y] 25).keep h (Nat.lt_succ_self _), res_done h⟩
  have HC0 : Hid (Below (w3.heap.size + 1) (w3.alloc (.cells #[.bool n, .string x, .string y] 25)) (w3.alloc (.cells #[.bool n, .string x, .string y] 25))) := Below.refl _ _
  have HSz3 : Hid (w3.heap.size + 1 ≤ (w3.alloc (.cells #[.bool n, .string x, .string y] 25)).heap.size) := by show _ ≤ _; simp
  have HXa : Hid (∀ W, Below (w3.heap.size + 1) (w3.alloc (.cells #[.bool n, .string x, .string y] 25)) W → Own W w.heap.size 23 #[.bool n1, .string T1, .string R1] ∧ Below w.heap.size w W) := fun W h => HX.out W (HB3.out.trans ((HY.out W h).2.mono HS3.out))
  obtain ⟨⟨x0, x1, x2⟩, -⟩ := own3V (HXa.out _ HC0.out).1
  clear hw3
  go_wp2_with fail
  refine (HT1.out _).mono ?_
  rintro e w4 ⟨rfl, hw4⟩
  have HC4 := hid (HC0.out.trans (hw4.mono (by first | exact HSz3.out | simp)))
  clear hw4 x0 x1 x2
  go_wp2_with fail
  refine (HI.out _ (HPw.out.below (HXa.out _ HC4.out).2 (Nat.le_refl _))).mono ?_
  rintro e w5 ⟨rfl, hw5⟩
  have HC5 := hid (HC4.out.trans (hw5.mono (Nat.le_trans HSz3.out HC4.out.size)))
  have HS5 := hid (Nat.le_trans HSz3.out HC5.out.size)
  have HC6 : Hid (Below (w3.heap.size + 1) (w3.alloc (.cells #[.bool n, .string x, .string y] 25)) (w5.alloc (.cells #[.bool n, .string x, .string y] 25))) := HC5.out.alloc HS5.out _
  obtain ⟨⟨x0, x1, x2⟩, -⟩ := own3V (HY.out _ HC6.out).1
  clear hw5
  go_wp2_with fail
  refine (HE.out _).mono ?_
  rintro e w9 ⟨rfl, hw9⟩
  have HC9 := hid (HC6.out.trans (hw9.mono (by first | exact Nat.le_trans HS5.out (by simp) | (have := HS5.out; simp; omega))))
  clear hw9 x0 x1 x2
  go_wp2_with fail
  go_ret
  exact ⟨rfl, (HXa.out _ HC9.out).2⟩
theorem lawNumRound_any (n1 : Bool) (T1 R1 : ByteArray) (k : Int) (w : World) (h1 : T1.size ≤ maxLen) (h2 : R1.size ≤ maxLen) (hP : PowE w) :
    Calls Tryd.prog 3 #[.agg #[.bool n1, .string T1, .string R1], .int .i64 k] w fun e w' => e = .returned (.bool true) ∧ Below w.heap.size w w' := by
  obtain ⟨n, x, y, c, hS, hI⟩ := numRound_both n1 T1 R1 k h1 h2
  exact lawNumRound_of n1 T1 R1 k w h1 h2 hP n x y c hS hI
end Go.Proofs.YteckkgbkgjhhbaaDoor

namespace Go.Proofs.YteckkgbkgjhhbaaDoor
open Go.ChangeShapes Go.WideShapes Go.ChangeAt Go.RowKit Go.Siskin

theorem ownZ : ownKnob Tryd.prog.godebug = none := by kernel_rfl
theorem laidOutZ : laidOutB Tryd.prog = true := by kernel_rfl

/-- What is listed. -/
abbrev laidZ : List (String × DataW Unit) := [("loop.example/siskin/impl.powersOfTen", Rows.laid_loop_example_siskin_impl_powersOfTen)]
def tabZ : List Int := [1, 10, 100, 1000, 10000, 100000, 1000000, 10000000, 100000000]

theorem door_metZ (os : Os) (args : Array Value) : laidMetH Tryd.prog laidZ ((World.doorLaid Tryd.prog 400 os).forCall (fun _ _ => 0) ⟨#[], args, []⟩).memory :=
  laidMetH_of_parts3 (fuel := 8) (laidMet_of_run' 8 (by kernel_rfl) (by kernel_rfl)) (by kernel_rfl) (by kernel_rfl)

theorem tab_dataZ : (Rows.laid_loop_example_siskin_impl_powersOfTen : DataW Unit) = Lib.tabData .u64 tabZ := by kernel_rfl
theorem tab_ofZ {W : World} (h : laidMetH Tryd.prog laidZ W) : Pow9 W := by
  rw [MakeChecks.laidMetH_plain _ _ _ (by kernel_rfl)] at h
  rw [laidZ, tab_dataZ] at h
  have hT : Lib.TabIs Tryd.prog W "loop.example/siskin/impl.powersOfTen" .u64 tabZ :=
    Lib.tabIs_of_head (g := 1) (t := 150) (e := 88) (n := 9) (by kernel_rfl) (by kernel_rfl) (by kernel_rfl) (by kernel_rfl) (by kernel_rfl) (by kernel_rfl) h
  have hc : ∀ i, i < 9 → W.cell? ⟨1, i, none⟩ = some (.int .u64 ((10 ^ i : Nat) : Int)) := by
    intro i hi
    rw [hT.cell (g := 1) (by kernel_rfl) i (by simpa [tabZ] using hi)]
    have hcase : i = 0 ∨ i = 1 ∨ i = 2 ∨ i = 3 ∨ i = 4 ∨ i = 5 ∨ i = 6 ∨ i = 7 ∨ i = 8 := by omega
    rcases hcase with rfl | rfl | rfl | rfl | rfl | rfl | rfl | rfl | rfl <;> rfl
  refine ⟨?_, hc⟩
  have h0 := hc 0 (by omega)
  unfold World.cell? at h0
  cases e : W.heap[1]? with
  | none => rw [e] at h0; simp at h0
  | some o => exact (Array.getElem?_eq_some_iff.1 e).1

theorem var_belowZ {P : Program} {B g : Nat} {W W' : World} {n : String} {cs : Array Value} (h : Below B W W') (hg : P.globalNamed n = some g) (hgB : g < B) (hv : W.var? P n = some cs) : W'.var? P n = some cs := by
  unfold World.var? at hv ⊢
  simp only [hg, Option.bind_some] at hv ⊢
  rw [h.block g hgB]
  exact hv

/-- The listed variable reads behind the call as it did. -/
theorem vars_keptZ {H : Type} {enc : TypeId × Value → H} {W W' : World} {gs : List (DataW H)} {q : List MemPlace} (hV : DataW.TrodVars enc Tryd.prog W (fun _ => true) ["loop.example/siskin/impl.powersOfTen"] gs q) (hb : Below W.heap.size W W') (hP : Pow9 W) :
    ∃ pv, DataW.TrodVars enc Tryd.prog W' (fun b => decide (b < W.heap.size)) ["loop.example/siskin/impl.powersOfTen"] gs pv := by
  obtain ⟨g, t, cs, fuel, d, p, rfl, hg, ht, hvar, hd, rfl⟩ := trodVars_one hV
  have hg0 : Tryd.prog.globalNamed "loop.example/siskin/impl.powersOfTen" = some 1 := by kernel_rfl
  obtain rfl := Option.some.inj (hg0.symm.trans hg)
  have ht0 : (Tryd.prog.globals[1]?).map (·.type) = some 150 := by kernel_rfl
  obtain rfl := Option.some.inj (ht0.symm.trans ht)
  have lt0 : ∀ x ∈ p, x.block < W.heap.size := DataW.trod_lt fuel _ _ _ hd
  obtain ⟨f2, hd2⟩ := Below.trod laidOutZ (by kernel_rfl) (of_decide_eq_true (by kernel_rfl)) (v := .agg cs) (⟨fuel, by simpa [Value.cells] using hd⟩ : DataW.Trod enc Tryd.prog W 0 (fun _ => true) true 150 (.agg cs) d p) hb lt0
  exact ⟨_, trodVars_mk1 (enc := enc) (spare := fun b => decide (b < W.heap.size)) hg ht (var_belowZ hb hg hP.1 hvar) (by simpa [Value.cells] using hd2)⟩
end Go.Proofs.YteckkgbkgjhhbaaDoor

namespace Go.Proofs.YteckkgbkgjhhbaaDoor
open Go.ChangeShapes Go.WideShapes Go.ChangeAt Go.RowKit Go.Siskin

/-- What is listed. -/
abbrev laidE : List (String × DataW Unit) := [("errors.errorType", Rows.laid_errors_errorType), ("loop.example/siskin/impl.powersOfTen", Rows.laid_loop_example_siskin_impl_powersOfTen)]

theorem door_metE (os : Os) (args : Array Value) : laidMetH Tryd.prog laidE ((World.doorLaid Tryd.prog 400 os).forCall (fun _ _ => 0) ⟨#[], args, []⟩).memory :=
  laidMetH_of_parts3 (fuel := 8) (laidMet_of_run' 8 (by kernel_rfl) (by kernel_rfl)) (by kernel_rfl) (by kernel_rfl)

theorem errT_named : Tryd.prog.globalNamed "errors.errorType" = some 0 := by kernel_rfl
theorem errT_rt : (Tryd.prog.cutTypes.find? (·.1 == "internal/reflectlite.rtype")).map (·.2) = some 163 := by kernel_rfl
theorem errT_row : ((List.range 213).filter fun t => Tryd.prog.rowNamed t [101, 114, 114, 111, 114]) = [57] := by kernel_rfl
theorem errT_size : Tryd.prog.types.size = 213 := by kernel_rfl
theorem listed_data : (laidE.filter fun x => x.2.handleName?.isNone) = laidZ := by rfl
theorem listed_handle : (laidE.filter fun x => x.2.handleName?.isSome) = [("errors.errorType", Rows.laid_errors_errorType)] := by rfl

theorem powE_of {W : World} (h : laidMetH Tryd.prog laidE W) : PowE W := by
  obtain ⟨h1, h2⟩ := laidMetH_iff.1 h
  rw [listed_data] at h1
  rw [listed_handle] at h2
  refine ⟨tab_ofZ (by rw [MakeChecks.laidMetH_plain _ _ _ (by kernel_rfl)]; exact h1), ?_⟩
  obtain ⟨name, u, ty, e1, e2, e3, e4, e5⟩ := h2 _ (List.mem_singleton.2 rfl)
  have en : name = [101, 114, 114, 111, 114] := (Option.some.inj e1).symm
  subst en
  obtain rfl := Option.some.inj (errT_rt.symm.trans e2)
  have hm : ty ∈ (List.range 213).filter fun t => Tryd.prog.rowNamed t [101, 114, 114, 111, 114] := List.mem_filter.2 ⟨List.mem_range.2 (by rw [← errT_size]; exact e3), e4⟩
  rw [errT_row] at hm
  obtain rfl := List.mem_singleton.1 hm
  have hh : typeHandle Tryd.prog 57 = .pointer (some ⟨2, 57, none⟩) := by kernel_rfl
  rw [hh] at e5
  unfold ErrT
  simpa using World.var?_cell errT_named e5 0
end Go.Proofs.YteckkgbkgjhhbaaDoor
