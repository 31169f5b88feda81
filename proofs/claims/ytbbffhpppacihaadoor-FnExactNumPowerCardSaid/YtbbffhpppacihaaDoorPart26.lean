/-
  NumQuo, NumMod, NumGcd: the model's and the program's answer the same. Condition: the table of powers and errors.errorType stand.
  The program's baseOf and NumPower. Condition: the table of powers and errors.errorType stand.
-/
import Derived.Test.YtbbffhpppacihaaDoorPart25
import Derived.Test.YtbbffhpppacihaaDoorUN
import Derived.Test.YtbbffhpppacihaaDoorPart22
import Derived.Test.YtbbffhpppacihaaDoorPart20
namespace Go.Proofs.YtbbffhpppacihaaDoor
open Go.RowKit Go.Siskin

/-- Both variables stand. -/
def PowE (w : World) : Prop := Pow9 w ∧ ErrT w
theorem PowE.below {w w' : World} {n : Nat} (h : PowE w) (hb : Below n w w') (hn : w.heap.size ≤ n) : PowE w' := ⟨h.1.below hb hn, h.2.below hb hn⟩

/-- What integersOf tells of any two numbers. -/
theorem integersOf_all (n1 n2 : Bool) (T1 R1 T2 R2 : ByteArray) (h1 : T1.size ≤ maxLen) (h2 : R1.size ≤ maxLen) (h3 : T2.size ≤ maxLen) (h4 : R2.size ≤ maxLen) :
    (¬ (NumP n1 T1 R1 ∧ NumP n2 T2 R2) ∧ ∀ w, Pow9 w → Calls Tryd.prog 60 #[.agg #[.bool n1, .string T1, .string R1], .agg #[.bool n2, .string T2, .string R2]] w fun e w' => e = .returned (.tuple #[int0, int0, whyV 1]) ∧ Below w.heap.size w w') ∨
    (∃ U1 D1 U2 D2, T1 = dec U1 ∧ R1 = dec D1 ∧ T2 = dec U2 ∧ R2 = dec D2 ∧ T1.size ≤ 60 ∧ R1.size ≤ 60 ∧ T2.size ≤ 60 ∧ R2.size ≤ 60 ∧ OkUD n1 U1 D1 ∧ OkUD n2 U2 D2 ∧ nG U1 ≤ 60 ∧ nG U2 ≤ 60 ∧
      ((¬ (D1 = 1 ∧ D2 = 1) ∧ ∀ w, Pow9 w → Calls Tryd.prog 60 #[.agg #[.bool n1, .string T1, .string R1], .agg #[.bool n2, .string T2, .string R2]] w fun e w' => e = .returned (.tuple #[int0, int0, whyV 4]) ∧ Below w.heap.size w w') ∨
       ((D1 = 1 ∧ D2 = 1) ∧ ∀ w, Pow9 w → Calls Tryd.prog 60 #[.agg #[.bool n1, .string T1, .string R1], .agg #[.bool n2, .string T2, .string R2]] w (IntPost n1 n2 U1 U2 w)))) := by
  obtain ⟨b1, p1, U1, D1, o1, c1⟩ := openNum_all n1 T1 R1 h1 h2
  obtain ⟨b2, p2, U2, D2, o2, c2⟩ := openNum_all n2 T2 R2 h3 h4
  have g1 := o1.small
  have g2 := o2.small
  have hR := fun w hP => ratiosOf_any n1 n2 T1 R1 T2 R2 b1 b2 p1 p2 U1 D1 U2 D2 w c1 c2 hP
  rcases both_parts o1 o2 with ⟨rfl, rfl, rfl, rfl, e1, e2, e3, e4, s1, s2, s3, s4, k1, k2⟩ | ⟨hb, hno⟩
  · refine Or.inr ⟨U1, D1, U2, D2, e1, e2, e3, e4, s1, s2, s3, s4, k1, k2, g1.1, g2.1, ?_⟩
    by_cases hd : D1 = 1 ∧ D2 = 1
    · exact Or.inr ⟨hd, fun w hP => integersOf_ok n1 n2 T1 R1 T2 R2 n1 n2 U1 D1 U2 D2 w hP hd hR⟩
    · exact Or.inl ⟨hd, fun w hP => integersOf_part n1 n2 T1 R1 T2 R2 n1 n2 U1 D1 U2 D2 w hP hd hR⟩
  · rw [hb] at hR
    exact Or.inl ⟨hno, fun w hP => integersOf_no n1 n2 T1 R1 T2 R2 p1 p2 U1 D1 U2 D2 w hP hR⟩

abbrev numV (n : Bool) (x y : ByteArray) : Value := .agg #[.bool n, .string x, .string y]
theorem whole_four {D1 D2 U2 : Nat} (h : ¬ (D1 = 1 ∧ D2 = 1)) : wholeC D1 D2 U2 = 4 := by
  unfold wholeC
  rw [if_pos]
  by_cases h1 : D1 = 1
  · exact Or.inr fun h2 => h ⟨h1, h2⟩
  · exact Or.inl h1
theorem whole_two {D1 D2 U2 : Nat} (h : D1 = 1 ∧ D2 = 1) (hu : U2 = 0) : wholeC D1 D2 U2 = 2 := by
  unfold wholeC
  rw [if_neg (by rintro (h1 | h1); exact h1 h.1; exact h1 h.2), if_pos hu]
theorem whole_none {D1 D2 U2 : Nat} (h : D1 = 1 ∧ D2 = 1) (hu : U2 ≠ 0) : wholeC D1 D2 U2 = 0 := by
  unfold wholeC
  rw [if_neg (by rintro (h1 | h1); exact h1 h.1; exact h1 h.2), if_neg hu]

theorem numGcd_both (n1 n2 : Bool) (T1 R1 T2 R2 : ByteArray) (h1 : T1.size ≤ maxLen) (h2 : R1.size ≤ maxLen) (h3 : T2.size ≤ maxLen) (h4 : R2.size ≤ maxLen) : ∃ (n : Bool) (x y : ByteArray) (c : Int),
    (∀ w, Calls Tryd.prog 31 #[.agg #[.bool n1, .string T1, .string R1], .agg #[.bool n2, .string T2, .string R2]] w fun e w' => e = .returned (.tuple #[.agg #[.bool n, .string x, .string y], .int .i64 c]) ∧ Below w.heap.size w w') ∧
    (∀ w, PowE w → Calls Tryd.prog 30 #[.agg #[.bool n1, .string T1, .string R1], .agg #[.bool n2, .string T2, .string R2]] w fun e w' => e = .returned (.tuple #[.agg #[.bool n, .string x, .string y], .int .i64 c]) ∧ Below w.heap.size w w') := by
  rcases integersOf_all n1 n2 T1 R1 T2 R2 h1 h2 h3 h4 with ⟨hno, hI⟩ | ⟨U1, D1, U2, D2, rfl, rfl, rfl, rfl, s1, s2, s3, s4, k1, k2, g1, g2, ⟨hd, hI⟩ | ⟨hd, hI⟩⟩
  · exact ⟨false, ⟨#[]⟩, ⟨#[]⟩, 1, fun w => specNumGcd_code n1 n2 _ _ _ _ w 1 (Or.inl rfl) (fun w => l14Whole_no n1 n2 _ _ _ _ w h1 h2 h3 h4 hno),
      fun w hP => implNumGcd_err n1 n2 _ _ _ _ 1 w hP.1 hP.2 hI⟩
  · exact ⟨false, ⟨#[]⟩, ⟨#[]⟩, 4, fun w => specNumGcd_code n1 n2 _ _ _ _ w 4 (Or.inr rfl) (fun w => l14Whole_yes n1 n2 _ _ _ _ w s1 s2 s3 s4 k1 k2 4 (whole_four hd)),
      fun w hP => implNumGcd_err n1 n2 _ _ _ _ 4 w hP.1 hP.2 hI⟩
  · obtain ⟨c, hc, hcw⟩ : ∃ c : Int, (c = 0 ∨ c = 2) ∧ wholeC D1 D2 U2 = c := by
      by_cases hu : U2 = 0
      · exact ⟨2, Or.inr rfl, whole_two hd hu⟩
      · exact ⟨0, Or.inl rfl, whole_none hd hu⟩
    exact ⟨_, _, _, 0, fun w => specNumGcd_yes n1 n2 U1 D1 U2 D2 w s1 s3 c hc (fun w => l14Whole_yes n1 n2 _ _ _ _ w s1 s2 s3 s4 k1 k2 c hcw),
      fun w hP => implNumGcd_ok n1 n2 n1 n2 _ _ _ _ U1 U2 w (by omega) (by omega) hP.1 hI⟩

theorem numQuo_both (n1 n2 : Bool) (T1 R1 T2 R2 : ByteArray) (h1 : T1.size ≤ maxLen) (h2 : R1.size ≤ maxLen) (h3 : T2.size ≤ maxLen) (h4 : R2.size ≤ maxLen) : ∃ (n : Bool) (x y : ByteArray) (m : Bool) (z t : ByteArray) (c : Int),
    (∀ w, Calls Tryd.prog 9 #[.agg #[.bool n1, .string T1, .string R1], .agg #[.bool n2, .string T2, .string R2]] w fun e w' => e = .returned (.tuple #[.agg #[.bool n, .string x, .string y], .agg #[.bool m, .string z, .string t], .int .i64 c]) ∧ Below w.heap.size w w') ∧
    (∀ w, PowE w → Calls Tryd.prog 11 #[.agg #[.bool n1, .string T1, .string R1], .agg #[.bool n2, .string T2, .string R2]] w fun e w' => e = .returned (.tuple #[.agg #[.bool n, .string x, .string y], .agg #[.bool m, .string z, .string t], .int .i64 c]) ∧ Below w.heap.size w w') := by
  rcases integersOf_all n1 n2 T1 R1 T2 R2 h1 h2 h3 h4 with ⟨hno, hI⟩ | ⟨U1, D1, U2, D2, rfl, rfl, rfl, rfl, s1, s2, s3, s4, k1, k2, g1, g2, ⟨hd, hI⟩ | ⟨hd, hI⟩⟩
  · exact ⟨false, ⟨#[]⟩, ⟨#[]⟩, false, ⟨#[]⟩, ⟨#[]⟩, 1, fun w => specNumQuo_code n1 n2 _ _ _ _ w 1 (by decide) (fun w => l14Whole_no n1 n2 _ _ _ _ w h1 h2 h3 h4 hno),
      fun w hP => implNumQuo_err n1 n2 _ _ _ _ 1 w hP.1 hP.2 (fun w hP => dividedOf_err n1 n2 _ _ _ _ 1 w hP hI)⟩
  · exact ⟨false, ⟨#[]⟩, ⟨#[]⟩, false, ⟨#[]⟩, ⟨#[]⟩, 4, fun w => specNumQuo_code n1 n2 _ _ _ _ w 4 (by decide) (fun w => l14Whole_yes n1 n2 _ _ _ _ w s1 s2 s3 s4 k1 k2 4 (whole_four hd)),
      fun w hP => implNumQuo_err n1 n2 _ _ _ _ 4 w hP.1 hP.2 (fun w hP => dividedOf_err n1 n2 _ _ _ _ 4 w hP hI)⟩
  · by_cases hu : U2 = 0
    · subst hu
      exact ⟨false, ⟨#[]⟩, ⟨#[]⟩, false, ⟨#[]⟩, ⟨#[]⟩, 2, fun w => specNumQuo_code n1 n2 _ _ _ _ w 2 (by decide) (fun w => l14Whole_yes n1 n2 _ _ _ _ w s1 s2 s3 s4 k1 k2 2 (whole_two hd rfl)),
        fun w hP => implNumQuo_err n1 n2 _ _ _ _ 2 w hP.1 hP.2 (fun w hP => dividedOf_nought n1 n2 n1 n2 _ _ _ _ U1 w hP hI)⟩
    · exact ⟨_, _, _, _, _, _, 0, fun w => specNumQuo_yes n1 n2 U1 D1 U2 D2 w s1 s3 hu (fun w => l14Whole_yes n1 n2 _ _ _ _ w s1 s2 s3 s4 k1 k2 0 (whole_none hd hu)),
        fun w hP => implNumQuo_ok n1 n2 n1 n2 _ _ _ _ _ U1 U2 w rfl (by omega) (by omega) hu hP.1 (fun w hP => dividedOf_ok n1 n2 n1 n2 _ _ _ _ _ U1 U2 w rfl hu (by omega) hP hI)⟩
end Go.Proofs.YtbbffhpppacihaaDoor

namespace Go.Proofs.YtbbffhpppacihaaDoor
open Go.RowKit Go.Siskin

abbrev rat0 : Value := .agg #[.bool false, .slice none 0 0, .bool false, .slice none 0 0]
/-- What openNum tells, as a name. -/
abbrev OpenC (n : Bool) (T R : ByteArray) (p b : Bool) (U D : Nat) : Prop := ∀ w, Pow9 w → Calls Tryd.prog 49 #[.agg #[.bool n, .string T, .string R]] w fun e w' => ∃ ua uc da dc, e = .returned (.tuple #[.agg #[.bool p, .slice ua (grp U).length uc, .slice da (grp D).length dc], .bool b]) ∧ NatA w' (.slice ua (grp U).length uc) (grp U) ∧ NatA w' (.slice da (grp D).length dc) (grp D) ∧ Below w.heap.size w w'

set_option maxRecDepth 20000 in
set_option maxHeartbeats 2000000 in
theorem baseOf_one (n : Bool) (T R : ByteArray) (p b : Bool) (U D : Nat) (k : Int) (w : World) (hP : Pow9 w) (hb : b = false ∨ k < -1000 ∨ 1000 < k) (hO : OpenC n T R p b U D) :
    Calls Tryd.prog 40 #[.agg #[.bool n, .string T, .string R], .int .i64 k] w fun e w' => e = .returned (.tuple #[rat0, whyV 1]) ∧ Below w.heap.size w w' := by
  have HO := hid hO
  have HPw := hid hP
  have HX : Hid (∀ W, Below (w.heap.size + 2) ((w.alloc (boxN n T R)).alloc (boxR false (.slice none 0 0) false (.slice none 0 0))) W → Siskin.Own W w.heap.size 25 #[.bool n, .string T, .string R] ∧ Siskin.Own W (w.heap.size + 1) 61 #[.bool false, .slice none 0 0, .bool false, .slice none 0 0] ∧ Below w.heap.size w W) := fun W h => boxes2 w _ _ _ _ h
  have HB0 : Hid (Below (w.heap.size + 2) ((w.alloc (boxN n T R)).alloc (boxR false (.slice none 0 0) false (.slice none 0 0))) ((w.alloc (boxN n T R)).alloc (boxR false (.slice none 0 0) false (.slice none 0 0)))) := Below.refl _ _
  have HSz : Hid (w.heap.size + 2 ≤ ((w.alloc (boxN n T R)).alloc (boxR false (.slice none 0 0) false (.slice none 0 0))).heap.size) := by show _ ≤ _; simp
  have HP0 := hid (HPw.out.below (HX.out _ HB0.out).2.2 (Nat.le_refl _))
  clear hP hO
  rcases hb with rfl | hk | hk
  all_goals
    (try cases b)
    all_goals
      go_enter Tryd.func40, Tryd.ntmps40
      go_wp2_with fail
      refine (HO.out _ HP0.out).mono ?_
      rintro e w1 ⟨ua, uc, da, dc, rfl, hu, hd, hw1⟩
      have HB1 := hid (HB0.out.trans (hw1.mono (by first | exact HSz.out | simp)))
      have HSz1 := hid (Nat.le_trans HSz.out HB1.out.size)
      have hs1 := HSz1.out
      have HB2 := fun o => (HX.out _ (HB1.out.alloc HSz1.out o)).2.1
      obtain ⟨⟨r0, r1, r2, r3⟩, q0, q1, q2, q3⟩ := own4V (HB2 (.cells #[.bool p, .slice ua (grp U).length uc, .slice da (grp D).length dc] 71))
      clear hu hd hw1
      go_wp2_with fail
      refine bodyPost_ret (v := .tuple #[rat0, whyV 1]) (by simp [results, Tryd.results40, go_sem, r0, r1, r2, r3]) rfl ⟨rfl, ?_⟩
      exact below_set4 (HX.out _ (HB1.out.alloc HSz1.out _)).2.2 (by omega) _ _ _ _
set_option maxRecDepth 20000 in
set_option maxHeartbeats 2000000 in
theorem baseOf_pos (n : Bool) (T R : ByteArray) (p : Bool) (U D : Nat) (k : Int) (w : World) (hP : Pow9 w) (h0 : 0 ≤ k) (h1 : k ≤ 1000) (hO : OpenC n T R p true U D) :
    Calls Tryd.prog 40 #[.agg #[.bool n, .string T, .string R], .int .i64 k] w fun e w' => ∃ ua uc da dc, e = .returned (.tuple #[.agg #[.bool p, .slice ua (grp U).length uc, .bool false, .slice da (grp D).length dc], .nilIface]) ∧ NatA w' (.slice ua (grp U).length uc) (grp U) ∧ NatA w' (.slice da (grp D).length dc) (grp D) ∧ Below w.heap.size w w' := by
  have HO := hid hO
  have HPw := hid hP
  have HX : Hid (∀ W, Below (w.heap.size + 2) ((w.alloc (boxN n T R)).alloc (boxR false (.slice none 0 0) false (.slice none 0 0))) W → Siskin.Own W w.heap.size 25 #[.bool n, .string T, .string R] ∧ Siskin.Own W (w.heap.size + 1) 61 #[.bool false, .slice none 0 0, .bool false, .slice none 0 0] ∧ Below w.heap.size w W) := fun W h => boxes2 w _ _ _ _ h
  have HB0 : Hid (Below (w.heap.size + 2) ((w.alloc (boxN n T R)).alloc (boxR false (.slice none 0 0) false (.slice none 0 0))) ((w.alloc (boxN n T R)).alloc (boxR false (.slice none 0 0) false (.slice none 0 0)))) := Below.refl _ _
  have HSz : Hid (w.heap.size + 2 ≤ ((w.alloc (boxN n T R)).alloc (boxR false (.slice none 0 0) false (.slice none 0 0))).heap.size) := by show _ ≤ _; simp
  have HP0 := hid (HPw.out.below (HX.out _ HB0.out).2.2 (Nat.le_refl _))
  have HRO := hid (fun a b l c k d w => ratioOf_any p a b l c k d w)
  skip
  clear hP hO
  go_enter Tryd.func40, Tryd.ntmps40
  go_wp2_with fail
  refine (HO.out _ HP0.out).mono ?_
  rintro e w1 ⟨ua, uc, da, dc, rfl, hu, hd, hw1⟩
  have HB1 := hid (HB0.out.trans (hw1.mono (by first | exact HSz.out | simp)))
  have HSz1 := hid (Nat.le_trans HSz.out HB1.out.size)
  have HF : Hid (∀ W, Below (w1.heap.size + 1) (w1.alloc (.cells #[.bool p, .slice ua (grp U).length uc, .slice da (grp D).length dc] 71)) W → Siskin.Own W w1.heap.size 71 #[.bool p, .slice ua (grp U).length uc, .slice da (grp D).length dc] ∧ Below w1.heap.size w1 W) := fun W h => ⟨(own_new w1 #[.bool p, .slice ua (grp U).length uc, .slice da (grp D).length dc] 71).keep h (Nat.lt_succ_self _), res_done h⟩
  have HC0 : Hid (Below (w1.heap.size + 1) (w1.alloc (.cells #[.bool p, .slice ua (grp U).length uc, .slice da (grp D).length dc] 71)) (w1.alloc (.cells #[.bool p, .slice ua (grp U).length uc, .slice da (grp D).length dc] 71))) := Below.refl _ _
  obtain ⟨⟨f0, f1, f2⟩, -⟩ := own3V (HF.out _ HC0.out).1
  have HU := hid hu
  have HD := hid hd
  clear hu hd hw1
  go_wp2_with fail
  refine (HRO.out _ _ _ _ _ _ _).mono ?_
  rintro e w2 ⟨rfl, hw2⟩
  have HC1 : Hid (Below (w1.heap.size + 1) (w1.alloc (.cells #[.bool p, .slice ua (grp U).length uc, .slice da (grp D).length dc] 71)) w2) := HC0.out.trans (hw2.mono (show w1.heap.size + 1 ≤ _ by simp))
  clear hw2 f0 f1 f2
  have HS2 : Hid (w1.heap.size + 1 ≤ w2.heap.size) := by have := HC1.out.size; simp at this; exact this
  have HB2 : Hid (Below (w.heap.size + 2) ((w.alloc (boxN n T R)).alloc (boxR false (.slice none 0 0) false (.slice none 0 0))) w2) := HB1.out.trans ((HF.out _ HC1.out).2.mono HSz1.out)
  have hsz1 := HSz1.out
  have hs2 := HS2.out
  have HY : Hid (∀ W, Below (w2.heap.size + 1) (w2.alloc (boxR p (.slice ua (grp U).length uc) false (.slice da (grp D).length dc))) W → Siskin.Own W w2.heap.size 61 #[.bool p, .slice ua (grp U).length uc, .bool false, .slice da (grp D).length dc] ∧ Below w2.heap.size w2 W) := fun W h => ⟨(own_new w2 #[.bool p, .slice ua (grp U).length uc, .bool false, .slice da (grp D).length dc] 61).keep h (Nat.lt_succ_self _), res_done h⟩
  have HE0 : Hid (Below (w2.heap.size + 1) (w2.alloc (boxR p (.slice ua (grp U).length uc) false (.slice da (grp D).length dc))) (w2.alloc (boxR p (.slice ua (grp U).length uc) false (.slice da (grp D).length dc)))) := Below.refl _ _
  have HXy : Hid (∀ W, Below (w2.heap.size + 1) (w2.alloc (boxR p (.slice ua (grp U).length uc) false (.slice da (grp D).length dc))) W → Below (w.heap.size + 2) ((w.alloc (boxN n T R)).alloc (boxR false (.slice none 0 0) false (.slice none 0 0))) W) := fun W h => HB2.out.trans ((HY.out W h).2.mono (by omega))
  obtain ⟨⟨y0, y1, y2, y3⟩, -⟩ := own4V (HY.out _ HE0.out).1
  obtain ⟨⟨r0, r1, r2, r3⟩, q0, q1, q2, q3⟩ := own4V (HX.out _ (HXy.out _ HE0.out)).2.1
  have HBf := hid (HX.out _ (HXy.out _ HE0.out)).2.2
  have HO4 := hid (HX.out _ (HXy.out _ HE0.out)).2.1
  have HU2 := hid ((HU.out.below (HF.out _ HC1.out).2 (Nat.le_refl _)).below (HY.out _ HE0.out).2 (Nat.le_refl _))
  have HD2 := hid ((HD.out.below (HF.out _ HC1.out).2 (Nat.le_refl _)).below (HY.out _ HE0.out).2 (Nat.le_refl _))
  go_wp2_with fail
  refine bodyPost_ret (v := .tuple #[.agg #[.bool p, .slice ua (grp U).length uc, .bool false, .slice da (grp D).length dc], .nilIface]) (by simp [results, Tryd.results40, go_sem, r0, r1, r2, r3]) rfl ⟨ua, uc, da, dc, rfl, ?_, ?_, ?_⟩
  · exact natA_set4 HU2.out HO4.out _ _ _ _
  · exact natA_set4 HD2.out HO4.out _ _ _ _
  · exact below_set4 HBf.out (by omega) _ _ _ _

set_option maxRecDepth 20000 in
set_option maxHeartbeats 2000000 in
theorem baseOf_nought (n : Bool) (T R : ByteArray) (p : Bool) (U D : Nat) (k : Int) (w : World) (hP : Pow9 w) (h0 : k < 0) (h1 : -1000 ≤ k) (hU0 : U = 0) (hO : OpenC n T R p true U D) :
    Calls Tryd.prog 40 #[.agg #[.bool n, .string T, .string R], .int .i64 k] w fun e w' => e = .returned (.tuple #[rat0, whyV 2]) ∧ Below w.heap.size w w' := by
  have HO := hid hO
  have HPw := hid hP
  have HX : Hid (∀ W, Below (w.heap.size + 2) ((w.alloc (boxN n T R)).alloc (boxR false (.slice none 0 0) false (.slice none 0 0))) W → Siskin.Own W w.heap.size 25 #[.bool n, .string T, .string R] ∧ Siskin.Own W (w.heap.size + 1) 61 #[.bool false, .slice none 0 0, .bool false, .slice none 0 0] ∧ Below w.heap.size w W) := fun W h => boxes2 w _ _ _ _ h
  have HB0 : Hid (Below (w.heap.size + 2) ((w.alloc (boxN n T R)).alloc (boxR false (.slice none 0 0) false (.slice none 0 0))) ((w.alloc (boxN n T R)).alloc (boxR false (.slice none 0 0) false (.slice none 0 0)))) := Below.refl _ _
  have HSz : Hid (w.heap.size + 2 ≤ ((w.alloc (boxN n T R)).alloc (boxR false (.slice none 0 0) false (.slice none 0 0))).heap.size) := by show _ ≤ _; simp
  have HP0 := hid (HPw.out.below (HX.out _ HB0.out).2.2 (Nat.le_refl _))
  have HRO := hid (fun a b l c k d w => ratioOf_any p a b l c k d w)
  have HSg : Hid (∀ a l c W, NatA W (.slice a l c) (grp U) → Calls Tryd.prog 53 #[.agg #[.bool p, .slice a l c]] W fun e w' => e = .returned (.int .i64 (signI p U)) ∧ Below W.heap.size W w') := fun a l c W h => intSign_any p U (.slice a l c) W h
  have hsg : (signI p U == 0) = true := by unfold signI; rw [if_pos hU0]; rfl
  generalize signI p U = sg at *
  clear hU0
  clear hP hO
  go_enter Tryd.func40, Tryd.ntmps40
  go_wp2_with fail
  refine (HO.out _ HP0.out).mono ?_
  rintro e w1 ⟨ua, uc, da, dc, rfl, hu, hd, hw1⟩
  have HB1 := hid (HB0.out.trans (hw1.mono (by first | exact HSz.out | simp)))
  have HSz1 := hid (Nat.le_trans HSz.out HB1.out.size)
  have HF : Hid (∀ W, Below (w1.heap.size + 1) (w1.alloc (.cells #[.bool p, .slice ua (grp U).length uc, .slice da (grp D).length dc] 71)) W → Siskin.Own W w1.heap.size 71 #[.bool p, .slice ua (grp U).length uc, .slice da (grp D).length dc] ∧ Below w1.heap.size w1 W) := fun W h => ⟨(own_new w1 #[.bool p, .slice ua (grp U).length uc, .slice da (grp D).length dc] 71).keep h (Nat.lt_succ_self _), res_done h⟩
  have HC0 : Hid (Below (w1.heap.size + 1) (w1.alloc (.cells #[.bool p, .slice ua (grp U).length uc, .slice da (grp D).length dc] 71)) (w1.alloc (.cells #[.bool p, .slice ua (grp U).length uc, .slice da (grp D).length dc] 71))) := Below.refl _ _
  obtain ⟨⟨f0, f1, f2⟩, -⟩ := own3V (HF.out _ HC0.out).1
  have HU := hid hu
  have HD := hid hd
  clear hu hd hw1
  go_wp2_with fail
  refine (HRO.out _ _ _ _ _ _ _).mono ?_
  rintro e w2 ⟨rfl, hw2⟩
  have HC1 : Hid (Below (w1.heap.size + 1) (w1.alloc (.cells #[.bool p, .slice ua (grp U).length uc, .slice da (grp D).length dc] 71)) w2) := HC0.out.trans (hw2.mono (show w1.heap.size + 1 ≤ _ by simp))
  clear hw2 f0 f1 f2
  have HS2 : Hid (w1.heap.size + 1 ≤ w2.heap.size) := by have := HC1.out.size; simp at this; exact this
  have HB2 : Hid (Below (w.heap.size + 2) ((w.alloc (boxN n T R)).alloc (boxR false (.slice none 0 0) false (.slice none 0 0))) w2) := HB1.out.trans ((HF.out _ HC1.out).2.mono HSz1.out)
  have hsz1 := HSz1.out
  have hs2 := HS2.out
  have HY : Hid (∀ W, Below (w2.heap.size + 1) (w2.alloc (boxR p (.slice ua (grp U).length uc) false (.slice da (grp D).length dc))) W → Siskin.Own W w2.heap.size 61 #[.bool p, .slice ua (grp U).length uc, .bool false, .slice da (grp D).length dc] ∧ Below w2.heap.size w2 W) := fun W h => ⟨(own_new w2 #[.bool p, .slice ua (grp U).length uc, .bool false, .slice da (grp D).length dc] 61).keep h (Nat.lt_succ_self _), res_done h⟩
  have HE0 : Hid (Below (w2.heap.size + 1) (w2.alloc (boxR p (.slice ua (grp U).length uc) false (.slice da (grp D).length dc))) (w2.alloc (boxR p (.slice ua (grp U).length uc) false (.slice da (grp D).length dc)))) := Below.refl _ _
  have HXy : Hid (∀ W, Below (w2.heap.size + 1) (w2.alloc (boxR p (.slice ua (grp U).length uc) false (.slice da (grp D).length dc))) W → Below (w.heap.size + 2) ((w.alloc (boxN n T R)).alloc (boxR false (.slice none 0 0) false (.slice none 0 0))) W) := fun W h => HB2.out.trans ((HY.out W h).2.mono (by omega))
  obtain ⟨⟨y0, y1, y2, y3⟩, -⟩ := own4V (HY.out _ HE0.out).1
  go_wp2_with fail
  refine (HSg.out _ _ _ _ ((HU.out.below (HF.out _ HC1.out).2 (Nat.le_refl _)).below (HY.out _ HE0.out).2 (Nat.le_refl _))).mono ?_
  rintro e w3 ⟨rfl, hw3⟩
  have HE1 : Hid (Below (w2.heap.size + 1) (w2.alloc (boxR p (.slice ua (grp U).length uc) false (.slice da (grp D).length dc))) w3) := HE0.out.trans (hw3.mono (show w2.heap.size + 1 ≤ _ by simp))
  clear hw3 y0 y1 y2 y3
  obtain ⟨⟨y0, y1, y2, y3⟩, -⟩ := own4V (HY.out _ HE1.out).1
  have hs3 : w2.heap.size + 1 ≤ w3.heap.size := by have := HE1.out.size; simp at this; exact this
  obtain ⟨⟨r0, r1, r2, r3⟩, q0, q1, q2, q3⟩ := own4V (HX.out _ (HXy.out _ HE1.out)).2.1
  go_wp2_with fail
  refine bodyPost_ret (v := .tuple #[rat0, whyV 2]) (by simp [results, Tryd.results40, go_sem, r0, r1, r2, r3]) rfl ⟨rfl, ?_⟩
  exact below_set4 (HX.out _ (HXy.out _ HE1.out)).2.2 (by omega) _ _ _ _

set_option maxRecDepth 20000 in
set_option maxHeartbeats 2000000 in
theorem baseOf_neg (n : Bool) (T R : ByteArray) (p : Bool) (U D : Nat) (k : Int) (w : World) (hP : Pow9 w) (h0 : k < 0) (h1 : -1000 ≤ k) (hU0 : U ≠ 0) (hO : OpenC n T R p true U D) :
    Calls Tryd.prog 40 #[.agg #[.bool n, .string T, .string R], .int .i64 k] w fun e w' => ∃ ua uc da dc, e = .returned (.tuple #[.agg #[.bool false, .slice da (grp D).length dc, .bool p, .slice ua (grp U).length uc], .nilIface]) ∧ NatA w' (.slice ua (grp U).length uc) (grp U) ∧ NatA w' (.slice da (grp D).length dc) (grp D) ∧ Below w.heap.size w w' := by
  have HO := hid hO
  have HPw := hid hP
  have HX : Hid (∀ W, Below (w.heap.size + 2) ((w.alloc (boxN n T R)).alloc (boxR false (.slice none 0 0) false (.slice none 0 0))) W → Siskin.Own W w.heap.size 25 #[.bool n, .string T, .string R] ∧ Siskin.Own W (w.heap.size + 1) 61 #[.bool false, .slice none 0 0, .bool false, .slice none 0 0] ∧ Below w.heap.size w W) := fun W h => boxes2 w _ _ _ _ h
  have HB0 : Hid (Below (w.heap.size + 2) ((w.alloc (boxN n T R)).alloc (boxR false (.slice none 0 0) false (.slice none 0 0))) ((w.alloc (boxN n T R)).alloc (boxR false (.slice none 0 0) false (.slice none 0 0)))) := Below.refl _ _
  have HSz : Hid (w.heap.size + 2 ≤ ((w.alloc (boxN n T R)).alloc (boxR false (.slice none 0 0) false (.slice none 0 0))).heap.size) := by show _ ≤ _; simp
  have HP0 := hid (HPw.out.below (HX.out _ HB0.out).2.2 (Nat.le_refl _))
  have HRO := hid (fun a b l c k d w => ratioOf_any p a b l c k d w)
  have HSg : Hid (∀ a l c W, NatA W (.slice a l c) (grp U) → Calls Tryd.prog 53 #[.agg #[.bool p, .slice a l c]] W fun e w' => e = .returned (.int .i64 (signI p U)) ∧ Below W.heap.size W w') := fun a l c W h => intSign_any p U (.slice a l c) W h
  have hsg : (signI p U == 0) = false := by unfold signI; rw [if_neg hU0]; cases p <;> rfl
  generalize signI p U = sg at *
  clear hU0
  have HTn := hid (fun a b l c k d w => turned_any p false a b l c k d w)
  clear hP hO
  go_enter Tryd.func40, Tryd.ntmps40
  go_wp2_with fail
  refine (HO.out _ HP0.out).mono ?_
  rintro e w1 ⟨ua, uc, da, dc, rfl, hu, hd, hw1⟩
  have HB1 := hid (HB0.out.trans (hw1.mono (by first | exact HSz.out | simp)))
  have HSz1 := hid (Nat.le_trans HSz.out HB1.out.size)
  have HF : Hid (∀ W, Below (w1.heap.size + 1) (w1.alloc (.cells #[.bool p, .slice ua (grp U).length uc, .slice da (grp D).length dc] 71)) W → Siskin.Own W w1.heap.size 71 #[.bool p, .slice ua (grp U).length uc, .slice da (grp D).length dc] ∧ Below w1.heap.size w1 W) := fun W h => ⟨(own_new w1 #[.bool p, .slice ua (grp U).length uc, .slice da (grp D).length dc] 71).keep h (Nat.lt_succ_self _), res_done h⟩
  have HC0 : Hid (Below (w1.heap.size + 1) (w1.alloc (.cells #[.bool p, .slice ua (grp U).length uc, .slice da (grp D).length dc] 71)) (w1.alloc (.cells #[.bool p, .slice ua (grp U).length uc, .slice da (grp D).length dc] 71))) := Below.refl _ _
  obtain ⟨⟨f0, f1, f2⟩, -⟩ := own3V (HF.out _ HC0.out).1
  have HU := hid hu
  have HD := hid hd
  clear hu hd hw1
  go_wp2_with fail
  refine (HRO.out _ _ _ _ _ _ _).mono ?_
  rintro e w2 ⟨rfl, hw2⟩
  have HC1 : Hid (Below (w1.heap.size + 1) (w1.alloc (.cells #[.bool p, .slice ua (grp U).length uc, .slice da (grp D).length dc] 71)) w2) := HC0.out.trans (hw2.mono (show w1.heap.size + 1 ≤ _ by simp))
  clear hw2 f0 f1 f2
  have HS2 : Hid (w1.heap.size + 1 ≤ w2.heap.size) := by have := HC1.out.size; simp at this; exact this
  have HB2 : Hid (Below (w.heap.size + 2) ((w.alloc (boxN n T R)).alloc (boxR false (.slice none 0 0) false (.slice none 0 0))) w2) := HB1.out.trans ((HF.out _ HC1.out).2.mono HSz1.out)
  have hsz1 := HSz1.out
  have hs2 := HS2.out
  have HY : Hid (∀ W, Below (w2.heap.size + 1) (w2.alloc (boxR p (.slice ua (grp U).length uc) false (.slice da (grp D).length dc))) W → Siskin.Own W w2.heap.size 61 #[.bool p, .slice ua (grp U).length uc, .bool false, .slice da (grp D).length dc] ∧ Below w2.heap.size w2 W) := fun W h => ⟨(own_new w2 #[.bool p, .slice ua (grp U).length uc, .bool false, .slice da (grp D).length dc] 61).keep h (Nat.lt_succ_self _), res_done h⟩
  have HE0 : Hid (Below (w2.heap.size + 1) (w2.alloc (boxR p (.slice ua (grp U).length uc) false (.slice da (grp D).length dc))) (w2.alloc (boxR p (.slice ua (grp U).length uc) false (.slice da (grp D).length dc)))) := Below.refl _ _
  have HXy : Hid (∀ W, Below (w2.heap.size + 1) (w2.alloc (boxR p (.slice ua (grp U).length uc) false (.slice da (grp D).length dc))) W → Below (w.heap.size + 2) ((w.alloc (boxN n T R)).alloc (boxR false (.slice none 0 0) false (.slice none 0 0))) W) := fun W h => HB2.out.trans ((HY.out W h).2.mono (by omega))
  obtain ⟨⟨y0, y1, y2, y3⟩, -⟩ := own4V (HY.out _ HE0.out).1
  go_wp2_with fail
  refine (HSg.out _ _ _ _ ((HU.out.below (HF.out _ HC1.out).2 (Nat.le_refl _)).below (HY.out _ HE0.out).2 (Nat.le_refl _))).mono ?_
  rintro e w3 ⟨rfl, hw3⟩
  have HE1 : Hid (Below (w2.heap.size + 1) (w2.alloc (boxR p (.slice ua (grp U).length uc) false (.slice da (grp D).length dc))) w3) := HE0.out.trans (hw3.mono (show w2.heap.size + 1 ≤ _ by simp))
  clear hw3 y0 y1 y2 y3
  obtain ⟨⟨y0, y1, y2, y3⟩, -⟩ := own4V (HY.out _ HE1.out).1
  have hs3 : w2.heap.size + 1 ≤ w3.heap.size := by have := HE1.out.size; simp at this; exact this
  go_wp2_with fail
  refine (HTn.out _ _ _ _ _ _ _).mono ?_
  rintro e w4 ⟨rfl, hw4⟩
  have HE2 : Hid (Below (w2.heap.size + 1) (w2.alloc (boxR p (.slice ua (grp U).length uc) false (.slice da (grp D).length dc))) w4) := HE1.out.trans (hw4.mono (show w2.heap.size + 1 ≤ _ by omega))
  clear hw4 y0 y1 y2 y3
  have HU4 := hid ((HU.out.below (HF.out _ HC1.out).2 (Nat.le_refl _)).below (HY.out _ HE2.out).2 (Nat.le_refl _))
  have HD4 := hid ((HD.out.below (HF.out _ HC1.out).2 (Nat.le_refl _)).below (HY.out _ HE2.out).2 (Nat.le_refl _))
  have HO4 := hid (HX.out _ (HXy.out _ HE2.out)).2.1
  have HBf := hid (HX.out _ (HXy.out _ HE2.out)).2.2
  obtain ⟨⟨r0, r1, r2, r3⟩, q0, q1, q2, q3⟩ := own4V HO4.out
  go_wp2_with fail
  refine bodyPost_ret (v := .tuple #[.agg #[.bool false, .slice da (grp D).length dc, .bool p, .slice ua (grp U).length uc], .nilIface]) (by simp [results, Tryd.results40, go_sem, r0, r1, r2, r3]) rfl ⟨ua, uc, da, dc, rfl, ?_, ?_, ?_⟩
  · exact natA_set4 HU4.out HO4.out _ _ _ _
  · exact natA_set4 HD4.out HO4.out _ _ _ _
  · exact below_set4 HBf.out (by omega) _ _ _ _
set_option maxRecDepth 20000 in
set_option maxHeartbeats 2000000 in
theorem implNumPower_err (n : Bool) (T R : ByteArray) (k c : Int) (w : World) (hP : Pow9 w) (hE : ErrT w)
    (hI : ∀ w, Pow9 w → Calls Tryd.prog 40 #[.agg #[.bool n, .string T, .string R], .int .i64 k] w fun e w' => e = .returned (.tuple #[rat0, whyV c]) ∧ Below w.heap.size w w') :
    Calls Tryd.prog 14 #[.agg #[.bool n, .string T, .string R], .int .i64 k] w fun e w' => e = .returned (noAns c) ∧ Below w.heap.size w w' := by
  have HI := hid hI
  have HPw := hid hP
  have HEw := hid hE
  have HCo := hid (fun w hE => codeOf_any c w hE)
  clear hI hP hE
  have HX : Hid (∀ W, Below (w.heap.size + 2) ((w.alloc (boxN n T R)).alloc box0) W → Siskin.Own W w.heap.size 25 #[.bool n, .string T, .string R] ∧ Siskin.Own W (w.heap.size + 1) 25 #[.bool false, .string ⟨#[]⟩, .string ⟨#[]⟩] ∧ Below w.heap.size w W) := fun W h => boxes2 w _ _ _ _ h
  have HB0 : Hid (Below (w.heap.size + 2) ((w.alloc (boxN n T R)).alloc box0) ((w.alloc (boxN n T R)).alloc box0)) := Below.refl _ _
  have HSz : Hid (w.heap.size + 2 ≤ ((w.alloc (boxN n T R)).alloc box0).heap.size) := by show _ ≤ _; simp
  have HP0 := hid (HPw.out.below (HX.out _ HB0.out).2.2 (Nat.le_refl _))
  go_enter Tryd.func14, Tryd.ntmps14
  go_wp2_with fail
  refine (HI.out _ HP0.out).mono ?_
  rintro e w1 ⟨rfl, hw1⟩
  have HB1 : Hid (Below (w.heap.size + 2) ((w.alloc (boxN n T R)).alloc box0) w1) := HB0.out.trans (hw1.mono HSz.out)
  have HSz1 := hid (Nat.le_trans HSz.out HB1.out.size)
  have HB2 : Hid (Below (w.heap.size + 2) ((w.alloc (boxN n T R)).alloc box0) (w1.alloc (boxR false (.slice none 0 0) false (.slice none 0 0)))) := HB1.out.alloc HSz1.out _
  have HE1 := hid (HEw.out.below (HX.out _ HB2.out).2.2 (Nat.le_refl _))
  clear hw1
  go_wp2_with fail
  refine (HCo.out _ HE1.out).mono ?_
  rintro e w2 ⟨rfl, hw2⟩
  have HB3 : Hid (Below (w.heap.size + 2) ((w.alloc (boxN n T R)).alloc box0) w2) := HB2.out.trans (hw2.mono (Nat.le_trans HSz.out HB2.out.size))
  obtain ⟨⟨r0, r1, r2⟩, q0, q1, q2⟩ := own3V (HX.out _ HB3.out).2.1
  clear hw2
  go_wp2_with fail
  refine bodyPost_ret (v := noAns c) (by simp [results, Tryd.results14, go_sem, r0, r1, r2]) rfl ⟨rfl, ?_⟩
  exact below_set3 (HX.out _ HB3.out).2.2 (by omega) _ _ _

set_option maxRecDepth 20000 in
set_option maxHeartbeats 2000000 in
theorem implNumPower_ok (n : Bool) (T R : ByteArray) (k : Int) (K : Nat) (nb mb s : Bool) (U D : Nat) (w : World) (hP : Pow9 w) (hk : k = (K : Int) ∨ k = -(K : Int)) (hK : K ≤ 1000) (hs : ∀ j, (pwN nb j != pwN mb j) = pwN s j) (hok : OkUD s U D) (g1 : nG U ≤ 7) (g2 : nG D ≤ 7)
    (hI : ∀ w, Pow9 w → Calls Tryd.prog 40 #[.agg #[.bool n, .string T, .string R], .int .i64 k] w fun e w' => ∃ ua uc da dc, e = .returned (.tuple #[.agg #[.bool nb, .slice ua (grp U).length uc, .bool mb, .slice da (grp D).length dc], .nilIface]) ∧ NatA w' (.slice ua (grp U).length uc) (grp U) ∧ NatA w' (.slice da (grp D).length dc) (grp D) ∧ Below w.heap.size w w') :
    Calls Tryd.prog 14 #[.agg #[.bool n, .string T, .string R], .int .i64 k] w fun e w' => e = .returned (powV s U D K) ∧ Below w.heap.size w w' := by
  have HI := hid hI
  have HPw := hid hP
  obtain ⟨m, x, y, c, hf⟩ := powV_form s U D K
  have HPo := hid (fun ua uc da dc w hU hD hP => powerOf_any nb mb U D K ua da uc dc w hK hU hD g1 g2 hP)
  have HAn : Hid (∀ j a c' b d W, (j = K ∨ j ≤ K ∧ TooBig U D j) → NatA W (.slice a (grp (U ^ j)).length c') (grp (U ^ j)) → NatA W (.slice b (grp (D ^ j)).length d) (grp (D ^ j)) → nG (U ^ j) ≤ 21 → nG (D ^ j) ≤ 21 → Pow9 W →
      Calls Tryd.prog 41 #[.agg #[.bool (pwN nb j), .slice a (grp (U ^ j)).length c', .bool (pwN mb j), .slice b (grp (D ^ j)).length d]] W fun e w' => e = .returned (.tuple #[.agg #[.bool m, .string x, .string y], .int .i64 c]) ∧ Below W.heap.size W w') := fun j a c' b d W hj hu hd k1 k2 hp => by
    have h := answerOf_any (pwN nb j) (pwN mb j) (U ^ j) (D ^ j) a b _ c' _ d W hu hd (by omega) (by omega) (Nat.pos_of_ne_zero (okUD_pow hok j).1) hp
    rw [hs, powV_ansQ hok] at h
    have e1 : powV s U D j = powV s U D K := by
      rcases hj with rfl | ⟨hj, hb⟩
      · rfl
      · rw [powV_big hj hb, powV_big (Nat.le_refl j) hb]
    rw [e1, hf] at h
    exact h
  rw [hf]
  have HK := hid hK
  have HM : Hid (max (K : Int) (-(K : Int)) = K ∧ max (-(K : Int)) (K : Int) = K) := ⟨by omega, by omega⟩
  clear hf hs hok g1 g2 hI hP
  have HX : Hid (∀ W, Below (w.heap.size + 2) ((w.alloc (boxN n T R)).alloc box0) W → Siskin.Own W w.heap.size 25 #[.bool n, .string T, .string R] ∧ Siskin.Own W (w.heap.size + 1) 25 #[.bool false, .string ⟨#[]⟩, .string ⟨#[]⟩] ∧ Below w.heap.size w W) := fun W h => boxes2 w _ _ _ _ h
  have HB0 : Hid (Below (w.heap.size + 2) ((w.alloc (boxN n T R)).alloc box0) ((w.alloc (boxN n T R)).alloc box0)) := Below.refl _ _
  have HSz : Hid (w.heap.size + 2 ≤ ((w.alloc (boxN n T R)).alloc box0).heap.size) := by show _ ≤ _; simp
  have HP0 := hid (HPw.out.below (HX.out _ HB0.out).2.2 (Nat.le_refl _))
  rcases hk with rfl | rfl
  all_goals
    go_enter Tryd.func14, Tryd.ntmps14
    go_wp2_with fail
    refine (HI.out _ HP0.out).mono ?_
    rintro e w1 ⟨ua, uc, da, dc, rfl, hu, hd, hw1⟩
    have HB1 : Hid (Below (w.heap.size + 2) ((w.alloc (boxN n T R)).alloc box0) w1) := HB0.out.trans (hw1.mono HSz.out)
    have HSz1 := hid (Nat.le_trans HSz.out HB1.out.size)
    have HF : Hid (∀ W, Below (w1.heap.size + 1) (w1.alloc (boxR nb (.slice ua (grp U).length uc) mb (.slice da (grp D).length dc))) W → Siskin.Own W w1.heap.size 61 #[.bool nb, .slice ua (grp U).length uc, .bool mb, .slice da (grp D).length dc] ∧ Below w1.heap.size w1 W) := fun W h => ⟨(own_new w1 #[.bool nb, .slice ua (grp U).length uc, .bool mb, .slice da (grp D).length dc] 61).keep h (Nat.lt_succ_self _), res_done h⟩
    have HC0 : Hid (Below (w1.heap.size + 1) (w1.alloc (boxR nb (.slice ua (grp U).length uc) mb (.slice da (grp D).length dc))) (w1.alloc (boxR nb (.slice ua (grp U).length uc) mb (.slice da (grp D).length dc)))) := Below.refl _ _
    have HXf : Hid (∀ W, Below (w1.heap.size + 1) (w1.alloc (boxR nb (.slice ua (grp U).length uc) mb (.slice da (grp D).length dc))) W → Below (w.heap.size + 2) ((w.alloc (boxN n T R)).alloc box0) W) := fun W h => HB1.out.trans ((HF.out W h).2.mono HSz1.out)
    have HU := hid (hu.below (HF.out _ HC0.out).2 (Nat.le_refl _))
    have HD := hid (hd.below (HF.out _ HC0.out).2 (Nat.le_refl _))
    have HPf := hid (HPw.out.below (HX.out _ (HXf.out _ HC0.out)).2.2 (Nat.le_refl _))
    obtain ⟨⟨f0, f1, f2, f3⟩, -⟩ := own4V (HF.out _ HC0.out).1
    clear hu hd hw1
    go_wp2_with fail
    first | rw [HM.out.1] | rw [HM.out.2]
    refine (HPo.out _ _ _ _ _ HU.out HD.out HPf.out).mono ?_
    rintro e w2 ⟨j, a, c', b, d, rfl, n1, n2, k1, k2, hj, hw2⟩
    have HC1 : Hid (Below (w1.heap.size + 1) (w1.alloc (boxR nb (.slice ua (grp U).length uc) mb (.slice da (grp D).length dc))) w2) := HC0.out.trans (hw2.mono (show w1.heap.size + 1 ≤ _ by simp))
    have HN1 := hid n1
    have HN2 := hid n2
    have HKK := hid (And.intro k1 k2)
    have HJ := hid hj
    have HPg := hid (HPw.out.below (HX.out _ (HXf.out _ HC1.out)).2.2 (Nat.le_refl _))
    have hs2 : w1.heap.size + 1 ≤ w2.heap.size := by have := HC1.out.size; simp at this; exact this
    clear hw2 n1 n2 k1 k2 hj f0 f1 f2 f3
    go_wp2_with fail
    refine (HAn.out _ _ _ _ _ _ HJ.out HN1.out HN2.out HKK.out.1 HKK.out.2 HPg.out).mono ?_
    rintro e w3 ⟨rfl, hw3⟩
    have HC2 : Hid (Below (w1.heap.size + 1) (w1.alloc (boxR nb (.slice ua (grp U).length uc) mb (.slice da (grp D).length dc))) w3) := HC1.out.trans (hw3.mono hs2)
    have hx := HX.out _ (HXf.out _ HC2.out)
    obtain ⟨⟨r0, r1, r2⟩, q0, q1, q2⟩ := own3V hx.2.1
    have HXx := hid hx
    clear hw3 hx
    go_wp2_with fail
    refine bodyPost_ret (v := .tuple #[.agg #[.bool m, .string x, .string y], .int .i64 c]) (by simp [results, Tryd.results14, go_sem, r0, r1, r2]) rfl ⟨rfl, ?_⟩
    exact below_set3 HXx.out.2.2 (by omega) _ _ _
end Go.Proofs.YtbbffhpppacihaaDoor
