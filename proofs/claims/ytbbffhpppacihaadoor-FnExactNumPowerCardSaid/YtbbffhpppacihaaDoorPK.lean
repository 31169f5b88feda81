/-
  The program's baseOf and NumPower. Condition: the table of powers and errors.errorType stand.
-/
import Derived.Test.YtbbffhpppacihaaDoorPart25
import Derived.Test.YtbbffhpppacihaaDoorPart23
namespace Go.Proofs.YtbbffhpppacihaaDoor
open Go.RowKit Go.Siskin

abbrev rat0 : Value := .agg #[.bool false, .slice none 0 0, .bool false, .slice none 0 0]
/-- What openNum tells, as a name. -/
abbrev OpenC (n : Bool) (T R : ByteArray) (p b : Bool) (U D : Nat) : Prop := ∀ w, Pow9 w → Calls Tryd.prog 49 #[.agg #[.bool n, .string T, .string R]] w fun e w' => ∃ ua uc da dc, e = .returned (.tuple #[.agg #[.bool p, .slice ua (grp U).length uc, .slice da (grp D).length dc], .bool b]) ∧ NatA w' (.slice ua (grp U).length uc) (grp U) ∧ NatA w' (.slice da (grp D).length dc) (grp D) ∧ Below w.heap.size w w'

set_option maxRecDepth 20000 in
set_option maxHeartbeats 2000000 in
theorem baseOf_one (n : Bool) (T R : ByteArray) (p b : Bool) (U D : Nat) (k : Int) (w : World) (hP : Pow9 w) (hb : b = false ∨ k < -1000 ∨ 1000 < k) (hO : OpenC n T R p b U D) :
    Calls Tryd.prog 40 #[.agg #[.bool n, .string T, .string R], .int .i64 k] w fun e w' => e = .returned (.tuple #[rat0, whyV 1]) ∧ Below w.heap.size w w' := by
  have HO := hid hO
  have HPw := hid hP
  have HX : Hid (∀ W, Below (w.heap.size + 2) ((w.alloc (boxN n T R)).alloc (boxR false (.slice none 0 0) false (.slice none 0 0))) W → Siskin.Own W w.heap.size 25 #[.bool n, .string T, .string R] ∧ Siskin.Own W (w.heap.size + 1) 61 #[.bool false, .slice none 0 0, .bool false, .slice none 0 0] ∧ Below w.heap.size w W) := fun W h => boxes2 w _ _ _ _ h
  have HB0 : Hid (Below (w.heap.size + 2) ((w.alloc (boxN n T R)).alloc (boxR false (.slice none 0 0) false (.slice none 0 0))) ((w.alloc (boxN n T R)).alloc (boxR false (.slice none 0 0) false (.slice none 0 0)))) := Below.refl _ _
  have HSz : Hid (w.heap.size + 2 ≤ ((w.alloc (boxN n T R)).alloc (boxR false (.slice none 0 0) false (.slice none 0 0))).heap.size) := by show _ ≤ _; simp
  have HP0 := hid (HPw.out.below (HX.out _ HB0.out).2.2 (Nat.le_refl _))
  clear hP hO
  rcases hb with rfl | hk | hk
  all_goals
    (try cases b)
    all_goals
      go_enter Tryd.func40, Tryd.ntmps40
      go_wp2_with fail
      refine (HO.out _ HP0.out).mono ?_
      rintro e w1 ⟨ua, uc, da, dc, rfl, hu, hd, hw1⟩
      have HB1 := hid (HB0.out.trans (hw1.mono (by first | exact HSz.out | simp)))
      have HSz1 := hid (Nat.le_trans HSz.out HB1.out.size)
      have hs1 := HSz1.out
      have HB2 := fun o => (HX.out _ (HB1.out.alloc HSz1.out o)).2.1
      obtain ⟨⟨r0, r1, r2, r3⟩, q0, q1, q2, q3⟩ := own4V (HB2 (.cells #[.bool p, .slice ua (grp U).length uc, .slice da (grp D).length dc] 71))
      clear hu hd hw1
      go_wp2_with fail
      refine bodyPost_ret (v := .tuple #[rat0, whyV 1]) (by simp [results, Tryd.results40, go_sem, r0, r1, r2, r3]) rfl ⟨rfl, ?_⟩
      exact below_set4 (HX.out _ (HB1.out.alloc HSz1.out _)).2.2 (by omega) _ _ _ _
set_option maxRecDepth 20000 in
set_option maxHeartbeats 2000000 in
theorem baseOf_pos (n : Bool) (T R : ByteArray) (p : Bool) (U D : Nat) (k : Int) (w : World) (hP : Pow9 w) (h0 : 0 ≤ k) (h1 : k ≤ 1000) (hO : OpenC n T R p true U D) :
    Calls Tryd.prog 40 #[.agg #[.bool n, .string T, .string R], .int .i64 k] w fun e w' => ∃ ua uc da dc, e = .returned (.tuple #[.agg #[.bool p, .slice ua (grp U).length uc, .bool false, .slice da (grp D).length dc], .nilIface]) ∧ NatA w' (.slice ua (grp U).length uc) (grp U) ∧ NatA w' (.slice da (grp D).length dc) (grp D) ∧ Below w.heap.size w w' := by
  have HO := hid hO
  have HPw := hid hP
  have HX : Hid (∀ W, Below (w.heap.size + 2) ((w.alloc (boxN n T R)).alloc (boxR false (.slice none 0 0) false (.slice none 0 0))) W → Siskin.Own W w.heap.size 25 #[.bool n, .string T, .string R] ∧ Siskin.Own W (w.heap.size + 1) 61 #[.bool false, .slice none 0 0, .bool false, .slice none 0 0] ∧ Below w.heap.size w W) := fun W h => boxes2 w _ _ _ _ h
  have HB0 : Hid (Below (w.heap.size + 2) ((w.alloc (boxN n T R)).alloc (boxR false (.slice none 0 0) false (.slice none 0 0))) ((w.alloc (boxN n T R)).alloc (boxR false (.slice none 0 0) false (.slice none 0 0)))) := Below.refl _ _
  have HSz : Hid (w.heap.size + 2 ≤ ((w.alloc (boxN n T R)).alloc (boxR false (.slice none 0 0) false (.slice none 0 0))).heap.size) := by show _ ≤ _; simp
  have HP0 := hid (HPw.out.below (HX.out _ HB0.out).2.2 (Nat.le_refl _))
  have HRO := hid (fun a b l c k d w => ratioOf_any p a b l c k d w)
  skip
  clear hP hO
  go_enter Tryd.func40, Tryd.ntmps40
  go_wp2_with fail
  refine (HO.out _ HP0.out).mono ?_
  rintro e w1 ⟨ua, uc, da, dc, rfl, hu, hd, hw1⟩
  have HB1 := hid (HB0.out.trans (hw1.mono (by first | exact HSz.out | simp)))
  have HSz1 := hid (Nat.le_trans HSz.out HB1.out.size)
  have HF : Hid (∀ W, Below (w1.heap.size + 1) (w1.alloc (.cells #[.bool p, .slice ua (grp U).length uc, .slice da (grp D).length dc] 71)) W → Siskin.Own W w1.heap.size 71 #[.bool p, .slice ua (grp U).length uc, .slice da (grp D).length dc] ∧ Below w1.heap.size w1 W) := fun W h => ⟨(own_new w1 #[.bool p, .slice ua (grp U).length uc, .slice da (grp D).length dc] 71).keep h (Nat.lt_succ_self _), res_done h⟩
  have HC0 : Hid (Below (w1.heap.size + 1) (w1.alloc (.cells #[.bool p, .slice ua (grp U).length uc, .slice da (grp D).length dc] 71)) (w1.alloc (.cells #[.bool p, .slice ua (grp U).length uc, .slice da (grp D).length dc] 71))) := Below.refl _ _
  obtain ⟨⟨f0, f1, f2⟩, -⟩ := own3V (HF.out _ HC0.out).1
  have HU := hid hu
  have HD := hid hd
  clear hu hd hw1
  go_wp2_with fail
  refine (HRO.out _ _ _ _ _ _ _).mono ?_
  rintro e w2 ⟨rfl, hw2⟩
  have HC1 : Hid (Below (w1.heap.size + 1) (w1.alloc (.cells #[.bool p, .slice ua (grp U).length uc, .slice da (grp D).length dc] 71)) w2) := HC0.out.trans (hw2.mono (show w1.heap.size + 1 ≤ _ by simp))
  clear hw2 f0 f1 f2
  have HS2 : Hid (w1.heap.size + 1 ≤ w2.heap.size) := by have := HC1.out.size; simp at this; exact this
  have HB2 : Hid (Below (w.heap.size + 2) ((w.alloc (boxN n T R)).alloc (boxR false (.slice none 0 0) false (.slice none 0 0))) w2) := HB1.out.trans ((HF.out _ HC1.out).2.mono HSz1.out)
  have hsz1 := HSz1.out
  have hs2 := HS2.out
  have HY : Hid (∀ W, Below (w2.heap.size + 1) (w2.alloc (boxR p (.slice ua (grp U).length uc) false (.slice da (grp D).length dc))) W → Siskin.Own W w2.heap.size 61 #[.bool p, .slice ua (grp U).length uc, .bool false, .slice da (grp D).length dc] ∧ Below w2.heap.size w2 W) := fun W h => ⟨(own_new w2 #[.bool p, .slice ua (grp U).length uc, .bool false, .slice da (grp D).length dc] 61).keep h (Nat.lt_succ_self _), res_done h⟩
  have HE0 : Hid (Below (w2.heap.size + 1) (w2.alloc (boxR p (.slice ua (grp U).length uc) false (.slice da (grp D).length dc))) (w2.alloc (boxR p (.slice ua (grp U).length uc) false (.slice da (grp D).length dc)))) := Below.refl _ _
  have HXy : Hid (∀ W, Below (w2.heap.size + 1) (w2.alloc (boxR p (.slice ua (grp U).length uc) false (.slice da (grp D).length dc))) W → Below (w.heap.size + 2) ((w.alloc (boxN n T R)).alloc (boxR false (.slice none 0 0) false (.slice none 0 0))) W) := fun W h => HB2.out.trans ((HY.out W h).2.mono (by omega))
  obtain ⟨⟨y0, y1, y2, y3⟩, -⟩ := own4V (HY.out _ HE0.out).1
  obtain ⟨⟨r0, r1, r2, r3⟩, q0, q1, q2, q3⟩ := own4V (HX.out _ (HXy.out _ HE0.out)).2.1
  have HBf := hid (HX.out _ (HXy.out _ HE0.out)).2.2
  have HO4 := hid (HX.out _ (HXy.out _ HE0.out)).2.1
  have HU2 := hid ((HU.out.below (HF.out _ HC1.out).2 (Nat.le_refl _)).below (HY.out _ HE0.out).2 (Nat.le_refl _))
  have HD2 := hid ((HD.out.below (HF.out _ HC1.out).2 (Nat.le_refl _)).below (HY.out _ HE0.out).2 (Nat.le_refl _))
  go_wp2_with fail
  refine bodyPost_ret (v := .tuple #[.agg #[.bool p, .slice ua (grp U).length uc, .bool false, .slice da (grp D).length dc], .nilIface]) (by simp [results, Tryd.results40, go_sem, r0, r1, r2, r3]) rfl ⟨ua, uc, da, dc, rfl, ?_, ?_, ?_⟩
  · exact natA_set4 HU2.out HO4.out _ _ _ _
  · exact natA_set4 HD2.out HO4.out _ _ _ _
  · exact below_set4 HBf.out (by omega) _ _ _ _

set_option maxRecDepth 20000 in
set_option maxHeartbeats 2000000 in
theorem baseOf_nought (n : Bool) (T R : ByteArray) (p : Bool) (U D : Nat) (k : Int) (w : World) (hP : Pow9 w) (h0 : k < 0) (h1 : -1000 ≤ k) (hU0 : U = 0) (hO : OpenC n T R p true U D) :
    Calls Tryd.prog 40 #[.agg #[.bool n, .string T, .string R], .int .i64 k] w fun e w' => e = .returned (.tuple #[rat0, whyV 2]) ∧ Below w.heap.size w w' := by
  have HO := hid hO
  have HPw := hid hP
  have HX : Hid (∀ W, Below (w.heap.size + 2) ((w.alloc (boxN n T R)).alloc (boxR false (.slice none 0 0) false (.slice none 0 0))) W → Siskin.Own W w.heap.size 25 #[.bool n, .string T, .string R] ∧ Siskin.Own W (w.heap.size + 1) 61 #[.bool false, .slice none 0 0, .bool false, .slice none 0 0] ∧ Below w.heap.size w W) := fun W h => boxes2 w _ _ _ _ h
  have HB0 : Hid (Below (w.heap.size + 2) ((w.alloc (boxN n T R)).alloc (boxR false (.slice none 0 0) false (.slice none 0 0))) ((w.alloc (boxN n T R)).alloc (boxR false (.slice none 0 0) false (.slice none 0 0)))) := Below.refl _ _
  have HSz : Hid (w.heap.size + 2 ≤ ((w.alloc (boxN n T R)).alloc (boxR false (.slice none 0 0) false (.slice none 0 0))).heap.size) := by show _ ≤ _; simp
  have HP0 := hid (HPw.out.below (HX.out _ HB0.out).2.2 (Nat.le_refl _))
  have HRO := hid (fun a b l c k d w => ratioOf_any p a b l c k d w)
  have HSg : Hid (∀ a l c W, NatA W (.slice a l c) (grp U) → Calls Tryd.prog 53 #[.agg #[.bool p, .slice a l c]] W fun e w' => e = .returned (.int .i64 (signI p U)) ∧ Below W.heap.size W w') := fun a l c W h => intSign_any p U (.slice a l c) W h
  have hsg : (signI p U == 0) = true := by unfold signI; rw [if_pos hU0]; rfl
  generalize signI p U = sg at *
  clear hU0
  clear hP hO
  go_enter Tryd.func40, Tryd.ntmps40
  go_wp2_with fail
  refine (HO.out _ HP0.out).mono ?_
  rintro e w1 ⟨ua, uc, da, dc, rfl, hu, hd, hw1⟩
  have HB1 := hid (HB0.out.trans (hw1.mono (by first | exact HSz.out | simp)))
  have HSz1 := hid (Nat.le_trans HSz.out HB1.out.size)
  have HF : Hid (∀ W, Below (w1.heap.size + 1) (w1.alloc (.cells #[.bool p, .slice ua (grp U).length uc, .slice da (grp D).length dc] 71)) W → Siskin.Own W w1.heap.size 71 #[.bool p, .slice ua (grp U).length uc, .slice da (grp D).length dc] ∧ Below w1.heap.size w1 W) := fun W h => ⟨(own_new w1 #[.bool p, .slice ua (grp U).length uc, .slice da (grp D).length dc] 71).keep h (Nat.lt_succ_self _), res_done h⟩
  have HC0 : Hid (Below (w1.heap.size + 1) (w1.alloc (.cells #[.bool p, .slice ua (grp U).length uc, .slice da (grp D).length dc] 71)) (w1.alloc (.cells #[.bool p, .slice ua (grp U).length uc, .slice da (grp D).length dc] 71))) := Below.refl _ _
  obtain ⟨⟨f0, f1, f2⟩, -⟩ := own3V (HF.out _ HC0.out).1
  have HU := hid hu
  have HD := hid hd
  clear hu hd hw1
  go_wp2_with fail
  refine (HRO.out _ _ _ _ _ _ _).mono ?_
  rintro e w2 ⟨rfl, hw2⟩
  have HC1 : Hid (Below (w1.heap.size + 1) (w1.alloc (.cells #[.bool p, .slice ua (grp U).length uc, .slice da (grp D).length dc] 71)) w2) := HC0.out.trans (hw2.mono (show w1.heap.size + 1 ≤ _ by simp))
  clear hw2 f0 f1 f2
  have HS2 : Hid (w1.heap.size + 1 ≤ w2.heap.size) := by have := HC1.out.size; simp at this; exact this
  have HB2 : Hid (Below (w.heap.size + 2) ((w.alloc (boxN n T R)).alloc (boxR false (.slice none 0 0) false (.slice none 0 0))) w2) := HB1.out.trans ((HF.out _ HC1.out).2.mono HSz1.out)
  have hsz1 := HSz1.out
  have hs2 := HS2.out
  have HY : Hid (∀ W, Below (w2.heap.size + 1) (w2.alloc (boxR p (.slice ua (grp U).length uc) false (.slice da (grp D).length dc))) W → Siskin.Own W w2.heap.size 61 #[.bool p, .slice ua (grp U).length uc, .bool false, .slice da (grp D).length dc] ∧ Below w2.heap.size w2 W) := fun W h => ⟨(own_new w2 #[.bool p, .slice ua (grp U).length uc, .bool false, .slice da (grp D).length dc] 61).keep h (Nat.lt_succ_self _), res_done h⟩
  have HE0 : Hid (Below (w2.heap.size + 1) (w2.alloc (boxR p (.slice ua (grp U).length uc) false (.slice da (grp D).length dc))) (w2.alloc (boxR p (.slice ua (grp U).length uc) false (.slice da (grp D).length dc)))) := Below.refl _ _
  have HXy : Hid (∀ W, Below (w2.heap.size + 1) (w2.alloc (boxR p (.slice ua (grp U).length uc) false (.slice da (grp D).length dc))) W → Below (w.heap.size + 2) ((w.alloc (boxN n T R)).alloc (boxR false (.slice none 0 0) false (.slice none 0 0))) W) := fun W h => HB2.out.trans ((HY.out W h).2.mono (by omega))
  obtain ⟨⟨y0, y1, y2, y3⟩, -⟩ := own4V (HY.out _ HE0.out).1
  go_wp2_with fail
  refine (HSg.out _ _ _ _ ((HU.out.below (HF.out _ HC1.out).2 (Nat.le_refl _)).below (HY.out _ HE0.out).2 (Nat.le_refl _))).mono ?_
  rintro e w3 ⟨rfl, hw3⟩
  have HE1 : Hid (Below (w2.heap.size + 1) (w2.alloc (boxR p (.slice ua (grp U).length uc) false (.slice da (grp D).length dc))) w3) := HE0.out.trans (hw3.mono (show w2.heap.size + 1 ≤ _ by simp))
  clear hw3 y0 y1 y2 y3
  obtain ⟨⟨y0, y1, y2, y3⟩, -⟩ := own4V (HY.out _ HE1.out).1
  have hs3 : w2.heap.size + 1 ≤ w3.heap.size := by have := HE1.out.size; simp at this; exact this
  obtain ⟨⟨r0, r1, r2, r3⟩, q0, q1, q2, q3⟩ := own4V (HX.out _ (HXy.out _ HE1.out)).2.1
  go_wp2_with fail
  refine bodyPost_ret (v := .tuple #[rat0, whyV 2]) (by simp [results, Tryd.results40, go_sem, r0, r1, r2, r3]) rfl ⟨rfl, ?_⟩
  exact below_set4 (HX.out _ (HXy.out _ HE1.out)).2.2 (by omega) _ _ _ _

set_option maxRecDepth 20000 in
set_option maxHeartbeats 2000000 in
theorem baseOf_neg (n : Bool) (T R : ByteArray) (p : Bool) (U D : Nat) (k : Int) (w : World) (hP : Pow9 w) (h0 : k < 0) (h1 : -1000 ≤ k) (hU0 : U ≠ 0) (hO : OpenC n T R p true U D) :
    Calls Tryd.prog 40 #[.agg #[.bool n, .string T, .string R], .int .i64 k] w fun e w' => ∃ ua uc da dc, e = .returned (.tuple #[.agg #[.bool false, .slice da (grp D).length dc, .bool p, .slice ua (grp U).length uc], .nilIface]) ∧ NatA w' (.slice ua (grp U).length uc) (grp U) ∧ NatA w' (.slice da (grp D).length dc) (grp D) ∧ Below w.heap.size w w' := by
  have HO := hid hO
  have HPw := hid hP
  have HX : Hid (∀ W, Below (w.heap.size + 2) ((w.alloc (boxN n T R)).alloc (boxR false (.slice none 0 0) false (.slice none 0 0))) W → Siskin.Own W w.heap.size 25 #[.bool n, .string T, .string R] ∧ Siskin.Own W (w.heap.size + 1) 61 #[.bool false, .slice none 0 0, .bool false, .slice none 0 0] ∧ Below w.heap.size w W) := fun W h => boxes2 w _ _ _ _ h
  have HB0 : Hid (Below (w.heap.size + 2) ((w.alloc (boxN n T R)).alloc (boxR false (.slice none 0 0) false (.slice none 0 0))) ((w.alloc (boxN n T R)).alloc (boxR false (.slice none 0 0) false (.slice none 0 0)))) := Below.refl _ _
  have HSz : Hid (w.heap.size + 2 ≤ ((w.alloc (boxN n T R)).alloc (boxR false (.slice none 0 0) false (.slice none 0 0))).heap.size) := by show _ ≤ _; simp
  have HP0 := hid (HPw.out.below (HX.out _ HB0.out).2.2 (Nat.le_refl _))
  have HRO := hid (fun a b l c k d w => ratioOf_any p a b l c k d w)
  have HSg : Hid (∀ a l c W, NatA W (.slice a l c) (grp U) → Calls Tryd.prog 53 #[.agg #[.bool p, .slice a l c]] W fun e w' => e = .returned (.int .i64 (signI p U)) ∧ Below W.heap.size W w') := fun a l c W h => intSign_any p U (.slice a l c) W h
  have hsg : (signI p U == 0) = false := by unfold signI; rw [if_neg hU0]; cases p <;> rfl
  generalize signI p U = sg at *
  clear hU0
  have HTn := hid (fun a b l c k d w => turned_any p false a b l c k d w)
  clear hP hO
  go_enter Tryd.func40, Tryd.ntmps40
  go_wp2_with fail
  refine (HO.out _ HP0.out).mono ?_
  rintro e w1 ⟨ua, uc, da, dc, rfl, hu, hd, hw1⟩
  have HB1 := hid (HB0.out.trans (hw1.mono (by first | exact HSz.out | simp)))
  have HSz1 := hid (Nat.le_trans HSz.out HB1.out.size)
  have HF : Hid (∀ W, Below (w1.heap.size + 1) (w1.alloc (.cells #[.bool p, .slice ua (grp U).length uc, .slice da (grp D).length dc] 71)) W → Siskin.Own W w1.heap.size 71 #[.bool p, .slice ua (grp U).length uc, .slice da (grp D).length dc] ∧ Below w1.heap.size w1 W) := fun W h => ⟨(own_new w1 #[.bool p, .slice ua (grp U).length uc, .slice da (grp D).length dc] 71).keep h (Nat.lt_succ_self _), res_done h⟩
  have HC0 : Hid (Below (w1.heap.size + 1) (w1.alloc (.cells #[.bool p, .slice ua (grp U).length uc, .slice da (grp D).length dc] 71)) (w1.alloc (.cells #[.bool p, .slice ua (grp U).length uc, .slice da (grp D).length dc] 71))) := Below.refl _ _
  obtain ⟨⟨f0, f1, f2⟩, -⟩ := own3V (HF.out _ HC0.out).1
  have HU := hid hu
  have HD := hid hd
  clear hu hd hw1
  go_wp2_with fail
  refine (HRO.out _ _ _ _ _ _ _).mono ?_
  rintro e w2 ⟨rfl, hw2⟩
  have HC1 : Hid (Below (w1.heap.size + 1) (w1.alloc (.cells #[.bool p, .slice ua (grp U).length uc, .slice da (grp D).length dc] 71)) w2) := HC0.out.trans (hw2.mono (show w1.heap.size + 1 ≤ _ by simp))
  clear hw2 f0 f1 f2
  have HS2 : Hid (w1.heap.size + 1 ≤ w2.heap.size) := by have := HC1.out.size; simp at this; exact this
  have HB2 : Hid (Below (w.heap.size + 2) ((w.alloc (boxN n T R)).alloc (boxR false (.slice none 0 0) false (.slice none 0 0))) w2) := HB1.out.trans ((HF.out _ HC1.out).2.mono HSz1.out)
  have hsz1 := HSz1.out
  have hs2 := HS2.out
  have HY : Hid (∀ W, Below (w2.heap.size + 1) (w2.alloc (boxR p (.slice ua (grp U).length uc) false (.slice da (grp D).length dc))) W → Siskin.Own W w2.heap.size 61 #[.bool p, .slice ua (grp U).length uc, .bool false, .slice da (grp D).length dc] ∧ Below w2.heap.size w2 W) := fun W h => ⟨(own_new w2 #[.bool p, .slice ua (grp U).length uc, .bool false, .slice da (grp D).length dc] 61).keep h (Nat.lt_succ_self _), res_done h⟩
  have HE0 : Hid (Below (w2.heap.size + 1) (w2.alloc (boxR p (.slice ua (grp U).length uc) false (.slice da (grp D).length dc))) (w2.alloc (boxR p (.slice ua (grp U).length uc) false (.slice da (grp D).length dc)))) := Below.refl _ _
  have HXy : Hid (∀ W, Below (w2.heap.size + 1) (w2.alloc (boxR p (.slice ua (grp U).length uc) false (.slice da (grp D).length dc))) W → Below (w.heap.size + 2) ((w.alloc (boxN n T R)).alloc (boxR false (.slice none 0 0) false (.slice none 0 0))) W) := fun W h => HB2.out.trans ((HY.out W h).2.mono (by omega))
  obtain ⟨⟨y0, y1, y2, y3⟩, -⟩ := own4V (HY.out _ HE0.out).1
  go_wp2_with fail
  refine (HSg.out _ _ _ _ ((HU.out.below (HF.out _ HC1.out).2 (Nat.le_refl _)).below (HY.out _ HE0.out).2 (Nat.le_refl _))).mono ?_
  rintro e w3 ⟨rfl, hw3⟩
  have HE1 : Hid (Below (w2.heap.size + 1) (w2.alloc (boxR p (.slice ua (grp U).length uc) false (.slice da (grp D).length dc))) w3) := HE0.out.trans (hw3.mono (show w2.heap.size + 1 ≤ _ by simp))
  clear hw3 y0 y1 y2 y3
  obtain ⟨⟨y0, y1, y2, y3⟩, -⟩ := own4V (HY.out _ HE1.out).1
  have hs3 : w2.heap.size + 1 ≤ w3.heap.size := by have := HE1.out.size; simp at this; exact this
  go_wp2_with fail
  refine (HTn.out _ _ _ _ _ _ _).mono ?_
  rintro e w4 ⟨rfl, hw4⟩
  have HE2 : Hid (Below (w2.heap.size + 1) (w2.alloc (boxR p (.slice ua (grp U).length uc) false (.slice da (grp D).length dc))) w4) := HE1.out.trans (hw4.mono (show w2.heap.size + 1 ≤ _ by omega))
  clear hw4 y0 y1 y2 y3
  have HU4 := hid ((HU.out.below (HF.out _ HC1.out).2 (Nat.le_refl _)).below (HY.out _ HE2.out).2 (Nat.le_refl _))
  have HD4 := hid ((HD.out.below (HF.out _ HC1.out).2 (Nat.le_refl _)).below (HY.out _ HE2.out).2 (Nat.le_refl _))
  have HO4 := hid (HX.out _ (HXy.out _ HE2.out)).2.1
  have HBf := hid (HX.out _ (HXy.out _ HE2.out)).2.2
  obtain ⟨⟨r0, r1, r2, r3⟩, q0, q1, q2, q3⟩ := own4V HO4.out
  go_wp2_with fail
  refine bodyPost_ret (v := .tuple #[.agg #[.bool false, .slice da (grp D).length dc, .bool p, .slice ua (grp U).length uc], .nilIface]) (by simp [results, Tryd.results40, go_sem, r0, r1, r2, r3]) rfl ⟨ua, uc, da, dc, rfl, ?_, ?_, ?_⟩
  · exact natA_set4 HU4.out HO4.out _ _ _ _
  · exact natA_set4 HD4.out HO4.out _ _ _ _
  · exact below_set4 HBf.out (by omega) _ _ _ _
set_option maxRecDepth 20000 in
set_option maxHeartbeats 2000000 in
theorem implNumPower_err (n : Bool) (T R : ByteArray) (k c : Int) (w : World) (hP : Pow9 w) (hE : ErrT w)
    (hI : ∀ w, Pow9 w → Calls Tryd.prog 40 #[.agg #[.bool n, .string T, .string R], .int .i64 k] w fun e w' => e = .returned (.tuple #[rat0, whyV c]) ∧ Below w.heap.size w w') :
    Calls Tryd.prog 14 #[.agg #[.bool n, .string T, .string R], .int .i64 k] w fun e w' => e = .returned (noAns c) ∧ Below w.heap.size w w' := by
  have HI := hid hI
  have HPw := hid hP
  have HEw := hid hE
  have HCo := hid (fun w hE => codeOf_any c w hE)
  clear hI hP hE
  have HX : Hid (∀ W, Below (w.heap.size + 2) ((w.alloc (boxN n T R)).alloc box0) W → Siskin.Own W w.heap.size 25 #[.bool n, .string T, .string R] ∧ Siskin.Own W (w.heap.size + 1) 25 #[.bool false, .string ⟨#[]⟩, .string ⟨#[]⟩] ∧ Below w.heap.size w W) := fun W h => boxes2 w _ _ _ _ h
  have HB0 : Hid (Below (w.heap.size + 2) ((w.alloc (boxN n T R)).alloc box0) ((w.alloc (boxN n T R)).alloc box0)) := Below.refl _ _
  have HSz : Hid (w.heap.size + 2 ≤ ((w.alloc (boxN n T R)).alloc box0).heap.size) := by show _ ≤ _; simp
  have HP0 := hid (HPw.out.below (HX.out _ HB0.out).2.2 (Nat.le_refl _))
  go_enter Tryd.func14, Tryd.ntmps14
  go_wp2_with fail
  refine (HI.out _ HP0.out).mono ?_
  rintro e w1 ⟨rfl, hw1⟩
  have HB1 : Hid (Below (w.heap.size + 2) ((w.alloc (boxN n T R)).alloc box0) w1) := HB0.out.trans (hw1.mono HSz.out)
  have HSz1 := hid (Nat.le_trans HSz.out HB1.out.size)
  have HB2 : Hid (Below (w.heap.size + 2) ((w.alloc (boxN n T R)).alloc box0) (w1.alloc (boxR false (.slice none 0 0) false (.slice none 0 0)))) := HB1.out.alloc HSz1.out _
  have HE1 := hid (HEw.out.below (HX.out _ HB2.out).2.2 (Nat.le_refl _))
  clear hw1
  go_wp2_with fail
  refine (HCo.out _ HE1.out).mono ?_
  rintro e w2 ⟨rfl, hw2⟩
  have HB3 : Hid (Below (w.heap.size + 2) ((w.alloc (boxN n T R)).alloc box0) w2) := HB2.out.trans (hw2.mono (Nat.le_trans HSz.out HB2.out.size))
  obtain ⟨⟨r0, r1, r2⟩, q0, q1, q2⟩ := own3V (HX.out _ HB3.out).2.1
  clear hw2
  go_wp2_with fail
  refine bodyPost_ret (v := noAns c) (by simp [results, Tryd.results14, go_sem, r0, r1, r2]) rfl ⟨rfl, ?_⟩
  exact below_set3 (HX.out _ HB3.out).2.2 (by omega) _ _ _

set_option maxRecDepth 20000 in
set_option maxHeartbeats 2000000 in
theorem implNumPower_ok (n : Bool) (T R : ByteArray) (k : Int) (K : Nat) (nb mb s : Bool) (U D : Nat) (w : World) (hP : Pow9 w) (hk : k = (K : Int) ∨ k = -(K : Int)) (hK : K ≤ 1000) (hs : ∀ j, (pwN nb j != pwN mb j) = pwN s j) (hok : OkUD s U D) (g1 : nG U ≤ 7) (g2 : nG D ≤ 7)
    (hI : ∀ w, Pow9 w → Calls Tryd.prog 40 #[.agg #[.bool n, .string T, .string R], .int .i64 k] w fun e w' => ∃ ua uc da dc, e = .returned (.tuple #[.agg #[.bool nb, .slice ua (grp U).length uc, .bool mb, .slice da (grp D).length dc], .nilIface]) ∧ NatA w' (.slice ua (grp U).length uc) (grp U) ∧ NatA w' (.slice da (grp D).length dc) (grp D) ∧ Below w.heap.size w w') :
    Calls Tryd.prog 14 #[.agg #[.bool n, .string T, .string R], .int .i64 k] w fun e w' => e = .returned (powV s U D K) ∧ Below w.heap.size w w' := by
  have HI := hid hI
  have HPw := hid hP
  obtain ⟨m, x, y, c, hf⟩ := powV_form s U D K
  have HPo := hid (fun ua uc da dc w hU hD hP => powerOf_any nb mb U D K ua da uc dc w hK hU hD g1 g2 hP)
  have HAn : Hid (∀ j a c' b d W, (j = K ∨ j ≤ K ∧ TooBig U D j) → NatA W (.slice a (grp (U ^ j)).length c') (grp (U ^ j)) → NatA W (.slice b (grp (D ^ j)).length d) (grp (D ^ j)) → nG (U ^ j) ≤ 21 → nG (D ^ j) ≤ 21 → Pow9 W →
      Calls Tryd.prog 41 #[.agg #[.bool (pwN nb j), .slice a (grp (U ^ j)).length c', .bool (pwN mb j), .slice b (grp (D ^ j)).length d]] W fun e w' => e = .returned (.tuple #[.agg #[.bool m, .string x, .string y], .int .i64 c]) ∧ Below W.heap.size W w') := fun j a c' b d W hj hu hd k1 k2 hp => by
    have h := answerOf_any (pwN nb j) (pwN mb j) (U ^ j) (D ^ j) a b _ c' _ d W hu hd (by omega) (by omega) (Nat.pos_of_ne_zero (okUD_pow hok j).1) hp
    rw [hs, powV_ansQ hok] at h
    have e1 : powV s U D j = powV s U D K := by
      rcases hj with rfl | ⟨hj, hb⟩
      · rfl
      · rw [powV_big hj hb, powV_big (Nat.le_refl j) hb]
    rw [e1, hf] at h
    exact h
  rw [hf]
  have HK := hid hK
  have HM : Hid (max (K : Int) (-(K : Int)) = K ∧ max (-(K : Int)) (K : Int) = K) := ⟨by omega, by omega⟩
  clear hf hs hok g1 g2 hI hP
  have HX : Hid (∀ W, Below (w.heap.size + 2) ((w.alloc (boxN n T R)).alloc box0) W → Siskin.Own W w.heap.size 25 #[.bool n, .string T, .string R] ∧ Siskin.Own W (w.heap.size + 1) 25 #[.bool false, .string ⟨#[]⟩, .string ⟨#[]⟩] ∧ Below w.heap.size w W) := fun W h => boxes2 w _ _ _ _ h
  have HB0 : Hid (Below (w.heap.size + 2) ((w.alloc (boxN n T R)).alloc box0) ((w.alloc (boxN n T R)).alloc box0)) := Below.refl _ _
  have HSz : Hid (w.heap.size + 2 ≤ ((w.alloc (boxN n T R)).alloc box0).heap.size) := by show _ ≤ _; simp
  have HP0 := hid (HPw.out.below (HX.out _ HB0.out).2.2 (Nat.le_refl _))
  rcases hk with rfl | rfl
  all_goals
    go_enter Tryd.func14, Tryd.ntmps14
    go_wp2_with fail
    refine (HI.out _ HP0.out).mono ?_
    rintro e w1 ⟨ua, uc, da, dc, rfl, hu, hd, hw1⟩
    have HB1 : Hid (Below (w.heap.size + 2) ((w.alloc (boxN n T R)).alloc box0) w1) := HB0.out.trans (hw1.mono HSz.out)
    have HSz1 := hid (Nat.le_trans HSz.out HB1.out.size)
    have HF : Hid (∀ W, Below (w1.heap.size + 1) (w1.alloc (boxR nb (.slice ua (grp U).length uc) mb (.slice da (grp D).length dc))) W → Siskin.Own W w1.heap.size 61 #[.bool nb, .slice ua (grp U).length uc, .bool mb, .slice da (grp D).length dc] ∧ Below w1.heap.size w1 W) := fun W h => ⟨(own_new w1 #[.bool nb, .slice ua (grp U).length uc, .bool mb, .slice da (grp D).length dc] 61).keep h (Nat.lt_succ_self _), res_done h⟩
    have HC0 : Hid (Below (w1.heap.size + 1) (w1.alloc (boxR nb (.slice ua (grp U).length uc) mb (.slice da (grp D).length dc))) (w1.alloc (boxR nb (.slice ua (grp U).length uc) mb (.slice da (grp D).length dc)))) := Below.refl _ _
    have HXf : Hid (∀ W, Below (w1.heap.size + 1) (w1.alloc (boxR nb (.slice ua (grp U).length uc) mb (.slice da (grp D).length dc))) W → Below (w.heap.size + 2) ((w.alloc (boxN n T R)).alloc box0) W) := fun W h => HB1.out.trans ((HF.out W h).2.mono HSz1.out)
    have HU := hid (hu.below (HF.out _ HC0.out).2 (Nat.le_refl _))
    have HD := hid (hd.below (HF.out _ HC0.out).2 (Nat.le_refl _))
    have HPf := hid (HPw.out.below (HX.out _ (HXf.out _ HC0.out)).2.2 (Nat.le_refl _))
    obtain ⟨⟨f0, f1, f2, f3⟩, -⟩ := own4V (HF.out _ HC0.out).1
    clear hu hd hw1
    go_wp2_with fail
    first | rw [HM.out.1] | rw [HM.out.2]
    refine (HPo.out _ _ _ _ _ HU.out HD.out HPf.out).mono ?_
    rintro e w2 ⟨j, a, c', b, d, rfl, n1, n2, k1, k2, hj, hw2⟩
    have HC1 : Hid (Below (w1.heap.size + 1) (w1.alloc (boxR nb (.slice ua (grp U).length uc) mb (.slice da (grp D).length dc))) w2) := HC0.out.trans (hw2.mono (show w1.heap.size + 1 ≤ _ by simp))
    have HN1 := hid n1
    have HN2 := hid n2
    have HKK := hid (And.intro k1 k2)
    have HJ := hid hj
    have HPg := hid (HPw.out.below (HX.out _ (HXf.out _ HC1.out)).2.2 (Nat.le_refl _))
    have hs2 : w1.heap.size + 1 ≤ w2.heap.size := by have := HC1.out.size; simp at this; exact this
    clear hw2 n1 n2 k1 k2 hj f0 f1 f2 f3
    go_wp2_with fail
    refine (HAn.out _ _ _ _ _ _ HJ.out HN1.out HN2.out HKK.out.1 HKK.out.2 HPg.out).mono ?_
    rintro e w3 ⟨rfl, hw3⟩
    have HC2 : Hid (Below (w1.heap.size + 1) (w1.alloc (boxR nb (.slice ua (grp U).length uc) mb (.slice da (grp D).length dc))) w3) := HC1.out.trans (hw3.mono hs2)
    have hx := HX.out _ (HXf.out _ HC2.out)
    obtain ⟨⟨r0, r1, r2⟩, q0, q1, q2⟩ := own3V hx.2.1
    have HXx := hid hx
    clear hw3 hx
    go_wp2_with fail
    refine bodyPost_ret (v := .tuple #[.agg #[.bool m, .string x, .string y], .int .i64 c]) (by simp [results, Tryd.results14, go_sem, r0, r1, r2]) rfl ⟨rfl, ?_⟩
    exact below_set3 HXx.out.2.2 (by omega) _ _ _
end Go.Proofs.YtbbffhpppacihaaDoor
