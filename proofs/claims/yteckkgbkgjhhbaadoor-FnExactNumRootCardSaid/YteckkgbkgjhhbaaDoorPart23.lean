/-
  Stage 8, the program: NumQuo, NumMod, NumGcd. Condition: the table of powers and errors.errorType stand. Made by wip/tools/genp6.py.
  The program's powerOfTen. Condition: the table of powers stands.
-/
import Derived.Test.YteckkgbkgjhhbaaDoorPart18
import Derived.Test.YteckkgbkgjhhbaaDoorPart22
import Derived.Test.YteckkgbkgjhhbaaDoorPart3
import Derived.Test.YteckkgbkgjhhbaaDoorZF
namespace Go.Proofs.YteckkgbkgjhhbaaDoor
open Go.RowKit Go.Siskin

theorem ErrT.below {w w' : World} {n : Nat} (h : ErrT w) (hb : Below n w w') (hn : w.heap.size ≤ n) : ErrT w' := by
  have hlt : 0 < w.heap.size := by
    rcases Nat.lt_or_ge 0 w.heap.size with h' | h'
    · exact h'
    · unfold ErrT at h; simp [World.cell?, Array.getElem?_eq_none h'] at h
  unfold ErrT at h ⊢
  rw [hb.cell (p := ⟨0, 0, none⟩) (Nat.lt_of_lt_of_le hlt hn)]
  exact h
theorem mod_sign (p1 p2 : Bool) (U1 U2 : Nat) : (modN p1 p2 (U1 % U2) && !decide (modZ p1 p2 U1 U2 = 0)) = (p2 && !decide (modZ p1 p2 U1 U2 = 0)) := by
  unfold modN
  by_cases h : U1 % U2 = 0
  · have hz : modZ p1 p2 U1 U2 = 0 := by unfold modZ; simp [h]
    simp [hz]
  · cases p1 <;> cases p2 <;> simp [h]
theorem leftDownward_mod (n1 n2 s : Bool) (U U1 Q : Nat) (a2 qa ra : Option Addr) (c2 qc rc : Nat) (w : World) (hL : U1 % U < U) (hU : nG U ≤ 1000) (h2 : NatA w (.slice a2 (grp U).length c2) (grp U)) (hr : NatA w (.slice ra (grp (U1 % U)).length rc) (grp (U1 % U))) :
    Calls Tryd.prog 57 #[.agg #[.bool n2, .slice a2 (grp U).length c2, .bool s, .slice qa (grp Q).length qc, .bool n1, .slice ra (grp (U1 % U)).length rc]] w fun e w' => ∃ a c, e = .returned (.agg #[.bool (modN n1 n2 (U1 % U)), .slice a (grp (modZ n1 n2 U1 U)).length c]) ∧ NatA w' (.slice a (grp (modZ n1 n2 U1 U)).length c) (grp (modZ n1 n2 U1 U)) ∧ Below w.heap.size w w' := by
  have h := leftDownward_any n1 n2 s U (U1 % U) Q a2 qa ra c2 qc rc w hL hU h2 hr
  unfold modZ
  exact h
/-- What dividedOf tells of two whole numbers, the second one not nought. -/
def DivPost (p1 p2 s : Bool) (U1 U2 : Nat) (w : World) (e : Ending) (w' : World) : Prop :=
  ∃ a2 c2 qa qc ra rc, e = .returned (.tuple #[.agg #[.bool p2, .slice a2 (grp U2).length c2, .bool s, .slice qa (grp (U1 / U2)).length qc, .bool p1, .slice ra (grp (U1 % U2)).length rc], .nilIface]) ∧ NatA w' (.slice a2 (grp U2).length c2) (grp U2) ∧ NatA w' (.slice qa (grp (U1 / U2)).length qc) (grp (U1 / U2)) ∧ NatA w' (.slice ra (grp (U1 % U2)).length rc) (grp (U1 % U2)) ∧ Below w.heap.size w w'

set_option maxRecDepth 20000 in
set_option maxHeartbeats 4000000 in
theorem implNumQuo_err (n1 n2 : Bool) (T1 R1 T2 R2 : ByteArray) (c : Int) (w : World) (hP : Pow9 w) (hE : ErrT w)
    (hI : ∀ w, Pow9 w → Calls Tryd.prog 54 #[.agg #[.bool n1, .string T1, .string R1], .agg #[.bool n2, .string T2, .string R2]] w fun e w' => e = .returned (.tuple #[div0, whyV c]) ∧ Below w.heap.size w w') :
    Calls Tryd.prog 18 #[.agg #[.bool n1, .string T1, .string R1], .agg #[.bool n2, .string T2, .string R2]] w fun e w' => e = .returned (noQuo c) ∧ Below w.heap.size w w' := by
  have HI := hid hI
  have HPw := hid hP
  have HEw := hid hE
  have HCo := hid (fun w hE => codeOf_any c w hE)
  clear hI hP hE
  have HX : Hid (∀ W, Below (w.heap.size + 4) ((((w.alloc (boxN n1 T1 R1)).alloc (boxN n2 T2 R2)).alloc box0).alloc box0) W → (Own W w.heap.size 25 #[.bool n1, .string T1, .string R1] ∧ Own W (w.heap.size + 1) 25 #[.bool n2, .string T2, .string R2]) ∧ Own W (w.heap.size + 1 + 1) 25 #[.bool false, .string ⟨#[]⟩, .string ⟨#[]⟩] ∧ Own W (w.heap.size + 1 + 1 + 1) 25 #[.bool false, .string ⟨#[]⟩, .string ⟨#[]⟩] ∧ Below w.heap.size w W) := fun W h => boxes4 w _ _ _ _ _ _ _ _ h
  have HB0 : Hid (Below (w.heap.size + 4) ((((w.alloc (boxN n1 T1 R1)).alloc (boxN n2 T2 R2)).alloc box0).alloc box0) ((((w.alloc (boxN n1 T1 R1)).alloc (boxN n2 T2 R2)).alloc box0).alloc box0)) := Below.refl _ _
  have HSz : Hid (w.heap.size + 4 ≤ ((((w.alloc (boxN n1 T1 R1)).alloc (boxN n2 T2 R2)).alloc box0).alloc box0).heap.size) := by show _ ≤ _; simp
  have HP0 := hid (HPw.out.below (HX.out _ HB0.out).2.2.2 (Nat.le_refl _))
  go_enter Tryd.func18, Tryd.ntmps18
  go_wp2_with fail
  refine (HI.out _ HP0.out).mono ?_
  rintro e w1 ⟨rfl, hw1⟩
  have HB1 := hid (HB0.out.trans (hw1.mono (by first | exact HSz.out | simp)))
  have HSz1 := hid (Nat.le_trans HSz.out HB1.out.size)
  have HB2 : Hid (Below (w.heap.size + 4) ((((w.alloc (boxN n1 T1 R1)).alloc (boxN n2 T2 R2)).alloc box0).alloc box0) (w1.alloc box60)) := (HB1.out.alloc (HSz1.out) box60)
  have HE2 := hid (HEw.out.below (HX.out _ HB2.out).2.2.2 (Nat.le_refl _))
  clear hw1
  go_wp2_with fail
  refine (HCo.out _ HE2.out).mono ?_
  rintro e w2 ⟨rfl, hw2⟩
  have HB3 := hid (HB2.out.trans (hw2.mono (Nat.le_trans HSz.out HB2.out.size)))
  obtain ⟨⟨r0, r1, r2⟩, q0, q1, q2⟩ := own3V (HX.out _ HB3.out).2.1
  obtain ⟨⟨s0, s1, s2⟩, p0, p1, p2⟩ := own3V (HX.out _ HB3.out).2.2.1
  clear hw2
  go_wp2_with fail
  refine bodyPost_ret (v := noQuo c) (by simp [results, Tryd.results18, go_sem, r0, r1, r2, s0, s1, s2]) rfl ⟨rfl, ?_⟩
  exact below_set3 (below_set3 (HX.out _ HB3.out).2.2.2 (by omega) _ _ _) (by omega) _ _ _

set_option maxRecDepth 20000 in
set_option maxHeartbeats 4000000 in
theorem implNumMod_err (n1 n2 : Bool) (T1 R1 T2 R2 : ByteArray) (c : Int) (w : World) (hP : Pow9 w) (hE : ErrT w)
    (hI : ∀ w, Pow9 w → Calls Tryd.prog 54 #[.agg #[.bool n1, .string T1, .string R1], .agg #[.bool n2, .string T2, .string R2]] w fun e w' => e = .returned (.tuple #[div0, whyV c]) ∧ Below w.heap.size w w') :
    Calls Tryd.prog 20 #[.agg #[.bool n1, .string T1, .string R1], .agg #[.bool n2, .string T2, .string R2]] w fun e w' => e = .returned (noAns c) ∧ Below w.heap.size w w' := by
  have HI := hid hI
  have HPw := hid hP
  have HEw := hid hE
  have HCo := hid (fun w hE => codeOf_any c w hE)
  clear hI hP hE
  have HX : Hid (∀ W, Below (w.heap.size + 3) (((w.alloc (boxN n1 T1 R1)).alloc (boxN n2 T2 R2)).alloc box0) W → Own W w.heap.size 25 #[.bool n1, .string T1, .string R1] ∧ Own W (w.heap.size + 1) 25 #[.bool n2, .string T2, .string R2] ∧ Own W (w.heap.size + 1 + 1) 25 #[.bool false, .string ⟨#[]⟩, .string ⟨#[]⟩] ∧ Below w.heap.size w W) := fun W h => boxes3 w _ _ _ _ _ _ h
  have HB0 : Hid (Below (w.heap.size + 3) (((w.alloc (boxN n1 T1 R1)).alloc (boxN n2 T2 R2)).alloc box0) (((w.alloc (boxN n1 T1 R1)).alloc (boxN n2 T2 R2)).alloc box0)) := Below.refl _ _
  have HSz : Hid (w.heap.size + 3 ≤ (((w.alloc (boxN n1 T1 R1)).alloc (boxN n2 T2 R2)).alloc box0).heap.size) := by show _ ≤ _; simp
  have HP0 := hid (HPw.out.below (HX.out _ HB0.out).2.2.2 (Nat.le_refl _))
  go_enter Tryd.func20, Tryd.ntmps20
  go_wp2_with fail
  refine (HI.out _ HP0.out).mono ?_
  rintro e w1 ⟨rfl, hw1⟩
  have HB1 := hid (HB0.out.trans (hw1.mono (by first | exact HSz.out | simp)))
  have HSz1 := hid (Nat.le_trans HSz.out HB1.out.size)
  have HB2 : Hid (Below (w.heap.size + 3) (((w.alloc (boxN n1 T1 R1)).alloc (boxN n2 T2 R2)).alloc box0) (w1.alloc box60)) := (HB1.out.alloc (HSz1.out) box60)
  have HE2 := hid (HEw.out.below (HX.out _ HB2.out).2.2.2 (Nat.le_refl _))
  clear hw1
  go_wp2_with fail
  refine (HCo.out _ HE2.out).mono ?_
  rintro e w2 ⟨rfl, hw2⟩
  have HB3 := hid (HB2.out.trans (hw2.mono (Nat.le_trans HSz.out HB2.out.size)))
  obtain ⟨⟨r0, r1, r2⟩, q0, q1, q2⟩ := own3V (HX.out _ HB3.out).2.2.1
  clear hw2
  go_wp2_with fail
  refine bodyPost_ret (v := noAns c) (by simp [results, Tryd.results20, go_sem, r0, r1, r2]) rfl ⟨rfl, ?_⟩
  exact below_set3 (HX.out _ HB3.out).2.2.2 (by omega) _ _ _

set_option maxRecDepth 20000 in
set_option maxHeartbeats 4000000 in
theorem implNumGcd_err (n1 n2 : Bool) (T1 R1 T2 R2 : ByteArray) (c : Int) (w : World) (hP : Pow9 w) (hE : ErrT w)
    (hI : ∀ w, Pow9 w → Calls Tryd.prog 59 #[.agg #[.bool n1, .string T1, .string R1], .agg #[.bool n2, .string T2, .string R2]] w fun e w' => e = .returned (.tuple #[int0, int0, whyV c]) ∧ Below w.heap.size w w') :
    Calls Tryd.prog 22 #[.agg #[.bool n1, .string T1, .string R1], .agg #[.bool n2, .string T2, .string R2]] w fun e w' => e = .returned (noAns c) ∧ Below w.heap.size w w' := by
  have HI := hid hI
  have HPw := hid hP
  have HEw := hid hE
  have HCo := hid (fun w hE => codeOf_any c w hE)
  clear hI hP hE
  have HX : Hid (∀ W, Below (w.heap.size + 3) (((w.alloc (boxN n1 T1 R1)).alloc (boxN n2 T2 R2)).alloc box0) W → Own W w.heap.size 25 #[.bool n1, .string T1, .string R1] ∧ Own W (w.heap.size + 1) 25 #[.bool n2, .string T2, .string R2] ∧ Own W (w.heap.size + 1 + 1) 25 #[.bool false, .string ⟨#[]⟩, .string ⟨#[]⟩] ∧ Below w.heap.size w W) := fun W h => boxes3 w _ _ _ _ _ _ h
  have HB0 : Hid (Below (w.heap.size + 3) (((w.alloc (boxN n1 T1 R1)).alloc (boxN n2 T2 R2)).alloc box0) (((w.alloc (boxN n1 T1 R1)).alloc (boxN n2 T2 R2)).alloc box0)) := Below.refl _ _
  have HSz : Hid (w.heap.size + 3 ≤ (((w.alloc (boxN n1 T1 R1)).alloc (boxN n2 T2 R2)).alloc box0).heap.size) := by show _ ≤ _; simp
  have HP0 := hid (HPw.out.below (HX.out _ HB0.out).2.2.2 (Nat.le_refl _))
  go_enter Tryd.func22, Tryd.ntmps22
  go_wp2_with fail
  refine (HI.out _ HP0.out).mono ?_
  rintro e w1 ⟨rfl, hw1⟩
  have HB1 := hid (HB0.out.trans (hw1.mono (by first | exact HSz.out | simp)))
  have HSz1 := hid (Nat.le_trans HSz.out HB1.out.size)
  have HB2 : Hid (Below (w.heap.size + 3) (((w.alloc (boxN n1 T1 R1)).alloc (boxN n2 T2 R2)).alloc box0) ((w1.alloc boxI0).alloc boxI0)) := ((HB1.out.alloc (HSz1.out) boxI0).alloc (by rw [World.size_alloc]; exact Nat.le_trans HSz1.out (Nat.le_succ _)) boxI0)
  have HE2 := hid (HEw.out.below (HX.out _ HB2.out).2.2.2 (Nat.le_refl _))
  clear hw1
  go_wp2_with fail
  refine (HCo.out _ HE2.out).mono ?_
  rintro e w2 ⟨rfl, hw2⟩
  have HB3 := hid (HB2.out.trans (hw2.mono (Nat.le_trans HSz.out HB2.out.size)))
  obtain ⟨⟨r0, r1, r2⟩, q0, q1, q2⟩ := own3V (HX.out _ HB3.out).2.2.1
  clear hw2
  go_wp2_with fail
  refine bodyPost_ret (v := noAns c) (by simp [results, Tryd.results22, go_sem, r0, r1, r2]) rfl ⟨rfl, ?_⟩
  exact below_set3 (HX.out _ HB3.out).2.2.2 (by omega) _ _ _

set_option maxRecDepth 20000 in
set_option maxHeartbeats 4000000 in
theorem implNumQuo_ok (n1 n2 p1 p2 s : Bool) (T1 R1 T2 R2 : ByteArray) (U1 U2 : Nat) (w : World) (hs : (p1 != p2) = s) (hn1 : nG U1 ≤ 1000) (hn2 : nG U2 ≤ 1000) (hu : U2 ≠ 0) (hP : Pow9 w)
    (hI : ∀ w, Pow9 w → Calls Tryd.prog 54 #[.agg #[.bool n1, .string T1, .string R1], .agg #[.bool n2, .string T2, .string R2]] w (DivPost p1 p2 s U1 U2 w)) :
    Calls Tryd.prog 18 #[.agg #[.bool n1, .string T1, .string R1], .agg #[.bool n2, .string T2, .string R2]] w fun e w' => e = .returned (.tuple #[wholeV s (U1 / U2), wholeV p1 (U1 % U2), .int .i64 0]) ∧ Below w.heap.size w w' := by
  have HI := hid hI
  have HPw := hid hP
  have hnq : nG (U1 / U2) ≤ 1000 := Nat.le_trans (nG_mono (Nat.div_le_self _ _)) hn1
  have hnr : nG (U1 % U2) ≤ 1000 := Nat.le_trans (nG_mono (Nat.mod_le _ _)) hn1
  have HPq := hid (fun v w h hP => intPlain_any s (U1 / U2) v w h hnq hP)
  have HPr := hid (fun v w h hP => intPlain_any p1 (U1 % U2) v w h hnr hP)
  have HSS := hid hs
  have HN2 := hid hn2
  have HLt := hid (Nat.mod_lt U1 (Nat.pos_of_ne_zero hu))
  have HX : Hid (∀ W, Below (w.heap.size + 4) ((((w.alloc (boxN n1 T1 R1)).alloc (boxN n2 T2 R2)).alloc box0).alloc box0) W → (Own W w.heap.size 25 #[.bool n1, .string T1, .string R1] ∧ Own W (w.heap.size + 1) 25 #[.bool n2, .string T2, .string R2]) ∧ Own W (w.heap.size + 1 + 1) 25 #[.bool false, .string ⟨#[]⟩, .string ⟨#[]⟩] ∧ Own W (w.heap.size + 1 + 1 + 1) 25 #[.bool false, .string ⟨#[]⟩, .string ⟨#[]⟩] ∧ Below w.heap.size w W) := fun W h => boxes4 w _ _ _ _ _ _ _ _ h
  have HB0 : Hid (Below (w.heap.size + 4) ((((w.alloc (boxN n1 T1 R1)).alloc (boxN n2 T2 R2)).alloc box0).alloc box0) ((((w.alloc (boxN n1 T1 R1)).alloc (boxN n2 T2 R2)).alloc box0).alloc box0)) := Below.refl _ _
  have HSz : Hid (w.heap.size + 4 ≤ ((((w.alloc (boxN n1 T1 R1)).alloc (boxN n2 T2 R2)).alloc box0).alloc box0).heap.size) := by show _ ≤ _; simp
  have HP0 := hid (HPw.out.below (HX.out _ HB0.out).2.2.2 (Nat.le_refl _))
  clear hI hP hn1 hn2 hnq hnr hu hs
  unfold wholeV
  generalize (s && !decide (U1 / U2 = 0)) = b1 at *
  generalize (p1 && !decide (U1 % U2 = 0)) = b2 at *
  go_enter Tryd.func18, Tryd.ntmps18
  go_wp2_with fail
  refine (HI.out _ HP0.out).mono ?_
  rintro e w1 ⟨a2, c2, qa, qc, ra, rc, rfl, h2, hq, hr, hw1⟩
  have HB1 := hid (HB0.out.trans (hw1.mono (by first | exact HSz.out | simp)))
  have HSz1 := hid (Nat.le_trans HSz.out HB1.out.size)
  have HU2 := hid h2
  have HQ := hid hq
  have HR := hid hr
  obtain ⟨W2, HW2⟩ : ∃ W, Hid (w1.alloc (box6 p2 (.slice a2 (grp U2).length c2) s (.slice qa (grp (U1 / U2)).length qc) p1 (.slice ra (grp (U1 % U2)).length rc)) = W) := ⟨_, rfl⟩
  have HY : Hid (∀ W, Below (w1.heap.size + 1) W2 W → Own W w1.heap.size 67 #[.bool p2, .slice a2 (grp U2).length c2, .bool s, .slice qa (grp (U1 / U2)).length qc, .bool p1, .slice ra (grp (U1 % U2)).length rc] ∧ Below w1.heap.size w1 W) := fun W h => by
    rw [← HW2.out] at h
    exact ⟨(own_new w1 #[.bool p2, .slice a2 (grp U2).length c2, .bool s, .slice qa (grp (U1 / U2)).length qc, .bool p1, .slice ra (grp (U1 % U2)).length rc] 67).keep h (Nat.lt_succ_self _), res_done h⟩
  have HC0 : Hid (Below (w1.heap.size + 1) W2 W2) := Below.refl _ _
  have HS2 : Hid (w1.heap.size + 1 ≤ W2.heap.size) := by show _ ≤ _; rw [← HW2.out]; simp
  have HB : Hid (∀ W, Below (w1.heap.size + 1) W2 W → Below (w.heap.size + 4) ((((w.alloc (boxN n1 T1 R1)).alloc (boxN n2 T2 R2)).alloc box0).alloc box0) W) := fun W h => HB1.out.trans ((HY.out W h).2.mono HSz1.out)
  have HPa : Hid (∀ W, Below (w1.heap.size + 1) W2 W → Pow9 W) := fun W h => HPw.out.below (HX.out _ (HB.out W h)).2.2.2 (Nat.le_refl _)
  clear h2 hq hr hw1
  go_wp2_with fail
  rw [HW2.out]
  have HC := hid HC0.out.drew
  obtain ⟨W3, HW3⟩ : ∃ W, Hid (W2.drew = W) := ⟨_, rfl⟩
  have HL : Hid (∀ W, Own W w1.heap.size 67 #[.bool p2, .slice a2 (grp U2).length c2, .bool s, .slice qa (grp (U1 / U2)).length qc, .bool p1, .slice ra (grp (U1 % U2)).length rc] → (W.cell? ⟨w1.heap.size, 2, none⟩ = some (.bool s) ∧ W.cell? ⟨w1.heap.size, 3, none⟩ = some (.slice qa (grp (U1 / U2)).length qc)) ∧ W.cell? ⟨w1.heap.size, 4, none⟩ = some (.bool p1) ∧ W.cell? ⟨w1.heap.size, 5, none⟩ = some (.slice ra (grp (U1 % U2)).length rc)) := fun W h => by
    obtain ⟨⟨-, -, x2, x3, x4, x5⟩, -⟩ := own6V h
    exact ⟨⟨x2, x3⟩, x4, x5⟩
  have L0 := hid (HL.out _ (HY.out _ HC.out).1)
  refine wp_region_held_drew (S := fun W => (W.cell? ⟨w1.heap.size, 2, none⟩ = some (.bool s) ∧ W.cell? ⟨w1.heap.size, 3, none⟩ = some (.slice qa (grp (U1 / U2)).length qc)) ∧ W.cell? ⟨w1.heap.size, 4, none⟩ = some (.bool p1) ∧ W.cell? ⟨w1.heap.size, 5, none⟩ = some (.slice ra (grp (U1 % U2)).length rc)) rfl L0.out (fun _ => ?_)
  rw [HW3.out]
  rw [HW3.out] at HC L0
  refine wpAnyH_take (i := 0) (oi := ({ dst := some 21, op := _, type := _, pos := _, after := _, guard := _ } : Oper)) (v := (.pointer (some ⟨w1.heap.size, 2, none⟩))) rfl (by kernel_rfl) (by kernel_rfl) (by kernel_rfl) (fun _ _ _ h => h) (Or.inl ⟨by rfl, ?_⟩) L0.out ?_
  · intro w hSw; (try dsimp only at hSw); go_simp
  try simp only [Act.put, List.setIfInBounds_toArray, List.set_cons_zero, List.set_cons_succ]
  refine wpAnyH_take (i := 1) (oi := ({ dst := some 22, op := _, type := _, pos := _, after := _, guard := _ } : Oper)) (v := (.agg #[.bool s, .slice qa (grp (U1 / U2)).length qc])) rfl (by kernel_rfl) (by kernel_rfl) (by kernel_rfl) (fun _ _ _ h => h) (Or.inl ⟨by rfl, ?_⟩) L0.out ?_
  · intro w hSw; (try dsimp only at hSw); go_simp
  try simp only [Act.put, List.setIfInBounds_toArray, List.set_cons_zero, List.set_cons_succ]
  refine wpAnyH_take (i := 3) (oi := ({ dst := some 24, op := _, type := _, pos := _, after := _, guard := _ } : Oper)) (v := (.pointer (some ⟨w1.heap.size, 4, none⟩))) rfl (by kernel_rfl) (by kernel_rfl) (by kernel_rfl) (fun _ _ _ h => h) (Or.inl ⟨by rfl, ?_⟩) L0.out ?_
  · intro w hSw; (try dsimp only at hSw); go_simp
  try simp only [Act.put, List.setIfInBounds_toArray, List.set_cons_zero, List.set_cons_succ]
  refine wpAnyH_take (i := 4) (oi := ({ dst := some 25, op := _, type := _, pos := _, after := _, guard := _ } : Oper)) (v := (.agg #[.bool p1, .slice ra (grp (U1 % U2)).length rc])) rfl (by kernel_rfl) (by kernel_rfl) (by kernel_rfl) (fun _ _ _ h => h) (Or.inl ⟨by rfl, ?_⟩) L0.out ?_
  · intro w hSw; (try dsimp only at hSw); go_simp
  try simp only [Act.put, List.setIfInBounds_toArray, List.set_cons_zero, List.set_cons_succ]
  refine wpAnyH_ready (rs := [2]) (by kernel_rfl) (by simp) ?_
  refine AllReadyH.cons (o := ({ dst := some 23, op := _, type := _, pos := _, after := _, guard := _ } : Oper)) rfl (fun K hK => ?_) AllReadyH.nil
  go_simp
  go_at_call 55
  refine (HPq.out _ _ (HQ.out.below (HY.out _ HC.out).2 (Nat.le_refl _)) (HPa.out _ HC.out)).mono ?_
  rintro e w5 ⟨rfl, hw5⟩
  have HC := hid (HC.out.trans (hw5.mono (Nat.le_trans HS2.out HC.out.size)))
  have L1 := hid (HL.out _ (HY.out _ HC.out).1)
  clear hw5
  go_wp2_with fail
  refine hK.out _ _ L1.out (fun _ => ?_)
  clear hK K
  try simp only [Act.put, List.setIfInBounds_toArray, List.set_cons_zero, List.set_cons_succ]
  refine wpAnyH_ready (rs := [5]) (by kernel_rfl) (by simp) ?_
  refine AllReadyH.cons (o := ({ dst := some 26, op := _, type := _, pos := _, after := _, guard := _ } : Oper)) rfl (fun K hK => ?_) AllReadyH.nil
  go_simp
  go_at_call 55
  refine (HPr.out _ _ (HR.out.below (HY.out _ HC.out).2 (Nat.le_refl _)) (HPa.out _ HC.out)).mono ?_
  rintro e w6 ⟨rfl, hw5⟩
  have HC := hid (HC.out.trans (hw5.mono (Nat.le_trans HS2.out HC.out.size)))
  have L2 := hid (HL.out _ (HY.out _ HC.out).1)
  clear hw5
  go_wp2_with fail
  refine hK.out _ _ L2.out (fun _ => ?_)
  clear hK K
  try simp only [Act.put, List.setIfInBounds_toArray, List.set_cons_zero, List.set_cons_succ]
  have hlt := HSz1.out
  have hO := (HY.out _ HC.out).1
  have hx := HX.out _ (HB.out _ HC.out)
  obtain ⟨⟨r0, r1, r2⟩, q0, q1, q2⟩ := own3V hx.2.1
  obtain ⟨⟨s0, s1, s2⟩, z0, z1, z2⟩ := own3V hx.2.2.1
  have L3 := hid (HL.out _ (own_set3 hO (r := w.heap.size + 1 + 1) (by omega) (.bool b1) (.string (dec (U1 / U2))) (.string (dec 1))))
  have L4 := hid (HL.out _ (own_set3 (own_set3 hO (r := w.heap.size + 1 + 1) (by omega) (.bool b1) (.string (dec (U1 / U2))) (.string (dec 1))) (r := w.heap.size + 1 + 1 + 1) (by omega) (.bool b2) (.string (dec (U1 % U2))) (.string (dec 1))))
  clear hO
  refine wpAnyH_ready (rs := [6]) (by kernel_rfl) (by simp) ?_
  refine AllReadyH.cons (o := ({ dst := none, op := _, type := _, pos := _, after := _, guard := _ } : Oper)) rfl (fun K hK => ?_) AllReadyH.nil
  go_simp
  refine hK.out _ _ L3.out (fun _ => ?_)
  clear hK K
  try simp only [Act.put, List.setIfInBounds_toArray, List.set_cons_zero, List.set_cons_succ]
  refine wpAnyH_ready (rs := [7]) (by kernel_rfl) (by simp) ?_
  refine AllReadyH.cons (o := ({ dst := none, op := _, type := _, pos := _, after := _, guard := _ } : Oper)) rfl (fun K hK => ?_) AllReadyH.nil
  go_simp
  refine hK.out _ _ L4.out (fun _ => ?_)
  clear hK K
  try simp only [Act.put, List.setIfInBounds_toArray, List.set_cons_zero, List.set_cons_succ]
  refine wpAnyH_take (i := 8) (oi := ({ dst := some 6, op := _, type := _, pos := _, after := _, guard := _ } : Oper)) (v := (.int .i64 0)) rfl (by kernel_rfl) (by kernel_rfl) (by kernel_rfl) (fun _ _ _ h => h) (Or.inl ⟨by rfl, ?_⟩) L4.out ?_
  · intro w hSw; (try dsimp only at hSw); go_simp
  try simp only [Act.put, List.setIfInBounds_toArray, List.set_cons_zero, List.set_cons_succ]
  refine wpAnyH_done (by kernel_rfl) ?_ _
  go_wp2_with fail
  refine bodyPost_ret (v := .tuple #[.agg #[.bool b1, .string (dec (U1 / U2)), .string (dec 1)], .agg #[.bool b2, .string (dec (U1 % U2)), .string (dec 1)], .int .i64 0]) (by simp [results, Tryd.results18, go_sem, r0, r1, r2, s0, s1, s2]) rfl ⟨rfl, ?_⟩
  exact below_set3 (below_set3 hx.2.2.2 (by omega) _ _ _) (by omega) _ _ _

set_option maxRecDepth 20000 in
set_option maxHeartbeats 4000000 in
theorem implNumMod_ok (n1 n2 p1 p2 s : Bool) (T1 R1 T2 R2 : ByteArray) (U1 U2 : Nat) (w : World) (hs : (p1 != p2) = s) (hn1 : nG U1 ≤ 1000) (hn2 : nG U2 ≤ 1000) (hu : U2 ≠ 0) (hP : Pow9 w)
    (hI : ∀ w, Pow9 w → Calls Tryd.prog 54 #[.agg #[.bool n1, .string T1, .string R1], .agg #[.bool n2, .string T2, .string R2]] w (DivPost p1 p2 s U1 U2 w)) :
    Calls Tryd.prog 20 #[.agg #[.bool n1, .string T1, .string R1], .agg #[.bool n2, .string T2, .string R2]] w fun e w' => e = .returned (.tuple #[wholeV p2 (modZ p1 p2 U1 U2), .int .i64 0]) ∧ Below w.heap.size w w' := by
  have HI := hid hI
  have HPw := hid hP
  have hnq : nG (U1 / U2) ≤ 1000 := Nat.le_trans (nG_mono (Nat.div_le_self _ _)) hn1
  have hnr : nG (U1 % U2) ≤ 1000 := Nat.le_trans (nG_mono (Nat.mod_le _ _)) hn1
  have HPq := hid (fun v w h hP => intPlain_any s (U1 / U2) v w h hnq hP)
  have HPr := hid (fun v w h hP => intPlain_any p1 (U1 % U2) v w h hnr hP)
  have HSS := hid hs
  have HN2 := hid hn2
  have HLt := hid (Nat.mod_lt U1 (Nat.pos_of_ne_zero hu))
  have HX : Hid (∀ W, Below (w.heap.size + 3) (((w.alloc (boxN n1 T1 R1)).alloc (boxN n2 T2 R2)).alloc box0) W → Own W w.heap.size 25 #[.bool n1, .string T1, .string R1] ∧ Own W (w.heap.size + 1) 25 #[.bool n2, .string T2, .string R2] ∧ Own W (w.heap.size + 1 + 1) 25 #[.bool false, .string ⟨#[]⟩, .string ⟨#[]⟩] ∧ Below w.heap.size w W) := fun W h => boxes3 w _ _ _ _ _ _ h
  have HB0 : Hid (Below (w.heap.size + 3) (((w.alloc (boxN n1 T1 R1)).alloc (boxN n2 T2 R2)).alloc box0) (((w.alloc (boxN n1 T1 R1)).alloc (boxN n2 T2 R2)).alloc box0)) := Below.refl _ _
  have HSz : Hid (w.heap.size + 3 ≤ (((w.alloc (boxN n1 T1 R1)).alloc (boxN n2 T2 R2)).alloc box0).heap.size) := by show _ ≤ _; simp
  have HP0 := hid (HPw.out.below (HX.out _ HB0.out).2.2.2 (Nat.le_refl _))
  clear hI hP hn1 hn2 hnq hnr hu hs
  have hZ : nG (modZ p1 p2 U1 U2) ≤ 1000 := by
    refine Nat.le_trans (nG_mono ?_) HN2.out
    have := HLt.out
    unfold modZ
    split <;> omega
  have hsg := mod_sign p1 p2 U1 U2
  have HPm := hid (fun v w h hP => intPlain_any (modN p1 p2 (U1 % U2)) (modZ p1 p2 U1 U2) v w h hZ hP)
  rw [hsg] at HPm
  unfold wholeV
  clear hZ hsg
  have HLD := hid (fun a2 qa ra c2 qc rc w h2 hr => leftDownward_mod p1 p2 s U2 U1 (U1 / U2) a2 qa ra c2 qc rc w HLt.out HN2.out h2 hr)
  generalize (p2 && !decide (modZ p1 p2 U1 U2 = 0)) = b1 at *
  go_enter Tryd.func20, Tryd.ntmps20
  go_wp2_with fail
  refine (HI.out _ HP0.out).mono ?_
  rintro e w1 ⟨a2, c2, qa, qc, ra, rc, rfl, h2, hq, hr, hw1⟩
  have HB1 := hid (HB0.out.trans (hw1.mono (by first | exact HSz.out | simp)))
  have HSz1 := hid (Nat.le_trans HSz.out HB1.out.size)
  have HU2 := hid h2
  have HQ := hid hq
  have HR := hid hr
  obtain ⟨W2, HW2⟩ : ∃ W, Hid (w1.alloc (box6 p2 (.slice a2 (grp U2).length c2) s (.slice qa (grp (U1 / U2)).length qc) p1 (.slice ra (grp (U1 % U2)).length rc)) = W) := ⟨_, rfl⟩
  have HY : Hid (∀ W, Below (w1.heap.size + 1) W2 W → Own W w1.heap.size 67 #[.bool p2, .slice a2 (grp U2).length c2, .bool s, .slice qa (grp (U1 / U2)).length qc, .bool p1, .slice ra (grp (U1 % U2)).length rc] ∧ Below w1.heap.size w1 W) := fun W h => by
    rw [← HW2.out] at h
    exact ⟨(own_new w1 #[.bool p2, .slice a2 (grp U2).length c2, .bool s, .slice qa (grp (U1 / U2)).length qc, .bool p1, .slice ra (grp (U1 % U2)).length rc] 67).keep h (Nat.lt_succ_self _), res_done h⟩
  have HC0 : Hid (Below (w1.heap.size + 1) W2 W2) := Below.refl _ _
  have HS2 : Hid (w1.heap.size + 1 ≤ W2.heap.size) := by show _ ≤ _; rw [← HW2.out]; simp
  have HB : Hid (∀ W, Below (w1.heap.size + 1) W2 W → Below (w.heap.size + 3) (((w.alloc (boxN n1 T1 R1)).alloc (boxN n2 T2 R2)).alloc box0) W) := fun W h => HB1.out.trans ((HY.out W h).2.mono HSz1.out)
  have HPa : Hid (∀ W, Below (w1.heap.size + 1) W2 W → Pow9 W) := fun W h => HPw.out.below (HX.out _ (HB.out W h)).2.2.2 (Nat.le_refl _)
  clear h2 hq hr hw1
  go_wp2_with fail
  rw [HW2.out]
  obtain ⟨⟨x0, x1, x2, x3, x4, x5⟩, -⟩ := own6V (HY.out _ HC0.out).1
  go_wp2_with fail
  refine (HLD.out _ _ _ _ _ _ _ (HU2.out.below (HY.out _ HC0.out).2 (Nat.le_refl _)) (HR.out.below (HY.out _ HC0.out).2 (Nat.le_refl _))).mono ?_
  rintro e w5 ⟨a, c, rfl, hv, hw5⟩
  have HC := hid (HC0.out.trans (hw5.mono HS2.out))
  have HV := hid hv
  clear hw5 hv x0 x1 x2 x3 x4 x5
  go_wp2_with fail
  refine (HPm.out _ _ HV.out (HPa.out _ HC.out)).mono ?_
  rintro e w6 ⟨rfl, hw6⟩
  have HC := hid (HC.out.trans (hw6.mono (Nat.le_trans HS2.out HC.out.size)))
  have hx := HX.out _ (HB.out _ HC.out)
  obtain ⟨⟨r0, r1, r2⟩, q0, q1, q2⟩ := own3V hx.2.2.1
  clear hw6
  go_wp2_with fail
  refine bodyPost_ret (v := .tuple #[.agg #[.bool b1, .string (dec (modZ p1 p2 U1 U2)), .string (dec 1)], .int .i64 0]) (by simp [results, Tryd.results20, go_sem, r0, r1, r2]) rfl ⟨rfl, ?_⟩
  exact below_set3 hx.2.2.2 (by omega) _ _ _

set_option maxRecDepth 20000 in
set_option maxHeartbeats 4000000 in
theorem implNumGcd_ok (n1 n2 p1 p2 : Bool) (T1 R1 T2 R2 : ByteArray) (U1 U2 : Nat) (w : World) (hn1 : nG U1 ≤ 1000) (hn2 : nG U2 ≤ 1000) (hP : Pow9 w)
    (hI : ∀ w, Pow9 w → Calls Tryd.prog 59 #[.agg #[.bool n1, .string T1, .string R1], .agg #[.bool n2, .string T2, .string R2]] w (IntPost p1 p2 U1 U2 w)) :
    Calls Tryd.prog 22 #[.agg #[.bool n1, .string T1, .string R1], .agg #[.bool n2, .string T2, .string R2]] w fun e w' => e = .returned (.tuple #[wholeV false (Nat.gcd U1 U2), .int .i64 0]) ∧ Below w.heap.size w w' := by
  have HI := hid hI
  have HPw := hid hP
  have hg : nG (Nat.gcd U1 U2) ≤ 1000 := by
    rcases Nat.eq_zero_or_pos U1 with h | h
    · rw [h, Nat.gcd_zero_left]; exact hn2
    · exact Nat.le_trans (nG_mono (Nat.le_of_dvd h (Nat.gcd_dvd_left _ _))) hn1
  have HPq := hid (fun v w h hP => intPlain_any false (Nat.gcd U1 U2) v w h hg hP)
  have HCm := hid (fun va vb w ha hb => commonOf_any U1 U2 va vb w ha hb hn1 hn2)
  have HX : Hid (∀ W, Below (w.heap.size + 3) (((w.alloc (boxN n1 T1 R1)).alloc (boxN n2 T2 R2)).alloc box0) W → Own W w.heap.size 25 #[.bool n1, .string T1, .string R1] ∧ Own W (w.heap.size + 1) 25 #[.bool n2, .string T2, .string R2] ∧ Own W (w.heap.size + 1 + 1) 25 #[.bool false, .string ⟨#[]⟩, .string ⟨#[]⟩] ∧ Below w.heap.size w W) := fun W h => boxes3 w _ _ _ _ _ _ h
  have HB0 : Hid (Below (w.heap.size + 3) (((w.alloc (boxN n1 T1 R1)).alloc (boxN n2 T2 R2)).alloc box0) (((w.alloc (boxN n1 T1 R1)).alloc (boxN n2 T2 R2)).alloc box0)) := Below.refl _ _
  have HSz : Hid (w.heap.size + 3 ≤ (((w.alloc (boxN n1 T1 R1)).alloc (boxN n2 T2 R2)).alloc box0).heap.size) := by show _ ≤ _; simp
  have HP0 := hid (HPw.out.below (HX.out _ HB0.out).2.2.2 (Nat.le_refl _))
  clear hI hP hn1 hn2 hg
  unfold wholeV
  generalize (false && !decide (Nat.gcd U1 U2 = 0)) = b1 at *
  go_enter Tryd.func22, Tryd.ntmps22
  go_wp2_with fail
  refine (HI.out _ HP0.out).mono ?_
  rintro e w1 ⟨a1, c1, a2, c2, rfl, hu1, hu2, hw1⟩
  have HB1 := hid (HB0.out.trans (hw1.mono (by first | exact HSz.out | simp)))
  have HSz1 := hid (Nat.le_trans HSz.out HB1.out.size)
  have HU1 := hid hu1
  have HU2 := hid hu2
  obtain ⟨W2, HW2⟩ : ∃ W, Hid ((w1.alloc (boxI p1 (.slice a1 (grp U1).length c1))).alloc (boxI p2 (.slice a2 (grp U2).length c2)) = W) := ⟨_, rfl⟩
  have HY : Hid (∀ W, Below (w1.heap.size + 2) W2 W → Own W w1.heap.size 55 #[.bool p1, .slice a1 (grp U1).length c1] ∧ Own W (w1.heap.size + 1) 55 #[.bool p2, .slice a2 (grp U2).length c2] ∧ Below w1.heap.size w1 W) := fun W h => by
    rw [← HW2.out] at h
    exact boxes2 w1 _ _ _ _ h
  have HC0 : Hid (Below (w1.heap.size + 2) W2 W2) := Below.refl _ _
  have HS2 : Hid (w1.heap.size + 2 ≤ W2.heap.size) := by show _ ≤ _; rw [← HW2.out]; simp
  have HB : Hid (∀ W, Below (w1.heap.size + 2) W2 W → Below (w.heap.size + 3) (((w.alloc (boxN n1 T1 R1)).alloc (boxN n2 T2 R2)).alloc box0) W) := fun W h => HB1.out.trans ((HY.out W h).2.2.mono HSz1.out)
  have HPa : Hid (∀ W, Below (w1.heap.size + 2) W2 W → Pow9 W) := fun W h => HPw.out.below (HX.out _ (HB.out W h)).2.2.2 (Nat.le_refl _)
  obtain ⟨⟨x0, x1⟩, -⟩ := own2V (HY.out _ HC0.out).1
  obtain ⟨⟨y0, y1⟩, -⟩ := own2V (HY.out _ HC0.out).2.1
  clear hu1 hu2 hw1
  go_wp2_with fail
  rw [HW2.out]
  go_wp2_with fail
  refine (HCm.out _ _ _ (HU1.out.below (HY.out _ HC0.out).2.2 (Nat.le_refl _)) (HU2.out.below (HY.out _ HC0.out).2.2 (Nat.le_refl _))).mono ?_
  rintro e w5 ⟨v, rfl, hv, hw5⟩
  obtain ⟨va, vc, rfl⟩ := natA_formR hv
  have HC := hid (HC0.out.trans (hw5.mono HS2.out))
  have HV := hid hv
  clear hw5 hv x0 x1 y0 y1
  go_wp2_with fail
  refine (HPq.out _ _ HV.out (HPa.out _ HC.out)).mono ?_
  rintro e w6 ⟨rfl, hw6⟩
  have HC := hid (HC.out.trans (hw6.mono (Nat.le_trans HS2.out HC.out.size)))
  have hx := HX.out _ (HB.out _ HC.out)
  obtain ⟨⟨r0, r1, r2⟩, q0, q1, q2⟩ := own3V hx.2.2.1
  clear hw6
  go_wp2_with fail
  refine bodyPost_ret (v := .tuple #[.agg #[.bool b1, .string (dec (Nat.gcd U1 U2)), .string (dec 1)], .int .i64 0]) (by simp [results, Tryd.results22, go_sem, r0, r1, r2]) rfl ⟨rfl, ?_⟩
  exact below_set3 hx.2.2.2 (by omega) _ _ _
end Go.Proofs.YteckkgbkgjhhbaaDoor

namespace Go.Proofs.YteckkgbkgjhhbaaDoor
open Go.RowKit Go.Siskin

/-- A power of ten, in groups. -/
theorem grp_power (n : Nat) : grp (10 ^ n) = (List.replicate (n / 9 + 1) 0).set (n / 9) (10 ^ (n % 9)) := by
  have e : 10 ^ n = 10 ^ (n % 9) * 1000000000 ^ (n / 9) := by rw [p9k, ← Nat.pow_add]; congr 1; omega
  have hlt : 10 ^ (n % 9) < 1000000000 := by rw [p9]; exact Nat.pow_lt_pow_right (by decide) (by omega)
  have hpos : 0 < 10 ^ (n % 9) := Nat.pow_pos (by decide)
  rw [← grpN_grp (m := n / 9 + 1) (v := 10 ^ n) (by rw [e, Nat.pow_succ, Nat.mul_comm]; exact Nat.mul_lt_mul_of_pos_left hlt (p9pos _)) (Or.inr (by rw [e, Nat.add_sub_cancel]; exact Nat.le_mul_of_pos_left _ hpos))]
  apply List.ext_getElem
  · simp [grpN_length]
  · intro i h1 h2
    rw [grpN_get, List.getElem_set, e]
    rw [grpN_length] at h1
    by_cases h : n / 9 = i
    · rw [if_pos h, ← h, Nat.mul_div_cancel _ (p9pos _), Nat.mod_eq_of_lt hlt]
    · rw [if_neg h, List.getElem_replicate]
      have hi : i < n / 9 := by omega
      have e2 : 1000000000 ^ (n / 9) = 1000000000 ^ i * (1000000000 ^ (n / 9 - i - 1) * 1000000000) := by
        rw [← Nat.pow_succ, ← Nat.pow_add]; congr 1; omega
      rw [e2, ← Nat.mul_assoc, Nat.mul_comm (10 ^ (n % 9)), Nat.mul_assoc, Nat.mul_div_cancel_left _ (p9pos _), ← Nat.mul_assoc, Nat.mul_mod_left]

set_option maxRecDepth 20000 in
set_option maxHeartbeats 800000 in
theorem powerOfTen_any (n : Nat) (w : World) (hn : n ≤ 100000) (hP : Pow9 w) :
    Calls Tryd.prog 104 #[.int .i64 n] w fun e w' => ∃ u, e = .returned u ∧ NatA w' u (grp (10 ^ n)) ∧ Below w.heap.size w w' := by
  obtain ⟨i0, hi, hz0, hz1, hz2⟩ := info_partsZ Tryd.infoWordZ
  have Hi := hid hi
  have Hz0 := hid hz0
  have Hz1 := hid hz1
  have Hz2 := hid hz2
  clear hi hz0 hz1 hz2
  obtain ⟨q, HQ⟩ : ∃ q : Nat, Hid (n / 9 = q) := ⟨_, rfl⟩
  obtain ⟨r, HR⟩ : ∃ r : Nat, Hid (n % 9 = r) := ⟨_, rfl⟩
  have hq1 : ((n : Int)).tdiv 9 = (q : Int) := by rw [Int.tdiv_eq_ediv_of_nonneg (by omega), ← HQ.out]; omega
  have hr1 : ((n : Int)).tmod 9 = (r : Int) := by rw [Int.tmod_eq_emod_of_nonneg (by omega), ← HR.out]; omega
  have hr9 : r < 9 := by have := HR.out; omega
  have hql : q ≤ 20000 := by have := HQ.out; omega
  obtain ⟨t, HT⟩ : ∃ t : Nat, Hid (10 ^ r = t) := ⟨_, rfl⟩
  have HM : Hid (GrA (w.alloc (.cells (madeCells #[Value.int .u64 0] (q + 1)) 88)) w.heap.size (grpN (q + 1) 0)) := made_zero w (q + 1)
  have gP := (hP.alloc (.cells (madeCells #[Value.int .u64 0] (q + 1)) 88)).2 r hr9
  rw [HT.out] at gP
  have fz := HM.out.frozen q
  have HW : Hid (grp (10 ^ n) = (grpN (q + 1) 0).set q t) := by
    show _ = _
    rw [grp_power, HQ.out, HR.out, HT.out]
    congr 1
    apply List.ext_getElem
    · simp [grpN_length]
    · intro i h1 h2; rw [grpN_get, List.getElem_replicate, Nat.zero_div, Nat.zero_mod]
  have c0 : (madeCells #[Value.int .u64 0] (q + 1))[q]? = some (.int .u64 0) := by
    have h1 := (own_new w (madeCells #[Value.int .u64 0] (q + 1)) 88).cell q
    have h2 := HM.out.get q (by rw [grpN_length]; omega)
    rw [grpN_get, Nat.zero_div, Nat.zero_mod] at h2
    exact h1.symm.trans h2
  have HBw : Hid (Below w.heap.size w (w.alloc (.cells (madeCells #[Value.int .u64 0] (q + 1)) 88))) := (Below.refl _ _).alloc (Nat.le_refl _) _
  clear hP
  go_enter Tryd.func104, Tryd.ntmps104
  go_wp2_with (at_make; go_loud (refine wpList_make_new _ rfl _ _ 53 rfl 88 i0 (.int .u64 0) 1 Tryd.underlying53 Hi.out Hz0.out Hz1.out .i64 .i64 (q + 1) rfl rfl (by rw [Hz2.out]; omega) (by unfold maxLen; omega) ?_))
  go_ret
  refine ⟨_, rfl, ?_, (Below.refl _ _).alloc (Nat.le_refl _) _⟩
  rw [HW.out]
  have hE : madeCells #[Value.int .u64 0] (q + 1) = (numL .u64 (grpN (q + 1) 0)).toArray := by
    have h1 := (own_new w (madeCells #[Value.int .u64 0] (q + 1)) 88).symm.trans HM.out
    simp only [Option.some.injEq, Obj.cells.injEq] at h1
    exact h1.1
  have hO : GrA (w.alloc (.cells ((madeCells #[Value.int .u64 0] (q + 1)).setIfInBounds q (.int .u64 (t : Int))) 88)) w.heap.size ((grpN (q + 1) 0).set q t) := by
    have h := own_new w ((madeCells #[Value.int .u64 0] (q + 1)).setIfInBounds q (.int .u64 (t : Int))) 88
    unfold GrA
    have e2 : ((madeCells #[Value.int .u64 0] (q + 1)).setIfInBounds q (.int .u64 (t : Int))) = (numL .u64 ((grpN (q + 1) 0).set q t)).toArray := by
      rw [hE, numL_set]; simp
    rw [← e2]
    exact h
  have h := hO.natA (cap := q + 1) (by simp [grpN_length]) (by unfold maxLen; omega)
  rw [List.length_set, grpN_length] at h
  exact h
end Go.Proofs.YteckkgbkgjhhbaaDoor
