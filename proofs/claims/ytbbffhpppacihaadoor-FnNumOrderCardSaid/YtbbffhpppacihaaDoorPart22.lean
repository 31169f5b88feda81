/-
  Stage 8, the program: NumQuo, NumMod, NumGcd. Condition: the table of powers and errors.errorType stand. Made by wip/tools/genp6.py.
  The model's NumQuo of whole numbers.
  NumQuo, NumMod, NumGcd: the model's and the program's answer the same. Condition: the table of powers and errors.errorType stand.
-/
import Derived.Test.YtbbffhpppacihaaDoorPart21
import Derived.Test.YtbbffhpppacihaaDoorUN
import Derived.Test.YtbbffhpppacihaaDoorPart18
namespace Go.Proofs.YtbbffhpppacihaaDoor
open Go.RowKit Go.Siskin

theorem ErrT.below {w w' : World} {n : Nat} (h : ErrT w) (hb : Below n w w') (hn : w.heap.size ≤ n) : ErrT w' := by
  have hlt : 0 < w.heap.size := by
    rcases Nat.lt_or_ge 0 w.heap.size with h' | h'
    · exact h'
    · unfold ErrT at h; simp [World.cell?, Array.getElem?_eq_none h'] at h
  unfold ErrT at h ⊢
  rw [hb.cell (p := ⟨0, 0, none⟩) (Nat.lt_of_lt_of_le hlt hn)]
  exact h
theorem mod_sign (p1 p2 : Bool) (U1 U2 : Nat) : (modN p1 p2 (U1 % U2) && !decide (modZ p1 p2 U1 U2 = 0)) = (p2 && !decide (modZ p1 p2 U1 U2 = 0)) := by
  unfold modN
  by_cases h : U1 % U2 = 0
  · have hz : modZ p1 p2 U1 U2 = 0 := by unfold modZ; simp [h]
    simp [hz]
  · cases p1 <;> cases p2 <;> simp [h]
/-- What dividedOf tells of two whole numbers, the second one not nought. -/
def DivPost (p1 p2 s : Bool) (U1 U2 : Nat) (w : World) (e : Ending) (w' : World) : Prop :=
  ∃ a2 c2 qa qc ra rc, e = .returned (.tuple #[.agg #[.bool p2, .slice a2 (grp U2).length c2, .bool s, .slice qa (grp (U1 / U2)).length qc, .bool p1, .slice ra (grp (U1 % U2)).length rc], .nilIface]) ∧ NatA w' (.slice a2 (grp U2).length c2) (grp U2) ∧ NatA w' (.slice qa (grp (U1 / U2)).length qc) (grp (U1 / U2)) ∧ NatA w' (.slice ra (grp (U1 % U2)).length rc) (grp (U1 % U2)) ∧ Below w.heap.size w w'

set_option maxRecDepth 20000 in
set_option maxHeartbeats 4000000 in
theorem implNumQuo_err (n1 n2 : Bool) (T1 R1 T2 R2 : ByteArray) (c : Int) (w : World) (hP : Pow9 w) (hE : ErrT w)
    (hI : ∀ w, Pow9 w → Calls Tryd.prog 35 #[.agg #[.bool n1, .string T1, .string R1], .agg #[.bool n2, .string T2, .string R2]] w fun e w' => e = .returned (.tuple #[div0, whyV c]) ∧ Below w.heap.size w w') :
    Calls Tryd.prog 11 #[.agg #[.bool n1, .string T1, .string R1], .agg #[.bool n2, .string T2, .string R2]] w fun e w' => e = .returned (noQuo c) ∧ Below w.heap.size w w' := by
  have HI := hid hI
  have HPw := hid hP
  have HEw := hid hE
  have HCo := hid (fun w hE => codeOf_any c w hE)
  clear hI hP hE
  have HX : Hid (∀ W, Below (w.heap.size + 4) ((((w.alloc (boxN n1 T1 R1)).alloc (boxN n2 T2 R2)).alloc box0).alloc box0) W → (Own W w.heap.size 25 #[.bool n1, .string T1, .string R1] ∧ Own W (w.heap.size + 1) 25 #[.bool n2, .string T2, .string R2]) ∧ Own W (w.heap.size + 1 + 1) 25 #[.bool false, .string ⟨#[]⟩, .string ⟨#[]⟩] ∧ Own W (w.heap.size + 1 + 1 + 1) 25 #[.bool false, .string ⟨#[]⟩, .string ⟨#[]⟩] ∧ Below w.heap.size w W) := fun W h => boxes4 w _ _ _ _ _ _ _ _ h
  have HB0 : Hid (Below (w.heap.size + 4) ((((w.alloc (boxN n1 T1 R1)).alloc (boxN n2 T2 R2)).alloc box0).alloc box0) ((((w.alloc (boxN n1 T1 R1)).alloc (boxN n2 T2 R2)).alloc box0).alloc box0)) := Below.refl _ _
  have HSz : Hid (w.heap.size + 4 ≤ ((((w.alloc (boxN n1 T1 R1)).alloc (boxN n2 T2 R2)).alloc box0).alloc box0).heap.size) := by show _ ≤ _; simp
  have HP0 := hid (HPw.out.below (HX.out _ HB0.out).2.2.2 (Nat.le_refl _))
  go_enter Tryd.func11, Tryd.ntmps11
  go_wp2_with fail
  refine (HI.out _ HP0.out).mono ?_
  rintro e w1 ⟨rfl, hw1⟩
  have HB1 := hid (HB0.out.trans (hw1.mono (by first | exact HSz.out | simp)))
  have HSz1 := hid (Nat.le_trans HSz.out HB1.out.size)
  have HB2 : Hid (Below (w.heap.size + 4) ((((w.alloc (boxN n1 T1 R1)).alloc (boxN n2 T2 R2)).alloc box0).alloc box0) (w1.alloc box60)) := (HB1.out.alloc (HSz1.out) box60)
  have HE2 := hid (HEw.out.below (HX.out _ HB2.out).2.2.2 (Nat.le_refl _))
  clear hw1
  go_wp2_with fail
  refine (HCo.out _ HE2.out).mono ?_
  rintro e w2 ⟨rfl, hw2⟩
  have HB3 := hid (HB2.out.trans (hw2.mono (Nat.le_trans HSz.out HB2.out.size)))
  obtain ⟨⟨r0, r1, r2⟩, q0, q1, q2⟩ := own3V (HX.out _ HB3.out).2.1
  obtain ⟨⟨s0, s1, s2⟩, p0, p1, p2⟩ := own3V (HX.out _ HB3.out).2.2.1
  clear hw2
  go_wp2_with fail
  refine bodyPost_ret (v := noQuo c) (by simp [results, Tryd.results11, go_sem, r0, r1, r2, s0, s1, s2]) rfl ⟨rfl, ?_⟩
  exact below_set3 (below_set3 (HX.out _ HB3.out).2.2.2 (by omega) _ _ _) (by omega) _ _ _

set_option maxRecDepth 20000 in
set_option maxHeartbeats 4000000 in
theorem implNumGcd_err (n1 n2 : Bool) (T1 R1 T2 R2 : ByteArray) (c : Int) (w : World) (hP : Pow9 w) (hE : ErrT w)
    (hI : ∀ w, Pow9 w → Calls Tryd.prog 60 #[.agg #[.bool n1, .string T1, .string R1], .agg #[.bool n2, .string T2, .string R2]] w fun e w' => e = .returned (.tuple #[int0, int0, whyV c]) ∧ Below w.heap.size w w') :
    Calls Tryd.prog 30 #[.agg #[.bool n1, .string T1, .string R1], .agg #[.bool n2, .string T2, .string R2]] w fun e w' => e = .returned (noAns c) ∧ Below w.heap.size w w' := by
  have HI := hid hI
  have HPw := hid hP
  have HEw := hid hE
  have HCo := hid (fun w hE => codeOf_any c w hE)
  clear hI hP hE
  have HX : Hid (∀ W, Below (w.heap.size + 3) (((w.alloc (boxN n1 T1 R1)).alloc (boxN n2 T2 R2)).alloc box0) W → Own W w.heap.size 25 #[.bool n1, .string T1, .string R1] ∧ Own W (w.heap.size + 1) 25 #[.bool n2, .string T2, .string R2] ∧ Own W (w.heap.size + 1 + 1) 25 #[.bool false, .string ⟨#[]⟩, .string ⟨#[]⟩] ∧ Below w.heap.size w W) := fun W h => boxes3 w _ _ _ _ _ _ h
  have HB0 : Hid (Below (w.heap.size + 3) (((w.alloc (boxN n1 T1 R1)).alloc (boxN n2 T2 R2)).alloc box0) (((w.alloc (boxN n1 T1 R1)).alloc (boxN n2 T2 R2)).alloc box0)) := Below.refl _ _
  have HSz : Hid (w.heap.size + 3 ≤ (((w.alloc (boxN n1 T1 R1)).alloc (boxN n2 T2 R2)).alloc box0).heap.size) := by show _ ≤ _; simp
  have HP0 := hid (HPw.out.below (HX.out _ HB0.out).2.2.2 (Nat.le_refl _))
  go_enter Tryd.func30, Tryd.ntmps30
  go_wp2_with fail
  refine (HI.out _ HP0.out).mono ?_
  rintro e w1 ⟨rfl, hw1⟩
  have HB1 := hid (HB0.out.trans (hw1.mono (by first | exact HSz.out | simp)))
  have HSz1 := hid (Nat.le_trans HSz.out HB1.out.size)
  have HB2 : Hid (Below (w.heap.size + 3) (((w.alloc (boxN n1 T1 R1)).alloc (boxN n2 T2 R2)).alloc box0) ((w1.alloc boxI0).alloc boxI0)) := ((HB1.out.alloc (HSz1.out) boxI0).alloc (by rw [World.size_alloc]; exact Nat.le_trans HSz1.out (Nat.le_succ _)) boxI0)
  have HE2 := hid (HEw.out.below (HX.out _ HB2.out).2.2.2 (Nat.le_refl _))
  clear hw1
  go_wp2_with fail
  refine (HCo.out _ HE2.out).mono ?_
  rintro e w2 ⟨rfl, hw2⟩
  have HB3 := hid (HB2.out.trans (hw2.mono (Nat.le_trans HSz.out HB2.out.size)))
  obtain ⟨⟨r0, r1, r2⟩, q0, q1, q2⟩ := own3V (HX.out _ HB3.out).2.2.1
  clear hw2
  go_wp2_with fail
  refine bodyPost_ret (v := noAns c) (by simp [results, Tryd.results30, go_sem, r0, r1, r2]) rfl ⟨rfl, ?_⟩
  exact below_set3 (HX.out _ HB3.out).2.2.2 (by omega) _ _ _

set_option maxRecDepth 20000 in
set_option maxHeartbeats 4000000 in
theorem implNumQuo_ok (n1 n2 p1 p2 s : Bool) (T1 R1 T2 R2 : ByteArray) (U1 U2 : Nat) (w : World) (hs : (p1 != p2) = s) (hn1 : nG U1 ≤ 1000) (hn2 : nG U2 ≤ 1000) (hu : U2 ≠ 0) (hP : Pow9 w)
    (hI : ∀ w, Pow9 w → Calls Tryd.prog 35 #[.agg #[.bool n1, .string T1, .string R1], .agg #[.bool n2, .string T2, .string R2]] w (DivPost p1 p2 s U1 U2 w)) :
    Calls Tryd.prog 11 #[.agg #[.bool n1, .string T1, .string R1], .agg #[.bool n2, .string T2, .string R2]] w fun e w' => e = .returned (.tuple #[wholeV s (U1 / U2), wholeV p1 (U1 % U2), .int .i64 0]) ∧ Below w.heap.size w w' := by
  have HI := hid hI
  have HPw := hid hP
  have hnq : nG (U1 / U2) ≤ 1000 := Nat.le_trans (nG_mono (Nat.div_le_self _ _)) hn1
  have hnr : nG (U1 % U2) ≤ 1000 := Nat.le_trans (nG_mono (Nat.mod_le _ _)) hn1
  have HPq := hid (fun v w h hP => intPlain_any s (U1 / U2) v w h hnq hP)
  have HPr := hid (fun v w h hP => intPlain_any p1 (U1 % U2) v w h hnr hP)
  have HSS := hid hs
  have HN2 := hid hn2
  have HLt := hid (Nat.mod_lt U1 (Nat.pos_of_ne_zero hu))
  have HX : Hid (∀ W, Below (w.heap.size + 4) ((((w.alloc (boxN n1 T1 R1)).alloc (boxN n2 T2 R2)).alloc box0).alloc box0) W → (Own W w.heap.size 25 #[.bool n1, .string T1, .string R1] ∧ Own W (w.heap.size + 1) 25 #[.bool n2, .string T2, .string R2]) ∧ Own W (w.heap.size + 1 + 1) 25 #[.bool false, .string ⟨#[]⟩, .string ⟨#[]⟩] ∧ Own W (w.heap.size + 1 + 1 + 1) 25 #[.bool false, .string ⟨#[]⟩, .string ⟨#[]⟩] ∧ Below w.heap.size w W) := fun W h => boxes4 w _ _ _ _ _ _ _ _ h
  have HB0 : Hid (Below (w.heap.size + 4) ((((w.alloc (boxN n1 T1 R1)).alloc (boxN n2 T2 R2)).alloc box0).alloc box0) ((((w.alloc (boxN n1 T1 R1)).alloc (boxN n2 T2 R2)).alloc box0).alloc box0)) := Below.refl _ _
  have HSz : Hid (w.heap.size + 4 ≤ ((((w.alloc (boxN n1 T1 R1)).alloc (boxN n2 T2 R2)).alloc box0).alloc box0).heap.size) := by show _ ≤ _; simp
  have HP0 := hid (HPw.out.below (HX.out _ HB0.out).2.2.2 (Nat.le_refl _))
  clear hI hP hn1 hn2 hnq hnr hu hs
  unfold wholeV
  generalize (s && !decide (U1 / U2 = 0)) = b1 at *
  generalize (p1 && !decide (U1 % U2 = 0)) = b2 at *
  go_enter Tryd.func11, Tryd.ntmps11
  go_wp2_with fail
  refine (HI.out _ HP0.out).mono ?_
  rintro e w1 ⟨a2, c2, qa, qc, ra, rc, rfl, h2, hq, hr, hw1⟩
  have HB1 := hid (HB0.out.trans (hw1.mono (by first | exact HSz.out | simp)))
  have HSz1 := hid (Nat.le_trans HSz.out HB1.out.size)
  have HU2 := hid h2
  have HQ := hid hq
  have HR := hid hr
  obtain ⟨W2, HW2⟩ : ∃ W, Hid (w1.alloc (box6 p2 (.slice a2 (grp U2).length c2) s (.slice qa (grp (U1 / U2)).length qc) p1 (.slice ra (grp (U1 % U2)).length rc)) = W) := ⟨_, rfl⟩
  have HY : Hid (∀ W, Below (w1.heap.size + 1) W2 W → Own W w1.heap.size 52 #[.bool p2, .slice a2 (grp U2).length c2, .bool s, .slice qa (grp (U1 / U2)).length qc, .bool p1, .slice ra (grp (U1 % U2)).length rc] ∧ Below w1.heap.size w1 W) := fun W h => by
    rw [← HW2.out] at h
    exact ⟨(own_new w1 #[.bool p2, .slice a2 (grp U2).length c2, .bool s, .slice qa (grp (U1 / U2)).length qc, .bool p1, .slice ra (grp (U1 % U2)).length rc] 52).keep h (Nat.lt_succ_self _), res_done h⟩
  have HC0 : Hid (Below (w1.heap.size + 1) W2 W2) := Below.refl _ _
  have HS2 : Hid (w1.heap.size + 1 ≤ W2.heap.size) := by show _ ≤ _; rw [← HW2.out]; simp
  have HB : Hid (∀ W, Below (w1.heap.size + 1) W2 W → Below (w.heap.size + 4) ((((w.alloc (boxN n1 T1 R1)).alloc (boxN n2 T2 R2)).alloc box0).alloc box0) W) := fun W h => HB1.out.trans ((HY.out W h).2.mono HSz1.out)
  have HPa : Hid (∀ W, Below (w1.heap.size + 1) W2 W → Pow9 W) := fun W h => HPw.out.below (HX.out _ (HB.out W h)).2.2.2 (Nat.le_refl _)
  clear h2 hq hr hw1
  go_wp2_with fail
  rw [HW2.out]
  have HC := hid HC0.out.drew
  obtain ⟨W3, HW3⟩ : ∃ W, Hid (W2.drew = W) := ⟨_, rfl⟩
  have HL : Hid (∀ W, Own W w1.heap.size 52 #[.bool p2, .slice a2 (grp U2).length c2, .bool s, .slice qa (grp (U1 / U2)).length qc, .bool p1, .slice ra (grp (U1 % U2)).length rc] → (W.cell? ⟨w1.heap.size, 2, none⟩ = some (.bool s) ∧ W.cell? ⟨w1.heap.size, 3, none⟩ = some (.slice qa (grp (U1 / U2)).length qc)) ∧ W.cell? ⟨w1.heap.size, 4, none⟩ = some (.bool p1) ∧ W.cell? ⟨w1.heap.size, 5, none⟩ = some (.slice ra (grp (U1 % U2)).length rc)) := fun W h => by
    obtain ⟨⟨-, -, x2, x3, x4, x5⟩, -⟩ := own6V h
    exact ⟨⟨x2, x3⟩, x4, x5⟩
  have L0 := hid (HL.out _ (HY.out _ HC.out).1)
  refine wp_region_held_drew (S := fun W => (W.cell? ⟨w1.heap.size, 2, none⟩ = some (.bool s) ∧ W.cell? ⟨w1.heap.size, 3, none⟩ = some (.slice qa (grp (U1 / U2)).length qc)) ∧ W.cell? ⟨w1.heap.size, 4, none⟩ = some (.bool p1) ∧ W.cell? ⟨w1.heap.size, 5, none⟩ = some (.slice ra (grp (U1 % U2)).length rc)) rfl L0.out (fun _ => ?_)
  rw [HW3.out]
  rw [HW3.out] at HC L0
  refine wpAnyH_take (i := 0) (oi := ({ dst := some 21, op := _, type := _, pos := _, after := _, guard := _ } : Oper)) (v := (.pointer (some ⟨w1.heap.size, 2, none⟩))) rfl (by kernel_rfl) (by kernel_rfl) (by kernel_rfl) (fun _ _ _ h => h) (Or.inl ⟨by rfl, ?_⟩) L0.out ?_
  · intro w hSw; (try dsimp only at hSw); go_simp
  try simp only [Act.put, List.setIfInBounds_toArray, List.set_cons_zero, List.set_cons_succ]
  refine wpAnyH_take (i := 1) (oi := ({ dst := some 22, op := _, type := _, pos := _, after := _, guard := _ } : Oper)) (v := (.agg #[.bool s, .slice qa (grp (U1 / U2)).length qc])) rfl (by kernel_rfl) (by kernel_rfl) (by kernel_rfl) (fun _ _ _ h => h) (Or.inl ⟨by rfl, ?_⟩) L0.out ?_
  · intro w hSw; (try dsimp only at hSw); go_simp
  try simp only [Act.put, List.setIfInBounds_toArray, List.set_cons_zero, List.set_cons_succ]
  refine wpAnyH_take (i := 3) (oi := ({ dst := some 24, op := _, type := _, pos := _, after := _, guard := _ } : Oper)) (v := (.pointer (some ⟨w1.heap.size, 4, none⟩))) rfl (by kernel_rfl) (by kernel_rfl) (by kernel_rfl) (fun _ _ _ h => h) (Or.inl ⟨by rfl, ?_⟩) L0.out ?_
  · intro w hSw; (try dsimp only at hSw); go_simp
  try simp only [Act.put, List.setIfInBounds_toArray, List.set_cons_zero, List.set_cons_succ]
  refine wpAnyH_take (i := 4) (oi := ({ dst := some 25, op := _, type := _, pos := _, after := _, guard := _ } : Oper)) (v := (.agg #[.bool p1, .slice ra (grp (U1 % U2)).length rc])) rfl (by kernel_rfl) (by kernel_rfl) (by kernel_rfl) (fun _ _ _ h => h) (Or.inl ⟨by rfl, ?_⟩) L0.out ?_
  · intro w hSw; (try dsimp only at hSw); go_simp
  try simp only [Act.put, List.setIfInBounds_toArray, List.set_cons_zero, List.set_cons_succ]
  refine wpAnyH_ready (rs := [2]) (by kernel_rfl) (by simp) ?_
  refine AllReadyH.cons (o := ({ dst := some 23, op := _, type := _, pos := _, after := _, guard := _ } : Oper)) rfl (fun K hK => ?_) AllReadyH.nil
  go_simp
  go_at_call 37
  refine (HPq.out _ _ (HQ.out.below (HY.out _ HC.out).2 (Nat.le_refl _)) (HPa.out _ HC.out)).mono ?_
  rintro e w5 ⟨rfl, hw5⟩
  have HC := hid (HC.out.trans (hw5.mono (Nat.le_trans HS2.out HC.out.size)))
  have L1 := hid (HL.out _ (HY.out _ HC.out).1)
  clear hw5
  go_wp2_with fail
  refine hK.out _ _ L1.out (fun _ => ?_)
  clear hK K
  try simp only [Act.put, List.setIfInBounds_toArray, List.set_cons_zero, List.set_cons_succ]
  refine wpAnyH_ready (rs := [5]) (by kernel_rfl) (by simp) ?_
  refine AllReadyH.cons (o := ({ dst := some 26, op := _, type := _, pos := _, after := _, guard := _ } : Oper)) rfl (fun K hK => ?_) AllReadyH.nil
  go_simp
  go_at_call 37
  refine (HPr.out _ _ (HR.out.below (HY.out _ HC.out).2 (Nat.le_refl _)) (HPa.out _ HC.out)).mono ?_
  rintro e w6 ⟨rfl, hw5⟩
  have HC := hid (HC.out.trans (hw5.mono (Nat.le_trans HS2.out HC.out.size)))
  have L2 := hid (HL.out _ (HY.out _ HC.out).1)
  clear hw5
  go_wp2_with fail
  refine hK.out _ _ L2.out (fun _ => ?_)
  clear hK K
  try simp only [Act.put, List.setIfInBounds_toArray, List.set_cons_zero, List.set_cons_succ]
  have hlt := HSz1.out
  have hO := (HY.out _ HC.out).1
  have hx := HX.out _ (HB.out _ HC.out)
  obtain ⟨⟨r0, r1, r2⟩, q0, q1, q2⟩ := own3V hx.2.1
  obtain ⟨⟨s0, s1, s2⟩, z0, z1, z2⟩ := own3V hx.2.2.1
  have L3 := hid (HL.out _ (own_set3 hO (r := w.heap.size + 1 + 1) (by omega) (.bool b1) (.string (dec (U1 / U2))) (.string (dec 1))))
  have L4 := hid (HL.out _ (own_set3 (own_set3 hO (r := w.heap.size + 1 + 1) (by omega) (.bool b1) (.string (dec (U1 / U2))) (.string (dec 1))) (r := w.heap.size + 1 + 1 + 1) (by omega) (.bool b2) (.string (dec (U1 % U2))) (.string (dec 1))))
  clear hO
  refine wpAnyH_ready (rs := [6]) (by kernel_rfl) (by simp) ?_
  refine AllReadyH.cons (o := ({ dst := none, op := _, type := _, pos := _, after := _, guard := _ } : Oper)) rfl (fun K hK => ?_) AllReadyH.nil
  go_simp
  refine hK.out _ _ L3.out (fun _ => ?_)
  clear hK K
  try simp only [Act.put, List.setIfInBounds_toArray, List.set_cons_zero, List.set_cons_succ]
  refine wpAnyH_ready (rs := [7]) (by kernel_rfl) (by simp) ?_
  refine AllReadyH.cons (o := ({ dst := none, op := _, type := _, pos := _, after := _, guard := _ } : Oper)) rfl (fun K hK => ?_) AllReadyH.nil
  go_simp
  refine hK.out _ _ L4.out (fun _ => ?_)
  clear hK K
  try simp only [Act.put, List.setIfInBounds_toArray, List.set_cons_zero, List.set_cons_succ]
  refine wpAnyH_take (i := 8) (oi := ({ dst := some 6, op := _, type := _, pos := _, after := _, guard := _ } : Oper)) (v := (.int .i64 0)) rfl (by kernel_rfl) (by kernel_rfl) (by kernel_rfl) (fun _ _ _ h => h) (Or.inl ⟨by rfl, ?_⟩) L4.out ?_
  · intro w hSw; (try dsimp only at hSw); go_simp
  try simp only [Act.put, List.setIfInBounds_toArray, List.set_cons_zero, List.set_cons_succ]
  refine wpAnyH_done (by kernel_rfl) ?_ _
  go_wp2_with fail
  refine bodyPost_ret (v := .tuple #[.agg #[.bool b1, .string (dec (U1 / U2)), .string (dec 1)], .agg #[.bool b2, .string (dec (U1 % U2)), .string (dec 1)], .int .i64 0]) (by simp [results, Tryd.results11, go_sem, r0, r1, r2, s0, s1, s2]) rfl ⟨rfl, ?_⟩
  exact below_set3 (below_set3 hx.2.2.2 (by omega) _ _ _) (by omega) _ _ _

set_option maxRecDepth 20000 in
set_option maxHeartbeats 4000000 in
theorem implNumGcd_ok (n1 n2 p1 p2 : Bool) (T1 R1 T2 R2 : ByteArray) (U1 U2 : Nat) (w : World) (hn1 : nG U1 ≤ 1000) (hn2 : nG U2 ≤ 1000) (hP : Pow9 w)
    (hI : ∀ w, Pow9 w → Calls Tryd.prog 60 #[.agg #[.bool n1, .string T1, .string R1], .agg #[.bool n2, .string T2, .string R2]] w (IntPost p1 p2 U1 U2 w)) :
    Calls Tryd.prog 30 #[.agg #[.bool n1, .string T1, .string R1], .agg #[.bool n2, .string T2, .string R2]] w fun e w' => e = .returned (.tuple #[wholeV false (Nat.gcd U1 U2), .int .i64 0]) ∧ Below w.heap.size w w' := by
  have HI := hid hI
  have HPw := hid hP
  have hg : nG (Nat.gcd U1 U2) ≤ 1000 := by
    rcases Nat.eq_zero_or_pos U1 with h | h
    · rw [h, Nat.gcd_zero_left]; exact hn2
    · exact Nat.le_trans (nG_mono (Nat.le_of_dvd h (Nat.gcd_dvd_left _ _))) hn1
  have HPq := hid (fun v w h hP => intPlain_any false (Nat.gcd U1 U2) v w h hg hP)
  have HCm := hid (fun va vb w ha hb => commonOf_any U1 U2 va vb w ha hb hn1 hn2)
  have HX : Hid (∀ W, Below (w.heap.size + 3) (((w.alloc (boxN n1 T1 R1)).alloc (boxN n2 T2 R2)).alloc box0) W → Own W w.heap.size 25 #[.bool n1, .string T1, .string R1] ∧ Own W (w.heap.size + 1) 25 #[.bool n2, .string T2, .string R2] ∧ Own W (w.heap.size + 1 + 1) 25 #[.bool false, .string ⟨#[]⟩, .string ⟨#[]⟩] ∧ Below w.heap.size w W) := fun W h => boxes3 w _ _ _ _ _ _ h
  have HB0 : Hid (Below (w.heap.size + 3) (((w.alloc (boxN n1 T1 R1)).alloc (boxN n2 T2 R2)).alloc box0) (((w.alloc (boxN n1 T1 R1)).alloc (boxN n2 T2 R2)).alloc box0)) := Below.refl _ _
  have HSz : Hid (w.heap.size + 3 ≤ (((w.alloc (boxN n1 T1 R1)).alloc (boxN n2 T2 R2)).alloc box0).heap.size) := by show _ ≤ _; simp
  have HP0 := hid (HPw.out.below (HX.out _ HB0.out).2.2.2 (Nat.le_refl _))
  clear hI hP hn1 hn2 hg
  unfold wholeV
  generalize (false && !decide (Nat.gcd U1 U2 = 0)) = b1 at *
  go_enter Tryd.func30, Tryd.ntmps30
  go_wp2_with fail
  refine (HI.out _ HP0.out).mono ?_
  rintro e w1 ⟨a1, c1, a2, c2, rfl, hu1, hu2, hw1⟩
  have HB1 := hid (HB0.out.trans (hw1.mono (by first | exact HSz.out | simp)))
  have HSz1 := hid (Nat.le_trans HSz.out HB1.out.size)
  have HU1 := hid hu1
  have HU2 := hid hu2
  obtain ⟨W2, HW2⟩ : ∃ W, Hid ((w1.alloc (boxI p1 (.slice a1 (grp U1).length c1))).alloc (boxI p2 (.slice a2 (grp U2).length c2)) = W) := ⟨_, rfl⟩
  have HY : Hid (∀ W, Below (w1.heap.size + 2) W2 W → Own W w1.heap.size 50 #[.bool p1, .slice a1 (grp U1).length c1] ∧ Own W (w1.heap.size + 1) 50 #[.bool p2, .slice a2 (grp U2).length c2] ∧ Below w1.heap.size w1 W) := fun W h => by
    rw [← HW2.out] at h
    exact boxes2 w1 _ _ _ _ h
  have HC0 : Hid (Below (w1.heap.size + 2) W2 W2) := Below.refl _ _
  have HS2 : Hid (w1.heap.size + 2 ≤ W2.heap.size) := by show _ ≤ _; rw [← HW2.out]; simp
  have HB : Hid (∀ W, Below (w1.heap.size + 2) W2 W → Below (w.heap.size + 3) (((w.alloc (boxN n1 T1 R1)).alloc (boxN n2 T2 R2)).alloc box0) W) := fun W h => HB1.out.trans ((HY.out W h).2.2.mono HSz1.out)
  have HPa : Hid (∀ W, Below (w1.heap.size + 2) W2 W → Pow9 W) := fun W h => HPw.out.below (HX.out _ (HB.out W h)).2.2.2 (Nat.le_refl _)
  obtain ⟨⟨x0, x1⟩, -⟩ := own2V (HY.out _ HC0.out).1
  obtain ⟨⟨y0, y1⟩, -⟩ := own2V (HY.out _ HC0.out).2.1
  clear hu1 hu2 hw1
  go_wp2_with fail
  rw [HW2.out]
  go_wp2_with fail
  refine (HCm.out _ _ _ (HU1.out.below (HY.out _ HC0.out).2.2 (Nat.le_refl _)) (HU2.out.below (HY.out _ HC0.out).2.2 (Nat.le_refl _))).mono ?_
  rintro e w5 ⟨v, rfl, hv, hw5⟩
  obtain ⟨va, vc, rfl⟩ := natA_formR hv
  have HC := hid (HC0.out.trans (hw5.mono HS2.out))
  have HV := hid hv
  clear hw5 hv x0 x1 y0 y1
  go_wp2_with fail
  refine (HPq.out _ _ HV.out (HPa.out _ HC.out)).mono ?_
  rintro e w6 ⟨rfl, hw6⟩
  have HC := hid (HC.out.trans (hw6.mono (Nat.le_trans HS2.out HC.out.size)))
  have hx := HX.out _ (HB.out _ HC.out)
  obtain ⟨⟨r0, r1, r2⟩, q0, q1, q2⟩ := own3V hx.2.2.1
  clear hw6
  go_wp2_with fail
  refine bodyPost_ret (v := .tuple #[.agg #[.bool b1, .string (dec (Nat.gcd U1 U2)), .string (dec 1)], .int .i64 0]) (by simp [results, Tryd.results30, go_sem, r0, r1, r2]) rfl ⟨rfl, ?_⟩
  exact below_set3 hx.2.2.2 (by omega) _ _ _
end Go.Proofs.YtbbffhpppacihaaDoor

namespace Go.Proofs.YtbbffhpppacihaaDoor
open Go.RowKit Go.Siskin

set_option maxRecDepth 20000 in
set_option maxHeartbeats 4000000 in
theorem specNumQuo_yes (n1 n2 : Bool) (u1 d1 u2 d2 : Nat) (w : World) (h1 : (dec u1).size ≤ 60) (h3 : (dec u2).size ≤ 60) (hu : u2 ≠ 0)
    (hW : ∀ w, Calls Tryd.prog 32 #[.agg #[.bool n1, .string (dec u1), .string (dec d1)], .agg #[.bool n2, .string (dec u2), .string (dec d2)]] w fun e w' => e = .returned (.int .i64 0) ∧ Below w.heap.size w w') :
    Calls Tryd.prog 9 #[.agg #[.bool n1, .string (dec u1), .string (dec d1)], .agg #[.bool n2, .string (dec u2), .string (dec d2)]] w fun e w' => e = .returned (.tuple #[wholeV (n1 != n2) (u1 / u2), wholeV n1 (u1 % u2), .int .i64 0]) ∧ Below w.heap.size w w' := by
  have HW := hid hW
  rw [dec_size] at h1 h3
  have HD := hid (fun w => l11Div_any u1 u2 w (by omega) (by omega) (Nat.pos_of_ne_zero hu))
  have HQ := hid (fun w => l14Sign_any (n1 != n2) (u1 / u2) w)
  have HL := hid (fun w => l14Sign_any n1 (u1 % u2) w)
  unfold wholeV
  obtain ⟨s, hs⟩ : ∃ s, (n1 != n2) = s := ⟨_, rfl⟩
  have hs2 : (!n1 == n2) = s := hs
  rw [hs] at HQ ⊢
  clear hs hW h1 h3 hu
  generalize (s && !decide (u1 / u2 = 0)) = b1 at *
  generalize (n1 && !decide (u1 % u2 = 0)) = b2 at *
  generalize dec (u1 / u2) = Q at *
  generalize dec (u1 % u2) = L at *
  generalize dec u1 = T1 at *
  generalize dec d1 = R1 at *
  generalize dec u2 = T2 at *
  generalize dec d2 = R2 at *
  generalize dec 1 = O at *
  have HB0 : Hid (Below (w.heap.size + 4) ((((w.alloc (boxN n1 T1 R1)).alloc (boxN n2 T2 R2)).alloc box0).alloc box0) ((((w.alloc (boxN n1 T1 R1)).alloc (boxN n2 T2 R2)).alloc box0).alloc box0)) := Below.refl _ _
  have HX : Hid (∀ W, Below (w.heap.size + 4) ((((w.alloc (boxN n1 T1 R1)).alloc (boxN n2 T2 R2)).alloc box0).alloc box0) W → (Own W w.heap.size 25 #[.bool n1, .string T1, .string R1] ∧ Own W (w.heap.size + 1) 25 #[.bool n2, .string T2, .string R2]) ∧ Own W (w.heap.size + 1 + 1) 25 #[.bool false, .string ⟨#[]⟩, .string ⟨#[]⟩] ∧ Own W (w.heap.size + 1 + 1 + 1) 25 #[.bool false, .string ⟨#[]⟩, .string ⟨#[]⟩] ∧ Below w.heap.size w W) := fun W h => boxes4 w _ _ _ _ _ _ _ _ h
  have HSz : Hid (w.heap.size + 4 ≤ ((((w.alloc (boxN n1 T1 R1)).alloc (boxN n2 T2 R2)).alloc box0).alloc box0).heap.size) := by show _ ≤ _; simp
  have HSt : Hid (∀ W, Below (w.heap.size + 4) ((((w.alloc (boxN n1 T1 R1)).alloc (boxN n2 T2 R2)).alloc box0).alloc box0) W → ∀ (r : Nat), w.heap.size + 2 ≤ r → ∀ x y z : Value, ((((W.setCell ⟨r, 0, none⟩ x).setCell ⟨r, 1, none⟩ y).setCell ⟨r, 2, none⟩ z).cell? ⟨w.heap.size, 0, none⟩ = some (.bool n1)) ∧ (((W.setCell ⟨r, 0, none⟩ x).setCell ⟨r, 1, none⟩ y).setCell ⟨r, 2, none⟩ z).cell? ⟨w.heap.size + 1, 0, none⟩ = some (.bool n2)) := fun W h r hr x y z => by
    have h0 := HX.out W h
    exact ⟨(own3V (own_set3 h0.1.1 (by omega) x y z)).1.1, (own3V (own_set3 h0.1.2 (by omega) x y z)).1.1⟩
  have HSt2 : Hid (∀ W, Below (w.heap.size + 4) ((((w.alloc (boxN n1 T1 R1)).alloc (boxN n2 T2 R2)).alloc box0).alloc box0) W → ∀ (r r' : Nat), w.heap.size + 2 ≤ r → w.heap.size + 2 ≤ r' → ∀ x y z x' y' z' : Value, (((((((W.setCell ⟨r, 0, none⟩ x).setCell ⟨r, 1, none⟩ y).setCell ⟨r, 2, none⟩ z).setCell ⟨r', 0, none⟩ x').setCell ⟨r', 1, none⟩ y').setCell ⟨r', 2, none⟩ z').cell? ⟨w.heap.size, 0, none⟩ = some (.bool n1)) ∧ ((((((W.setCell ⟨r, 0, none⟩ x).setCell ⟨r, 1, none⟩ y).setCell ⟨r, 2, none⟩ z).setCell ⟨r', 0, none⟩ x').setCell ⟨r', 1, none⟩ y').setCell ⟨r', 2, none⟩ z').cell? ⟨w.heap.size + 1, 0, none⟩ = some (.bool n2)) := fun W h r r' hr hr' x y z x' y' z' => by
    have h0 := HX.out W h
    exact ⟨(own3V (own_set3 (own_set3 h0.1.1 (by omega) x y z) (by omega) x' y' z')).1.1, (own3V (own_set3 (own_set3 h0.1.2 (by omega) x y z) (by omega) x' y' z')).1.1⟩
  go_enter Tryd.func9, Tryd.ntmps9
  go_wp2_with fail
  refine (HW.out _).mono ?_
  rintro e wa ⟨rfl, hwa⟩
  have HBa := hid (HB0.out.trans (hwa.mono (by first | exact HSz.out | simp)))
  clear hwa
  obtain ⟨⟨x0, x1, x2⟩, -⟩ := own3V (HX.out _ HBa.out).1.1
  obtain ⟨⟨y0, y1, y2⟩, -⟩ := own3V (HX.out _ HBa.out).1.2
  go_wp2_with fail
  refine (HD.out _).mono ?_
  rintro e wb ⟨rfl, hwb⟩
  have HBb := hid (HBa.out.trans (hwb.mono (Nat.le_trans HSz.out HBa.out.size)))
  clear hwb x0 x1 x2 y0 y1 y2
  go_wp2_with fail
  have HB := hid HBb.out.drew
  obtain ⟨⟨r0, r1, r2⟩, q0, q1, q2⟩ := own3V (HX.out _ HB.out).2.1
  obtain ⟨⟨s0, s1, s2⟩, p0, p1, p2⟩ := own3V (HX.out _ HB.out).2.2.1
  obtain ⟨⟨x0, -, -⟩, -⟩ := own3V (HX.out _ HB.out).1.1
  obtain ⟨⟨y0, -, -⟩, -⟩ := own3V (HX.out _ HB.out).1.2
  go_region_with
    (first
      | (go_at_call_of 34 (Value.string Q)
         go_loud (
           refine (HQ.out _).mono ?_
           rintro e w5 ⟨rfl, hw5⟩
           have HB := hid (HB.out.trans (hw5.mono (Nat.le_trans HSz.out HB.out.size)))
           clear hw5 r0 r1 r2 q0 q1 q2 s0 s1 s2 p0 p1 p2 x0 y0
           obtain ⟨⟨r0, r1, r2⟩, q0, q1, q2⟩ := own3V (HX.out _ HB.out).2.1
           obtain ⟨⟨s0, s1, s2⟩, p0, p1, p2⟩ := own3V (HX.out _ HB.out).2.2.1
           obtain ⟨⟨x0, -, -⟩, -⟩ := own3V (HX.out _ HB.out).1.1
           obtain ⟨⟨y0, -, -⟩, -⟩ := own3V (HX.out _ HB.out).1.2))
      | (go_at_call_of 34 (Value.string L)
         go_loud (
           refine (HL.out _).mono ?_
           rintro e w5 ⟨rfl, hw5⟩
           have HB := hid (HB.out.trans (hw5.mono (Nat.le_trans HSz.out HB.out.size)))
           clear hw5 r0 r1 r2 q0 q1 q2 s0 s1 s2 p0 p1 p2 x0 y0
           obtain ⟨⟨r0, r1, r2⟩, q0, q1, q2⟩ := own3V (HX.out _ HB.out).2.1
           obtain ⟨⟨s0, s1, s2⟩, p0, p1, p2⟩ := own3V (HX.out _ HB.out).2.2.1
           obtain ⟨⟨x0, -, -⟩, -⟩ := own3V (HX.out _ HB.out).1.1
           obtain ⟨⟨y0, -, -⟩, -⟩ := own3V (HX.out _ HB.out).1.2)))
  all_goals
    go_wp2_with fail
    refine bodyPost_ret (v := .tuple #[.agg #[.bool b1, .string Q, .string O], .agg #[.bool b2, .string L, .string O], .int .i64 0]) (by simp [results, Tryd.results9, go_sem, r0, r1, r2, s0, s1, s2]) rfl ⟨rfl, ?_⟩
    exact below_set3 (below_set3 (HX.out _ HB.out).2.2.2 (by omega) _ _ _) (by omega) _ _ _
end Go.Proofs.YtbbffhpppacihaaDoor

namespace Go.Proofs.YtbbffhpppacihaaDoor
open Go.RowKit Go.Siskin

/-- Both variables stand. -/
def PowE (w : World) : Prop := Pow9 w ∧ ErrT w
theorem PowE.below {w w' : World} {n : Nat} (h : PowE w) (hb : Below n w w') (hn : w.heap.size ≤ n) : PowE w' := ⟨h.1.below hb hn, h.2.below hb hn⟩

/-- What integersOf tells of any two numbers. -/
theorem integersOf_all (n1 n2 : Bool) (T1 R1 T2 R2 : ByteArray) (h1 : T1.size ≤ maxLen) (h2 : R1.size ≤ maxLen) (h3 : T2.size ≤ maxLen) (h4 : R2.size ≤ maxLen) :
    (¬ (NumP n1 T1 R1 ∧ NumP n2 T2 R2) ∧ ∀ w, Pow9 w → Calls Tryd.prog 60 #[.agg #[.bool n1, .string T1, .string R1], .agg #[.bool n2, .string T2, .string R2]] w fun e w' => e = .returned (.tuple #[int0, int0, whyV 1]) ∧ Below w.heap.size w w') ∨
    (∃ U1 D1 U2 D2, T1 = dec U1 ∧ R1 = dec D1 ∧ T2 = dec U2 ∧ R2 = dec D2 ∧ T1.size ≤ 60 ∧ R1.size ≤ 60 ∧ T2.size ≤ 60 ∧ R2.size ≤ 60 ∧ OkUD n1 U1 D1 ∧ OkUD n2 U2 D2 ∧ nG U1 ≤ 60 ∧ nG U2 ≤ 60 ∧
      ((¬ (D1 = 1 ∧ D2 = 1) ∧ ∀ w, Pow9 w → Calls Tryd.prog 60 #[.agg #[.bool n1, .string T1, .string R1], .agg #[.bool n2, .string T2, .string R2]] w fun e w' => e = .returned (.tuple #[int0, int0, whyV 4]) ∧ Below w.heap.size w w') ∨
       ((D1 = 1 ∧ D2 = 1) ∧ ∀ w, Pow9 w → Calls Tryd.prog 60 #[.agg #[.bool n1, .string T1, .string R1], .agg #[.bool n2, .string T2, .string R2]] w (IntPost n1 n2 U1 U2 w)))) := by
  obtain ⟨b1, p1, U1, D1, o1, c1⟩ := openNum_all n1 T1 R1 h1 h2
  obtain ⟨b2, p2, U2, D2, o2, c2⟩ := openNum_all n2 T2 R2 h3 h4
  have g1 := o1.small
  have g2 := o2.small
  have hR := fun w hP => ratiosOf_any n1 n2 T1 R1 T2 R2 b1 b2 p1 p2 U1 D1 U2 D2 w c1 c2 hP
  rcases both_parts o1 o2 with ⟨rfl, rfl, rfl, rfl, e1, e2, e3, e4, s1, s2, s3, s4, k1, k2⟩ | ⟨hb, hno⟩
  · refine Or.inr ⟨U1, D1, U2, D2, e1, e2, e3, e4, s1, s2, s3, s4, k1, k2, g1.1, g2.1, ?_⟩
    by_cases hd : D1 = 1 ∧ D2 = 1
    · exact Or.inr ⟨hd, fun w hP => integersOf_ok n1 n2 T1 R1 T2 R2 n1 n2 U1 D1 U2 D2 w hP hd hR⟩
    · exact Or.inl ⟨hd, fun w hP => integersOf_part n1 n2 T1 R1 T2 R2 n1 n2 U1 D1 U2 D2 w hP hd hR⟩
  · rw [hb] at hR
    exact Or.inl ⟨hno, fun w hP => integersOf_no n1 n2 T1 R1 T2 R2 p1 p2 U1 D1 U2 D2 w hP hR⟩

abbrev numV (n : Bool) (x y : ByteArray) : Value := .agg #[.bool n, .string x, .string y]
theorem whole_four {D1 D2 U2 : Nat} (h : ¬ (D1 = 1 ∧ D2 = 1)) : wholeC D1 D2 U2 = 4 := by
  unfold wholeC
  rw [if_pos]
  by_cases h1 : D1 = 1
  · exact Or.inr fun h2 => h ⟨h1, h2⟩
  · exact Or.inl h1
theorem whole_two {D1 D2 U2 : Nat} (h : D1 = 1 ∧ D2 = 1) (hu : U2 = 0) : wholeC D1 D2 U2 = 2 := by
  unfold wholeC
  rw [if_neg (by rintro (h1 | h1); exact h1 h.1; exact h1 h.2), if_pos hu]
theorem whole_none {D1 D2 U2 : Nat} (h : D1 = 1 ∧ D2 = 1) (hu : U2 ≠ 0) : wholeC D1 D2 U2 = 0 := by
  unfold wholeC
  rw [if_neg (by rintro (h1 | h1); exact h1 h.1; exact h1 h.2), if_neg hu]

theorem numGcd_both (n1 n2 : Bool) (T1 R1 T2 R2 : ByteArray) (h1 : T1.size ≤ maxLen) (h2 : R1.size ≤ maxLen) (h3 : T2.size ≤ maxLen) (h4 : R2.size ≤ maxLen) : ∃ (n : Bool) (x y : ByteArray) (c : Int),
    (∀ w, Calls Tryd.prog 31 #[.agg #[.bool n1, .string T1, .string R1], .agg #[.bool n2, .string T2, .string R2]] w fun e w' => e = .returned (.tuple #[.agg #[.bool n, .string x, .string y], .int .i64 c]) ∧ Below w.heap.size w w') ∧
    (∀ w, PowE w → Calls Tryd.prog 30 #[.agg #[.bool n1, .string T1, .string R1], .agg #[.bool n2, .string T2, .string R2]] w fun e w' => e = .returned (.tuple #[.agg #[.bool n, .string x, .string y], .int .i64 c]) ∧ Below w.heap.size w w') := by
  rcases integersOf_all n1 n2 T1 R1 T2 R2 h1 h2 h3 h4 with ⟨hno, hI⟩ | ⟨U1, D1, U2, D2, rfl, rfl, rfl, rfl, s1, s2, s3, s4, k1, k2, g1, g2, ⟨hd, hI⟩ | ⟨hd, hI⟩⟩
  · exact ⟨false, ⟨#[]⟩, ⟨#[]⟩, 1, fun w => specNumGcd_code n1 n2 _ _ _ _ w 1 (Or.inl rfl) (fun w => l14Whole_no n1 n2 _ _ _ _ w h1 h2 h3 h4 hno),
      fun w hP => implNumGcd_err n1 n2 _ _ _ _ 1 w hP.1 hP.2 hI⟩
  · exact ⟨false, ⟨#[]⟩, ⟨#[]⟩, 4, fun w => specNumGcd_code n1 n2 _ _ _ _ w 4 (Or.inr rfl) (fun w => l14Whole_yes n1 n2 _ _ _ _ w s1 s2 s3 s4 k1 k2 4 (whole_four hd)),
      fun w hP => implNumGcd_err n1 n2 _ _ _ _ 4 w hP.1 hP.2 hI⟩
  · obtain ⟨c, hc, hcw⟩ : ∃ c : Int, (c = 0 ∨ c = 2) ∧ wholeC D1 D2 U2 = c := by
      by_cases hu : U2 = 0
      · exact ⟨2, Or.inr rfl, whole_two hd hu⟩
      · exact ⟨0, Or.inl rfl, whole_none hd hu⟩
    exact ⟨_, _, _, 0, fun w => specNumGcd_yes n1 n2 U1 D1 U2 D2 w s1 s3 c hc (fun w => l14Whole_yes n1 n2 _ _ _ _ w s1 s2 s3 s4 k1 k2 c hcw),
      fun w hP => implNumGcd_ok n1 n2 n1 n2 _ _ _ _ U1 U2 w (by omega) (by omega) hP.1 hI⟩

theorem numQuo_both (n1 n2 : Bool) (T1 R1 T2 R2 : ByteArray) (h1 : T1.size ≤ maxLen) (h2 : R1.size ≤ maxLen) (h3 : T2.size ≤ maxLen) (h4 : R2.size ≤ maxLen) : ∃ (n : Bool) (x y : ByteArray) (m : Bool) (z t : ByteArray) (c : Int),
    (∀ w, Calls Tryd.prog 9 #[.agg #[.bool n1, .string T1, .string R1], .agg #[.bool n2, .string T2, .string R2]] w fun e w' => e = .returned (.tuple #[.agg #[.bool n, .string x, .string y], .agg #[.bool m, .string z, .string t], .int .i64 c]) ∧ Below w.heap.size w w') ∧
    (∀ w, PowE w → Calls Tryd.prog 11 #[.agg #[.bool n1, .string T1, .string R1], .agg #[.bool n2, .string T2, .string R2]] w fun e w' => e = .returned (.tuple #[.agg #[.bool n, .string x, .string y], .agg #[.bool m, .string z, .string t], .int .i64 c]) ∧ Below w.heap.size w w') := by
  rcases integersOf_all n1 n2 T1 R1 T2 R2 h1 h2 h3 h4 with ⟨hno, hI⟩ | ⟨U1, D1, U2, D2, rfl, rfl, rfl, rfl, s1, s2, s3, s4, k1, k2, g1, g2, ⟨hd, hI⟩ | ⟨hd, hI⟩⟩
  · exact ⟨false, ⟨#[]⟩, ⟨#[]⟩, false, ⟨#[]⟩, ⟨#[]⟩, 1, fun w => specNumQuo_code n1 n2 _ _ _ _ w 1 (by decide) (fun w => l14Whole_no n1 n2 _ _ _ _ w h1 h2 h3 h4 hno),
      fun w hP => implNumQuo_err n1 n2 _ _ _ _ 1 w hP.1 hP.2 (fun w hP => dividedOf_err n1 n2 _ _ _ _ 1 w hP hI)⟩
  · exact ⟨false, ⟨#[]⟩, ⟨#[]⟩, false, ⟨#[]⟩, ⟨#[]⟩, 4, fun w => specNumQuo_code n1 n2 _ _ _ _ w 4 (by decide) (fun w => l14Whole_yes n1 n2 _ _ _ _ w s1 s2 s3 s4 k1 k2 4 (whole_four hd)),
      fun w hP => implNumQuo_err n1 n2 _ _ _ _ 4 w hP.1 hP.2 (fun w hP => dividedOf_err n1 n2 _ _ _ _ 4 w hP hI)⟩
  · by_cases hu : U2 = 0
    · subst hu
      exact ⟨false, ⟨#[]⟩, ⟨#[]⟩, false, ⟨#[]⟩, ⟨#[]⟩, 2, fun w => specNumQuo_code n1 n2 _ _ _ _ w 2 (by decide) (fun w => l14Whole_yes n1 n2 _ _ _ _ w s1 s2 s3 s4 k1 k2 2 (whole_two hd rfl)),
        fun w hP => implNumQuo_err n1 n2 _ _ _ _ 2 w hP.1 hP.2 (fun w hP => dividedOf_nought n1 n2 n1 n2 _ _ _ _ U1 w hP hI)⟩
    · exact ⟨_, _, _, _, _, _, 0, fun w => specNumQuo_yes n1 n2 U1 D1 U2 D2 w s1 s3 hu (fun w => l14Whole_yes n1 n2 _ _ _ _ w s1 s2 s3 s4 k1 k2 0 (whole_none hd hu)),
        fun w hP => implNumQuo_ok n1 n2 n1 n2 _ _ _ _ _ U1 U2 w rfl (by omega) (by omega) hu hP.1 (fun w hP => dividedOf_ok n1 n2 n1 n2 _ _ _ _ _ U1 U2 w rfl hu (by omega) hP hI)⟩
end Go.Proofs.YtbbffhpppacihaaDoor
