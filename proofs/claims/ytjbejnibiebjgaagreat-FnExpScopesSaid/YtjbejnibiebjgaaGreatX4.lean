/-
  The law FnExpScopes returns true, and nothing that was there has turned. Condition: the code's bytes lie in memory as BytesAt says.
-/
import Derived.Test.YtjbejnibiebjgaaGreatPart14
import Derived.Test.YtjbejnibiebjgaaGreatPart17
import Derived.Test.YtjbejnibiebjgaaGreatH7
import Derived.Test.YtjbejnibiebjgaaGreatPart24
import Derived.Test.YtjbejnibiebjgaaGreatPart13
namespace Go.Proofs.YtjbejnibiebjgaaGreat
open Go.RowKit Go.Siskin

theorem xown5 {w : World} {g : Nat} {e : TypeId} {c0 c1 c2 c3 c4 : Value} (h : Own w g e #[c0, c1, c2, c3, c4]) :
    w.cell? ⟨g, 0, none⟩ = some c0 ∧ w.cell? ⟨g, 1, none⟩ = some c1 ∧ w.cell? ⟨g, 2, none⟩ = some c2 ∧ w.cell? ⟨g, 3, none⟩ = some c3 ∧ w.cell? ⟨g, 4, none⟩ = some c4 :=
  ⟨(h.cell 0).trans (by simp), (h.cell 1).trans (by simp), (h.cell 2).trans (by simp), (h.cell 3).trans (by simp), (h.cell 4).trans (by simp)⟩
theorem no_sort {g : List Int → List Int} {n : Int} {f A : Fm} (hA : A = resF g n f) (h : ¬ (formOk f = true ∧ 0 ≤ n)) : (A.sort == 0) = true := by
  rw [hA]; unfold resF; rw [if_neg h]; rfl
theorem resF_cost {g : List Int → List Int} (hg : ∀ xs, (g xs).length ≤ xs.length + 1) (n : Int) (f : Fm) (h : f.cost ≤ 1000) : (resF g n f).cost ≤ 3000 := by
  unfold resF
  split
  · have h1 := chF_cost hg f.sz f (Nat.le_refl _)
    have h2 := Fm.sz_le f
    omega
  · rw [Fm.cost_eq]; decide

set_option maxRecDepth 20000 in
set_option maxHeartbeats 4000000 in
theorem lawScopes_any (R : Nat → Prop) (w : World) (n : Nat) (v : Value) (hv : BytesAt R w v n) (hR : ∀ b, R b → b < w.heap.size) :
    Calls Tryz.prog 3 #[v] w fun e w' => e = .returned (.bool true) ∧ Below w.heap.size w w' := by
  have HV := hid hv
  have HR := hid hR
  obtain ⟨av, cv, rfl, ⟨hl1, hl2⟩, -⟩ := hv
  clear hR
  unfold maxLen at hl2
  by_cases hbig : 1048576 < n
  · go_enter Tryz.func3, Tryz.ntmps3
    go_wp2_with fail
    go_ret
    exact ⟨rfl, Below.refl _ _⟩
  have HQ0 := hid (drawWith_any R w n _ HV.out (by omega) HR.out)
  go_enter Tryz.func3, Tryz.ntmps3
  go_wp2_with fail
  refine HQ0.out.mono ?_
  rintro e w1 ⟨c0, c1, c2, c3, c4, f, k, rfl, hk, hf, hcost, hw1⟩
  have HW1 := hid hw1
  have s1 := hw1.size
  obtain ⟨rfl, rfl, ht, h2, rfl, h4⟩ := (formAt_iff _ _ _ _ _ _ _ _).1 hf
  have HF := hid hf
  obtain ⟨x2, y2, rfl, -⟩ := h2
  obtain ⟨x4, y4, rfl, -⟩ := h4
  generalize (k : Int) - 1 = s at *
  have HFl := hid (fun b (hb : Fresh w w1 b) => hb.2)
  obtain ⟨W1, hW1⟩ : ∃ W1, W1 = w1.alloc (.cells #[.int .i64 f.sort, .string f.text, .slice x2 f.scopes.length y2, .int .i64 f.frm, .slice x4 f.kids.length y4] 26) := ⟨_, rfl⟩
  have sW1 : W1.heap.size = w1.heap.size + 1 := by rw [hW1]; simp
  have BW1 : Hid (Below w1.heap.size w1 W1) := by
    show Below _ _ _
    rw [hW1]; exact (Below.refl _ _).alloc (Nat.le_refl _) _
  have OF1 : Hid (Own W1 w1.heap.size 26 #[.int .i64 f.sort, .string f.text, .slice x2 f.scopes.length y2, .int .i64 f.frm, .slice x4 f.kids.length y4]) := by
    show Own _ _ _ _
    rw [hW1]; exact own_new _ _ _
  have hW1' := hW1.symm
  obtain ⟨q0, q1, q2, q3, q4⟩ := xown5 OF1.out
  obtain ⟨A, hA⟩ : ∃ A, A = resF (putB s) s f := ⟨_, rfl⟩
  obtain ⟨B, hB⟩ : ∃ B, B = resF (flipB s) s f := ⟨_, rfl⟩
  have HA := hid hA
  have HBe := hid hB
  have hcA : A.cost ≤ 3000 := by rw [hA]; exact resF_cost (put_length s) s f hcost
  have hcB : B.cost ≤ 3000 := by rw [hB]; exact resF_cost (flip_length s) s f hcost
  have HQ1 := hid (implWith_any s f (Fresh w w1) W1 _ _ _ _ _ (FormAt.keep (BW1.out.on HFl.out) _ HF.out) (fun b hb => by have := hb.2; omega) (by omega))
  rw [← hA] at HQ1
  simp only [handed] at HQ1
  clear hf hw1 hW1 HQ0 hA hB
  go_wp2_with fail
  refine HQ1.out.mono ?_
  rintro e w2 ⟨d2, d4, rfl, ht2, hw2⟩
  have HT2 := hid ht2
  obtain ⟨⟨p2, r2, rfl⟩, p4, r4, rfl⟩ := tree_shape ht2
  have s2 := hw2.size
  have HW2 := hid (BW1.out.trans (hw2.mono (by omega)))
  have OF2 := hid (OF1.out.keep hw2 (by omega))
  obtain ⟨W2, hW2⟩ : ∃ W2, W2 = w2.alloc (.cells #[.int .i64 A.sort, .string A.text, .slice p2 A.scopes.length r2, .int .i64 A.frm, .slice p4 A.kids.length r4] 26) := ⟨_, rfl⟩
  have sW2 : W2.heap.size = w2.heap.size + 1 := by rw [hW2]; simp
  have BW2 : Hid (Below w2.heap.size w2 W2) := by
    show Below _ _ _
    rw [hW2]; exact (Below.refl _ _).alloc (Nat.le_refl _) _
  have OA2 : Hid (Own W2 w2.heap.size 26 #[.int .i64 A.sort, .string A.text, .slice p2 A.scopes.length r2, .int .i64 A.frm, .slice p4 A.kids.length r4]) := by
    show Own _ _ _ _
    rw [hW2]; exact own_new _ _ _
  have OF2' := hid (OF2.out.keep BW2.out (by omega))
  have hW2' := hW2.symm
  obtain ⟨g0, g1, g2, g3, g4⟩ := xown5 OF2'.out
  have HQ2 := hid (implFlip_any s f (Fresh w w1) W2 _ _ _ _ _ (FormAt.keep ((HW2.out.trans (BW2.out.mono (by omega))).on HFl.out) _ HF.out) (fun b hb => by have := hb.2; omega) (by omega))
  rw [← HBe.out] at HQ2
  simp only [handed] at HQ2
  clear ht2 hw2 hW2 HQ1 q0 q1 q2 q3 q4 hW1'
  go_wp2_with fail
  refine HQ2.out.mono ?_
  rintro e w3 ⟨d2, d4, rfl, ht3, hw3⟩
  have HT3 := hid ht3
  obtain ⟨⟨u2, t2, rfl⟩, u4, t4, rfl⟩ := tree_shape ht3
  have s3 := hw3.size
  have HW3 := hid ((HW2.out.trans (BW2.out.mono (by omega))).trans (hw3.mono (by omega)))
  have OF3 := hid (OF2'.out.keep hw3 (by omega))
  have OA3 := hid (OA2.out.keep hw3 (by omega))
  obtain ⟨W3, hW3⟩ : ∃ W3, W3 = w3.alloc (.cells #[.int .i64 B.sort, .string B.text, .slice u2 B.scopes.length t2, .int .i64 B.frm, .slice u4 B.kids.length t4] 26) := ⟨_, rfl⟩
  have sW3 : W3.heap.size = w3.heap.size + 1 := by rw [hW3]; simp
  have BW3 : Hid (Below w3.heap.size w3 W3) := by
    show Below _ _ _
    rw [hW3]; exact (Below.refl _ _).alloc (Nat.le_refl _) _
  have OB3 : Hid (Own W3 w3.heap.size 26 #[.int .i64 B.sort, .string B.text, .slice u2 B.scopes.length t2, .int .i64 B.frm, .slice u4 B.kids.length t4]) := by
    show Own _ _ _ _
    rw [hW3]; exact own_new _ _ _
  have OF3' := hid (OF3.out.keep BW3.out (by omega))
  have OA3' := hid (OA3.out.keep BW3.out (by omega))
  have hW3' := hW3.symm
  have HBW : Hid (Below w1.heap.size w1 W3) := HW3.out.trans (BW3.out.mono (by omega))
  have HDone : Hid (∀ w', Below W3.heap.size W3 w' → Below w.heap.size w w') := fun w' hb => HW1.out.trans ((HBW.out.mono s1).trans (hb.mono (by omega)))
  have HFk : Hid (∀ w', Below W3.heap.size W3 w' → FormAt (Fresh w w1) w' f (.int .i64 f.sort) (.string f.text) (.slice x2 f.scopes.length y2) (.int .i64 f.frm) (.slice x4 f.kids.length y4)) := fun w' hb => FormAt.keep ((HBW.out.trans (hb.mono (by omega))).on HFl.out) _ HF.out
  have HAk : Hid (∀ w', Below W3.heap.size W3 w' → FormAt (Fresh W1 w2) w' A (.int .i64 A.sort) (.string A.text) (.slice p2 A.scopes.length r2) (.int .i64 A.frm) (.slice p4 A.kids.length r4)) := fun w' hb =>
    FormAt.keep ((((BW2.out.trans (hw3.mono (by omega))).trans (BW3.out.mono (by omega))).trans (hb.mono (by omega))).on fun b hb => hb.2) _ (HT2.out.form (by unfold maxLen; omega))
  have HBk : Hid (∀ w', Below W3.heap.size W3 w' → FormAt (Fresh W2 w3) w' B (.int .i64 B.sort) (.string B.text) (.slice u2 B.scopes.length t2) (.int .i64 B.frm) (.slice u4 B.kids.length t4)) := fun w' hb =>
    FormAt.keep ((BW3.out.trans (hb.mono (by omega))).on fun b hb => hb.2) _ (HT3.out.form (by unfold maxLen; omega))
  have HFs : Hid (∀ w', Below W3.heap.size W3 w' → ∀ b, Fresh w w1 b → b < w'.heap.size) := fun w' hb b h => by have h1 := hb.size; have h2 := h.2; omega
  have HAs : Hid (∀ w', Below W3.heap.size W3 w' → ∀ b, Fresh W1 w2 b → b < w'.heap.size) := fun w' hb b h => by have h1 := hb.size; have h2 := h.2; omega
  have HBs : Hid (∀ w', Below W3.heap.size W3 w' → ∀ b, Fresh W2 w3 b → b < w'.heap.size) := fun w' hb b h => by have h1 := hb.size; have h2 := h.2; omega
  have CSW : Hid (∀ w', Below W3.heap.size W3 w' → Calls Tryz.prog 8 #[.agg #[.int .i64 f.sort, .string f.text, .slice x2 f.scopes.length y2, .int .i64 f.frm, .slice x4 f.kids.length y4], .int .i64 s] w' fun e w'' => ∃ d2 d4, e = .returned (handed A d2 d4) ∧ FormAt (Fresh w' w'') w'' A (.int .i64 A.sort) (.string A.text) d2 (.int .i64 A.frm) d4 ∧ Below w'.heap.size w' w'') := fun w' hb => by
    rw [HA.out]; exact specWith_any s f (Fresh w w1) w' _ _ _ _ _ (HFk.out w' hb) (HFs.out w' hb) (by omega)
  have CSF : Hid (∀ w', Below W3.heap.size W3 w' → Calls Tryz.prog 9 #[.agg #[.int .i64 f.sort, .string f.text, .slice x2 f.scopes.length y2, .int .i64 f.frm, .slice x4 f.kids.length y4], .int .i64 s] w' fun e w'' => ∃ d2 d4, e = .returned (handed B d2 d4) ∧ FormAt (Fresh w' w'') w'' B (.int .i64 B.sort) (.string B.text) d2 (.int .i64 B.frm) d4 ∧ Below w'.heap.size w' w'') := fun w' hb => by
    rw [HBe.out]; exact specFlip_any s f (Fresh w w1) w' _ _ _ _ _ (HFk.out w' hb) (HFs.out w' hb) (by omega)
  have CIO : Hid (∀ w', Below W3.heap.size W3 w' → Calls Tryz.prog 10 #[.agg #[.int .i64 f.sort, .string f.text, .slice x2 f.scopes.length y2, .int .i64 f.frm, .slice x4 f.kids.length y4]] w' fun e w'' => e = .returned (.bool (formOk f)) ∧ Below w'.heap.size w' w'') := fun w' hb => implFormOk_any f (Fresh w w1) w' _ _ _ _ _ (HFk.out w' hb) (HFs.out w' hb) (by omega)
  have CSO : Hid (∀ w', Below W3.heap.size W3 w' → Calls Tryz.prog 11 #[.agg #[.int .i64 f.sort, .string f.text, .slice x2 f.scopes.length y2, .int .i64 f.frm, .slice x4 f.kids.length y4]] w' fun e w'' => e = .returned (.bool (formOk f)) ∧ Below w'.heap.size w' w'') := fun w' hb => specFormOk_any f (Fresh w w1) w' _ _ _ _ _ (HFk.out w' hb) (HFs.out w' hb) (by omega)
  simp only [handed] at CSW CSF
  obtain ⟨ok, hok⟩ : ∃ ok, formOk f = ok := ⟨_, rfl⟩
  rw [hok] at CIO CSO
  have HOK := hid hok
  clear hok
  have HKEEP : Hid (∀ w', Below W3.heap.size W3 w' → (w'.cell? ⟨w1.heap.size, 0, none⟩ = some (.int .i64 f.sort) ∧ w'.cell? ⟨w1.heap.size, 1, none⟩ = some (.string f.text) ∧ w'.cell? ⟨w1.heap.size, 2, none⟩ = some (.slice x2 f.scopes.length y2) ∧ w'.cell? ⟨w1.heap.size, 3, none⟩ = some (.int .i64 f.frm) ∧ w'.cell? ⟨w1.heap.size, 4, none⟩ = some (.slice x4 f.kids.length y4)) ∧ (w'.cell? ⟨w2.heap.size, 0, none⟩ = some (.int .i64 A.sort) ∧ w'.cell? ⟨w2.heap.size, 1, none⟩ = some (.string A.text) ∧ w'.cell? ⟨w2.heap.size, 2, none⟩ = some (.slice p2 A.scopes.length r2) ∧ w'.cell? ⟨w2.heap.size, 3, none⟩ = some (.int .i64 A.frm) ∧ w'.cell? ⟨w2.heap.size, 4, none⟩ = some (.slice p4 A.kids.length r4)) ∧ w'.cell? ⟨w3.heap.size, 0, none⟩ = some (.int .i64 B.sort) ∧ w'.cell? ⟨w3.heap.size, 1, none⟩ = some (.string B.text) ∧ w'.cell? ⟨w3.heap.size, 2, none⟩ = some (.slice u2 B.scopes.length t2) ∧ w'.cell? ⟨w3.heap.size, 3, none⟩ = some (.int .i64 B.frm) ∧ w'.cell? ⟨w3.heap.size, 4, none⟩ = some (.slice u4 B.kids.length t4)) := fun w' hb => ⟨xown5 (OF3'.out.keep hb (by omega)), xown5 (OA3'.out.keep hb (by omega)), xown5 (OB3.out.keep hb (by omega))⟩
  have HB := hid ((Below.refl W3.heap.size W3).drew)
  have K0 := hid (HKEEP.out _ HB.out)
  clear ht3 hw3 hW3 HQ2 g0 g1 g2 g3 g4 hW2'
  go_wp2_with fail
  go_region_held3 (fun w' => (w'.cell? ⟨w1.heap.size, 0, none⟩ = some (.int .i64 f.sort) ∧ w'.cell? ⟨w1.heap.size, 1, none⟩ = some (.string f.text) ∧ w'.cell? ⟨w1.heap.size, 2, none⟩ = some (.slice x2 f.scopes.length y2) ∧ w'.cell? ⟨w1.heap.size, 3, none⟩ = some (.int .i64 f.frm) ∧ w'.cell? ⟨w1.heap.size, 4, none⟩ = some (.slice x4 f.kids.length y4)) ∧ (w'.cell? ⟨w2.heap.size, 0, none⟩ = some (.int .i64 A.sort) ∧ w'.cell? ⟨w2.heap.size, 1, none⟩ = some (.string A.text) ∧ w'.cell? ⟨w2.heap.size, 2, none⟩ = some (.slice p2 A.scopes.length r2) ∧ w'.cell? ⟨w2.heap.size, 3, none⟩ = some (.int .i64 A.frm) ∧ w'.cell? ⟨w2.heap.size, 4, none⟩ = some (.slice p4 A.kids.length r4)) ∧ w'.cell? ⟨w3.heap.size, 0, none⟩ = some (.int .i64 B.sort) ∧ w'.cell? ⟨w3.heap.size, 1, none⟩ = some (.string B.text) ∧ w'.cell? ⟨w3.heap.size, 2, none⟩ = some (.slice u2 B.scopes.length t2) ∧ w'.cell? ⟨w3.heap.size, 3, none⟩ = some (.int .i64 B.frm) ∧ w'.cell? ⟨w3.heap.size, 4, none⟩ = some (.slice u4 B.kids.length t4))
    (first | exact HKEEP.out _ HB.out)
    (first
      | (go_at_call 8
         refine (CSW.out _ HB.out).mono ?_
         rintro e w4 ⟨d2, d4, rfl, hf4, hw4⟩
         have HB := hid (HB.out.trans (hw4.mono HB.out.size))
         have HWX := hid (wxForm_any A (Fresh W1 w2) _ w4 _ _ _ _ _ _ _ _ _ _ (HAk.out _ HB.out) hf4 (HAs.out _ HB.out) (fun b hb => hb.2))
         clear hf4 hw4)
      | (go_at_call 9
         refine (CSF.out _ HB.out).mono ?_
         rintro e w4 ⟨d2, d4, rfl, hf4, hw4⟩
         have HB := hid (HB.out.trans (hw4.mono HB.out.size))
         have HWX := hid (wxForm_any B (Fresh W2 w3) _ w4 _ _ _ _ _ _ _ _ _ _ (HBk.out _ HB.out) hf4 (HBs.out _ HB.out) (fun b hb => hb.2))
         clear hf4 hw4)
      | (go_at_call 7
         refine HWX.out.mono ?_
         rintro e w5 ⟨rfl, hw5⟩
         have HB := hid (HB.out.trans (hw5.mono HB.out.size))
         clear hw5 HWX)
      | (go_at_call 10
         refine (CIO.out _ HB.out).mono ?_
         rintro e w5 ⟨rfl, hw5⟩
         have HB := hid (HB.out.trans (hw5.mono HB.out.size))
         clear hw5)
      | (go_at_call 11
         refine (CSO.out _ HB.out).mono ?_
         rintro e w5 ⟨rfl, hw5⟩
         have HB := hid (HB.out.trans (hw5.mono HB.out.size))
         clear hw5))
  have HB6 := HB
  clear CSW CSF CIO K0
  cases ok with
  | false =>
    have a0 := no_sort HA.out (fun h => by have h1 := HOK.out; rw [h.1] at h1; cases h1)
    have b0 := no_sort HBe.out (fun h => by have h1 := HOK.out; rw [h.1] at h1; cases h1)
    obtain ⟨⟨f0, f1, f2, f3, f4⟩, -⟩ := HKEEP.out _ HB6.out
    go_wp2_with fail
    refine (CSO.out _ HB6.out).mono ?_
    rintro e w9 ⟨rfl, hw9⟩
    have HB9 := hid (HB6.out.trans (hw9.mono HB6.out.size))
    obtain ⟨-, ⟨e0, -⟩, e1, -⟩ := HKEEP.out _ HB9.out
    clear hw9 f0 f1 f2 f3 f4
    go_wp2_with fail
    go_ret
    exact ⟨rfl, HDone.out _ HB9.out⟩
  | true =>
  obtain ⟨⟨f0, f1, f2, f3, f4⟩, -⟩ := HKEEP.out _ HB6.out
  by_cases hs0 : s < 0
  · have a0 := no_sort HA.out (fun h => by have h1 := h.2; omega)
    have b0 := no_sort HBe.out (fun h => by have h1 := h.2; omega)
    go_wp2_with fail
    refine (CSO.out _ HB6.out).mono ?_
    rintro e w9 ⟨rfl, hw9⟩
    have HB9 := hid (HB6.out.trans (hw9.mono HB6.out.size))
    obtain ⟨-, ⟨e0, -⟩, e1, -⟩ := HKEEP.out _ HB9.out
    clear hw9 f0 f1 f2 f3 f4
    go_wp2_with fail
    go_ret
    exact ⟨rfl, HDone.out _ HB9.out⟩
  have hs1 : 0 ≤ s := by omega
  have eA : A = chF (putB s) f := by rw [HA.out]; unfold resF; rw [if_pos ⟨HOK.out, hs1⟩]
  have eB : B = chF (flipB s) f := by rw [HBe.out]; unfold resF; rw [if_pos ⟨HOK.out, hs1⟩]
  have okA : formOk A = true := by rw [eA]; exact chF_formOk (put_scopes hs1) HOK.out
  have okB' : formOk B = true := by rw [eB]; exact chF_formOk (flip_scopes hs1) HOK.out
  have rA : resF (putB s) s A = A := by rw [eA]; exact with_with hs1 HOK.out
  have rB : resF (flipB s) s B = f := by rw [eB]; exact flip_twice hs1 HOK.out
  have shA : shown A = showF f := by unfold shown; rw [if_pos okA, eA, chF_show (putB s) f.sz f (Nat.le_refl _)]
  have shF : shown f = showF f := by unfold shown; rw [if_pos HOK.out]
  obtain ⟨T, hT⟩ : ∃ T : ByteArray, T = ⟨(showF f).toArray⟩ := ⟨_, rfl⟩
  have CWA : Hid (∀ w', Below W3.heap.size W3 w' → Calls Tryz.prog 5 #[.agg #[.int .i64 A.sort, .string A.text, .slice p2 A.scopes.length r2, .int .i64 A.frm, .slice p4 A.kids.length r4], .int .i64 s] w' fun e w'' => ∃ d2 d4, e = .returned (handed A d2 d4) ∧ Tree w'' A (Fresh w' w'') d2 d4 ∧ Below w'.heap.size w' w'') := fun w' hb => by
    have h := implWith_any s A (Fresh W1 w2) w' _ _ _ _ _ (HAk.out w' hb) (HAs.out w' hb) (by omega)
    rw [rA] at h; exact h
  have CFB : Hid (∀ w', Below W3.heap.size W3 w' → Calls Tryz.prog 6 #[.agg #[.int .i64 B.sort, .string B.text, .slice u2 B.scopes.length t2, .int .i64 B.frm, .slice u4 B.kids.length t4], .int .i64 s] w' fun e w'' => ∃ d2 d4, e = .returned (handed f d2 d4) ∧ Tree w'' f (Fresh w' w'') d2 d4 ∧ Below w'.heap.size w' w'') := fun w' hb => by
    have h := implFlip_any s B (Fresh W2 w3) w' _ _ _ _ _ (HBk.out w' hb) (HBs.out w' hb) (by omega)
    rw [rB] at h; exact h
  have CShA : Hid (∀ w', Below W3.heap.size W3 w' → Calls Tryz.prog 12 #[.agg #[.int .i64 A.sort, .string A.text, .slice p2 A.scopes.length r2, .int .i64 A.frm, .slice p4 A.kids.length r4]] w' fun e w'' => e = .returned (.string T) ∧ Below w'.heap.size w' w'') := fun w' hb => by
    have h := implShow_any A (Fresh W1 w2) w' _ _ _ _ _ (HAk.out w' hb) (HAs.out w' hb) (by omega)
    rw [shA, ← hT] at h; exact h
  have CShF : Hid (∀ w', Below W3.heap.size W3 w' → Calls Tryz.prog 12 #[.agg #[.int .i64 f.sort, .string f.text, .slice x2 f.scopes.length y2, .int .i64 f.frm, .slice x4 f.kids.length y4]] w' fun e w'' => e = .returned (.string T) ∧ Below w'.heap.size w' w'') := fun w' hb => by
    have h := implShow_any f (Fresh w w1) w' _ _ _ _ _ (HFk.out w' hb) (HFs.out w' hb) (by omega)
    rw [shF, ← hT] at h; exact h
  have COA : Hid (∀ w', Below W3.heap.size W3 w' → Calls Tryz.prog 10 #[.agg #[.int .i64 A.sort, .string A.text, .slice p2 A.scopes.length r2, .int .i64 A.frm, .slice p4 A.kids.length r4]] w' fun e w'' => e = .returned (.bool true) ∧ Below w'.heap.size w' w'') := fun w' hb => by
    have h := implFormOk_any A (Fresh W1 w2) w' _ _ _ _ _ (HAk.out w' hb) (HAs.out w' hb) (by omega)
    rw [okA] at h; exact h
  have COB : Hid (∀ w', Below W3.heap.size W3 w' → Calls Tryz.prog 10 #[.agg #[.int .i64 B.sort, .string B.text, .slice u2 B.scopes.length t2, .int .i64 B.frm, .slice u4 B.kids.length t4]] w' fun e w'' => e = .returned (.bool true) ∧ Below w'.heap.size w' w'') := fun w' hb => by
    have h := implFormOk_any B (Fresh W2 w3) w' _ _ _ _ _ (HBk.out w' hb) (HBs.out w' hb) (by omega)
    rw [okB'] at h; exact h
  have hTT : (T.toList == T.toList) = true := by simp
  simp only [handed] at CWA CFB
  clear eA eB okA okB' rA rB shA shF hT
  go_wp2_with fail
  refine (CSO.out _ HB6.out).mono ?_
  rintro e w9 ⟨rfl, hw9⟩
  have HB9 := hid (HB6.out.trans (hw9.mono HB6.out.size))
  have HB := hid (HB9.out.drew)
  clear hw9 f0 f1 f2 f3 f4 CSO
  have HSH := CShA
  have HFO := COA
  go_wp2_with fail
  go_region_held3 (fun w' => (w'.cell? ⟨w1.heap.size, 0, none⟩ = some (.int .i64 f.sort) ∧ w'.cell? ⟨w1.heap.size, 1, none⟩ = some (.string f.text) ∧ w'.cell? ⟨w1.heap.size, 2, none⟩ = some (.slice x2 f.scopes.length y2) ∧ w'.cell? ⟨w1.heap.size, 3, none⟩ = some (.int .i64 f.frm) ∧ w'.cell? ⟨w1.heap.size, 4, none⟩ = some (.slice x4 f.kids.length y4)) ∧ (w'.cell? ⟨w2.heap.size, 0, none⟩ = some (.int .i64 A.sort) ∧ w'.cell? ⟨w2.heap.size, 1, none⟩ = some (.string A.text) ∧ w'.cell? ⟨w2.heap.size, 2, none⟩ = some (.slice p2 A.scopes.length r2) ∧ w'.cell? ⟨w2.heap.size, 3, none⟩ = some (.int .i64 A.frm) ∧ w'.cell? ⟨w2.heap.size, 4, none⟩ = some (.slice p4 A.kids.length r4)) ∧ w'.cell? ⟨w3.heap.size, 0, none⟩ = some (.int .i64 B.sort) ∧ w'.cell? ⟨w3.heap.size, 1, none⟩ = some (.string B.text) ∧ w'.cell? ⟨w3.heap.size, 2, none⟩ = some (.slice u2 B.scopes.length t2) ∧ w'.cell? ⟨w3.heap.size, 3, none⟩ = some (.int .i64 B.frm) ∧ w'.cell? ⟨w3.heap.size, 4, none⟩ = some (.slice u4 B.kids.length t4))
    (first | exact HKEEP.out _ HB.out)
    (first
      | (go_at_call 5
         refine (CWA.out _ HB.out).mono ?_
         rintro e w4 ⟨d2, d4, rfl, hf4, hw4⟩
         have HB := hid (HB.out.trans (hw4.mono HB.out.size))
         have HWX := hid (wxForm_any A _ (Fresh W1 w2) w4 _ _ _ _ _ _ _ _ _ _ (hf4.form (by unfold maxLen; omega)) (HAk.out _ HB.out) (fun b hb => hb.2) (HAs.out _ HB.out))
         clear hf4 hw4)
      | (go_at_call 6
         refine (CFB.out _ HB.out).mono ?_
         rintro e w4 ⟨d2, d4, rfl, hf4, hw4⟩
         have HB := hid (HB.out.trans (hw4.mono HB.out.size))
         have HWX := hid (wxForm_any f _ (Fresh w w1) w4 _ _ _ _ _ _ _ _ _ _ (hf4.form (by unfold maxLen; omega)) (HFk.out _ HB.out) (fun b hb => hb.2) (HFs.out _ HB.out))
         clear hf4 hw4)
      | (go_at_call 7
         refine HWX.out.mono ?_
         rintro e w5 ⟨rfl, hw5⟩
         have HB := hid (HB.out.trans (hw5.mono HB.out.size))
         clear hw5 HWX)
      | (go_at_call 12
         refine (HSH.out _ HB.out).mono ?_
         rintro e w5 ⟨rfl, hw5⟩
         have HB := hid (HB.out.trans (hw5.mono HB.out.size))
         clear hw5 HSH
         have HSH := CShF)
      | (go_at_call 10
         refine (HFO.out _ HB.out).mono ?_
         rintro e w5 ⟨rfl, hw5⟩
         have HB := hid (HB.out.trans (hw5.mono HB.out.size))
         clear hw5 HFO
         have HFO := COB))
  go_wp2_with fail
  go_ret
  exact ⟨rfl, HDone.out _ HB.out⟩
end Go.Proofs.YtjbejnibiebjgaaGreat
