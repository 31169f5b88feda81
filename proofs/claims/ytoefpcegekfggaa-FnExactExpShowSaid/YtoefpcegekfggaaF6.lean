/- The model's l1Ok and ExpFormOk return whether a form is ok. Condition: the form lies in memory, and costs at most 1048576. -/
import Derived.Test.YtoefpcegekfggaaF5
namespace Go.Proofs.Ytoefpcegekfggaa
open Go.RowKit Go.Siskin

theorem listForm_1 {f : Fm} (h : f.text.toList.isEmpty = false) : false = listFormB f := by
  unfold listFormB
  rw [tl_empty, empty_size] at h
  rw [h]; rfl
theorem listForm_2 {f : Fm} (h : ¬ f.frm = 0) : false = listFormB f := by
  unfold listFormB; rw [decide_eq_false h]; simp
theorem listForm_3 {f : Fm} (h : 0 < f.scopes.length) : false = listFormB f := by
  unfold listFormB; rw [decide_eq_false (p := f.scopes.length = 0) (by omega)]; simp
theorem listForm_0 {f : Fm} (h1 : f.text.toList.isEmpty = true) (h2 : f.frm = 0) (h3 : f.scopes.length = 0) : listFormB f = true := by
  unfold listFormB
  rw [tl_empty, empty_size] at h1
  rw [h1, decide_eq_true h2, decide_eq_true h3]; rfl


set_option maxHeartbeats 1000000 in
theorem okForm_bad3 (f : Fm) (B : Nat → Prop) (w : World) (c0 c1 c2 c3 c4 : Value) (d : Nat) (hA : FormAt B w f c0 c1 c2 c3 c4) (hd : d ≤ 60) (hs : f.sort = 3) (hl : listFormB f = false) :
    Calls Try.prog 27 #[.agg #[c0, c1, c2, c3, c4], .int .i64 d] w fun e w' => e = .returned (.bool (okB f d)) ∧ Below w.heap.size w w' := by
  obtain ⟨rfl, rfl, ht, h2, rfl, h4⟩ := (formAt_iff _ _ _ _ _ _ _ _).1 hA
  rw [hs]
  obtain ⟨a2, k2, rfl, hl2, -⟩ := h2
  obtain ⟨a4, k4, rfl, hl4, -⟩ := h4
  have HX : Hid (false = okB f d) := by
    show _ = _
    rw [okB_list f d hd hs, hl]; rfl
  have HL := hid hl
  unfold maxLen at hl2 hl4 ht
  clear hA hs hl
  cases e1 : f.text.toList.isEmpty with
  | false =>
    go_enter Try.func27, Try.ntmps27
    go_wp2_with fail
    go_ret
    exact ⟨ret_bool HX.out, (Below.refl _ _).alloc (Nat.le_refl _) _⟩
  | true =>
  by_cases e2 : f.frm = 0
  · rw [e2]
    by_cases e3 : 0 < f.scopes.length
    · have HE := hid e2
      clear e2
      go_enter Try.func27, Try.ntmps27
      go_wp2_with fail
      go_ret
      exact ⟨ret_bool HX.out, (Below.refl _ _).alloc (Nat.le_refl _) _⟩
    · exact absurd HL.out (by rw [listForm_0 e1 e2 (by omega)]; simp)
  · have e2' : (f.frm != 0) = true := by simpa using e2
    go_enter Try.func27, Try.ntmps27
    go_wp2_with fail
    go_ret
    exact ⟨ret_bool HX.out, (Below.refl _ _).alloc (Nat.le_refl _) _⟩

set_option maxHeartbeats 2000000 in
theorem okForm_list3 (n : Nat) (ih : OkForm n) (f : Fm) (hf : f.sz ≤ n + 1) (B : Nat → Prop) (w : World) (c0 c1 c2 c3 c4 : Value) (d : Nat) (hA : FormAt B w f c0 c1 c2 c3 c4) (hB : ∀ b, B b → b < w.heap.size) (hd : d ≤ 60) (hs : f.sort = 3) (hl : listFormB f = true) (hcost : f.cost ≤ 1048576) :
    Calls Try.prog 27 #[.agg #[c0, c1, c2, c3, c4], .int .i64 d] w fun e w' => e = .returned (.bool (okB f d)) ∧ Below w.heap.size w w' := by
  obtain ⟨rfl, rfl, ht, h2, rfl, h4⟩ := (formAt_iff _ _ _ _ _ _ _ _).1 hA
  have HX := hid (okB_list f d hd hs)
  rw [hs]
  have HS := hid (Fm.sz_kids f)
  have HC := hid (Fm.cost_eq f)
  have HI := hid ih
  have HR := hid hB
  have HL := hid hl
  have e1 : f.text.toList.isEmpty = true := by
    rw [tl_empty, empty_size]; unfold listFormB at hl; simp only [Bool.and_eq_true, decide_eq_true_eq] at hl; exact decide_eq_true hl.1.1
  have e2 : f.frm = 0 := by unfold listFormB at hl; simp only [Bool.and_eq_true, decide_eq_true_eq] at hl; exact hl.1.2
  have e3 : f.scopes.length = 0 := by unfold listFormB at hl; simp only [Bool.and_eq_true, decide_eq_true_eq] at hl; exact hl.2
  obtain ⟨a2, k2, rfl, hl2, -⟩ := h2
  obtain ⟨a4, k4, rfl, hl4, ha⟩ := h4
  unfold maxLen at hl4
  rw [e2, e3]
  clear hA ih hB hl hl2 ht hs e2 e3
  go_enter Try.func27, Try.ntmps27
  go_wp2_with fail
  go_loopw [5] (fun i wr => ∃ k : Nat, k ≤ f.kids.length ∧ i = .int .i64 k ∧ Hid (oksB (f.kids.take k) (d + 1) = true) ∧ Hid (Below (w.heap.size + 1) (w.alloc (.cells #[.int .i64 3, .string f.text, .slice a2 0 k2, .int .i64 0, .slice a4 f.kids.length k4] 30)) wr)) (fun i _ => f.kids.length - (intOf i).toNat)
  case atStart => exact ⟨0, Nat.zero_le _, rfl, by show _ = _; simp [oksB], Below.refl _ _⟩
  case round =>
    obtain ⟨k, hk, rfl, HO, HB⟩ := hrel
    have hcell : ∀ o, wr.cell? ⟨w.heap.size, o, none⟩ = (w.alloc (.cells #[.int .i64 3, .string f.text, .slice a2 0 k2, .int .i64 0, .slice a4 f.kids.length k4] 30)).cell? ⟨w.heap.size, o, none⟩ := fun o => HB.out.cell (p := ⟨w.heap.size, o, none⟩) (by simp)
    by_cases hlt : k < f.kids.length
    · rcases ha with ha | ⟨ba, oa, rfl, hb, ha⟩
      · rw [ha] at hlt; simp at hlt
      have hrow := RowAt.keep (((SameOn.refl _ _).alloc HR.out _).below HB.out (fun b hb => by have := HR.out b hb; omega)) hb f.kids ha
      obtain ⟨c0, c1, c2, c3, c4, g0, g1, g2, g3, g4, hf'⟩ := RowAt.get f.kids hrow k hlt
      have hsz := HB.out.size
      have HC' := hid (HI.out f.kids[k] (by have := Fm.szs_get f.kids k hlt; have := HS.out; omega) B wr c0 c1 c2 c3 c4 (d + 1) hf' (fun b hb => by have := HR.out b hb; simp at hsz; omega) (by omega) (by have := Fm.costs_get f.kids k hlt; have := HC.out; omega))
      have HT := hid (oksB_take f.kids k (d + 1) hlt)
      clear ha hrow hf' HI
      cases hok : okB f.kids[k] (d + 1) with
      | false =>
        have HY := hid (oksB_bad f.kids k (d + 1) hlt hok)
        go_wp2_with (go_at_call 27; refine HC'.out.mono ?_; rintro e w' ⟨rfl, hw⟩)
        go_ret
        refine ⟨ret_bool (by rw [HX.out, HY.out]; simp), ?_⟩
        exact ((Below.refl _ _).alloc (Nat.le_refl _) _).trans ((HB.out.trans (hw.mono (by simpa using hsz))).mono (by omega))
      | true =>
        go_wp2_with (go_at_call 27; refine HC'.out.mono ?_; rintro e w' ⟨rfl, hw⟩)
        exact ⟨⟨k + 1, by omega, by go_num, by show _ = _; rw [HT.out, HO.out, hok]; rfl, HB.out.trans (hw.mono (by simpa using hsz))⟩, by simp [intOf]; omega⟩
    · have HK : Hid (oksB f.kids (d + 1) = true) := by
        have h := HO.out
        rw [List.take_of_length_le (by omega)] at h
        exact h
      have HLo := hid (((Below.refl w.heap.size w).alloc (Nat.le_refl _) (.cells #[.int .i64 3, .string f.text, .slice a2 0 k2, .int .i64 0, .slice a4 f.kids.length k4] 30)).trans (HB.out.mono (by omega)))
      go_wp2_with fail
      go_ret
      exact ⟨ret_bool (by rw [HX.out, HK.out, HL.out]; rfl), HLo.out⟩


set_option maxHeartbeats 1000000 in
theorem okForm_bad4 (f : Fm) (B : Nat → Prop) (w : World) (c0 c1 c2 c3 c4 : Value) (d : Nat) (hA : FormAt B w f c0 c1 c2 c3 c4) (hd : d ≤ 60) (hs : f.sort = 4) (hl : listFormB f = false) :
    Calls Try.prog 27 #[.agg #[c0, c1, c2, c3, c4], .int .i64 d] w fun e w' => e = .returned (.bool (okB f d)) ∧ Below w.heap.size w w' := by
  obtain ⟨rfl, rfl, ht, h2, rfl, h4⟩ := (formAt_iff _ _ _ _ _ _ _ _).1 hA
  rw [hs]
  obtain ⟨a2, k2, rfl, hl2, -⟩ := h2
  obtain ⟨a4, k4, rfl, hl4, -⟩ := h4
  have HX : Hid (false = okB f d) := by
    show _ = _
    rw [okB_dots f d hd hs, hl]; rfl
  have HL := hid hl
  unfold maxLen at hl2 hl4 ht
  clear hA hs hl
  cases e1 : f.text.toList.isEmpty with
  | false =>
    go_enter Try.func27, Try.ntmps27
    go_wp2_with fail
    go_ret
    exact ⟨ret_bool HX.out, (Below.refl _ _).alloc (Nat.le_refl _) _⟩
  | true =>
  by_cases e2 : f.frm = 0
  · rw [e2]
    by_cases e3 : 0 < f.scopes.length
    · have HE := hid e2
      clear e2
      go_enter Try.func27, Try.ntmps27
      go_wp2_with fail
      go_ret
      exact ⟨ret_bool HX.out, (Below.refl _ _).alloc (Nat.le_refl _) _⟩
    · exact absurd HL.out (by rw [listForm_0 e1 e2 (by omega)]; simp)
  · have e2' : (f.frm != 0) = true := by simpa using e2
    go_enter Try.func27, Try.ntmps27
    go_wp2_with fail
    go_ret
    exact ⟨ret_bool HX.out, (Below.refl _ _).alloc (Nat.le_refl _) _⟩

set_option maxHeartbeats 2000000 in
theorem okForm_list4 (n : Nat) (ih : OkForm n) (f : Fm) (hf : f.sz ≤ n + 1) (B : Nat → Prop) (w : World) (c0 c1 c2 c3 c4 : Value) (d : Nat) (hA : FormAt B w f c0 c1 c2 c3 c4) (hB : ∀ b, B b → b < w.heap.size) (hd : d ≤ 60) (hs : f.sort = 4) (hl : listFormB f = true) (hcost : f.cost ≤ 1048576) :
    Calls Try.prog 27 #[.agg #[c0, c1, c2, c3, c4], .int .i64 d] w fun e w' => e = .returned (.bool (okB f d)) ∧ Below w.heap.size w w' := by
  obtain ⟨rfl, rfl, ht, h2, rfl, h4⟩ := (formAt_iff _ _ _ _ _ _ _ _).1 hA
  have HX := hid (okB_dots f d hd hs)
  rw [hs]
  have HS := hid (Fm.sz_kids f)
  have HC := hid (Fm.cost_eq f)
  have HI := hid ih
  have HR := hid hB
  have HL := hid hl
  have e1 : f.text.toList.isEmpty = true := by
    rw [tl_empty, empty_size]; unfold listFormB at hl; simp only [Bool.and_eq_true, decide_eq_true_eq] at hl; exact decide_eq_true hl.1.1
  have e2 : f.frm = 0 := by unfold listFormB at hl; simp only [Bool.and_eq_true, decide_eq_true_eq] at hl; exact hl.1.2
  have e3 : f.scopes.length = 0 := by unfold listFormB at hl; simp only [Bool.and_eq_true, decide_eq_true_eq] at hl; exact hl.2
  obtain ⟨a2, k2, rfl, hl2, -⟩ := h2
  obtain ⟨a4, k4, rfl, hl4, ha⟩ := h4
  unfold maxLen at hl4
  rw [e2, e3]
  clear hA ih hB hl hl2 ht hs e2 e3
  go_enter Try.func27, Try.ntmps27
  go_wp2_with fail
  go_loopw [5] (fun i wr => ∃ k : Nat, k ≤ f.kids.length ∧ i = .int .i64 k ∧ Hid (oksB (f.kids.take k) (d + 1) = true) ∧ Hid (Below (w.heap.size + 1) (w.alloc (.cells #[.int .i64 4, .string f.text, .slice a2 0 k2, .int .i64 0, .slice a4 f.kids.length k4] 30)) wr)) (fun i _ => f.kids.length - (intOf i).toNat)
  case atStart => exact ⟨0, Nat.zero_le _, rfl, by show _ = _; simp [oksB], Below.refl _ _⟩
  case round =>
    obtain ⟨k, hk, rfl, HO, HB⟩ := hrel
    have hcell : ∀ o, wr.cell? ⟨w.heap.size, o, none⟩ = (w.alloc (.cells #[.int .i64 4, .string f.text, .slice a2 0 k2, .int .i64 0, .slice a4 f.kids.length k4] 30)).cell? ⟨w.heap.size, o, none⟩ := fun o => HB.out.cell (p := ⟨w.heap.size, o, none⟩) (by simp)
    by_cases hlt : k < f.kids.length
    · rcases ha with ha | ⟨ba, oa, rfl, hb, ha⟩
      · rw [ha] at hlt; simp at hlt
      have hrow := RowAt.keep (((SameOn.refl _ _).alloc HR.out _).below HB.out (fun b hb => by have := HR.out b hb; omega)) hb f.kids ha
      obtain ⟨c0, c1, c2, c3, c4, g0, g1, g2, g3, g4, hf'⟩ := RowAt.get f.kids hrow k hlt
      have hsz := HB.out.size
      have HC' := hid (HI.out f.kids[k] (by have := Fm.szs_get f.kids k hlt; have := HS.out; omega) B wr c0 c1 c2 c3 c4 (d + 1) hf' (fun b hb => by have := HR.out b hb; simp at hsz; omega) (by omega) (by have := Fm.costs_get f.kids k hlt; have := HC.out; omega))
      have HT := hid (oksB_take f.kids k (d + 1) hlt)
      clear ha hrow hf' HI
      cases hok : okB f.kids[k] (d + 1) with
      | false =>
        have HY := hid (oksB_bad f.kids k (d + 1) hlt hok)
        go_wp2_with (go_at_call 27; refine HC'.out.mono ?_; rintro e w' ⟨rfl, hw⟩)
        go_ret
        refine ⟨ret_bool (by rw [HX.out, HY.out]; simp), ?_⟩
        exact ((Below.refl _ _).alloc (Nat.le_refl _) _).trans ((HB.out.trans (hw.mono (by simpa using hsz))).mono (by omega))
      | true =>
        go_wp2_with (go_at_call 27; refine HC'.out.mono ?_; rintro e w' ⟨rfl, hw⟩)
        exact ⟨⟨k + 1, by omega, by go_num, by show _ = _; rw [HT.out, HO.out, hok]; rfl, HB.out.trans (hw.mono (by simpa using hsz))⟩, by simp [intOf]; omega⟩
    · have HK : Hid (oksB f.kids (d + 1) = true) := by
        have h := HO.out
        rw [List.take_of_length_le (by omega)] at h
        exact h
      have HLo := hid (((Below.refl w.heap.size w).alloc (Nat.le_refl _) (.cells #[.int .i64 4, .string f.text, .slice a2 0 k2, .int .i64 0, .slice a4 f.kids.length k4] 30)).trans (HB.out.mono (by omega)))
      by_cases hn : 1 < f.kids.length
      · rcases ha with ha | ⟨ba, oa, rfl, hb, ha⟩
        · rw [ha] at hn; simp at hn
        have hrow := RowAt.keep (((SameOn.refl _ _).alloc HR.out _).below HB.out (fun b hb => by have := HR.out b hb; omega)) hb f.kids ha
        obtain ⟨c0, c1, c2, c3, c4, g0, -, -, -, -, hf'⟩ := RowAt.get f.kids hrow (f.kids.length - 1) (by omega)
        obtain ⟨rfl, -⟩ := (formAt_iff _ _ _ _ _ _ _ _).1 hf'
        have HE : Hid (endB f.kids = (decide (f.kids[f.kids.length - 1].sort = 1) || decide (f.kids[f.kids.length - 1].sort = 2))) := by
          show _ = _
          unfold endB
          rw [decide_eq_true hn, List.getD_eq_getElem?_getD, List.getElem?_eq_getElem (by omega)]; rfl
        have HY : Hid (okB f d = (decide (f.kids[f.kids.length - 1].sort = 1) || decide (f.kids[f.kids.length - 1].sort = 2))) := by
          show _ = _
          rw [HX.out, HK.out, HL.out, HE.out]; rfl
        generalize f.kids[f.kids.length - 1].sort = z at *
        have hn' : (1 : Int) < (f.kids.length : Int) := by omega
        clear ha hrow hf' HI HE
        go_wp2_with fail
        · rename_i hz
          go_ret
          exact ⟨ret_bool (by rw [HY.out, hz]; rfl), HLo.out⟩
        · rename_i hz _
          go_ret
          refine ⟨ret_bool ?_, HLo.out⟩
          rw [HY.out, decide_eq_false hz]
          by_cases h2 : z = 2
          · rw [h2]; rfl
          · rw [decide_eq_false h2, beq_eq_false_iff_ne.2 h2, beq_eq_false_iff_ne.2 hz]
      · have HE : Hid (endB f.kids = false) := by
          show _ = _
          unfold endB; rw [decide_eq_false hn]; rfl
        go_wp2_with fail
        go_ret
        exact ⟨ret_bool (by rw [HX.out, HE.out]; simp), HLo.out⟩

set_option maxHeartbeats 1000000 in
theorem okForm_of (n : Nat) (ih : OkForm n) : OkForm (n + 1) := by
  intro f hf B w c0 c1 c2 c3 c4 d hA hB hd hc
  by_cases h60 : 60 < d
  · have HX := hid (okB_deep f d h60)
    go_enter Try.func27, Try.ntmps27
    go_wp2_with fail
    go_ret
    exact ⟨ret_bool HX.out.symm, (Below.refl _ _).alloc (Nat.le_refl _) _⟩
  by_cases s1 : f.sort = 1
  · exact okForm_id f B w c0 c1 c2 c3 c4 d hA hB (by omega) s1
  by_cases s2 : f.sort = 2
  · exact okForm_atom f B w c0 c1 c2 c3 c4 d hA (by omega) s2 hc
  by_cases s3 : f.sort = 3
  · cases hl : listFormB f with
    | false => exact okForm_bad3 f B w c0 c1 c2 c3 c4 d hA (by omega) s3 hl
    | true => exact okForm_list3 n ih f hf B w c0 c1 c2 c3 c4 d hA hB (by omega) s3 hl hc
  by_cases s4 : f.sort = 4
  · cases hl : listFormB f with
    | false => exact okForm_bad4 f B w c0 c1 c2 c3 c4 d hA (by omega) s4 hl
    | true => exact okForm_list4 n ih f hf B w c0 c1 c2 c3 c4 d hA hB (by omega) s4 hl hc
  have HX := hid (okB_none f d s1 s2 s3 s4)
  obtain ⟨rfl, rfl, ht, h2, rfl, h4⟩ := (formAt_iff _ _ _ _ _ _ _ _).1 hA
  have b1 : (f.sort == 1) = false := by simpa using s1
  have b2 : (f.sort == 2) = false := by simpa using s2
  have b3 : (f.sort == 3) = false := by simpa using s3
  have b4 : (f.sort == 4) = false := by simpa using s4
  clear hA h2 h4 s1 s2 s3 s4 hB ih
  go_enter Try.func27, Try.ntmps27
  go_wp2_with fail
  go_ret
  exact ⟨ret_bool HX.out.symm, (Below.refl _ _).alloc (Nat.le_refl _) _⟩

theorem okForm_all : ∀ n, OkForm n
  | 0 => fun f hf => by have := Fm.sz_kids f; omega
  | n + 1 => okForm_of n (okForm_all n)

/-- The model's ExpFormOk: ok, and not too many forms. -/
def formOk (f : Fm) : Bool := okB f 0 && decide (f.sz ≤ 1500)

set_option maxHeartbeats 1000000 in
theorem specFormOk_any (f : Fm) (B : Nat → Prop) (w : World) (c0 c1 c2 c3 c4 : Value) (hA : FormAt B w f c0 c1 c2 c3 c4) (hB : ∀ b, B b → b < w.heap.size) (hc : f.cost ≤ 1048576) :
    Calls Try.prog 11 #[.agg #[c0, c1, c2, c3, c4]] w fun e w' => e = .returned (.bool (formOk f)) ∧ Below w.heap.size w w' := by
  have H1 := hid (okForm_all f.sz f (Nat.le_refl _) B (w.alloc (.cells #[c0, c1, c2, c3, c4] 30)) c0 c1 c2 c3 c4 0 (FormAt.keep ((SameOn.refl _ _).alloc hB _) _ hA) (fun b hb => by have := hB b hb; simp; omega) (by omega) hc)
  have hsz : f.sz ≤ 2000000 := by have := Fm.sz_le f; omega
  have HA := hid hA
  have HR := hid hB
  obtain ⟨rfl, rfl, -, h2, rfl, h4⟩ := (formAt_iff _ _ _ _ _ _ _ _).1 hA
  obtain ⟨a2, k2, rfl, -⟩ := h2
  obtain ⟨a4, k4, rfl, -⟩ := h4
  clear hA hB
  cases h0 : okB f 0 with
  | false =>
    go_enter Try.func11, Try.ntmps11
    go_wp2_with (go_at_call 27; refine H1.out.mono ?_; rintro e w1 ⟨rfl, hw⟩)
    go_ret
    exact ⟨ret_bool (by unfold formOk; rw [h0]; rfl), ((Below.refl _ _).alloc (Nat.le_refl _) _).trans (hw.mono (by simp))⟩
  | true =>
    go_enter Try.func11, Try.ntmps11
    go_wp2_with fail
    refine H1.out.mono ?_
    rintro e w1 ⟨rfl, hw⟩
    rw [h0]
    obtain ⟨hc1, -⟩ := bcell hw
    have hz1 : w.heap.size < w1.heap.size := by have := hw.size; simp at this; omega
    have HW := hid hw
    clear hw
    go_wp2_with fail
    refine (l1Size_any f B w1 _ _ _ _ _ (FormAt.keep (((SameOn.refl _ _).alloc HR.out _).below HW.out (fun b hb => by have := HR.out b hb; simp; omega)) _ HA.out) (fun b hb => by have := HR.out b hb; omega) hsz).mono ?_
    rintro e w2 ⟨rfl, hw2⟩
    go_wp2_with fail
    go_ret
    refine ⟨ret_bool ?_, (((Below.refl _ _).alloc (Nat.le_refl _) _).trans (HW.out.mono (by simp))).trans (hw2.mono (by omega))⟩
    unfold formOk; rw [h0, Bool.true_and]; exact decide_eq_decide.2 (by omega)

end Go.Proofs.Ytoefpcegekfggaa
