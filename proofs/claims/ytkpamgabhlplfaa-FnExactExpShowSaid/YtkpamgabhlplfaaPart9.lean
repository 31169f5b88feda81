/-
  The model's l1Ok and ExpFormOk return whether a form is ok. Condition: the form lies in memory, and costs at most 1048576.
  The model's l1Show and ExpShow show a form. Condition: the form lies in memory, and what is shown is not too long.
  The program's openAll opens all forms of a list, just where all are ok and not too many, if its opener does so of one. Condition: the forms lie in memory, the opener's counter apart from them.
-/
import Derived.Test.YtkpamgabhlplfaaPart8
import Derived.Test.YtkpamgabhlplfaaPart2
namespace Go.Proofs.Ytkpamgabhlplfaa
open Go.RowKit Go.Siskin

theorem listForm_1 {f : Fm} (h : f.text.toList.isEmpty = false) : false = listFormB f := by
  unfold listFormB
  rw [tl_empty, empty_size] at h
  rw [h]; rfl
theorem listForm_2 {f : Fm} (h : ¬ f.frm = 0) : false = listFormB f := by
  unfold listFormB; rw [decide_eq_false h]; simp
theorem listForm_3 {f : Fm} (h : 0 < f.scopes.length) : false = listFormB f := by
  unfold listFormB; rw [decide_eq_false (p := f.scopes.length = 0) (by omega)]; simp
theorem listForm_0 {f : Fm} (h1 : f.text.toList.isEmpty = true) (h2 : f.frm = 0) (h3 : f.scopes.length = 0) : listFormB f = true := by
  unfold listFormB
  rw [tl_empty, empty_size] at h1
  rw [h1, decide_eq_true h2, decide_eq_true h3]; rfl


set_option maxHeartbeats 1000000 in
theorem okForm_bad3 (f : Fm) (B : Nat → Prop) (w : World) (c0 c1 c2 c3 c4 : Value) (d : Nat) (hA : FormAt B w f c0 c1 c2 c3 c4) (hd : d ≤ 60) (hs : f.sort = 3) (hl : listFormB f = false) :
    Calls Try.prog 51 #[.agg #[c0, c1, c2, c3, c4], .int .i64 d] w fun e w' => e = .returned (.bool (okB f d)) ∧ Below w.heap.size w w' := by
  obtain ⟨rfl, rfl, ht, h2, rfl, h4⟩ := (formAt_iff _ _ _ _ _ _ _ _).1 hA
  rw [hs]
  obtain ⟨a2, k2, rfl, hl2, -⟩ := h2
  obtain ⟨a4, k4, rfl, hl4, -⟩ := h4
  have HX : Hid (false = okB f d) := by
    show _ = _
    rw [okB_list f d hd hs, hl]; rfl
  have HL := hid hl
  unfold maxLen at hl2 hl4 ht
  clear hA hs hl
  cases e1 : f.text.toList.isEmpty with
  | false =>
    go_enter Try.func51, Try.ntmps51
    go_wp2_with fail
    go_ret
    exact ⟨ret_bool HX.out, (Below.refl _ _).alloc (Nat.le_refl _) _⟩
  | true =>
  by_cases e2 : f.frm = 0
  · rw [e2]
    by_cases e3 : 0 < f.scopes.length
    · have HE := hid e2
      clear e2
      go_enter Try.func51, Try.ntmps51
      go_wp2_with fail
      go_ret
      exact ⟨ret_bool HX.out, (Below.refl _ _).alloc (Nat.le_refl _) _⟩
    · exact absurd HL.out (by rw [listForm_0 e1 e2 (by omega)]; simp)
  · have e2' : (f.frm != 0) = true := by simpa using e2
    go_enter Try.func51, Try.ntmps51
    go_wp2_with fail
    go_ret
    exact ⟨ret_bool HX.out, (Below.refl _ _).alloc (Nat.le_refl _) _⟩

set_option maxHeartbeats 2000000 in
theorem okForm_list3 (n : Nat) (ih : OkForm n) (f : Fm) (hf : f.sz ≤ n + 1) (B : Nat → Prop) (w : World) (c0 c1 c2 c3 c4 : Value) (d : Nat) (hA : FormAt B w f c0 c1 c2 c3 c4) (hB : ∀ b, B b → b < w.heap.size) (hd : d ≤ 60) (hs : f.sort = 3) (hl : listFormB f = true) (hcost : f.cost ≤ 1048576) :
    Calls Try.prog 51 #[.agg #[c0, c1, c2, c3, c4], .int .i64 d] w fun e w' => e = .returned (.bool (okB f d)) ∧ Below w.heap.size w w' := by
  obtain ⟨rfl, rfl, ht, h2, rfl, h4⟩ := (formAt_iff _ _ _ _ _ _ _ _).1 hA
  have HX := hid (okB_list f d hd hs)
  rw [hs]
  have HS := hid (Fm.sz_kids f)
  have HC := hid (Fm.cost_eq f)
  have HI := hid ih
  have HR := hid hB
  have HL := hid hl
  have e1 : f.text.toList.isEmpty = true := by
    rw [tl_empty, empty_size]; unfold listFormB at hl; simp only [Bool.and_eq_true, decide_eq_true_eq] at hl; exact decide_eq_true hl.1.1
  have e2 : f.frm = 0 := by unfold listFormB at hl; simp only [Bool.and_eq_true, decide_eq_true_eq] at hl; exact hl.1.2
  have e3 : f.scopes.length = 0 := by unfold listFormB at hl; simp only [Bool.and_eq_true, decide_eq_true_eq] at hl; exact hl.2
  obtain ⟨a2, k2, rfl, hl2, -⟩ := h2
  obtain ⟨a4, k4, rfl, hl4, ha⟩ := h4
  unfold maxLen at hl4
  rw [e2, e3]
  clear hA ih hB hl hl2 ht hs e2 e3
  go_enter Try.func51, Try.ntmps51
  go_wp2_with fail
  go_loopw [5] (fun i wr => ∃ k : Nat, k ≤ f.kids.length ∧ i = .int .i64 k ∧ Hid (oksB (f.kids.take k) (d + 1) = true) ∧ Hid (Below (w.heap.size + 1) (w.alloc (.cells #[.int .i64 3, .string f.text, .slice a2 0 k2, .int .i64 0, .slice a4 f.kids.length k4] 30)) wr)) (fun i _ => f.kids.length - (intOf i).toNat)
  case atStart => exact ⟨0, Nat.zero_le _, rfl, by show _ = _; simp [oksB], Below.refl _ _⟩
  case round =>
    obtain ⟨k, hk, rfl, HO, HB⟩ := hrel
    have hcell : ∀ o, wr.cell? ⟨w.heap.size, o, none⟩ = (w.alloc (.cells #[.int .i64 3, .string f.text, .slice a2 0 k2, .int .i64 0, .slice a4 f.kids.length k4] 30)).cell? ⟨w.heap.size, o, none⟩ := fun o => HB.out.cell (p := ⟨w.heap.size, o, none⟩) (by simp)
    by_cases hlt : k < f.kids.length
    · rcases ha with ha | ⟨ba, oa, rfl, hb, ha⟩
      · rw [ha] at hlt; simp at hlt
      have hrow := RowAt.keep (((SameOn.refl _ _).alloc HR.out _).below HB.out (fun b hb => by have := HR.out b hb; omega)) hb f.kids ha
      obtain ⟨c0, c1, c2, c3, c4, g0, g1, g2, g3, g4, hf'⟩ := RowAt.get f.kids hrow k hlt
      have hsz := HB.out.size
      have HC' := hid (HI.out f.kids[k] (by have := Fm.szs_get f.kids k hlt; have := HS.out; omega) B wr c0 c1 c2 c3 c4 (d + 1) hf' (fun b hb => by have := HR.out b hb; simp at hsz; omega) (by omega) (by have := Fm.costs_get f.kids k hlt; have := HC.out; omega))
      have HT := hid (oksB_take f.kids k (d + 1) hlt)
      clear ha hrow hf' HI
      cases hok : okB f.kids[k] (d + 1) with
      | false =>
        have HY := hid (oksB_bad f.kids k (d + 1) hlt hok)
        go_wp2_with (go_at_call 51; refine HC'.out.mono ?_; rintro e w' ⟨rfl, hw⟩)
        go_ret
        refine ⟨ret_bool (by rw [HX.out, HY.out]; simp), ?_⟩
        exact ((Below.refl _ _).alloc (Nat.le_refl _) _).trans ((HB.out.trans (hw.mono (by simpa using hsz))).mono (by omega))
      | true =>
        go_wp2_with (go_at_call 51; refine HC'.out.mono ?_; rintro e w' ⟨rfl, hw⟩)
        exact ⟨⟨k + 1, by omega, by go_num, by show _ = _; rw [HT.out, HO.out, hok]; rfl, HB.out.trans (hw.mono (by simpa using hsz))⟩, by simp [intOf]; omega⟩
    · have HK : Hid (oksB f.kids (d + 1) = true) := by
        have h := HO.out
        rw [List.take_of_length_le (by omega)] at h
        exact h
      have HLo := hid (((Below.refl w.heap.size w).alloc (Nat.le_refl _) (.cells #[.int .i64 3, .string f.text, .slice a2 0 k2, .int .i64 0, .slice a4 f.kids.length k4] 30)).trans (HB.out.mono (by omega)))
      go_wp2_with fail
      go_ret
      exact ⟨ret_bool (by rw [HX.out, HK.out, HL.out]; rfl), HLo.out⟩


set_option maxHeartbeats 1000000 in
theorem okForm_bad4 (f : Fm) (B : Nat → Prop) (w : World) (c0 c1 c2 c3 c4 : Value) (d : Nat) (hA : FormAt B w f c0 c1 c2 c3 c4) (hd : d ≤ 60) (hs : f.sort = 4) (hl : listFormB f = false) :
    Calls Try.prog 51 #[.agg #[c0, c1, c2, c3, c4], .int .i64 d] w fun e w' => e = .returned (.bool (okB f d)) ∧ Below w.heap.size w w' := by
  obtain ⟨rfl, rfl, ht, h2, rfl, h4⟩ := (formAt_iff _ _ _ _ _ _ _ _).1 hA
  rw [hs]
  obtain ⟨a2, k2, rfl, hl2, -⟩ := h2
  obtain ⟨a4, k4, rfl, hl4, -⟩ := h4
  have HX : Hid (false = okB f d) := by
    show _ = _
    rw [okB_dots f d hd hs, hl]; rfl
  have HL := hid hl
  unfold maxLen at hl2 hl4 ht
  clear hA hs hl
  cases e1 : f.text.toList.isEmpty with
  | false =>
    go_enter Try.func51, Try.ntmps51
    go_wp2_with fail
    go_ret
    exact ⟨ret_bool HX.out, (Below.refl _ _).alloc (Nat.le_refl _) _⟩
  | true =>
  by_cases e2 : f.frm = 0
  · rw [e2]
    by_cases e3 : 0 < f.scopes.length
    · have HE := hid e2
      clear e2
      go_enter Try.func51, Try.ntmps51
      go_wp2_with fail
      go_ret
      exact ⟨ret_bool HX.out, (Below.refl _ _).alloc (Nat.le_refl _) _⟩
    · exact absurd HL.out (by rw [listForm_0 e1 e2 (by omega)]; simp)
  · have e2' : (f.frm != 0) = true := by simpa using e2
    go_enter Try.func51, Try.ntmps51
    go_wp2_with fail
    go_ret
    exact ⟨ret_bool HX.out, (Below.refl _ _).alloc (Nat.le_refl _) _⟩

set_option maxHeartbeats 2000000 in
theorem okForm_list4 (n : Nat) (ih : OkForm n) (f : Fm) (hf : f.sz ≤ n + 1) (B : Nat → Prop) (w : World) (c0 c1 c2 c3 c4 : Value) (d : Nat) (hA : FormAt B w f c0 c1 c2 c3 c4) (hB : ∀ b, B b → b < w.heap.size) (hd : d ≤ 60) (hs : f.sort = 4) (hl : listFormB f = true) (hcost : f.cost ≤ 1048576) :
    Calls Try.prog 51 #[.agg #[c0, c1, c2, c3, c4], .int .i64 d] w fun e w' => e = .returned (.bool (okB f d)) ∧ Below w.heap.size w w' := by
  obtain ⟨rfl, rfl, ht, h2, rfl, h4⟩ := (formAt_iff _ _ _ _ _ _ _ _).1 hA
  have HX := hid (okB_dots f d hd hs)
  rw [hs]
  have HS := hid (Fm.sz_kids f)
  have HC := hid (Fm.cost_eq f)
  have HI := hid ih
  have HR := hid hB
  have HL := hid hl
  have e1 : f.text.toList.isEmpty = true := by
    rw [tl_empty, empty_size]; unfold listFormB at hl; simp only [Bool.and_eq_true, decide_eq_true_eq] at hl; exact decide_eq_true hl.1.1
  have e2 : f.frm = 0 := by unfold listFormB at hl; simp only [Bool.and_eq_true, decide_eq_true_eq] at hl; exact hl.1.2
  have e3 : f.scopes.length = 0 := by unfold listFormB at hl; simp only [Bool.and_eq_true, decide_eq_true_eq] at hl; exact hl.2
  obtain ⟨a2, k2, rfl, hl2, -⟩ := h2
  obtain ⟨a4, k4, rfl, hl4, ha⟩ := h4
  unfold maxLen at hl4
  rw [e2, e3]
  clear hA ih hB hl hl2 ht hs e2 e3
  go_enter Try.func51, Try.ntmps51
  go_wp2_with fail
  go_loopw [5] (fun i wr => ∃ k : Nat, k ≤ f.kids.length ∧ i = .int .i64 k ∧ Hid (oksB (f.kids.take k) (d + 1) = true) ∧ Hid (Below (w.heap.size + 1) (w.alloc (.cells #[.int .i64 4, .string f.text, .slice a2 0 k2, .int .i64 0, .slice a4 f.kids.length k4] 30)) wr)) (fun i _ => f.kids.length - (intOf i).toNat)
  case atStart => exact ⟨0, Nat.zero_le _, rfl, by show _ = _; simp [oksB], Below.refl _ _⟩
  case round =>
    obtain ⟨k, hk, rfl, HO, HB⟩ := hrel
    have hcell : ∀ o, wr.cell? ⟨w.heap.size, o, none⟩ = (w.alloc (.cells #[.int .i64 4, .string f.text, .slice a2 0 k2, .int .i64 0, .slice a4 f.kids.length k4] 30)).cell? ⟨w.heap.size, o, none⟩ := fun o => HB.out.cell (p := ⟨w.heap.size, o, none⟩) (by simp)
    by_cases hlt : k < f.kids.length
    · rcases ha with ha | ⟨ba, oa, rfl, hb, ha⟩
      · rw [ha] at hlt; simp at hlt
      have hrow := RowAt.keep (((SameOn.refl _ _).alloc HR.out _).below HB.out (fun b hb => by have := HR.out b hb; omega)) hb f.kids ha
      obtain ⟨c0, c1, c2, c3, c4, g0, g1, g2, g3, g4, hf'⟩ := RowAt.get f.kids hrow k hlt
      have hsz := HB.out.size
      have HC' := hid (HI.out f.kids[k] (by have := Fm.szs_get f.kids k hlt; have := HS.out; omega) B wr c0 c1 c2 c3 c4 (d + 1) hf' (fun b hb => by have := HR.out b hb; simp at hsz; omega) (by omega) (by have := Fm.costs_get f.kids k hlt; have := HC.out; omega))
      have HT := hid (oksB_take f.kids k (d + 1) hlt)
      clear ha hrow hf' HI
      cases hok : okB f.kids[k] (d + 1) with
      | false =>
        have HY := hid (oksB_bad f.kids k (d + 1) hlt hok)
        go_wp2_with (go_at_call 51; refine HC'.out.mono ?_; rintro e w' ⟨rfl, hw⟩)
        go_ret
        refine ⟨ret_bool (by rw [HX.out, HY.out]; simp), ?_⟩
        exact ((Below.refl _ _).alloc (Nat.le_refl _) _).trans ((HB.out.trans (hw.mono (by simpa using hsz))).mono (by omega))
      | true =>
        go_wp2_with (go_at_call 51; refine HC'.out.mono ?_; rintro e w' ⟨rfl, hw⟩)
        exact ⟨⟨k + 1, by omega, by go_num, by show _ = _; rw [HT.out, HO.out, hok]; rfl, HB.out.trans (hw.mono (by simpa using hsz))⟩, by simp [intOf]; omega⟩
    · have HK : Hid (oksB f.kids (d + 1) = true) := by
        have h := HO.out
        rw [List.take_of_length_le (by omega)] at h
        exact h
      have HLo := hid (((Below.refl w.heap.size w).alloc (Nat.le_refl _) (.cells #[.int .i64 4, .string f.text, .slice a2 0 k2, .int .i64 0, .slice a4 f.kids.length k4] 30)).trans (HB.out.mono (by omega)))
      by_cases hn : 1 < f.kids.length
      · rcases ha with ha | ⟨ba, oa, rfl, hb, ha⟩
        · rw [ha] at hn; simp at hn
        have hrow := RowAt.keep (((SameOn.refl _ _).alloc HR.out _).below HB.out (fun b hb => by have := HR.out b hb; omega)) hb f.kids ha
        obtain ⟨c0, c1, c2, c3, c4, g0, -, -, -, -, hf'⟩ := RowAt.get f.kids hrow (f.kids.length - 1) (by omega)
        obtain ⟨rfl, -⟩ := (formAt_iff _ _ _ _ _ _ _ _).1 hf'
        have HE : Hid (endB f.kids = (decide (f.kids[f.kids.length - 1].sort = 1) || decide (f.kids[f.kids.length - 1].sort = 2))) := by
          show _ = _
          unfold endB
          rw [decide_eq_true hn, List.getD_eq_getElem?_getD, List.getElem?_eq_getElem (by omega)]; rfl
        have HY : Hid (okB f d = (decide (f.kids[f.kids.length - 1].sort = 1) || decide (f.kids[f.kids.length - 1].sort = 2))) := by
          show _ = _
          rw [HX.out, HK.out, HL.out, HE.out]; rfl
        generalize f.kids[f.kids.length - 1].sort = z at *
        have hn' : (1 : Int) < (f.kids.length : Int) := by omega
        clear ha hrow hf' HI HE
        go_wp2_with fail
        · rename_i hz
          go_ret
          exact ⟨ret_bool (by rw [HY.out, hz]; rfl), HLo.out⟩
        · rename_i hz _
          go_ret
          refine ⟨ret_bool ?_, HLo.out⟩
          rw [HY.out, decide_eq_false hz]
          by_cases h2 : z = 2
          · rw [h2]; rfl
          · rw [decide_eq_false h2, beq_eq_false_iff_ne.2 h2, beq_eq_false_iff_ne.2 hz]
      · have HE : Hid (endB f.kids = false) := by
          show _ = _
          unfold endB; rw [decide_eq_false hn]; rfl
        go_wp2_with fail
        go_ret
        exact ⟨ret_bool (by rw [HX.out, HE.out]; simp), HLo.out⟩

set_option maxHeartbeats 1000000 in
theorem okForm_of (n : Nat) (ih : OkForm n) : OkForm (n + 1) := by
  intro f hf B w c0 c1 c2 c3 c4 d hA hB hd hc
  by_cases h60 : 60 < d
  · have HX := hid (okB_deep f d h60)
    go_enter Try.func51, Try.ntmps51
    go_wp2_with fail
    go_ret
    exact ⟨ret_bool HX.out.symm, (Below.refl _ _).alloc (Nat.le_refl _) _⟩
  by_cases s1 : f.sort = 1
  · exact okForm_id f B w c0 c1 c2 c3 c4 d hA hB (by omega) s1
  by_cases s2 : f.sort = 2
  · exact okForm_atom f B w c0 c1 c2 c3 c4 d hA (by omega) s2 hc
  by_cases s3 : f.sort = 3
  · cases hl : listFormB f with
    | false => exact okForm_bad3 f B w c0 c1 c2 c3 c4 d hA (by omega) s3 hl
    | true => exact okForm_list3 n ih f hf B w c0 c1 c2 c3 c4 d hA hB (by omega) s3 hl hc
  by_cases s4 : f.sort = 4
  · cases hl : listFormB f with
    | false => exact okForm_bad4 f B w c0 c1 c2 c3 c4 d hA (by omega) s4 hl
    | true => exact okForm_list4 n ih f hf B w c0 c1 c2 c3 c4 d hA hB (by omega) s4 hl hc
  have HX := hid (okB_none f d s1 s2 s3 s4)
  obtain ⟨rfl, rfl, ht, h2, rfl, h4⟩ := (formAt_iff _ _ _ _ _ _ _ _).1 hA
  have b1 : (f.sort == 1) = false := by simpa using s1
  have b2 : (f.sort == 2) = false := by simpa using s2
  have b3 : (f.sort == 3) = false := by simpa using s3
  have b4 : (f.sort == 4) = false := by simpa using s4
  clear hA h2 h4 s1 s2 s3 s4 hB ih
  go_enter Try.func51, Try.ntmps51
  go_wp2_with fail
  go_ret
  exact ⟨ret_bool HX.out.symm, (Below.refl _ _).alloc (Nat.le_refl _) _⟩

theorem okForm_all : ∀ n, OkForm n
  | 0 => fun f hf => by have := Fm.sz_kids f; omega
  | n + 1 => okForm_of n (okForm_all n)

/-- The model's ExpFormOk: ok, and not too many forms. -/
def formOk (f : Fm) : Bool := okB f 0 && decide (f.sz ≤ 1500)

set_option maxHeartbeats 1000000 in
theorem specFormOk_any (f : Fm) (B : Nat → Prop) (w : World) (c0 c1 c2 c3 c4 : Value) (hA : FormAt B w f c0 c1 c2 c3 c4) (hB : ∀ b, B b → b < w.heap.size) (hc : f.cost ≤ 1048576) :
    Calls Try.prog 22 #[.agg #[c0, c1, c2, c3, c4]] w fun e w' => e = .returned (.bool (formOk f)) ∧ Below w.heap.size w w' := by
  have H1 := hid (okForm_all f.sz f (Nat.le_refl _) B (w.alloc (.cells #[c0, c1, c2, c3, c4] 30)) c0 c1 c2 c3 c4 0 (FormAt.keep ((SameOn.refl _ _).alloc hB _) _ hA) (fun b hb => by have := hB b hb; simp; omega) (by omega) hc)
  have hsz : f.sz ≤ 2000000 := by have := Fm.sz_le f; omega
  have HA := hid hA
  have HR := hid hB
  obtain ⟨rfl, rfl, -, h2, rfl, h4⟩ := (formAt_iff _ _ _ _ _ _ _ _).1 hA
  obtain ⟨a2, k2, rfl, -⟩ := h2
  obtain ⟨a4, k4, rfl, -⟩ := h4
  clear hA hB
  cases h0 : okB f 0 with
  | false =>
    go_enter Try.func22, Try.ntmps22
    go_wp2_with (go_at_call 51; refine H1.out.mono ?_; rintro e w1 ⟨rfl, hw⟩)
    go_ret
    exact ⟨ret_bool (by unfold formOk; rw [h0]; rfl), ((Below.refl _ _).alloc (Nat.le_refl _) _).trans (hw.mono (by simp))⟩
  | true =>
    go_enter Try.func22, Try.ntmps22
    go_wp2_with fail
    refine H1.out.mono ?_
    rintro e w1 ⟨rfl, hw⟩
    rw [h0]
    obtain ⟨hc1, -⟩ := bcell hw
    have hz1 : w.heap.size < w1.heap.size := by have := hw.size; simp at this; omega
    have HW := hid hw
    clear hw
    go_wp2_with fail
    refine (l1Size_any f B w1 _ _ _ _ _ (FormAt.keep (((SameOn.refl _ _).alloc HR.out _).below HW.out (fun b hb => by have := HR.out b hb; simp; omega)) _ HA.out) (fun b hb => by have := HR.out b hb; omega) hsz).mono ?_
    rintro e w2 ⟨rfl, hw2⟩
    go_wp2_with fail
    go_ret
    refine ⟨ret_bool ?_, (((Below.refl _ _).alloc (Nat.le_refl _) _).trans (HW.out.mono (by simp))).trans (hw2.mono (by omega))⟩
    unfold formOk; rw [h0, Bool.true_and]; exact decide_eq_decide.2 (by omega)

end Go.Proofs.Ytkpamgabhlplfaa

namespace Go.Proofs.Ytkpamgabhlplfaa
open Go.RowKit Go.Siskin

theorem bytes_eta (s : ByteArray) : (⟨s.data.toList.toArray⟩ : ByteArray) = s := by cases s; simp
theorem ret_str {l m : List UInt8} (h : l = m) : Ending.returned (.string ⟨l.toArray⟩) = .returned (.string ⟨m.toArray⟩) := by rw [h]

theorem app1 (xs ys : List UInt8) : Value.string ((⟨xs.toArray⟩ : ByteArray) ++ ⟨ys.toArray⟩) = .string ⟨(xs ++ ys).toArray⟩ := by rw [ByteArray.mk_append_mk]
theorem app2 (xs p ys : List UInt8) : Value.string ((⟨xs.toArray⟩ : ByteArray) ++ ⟨p.toArray⟩ ++ ⟨ys.toArray⟩) = .string ⟨(xs ++ p ++ ys).toArray⟩ := by rw [ByteArray.mk_append_mk, ByteArray.mk_append_mk]
theorem app3 (xs p q ys : List UInt8) : Value.string ((⟨xs.toArray⟩ : ByteArray) ++ ⟨p.toArray⟩ ++ ⟨q.toArray⟩ ++ ⟨ys.toArray⟩) = .string ⟨(xs ++ p ++ q ++ ys).toArray⟩ := by rw [ByteArray.mk_append_mk, ByteArray.mk_append_mk, ByteArray.mk_append_mk]

/-- One kid more: the equation of what has been written. -/
theorem sh_eq {xs a b c p q ys zs : List UInt8} (hx : xs = [40] ++ a) (ht : b = a ++ (c ++ ys)) (hc : c = p ++ q) (hz : zs = xs ++ (p ++ q) ++ ys) : zs = [40] ++ b := by
  rw [hz, hx, ht, hc]; simp
theorem sh_len {b zs : List UInt8} (h : zs = [40] ++ b) (hl : b.length + 2 ≤ 1000000) : (zs.length : Int) ≤ 1000000 := by
  rw [h]; simp only [List.length_append, List.length_cons, List.length_nil]; omega

def ShowForm (n : Nat) : Prop := ∀ f : Fm, f.sz ≤ n → ∀ (B : Nat → Prop) (w : World) (c0 c1 c2 c3 c4 : Value), FormAt B w f c0 c1 c2 c3 c4 → (∀ b, B b → b < w.heap.size) → (showF f).length ≤ 1000000 →
    Calls Try.prog 26 #[.agg #[c0, c1, c2, c3, c4]] w fun e w' => e = .returned (.string ⟨(showF f).toArray⟩) ∧ Below w.heap.size w w'

set_option maxHeartbeats 4000000 in
theorem showForm_list (n : Nat) (ih : ShowForm n) (f : Fm) (hf : f.sz ≤ n + 1) (B : Nat → Prop) (w : World) (c0 c1 c2 c3 c4 : Value) (hA : FormAt B w f c0 c1 c2 c3 c4) (hB : ∀ b, B b → b < w.heap.size) (hl : (showF f).length ≤ 1000000) (s1 : f.sort ≠ 1) (s2 : f.sort ≠ 2) :
    Calls Try.prog 26 #[.agg #[c0, c1, c2, c3, c4]] w fun e w' => e = .returned (.string ⟨(showF f).toArray⟩) ∧ Below w.heap.size w w' := by
  obtain ⟨rfl, rfl, ht, h2, rfl, h4⟩ := (formAt_iff _ _ _ _ _ _ _ _).1 hA
  have HX := hid (showF_list f s1 s2)
  have HS := hid (Fm.sz_kids f)
  have HI := hid ih
  have HR := hid hB
  have HL := hid hl
  have b1 : (f.sort == 1) = false := by simpa using s1
  have b2 : (f.sort == 2) = false := by simpa using s2
  obtain ⟨a2, k2, rfl, -⟩ := h2
  obtain ⟨a4, k4, rfl, hl4, ha⟩ := h4
  unfold maxLen at hl4
  clear hA ih hB hl s1 s2
  go_enter Try.func26, Try.ntmps26
  go_wp2_with fail
  go_loopw [3, 4] (fun o i wr => ∃ k : Nat, k ≤ f.kids.length ∧ i = .int .i64 k ∧ ∃ xs : List UInt8, o = .string ⟨xs.toArray⟩ ∧ (xs.length : Int) ≤ 1000000 ∧ Hid (xs = [40] ++ showKs f.sort f.kids.length 0 (f.kids.take k)) ∧ Hid (Below (w.heap.size + 1) (w.alloc (.cells #[.int .i64 f.sort, .string f.text, .slice a2 f.scopes.length k2, .int .i64 f.frm, .slice a4 f.kids.length k4] 30)) wr)) (fun _ i _ => f.kids.length - (intOf i).toNat)
  case atStart => exact ⟨0, Nat.zero_le _, rfl, [40], rfl, by simp, by show _ = _; simp [showKs, joinK], Below.refl _ _⟩
  case round =>
    obtain ⟨k, hk, rfl, xs, rfl, hxs, HO, HB⟩ := hrel
    have hcell : ∀ o, wr.cell? ⟨w.heap.size, o, none⟩ = (w.alloc (.cells #[.int .i64 f.sort, .string f.text, .slice a2 f.scopes.length k2, .int .i64 f.frm, .slice a4 f.kids.length k4] 30)).cell? ⟨w.heap.size, o, none⟩ := fun o => HB.out.cell (p := ⟨w.heap.size, o, none⟩) (by simp)
    by_cases hlt : k < f.kids.length
    · rcases ha with ha | ⟨ba, oa, rfl, hb, ha⟩
      · rw [ha] at hlt; simp at hlt
      have hrow := RowAt.keep (((SameOn.refl _ _).alloc HR.out _).below HB.out (fun b hb => by have := HR.out b hb; omega)) hb f.kids ha
      obtain ⟨c0, c1, c2, c3, c4, g0, g1, g2, g3, g4, hf'⟩ := RowAt.get f.kids hrow k hlt
      have hsz := HB.out.size
      have HT := hid (showKs_take f.sort f.kids.length f.kids k hlt)
      have hle : (showKs f.sort f.kids.length 0 (f.kids.take (k + 1))).length + 2 ≤ 1000000 := by
        have h1 := showKs_le f.sort f.kids.length f.kids 0 (k + 1)
        have h2 := HL.out
        rw [HX.out] at h2
        simp only [List.length_append, List.length_cons, List.length_nil] at h2
        omega
      have hle2 : (showF f.kids[k]).length + 2 ≤ 1000000 := by
        have h3 := hle
        rw [HT.out] at h3
        simp only [List.length_append] at h3
        omega
      have HLE := hid hle
      have HC := hid (HI.out f.kids[k] (by have := Fm.szs_get f.kids k hlt; have := HS.out; omega) B wr c0 c1 c2 c3 c4 hf' (fun b hb => by have := HR.out b hb; simp at hsz; omega) (by omega))
      clear ha hrow hf' HI hle
      obtain ⟨ys, hys⟩ : ∃ ys, ys = showF f.kids[k] := ⟨_, rfl⟩
      rw [← hys] at HC HT hle2
      have hy : (ys.length : Int) ≤ 1000000 := by omega
      have HY := hid hys
      clear hys
      have cond : ∀ (p q : List UInt8), (if 0 < k then [(32 : UInt8)] else []) = p → (if f.sort = 4 ∧ k + 1 = f.kids.length then [(46 : UInt8), 32] else []) = q → (if 0 < k then [(32 : UInt8)] else []) ++ (if f.sort = 4 ∧ k + 1 = f.kids.length then [(46 : UInt8), 32] else []) = p ++ q := fun p q h1 h2 => by rw [h1, h2]
      have HCD := hid cond
      clear cond
      by_cases hk0 : 0 < k
      · have hk0' : (0 : Int) < (k : Int) := by omega
        have HP := hid (if_pos (c := 0 < k) hk0 : (if 0 < k then [(32 : UInt8)] else []) = [32])
        by_cases h4 : f.sort = 4 ∧ k + 1 = f.kids.length
        · have b4 : (f.sort == 4) = true := by simpa using h4.1
          have b5 : ((k : Int) + 1 == (f.kids.length : Int)) = true := by simp; omega
          have HQ := hid (if_pos (c := f.sort = 4 ∧ k + 1 = f.kids.length) h4 : (if f.sort = 4 ∧ k + 1 = f.kids.length then [(46 : UInt8), 32] else []) = [46, 32])
          clear h4
          go_wp2_with (go_at_call 26; refine HC.out.mono ?_; rintro e w' ⟨rfl, hw⟩)
          exact ⟨⟨k + 1, by omega, by go_num, _, app3 xs [32] [46, 32] ys, sh_len (sh_eq HO.out HT.out (HCD.out _ _ HP.out HQ.out) (by simp)) HLE.out, sh_eq HO.out HT.out (HCD.out _ _ HP.out HQ.out) (by simp), HB.out.trans (hw.mono (by simpa using hsz))⟩, by simp [intOf]; omega⟩
        · have HQ := hid (if_neg (c := f.sort = 4 ∧ k + 1 = f.kids.length) h4 : (if f.sort = 4 ∧ k + 1 = f.kids.length then [(46 : UInt8), 32] else []) = [])
          by_cases h5 : f.sort = 4
          · have b4 : (f.sort == 4) = true := by simpa using h5
            have b5 : ((k : Int) + 1 == (f.kids.length : Int)) = false := by simp; omega
            clear h4 h5
            go_wp2_with (go_at_call 26; refine HC.out.mono ?_; rintro e w' ⟨rfl, hw⟩)
            exact ⟨⟨k + 1, by omega, by go_num, _, app2 xs [32] ys, sh_len (sh_eq HO.out HT.out (HCD.out _ _ HP.out HQ.out) (by simp)) HLE.out, sh_eq HO.out HT.out (HCD.out _ _ HP.out HQ.out) (by simp), HB.out.trans (hw.mono (by simpa using hsz))⟩, by simp [intOf]; omega⟩
          · have b4 : (f.sort == 4) = false := by simpa using h5
            clear h4 h5
            go_wp2_with (go_at_call 26; refine HC.out.mono ?_; rintro e w' ⟨rfl, hw⟩)
            exact ⟨⟨k + 1, by omega, by go_num, _, app2 xs [32] ys, sh_len (sh_eq HO.out HT.out (HCD.out _ _ HP.out HQ.out) (by simp)) HLE.out, sh_eq HO.out HT.out (HCD.out _ _ HP.out HQ.out) (by simp), HB.out.trans (hw.mono (by simpa using hsz))⟩, by simp [intOf]; omega⟩
      · have hk0' : ¬ (0 : Int) < (k : Int) := by omega
        have HP := hid (if_neg (c := 0 < k) hk0 : (if 0 < k then [(32 : UInt8)] else []) = [])
        by_cases h4 : f.sort = 4 ∧ k + 1 = f.kids.length
        · have b4 : (f.sort == 4) = true := by simpa using h4.1
          have b5 : ((k : Int) + 1 == (f.kids.length : Int)) = true := by simp; omega
          have HQ := hid (if_pos (c := f.sort = 4 ∧ k + 1 = f.kids.length) h4 : (if f.sort = 4 ∧ k + 1 = f.kids.length then [(46 : UInt8), 32] else []) = [46, 32])
          clear h4
          go_wp2_with (go_at_call 26; refine HC.out.mono ?_; rintro e w' ⟨rfl, hw⟩)
          exact ⟨⟨k + 1, by omega, by go_num, _, app2 xs [46, 32] ys, sh_len (sh_eq HO.out HT.out (HCD.out _ _ HP.out HQ.out) (by simp)) HLE.out, sh_eq HO.out HT.out (HCD.out _ _ HP.out HQ.out) (by simp), HB.out.trans (hw.mono (by simpa using hsz))⟩, by simp [intOf]; omega⟩
        · have HQ := hid (if_neg (c := f.sort = 4 ∧ k + 1 = f.kids.length) h4 : (if f.sort = 4 ∧ k + 1 = f.kids.length then [(46 : UInt8), 32] else []) = [])
          by_cases h5 : f.sort = 4
          · have b4 : (f.sort == 4) = true := by simpa using h5
            have b5 : ((k : Int) + 1 == (f.kids.length : Int)) = false := by simp; omega
            clear h4 h5
            go_wp2_with (go_at_call 26; refine HC.out.mono ?_; rintro e w' ⟨rfl, hw⟩)
            exact ⟨⟨k + 1, by omega, by go_num, _, app1 xs ys, sh_len (sh_eq HO.out HT.out (HCD.out _ _ HP.out HQ.out) (by simp)) HLE.out, sh_eq HO.out HT.out (HCD.out _ _ HP.out HQ.out) (by simp), HB.out.trans (hw.mono (by simpa using hsz))⟩, by simp [intOf]; omega⟩
          · have b4 : (f.sort == 4) = false := by simpa using h5
            clear h4 h5
            go_wp2_with (go_at_call 26; refine HC.out.mono ?_; rintro e w' ⟨rfl, hw⟩)
            exact ⟨⟨k + 1, by omega, by go_num, _, app1 xs ys, sh_len (sh_eq HO.out HT.out (HCD.out _ _ HP.out HQ.out) (by simp)) HLE.out, sh_eq HO.out HT.out (HCD.out _ _ HP.out HQ.out) (by simp), HB.out.trans (hw.mono (by simpa using hsz))⟩, by simp [intOf]; omega⟩
    · go_wp2_with fail
      go_ret
      refine ⟨?_, ((Below.refl _ _).alloc (Nat.le_refl _) _).trans (HB.out.mono (by omega))⟩
      have h := HO.out
      rw [List.take_of_length_le (by omega)] at h
      rw [HX.out, ← h]
      exact congrArg Ending.returned (app1 xs [41])

set_option maxHeartbeats 1000000 in
theorem showForm_of (n : Nat) (ih : ShowForm n) : ShowForm (n + 1) := by
  intro f hf B w c0 c1 c2 c3 c4 hA hB hl
  by_cases s1 : f.sort = 1
  · have HX := hid (showF_leaf f (Or.inl s1))
    obtain ⟨rfl, rfl, ht, h2, rfl, h4⟩ := (formAt_iff _ _ _ _ _ _ _ _).1 hA
    rw [s1]
    clear hA ih hB h2 h4 hl s1
    go_enter Try.func26, Try.ntmps26
    go_wp2_with fail
    go_ret
    exact ⟨by rw [HX.out, bytes_eta]; rfl, (Below.refl _ _).alloc (Nat.le_refl _) _⟩
  by_cases s2 : f.sort = 2
  · have HX := hid (showF_leaf f (Or.inr s2))
    obtain ⟨rfl, rfl, ht, h2, rfl, h4⟩ := (formAt_iff _ _ _ _ _ _ _ _).1 hA
    rw [s2]
    clear hA ih hB h2 h4 hl s1 s2
    go_enter Try.func26, Try.ntmps26
    go_wp2_with fail
    go_ret
    exact ⟨by rw [HX.out, bytes_eta]; rfl, (Below.refl _ _).alloc (Nat.le_refl _) _⟩
  exact showForm_list n ih f hf B w c0 c1 c2 c3 c4 hA hB hl s1 s2

theorem showForm_all : ∀ n, ShowForm n
  | 0 => fun f hf => by have := Fm.sz_kids f; omega
  | n + 1 => showForm_of n (showForm_all n)

/-- What the model shows. -/
def shown (f : Fm) : List UInt8 := if formOk f = true then showF f else []
theorem shown_short {f : Fm} (h : formOk f = true) : (showF f).length ≤ 1000000 := by
  unfold formOk at h
  rw [Bool.and_eq_true, decide_eq_true_eq] at h
  have := showF_short f.sz f 0 (Nat.le_refl _) h.1
  omega

set_option maxHeartbeats 1000000 in
theorem specShow_any (f : Fm) (B : Nat → Prop) (w : World) (c0 c1 c2 c3 c4 : Value) (hA : FormAt B w f c0 c1 c2 c3 c4) (hB : ∀ b, B b → b < w.heap.size) (hc : f.cost ≤ 1048576) :
    Calls Try.prog 8 #[.agg #[c0, c1, c2, c3, c4]] w fun e w' => e = .returned (.string ⟨(shown f).toArray⟩) ∧ Below w.heap.size w w' := by
  have HA := hid hA
  have HR := hid hB
  have H1 := hid (fun o : Obj => specFormOk_any f B (w.alloc o) c0 c1 c2 c3 c4 (FormAt.keep ((SameOn.refl _ _).alloc hB _) _ hA) (fun b hb => by have := hB b hb; simp; omega) hc)
  obtain ⟨rfl, rfl, -, h2, rfl, h4⟩ := (formAt_iff _ _ _ _ _ _ _ _).1 hA
  obtain ⟨a2, k2, rfl, -⟩ := h2
  obtain ⟨a4, k4, rfl, -⟩ := h4
  clear hA hB
  go_enter Try.func8, Try.ntmps8
  go_wp2_with fail
  refine (H1.out _).mono ?_
  rintro e w1 ⟨rfl, hw⟩
  obtain ⟨hc1, -⟩ := bcell hw
  have hz1 : w.heap.size < w1.heap.size := by have := hw.size; simp at this; omega
  have HW := hid (((Below.refl w.heap.size w).alloc (Nat.le_refl _) _).trans (hw.mono (by simp)))
  clear hw H1
  cases hok : formOk f with
  | false =>
    go_wp2_with fail
    go_ret
    exact ⟨by unfold shown; rw [if_neg (by rw [hok]; decide)]; rfl, HW.out⟩
  | true =>
    go_wp2_with fail
    refine (showForm_all f.sz f (Nat.le_refl _) B w1 _ _ _ _ _ (FormAt.keep (HW.out.on HR.out) _ HA.out) (fun b hb => by have := HR.out b hb; omega) (shown_short hok)).mono ?_
    rintro e w2 ⟨rfl, hw2⟩
    go_wp2_with fail
    go_ret
    exact ⟨by unfold shown; rw [if_pos hok]; rfl, HW.out.trans (hw2.mono (by omega))⟩

end Go.Proofs.Ytkpamgabhlplfaa

namespace Go.Proofs.Ytkpamgabhlplfaa
open Go.RowKit Go.Siskin

theorem goods_bad {ks : List Fm} {d m k : Nat} (hlt : k < ks.length) (h : goodB ks[k] d (m + Fm.szs (ks.take k)) = false) : false = goodsB ks d m := by
  unfold goodB at h
  unfold goodsB
  cases h1 : okB ks[k] d with
  | false => rw [oksB_bad ks k d hlt h1]; rfl
  | true =>
    rw [h1, Bool.true_and, decide_eq_false_iff_not] at h
    have h2 := Fm.szs_take ks k hlt
    have h3 := Fm.szs_take_le ks (k + 1)
    rw [decide_eq_false (p := m + Fm.szs ks ≤ 1500) (by omega)]; simp

theorem one_cell (w : World) (v : Value) (t : TypeId) : ∀ (j : Nat) u, [v][j]? = some u → (w.alloc (.cells #[v] t)).cell? ((⟨w.heap.size, 0, none⟩ : Addr).add j) = some u := by
  intro j u hj
  match j, hj with
  | 0, hj => simp at hj; subst hj; simp [Addr.add]

set_option maxRecDepth 20000 in
set_option maxHeartbeats 2000000 in
theorem openForms_of (n : Nat) (ih : OpenForm n) : OpenForms n := by
  intro ks hks B w v d m bo hv hB ho hm hd hc
  obtain ⟨a, ca, rfl, hla, ha⟩ := hv
  unfold maxLen at hla
  obtain ⟨i, hi, hz0, hz1, hz2⟩ := info_parts Try.infoIface
  have Hi := hid hi
  have Hz0 := hid hz0
  have Hz1 := hid hz1
  have Hz2 := hid hz2
  have HI := hid ih
  have HR := hid hB
  have HO := hid ho
  have hbo := ho.lt
  clear hi hz0 hz1 hz2 ih hB ho
  go_enter Try.func92, Try.ntmps92
  go_wp2_with fail
  go_loopw [8, 15] (fun v i wr => ∃ k : Nat, k ≤ ks.length ∧ i = .int .i64 k ∧ Hid (AllRel B w bo d m ks k v wr)) (fun _ i _ => ks.length - (intOf i).toNat)
  case atStart =>
    refine ⟨0, Nat.zero_le _, rfl, by simp [oksB], by simpa [Fm.szs] using hm, ⟨World.grownBy.refl _ _, by simpa [Fm.szs] using HO.out⟩, [], World.ownsRow_nil _ _ _ _, fun j _ hj => absurd hj (by omega)⟩
  case round =>
    obtain ⟨k, hk, rfl, HA⟩ := hrel
    by_cases hlt : k < ks.length
    · rcases ha with ha | ⟨ba, oa, rfl, hb, ha⟩
      · subst ha; simp at hlt
      have hsz := HA.out.opened.1.size
      have hsame : SameOn B w wr := grown_on (SameOn.refl _ _) HA.out.opened.1 (fun b hb => ⟨(HR.out b hb).1, fun e => (HR.out b hb).2 (Option.some.inj e)⟩)
      obtain ⟨c0, c1, c2, c3, c4, g0, g1, g2, g3, g4, hf⟩ := RowAt.get ks (RowAt.keep hsame hb ks ha) k hlt
      have HC := hid (HI.out ks[k] (Nat.le_trans (Fm.szs_get ks k hlt) hks) B (wr.alloc (.cells #[c0, c1, c2, c3, c4] 30)) c0 c1 c2 c3 c4 d (m + Fm.szs (ks.take k)) bo (FormAt.keep ((SameOn.refl _ _).alloc (fun b hb => by have := (HR.out b hb).1; omega) _) _ hf) (fun b hb => ⟨by have := (HR.out b hb).1; simp; omega, (HR.out b hb).2⟩) ((Below.heap_alloc _ _ _ (by have := HA.out.opened.1.size; omega)).trans HA.out.opened.2) HA.out.le hd (by have := Fm.costs_get ks k hlt; omega))
      obtain ⟨rfl, rfl, -, h2, rfl, h4⟩ := (formAt_iff _ _ _ _ _ _ _ _).1 hf
      obtain ⟨a2, k2, rfl, -⟩ := h2
      obtain ⟨a4, k4, rfl, -⟩ := h4
      clear ha hf HI hsame
      go_wp2_with fail
      refine HC.out.mono ?_
      rintro e w1 ⟨m', part, hop, rfl, hgo⟩
      have HOP := hid hop
      have HGO := hid hgo
      clear hop hgo HC
      cases hgd : goodB ks[k] d (m + Fm.szs (ks.take k)) with
      | false =>
        have HX := hid (goods_bad hlt hgd)
        go_wp2_with fail
        go_ret2
        have h1 := HOP.out
        have h0 := HA.out.opened
        refine ⟨m', none, 0, 0, ⟨⟨h1.1.os.trans h0.1.os, h1.1.tape.trans h0.1.tape, h1.1.output.trans h0.1.output, by have := h1.1.size; simp at this; omega, fun b hb1 hb2 => ?_⟩, h1.2⟩, ret_tup HX.out, fun h => absurd (HX.out.trans h) (by decide)⟩
        rw [h1.1.block b (by simp; omega) hb2, Below.heap_alloc _ _ _ (by omega)]
        exact h0.1.block b hb1 hb2
      | true =>
        obtain ⟨xs, hown, hvals⟩ := HA.out.vals
        have HGD := hid hgd
        obtain ⟨t, x, hpart⟩ := InAt.iface (HGO.out hgd).2
        subst hpart
        have HV := hid hvals
        have HW := hid hown
        have hs1 := HOP.out.1.size
        simp only [World.size_alloc] at hs1
        have hz1 : w.heap.size ≤ w1.heap.size := by omega
        clear hvals hown
        go_wp2_with (at_builtin; refine wpList_append_own_at _ rfl _ _ 137 rfl w.heap.size 60 i .nilIface 1 16 Try.underlying137 Hi.out Hz0.out Hz1.out Hz2.out rfl (by decide) _ k xs rfl (ownsRow_alloc (ownsRow_grown (ownsRow_alloc HW.out _) HOP.out.1 (fun b e => by have := Option.some.inj e; omega)) _) ⟨w1.heap.size, 0, none⟩ 1 1 [.iface t x] rfl rfl (one_cell _ _ _) (by intro u hu; simp at hu; subst hu; rfl) (by unfold maxLen; omega) (by omega) (by simp; omega) ?_; intro v' w2 hown' hg hnil hb')
        have h2 := HGO.out HGD.out
        have hop := HOP.out
        rw [h2.1] at hop
        exact ⟨⟨k + 1, by omega, by go_num, all_step HR.out hbo hlt HA.out.ok HA.out.opened HW.out HV.out HGD.out hop h2.2 hown' hg hb'⟩, by simp [intOf]; omega⟩
    · have e : k = ks.length := by omega
      obtain ⟨xs, hown, hvals⟩ := HA.out.vals
      have HOK := hid HA.out.ok
      have HLE := hid HA.out.le
      have HOP := hid HA.out.opened
      subst e
      have HV := hid hvals
      have HW := hid hown
      rw [List.take_length] at HOK HLE HOP
      have HX : Hid (true = goodsB ks d m) := by
        show _ = _
        unfold goodsB; rw [HOK.out, decide_eq_true HLE.out]; rfl
      rcases hown.2 with ⟨rfl, h0⟩ | ⟨g, cap, cur, rfl, e2, e3, e4, e5, e6, e7⟩
      · clear hvals hown
        go_wp2_with fail
        go_ret2
        refine ⟨_, none, 0, 0, HOP.out, ret_tup HX.out, fun _ => ⟨by omega, by omega, by omega, Or.inl (List.eq_nil_of_length_eq_zero h0)⟩⟩
      · have HE := hid e3
        have HE7 := hid e7
        have hlt2 := (Array.getElem?_eq_some_iff.1 e3).1
        clear hvals hown e3 e7
        go_wp2_with fail
        go_ret2
        refine ⟨_, _, _, _, HOP.out, ret_tup HX.out, fun _ => ⟨by omega, rfl, e4, Or.inr ⟨g, rfl, Or.inr ⟨e2, hlt2⟩, InRow.mk _ fun j hj => ?_⟩⟩⟩
        rw [toIms_length] at hj
        obtain ⟨x, hx, hin⟩ := HV.out j hj hj
        refine ⟨x, ?_, ?_⟩
        · rw [Nat.zero_add]
          simp only [World.cell?, HE.out]
          rw [← HE7.out] at hx
          rw [List.getElem?_take, if_pos (by omega)] at hx
          simpa using hx
        · rw [toIms_get ks j hj]
          refine InAt.mono ?_ _ hin
          intro b h
          rcases h with h | ⟨a1, a2, -⟩
          · exact Or.inl h
          · exact Or.inr ⟨a1, a2⟩

end Go.Proofs.Ytkpamgabhlplfaa
