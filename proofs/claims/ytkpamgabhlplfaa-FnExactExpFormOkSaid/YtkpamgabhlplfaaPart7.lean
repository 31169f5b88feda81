/-
  The model's l1Ok and ExpFormOk return whether a form is ok. Condition: the form lies in memory, and costs at most 1048576.
  The program's openForm and ExpFormOk say whether a form is ok; what is opened lies in the form's own memory and in new memory. Condition: the form lies in memory, and costs at most 1048576.
  The law's toExpForm copies a form into new memory, if toExpFormS does so of its kids. Condition: the form lies in memory, and costs at most 1048576.
  The law's toExpForm and toExpFormS copy forms into new memory. Condition: the forms lie in memory, and cost at most 1048576.
  The law's eqExpForm and eqExpFormS return true of two places that hold one form. Condition: both lie in memory as FormAt says.
-/
import Derived.Test.YtkpamgabhlplfaaPart6
import Derived.Test.YtkpamgabhlplfaaPart2
import Derived.Deep.RegionWith
namespace Go.Proofs.Ytkpamgabhlplfaa
open Go.RowKit Go.Siskin

theorem listForm_1 {f : Fm} (h : f.text.toList.isEmpty = false) : false = listFormB f := by
  unfold listFormB
  rw [tl_empty, empty_size] at h
  rw [h]; rfl
theorem listForm_2 {f : Fm} (h : ¬ f.frm = 0) : false = listFormB f := by
  unfold listFormB; rw [decide_eq_false h]; simp
theorem listForm_3 {f : Fm} (h : 0 < f.scopes.length) : false = listFormB f := by
  unfold listFormB; rw [decide_eq_false (p := f.scopes.length = 0) (by omega)]; simp
theorem listForm_0 {f : Fm} (h1 : f.text.toList.isEmpty = true) (h2 : f.frm = 0) (h3 : f.scopes.length = 0) : listFormB f = true := by
  unfold listFormB
  rw [tl_empty, empty_size] at h1
  rw [h1, decide_eq_true h2, decide_eq_true h3]; rfl


set_option maxHeartbeats 1000000 in
theorem okForm_bad3 (f : Fm) (B : Nat → Prop) (w : World) (c0 c1 c2 c3 c4 : Value) (d : Nat) (hA : FormAt B w f c0 c1 c2 c3 c4) (hd : d ≤ 60) (hs : f.sort = 3) (hl : listFormB f = false) :
    Calls Try.prog 51 #[.agg #[c0, c1, c2, c3, c4], .int .i64 d] w fun e w' => e = .returned (.bool (okB f d)) ∧ Below w.heap.size w w' := by
  obtain ⟨rfl, rfl, ht, h2, rfl, h4⟩ := (formAt_iff _ _ _ _ _ _ _ _).1 hA
  rw [hs]
  obtain ⟨a2, k2, rfl, hl2, -⟩ := h2
  obtain ⟨a4, k4, rfl, hl4, -⟩ := h4
  have HX : Hid (false = okB f d) := by
    show _ = _
    rw [okB_list f d hd hs, hl]; rfl
  have HL := hid hl
  unfold maxLen at hl2 hl4 ht
  clear hA hs hl
  cases e1 : f.text.toList.isEmpty with
  | false =>
    go_enter Try.func51, Try.ntmps51
    go_wp2_with fail
    go_ret
    exact ⟨ret_bool HX.out, (Below.refl _ _).alloc (Nat.le_refl _) _⟩
  | true =>
  by_cases e2 : f.frm = 0
  · rw [e2]
    by_cases e3 : 0 < f.scopes.length
    · have HE := hid e2
      clear e2
      go_enter Try.func51, Try.ntmps51
      go_wp2_with fail
      go_ret
      exact ⟨ret_bool HX.out, (Below.refl _ _).alloc (Nat.le_refl _) _⟩
    · exact absurd HL.out (by rw [listForm_0 e1 e2 (by omega)]; simp)
  · have e2' : (f.frm != 0) = true := by simpa using e2
    go_enter Try.func51, Try.ntmps51
    go_wp2_with fail
    go_ret
    exact ⟨ret_bool HX.out, (Below.refl _ _).alloc (Nat.le_refl _) _⟩

set_option maxHeartbeats 2000000 in
theorem okForm_list3 (n : Nat) (ih : OkForm n) (f : Fm) (hf : f.sz ≤ n + 1) (B : Nat → Prop) (w : World) (c0 c1 c2 c3 c4 : Value) (d : Nat) (hA : FormAt B w f c0 c1 c2 c3 c4) (hB : ∀ b, B b → b < w.heap.size) (hd : d ≤ 60) (hs : f.sort = 3) (hl : listFormB f = true) (hcost : f.cost ≤ 1048576) :
    Calls Try.prog 51 #[.agg #[c0, c1, c2, c3, c4], .int .i64 d] w fun e w' => e = .returned (.bool (okB f d)) ∧ Below w.heap.size w w' := by
  obtain ⟨rfl, rfl, ht, h2, rfl, h4⟩ := (formAt_iff _ _ _ _ _ _ _ _).1 hA
  have HX := hid (okB_list f d hd hs)
  rw [hs]
  have HS := hid (Fm.sz_kids f)
  have HC := hid (Fm.cost_eq f)
  have HI := hid ih
  have HR := hid hB
  have HL := hid hl
  have e1 : f.text.toList.isEmpty = true := by
    rw [tl_empty, empty_size]; unfold listFormB at hl; simp only [Bool.and_eq_true, decide_eq_true_eq] at hl; exact decide_eq_true hl.1.1
  have e2 : f.frm = 0 := by unfold listFormB at hl; simp only [Bool.and_eq_true, decide_eq_true_eq] at hl; exact hl.1.2
  have e3 : f.scopes.length = 0 := by unfold listFormB at hl; simp only [Bool.and_eq_true, decide_eq_true_eq] at hl; exact hl.2
  obtain ⟨a2, k2, rfl, hl2, -⟩ := h2
  obtain ⟨a4, k4, rfl, hl4, ha⟩ := h4
  unfold maxLen at hl4
  rw [e2, e3]
  clear hA ih hB hl hl2 ht hs e2 e3
  go_enter Try.func51, Try.ntmps51
  go_wp2_with fail
  go_loopw [5] (fun i wr => ∃ k : Nat, k ≤ f.kids.length ∧ i = .int .i64 k ∧ Hid (oksB (f.kids.take k) (d + 1) = true) ∧ Hid (Below (w.heap.size + 1) (w.alloc (.cells #[.int .i64 3, .string f.text, .slice a2 0 k2, .int .i64 0, .slice a4 f.kids.length k4] 30)) wr)) (fun i _ => f.kids.length - (intOf i).toNat)
  case atStart => exact ⟨0, Nat.zero_le _, rfl, by show _ = _; simp [oksB], Below.refl _ _⟩
  case round =>
    obtain ⟨k, hk, rfl, HO, HB⟩ := hrel
    have hcell : ∀ o, wr.cell? ⟨w.heap.size, o, none⟩ = (w.alloc (.cells #[.int .i64 3, .string f.text, .slice a2 0 k2, .int .i64 0, .slice a4 f.kids.length k4] 30)).cell? ⟨w.heap.size, o, none⟩ := fun o => HB.out.cell (p := ⟨w.heap.size, o, none⟩) (by simp)
    by_cases hlt : k < f.kids.length
    · rcases ha with ha | ⟨ba, oa, rfl, hb, ha⟩
      · rw [ha] at hlt; simp at hlt
      have hrow := RowAt.keep (((SameOn.refl _ _).alloc HR.out _).below HB.out (fun b hb => by have := HR.out b hb; omega)) hb f.kids ha
      obtain ⟨c0, c1, c2, c3, c4, g0, g1, g2, g3, g4, hf'⟩ := RowAt.get f.kids hrow k hlt
      have hsz := HB.out.size
      have HC' := hid (HI.out f.kids[k] (by have := Fm.szs_get f.kids k hlt; have := HS.out; omega) B wr c0 c1 c2 c3 c4 (d + 1) hf' (fun b hb => by have := HR.out b hb; simp at hsz; omega) (by omega) (by have := Fm.costs_get f.kids k hlt; have := HC.out; omega))
      have HT := hid (oksB_take f.kids k (d + 1) hlt)
      clear ha hrow hf' HI
      cases hok : okB f.kids[k] (d + 1) with
      | false =>
        have HY := hid (oksB_bad f.kids k (d + 1) hlt hok)
        go_wp2_with (go_at_call 51; refine HC'.out.mono ?_; rintro e w' ⟨rfl, hw⟩)
        go_ret
        refine ⟨ret_bool (by rw [HX.out, HY.out]; simp), ?_⟩
        exact ((Below.refl _ _).alloc (Nat.le_refl _) _).trans ((HB.out.trans (hw.mono (by simpa using hsz))).mono (by omega))
      | true =>
        go_wp2_with (go_at_call 51; refine HC'.out.mono ?_; rintro e w' ⟨rfl, hw⟩)
        exact ⟨⟨k + 1, by omega, by go_num, by show _ = _; rw [HT.out, HO.out, hok]; rfl, HB.out.trans (hw.mono (by simpa using hsz))⟩, by simp [intOf]; omega⟩
    · have HK : Hid (oksB f.kids (d + 1) = true) := by
        have h := HO.out
        rw [List.take_of_length_le (by omega)] at h
        exact h
      have HLo := hid (((Below.refl w.heap.size w).alloc (Nat.le_refl _) (.cells #[.int .i64 3, .string f.text, .slice a2 0 k2, .int .i64 0, .slice a4 f.kids.length k4] 30)).trans (HB.out.mono (by omega)))
      go_wp2_with fail
      go_ret
      exact ⟨ret_bool (by rw [HX.out, HK.out, HL.out]; rfl), HLo.out⟩


set_option maxHeartbeats 1000000 in
theorem okForm_bad4 (f : Fm) (B : Nat → Prop) (w : World) (c0 c1 c2 c3 c4 : Value) (d : Nat) (hA : FormAt B w f c0 c1 c2 c3 c4) (hd : d ≤ 60) (hs : f.sort = 4) (hl : listFormB f = false) :
    Calls Try.prog 51 #[.agg #[c0, c1, c2, c3, c4], .int .i64 d] w fun e w' => e = .returned (.bool (okB f d)) ∧ Below w.heap.size w w' := by
  obtain ⟨rfl, rfl, ht, h2, rfl, h4⟩ := (formAt_iff _ _ _ _ _ _ _ _).1 hA
  rw [hs]
  obtain ⟨a2, k2, rfl, hl2, -⟩ := h2
  obtain ⟨a4, k4, rfl, hl4, -⟩ := h4
  have HX : Hid (false = okB f d) := by
    show _ = _
    rw [okB_dots f d hd hs, hl]; rfl
  have HL := hid hl
  unfold maxLen at hl2 hl4 ht
  clear hA hs hl
  cases e1 : f.text.toList.isEmpty with
  | false =>
    go_enter Try.func51, Try.ntmps51
    go_wp2_with fail
    go_ret
    exact ⟨ret_bool HX.out, (Below.refl _ _).alloc (Nat.le_refl _) _⟩
  | true =>
  by_cases e2 : f.frm = 0
  · rw [e2]
    by_cases e3 : 0 < f.scopes.length
    · have HE := hid e2
      clear e2
      go_enter Try.func51, Try.ntmps51
      go_wp2_with fail
      go_ret
      exact ⟨ret_bool HX.out, (Below.refl _ _).alloc (Nat.le_refl _) _⟩
    · exact absurd HL.out (by rw [listForm_0 e1 e2 (by omega)]; simp)
  · have e2' : (f.frm != 0) = true := by simpa using e2
    go_enter Try.func51, Try.ntmps51
    go_wp2_with fail
    go_ret
    exact ⟨ret_bool HX.out, (Below.refl _ _).alloc (Nat.le_refl _) _⟩

set_option maxHeartbeats 2000000 in
theorem okForm_list4 (n : Nat) (ih : OkForm n) (f : Fm) (hf : f.sz ≤ n + 1) (B : Nat → Prop) (w : World) (c0 c1 c2 c3 c4 : Value) (d : Nat) (hA : FormAt B w f c0 c1 c2 c3 c4) (hB : ∀ b, B b → b < w.heap.size) (hd : d ≤ 60) (hs : f.sort = 4) (hl : listFormB f = true) (hcost : f.cost ≤ 1048576) :
    Calls Try.prog 51 #[.agg #[c0, c1, c2, c3, c4], .int .i64 d] w fun e w' => e = .returned (.bool (okB f d)) ∧ Below w.heap.size w w' := by
  obtain ⟨rfl, rfl, ht, h2, rfl, h4⟩ := (formAt_iff _ _ _ _ _ _ _ _).1 hA
  have HX := hid (okB_dots f d hd hs)
  rw [hs]
  have HS := hid (Fm.sz_kids f)
  have HC := hid (Fm.cost_eq f)
  have HI := hid ih
  have HR := hid hB
  have HL := hid hl
  have e1 : f.text.toList.isEmpty = true := by
    rw [tl_empty, empty_size]; unfold listFormB at hl; simp only [Bool.and_eq_true, decide_eq_true_eq] at hl; exact decide_eq_true hl.1.1
  have e2 : f.frm = 0 := by unfold listFormB at hl; simp only [Bool.and_eq_true, decide_eq_true_eq] at hl; exact hl.1.2
  have e3 : f.scopes.length = 0 := by unfold listFormB at hl; simp only [Bool.and_eq_true, decide_eq_true_eq] at hl; exact hl.2
  obtain ⟨a2, k2, rfl, hl2, -⟩ := h2
  obtain ⟨a4, k4, rfl, hl4, ha⟩ := h4
  unfold maxLen at hl4
  rw [e2, e3]
  clear hA ih hB hl hl2 ht hs e2 e3
  go_enter Try.func51, Try.ntmps51
  go_wp2_with fail
  go_loopw [5] (fun i wr => ∃ k : Nat, k ≤ f.kids.length ∧ i = .int .i64 k ∧ Hid (oksB (f.kids.take k) (d + 1) = true) ∧ Hid (Below (w.heap.size + 1) (w.alloc (.cells #[.int .i64 4, .string f.text, .slice a2 0 k2, .int .i64 0, .slice a4 f.kids.length k4] 30)) wr)) (fun i _ => f.kids.length - (intOf i).toNat)
  case atStart => exact ⟨0, Nat.zero_le _, rfl, by show _ = _; simp [oksB], Below.refl _ _⟩
  case round =>
    obtain ⟨k, hk, rfl, HO, HB⟩ := hrel
    have hcell : ∀ o, wr.cell? ⟨w.heap.size, o, none⟩ = (w.alloc (.cells #[.int .i64 4, .string f.text, .slice a2 0 k2, .int .i64 0, .slice a4 f.kids.length k4] 30)).cell? ⟨w.heap.size, o, none⟩ := fun o => HB.out.cell (p := ⟨w.heap.size, o, none⟩) (by simp)
    by_cases hlt : k < f.kids.length
    · rcases ha with ha | ⟨ba, oa, rfl, hb, ha⟩
      · rw [ha] at hlt; simp at hlt
      have hrow := RowAt.keep (((SameOn.refl _ _).alloc HR.out _).below HB.out (fun b hb => by have := HR.out b hb; omega)) hb f.kids ha
      obtain ⟨c0, c1, c2, c3, c4, g0, g1, g2, g3, g4, hf'⟩ := RowAt.get f.kids hrow k hlt
      have hsz := HB.out.size
      have HC' := hid (HI.out f.kids[k] (by have := Fm.szs_get f.kids k hlt; have := HS.out; omega) B wr c0 c1 c2 c3 c4 (d + 1) hf' (fun b hb => by have := HR.out b hb; simp at hsz; omega) (by omega) (by have := Fm.costs_get f.kids k hlt; have := HC.out; omega))
      have HT := hid (oksB_take f.kids k (d + 1) hlt)
      clear ha hrow hf' HI
      cases hok : okB f.kids[k] (d + 1) with
      | false =>
        have HY := hid (oksB_bad f.kids k (d + 1) hlt hok)
        go_wp2_with (go_at_call 51; refine HC'.out.mono ?_; rintro e w' ⟨rfl, hw⟩)
        go_ret
        refine ⟨ret_bool (by rw [HX.out, HY.out]; simp), ?_⟩
        exact ((Below.refl _ _).alloc (Nat.le_refl _) _).trans ((HB.out.trans (hw.mono (by simpa using hsz))).mono (by omega))
      | true =>
        go_wp2_with (go_at_call 51; refine HC'.out.mono ?_; rintro e w' ⟨rfl, hw⟩)
        exact ⟨⟨k + 1, by omega, by go_num, by show _ = _; rw [HT.out, HO.out, hok]; rfl, HB.out.trans (hw.mono (by simpa using hsz))⟩, by simp [intOf]; omega⟩
    · have HK : Hid (oksB f.kids (d + 1) = true) := by
        have h := HO.out
        rw [List.take_of_length_le (by omega)] at h
        exact h
      have HLo := hid (((Below.refl w.heap.size w).alloc (Nat.le_refl _) (.cells #[.int .i64 4, .string f.text, .slice a2 0 k2, .int .i64 0, .slice a4 f.kids.length k4] 30)).trans (HB.out.mono (by omega)))
      by_cases hn : 1 < f.kids.length
      · rcases ha with ha | ⟨ba, oa, rfl, hb, ha⟩
        · rw [ha] at hn; simp at hn
        have hrow := RowAt.keep (((SameOn.refl _ _).alloc HR.out _).below HB.out (fun b hb => by have := HR.out b hb; omega)) hb f.kids ha
        obtain ⟨c0, c1, c2, c3, c4, g0, -, -, -, -, hf'⟩ := RowAt.get f.kids hrow (f.kids.length - 1) (by omega)
        obtain ⟨rfl, -⟩ := (formAt_iff _ _ _ _ _ _ _ _).1 hf'
        have HE : Hid (endB f.kids = (decide (f.kids[f.kids.length - 1].sort = 1) || decide (f.kids[f.kids.length - 1].sort = 2))) := by
          show _ = _
          unfold endB
          rw [decide_eq_true hn, List.getD_eq_getElem?_getD, List.getElem?_eq_getElem (by omega)]; rfl
        have HY : Hid (okB f d = (decide (f.kids[f.kids.length - 1].sort = 1) || decide (f.kids[f.kids.length - 1].sort = 2))) := by
          show _ = _
          rw [HX.out, HK.out, HL.out, HE.out]; rfl
        generalize f.kids[f.kids.length - 1].sort = z at *
        have hn' : (1 : Int) < (f.kids.length : Int) := by omega
        clear ha hrow hf' HI HE
        go_wp2_with fail
        · rename_i hz
          go_ret
          exact ⟨ret_bool (by rw [HY.out, hz]; rfl), HLo.out⟩
        · rename_i hz _
          go_ret
          refine ⟨ret_bool ?_, HLo.out⟩
          rw [HY.out, decide_eq_false hz]
          by_cases h2 : z = 2
          · rw [h2]; rfl
          · rw [decide_eq_false h2, beq_eq_false_iff_ne.2 h2, beq_eq_false_iff_ne.2 hz]
      · have HE : Hid (endB f.kids = false) := by
          show _ = _
          unfold endB; rw [decide_eq_false hn]; rfl
        go_wp2_with fail
        go_ret
        exact ⟨ret_bool (by rw [HX.out, HE.out]; simp), HLo.out⟩

set_option maxHeartbeats 1000000 in
theorem okForm_of (n : Nat) (ih : OkForm n) : OkForm (n + 1) := by
  intro f hf B w c0 c1 c2 c3 c4 d hA hB hd hc
  by_cases h60 : 60 < d
  · have HX := hid (okB_deep f d h60)
    go_enter Try.func51, Try.ntmps51
    go_wp2_with fail
    go_ret
    exact ⟨ret_bool HX.out.symm, (Below.refl _ _).alloc (Nat.le_refl _) _⟩
  by_cases s1 : f.sort = 1
  · exact okForm_id f B w c0 c1 c2 c3 c4 d hA hB (by omega) s1
  by_cases s2 : f.sort = 2
  · exact okForm_atom f B w c0 c1 c2 c3 c4 d hA (by omega) s2 hc
  by_cases s3 : f.sort = 3
  · cases hl : listFormB f with
    | false => exact okForm_bad3 f B w c0 c1 c2 c3 c4 d hA (by omega) s3 hl
    | true => exact okForm_list3 n ih f hf B w c0 c1 c2 c3 c4 d hA hB (by omega) s3 hl hc
  by_cases s4 : f.sort = 4
  · cases hl : listFormB f with
    | false => exact okForm_bad4 f B w c0 c1 c2 c3 c4 d hA (by omega) s4 hl
    | true => exact okForm_list4 n ih f hf B w c0 c1 c2 c3 c4 d hA hB (by omega) s4 hl hc
  have HX := hid (okB_none f d s1 s2 s3 s4)
  obtain ⟨rfl, rfl, ht, h2, rfl, h4⟩ := (formAt_iff _ _ _ _ _ _ _ _).1 hA
  have b1 : (f.sort == 1) = false := by simpa using s1
  have b2 : (f.sort == 2) = false := by simpa using s2
  have b3 : (f.sort == 3) = false := by simpa using s3
  have b4 : (f.sort == 4) = false := by simpa using s4
  clear hA h2 h4 s1 s2 s3 s4 hB ih
  go_enter Try.func51, Try.ntmps51
  go_wp2_with fail
  go_ret
  exact ⟨ret_bool HX.out.symm, (Below.refl _ _).alloc (Nat.le_refl _) _⟩

theorem okForm_all : ∀ n, OkForm n
  | 0 => fun f hf => by have := Fm.sz_kids f; omega
  | n + 1 => okForm_of n (okForm_all n)

/-- The model's ExpFormOk: ok, and not too many forms. -/
def formOk (f : Fm) : Bool := okB f 0 && decide (f.sz ≤ 1500)

set_option maxHeartbeats 1000000 in
theorem specFormOk_any (f : Fm) (B : Nat → Prop) (w : World) (c0 c1 c2 c3 c4 : Value) (hA : FormAt B w f c0 c1 c2 c3 c4) (hB : ∀ b, B b → b < w.heap.size) (hc : f.cost ≤ 1048576) :
    Calls Try.prog 22 #[.agg #[c0, c1, c2, c3, c4]] w fun e w' => e = .returned (.bool (formOk f)) ∧ Below w.heap.size w w' := by
  have H1 := hid (okForm_all f.sz f (Nat.le_refl _) B (w.alloc (.cells #[c0, c1, c2, c3, c4] 30)) c0 c1 c2 c3 c4 0 (FormAt.keep ((SameOn.refl _ _).alloc hB _) _ hA) (fun b hb => by have := hB b hb; simp; omega) (by omega) hc)
  have hsz : f.sz ≤ 2000000 := by have := Fm.sz_le f; omega
  have HA := hid hA
  have HR := hid hB
  obtain ⟨rfl, rfl, -, h2, rfl, h4⟩ := (formAt_iff _ _ _ _ _ _ _ _).1 hA
  obtain ⟨a2, k2, rfl, -⟩ := h2
  obtain ⟨a4, k4, rfl, -⟩ := h4
  clear hA hB
  cases h0 : okB f 0 with
  | false =>
    go_enter Try.func22, Try.ntmps22
    go_wp2_with (go_at_call 51; refine H1.out.mono ?_; rintro e w1 ⟨rfl, hw⟩)
    go_ret
    exact ⟨ret_bool (by unfold formOk; rw [h0]; rfl), ((Below.refl _ _).alloc (Nat.le_refl _) _).trans (hw.mono (by simp))⟩
  | true =>
    go_enter Try.func22, Try.ntmps22
    go_wp2_with fail
    refine H1.out.mono ?_
    rintro e w1 ⟨rfl, hw⟩
    rw [h0]
    obtain ⟨hc1, -⟩ := bcell hw
    have hz1 : w.heap.size < w1.heap.size := by have := hw.size; simp at this; omega
    have HW := hid hw
    clear hw
    go_wp2_with fail
    refine (l1Size_any f B w1 _ _ _ _ _ (FormAt.keep (((SameOn.refl _ _).alloc HR.out _).below HW.out (fun b hb => by have := HR.out b hb; simp; omega)) _ HA.out) (fun b hb => by have := HR.out b hb; omega) hsz).mono ?_
    rintro e w2 ⟨rfl, hw2⟩
    go_wp2_with fail
    go_ret
    refine ⟨ret_bool ?_, (((Below.refl _ _).alloc (Nat.le_refl _) _).trans (HW.out.mono (by simp))).trans (hw2.mono (by omega))⟩
    unfold formOk; rw [h0, Bool.true_and]; exact decide_eq_decide.2 (by omega)

end Go.Proofs.Ytkpamgabhlplfaa

namespace Go.Proofs.Ytkpamgabhlplfaa
open Go.RowKit Go.Siskin

theorem good_ok (f : Fm) : goodB f 0 0 = formOk f := by
  unfold goodB formOk; rw [Nat.zero_add]

/-- The program's way into a form: just where it is ok; what comes out lies in the form's own memory and in new memory. -/
theorem openForm_any (f : Fm) (B : Nat → Prop) (w : World) (c0 c1 c2 c3 c4 : Value) (hA : FormAt B w f c0 c1 c2 c3 c4) (hB : ∀ b, B b → b < w.heap.size) (hc : f.cost ≤ 1048576) :
    Calls Try.prog 29 #[.agg #[c0, c1, c2, c3, c4]] w fun e w' => ∃ v, e = .returned (.tuple #[v, .bool (formOk f)]) ∧ Below w.heap.size w w' ∧ (formOk f = true → InAt (Reg B w w') w' (toIm f) v) := by
  have H := hid (fun o1 : Obj => (openForm_all f.sz).1 f (Nat.le_refl _) B ((w.alloc o1).alloc (.cells #[.int .i64 0] 98)) c0 c1 c2 c3 c4 0 0 (w.heap.size + 1) (FormAt.keep (((SameOn.refl _ _).alloc hB _).alloc (fun b hb => by have := hB b hb; simp; omega) _) _ hA) (fun b hb => by have := hB b hb; simp; omega) (by have := own_new (w.alloc o1) #[.int .i64 0] 98; simpa using this) (by omega) (by omega) hc)
  obtain ⟨rfl, rfl, ht, h2, rfl, h4⟩ := (formAt_iff _ _ _ _ _ _ _ _).1 hA
  obtain ⟨a2, k2, rfl, -⟩ := h2
  obtain ⟨a4, k4, rfl, -⟩ := h4
  clear hA hB
  go_enter Try.func29, Try.ntmps29
  go_wp2_with fail
  refine (H.out _).mono ?_
  rintro e w2 ⟨m', v, hop, rfl, hgo⟩
  have HOP := hid hop
  have HGO := hid hgo
  clear hop hgo H
  go_wp2_with fail
  go_ret2
  have h := HOP.out
  have hs := h.1.size
  simp only [World.size_alloc] at hs
  refine ⟨v, ret_tup (good_ok f), ⟨h.1.os, h.1.tape, h.1.output, by omega, fun k hk => ?_⟩, fun hg => ?_⟩
  · rw [h.1.block k (by simp; omega) (fun e => by have := Option.some.inj e; omega), Below.heap_alloc _ _ _ (by simp; omega), Below.heap_alloc _ _ _ hk]
  · obtain ⟨-, h2⟩ := HGO.out ((good_ok f).trans hg)
    exact InAt.mono (reg_after (by simp; omega)) _ h2

set_option maxHeartbeats 1000000 in
theorem implFormOk_any (f : Fm) (B : Nat → Prop) (w : World) (c0 c1 c2 c3 c4 : Value) (hA : FormAt B w f c0 c1 c2 c3 c4) (hB : ∀ b, B b → b < w.heap.size) (hc : f.cost ≤ 1048576) :
    Calls Try.prog 23 #[.agg #[c0, c1, c2, c3, c4]] w fun e w' => e = .returned (.bool (formOk f)) ∧ Below w.heap.size w w' := by
  have H := hid (fun o1 : Obj => openForm_any f B (w.alloc o1) c0 c1 c2 c3 c4 (FormAt.keep ((SameOn.refl _ _).alloc hB _) _ hA) (fun b hb => by have := hB b hb; simp; omega) hc)
  obtain ⟨rfl, rfl, ht, h2, rfl, h4⟩ := (formAt_iff _ _ _ _ _ _ _ _).1 hA
  obtain ⟨a2, k2, rfl, -⟩ := h2
  obtain ⟨a4, k4, rfl, -⟩ := h4
  clear hA hB
  go_enter Try.func23, Try.ntmps23
  go_wp2_with fail
  refine (H.out _).mono ?_
  rintro e w2 ⟨v, rfl, hw, -⟩
  have HW := hid hw
  clear hw H
  go_wp2_with fail
  go_ret
  exact ⟨rfl, ((Below.refl _ _).alloc (Nat.le_refl _) _).trans (HW.out.mono (by simp))⟩

end Go.Proofs.Ytkpamgabhlplfaa

namespace Go.Proofs.Ytkpamgabhlplfaa
open Go.RowKit Go.Siskin

def ToForm (n : Nat) : Prop := ∀ f : Fm, f.sz ≤ n → ∀ (B : Nat → Prop) (w : World) (c0 c1 c2 c3 c4 : Value), FormAt B w f c0 c1 c2 c3 c4 → (∀ b, B b → b < w.heap.size) → f.cost ≤ 1048576 →
    Calls Try.prog 9 #[.agg #[c0, c1, c2, c3, c4]] w fun e w' => ∃ d0 d1 d2 d3 d4, e = .returned (.agg #[d0, d1, d2, d3, d4]) ∧ FormAt (Fresh w w') w' f d0 d1 d2 d3 d4 ∧ Below w.heap.size w w'
def ToForms (n : Nat) : Prop := ∀ ks : List Fm, Fm.szs ks ≤ n → ∀ (B : Nat → Prop) (w : World) (v : Value), FormsAt B w v ks → (∀ b, B b → b < w.heap.size) → ks.length + Fm.costs ks ≤ 1048576 →
    Calls Try.prog 28 #[v] w fun e w' => ∃ u, e = .returned u ∧ FormsAt (Fresh w w') w' u ks ∧ Below w.heap.size w w'

set_option maxHeartbeats 1000000 in
theorem toForm_of (n : Nat) (ih : ToForms n) : ToForm (n + 1) := by
  intro f hf B w c0 c1 c2 c3 c4 hA hB h0
  obtain ⟨rfl, rfl, ht, h2, rfl, h4⟩ := (formAt_iff _ _ _ _ _ _ _ _).1 hA
  have HC := hid (Fm.cost_eq f)
  have HS := hid (Fm.sz_kids f)
  have hl : f.scopes.length ≤ 1048576 := by have := HC.out; omega
  have H2 := hid h2
  have H4 := hid h4
  have HI := hid ih
  have HR := hid hB
  clear h2 h4 hA ih hB
  go_enter Try.func9, Try.ntmps9
  go_wp2_with fail
  refine (toIntS_any B _ f.scopes _ (H2.out.keep (((((SameOn.refl _ _).alloc HR.out _).alloc (fun b hb => by have := HR.out b hb; simp; omega) _).alloc (fun b hb => by have := HR.out b hb; simp; omega) _))) (fun b hb => by have := HR.out b hb; simp; omega) hl).mono ?_
  rintro e w1 ⟨v2, rfl, hi1, hb1⟩
  obtain ⟨a2, k2, rfl, -⟩ := id hi1
  obtain ⟨hc1, hf1⟩ := bcell hb1
  have hz1 : w.heap.size + 2 < w1.heap.size := by have := hb1.size; simp at this; omega
  have hz1a : w.heap.size + 1 < w1.heap.size := by omega
  have hz1b : w.heap.size < w1.heap.size := by omega
  have HI1 := hid hi1
  have HB1 := hid hb1
  clear hi1 hb1
  go_wp2_with fail
  refine (HI.out f.kids (by have := HS.out; omega) B _ c4 (H4.out.keep ?_) ?_ (by have := HC.out; omega)).mono ?_
  · exact (((((((SameOn.refl _ _).alloc HR.out _).alloc (fun b hb => by have := HR.out b hb; simp; omega) _).alloc (fun b hb => by have := HR.out b hb; simp; omega) _).below HB1.out (fun b hb => by have := HR.out b hb; simp; omega)).setCell (fun hb => by have := HR.out _ hb; simp at this; omega) _).setCell (fun hb => by have := HR.out _ hb; simp at this; omega) _)
  · exact fun b hb => by have := HR.out b hb; simp; omega
  rintro e w2 ⟨u, rfl, hi2, hb2⟩
  obtain ⟨a4, k4, rfl, -⟩ := id hi2
  obtain ⟨hc2, hf2⟩ := bcell hb2
  have hz2 : w1.heap.size ≤ w2.heap.size := by have := hb2.size; simp at this; omega
  have HI2 := hid hi2
  have HB2 := hid hb2
  clear hi2 hb2
  go_wp2_with fail
  refine bodyPost_ret (v := .agg #[.int .i64 f.sort, .string f.text, .slice a2 f.scopes.length k2, .int .i64 f.frm, .slice a4 f.kids.length k4]) (by simp [results, Try.results9, go_sem, hc1, hc2, hz1a]) rfl ⟨_, _, _, _, _, rfl, ?_, ?_⟩
  · refine (formAt_iff _ _ _ _ _ _ _ _).2 ⟨rfl, rfl, ht, (HI1.out.keep ?_).mono ?_, rfl, (HI2.out.keep ?_).mono ?_⟩
    · refine ((((((((SameOn.refl _ _).setCell ?_ _).setCell ?_ _).below HB2.out ?_).setCell ?_ _).setCell ?_ _).setCell ?_ _).setCell ?_ _).setCell ?_ _ |>.setCell ?_ _
      all_goals first
        | (intro h; have := h.1; simp at this; omega)
        | (intro b h; have := h.2; simp; omega)
    · intro b h; have h1 := h.1; have h2 := h.2; exact ⟨by simp at h1; omega, by simp; omega⟩
    · refine ((((((SameOn.refl _ _).setCell ?_ _).setCell ?_ _).setCell ?_ _).setCell ?_ _).setCell ?_ _).setCell ?_ _
      all_goals (intro h; have := h.1; simp at this; omega)
    · intro b h; have h1 := h.1; have h2 := h.2; exact ⟨by simp at h1; omega, by simp; omega⟩
  · refine (((((((((((((Below.refl _ _).alloc (Nat.le_refl _) _).alloc (by simp) _).alloc (by simp; omega) _).trans (HB1.out.mono (by simp; omega))).setCell ?_ _).setCell ?_ _).trans (HB2.out.mono (by simp; omega))).setCell ?_ _).setCell ?_ _).setCell ?_ _).setCell ?_ _).setCell ?_ _).setCell ?_ _
    all_goals (simp; try omega)

end Go.Proofs.Ytkpamgabhlplfaa

namespace Go.Proofs.Ytkpamgabhlplfaa
open Go.RowKit Go.Siskin

/-- The first k forms stand in a block of the call's own; what they lead to lies behind it. -/
def Got (g : Nat) (wr : World) (cs : Array Value) (ks : List Fm) (k : Nat) : Prop :=
  ∀ j (hj : j < ks.length), j < k → ∃ d0 d1 d2 d3 d4, cs[j * 5]? = some d0 ∧ cs[j * 5 + 1]? = some d1 ∧ cs[j * 5 + 2]? = some d2 ∧ cs[j * 5 + 3]? = some d3 ∧ cs[j * 5 + 4]? = some d4 ∧ FormAt (fun b => g < b ∧ b < wr.heap.size) wr ks[j] d0 d1 d2 d3 d4

/-- Five cells in a row. -/
def put5 (w : World) (g o : Nat) (d0 d1 d2 d3 d4 : Value) : World :=
  ((((w.setCell ⟨g, o, none⟩ d0).setCell ⟨g, o + 1, none⟩ d1).setCell ⟨g, o + 2, none⟩ d2).setCell ⟨g, o + 3, none⟩ d3).setCell ⟨g, o + 4, none⟩ d4
def arr5 (cs : Array Value) (o : Nat) (d0 d1 d2 d3 d4 : Value) : Array Value :=
  ((((cs.setIfInBounds o d0).setIfInBounds (o + 1) d1).setIfInBounds (o + 2) d2).setIfInBounds (o + 3) d3).setIfInBounds (o + 4) d4

theorem put5_own {w : World} {g : Nat} {e : TypeId} {cs : Array Value} (h : Own w g e cs) (o : Nat) (d0 d1 d2 d3 d4 : Value) : Own (put5 w g o d0 d1 d2 d3 d4) g e (arr5 cs o d0 d1 d2 d3 d4) :=
  ((((h.set o d0).set (o + 1) d1).set (o + 2) d2).set (o + 3) d3).set (o + 4) d4
theorem put5_size (w : World) (g o : Nat) (d0 d1 d2 d3 d4 : Value) : (put5 w g o d0 d1 d2 d3 d4).heap.size = w.heap.size := by simp [put5]
theorem put5_same {R : Nat → Prop} {a w : World} (h : SameOn R a w) {g : Nat} (hg : ¬ R g) (o : Nat) (d0 d1 d2 d3 d4 : Value) : SameOn R a (put5 w g o d0 d1 d2 d3 d4) :=
  ((((h.setCell hg _).setCell hg _).setCell hg _).setCell hg _).setCell hg _
theorem put5_below {B : Nat} {a w : World} (h : Below B a w) {g : Nat} (hg : B ≤ g) (o : Nat) (d0 d1 d2 d3 d4 : Value) : Below B a (put5 w g o d0 d1 d2 d3 d4) :=
  ((((h.setCell hg _).setCell hg _).setCell hg _).setCell hg _).setCell hg _
theorem arr5_size (cs : Array Value) (o : Nat) (d0 d1 d2 d3 d4 : Value) : (arr5 cs o d0 d1 d2 d3 d4).size = cs.size := by simp [arr5]
theorem arr5_out {cs : Array Value} {o : Nat} (d0 d1 d2 d3 d4 : Value) {i : Nat} (h : i < o ∨ o + 5 ≤ i) : (arr5 cs o d0 d1 d2 d3 d4)[i]? = cs[i]? := by
  unfold arr5
  rw [Array.getElem?_setIfInBounds, if_neg (by omega), Array.getElem?_setIfInBounds, if_neg (by omega), Array.getElem?_setIfInBounds, if_neg (by omega), Array.getElem?_setIfInBounds, if_neg (by omega), Array.getElem?_setIfInBounds, if_neg (by omega)]
theorem arr5_in {cs : Array Value} {o : Nat} (d0 d1 d2 d3 d4 : Value) (h : o + 5 ≤ cs.size) :
    (arr5 cs o d0 d1 d2 d3 d4)[o]? = some d0 ∧ (arr5 cs o d0 d1 d2 d3 d4)[o + 1]? = some d1 ∧ (arr5 cs o d0 d1 d2 d3 d4)[o + 2]? = some d2 ∧ (arr5 cs o d0 d1 d2 d3 d4)[o + 3]? = some d3 ∧ (arr5 cs o d0 d1 d2 d3 d4)[o + 4]? = some d4 := by
  unfold arr5
  refine ⟨?_, ?_, ?_, ?_, ?_⟩ <;> simp [Array.getElem?_setIfInBounds] <;> omega

theorem got_step {g k : Nat} {wr w1 : World} {cs : Array Value} {ks : List Fm} {d0 d1 d2 d3 d4 : Value} (hcs : cs.size = ks.length * 5) (hlt : k < ks.length) (hg : g < wr.heap.size) (hb : Below wr.heap.size wr w1)
    (hf : FormAt (Fresh wr w1) w1 ks[k] d0 d1 d2 d3 d4) (got : Got g wr cs ks k) : Got g (put5 w1 g (k * 5) d0 d1 d2 d3 d4) (arr5 cs (k * 5) d0 d1 d2 d3 d4) ks (k + 1) := by
  intro j hj hjk
  have hs := hb.size
  by_cases e : j = k
  · subst e
    obtain ⟨e0, e1, e2, e3, e4⟩ := arr5_in (cs := cs) (o := j * 5) d0 d1 d2 d3 d4 (by omega)
    refine ⟨d0, d1, d2, d3, d4, e0, e1, e2, e3, e4, FormAt.mono ?_ _ (FormAt.keep (put5_same (SameOn.refl _ _) ?_ _ _ _ _ _ _) _ hf)⟩
    · intro b h; have h1 := h.1; have h2 := h.2; rw [put5_size]; exact ⟨by omega, h2⟩
    · intro h; have h1 := h.1; omega
  · obtain ⟨x0, x1, x2, x3, x4, e0, e1, e2, e3, e4, hx⟩ := got j hj (by omega)
    refine ⟨x0, x1, x2, x3, x4, ?_, ?_, ?_, ?_, ?_, FormAt.mono ?_ _ (FormAt.keep (put5_same ((SameOn.refl _ _).below hb ?_) ?_ _ _ _ _ _ _) _ hx)⟩
    · rw [arr5_out _ _ _ _ _ (by omega)]; exact e0
    · rw [arr5_out _ _ _ _ _ (by omega)]; exact e1
    · rw [arr5_out _ _ _ _ _ (by omega)]; exact e2
    · rw [arr5_out _ _ _ _ _ (by omega)]; exact e3
    · rw [arr5_out _ _ _ _ _ (by omega)]; exact e4
    · intro b h; rw [put5_size]; exact ⟨h.1, by omega⟩
    · intro b h; exact h.2
    · intro h; omega

set_option maxHeartbeats 1000000 in
theorem toForms_of (n : Nat) (ih : ToForm n) : ToForms n := by
  intro ks hks B w v hv hB hn
  obtain ⟨a, ca, rfl, hla, ha⟩ := hv
  unfold maxLen at hla
  obtain ⟨i, hi, hz0, hz1, hz2⟩ := info_parts Try.infoForm
  have Hi := hid hi
  have Hz0 := hid hz0
  have Hz1 := hid hz1
  have Hz2 := hid hz2
  have HI := hid ih
  have HR := hid hB
  clear hi hz0 hz1 hz2 ih hB
  have hn1 : ks.length ≤ 1048576 := by omega
  go_enter Try.func28, Try.ntmps28
  go_wp2_with (at_make; refine wpList_make_new _ rfl _ _ 28 rfl 30 i (.agg #[.int .i64 0, .string ⟨#[]⟩, .slice none 0 0, .int .i64 0, .slice none 0 0]) 5 Try.underlying28 Hi.out Hz0.out Hz1.out .i64 .i64 ks.length rfl rfl (by rw [Hz2.out]; omega) (by unfold maxLen; omega) ?_)
  go_loopw [4] (fun i wr => ∃ k : Nat, k ≤ ks.length ∧ i = .int .i64 k ∧ Hid (∃ cs : Array Value, Own wr w.heap.size 30 cs ∧ cs.size = ks.length * 5 ∧ Got w.heap.size wr cs ks k ∧ Below w.heap.size w wr)) (fun i _ => ks.length - (intOf i).toNat)
  case atStart => exact ⟨0, Nat.zero_le _, rfl, _, own_new _ _ _, size_madeCells _ _, fun j _ hj => absurd hj (by omega), (Below.refl _ _).alloc (Nat.le_refl _) _⟩
  case round =>
    obtain ⟨k, hk, rfl, HA⟩ := hrel
    obtain ⟨cs, ho, hcs, hgot, hbel⟩ := HA.out
    have HO := hid ho
    have HG := hid hgot
    have HB := hid hbel
    clear ho hgot hbel HA
    by_cases hlt : k < ks.length
    · rcases ha with ha | ⟨ba, oa, rfl, hb, ha⟩
      · subst ha; simp at hlt
      have hrow := RowAt.keep (HB.out.on HR.out) hb ks ha
      obtain ⟨c0, c1, c2, c3, c4, g0, g1, g2, g3, g4, hf⟩ := RowAt.get ks hrow k hlt
      have HC := hid (HI.out ks[k] (Nat.le_trans (Fm.szs_get ks k hlt) hks) B wr c0 c1 c2 c3 c4 hf (fun b hb => by have := HR.out b hb; have := HB.out.size; omega) (by have := Fm.costs_get ks k hlt; omega))
      clear ha hf hrow HI
      go_wp2_with fail
      refine HC.out.mono ?_
      rintro e w1 ⟨d0, d1, d2, d3, d4, rfl, hf, hw⟩
      have HF := hid hf
      obtain ⟨rfl, rfl, -, h2, rfl, h4⟩ := (formAt_iff _ _ _ _ _ _ _ _).1 hf
      obtain ⟨a2, k2, rfl, -⟩ := h2
      obtain ⟨a4, k4, rfl, -⟩ := h4
      have ho1 := HO.out.keep hw HO.out.lt
      have q0 := ho1.cell (k * 5)
      have q1 := ho1.cell (k * 5 + 1)
      have q2 := ho1.cell (k * 5 + 2)
      have q3 := ho1.cell (k * 5 + 3)
      have q4 := ho1.cell (k * 5 + 4)
      rw [Array.getElem?_eq_getElem (by omega)] at q0 q1 q2 q3 q4
      have f0 := ho1.frozen (k * 5)
      have f1 := ho1.frozen (k * 5 + 1)
      have f2 := ho1.frozen (k * 5 + 2)
      have f3 := ho1.frozen (k * 5 + 3)
      have f4 := ho1.frozen (k * 5 + 4)
      have HW := hid hw
      have HO1 := hid ho1
      clear ho1 hf hw
      go_wp2_with fail
      have hsz := HB.out.size
      exact ⟨⟨k + 1, by omega, by go_num, _, put5_own HO1.out (k * 5) _ _ _ _ _, by rw [arr5_size, hcs], got_step hcs hlt HO.out.lt HW.out HF.out HG.out, put5_below (HB.out.trans (HW.out.mono hsz)) (Nat.le_refl _) _ _ _ _ _ _⟩, by simp [intOf]; omega⟩
    · go_wp2_with fail
      go_ret
      refine ⟨_, rfl, ?_, HB.out⟩
      refine ⟨_, _, rfl, by unfold maxLen; omega, Or.inr ⟨w.heap.size, 0, rfl, ⟨Nat.le_refl _, HO.out.lt⟩, RowAt.mk ks fun j hj => ?_⟩⟩
      obtain ⟨x0, x1, x2, x3, x4, e0, e1, e2, e3, e4, hx⟩ := HG.out j hj (by omega)
      rw [Nat.zero_add]
      refine ⟨x0, x1, x2, x3, x4, (HO.out.cell _).trans e0, (HO.out.cell _).trans e1, (HO.out.cell _).trans e2, (HO.out.cell _).trans e3, (HO.out.cell _).trans e4, FormAt.mono ?_ _ hx⟩
      intro b h; exact ⟨by have := h.1; omega, h.2⟩

theorem toForm_all : ∀ n, ToForm n ∧ ToForms n
  | 0 => by
    have h : ToForm 0 := fun f hf => by have := Fm.sz_kids f; omega
    exact ⟨h, toForms_of 0 h⟩
  | n + 1 => by
    have h := toForm_of n (toForm_all n).2
    exact ⟨h, toForms_of (n + 1) h⟩

/-- The law's copy of a form: the same form, in new memory. -/
theorem toExpForm_any (f : Fm) (B : Nat → Prop) (w : World) (c0 c1 c2 c3 c4 : Value) (h : FormAt B w f c0 c1 c2 c3 c4) (hB : ∀ b, B b → b < w.heap.size) (h0 : f.cost ≤ 1048576) :
    Calls Try.prog 9 #[.agg #[c0, c1, c2, c3, c4]] w fun e w' => ∃ d0 d1 d2 d3 d4, e = .returned (.agg #[d0, d1, d2, d3, d4]) ∧ FormAt (Fresh w w') w' f d0 d1 d2 d3 d4 ∧ Below w.heap.size w w' :=
  (toForm_all f.sz).1 f (Nat.le_refl _) B w c0 c1 c2 c3 c4 h hB h0

end Go.Proofs.Ytkpamgabhlplfaa

namespace Go.Proofs.Ytkpamgabhlplfaa
open Go.RowKit Go.Siskin

theorem _root_.Go.Siskin.SameOn.drewN {R : Nat → Prop} {a w : World} (h : SameOn R a w) (m : Nat) : SameOn R a (w.drewN m) := fun b hb => h b hb
theorem belowN {B : Nat} {a w : World} (h : Below B a w) (n : Nat) : Below B a (w.drewN n) := h.trans ⟨rfl, rfl, rfl, Nat.le_refl _, fun _ _ => rfl⟩

def EqForm (n : Nat) : Prop := ∀ f : Fm, f.sz ≤ n → ∀ (B B' : Nat → Prop) (w : World) (c0 c1 c2 c3 c4 d0 d1 d2 d3 d4 : Value), FormAt B w f c0 c1 c2 c3 c4 → FormAt B' w f d0 d1 d2 d3 d4 → (∀ b, B b → b < w.heap.size) → (∀ b, B' b → b < w.heap.size) →
    Calls Try.prog 11 #[.agg #[c0, c1, c2, c3, c4], .agg #[d0, d1, d2, d3, d4]] w fun e w' => e = .returned (.bool true) ∧ Below w.heap.size w w'
def EqForms (n : Nat) : Prop := ∀ ks : List Fm, Fm.szs ks ≤ n → ∀ (B B' : Nat → Prop) (w : World) (v u : Value), FormsAt B w v ks → FormsAt B' w u ks → (∀ b, B b → b < w.heap.size) → (∀ b, B' b → b < w.heap.size) →
    Calls Try.prog 32 #[v, u] w fun e w' => e = .returned (.bool true) ∧ Below w.heap.size w w'

set_option maxHeartbeats 1000000 in
theorem eqForms_of (n : Nat) (ih : EqForm n) : EqForms n := by
  intro ks hks B B' w v u hv hu hB hB'
  obtain ⟨a, ca, rfl, hla, ha⟩ := hv
  obtain ⟨a', ca', rfl, -, ha'⟩ := hu
  unfold maxLen at hla
  have HI := hid ih
  have HR := hid hB
  have HR' := hid hB'
  clear ih hB hB'
  go_enter Try.func32, Try.ntmps32
  go_wp2_with fail
  go_loopw [5] (fun i wr => ∃ k : Nat, k ≤ ks.length ∧ i = .int .i64 k ∧ Hid (Below w.heap.size w wr)) (fun i _ => ks.length - (intOf i).toNat)
  case atStart => exact ⟨0, Nat.zero_le _, rfl, Below.refl _ _⟩
  case round =>
    obtain ⟨k, hk, rfl, HB⟩ := hrel
    by_cases hlt : k < ks.length
    · rcases ha with ha | ⟨ba, oa, rfl, hb, ha⟩
      · subst ha; simp at hlt
      rcases ha' with ha' | ⟨ba', oa', rfl, hb', ha'⟩
      · subst ha'; simp at hlt
      obtain ⟨c0, c1, c2, c3, c4, g0, g1, g2, g3, g4, hf⟩ := RowAt.get ks (RowAt.keep (HB.out.on HR.out) hb ks ha) k hlt
      obtain ⟨d0, d1, d2, d3, d4, e0, e1, e2, e3, e4, hf'⟩ := RowAt.get ks (RowAt.keep (HB.out.on HR'.out) hb' ks ha') k hlt
      have hsz := HB.out.size
      have HC := hid (HI.out ks[k] (Nat.le_trans (Fm.szs_get ks k hlt) hks) B B' wr.drew c0 c1 c2 c3 c4 d0 d1 d2 d3 d4 (FormAt.keep (SameOn.drew _ _) _ hf) (FormAt.keep (SameOn.drew _ _) _ hf') (fun b hb => Nat.lt_of_lt_of_le (HR.out b hb) hsz) (fun b hb => Nat.lt_of_lt_of_le (HR'.out b hb) hsz))
      clear ha hf ha' hf' HI
      go_wp2_with fail
      go_region_with (go_at_call 11; refine HC.out.mono ?_; rintro e w' ⟨rfl, hw⟩)
      all_goals go_wp2_with fail
      all_goals exact ⟨⟨k + 1, by omega, by go_num, HB.out.drew.trans (hw.mono hsz)⟩, by simp [intOf]; omega⟩
    · go_wp2_with fail
      go_ret
      exact ⟨rfl, HB.out⟩

set_option maxHeartbeats 2000000 in
theorem eqForm_of (n : Nat) (ih : EqForms n) : EqForm (n + 1) := by
  intro f hf B B' w c0 c1 c2 c3 c4 d0 d1 d2 d3 d4 hA hA' hB hB'
  obtain ⟨rfl, rfl, ht, h2, rfl, h4⟩ := (formAt_iff _ _ _ _ _ _ _ _).1 hA
  obtain ⟨rfl, rfl, -, h2', rfl, h4'⟩ := (formAt_iff _ _ _ _ _ _ _ _).1 hA'
  have HS := hid (Fm.sz_kids f)
  have H2 := hid h2
  have H4 := hid h4
  have H2' := hid h2'
  have H4' := hid h4'
  have HI := hid ih
  have HR := hid hB
  have HR' := hid hB'
  obtain ⟨a2, k2, rfl, -⟩ := h2
  obtain ⟨a2', k2', rfl, -⟩ := h2'
  obtain ⟨a4, k4, rfl, -⟩ := h4
  obtain ⟨a4', k4', rfl, -⟩ := h4'
  clear hA hA' ih hB hB'
  go_enter Try.func11, Try.ntmps11
  go_wp2_with fail
  refine (eqIntS_any (fun b => B b ∨ B' b) _ _ f.scopes f.scopes _ ((H2.out.keep (((SameOn.refl _ _).alloc HR.out _).alloc (fun b hb => by have := HR.out b hb; simp; omega) _)).mono (fun _ h => Or.inl h)) ((H2'.out.keep (((SameOn.refl _ _).alloc HR'.out _).alloc (fun b hb => by have := HR'.out b hb; simp; omega) _)).mono (fun _ h => Or.inr h))).mono ?_
  rintro e w1 ⟨rfl, m, rfl⟩
  rw [show (f.scopes == f.scopes) = true from by simp]
  go_wp2_with fail
  refine (HI.out f.kids (by have := HS.out; omega) B B' _ _ _ (H4.out.keep ?_) (H4'.out.keep ?_) ?_ ?_).mono ?_
  · exact (((SameOn.refl _ _).alloc HR.out _).alloc (fun b hb => by have := HR.out b hb; simp; omega) _).drewN m
  · exact (((SameOn.refl _ _).alloc HR'.out _).alloc (fun b hb => by have := HR'.out b hb; simp; omega) _).drewN m
  · exact fun b hb => by have := HR.out b hb; simp; omega
  · exact fun b hb => by have := HR'.out b hb; simp; omega
  rintro e w2 ⟨rfl, hw⟩
  go_wp2_with fail
  go_ret
  exact ⟨rfl, (belowN (((Below.refl _ _).alloc (Nat.le_refl _) _).alloc (by simp) _) m).trans (hw.mono (by simp; omega))⟩

theorem eqForm_all : ∀ n, EqForm n ∧ EqForms n
  | 0 => by
    have h : EqForm 0 := fun f hf => by have := Fm.sz_kids f; omega
    exact ⟨h, eqForms_of 0 h⟩
  | n + 1 => by
    have h := eqForm_of n (eqForm_all n).2
    exact ⟨h, eqForms_of (n + 1) h⟩

/-- Two places that hold one form are held equal by the law. -/
theorem eqExpForm_any (f : Fm) (B B' : Nat → Prop) (w : World) (c0 c1 c2 c3 c4 d0 d1 d2 d3 d4 : Value) (h : FormAt B w f c0 c1 c2 c3 c4) (h' : FormAt B' w f d0 d1 d2 d3 d4) (hB : ∀ b, B b → b < w.heap.size) (hB' : ∀ b, B' b → b < w.heap.size) :
    Calls Try.prog 11 #[.agg #[c0, c1, c2, c3, c4], .agg #[d0, d1, d2, d3, d4]] w fun e w' => e = .returned (.bool true) ∧ Below w.heap.size w w' :=
  (eqForm_all f.sz).1 f (Nat.le_refl _) B B' w c0 c1 c2 c3 c4 d0 d1 d2 d3 d4 h h' hB hB'

end Go.Proofs.Ytkpamgabhlplfaa
