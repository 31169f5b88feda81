/-
  The model's l1Ok of an identifier and of an atom returns whether it is ok. Condition: the form lies in memory as FormAt says.
  The model's l1Ok and ExpFormOk return whether a form is ok. Condition: the form lies in memory, and costs at most 1048576.
  The program's openForm and ExpFormOk say whether a form is ok; what is opened lies in the form's own memory and in new memory. Condition: the form lies in memory, and costs at most 1048576.
  A form with other scopes, plainly; that opening, changing and handing out comes to it where the form is ok. No program's step is walked here.
-/
import Derived.Test.YtjbejnibiebjgaaGreatPart9
import Derived.Test.YtjbejnibiebjgaaGreatPart12
namespace Go.Proofs.YtjbejnibiebjgaaGreat
open Go.RowKit Go.Siskin

theorem belowM {B : Nat} {a w : World} (h : Below B a w) (n : Nat) : Below B a (w.drewN n) := h.trans ⟨rfl, rfl, rfl, Nat.le_refl _, fun _ _ => rfl⟩

theorem idForm_0 {f : Fm} (h1 : idB f.text.data.toList = true) (h2 : (f.text.size : Int) ≤ 40) (h3 : 0 ≤ f.frm) (h4 : scopesB f.scopes = true) : ((f.kids.length : Int) == 0) = idFormB f := by
  unfold idFormB; rw [h1, h4, decide_eq_true (by omega), decide_eq_true h3]
  by_cases h : f.kids.length = 0
  · rw [decide_eq_true h, h]; rfl
  · rw [decide_eq_false h, Bool.and_false, beq_eq_false_iff_ne]; omega
theorem idForm_1 {f : Fm} (h : ¬ idB f.text.data.toList = true) : false = idFormB f := by
  unfold idFormB; rw [show idB f.text.data.toList = false from by simpa using h]; rfl
theorem idForm_2 {f : Fm} (h : 40 < (f.text.size : Int)) : false = idFormB f := by
  unfold idFormB; rw [decide_eq_false (p := f.text.size ≤ 40) (by omega)]; simp
theorem idForm_3 {f : Fm} (h : f.frm < 0) : false = idFormB f := by
  unfold idFormB; rw [decide_eq_false (p := 0 ≤ f.frm) (by omega)]; simp
theorem idForm_4 {f : Fm} (h : ¬ scopesB f.scopes = true) : false = idFormB f := by
  unfold idFormB; rw [show scopesB f.scopes = false from by simpa using h]; simp
theorem atomForm_0 {f : Fm} (h1 : atomB f.text.data.toList = true) (h2 : (f.text.size : Int) ≤ 40) (h3 : f.frm = 0) : ((f.scopes.length + f.kids.length : Int) == 0) = atomFormB f := by
  unfold atomFormB; rw [h1, decide_eq_true (by omega), decide_eq_true h3]
  by_cases h : f.scopes.length + f.kids.length = 0
  · rw [decide_eq_true h, beq_iff_eq.2 (by omega)]; rfl
  · rw [decide_eq_false h, Bool.and_false, beq_eq_false_iff_ne]; omega
theorem atomForm_1 {f : Fm} (h : ¬ atomB f.text.data.toList = true) : false = atomFormB f := by
  unfold atomFormB; rw [show atomB f.text.data.toList = false from by simpa using h]; rfl
theorem atomForm_2 {f : Fm} (h : 40 < (f.text.size : Int)) : false = atomFormB f := by
  unfold atomFormB; rw [decide_eq_false (p := f.text.size ≤ 40) (by omega)]; simp
theorem atomForm_3 {f : Fm} (h : ¬ f.frm = 0) : false = atomFormB f := by
  unfold atomFormB; rw [decide_eq_false (p := f.frm = 0) (by omega)]; simp

def OkForm (n : Nat) : Prop := ∀ f : Fm, f.sz ≤ n → ∀ (B : Nat → Prop) (w : World) (c0 c1 c2 c3 c4 : Value) (d : Nat), FormAt B w f c0 c1 c2 c3 c4 → (∀ b, B b → b < w.heap.size) → d ≤ 100 → f.cost ≤ 1048576 →
    Calls Tryz.prog 24 #[.agg #[c0, c1, c2, c3, c4], .int .i64 d] w fun e w' => e = .returned (.bool (okB f d)) ∧ Below w.heap.size w w'

set_option maxHeartbeats 1000000 in
theorem okForm_id (f : Fm) (B : Nat → Prop) (w : World) (c0 c1 c2 c3 c4 : Value) (d : Nat) (hA : FormAt B w f c0 c1 c2 c3 c4) (hB : ∀ b, B b → b < w.heap.size) (hd : d ≤ 60) (hs : f.sort = 1) :
    Calls Tryz.prog 24 #[.agg #[c0, c1, c2, c3, c4], .int .i64 d] w fun e w' => e = .returned (.bool (okB f d)) ∧ Below w.heap.size w w' := by
  obtain ⟨rfl, rfl, ht, h2, rfl, h4⟩ := (formAt_iff _ _ _ _ _ _ _ _).1 hA
  rw [hs]
  have H2 := hid h2
  have HR := hid hB
  obtain ⟨a2, k2, rfl, hl2, -⟩ := h2
  obtain ⟨a4, k4, rfl, hl4, -⟩ := h4
  have HX := hid (okB_id f d hd hs)
  have Hht := hid ht
  unfold maxLen at hl2 hl4 ht
  clear hA hB hs
  go_enter Tryz.func24, Tryz.ntmps24
  go_wp2_with (first
    | (go_at_call 38; refine (l1IdOk_any _ _ Hht.out).mono ?_; rintro e w' ⟨rfl, hw⟩; rw [hw]; clear hw w')
    | (go_at_call 39; refine (l1ScopesOk_any B _ f.scopes _ (H2.out.keep ((SameOn.refl _ _).alloc HR.out _))).mono ?_; rintro e w' ⟨rfl, m, rfl⟩))
  all_goals go_ret
  all_goals refine ⟨ret_bool ?_, ?_⟩
  all_goals first
    | exact (Below.refl _ _).alloc (Nat.le_refl _) _
    | exact belowM ((Below.refl _ _).alloc (Nat.le_refl _) _) _
    | skip
  all_goals rw [HX.out]
  all_goals first
    | exact idForm_0 ‹_› ‹_› ‹_› ‹_›
    | exact idForm_1 ‹_›
    | exact idForm_2 ‹_›
    | exact idForm_3 ‹_›
    | exact idForm_4 ‹_›

set_option maxHeartbeats 1000000 in
theorem okForm_atom (f : Fm) (B : Nat → Prop) (w : World) (c0 c1 c2 c3 c4 : Value) (d : Nat) (hA : FormAt B w f c0 c1 c2 c3 c4) (hd : d ≤ 60) (hs : f.sort = 2) (hc : f.cost ≤ 1048576) :
    Calls Tryz.prog 24 #[.agg #[c0, c1, c2, c3, c4], .int .i64 d] w fun e w' => e = .returned (.bool (okB f d)) ∧ Below w.heap.size w w' := by
  obtain ⟨rfl, rfl, ht, h2, rfl, h4⟩ := (formAt_iff _ _ _ _ _ _ _ _).1 hA
  rw [hs]
  obtain ⟨a2, k2, rfl, hl2, -⟩ := h2
  obtain ⟨a4, k4, rfl, hl4, -⟩ := h4
  have HX := hid (okB_atom f d hd hs)
  have Hht := hid ht
  clear hA hs
  have hb1 : f.scopes.length ≤ 1048576 := by have := Fm.cost_eq f; omega
  have hb2 : f.kids.length ≤ 1048576 := by have := Fm.cost_eq f; omega
  · unfold maxLen at hl2 hl4 ht
    go_enter Tryz.func24, Tryz.ntmps24
    go_wp2_with (go_at_call 40; refine (l1AtomOk_any _ _ Hht.out).mono ?_; rintro e w' ⟨rfl, hw⟩; rw [hw]; clear hw w')
    all_goals go_ret
    all_goals refine ⟨ret_bool ?_, (Below.refl _ _).alloc (Nat.le_refl _) _⟩
    all_goals rw [HX.out]
    all_goals first
      | exact atomForm_0 ‹_› ‹_› ‹_›
      | exact atomForm_1 ‹_›
      | exact atomForm_2 ‹_›
      | exact atomForm_3 ‹_›

end Go.Proofs.YtjbejnibiebjgaaGreat

namespace Go.Proofs.YtjbejnibiebjgaaGreat
open Go.RowKit Go.Siskin

theorem listForm_1 {f : Fm} (h : f.text.toList.isEmpty = false) : false = listFormB f := by
  unfold listFormB
  rw [tl_empty, empty_size] at h
  rw [h]; rfl
theorem listForm_2 {f : Fm} (h : ¬ f.frm = 0) : false = listFormB f := by
  unfold listFormB; rw [decide_eq_false h]; simp
theorem listForm_3 {f : Fm} (h : 0 < f.scopes.length) : false = listFormB f := by
  unfold listFormB; rw [decide_eq_false (p := f.scopes.length = 0) (by omega)]; simp
theorem listForm_0 {f : Fm} (h1 : f.text.toList.isEmpty = true) (h2 : f.frm = 0) (h3 : f.scopes.length = 0) : listFormB f = true := by
  unfold listFormB
  rw [tl_empty, empty_size] at h1
  rw [h1, decide_eq_true h2, decide_eq_true h3]; rfl


set_option maxHeartbeats 1000000 in
theorem okForm_bad3 (f : Fm) (B : Nat → Prop) (w : World) (c0 c1 c2 c3 c4 : Value) (d : Nat) (hA : FormAt B w f c0 c1 c2 c3 c4) (hd : d ≤ 60) (hs : f.sort = 3) (hl : listFormB f = false) :
    Calls Tryz.prog 24 #[.agg #[c0, c1, c2, c3, c4], .int .i64 d] w fun e w' => e = .returned (.bool (okB f d)) ∧ Below w.heap.size w w' := by
  obtain ⟨rfl, rfl, ht, h2, rfl, h4⟩ := (formAt_iff _ _ _ _ _ _ _ _).1 hA
  rw [hs]
  obtain ⟨a2, k2, rfl, hl2, -⟩ := h2
  obtain ⟨a4, k4, rfl, hl4, -⟩ := h4
  have HX : Hid (false = okB f d) := by
    show _ = _
    rw [okB_list f d hd hs, hl]; rfl
  have HL := hid hl
  unfold maxLen at hl2 hl4 ht
  clear hA hs hl
  cases e1 : f.text.toList.isEmpty with
  | false =>
    go_enter Tryz.func24, Tryz.ntmps24
    go_wp2_with fail
    go_ret
    exact ⟨ret_bool HX.out, (Below.refl _ _).alloc (Nat.le_refl _) _⟩
  | true =>
  by_cases e2 : f.frm = 0
  · rw [e2]
    by_cases e3 : 0 < f.scopes.length
    · have HE := hid e2
      clear e2
      go_enter Tryz.func24, Tryz.ntmps24
      go_wp2_with fail
      go_ret
      exact ⟨ret_bool HX.out, (Below.refl _ _).alloc (Nat.le_refl _) _⟩
    · exact absurd HL.out (by rw [listForm_0 e1 e2 (by omega)]; simp)
  · have e2' : (f.frm != 0) = true := by simpa using e2
    go_enter Tryz.func24, Tryz.ntmps24
    go_wp2_with fail
    go_ret
    exact ⟨ret_bool HX.out, (Below.refl _ _).alloc (Nat.le_refl _) _⟩

set_option maxHeartbeats 2000000 in
theorem okForm_list3 (n : Nat) (ih : OkForm n) (f : Fm) (hf : f.sz ≤ n + 1) (B : Nat → Prop) (w : World) (c0 c1 c2 c3 c4 : Value) (d : Nat) (hA : FormAt B w f c0 c1 c2 c3 c4) (hB : ∀ b, B b → b < w.heap.size) (hd : d ≤ 60) (hs : f.sort = 3) (hl : listFormB f = true) (hcost : f.cost ≤ 1048576) :
    Calls Tryz.prog 24 #[.agg #[c0, c1, c2, c3, c4], .int .i64 d] w fun e w' => e = .returned (.bool (okB f d)) ∧ Below w.heap.size w w' := by
  obtain ⟨rfl, rfl, ht, h2, rfl, h4⟩ := (formAt_iff _ _ _ _ _ _ _ _).1 hA
  have HX := hid (okB_list f d hd hs)
  rw [hs]
  have HS := hid (Fm.sz_kids f)
  have HC := hid (Fm.cost_eq f)
  have HI := hid ih
  have HR := hid hB
  have HL := hid hl
  have e1 : f.text.toList.isEmpty = true := by
    rw [tl_empty, empty_size]; unfold listFormB at hl; simp only [Bool.and_eq_true, decide_eq_true_eq] at hl; exact decide_eq_true hl.1.1
  have e2 : f.frm = 0 := by unfold listFormB at hl; simp only [Bool.and_eq_true, decide_eq_true_eq] at hl; exact hl.1.2
  have e3 : f.scopes.length = 0 := by unfold listFormB at hl; simp only [Bool.and_eq_true, decide_eq_true_eq] at hl; exact hl.2
  obtain ⟨a2, k2, rfl, hl2, -⟩ := h2
  obtain ⟨a4, k4, rfl, hl4, ha⟩ := h4
  unfold maxLen at hl4
  rw [e2, e3]
  clear hA ih hB hl hl2 ht hs e2 e3
  go_enter Tryz.func24, Tryz.ntmps24
  go_wp2_with fail
  go_loopw [5] (fun i wr => ∃ k : Nat, k ≤ f.kids.length ∧ i = .int .i64 k ∧ Hid (oksB (f.kids.take k) (d + 1) = true) ∧ Hid (Below (w.heap.size + 1) (w.alloc (.cells #[.int .i64 3, .string f.text, .slice a2 0 k2, .int .i64 0, .slice a4 f.kids.length k4] 26)) wr)) (fun i _ => f.kids.length - (intOf i).toNat)
  case atStart => exact ⟨0, Nat.zero_le _, rfl, by show _ = _; simp [oksB], Below.refl _ _⟩
  case round =>
    obtain ⟨k, hk, rfl, HO, HB⟩ := hrel
    have hcell : ∀ o, wr.cell? ⟨w.heap.size, o, none⟩ = (w.alloc (.cells #[.int .i64 3, .string f.text, .slice a2 0 k2, .int .i64 0, .slice a4 f.kids.length k4] 26)).cell? ⟨w.heap.size, o, none⟩ := fun o => HB.out.cell (p := ⟨w.heap.size, o, none⟩) (by simp)
    by_cases hlt : k < f.kids.length
    · rcases ha with ha | ⟨ba, oa, rfl, hb, ha⟩
      · rw [ha] at hlt; simp at hlt
      have hrow := RowAt.keep (((SameOn.refl _ _).alloc HR.out _).below HB.out (fun b hb => by have := HR.out b hb; omega)) hb f.kids ha
      obtain ⟨c0, c1, c2, c3, c4, g0, g1, g2, g3, g4, hf'⟩ := RowAt.get f.kids hrow k hlt
      have hsz := HB.out.size
      have HC' := hid (HI.out f.kids[k] (by have := Fm.szs_get f.kids k hlt; have := HS.out; omega) B wr c0 c1 c2 c3 c4 (d + 1) hf' (fun b hb => by have := HR.out b hb; simp at hsz; omega) (by omega) (by have := Fm.costs_get f.kids k hlt; have := HC.out; omega))
      have HT := hid (oksB_take f.kids k (d + 1) hlt)
      clear ha hrow hf' HI
      cases hok : okB f.kids[k] (d + 1) with
      | false =>
        have HY := hid (oksB_bad f.kids k (d + 1) hlt hok)
        go_wp2_with (go_at_call 24; refine HC'.out.mono ?_; rintro e w' ⟨rfl, hw⟩)
        go_ret
        refine ⟨ret_bool (by rw [HX.out, HY.out]; simp), ?_⟩
        exact ((Below.refl _ _).alloc (Nat.le_refl _) _).trans ((HB.out.trans (hw.mono (by simpa using hsz))).mono (by omega))
      | true =>
        go_wp2_with (go_at_call 24; refine HC'.out.mono ?_; rintro e w' ⟨rfl, hw⟩)
        exact ⟨⟨k + 1, by omega, by go_num, by show _ = _; rw [HT.out, HO.out, hok]; rfl, HB.out.trans (hw.mono (by simpa using hsz))⟩, by simp [intOf]; omega⟩
    · have HK : Hid (oksB f.kids (d + 1) = true) := by
        have h := HO.out
        rw [List.take_of_length_le (by omega)] at h
        exact h
      have HLo := hid (((Below.refl w.heap.size w).alloc (Nat.le_refl _) (.cells #[.int .i64 3, .string f.text, .slice a2 0 k2, .int .i64 0, .slice a4 f.kids.length k4] 26)).trans (HB.out.mono (by omega)))
      go_wp2_with fail
      go_ret
      exact ⟨ret_bool (by rw [HX.out, HK.out, HL.out]; rfl), HLo.out⟩


set_option maxHeartbeats 1000000 in
theorem okForm_bad4 (f : Fm) (B : Nat → Prop) (w : World) (c0 c1 c2 c3 c4 : Value) (d : Nat) (hA : FormAt B w f c0 c1 c2 c3 c4) (hd : d ≤ 60) (hs : f.sort = 4) (hl : listFormB f = false) :
    Calls Tryz.prog 24 #[.agg #[c0, c1, c2, c3, c4], .int .i64 d] w fun e w' => e = .returned (.bool (okB f d)) ∧ Below w.heap.size w w' := by
  obtain ⟨rfl, rfl, ht, h2, rfl, h4⟩ := (formAt_iff _ _ _ _ _ _ _ _).1 hA
  rw [hs]
  obtain ⟨a2, k2, rfl, hl2, -⟩ := h2
  obtain ⟨a4, k4, rfl, hl4, -⟩ := h4
  have HX : Hid (false = okB f d) := by
    show _ = _
    rw [okB_dots f d hd hs, hl]; rfl
  have HL := hid hl
  unfold maxLen at hl2 hl4 ht
  clear hA hs hl
  cases e1 : f.text.toList.isEmpty with
  | false =>
    go_enter Tryz.func24, Tryz.ntmps24
    go_wp2_with fail
    go_ret
    exact ⟨ret_bool HX.out, (Below.refl _ _).alloc (Nat.le_refl _) _⟩
  | true =>
  by_cases e2 : f.frm = 0
  · rw [e2]
    by_cases e3 : 0 < f.scopes.length
    · have HE := hid e2
      clear e2
      go_enter Tryz.func24, Tryz.ntmps24
      go_wp2_with fail
      go_ret
      exact ⟨ret_bool HX.out, (Below.refl _ _).alloc (Nat.le_refl _) _⟩
    · exact absurd HL.out (by rw [listForm_0 e1 e2 (by omega)]; simp)
  · have e2' : (f.frm != 0) = true := by simpa using e2
    go_enter Tryz.func24, Tryz.ntmps24
    go_wp2_with fail
    go_ret
    exact ⟨ret_bool HX.out, (Below.refl _ _).alloc (Nat.le_refl _) _⟩

set_option maxHeartbeats 2000000 in
theorem okForm_list4 (n : Nat) (ih : OkForm n) (f : Fm) (hf : f.sz ≤ n + 1) (B : Nat → Prop) (w : World) (c0 c1 c2 c3 c4 : Value) (d : Nat) (hA : FormAt B w f c0 c1 c2 c3 c4) (hB : ∀ b, B b → b < w.heap.size) (hd : d ≤ 60) (hs : f.sort = 4) (hl : listFormB f = true) (hcost : f.cost ≤ 1048576) :
    Calls Tryz.prog 24 #[.agg #[c0, c1, c2, c3, c4], .int .i64 d] w fun e w' => e = .returned (.bool (okB f d)) ∧ Below w.heap.size w w' := by
  obtain ⟨rfl, rfl, ht, h2, rfl, h4⟩ := (formAt_iff _ _ _ _ _ _ _ _).1 hA
  have HX := hid (okB_dots f d hd hs)
  rw [hs]
  have HS := hid (Fm.sz_kids f)
  have HC := hid (Fm.cost_eq f)
  have HI := hid ih
  have HR := hid hB
  have HL := hid hl
  have e1 : f.text.toList.isEmpty = true := by
    rw [tl_empty, empty_size]; unfold listFormB at hl; simp only [Bool.and_eq_true, decide_eq_true_eq] at hl; exact decide_eq_true hl.1.1
  have e2 : f.frm = 0 := by unfold listFormB at hl; simp only [Bool.and_eq_true, decide_eq_true_eq] at hl; exact hl.1.2
  have e3 : f.scopes.length = 0 := by unfold listFormB at hl; simp only [Bool.and_eq_true, decide_eq_true_eq] at hl; exact hl.2
  obtain ⟨a2, k2, rfl, hl2, -⟩ := h2
  obtain ⟨a4, k4, rfl, hl4, ha⟩ := h4
  unfold maxLen at hl4
  rw [e2, e3]
  clear hA ih hB hl hl2 ht hs e2 e3
  go_enter Tryz.func24, Tryz.ntmps24
  go_wp2_with fail
  go_loopw [5] (fun i wr => ∃ k : Nat, k ≤ f.kids.length ∧ i = .int .i64 k ∧ Hid (oksB (f.kids.take k) (d + 1) = true) ∧ Hid (Below (w.heap.size + 1) (w.alloc (.cells #[.int .i64 4, .string f.text, .slice a2 0 k2, .int .i64 0, .slice a4 f.kids.length k4] 26)) wr)) (fun i _ => f.kids.length - (intOf i).toNat)
  case atStart => exact ⟨0, Nat.zero_le _, rfl, by show _ = _; simp [oksB], Below.refl _ _⟩
  case round =>
    obtain ⟨k, hk, rfl, HO, HB⟩ := hrel
    have hcell : ∀ o, wr.cell? ⟨w.heap.size, o, none⟩ = (w.alloc (.cells #[.int .i64 4, .string f.text, .slice a2 0 k2, .int .i64 0, .slice a4 f.kids.length k4] 26)).cell? ⟨w.heap.size, o, none⟩ := fun o => HB.out.cell (p := ⟨w.heap.size, o, none⟩) (by simp)
    by_cases hlt : k < f.kids.length
    · rcases ha with ha | ⟨ba, oa, rfl, hb, ha⟩
      · rw [ha] at hlt; simp at hlt
      have hrow := RowAt.keep (((SameOn.refl _ _).alloc HR.out _).below HB.out (fun b hb => by have := HR.out b hb; omega)) hb f.kids ha
      obtain ⟨c0, c1, c2, c3, c4, g0, g1, g2, g3, g4, hf'⟩ := RowAt.get f.kids hrow k hlt
      have hsz := HB.out.size
      have HC' := hid (HI.out f.kids[k] (by have := Fm.szs_get f.kids k hlt; have := HS.out; omega) B wr c0 c1 c2 c3 c4 (d + 1) hf' (fun b hb => by have := HR.out b hb; simp at hsz; omega) (by omega) (by have := Fm.costs_get f.kids k hlt; have := HC.out; omega))
      have HT := hid (oksB_take f.kids k (d + 1) hlt)
      clear ha hrow hf' HI
      cases hok : okB f.kids[k] (d + 1) with
      | false =>
        have HY := hid (oksB_bad f.kids k (d + 1) hlt hok)
        go_wp2_with (go_at_call 24; refine HC'.out.mono ?_; rintro e w' ⟨rfl, hw⟩)
        go_ret
        refine ⟨ret_bool (by rw [HX.out, HY.out]; simp), ?_⟩
        exact ((Below.refl _ _).alloc (Nat.le_refl _) _).trans ((HB.out.trans (hw.mono (by simpa using hsz))).mono (by omega))
      | true =>
        go_wp2_with (go_at_call 24; refine HC'.out.mono ?_; rintro e w' ⟨rfl, hw⟩)
        exact ⟨⟨k + 1, by omega, by go_num, by show _ = _; rw [HT.out, HO.out, hok]; rfl, HB.out.trans (hw.mono (by simpa using hsz))⟩, by simp [intOf]; omega⟩
    · have HK : Hid (oksB f.kids (d + 1) = true) := by
        have h := HO.out
        rw [List.take_of_length_le (by omega)] at h
        exact h
      have HLo := hid (((Below.refl w.heap.size w).alloc (Nat.le_refl _) (.cells #[.int .i64 4, .string f.text, .slice a2 0 k2, .int .i64 0, .slice a4 f.kids.length k4] 26)).trans (HB.out.mono (by omega)))
      by_cases hn : 1 < f.kids.length
      · rcases ha with ha | ⟨ba, oa, rfl, hb, ha⟩
        · rw [ha] at hn; simp at hn
        have hrow := RowAt.keep (((SameOn.refl _ _).alloc HR.out _).below HB.out (fun b hb => by have := HR.out b hb; omega)) hb f.kids ha
        obtain ⟨c0, c1, c2, c3, c4, g0, -, -, -, -, hf'⟩ := RowAt.get f.kids hrow (f.kids.length - 1) (by omega)
        obtain ⟨rfl, -⟩ := (formAt_iff _ _ _ _ _ _ _ _).1 hf'
        have HE : Hid (endB f.kids = (decide (f.kids[f.kids.length - 1].sort = 1) || decide (f.kids[f.kids.length - 1].sort = 2))) := by
          show _ = _
          unfold endB
          rw [decide_eq_true hn, List.getD_eq_getElem?_getD, List.getElem?_eq_getElem (by omega)]; rfl
        have HY : Hid (okB f d = (decide (f.kids[f.kids.length - 1].sort = 1) || decide (f.kids[f.kids.length - 1].sort = 2))) := by
          show _ = _
          rw [HX.out, HK.out, HL.out, HE.out]; rfl
        generalize f.kids[f.kids.length - 1].sort = z at *
        have hn' : (1 : Int) < (f.kids.length : Int) := by omega
        clear ha hrow hf' HI HE
        go_wp2_with fail
        · rename_i hz
          go_ret
          exact ⟨ret_bool (by rw [HY.out, hz]; rfl), HLo.out⟩
        · rename_i hz _
          go_ret
          refine ⟨ret_bool ?_, HLo.out⟩
          rw [HY.out, decide_eq_false hz]
          by_cases h2 : z = 2
          · rw [h2]; rfl
          · rw [decide_eq_false h2, beq_eq_false_iff_ne.2 h2, beq_eq_false_iff_ne.2 hz]
      · have HE : Hid (endB f.kids = false) := by
          show _ = _
          unfold endB; rw [decide_eq_false hn]; rfl
        go_wp2_with fail
        go_ret
        exact ⟨ret_bool (by rw [HX.out, HE.out]; simp), HLo.out⟩

set_option maxHeartbeats 1000000 in
theorem okForm_of (n : Nat) (ih : OkForm n) : OkForm (n + 1) := by
  intro f hf B w c0 c1 c2 c3 c4 d hA hB hd hc
  by_cases h60 : 60 < d
  · have HX := hid (okB_deep f d h60)
    go_enter Tryz.func24, Tryz.ntmps24
    go_wp2_with fail
    go_ret
    exact ⟨ret_bool HX.out.symm, (Below.refl _ _).alloc (Nat.le_refl _) _⟩
  by_cases s1 : f.sort = 1
  · exact okForm_id f B w c0 c1 c2 c3 c4 d hA hB (by omega) s1
  by_cases s2 : f.sort = 2
  · exact okForm_atom f B w c0 c1 c2 c3 c4 d hA (by omega) s2 hc
  by_cases s3 : f.sort = 3
  · cases hl : listFormB f with
    | false => exact okForm_bad3 f B w c0 c1 c2 c3 c4 d hA (by omega) s3 hl
    | true => exact okForm_list3 n ih f hf B w c0 c1 c2 c3 c4 d hA hB (by omega) s3 hl hc
  by_cases s4 : f.sort = 4
  · cases hl : listFormB f with
    | false => exact okForm_bad4 f B w c0 c1 c2 c3 c4 d hA (by omega) s4 hl
    | true => exact okForm_list4 n ih f hf B w c0 c1 c2 c3 c4 d hA hB (by omega) s4 hl hc
  have HX := hid (okB_none f d s1 s2 s3 s4)
  obtain ⟨rfl, rfl, ht, h2, rfl, h4⟩ := (formAt_iff _ _ _ _ _ _ _ _).1 hA
  have b1 : (f.sort == 1) = false := by simpa using s1
  have b2 : (f.sort == 2) = false := by simpa using s2
  have b3 : (f.sort == 3) = false := by simpa using s3
  have b4 : (f.sort == 4) = false := by simpa using s4
  clear hA h2 h4 s1 s2 s3 s4 hB ih
  go_enter Tryz.func24, Tryz.ntmps24
  go_wp2_with fail
  go_ret
  exact ⟨ret_bool HX.out.symm, (Below.refl _ _).alloc (Nat.le_refl _) _⟩

theorem okForm_all : ∀ n, OkForm n
  | 0 => fun f hf => by have := Fm.sz_kids f; omega
  | n + 1 => okForm_of n (okForm_all n)

/-- The model's ExpFormOk: ok, and not too many forms. -/
def formOk (f : Fm) : Bool := okB f 0 && decide (f.sz ≤ 1500)

set_option maxHeartbeats 1000000 in
theorem specFormOk_any (f : Fm) (B : Nat → Prop) (w : World) (c0 c1 c2 c3 c4 : Value) (hA : FormAt B w f c0 c1 c2 c3 c4) (hB : ∀ b, B b → b < w.heap.size) (hc : f.cost ≤ 1048576) :
    Calls Tryz.prog 11 #[.agg #[c0, c1, c2, c3, c4]] w fun e w' => e = .returned (.bool (formOk f)) ∧ Below w.heap.size w w' := by
  have H1 := hid (okForm_all f.sz f (Nat.le_refl _) B (w.alloc (.cells #[c0, c1, c2, c3, c4] 26)) c0 c1 c2 c3 c4 0 (FormAt.keep ((SameOn.refl _ _).alloc hB _) _ hA) (fun b hb => by have := hB b hb; simp; omega) (by omega) hc)
  have hsz : f.sz ≤ 2000000 := by have := Fm.sz_le f; omega
  have HA := hid hA
  have HR := hid hB
  obtain ⟨rfl, rfl, -, h2, rfl, h4⟩ := (formAt_iff _ _ _ _ _ _ _ _).1 hA
  obtain ⟨a2, k2, rfl, -⟩ := h2
  obtain ⟨a4, k4, rfl, -⟩ := h4
  clear hA hB
  cases h0 : okB f 0 with
  | false =>
    go_enter Tryz.func11, Tryz.ntmps11
    go_wp2_with (go_at_call 24; refine H1.out.mono ?_; rintro e w1 ⟨rfl, hw⟩)
    go_ret
    exact ⟨ret_bool (by unfold formOk; rw [h0]; rfl), ((Below.refl _ _).alloc (Nat.le_refl _) _).trans (hw.mono (by simp))⟩
  | true =>
    go_enter Tryz.func11, Tryz.ntmps11
    go_wp2_with fail
    refine H1.out.mono ?_
    rintro e w1 ⟨rfl, hw⟩
    rw [h0]
    obtain ⟨hc1, -⟩ := bcell hw
    have hz1 : w.heap.size < w1.heap.size := by have := hw.size; simp at this; omega
    have HW := hid hw
    clear hw
    go_wp2_with fail
    refine (l1Size_any f B w1 _ _ _ _ _ (FormAt.keep (((SameOn.refl _ _).alloc HR.out _).below HW.out (fun b hb => by have := HR.out b hb; simp; omega)) _ HA.out) (fun b hb => by have := HR.out b hb; omega) hsz).mono ?_
    rintro e w2 ⟨rfl, hw2⟩
    go_wp2_with fail
    go_ret
    refine ⟨ret_bool ?_, (((Below.refl _ _).alloc (Nat.le_refl _) _).trans (HW.out.mono (by simp))).trans (hw2.mono (by omega))⟩
    unfold formOk; rw [h0, Bool.true_and]; exact decide_eq_decide.2 (by omega)

end Go.Proofs.YtjbejnibiebjgaaGreat

namespace Go.Proofs.YtjbejnibiebjgaaGreat
open Go.RowKit Go.Siskin

theorem good_ok (f : Fm) : goodB f 0 0 = formOk f := by
  unfold goodB formOk; rw [Nat.zero_add]

/-- The program's way into a form: just where it is ok; what comes out lies in the form's own memory and in new memory. -/
theorem openForm_any (f : Fm) (B : Nat → Prop) (w : World) (c0 c1 c2 c3 c4 : Value) (hA : FormAt B w f c0 c1 c2 c3 c4) (hB : ∀ b, B b → b < w.heap.size) (hc : f.cost ≤ 1048576) :
    Calls Tryz.prog 23 #[.agg #[c0, c1, c2, c3, c4]] w fun e w' => ∃ v, e = .returned (.tuple #[v, .bool (formOk f)]) ∧ Below w.heap.size w w' ∧ (formOk f = true → InAt (Reg B w w') w' (toIm f) v) := by
  have H := hid (fun o1 : Obj => (openForm_all f.sz).1 f (Nat.le_refl _) B ((w.alloc o1).alloc (.cells #[.int .i64 0] 69)) c0 c1 c2 c3 c4 0 0 (w.heap.size + 1) (FormAt.keep (((SameOn.refl _ _).alloc hB _).alloc (fun b hb => by have := hB b hb; simp; omega) _) _ hA) (fun b hb => by have := hB b hb; simp; omega) (by have := own_new (w.alloc o1) #[.int .i64 0] 69; simpa using this) (by omega) (by omega) hc)
  obtain ⟨rfl, rfl, ht, h2, rfl, h4⟩ := (formAt_iff _ _ _ _ _ _ _ _).1 hA
  obtain ⟨a2, k2, rfl, -⟩ := h2
  obtain ⟨a4, k4, rfl, -⟩ := h4
  clear hA hB
  go_enter Tryz.func23, Tryz.ntmps23
  go_wp2_with fail
  refine (H.out _).mono ?_
  rintro e w2 ⟨m', v, hop, rfl, hgo⟩
  have HOP := hid hop
  have HGO := hid hgo
  clear hop hgo H
  go_wp2_with fail
  go_ret2
  have h := HOP.out
  have hs := h.1.size
  simp only [World.size_alloc] at hs
  refine ⟨v, ret_tup (good_ok f), ⟨h.1.os, h.1.tape, h.1.output, by omega, fun k hk => ?_⟩, fun hg => ?_⟩
  · rw [h.1.block k (by simp; omega) (fun e => by have := Option.some.inj e; omega), Below.heap_alloc _ _ _ (by simp; omega), Below.heap_alloc _ _ _ hk]
  · obtain ⟨-, h2⟩ := HGO.out ((good_ok f).trans hg)
    exact InAt.mono (reg_after (by simp; omega)) _ h2

set_option maxHeartbeats 1000000 in
theorem implFormOk_any (f : Fm) (B : Nat → Prop) (w : World) (c0 c1 c2 c3 c4 : Value) (hA : FormAt B w f c0 c1 c2 c3 c4) (hB : ∀ b, B b → b < w.heap.size) (hc : f.cost ≤ 1048576) :
    Calls Tryz.prog 10 #[.agg #[c0, c1, c2, c3, c4]] w fun e w' => e = .returned (.bool (formOk f)) ∧ Below w.heap.size w w' := by
  have H := hid (fun o1 : Obj => openForm_any f B (w.alloc o1) c0 c1 c2 c3 c4 (FormAt.keep ((SameOn.refl _ _).alloc hB _) _ hA) (fun b hb => by have := hB b hb; simp; omega) hc)
  obtain ⟨rfl, rfl, ht, h2, rfl, h4⟩ := (formAt_iff _ _ _ _ _ _ _ _).1 hA
  obtain ⟨a2, k2, rfl, -⟩ := h2
  obtain ⟨a4, k4, rfl, -⟩ := h4
  clear hA hB
  go_enter Tryz.func10, Tryz.ntmps10
  go_wp2_with fail
  refine (H.out _).mono ?_
  rintro e w2 ⟨v, rfl, hw, -⟩
  have HW := hid hw
  clear hw H
  go_wp2_with fail
  go_ret
  exact ⟨rfl, ((Below.refl _ _).alloc (Nat.le_refl _) _).trans (HW.out.mono (by simp))⟩

end Go.Proofs.YtjbejnibiebjgaaGreat

namespace Go.Proofs.YtjbejnibiebjgaaGreat
open Go.RowKit Go.Siskin

/-- A form, its identifiers' scopes changed. -/
def chF (g : List Int → List Int) : Fm → Fm
  | ⟨s, t, sc, fr, ks⟩ => ⟨s, t, if s = 1 then g sc else sc, fr, ks.map fun k => chF g k⟩
theorem chF_eq (g : List Int → List Int) (f : Fm) : chF g f = ⟨f.sort, f.text, if f.sort = 1 then g f.scopes else f.scopes, f.frm, f.kids.map (chF g)⟩ := by
  obtain ⟨s, t, sc, fr, ks⟩ := f
  rw [chF]

theorem asc_up : ∀ xs : List Int, ascB xs = true → Up xs
  | [], _ => List.Pairwise.nil
  | [a], _ => List.pairwise_singleton _ _
  | a :: b :: r, h => by
    unfold ascB at h
    rw [Bool.and_eq_true, decide_eq_true_eq] at h
    have ih := asc_up (b :: r) h.2
    refine List.pairwise_cons.2 ⟨fun x hx => ?_, ih⟩
    rcases List.mem_cons.1 hx with rfl | hx
    · exact h.1
    · have := (List.pairwise_cons.1 ih).1 x hx
      omega

theorem last_map {α β : Type} (h : α → β) (l : List α) (d : α) (hl : 0 < l.length) : l.dropLast.map h ++ [h (l.getD (l.length - 1) d)] = l.map h := by
  have hne : l ≠ [] := by intro e; rw [e] at hl; simp at hl
  have h1 : l.getD (l.length - 1) d = l.getLast hne := by
    rw [List.getD_eq_getElem?_getD, List.getElem?_eq_getElem (by omega), List.getLast_eq_getElem]; rfl
  rw [h1]
  have h2 := congrArg (List.map h) (List.dropLast_concat_getLast hne)
  rw [List.map_append] at h2
  exact h2
theorem last_mem {α : Type} (l : List α) (d : α) (hl : 0 < l.length) : l.getD (l.length - 1) d ∈ l := by
  rw [List.getD_eq_getElem?_getD, List.getElem?_eq_getElem (by omega)]
  exact List.getElem_mem _
theorem Im.szs_append (a b : List Im) : Im.szs (a ++ b) = Im.szs a + Im.szs b := by simp [Im.szs]
theorem byte_nil {t : ByteArray} (h : t.size = 0) : t = ⟨#[]⟩ := by
  obtain ⟨d⟩ := t
  have : d = #[] := Array.eq_empty_of_size_eq_zero h
  rw [this]

/-- What is known of an ok form. -/
def Known (g : List Int → List Int) (f : Fm) : Prop := outI (chI g (toIm f)) = chF g f ∧ upI (toIm f) ∧ fewI (chI g (toIm f)) ∧ (toIm f).sz = f.sz
theorem upI_of {p : Im} (h1 : Up p.scopes) (h2 : p.scopes.length ≤ 1048576) (h3 : ∀ q ∈ p.parts, upI q) (h4 : ∀ q ∈ p.ends, upI q) : upI p := (upI_eq p).2 ⟨h1, h2, fun _ _ => h3 _ (List.getElem_mem _), fun _ _ => h4 _ (List.getElem_mem _)⟩
theorem fewI_of {p : Im} (h2 : p.scopes.length ≤ 1048576 * 2) (h3 : ∀ q ∈ p.parts, fewI q) (h4 : ∀ q ∈ p.ends, fewI q) : fewI p := (fewI_eq p).2 ⟨h2, fun _ _ => h3 _ (List.getElem_mem _), fun _ _ => h4 _ (List.getElem_mem _)⟩

theorem known_upto (g : List Int → List Int) (hg : ∀ xs, (g xs).length ≤ xs.length + 1) : ∀ (n : Nat) (f : Fm), f.sz ≤ n → ∀ d, okB f d = true → f.cost ≤ 1048576 → Known g f
  | 0, f, hn, _, _, _ => by have := Fm.sz_kids f; omega
  | n + 1, f, hn, d, h, hc => by
    have hsz := Fm.sz_kids f
    have hce := Fm.cost_eq f
    have hd : d ≤ 60 := by
      rcases Nat.lt_or_ge 60 d with h1 | h1
      · rw [okB_deep f d h1] at h; cases h
      · exact h1
    have kids : ∀ d', oksB f.kids d' = true → ∀ k ∈ f.kids, Known g k := fun d' hk k hm => by
      obtain ⟨i, hi, rfl⟩ := List.getElem_of_mem hm
      refine known_upto g hg n _ (by have := Fm.szs_get f.kids i hi; omega) d' ?_ (by have := Fm.costs_get f.kids i hi; omega)
      cases hb : okB f.kids[i] d' with
      | true => rfl
      | false => rw [oksB_bad f.kids i d' hi hb] at hk; cases hk
    have szs : (∀ k ∈ f.kids, Known g k) → Im.szs (toIms f.kids) = Fm.szs f.kids := fun hk => by
      unfold toIms Im.szs Fm.szs
      rw [List.map_map]
      congr 1
      exact List.map_congr_left fun k hm => (hk k hm).2.2.2
    have outs : (∀ k ∈ f.kids, Known g k) → (toIms f.kids).map (fun p => outI (chI g p)) = f.kids.map (chF g) := fun hk => by
      unfold toIms
      rw [List.map_map]
      exact List.map_congr_left fun k hm => (hk k hm).1
    have ups : (∀ k ∈ f.kids, Known g k) → ∀ q ∈ toIms f.kids, upI q ∧ fewI (chI g q) := fun hk q hm => by
      unfold toIms at hm
      obtain ⟨k, hk1, rfl⟩ := List.mem_map.1 hm
      exact ⟨(hk k hk1).2.1, (hk k hk1).2.2.1⟩
    by_cases s1 : f.sort = 1
    · rw [okB_id f d hd s1] at h
      unfold idFormB at h
      simp only [Bool.and_eq_true, decide_eq_true_eq] at h
      obtain ⟨⟨⟨⟨-, -⟩, -⟩, h4⟩, h5⟩ := h
      have hk : f.kids = [] := List.length_eq_zero_iff.1 h5
      unfold scopesB at h4
      rw [Bool.and_eq_true] at h4
      have hgl := hg f.scopes
      rw [Known, toIm_id f s1, chI_id, outI_id, chF_eq, s1, hk]
      refine ⟨by simp, upI_of (asc_up _ h4.1) (by show f.scopes.length ≤ _; omega) (fun q hq => by cases hq) (fun q hq => by cases hq), fewI_of (by show (g f.scopes).length ≤ _; omega) (fun q hq => by cases hq) (fun q hq => by cases hq), ?_⟩
      rw [hsz, hk, Im.sz_eq]; rfl
    by_cases s2 : f.sort = 2
    · rw [okB_atom f d hd s2] at h
      unfold atomFormB at h
      simp only [Bool.and_eq_true, decide_eq_true_eq] at h
      obtain ⟨⟨⟨-, -⟩, h3⟩, h4⟩ := h
      have hk : f.kids = [] := List.length_eq_zero_iff.1 (by omega)
      have hs : f.scopes = [] := List.length_eq_zero_iff.1 (by omega)
      rw [Known, toIm_atom f s2, chI_atom, outI_atom, chF_eq, s2, hk, hs, h3]
      refine ⟨by simp, upI_of List.Pairwise.nil (Nat.zero_le _) (fun q hq => by cases hq) (fun q hq => by cases hq), fewI_of (Nat.zero_le _) (fun q hq => by cases hq) (fun q hq => by cases hq), ?_⟩
      rw [hsz, hk, Im.sz_eq]; rfl
    by_cases s3 : f.sort = 3
    · rw [okB_list f d hd s3, Bool.and_eq_true] at h
      obtain ⟨h1, h2⟩ := h
      unfold listFormB at h1
      simp only [Bool.and_eq_true, decide_eq_true_eq] at h1
      obtain ⟨⟨ht, hf⟩, hs⟩ := h1
      have hk := kids _ h2
      have hs' : f.scopes = [] := List.length_eq_zero_iff.1 hs
      rw [Known, toIm_list f s3, chI_list, outI_list, chF_eq, s3, hs', hf, byte_nil ht]
      refine ⟨by rw [List.map_map, ← outs hk]; simp, upI_of List.Pairwise.nil (Nat.zero_le _) (fun q hq => (ups hk q hq).1) (fun q hq => by cases hq), fewI_of (Nat.zero_le _) (fun q hq => ?_) (fun q hq => by cases hq), ?_⟩
      · obtain ⟨p, hp, rfl⟩ := List.mem_map.1 (hq : q ∈ (toIms f.kids).map (chI g))
        exact (ups hk p hp).2
      · rw [Im.sz_list, szs hk, hsz]
    by_cases s4 : f.sort = 4
    · rw [okB_dots f d hd s4, Bool.and_eq_true, Bool.and_eq_true] at h
      obtain ⟨⟨h1, h2⟩, h3⟩ := h
      unfold listFormB at h1
      simp only [Bool.and_eq_true, decide_eq_true_eq] at h1
      obtain ⟨⟨ht, hf⟩, hs⟩ := h1
      unfold endB at h3
      rw [Bool.and_eq_true, decide_eq_true_eq] at h3
      have hl : 0 < (toIms f.kids).length := by rw [toIms_length]; omega
      have hk := kids _ h2
      have hs' : f.scopes = [] := List.length_eq_zero_iff.1 hs
      have hlm := last_mem (toIms f.kids) Im.no hl
      have hsum := last_map Im.sz (toIms f.kids) Im.no hl
      rw [Known, toIm_dots f s4, chI_dots, outI_dots, chF_eq, s4, hs', hf, byte_nil ht]
      refine ⟨?_, upI_of List.Pairwise.nil (Nat.zero_le _) (fun q hq => (ups hk q ((List.dropLast_sublist _).mem hq)).1) (fun q hq => ?_), fewI_of (Nat.zero_le _) (fun q hq => ?_) (fun q hq => ?_), ?_⟩
      · rw [List.map_map, ← outs hk, ← last_map (fun p => outI (chI g p)) (toIms f.kids) Im.no hl]; simp; rfl
      · have : q = _ := List.mem_singleton.1 hq
        rw [this]; exact (ups hk _ hlm).1
      · obtain ⟨p, hp, rfl⟩ := List.mem_map.1 (hq : q ∈ ((toIms f.kids).dropLast).map (chI g))
        exact (ups hk p ((List.dropLast_sublist _).mem hp)).2
      · have : q = _ := List.mem_singleton.1 hq
        rw [this]; exact (ups hk _ hlm).2
      · rw [Im.sz_dots, hsz, ← szs hk]
        have h9 := congrArg List.sum hsum
        rw [List.sum_append] at h9
        unfold Im.szs
        simp only [List.sum_cons, List.sum_nil, Nat.add_zero] at h9
        omega
    rw [okB_none f d s1 s2 s3 s4] at h
    cases h

theorem chI_sz (g : List Int → List Int) : ∀ (n : Nat) (p : Im), p.sz ≤ n → (chI g p).sz = p.sz
  | 0, p, hn => by have := Im.sz_pos p; omega
  | n + 1, p, hn => by
    have h1 := Im.sz_eq p
    have h2 := Im.sz_eq (chI g p)
    obtain ⟨k, t, sc, fr, ps, es⟩ := p
    rw [chI] at h2 ⊢
    rw [h1, h2]
    have key : ∀ l : List Im, Im.szs l ≤ n → Im.szs (l.map fun p => chI g p) = Im.szs l := fun l hl => by
      unfold Im.szs at hl ⊢
      rw [List.map_map]
      congr 1
      refine List.map_congr_left fun p hp => ?_
      obtain ⟨i, hi, rfl⟩ := List.getElem_of_mem hp
      exact chI_sz g n _ (by have := Im.szs_get l i hi; unfold Im.szs at this; omega)
    have e1 : Im.szs (ps.map fun p => chI g p) = Im.szs ps := key ps (by simp only at h1; omega)
    have e2 : Im.szs (es.map fun p => chI g p) = Im.szs es := key es (by simp only at h1; omega)
    show 1 + Im.szs (ps.map fun p => chI g p) + Im.szs (es.map fun p => chI g p) = 1 + Im.szs ps + Im.szs es
    rw [e1, e2]

theorem ok_known {fn : Nat} {n : Int} {g : List Int → List Int} (hg : Change fn n g) (f : Fm) (h : formOk f = true) (hc : f.cost ≤ 1048576) : Known g f ∧ (toIm f).sz ≤ 1048576 ∧ (chI g (toIm f)).sz ≤ 1048576 := by
  unfold formOk at h
  rw [Bool.and_eq_true, decide_eq_true_eq] at h
  have hl : ∀ xs, (g xs).length ≤ xs.length + 1 := by
    rcases hg with ⟨-, rfl⟩ | ⟨-, rfl⟩
    · exact put_length n
    · exact flip_length n
  have hk := known_upto g hl f.sz f (Nat.le_refl _) 0 h.1 hc
  refine ⟨hk, by rw [hk.2.2.2]; omega, by rw [chI_sz g _ _ (Nat.le_refl _), hk.2.2.2]; omega⟩

/-- What ExpWith and ExpFlip come to. -/
def resF (g : List Int → List Int) (n : Int) (f : Fm) : Fm := if formOk f = true ∧ 0 ≤ n then chF g f else Fm.no

end Go.Proofs.YtjbejnibiebjgaaGreat
