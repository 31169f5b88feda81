/- The model's l1Ok of an identifier and of an atom returns whether it is ok. Condition: the form lies in memory as FormAt says. -/
import Derived.Test.YtoefpcegekfggaaF4
namespace Go.Proofs.Ytoefpcegekfggaa
open Go.RowKit Go.Siskin

theorem belowN {B : Nat} {a w : World} (h : Below B a w) (n : Nat) : Below B a (w.drewN n) := h.trans ⟨rfl, rfl, rfl, Nat.le_refl _, fun _ _ => rfl⟩

theorem idForm_0 {f : Fm} (h1 : idB f.text.data.toList = true) (h2 : (f.text.size : Int) ≤ 40) (h3 : 0 ≤ f.frm) (h4 : scopesB f.scopes = true) : ((f.kids.length : Int) == 0) = idFormB f := by
  unfold idFormB; rw [h1, h4, decide_eq_true (by omega), decide_eq_true h3]
  by_cases h : f.kids.length = 0
  · rw [decide_eq_true h, h]; rfl
  · rw [decide_eq_false h, Bool.and_false, beq_eq_false_iff_ne]; omega
theorem idForm_1 {f : Fm} (h : ¬ idB f.text.data.toList = true) : false = idFormB f := by
  unfold idFormB; rw [show idB f.text.data.toList = false from by simpa using h]; rfl
theorem idForm_2 {f : Fm} (h : 40 < (f.text.size : Int)) : false = idFormB f := by
  unfold idFormB; rw [decide_eq_false (p := f.text.size ≤ 40) (by omega)]; simp
theorem idForm_3 {f : Fm} (h : f.frm < 0) : false = idFormB f := by
  unfold idFormB; rw [decide_eq_false (p := 0 ≤ f.frm) (by omega)]; simp
theorem idForm_4 {f : Fm} (h : ¬ scopesB f.scopes = true) : false = idFormB f := by
  unfold idFormB; rw [show scopesB f.scopes = false from by simpa using h]; simp
theorem atomForm_0 {f : Fm} (h1 : atomB f.text.data.toList = true) (h2 : (f.text.size : Int) ≤ 40) (h3 : f.frm = 0) : ((f.scopes.length + f.kids.length : Int) == 0) = atomFormB f := by
  unfold atomFormB; rw [h1, decide_eq_true (by omega), decide_eq_true h3]
  by_cases h : f.scopes.length + f.kids.length = 0
  · rw [decide_eq_true h, beq_iff_eq.2 (by omega)]; rfl
  · rw [decide_eq_false h, Bool.and_false, beq_eq_false_iff_ne]; omega
theorem atomForm_1 {f : Fm} (h : ¬ atomB f.text.data.toList = true) : false = atomFormB f := by
  unfold atomFormB; rw [show atomB f.text.data.toList = false from by simpa using h]; rfl
theorem atomForm_2 {f : Fm} (h : 40 < (f.text.size : Int)) : false = atomFormB f := by
  unfold atomFormB; rw [decide_eq_false (p := f.text.size ≤ 40) (by omega)]; simp
theorem atomForm_3 {f : Fm} (h : ¬ f.frm = 0) : false = atomFormB f := by
  unfold atomFormB; rw [decide_eq_false (p := f.frm = 0) (by omega)]; simp

def OkForm (n : Nat) : Prop := ∀ f : Fm, f.sz ≤ n → ∀ (B : Nat → Prop) (w : World) (c0 c1 c2 c3 c4 : Value) (d : Nat), FormAt B w f c0 c1 c2 c3 c4 → (∀ b, B b → b < w.heap.size) → d ≤ 100 → f.cost ≤ 1048576 →
    Calls Try.prog 27 #[.agg #[c0, c1, c2, c3, c4], .int .i64 d] w fun e w' => e = .returned (.bool (okB f d)) ∧ Below w.heap.size w w'

set_option maxHeartbeats 1000000 in
theorem okForm_id (f : Fm) (B : Nat → Prop) (w : World) (c0 c1 c2 c3 c4 : Value) (d : Nat) (hA : FormAt B w f c0 c1 c2 c3 c4) (hB : ∀ b, B b → b < w.heap.size) (hd : d ≤ 60) (hs : f.sort = 1) :
    Calls Try.prog 27 #[.agg #[c0, c1, c2, c3, c4], .int .i64 d] w fun e w' => e = .returned (.bool (okB f d)) ∧ Below w.heap.size w w' := by
  obtain ⟨rfl, rfl, ht, h2, rfl, h4⟩ := (formAt_iff _ _ _ _ _ _ _ _).1 hA
  rw [hs]
  have H2 := hid h2
  have HR := hid hB
  obtain ⟨a2, k2, rfl, hl2, -⟩ := h2
  obtain ⟨a4, k4, rfl, hl4, -⟩ := h4
  have HX := hid (okB_id f d hd hs)
  have Hht := hid ht
  unfold maxLen at hl2 hl4 ht
  clear hA hB hs
  go_enter Try.func27, Try.ntmps27
  go_wp2_with (first
    | (go_at_call 38; refine (l1IdOk_any _ _ Hht.out).mono ?_; rintro e w' ⟨rfl, hw⟩; rw [hw]; clear hw w')
    | (go_at_call 39; refine (l1ScopesOk_any B _ f.scopes _ (H2.out.keep ((SameOn.refl _ _).alloc HR.out _))).mono ?_; rintro e w' ⟨rfl, m, rfl⟩))
  all_goals go_ret
  all_goals refine ⟨ret_bool ?_, ?_⟩
  all_goals first
    | exact (Below.refl _ _).alloc (Nat.le_refl _) _
    | exact belowN ((Below.refl _ _).alloc (Nat.le_refl _) _) _
    | skip
  all_goals rw [HX.out]
  all_goals first
    | exact idForm_0 ‹_› ‹_› ‹_› ‹_›
    | exact idForm_1 ‹_›
    | exact idForm_2 ‹_›
    | exact idForm_3 ‹_›
    | exact idForm_4 ‹_›

set_option maxHeartbeats 1000000 in
theorem okForm_atom (f : Fm) (B : Nat → Prop) (w : World) (c0 c1 c2 c3 c4 : Value) (d : Nat) (hA : FormAt B w f c0 c1 c2 c3 c4) (hd : d ≤ 60) (hs : f.sort = 2) (hc : f.cost ≤ 1048576) :
    Calls Try.prog 27 #[.agg #[c0, c1, c2, c3, c4], .int .i64 d] w fun e w' => e = .returned (.bool (okB f d)) ∧ Below w.heap.size w w' := by
  obtain ⟨rfl, rfl, ht, h2, rfl, h4⟩ := (formAt_iff _ _ _ _ _ _ _ _).1 hA
  rw [hs]
  obtain ⟨a2, k2, rfl, hl2, -⟩ := h2
  obtain ⟨a4, k4, rfl, hl4, -⟩ := h4
  have HX := hid (okB_atom f d hd hs)
  have Hht := hid ht
  clear hA hs
  have hb1 : f.scopes.length ≤ 1048576 := by have := Fm.cost_eq f; omega
  have hb2 : f.kids.length ≤ 1048576 := by have := Fm.cost_eq f; omega
  · unfold maxLen at hl2 hl4 ht
    go_enter Try.func27, Try.ntmps27
    go_wp2_with (go_at_call 40; refine (l1AtomOk_any _ _ Hht.out).mono ?_; rintro e w' ⟨rfl, hw⟩; rw [hw]; clear hw w')
    all_goals go_ret
    all_goals refine ⟨ret_bool ?_, (Below.refl _ _).alloc (Nat.le_refl _) _⟩
    all_goals rw [HX.out]
    all_goals first
      | exact atomForm_0 ‹_› ‹_› ‹_›
      | exact atomForm_1 ‹_›
      | exact atomForm_2 ‹_›
      | exact atomForm_3 ‹_›

end Go.Proofs.Ytoefpcegekfggaa
