/- The program's openId and openAtom take just the identifiers and atoms that are ok. Condition: the form lies in memory as FormAt says. -/
import Derived.Test.YtoefpcegekfggaaF4
import Derived.Test.YtoefpcegekfggaaT6
namespace Go.Proofs.Ytoefpcegekfggaa
open Go.RowKit Go.Siskin

theorem belowN' {B : Nat} {a w : World} (h : Below B a w) (n : Nat) : Below B a (w.drewN n) := h.trans ⟨rfl, rfl, rfl, Nat.le_refl _, fun _ _ => rfl⟩

theorem len_size (s : ByteArray) : s.data.toList.length = s.size := by simp
theorem idF_1 {f : Fm} (h : ¬ id40 f.text.data.toList = true) : false = idFormB f := by
  unfold idFormB; unfold id40 at h; rw [len_size] at h
  cases h1 : idB f.text.data.toList <;> cases h2 : decide (f.text.size ≤ 40) <;> simp_all
theorem idF_3 {f : Fm} (h : f.frm < 0) : false = idFormB f := by
  unfold idFormB; rw [decide_eq_false (p := 0 ≤ f.frm) (by omega)]; simp
theorem idF_4 {f : Fm} (h : ¬ scopesB f.scopes = true) : false = idFormB f := by
  unfold idFormB; rw [show scopesB f.scopes = false from by simpa using h]; simp
theorem idF_5 {f : Fm} (h : 0 < f.kids.length) : false = idFormB f := by
  unfold idFormB; rw [decide_eq_false (p := f.kids.length = 0) (by omega)]; simp
theorem idF_0 {f : Fm} (h1 : id40 f.text.data.toList = true) (h2 : scopesB f.scopes = true) (h3 : 0 ≤ f.frm) (h4 : f.kids.length = 0) : idFormB f = true := by
  unfold idFormB; unfold id40 at h1; rw [len_size, Bool.and_eq_true] at h1
  rw [h1.1, h1.2, h2, decide_eq_true h3, decide_eq_true h4]; rfl
theorem atF_1 {f : Fm} (h : ¬ atom40 f.text.data.toList = true) : false = atomFormB f := by
  unfold atomFormB; unfold atom40 at h; rw [len_size] at h
  cases h1 : atomB f.text.data.toList <;> cases h2 : decide (f.text.size ≤ 40) <;> simp_all
theorem atF_2 {f : Fm} (h : 0 < f.scopes.length) : false = atomFormB f := by
  unfold atomFormB; rw [decide_eq_false (p := f.scopes.length + f.kids.length = 0) (by omega)]; simp
theorem atF_3 {f : Fm} (h : ¬ f.frm = 0) : false = atomFormB f := by
  unfold atomFormB; rw [decide_eq_false (p := f.frm = 0) h]; simp
theorem atF_4 {f : Fm} (h : 0 < f.kids.length) : false = atomFormB f := by
  unfold atomFormB; rw [decide_eq_false (p := f.scopes.length + f.kids.length = 0) (by omega)]; simp
theorem atF_0 {f : Fm} (h1 : atom40 f.text.data.toList = true) (h2 : f.scopes.length = 0) (h3 : f.frm = 0) (h4 : f.kids.length = 0) : atomFormB f = true := by
  unfold atomFormB; unfold atom40 at h1; rw [len_size, Bool.and_eq_true] at h1
  rw [h1.1, h1.2, decide_eq_true h3, decide_eq_true (by omega)]; rfl

set_option maxHeartbeats 1000000 in
theorem openAtom_any (f : Fm) (B : Nat → Prop) (w : World) (c0 c1 c2 c3 c4 : Value) (hA : FormAt B w f c0 c1 c2 c3 c4) :
    Calls Try.prog 49 #[.agg #[c0, c1, c2, c3, c4]] w fun e w' => (atomFormB f = true → e = .returned (.tuple #[.iface 102 (.agg #[c1]), .bool true])) ∧ (atomFormB f = false → e = .returned (.tuple #[.nilIface, .bool false])) ∧ Below w.heap.size w w' := by
  obtain ⟨rfl, rfl, ht, h2, rfl, h4⟩ := (formAt_iff _ _ _ _ _ _ _ _).1 hA
  obtain ⟨a2, k2, rfl, hl2, -⟩ := h2
  obtain ⟨a4, k4, rfl, hl4, -⟩ := h4
  have Hht := hid ht
  unfold maxLen at hl2 hl4 ht
  clear hA
  cases e1 : atom40 f.text.data.toList with
  | false =>
    go_enter Try.func49, Try.ntmps49
    go_wp2_with (go_at_call 61; refine (isAtomText_any _ _ Hht.out).mono ?_; rintro e w' ⟨rfl, hw⟩; rw [hw]; clear hw w')
    go_ret2
    exact ⟨fun hx => absurd ((atF_1 (by rw [e1]; decide)).trans hx) (by decide), fun _ => rfl, (Below.refl _ _).alloc (Nat.le_refl _) _⟩
  | true =>
  by_cases e2 : 0 < f.scopes.length
  · have e2' : 0 < (f.scopes.length : Int) := by omega
    go_enter Try.func49, Try.ntmps49
    go_wp2_with (go_at_call 61; refine (isAtomText_any _ _ Hht.out).mono ?_; rintro e w' ⟨rfl, hw⟩; rw [hw]; clear hw w')
    go_ret2
    exact ⟨fun hx => absurd ((atF_2 e2).trans hx) (by decide), fun _ => rfl, (Below.refl _ _).alloc (Nat.le_refl _) _⟩
  have e2' : f.scopes.length = 0 := by omega
  rw [e2']
  by_cases e3 : f.frm = 0
  · rw [e3]
    by_cases e4 : 0 < f.kids.length
    · have e4' : 0 < (f.kids.length : Int) := by omega
      clear e2' e2
      go_enter Try.func49, Try.ntmps49
      go_wp2_with (go_at_call 61; refine (isAtomText_any _ _ Hht.out).mono ?_; rintro e w' ⟨rfl, hw⟩; rw [hw]; clear hw w')
      go_ret2
      exact ⟨fun hx => absurd ((atF_4 e4).trans hx) (by decide), fun _ => rfl, (Below.refl _ _).alloc (Nat.le_refl _) _⟩
    · have e4' : f.kids.length = 0 := by omega
      rw [e4']
      have HY := hid (atF_0 e1 e2' e3 e4')
      clear e2' e2 e3 e4 e4'
      go_enter Try.func49, Try.ntmps49
      go_wp2_with (go_at_call 61; refine (isAtomText_any _ _ Hht.out).mono ?_; rintro e w' ⟨rfl, hw⟩; rw [hw]; clear hw w')
      go_ret2
      exact ⟨fun _ => rfl, fun hx => absurd (hx.symm.trans HY.out) (by decide), (Below.refl _ _).alloc (Nat.le_refl _) _⟩
  · have e3' : (f.frm != 0) = true := by simpa using e3
    clear e2' e2
    go_enter Try.func49, Try.ntmps49
    go_wp2_with (go_at_call 61; refine (isAtomText_any _ _ Hht.out).mono ?_; rintro e w' ⟨rfl, hw⟩; rw [hw]; clear hw w')
    go_ret2
    exact ⟨fun hx => absurd ((atF_3 e3).trans hx) (by decide), fun _ => rfl, (Below.refl _ _).alloc (Nat.le_refl _) _⟩

set_option maxHeartbeats 1000000 in
theorem openId_any (f : Fm) (B : Nat → Prop) (w : World) (c0 c1 c2 c3 c4 : Value) (hA : FormAt B w f c0 c1 c2 c3 c4) (hB : ∀ b, B b → b < w.heap.size) (hs : f.sort = 1) :
    Calls Try.prog 48 #[.agg #[c0, c1, c2, c3, c4]] w fun e w' => (idFormB f = true → e = .returned (.tuple #[.agg #[c1, c2, c3], .bool true])) ∧ (idFormB f = false → e = .returned (.tuple #[.agg #[.string ⟨#[]⟩, .slice none 0 0, .int .i64 0], .bool false])) ∧ Below w.heap.size w w' := by
  have HA := hid hA
  obtain ⟨rfl, rfl, ht, h2, rfl, h4⟩ := (formAt_iff _ _ _ _ _ _ _ _).1 hA
  have H2 := hid h2
  have HR := hid hB
  obtain ⟨a2, k2, rfl, hl2, -⟩ := h2
  obtain ⟨a4, k4, rfl, hl4, -⟩ := h4
  have Hht := hid ht
  unfold maxLen at hl2 hl4 ht
  rw [hs] at HA ⊢
  clear hA hB
  go_enter Try.func48, Try.ntmps48
  go_wp2_with fail
  refine (isIdText_any _ _ Hht.out).mono ?_
  rintro e w1 ⟨rfl, hw⟩
  obtain ⟨hc1, hf1⟩ := bcell hw
  have hz1 : w.heap.size + 1 < w1.heap.size := by have := hw.size; simp at this; omega
  have HW := hid hw
  have HT := hid ((((Below.refl w.heap.size w).alloc (Nat.le_refl _) _).alloc (by simp) _).trans (hw.mono (by simp; omega)))
  clear hw
  go_wp2_with (go_at_call 60; refine (areScopes_any B _ f.scopes _ (H2.out.keep ((((SameOn.refl _ _).alloc HR.out _).alloc (fun b hb => by have := HR.out b hb; simp; omega) _).below HW.out (fun b hb => by have := HR.out b hb; simp; omega)))).mono ?_; rintro e w' ⟨rfl, m, rfl⟩)
  · refine bodyPost_ret (v := .tuple #[.agg #[.string ⟨#[]⟩, .slice none 0 0, .int .i64 0], .bool false]) (by simp [results, Try.results48, go_sem, hc1]) rfl ?_
    exact ⟨fun hx => absurd ((idF_5 (by omega)).trans hx) (by decide), fun _ => rfl, ((((belowN' HT.out m).setCell (by simp) _).setCell (by simp) _).setCell (by simp) _)⟩
  · refine bodyPost_ret (v := .tuple #[.agg #[.string f.text, .slice a2 f.scopes.length k2, .int .i64 f.frm], .bool true]) (by simp [results, Try.results48, go_sem, hc1]) rfl ?_
    exact ⟨fun _ => rfl, fun hx => absurd (hx.symm.trans (idF_0 ‹_› ‹_› (by omega) (by omega))) (by decide), ((((belowN' HT.out m).setCell (by simp) _).setCell (by simp) _).setCell (by simp) _)⟩
  · refine bodyPost_ret (v := .tuple #[.agg #[.string ⟨#[]⟩, .slice none 0 0, .int .i64 0], .bool false]) (by simp [results, Try.results48, go_sem, hc1]) rfl ?_
    exact ⟨fun hx => absurd ((idF_3 ‹_›).trans hx) (by decide), fun _ => rfl, ((((belowN' HT.out m).setCell (by simp) _).setCell (by simp) _).setCell (by simp) _)⟩
  · refine bodyPost_ret (v := .tuple #[.agg #[.string ⟨#[]⟩, .slice none 0 0, .int .i64 0], .bool false]) (by simp [results, Try.results48, go_sem, hc1]) rfl ?_
    exact ⟨fun hx => absurd ((idF_4 ‹_›).trans hx) (by decide), fun _ => rfl, ((((belowN' HT.out m).setCell (by simp) _).setCell (by simp) _).setCell (by simp) _)⟩
  · refine bodyPost_ret (v := .tuple #[.agg #[.string ⟨#[]⟩, .slice none 0 0, .int .i64 0], .bool false]) (by simp [results, Try.results48, go_sem, hc1]) rfl ?_
    exact ⟨fun hx => absurd ((idF_1 ‹_›).trans hx) (by decide), fun _ => rfl, (((HT.out.setCell (by simp) _).setCell (by simp) _).setCell (by simp) _)⟩

end Go.Proofs.Ytoefpcegekfggaa
