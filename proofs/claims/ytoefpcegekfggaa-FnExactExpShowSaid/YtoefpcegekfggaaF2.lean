/- The law's toExpForm copies a form into new memory, if toExpFormS does so of its kids. Condition: the form lies in memory, and costs at most 1048576. -/
import Derived.Test.YtoefpcegekfggaaF1
namespace Go.Proofs.Ytoefpcegekfggaa
open Go.RowKit Go.Siskin

def ToForm (n : Nat) : Prop := ∀ f : Fm, f.sz ≤ n → ∀ (B : Nat → Prop) (w : World) (c0 c1 c2 c3 c4 : Value), FormAt B w f c0 c1 c2 c3 c4 → (∀ b, B b → b < w.heap.size) → f.cost ≤ 1048576 →
    Calls Try.prog 8 #[.agg #[c0, c1, c2, c3, c4]] w fun e w' => ∃ d0 d1 d2 d3 d4, e = .returned (.agg #[d0, d1, d2, d3, d4]) ∧ FormAt (Fresh w w') w' f d0 d1 d2 d3 d4 ∧ Below w.heap.size w w'
def ToForms (n : Nat) : Prop := ∀ ks : List Fm, Fm.szs ks ≤ n → ∀ (B : Nat → Prop) (w : World) (v : Value), FormsAt B w v ks → (∀ b, B b → b < w.heap.size) → ks.length + Fm.costs ks ≤ 1048576 →
    Calls Try.prog 22 #[v] w fun e w' => ∃ u, e = .returned u ∧ FormsAt (Fresh w w') w' u ks ∧ Below w.heap.size w w'

set_option maxHeartbeats 1000000 in
theorem toForm_of (n : Nat) (ih : ToForms n) : ToForm (n + 1) := by
  intro f hf B w c0 c1 c2 c3 c4 hA hB h0
  obtain ⟨rfl, rfl, ht, h2, rfl, h4⟩ := (formAt_iff _ _ _ _ _ _ _ _).1 hA
  have HC := hid (Fm.cost_eq f)
  have HS := hid (Fm.sz_kids f)
  have hl : f.scopes.length ≤ 1048576 := by have := HC.out; omega
  have H2 := hid h2
  have H4 := hid h4
  have HI := hid ih
  have HR := hid hB
  clear h2 h4 hA ih hB
  go_enter Try.func8, Try.ntmps8
  go_wp2_with fail
  refine (toIntS_any B _ f.scopes _ (H2.out.keep (((((SameOn.refl _ _).alloc HR.out _).alloc (fun b hb => by have := HR.out b hb; simp; omega) _).alloc (fun b hb => by have := HR.out b hb; simp; omega) _))) (fun b hb => by have := HR.out b hb; simp; omega) hl).mono ?_
  rintro e w1 ⟨v2, rfl, hi1, hb1⟩
  obtain ⟨a2, k2, rfl, -⟩ := id hi1
  obtain ⟨hc1, hf1⟩ := bcell hb1
  have hz1 : w.heap.size + 2 < w1.heap.size := by have := hb1.size; simp at this; omega
  have hz1a : w.heap.size + 1 < w1.heap.size := by omega
  have hz1b : w.heap.size < w1.heap.size := by omega
  have HI1 := hid hi1
  have HB1 := hid hb1
  clear hi1 hb1
  go_wp2_with fail
  refine (HI.out f.kids (by have := HS.out; omega) B _ c4 (H4.out.keep ?_) ?_ (by have := HC.out; omega)).mono ?_
  · exact (((((((SameOn.refl _ _).alloc HR.out _).alloc (fun b hb => by have := HR.out b hb; simp; omega) _).alloc (fun b hb => by have := HR.out b hb; simp; omega) _).below HB1.out (fun b hb => by have := HR.out b hb; simp; omega)).setCell (fun hb => by have := HR.out _ hb; simp at this; omega) _).setCell (fun hb => by have := HR.out _ hb; simp at this; omega) _)
  · exact fun b hb => by have := HR.out b hb; simp; omega
  rintro e w2 ⟨u, rfl, hi2, hb2⟩
  obtain ⟨a4, k4, rfl, -⟩ := id hi2
  obtain ⟨hc2, hf2⟩ := bcell hb2
  have hz2 : w1.heap.size ≤ w2.heap.size := by have := hb2.size; simp at this; omega
  have HI2 := hid hi2
  have HB2 := hid hb2
  clear hi2 hb2
  go_wp2_with fail
  refine bodyPost_ret (v := .agg #[.int .i64 f.sort, .string f.text, .slice a2 f.scopes.length k2, .int .i64 f.frm, .slice a4 f.kids.length k4]) (by simp [results, Try.results8, go_sem, hc1, hc2, hz1a]) rfl ⟨_, _, _, _, _, rfl, ?_, ?_⟩
  · refine (formAt_iff _ _ _ _ _ _ _ _).2 ⟨rfl, rfl, ht, (HI1.out.keep ?_).mono ?_, rfl, (HI2.out.keep ?_).mono ?_⟩
    · refine ((((((((SameOn.refl _ _).setCell ?_ _).setCell ?_ _).below HB2.out ?_).setCell ?_ _).setCell ?_ _).setCell ?_ _).setCell ?_ _).setCell ?_ _ |>.setCell ?_ _
      all_goals first
        | (intro h; have := h.1; simp at this; omega)
        | (intro b h; have := h.2; simp; omega)
    · intro b h; have h1 := h.1; have h2 := h.2; exact ⟨by simp at h1; omega, by simp; omega⟩
    · refine ((((((SameOn.refl _ _).setCell ?_ _).setCell ?_ _).setCell ?_ _).setCell ?_ _).setCell ?_ _).setCell ?_ _
      all_goals (intro h; have := h.1; simp at this; omega)
    · intro b h; have h1 := h.1; have h2 := h.2; exact ⟨by simp at h1; omega, by simp; omega⟩
  · refine (((((((((((((Below.refl _ _).alloc (Nat.le_refl _) _).alloc (by simp) _).alloc (by simp; omega) _).trans (HB1.out.mono (by simp; omega))).setCell ?_ _).setCell ?_ _).trans (HB2.out.mono (by simp; omega))).setCell ?_ _).setCell ?_ _).setCell ?_ _).setCell ?_ _).setCell ?_ _).setCell ?_ _
    all_goals (simp; try omega)

end Go.Proofs.Ytoefpcegekfggaa
