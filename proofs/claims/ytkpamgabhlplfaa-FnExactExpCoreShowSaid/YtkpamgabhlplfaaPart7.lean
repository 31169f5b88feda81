/-
  The law's szExpForm and szExpFormS take from a number what a form costs. Condition: the form lies in memory as FormAt says.
  The law's toExpForm copies a form into new memory, if toExpFormS does so of its kids. Condition: the form lies in memory, and costs at most 1048576.
  The law's toExpForm and toExpFormS copy forms into new memory. Condition: the forms lie in memory, and cost at most 1048576.
  The model's l5Head, l5Params and ExpCoreShow show a part. Condition: the part lies in memory, and what is shown is not too long.
-/
import Derived.Test.YtkpamgabhlplfaaPart6
import Derived.Test.YtkpamgabhlplfaaPart2
namespace Go.Proofs.Ytkpamgabhlplfaa
open Go.RowKit Go.Siskin

theorem szI_two (a b : Nat) (l : Int) : szI (a + b) l = if szI a l < 0 then -1 else szI b (szI a l) := by
  unfold szI
  by_cases h1 : l - a < 0
  · rw [if_pos h1, if_pos (by omega), if_pos (by omega)]
  · rw [if_neg h1, if_neg h1]
    by_cases h2 : l - a - b < 0
    · rw [if_pos h2, if_pos (by omega)]
    · rw [if_neg h2, if_neg (by omega)]; omega
theorem szI_ge (a : Nat) (l : Int) : -1 ≤ szI a l ∧ (0 ≤ l → szI a l ≤ l) := by
  unfold szI
  by_cases h1 : l - a < 0
  · rw [if_pos h1]; omega
  · rw [if_neg h1]; omega

theorem szI_neg (a : Nat) (l : Int) : szI a l < 0 ↔ l - a < 0 := by
  unfold szI
  by_cases h1 : l - a < 0
  · rw [if_pos h1]; omega
  · rw [if_neg h1]
theorem szI_minus (a : Nat) (l : Int) : szI a l = -1 ↔ l - a < 0 := by
  unfold szI
  by_cases h1 : l - a < 0
  · rw [if_pos h1]; omega
  · rw [if_neg h1]; omega
theorem szI_pos (a : Nat) (l : Int) (h : ¬ szI a l < 0) : szI a l = l - a := by
  unfold szI at h ⊢
  by_cases h1 : l - a < 0
  · rw [if_pos h1] at h; omega
  · rw [if_neg h1]

def SzForm (n : Nat) : Prop := ∀ f : Fm, f.sz ≤ n → ∀ (B : Nat → Prop) (w : World) (c0 c1 c2 c3 c4 : Value) (left : Int), FormAt B w f c0 c1 c2 c3 c4 → (∀ b, B b → b < w.heap.size) → 0 ≤ left → left ≤ 1048576 →
    Calls Try.prog 7 #[.agg #[c0, c1, c2, c3, c4], .int .i64 left] w fun e w' => e = .returned (.int .i64 (szI f.cost left)) ∧ Below w.heap.size w w'
def SzForms (n : Nat) : Prop := ∀ ks : List Fm, Fm.szs ks ≤ n → ∀ (B : Nat → Prop) (w : World) (v : Value) (left : Int), FormsAt B w v ks → (∀ b, B b → b < w.heap.size) → 0 ≤ left → left ≤ 1048576 →
    Calls Try.prog 25 #[v, .int .i64 left] w fun e w' => e = .returned (.int .i64 (szI (ks.length + Fm.costs ks) left)) ∧ Below w.heap.size w w'

set_option maxHeartbeats 1000000 in
theorem szForms_of (n : Nat) (ih : SzForm n) : SzForms n := by
  intro ks hks B w v left hv hB h0 h1
  obtain ⟨a, ca, rfl, hla, ha⟩ := hv
  unfold maxLen at hla
  have HI := hid ih
  clear ih
  by_cases hn : left - ks.length < 0
  · go_enter Try.func25, Try.ntmps25
    go_wp2_with fail
    go_ret
    exact ⟨ret_int (by unfold szI; rw [if_pos (by omega)]), Below.refl _ _⟩
  go_enter Try.func25, Try.ntmps25
  go_wp2_with fail
  go_loopw [1, 5] (fun l i wr => ∃ k : Nat, k ≤ ks.length ∧ i = .int .i64 k ∧ ∃ m : Int, l = .int .i64 m ∧ 0 ≤ m ∧ m ≤ 1048576 ∧ Hid (m = left - ks.length - Fm.costs (ks.take k)) ∧ Hid (Below w.heap.size w wr)) (fun _ i _ => ks.length - (intOf i).toNat)
  case atStart => exact ⟨0, Nat.zero_le _, rfl, _, rfl, by omega, by omega, by show _ = _; simp [Fm.costs], Below.refl _ _⟩
  case round =>
    obtain ⟨k, hk, rfl, m, rfl, hm0, hm1, HM, HB⟩ := hrel
    by_cases hlt : k < ks.length
    · rcases ha with ha | ⟨ba, oa, rfl, hb, ha⟩
      · subst ha; simp at hlt
      obtain ⟨c0, c1, c2, c3, c4, g0, g1, g2, g3, g4, hf⟩ := RowAt.get ks (RowAt.keep (HB.out.on hB) hb ks ha) k hlt
      have hsz := HB.out.size
      have hc := HI.out ks[k] (Nat.le_trans (Fm.szs_get ks k hlt) hks) B wr c0 c1 c2 c3 c4 m hf (fun b hb => by have := hB b hb; omega) hm0 hm1
      have HC := hid hc
      have HT := hid (Fm.costs_take ks k hlt)
      have HL := hid (Fm.costs_take_le ks (k + 1))
      clear hc ha hf HI
      by_cases hneg : szI ks[k].cost m < 0
      · go_wp2_with (go_at_call 7; refine HC.out.mono ?_; rintro e w' ⟨rfl, hw⟩)
        go_ret
        refine ⟨ret_int ?_, HB.out.trans (hw.mono (by omega))⟩
        have h1 := HM.out
        have h2 := HT.out
        have h3 := HL.out
        have h4 := (szI_neg _ _).1 hneg
        exact ((szI_minus _ _).2 (by omega)).symm
      · go_wp2_with (go_at_call 7; refine HC.out.mono ?_; rintro e w' ⟨rfl, hw⟩)
        have h1 := HM.out
        have h2 := HT.out
        have h4 := szI_pos _ _ (Int.not_lt.2 hneg)
        have h5 := (szI_ge ks[k].cost m).2 hm0
        exact ⟨⟨k + 1, by omega, by go_num, _, rfl, by omega, by omega, by show _ = _; rw [h4, h2]; omega, HB.out.trans (hw.mono (by omega))⟩, by simp [intOf]; omega⟩
    · go_wp2_with fail
      go_ret
      exact ⟨ret_int (by
        have h := HM.out
        rw [List.take_of_length_le (by omega)] at h
        unfold szI; rw [if_neg (by omega)]; omega), HB.out⟩

set_option maxHeartbeats 1000000 in
theorem szForm_of (n : Nat) (ih : SzForms n) : SzForm (n + 1) := by
  intro f hf B w c0 c1 c2 c3 c4 left hA hB h0 h1
  obtain ⟨rfl, rfl, ht, h2, rfl, h4⟩ := (formAt_iff _ _ _ _ _ _ _ _).1 hA
  obtain ⟨sa, sc, rfl, hsl, h2⟩ := h2
  clear h2
  have hsl0 := hsl.1
  have ht0 := ht
  unfold maxLen at ht
  have HC := hid (Fm.cost_eq f)
  have HS := hid (Fm.sz_kids f)
  by_cases k1 : left - f.text.size < 0
  · go_enter Try.func7, Try.ntmps7
    go_wp2_with fail
    go_ret
    have := HC.out
    exact ⟨ret_int ((szI_minus _ _).2 (by omega)).symm, (Below.refl _ _).alloc (Nat.le_refl _) _⟩
  by_cases k2 : szI f.scopes.length (left - f.text.size) < 0
  · go_enter Try.func7, Try.ntmps7
    go_wp2_with (go_at_call 24; refine (szIntS_any _ _ _ _ _ (by omega) (by omega) hsl0).mono ?_; rintro e w' ⟨rfl, hw⟩; rw [hw]; clear hw w')
    go_ret
    have := HC.out
    have := (szI_neg _ _).1 k2
    exact ⟨ret_int ((szI_minus _ _).2 (by omega)).symm, (Below.refl _ _).alloc (Nat.le_refl _) _⟩
  have HP := hid (szI_pos _ _ k2)
  have hle := (szI_ge f.scopes.length (left - f.text.size)).2 (by omega)
  have HK := hid (ih f.kids (by have := HS.out; omega) B (w.alloc (.cells #[.int .i64 f.sort, .string f.text, .slice sa f.scopes.length sc, .int .i64 f.frm, c4] 25)) c4 (szI f.scopes.length (left - f.text.size)) (h4.keep ((SameOn.refl _ _).alloc hB _)) (fun b hb => by have := hB b hb; simp; omega) (by omega) (by omega))
  clear ih h4 hA
  by_cases k3 : szI (f.kids.length + Fm.costs f.kids) (szI f.scopes.length (left - f.text.size)) < 0
  · go_enter Try.func7, Try.ntmps7
    go_wp2_with (first
      | (go_at_call 24; refine (szIntS_any _ _ _ _ _ (by omega) (by omega) hsl0).mono ?_; rintro e w' ⟨rfl, hw⟩; rw [hw]; clear hw w')
      | (go_at_call 25; refine HK.out.mono ?_; rintro e w' ⟨rfl, hw⟩))
    go_ret
    have h1 := HC.out
    have h2 := HP.out
    have h3 := (szI_neg _ _).1 k3
    exact ⟨ret_int ((szI_minus _ _).2 (by omega)).symm, ((Below.refl _ _).alloc (Nat.le_refl _) _).trans (hw.mono (by simp))⟩
  · go_enter Try.func7, Try.ntmps7
    go_wp2_with (first
      | (go_at_call 24; refine (szIntS_any _ _ _ _ _ (by omega) (by omega) hsl0).mono ?_; rintro e w' ⟨rfl, hw⟩; rw [hw]; clear hw w')
      | (go_at_call 25; refine HK.out.mono ?_; rintro e w' ⟨rfl, hw⟩))
    go_ret
    have h1 := HC.out
    have h2 := HP.out
    have h3 := szI_pos _ _ (Int.not_lt.2 k3)
    refine ⟨ret_int ?_, ((Below.refl _ _).alloc (Nat.le_refl _) _).trans (hw.mono (by simp))⟩
    rw [h3, h2, szI_pos _ _ (by rw [szI_neg]; omega)]; omega

theorem szForm_all : ∀ n, SzForm n ∧ SzForms n
  | 0 => by
    have h : SzForm 0 := fun f hf => by have := Fm.sz_kids f; omega
    exact ⟨h, szForms_of 0 h⟩
  | n + 1 => by
    have h := szForm_of n (szForm_all n).2
    exact ⟨h, szForms_of (n + 1) h⟩

/-- The law's own count of a form. -/
theorem szExpForm_any (f : Fm) (B : Nat → Prop) (w : World) (c0 c1 c2 c3 c4 : Value) (left : Int) (h : FormAt B w f c0 c1 c2 c3 c4) (hB : ∀ b, B b → b < w.heap.size) (h0 : 0 ≤ left) (h1 : left ≤ 1048576) :
    Calls Try.prog 7 #[.agg #[c0, c1, c2, c3, c4], .int .i64 left] w fun e w' => e = .returned (.int .i64 (szI f.cost left)) ∧ Below w.heap.size w w' :=
  (szForm_all f.sz).1 f (Nat.le_refl _) B w c0 c1 c2 c3 c4 left h hB h0 h1

end Go.Proofs.Ytkpamgabhlplfaa

namespace Go.Proofs.Ytkpamgabhlplfaa
open Go.RowKit Go.Siskin

def ToForm (n : Nat) : Prop := ∀ f : Fm, f.sz ≤ n → ∀ (B : Nat → Prop) (w : World) (c0 c1 c2 c3 c4 : Value), FormAt B w f c0 c1 c2 c3 c4 → (∀ b, B b → b < w.heap.size) → f.cost ≤ 1048576 →
    Calls Try.prog 9 #[.agg #[c0, c1, c2, c3, c4]] w fun e w' => ∃ d0 d1 d2 d3 d4, e = .returned (.agg #[d0, d1, d2, d3, d4]) ∧ FormAt (Fresh w w') w' f d0 d1 d2 d3 d4 ∧ Below w.heap.size w w'
def ToForms (n : Nat) : Prop := ∀ ks : List Fm, Fm.szs ks ≤ n → ∀ (B : Nat → Prop) (w : World) (v : Value), FormsAt B w v ks → (∀ b, B b → b < w.heap.size) → ks.length + Fm.costs ks ≤ 1048576 →
    Calls Try.prog 28 #[v] w fun e w' => ∃ u, e = .returned u ∧ FormsAt (Fresh w w') w' u ks ∧ Below w.heap.size w w'

set_option maxHeartbeats 1000000 in
theorem toForm_of (n : Nat) (ih : ToForms n) : ToForm (n + 1) := by
  intro f hf B w c0 c1 c2 c3 c4 hA hB h0
  obtain ⟨rfl, rfl, ht, h2, rfl, h4⟩ := (formAt_iff _ _ _ _ _ _ _ _).1 hA
  have HC := hid (Fm.cost_eq f)
  have HS := hid (Fm.sz_kids f)
  have hl : f.scopes.length ≤ 1048576 := by have := HC.out; omega
  have H2 := hid h2
  have H4 := hid h4
  have HI := hid ih
  have HR := hid hB
  clear h2 h4 hA ih hB
  go_enter Try.func9, Try.ntmps9
  go_wp2_with fail
  refine (toIntS_any B _ f.scopes _ (H2.out.keep (((((SameOn.refl _ _).alloc HR.out _).alloc (fun b hb => by have := HR.out b hb; simp; omega) _).alloc (fun b hb => by have := HR.out b hb; simp; omega) _))) (fun b hb => by have := HR.out b hb; simp; omega) hl).mono ?_
  rintro e w1 ⟨v2, rfl, hi1, hb1⟩
  obtain ⟨a2, k2, rfl, -⟩ := id hi1
  obtain ⟨hc1, hf1⟩ := bcell hb1
  have hz1 : w.heap.size + 2 < w1.heap.size := by have := hb1.size; simp at this; omega
  have hz1a : w.heap.size + 1 < w1.heap.size := by omega
  have hz1b : w.heap.size < w1.heap.size := by omega
  have HI1 := hid hi1
  have HB1 := hid hb1
  clear hi1 hb1
  go_wp2_with fail
  refine (HI.out f.kids (by have := HS.out; omega) B _ c4 (H4.out.keep ?_) ?_ (by have := HC.out; omega)).mono ?_
  · exact (((((((SameOn.refl _ _).alloc HR.out _).alloc (fun b hb => by have := HR.out b hb; simp; omega) _).alloc (fun b hb => by have := HR.out b hb; simp; omega) _).below HB1.out (fun b hb => by have := HR.out b hb; simp; omega)).setCell (fun hb => by have := HR.out _ hb; simp at this; omega) _).setCell (fun hb => by have := HR.out _ hb; simp at this; omega) _)
  · exact fun b hb => by have := HR.out b hb; simp; omega
  rintro e w2 ⟨u, rfl, hi2, hb2⟩
  obtain ⟨a4, k4, rfl, -⟩ := id hi2
  obtain ⟨hc2, hf2⟩ := bcell hb2
  have hz2 : w1.heap.size ≤ w2.heap.size := by have := hb2.size; simp at this; omega
  have HI2 := hid hi2
  have HB2 := hid hb2
  clear hi2 hb2
  go_wp2_with fail
  refine bodyPost_ret (v := .agg #[.int .i64 f.sort, .string f.text, .slice a2 f.scopes.length k2, .int .i64 f.frm, .slice a4 f.kids.length k4]) (by simp [results, Try.results9, go_sem, hc1, hc2, hz1a]) rfl ⟨_, _, _, _, _, rfl, ?_, ?_⟩
  · refine (formAt_iff _ _ _ _ _ _ _ _).2 ⟨rfl, rfl, ht, (HI1.out.keep ?_).mono ?_, rfl, (HI2.out.keep ?_).mono ?_⟩
    · refine ((((((((SameOn.refl _ _).setCell ?_ _).setCell ?_ _).below HB2.out ?_).setCell ?_ _).setCell ?_ _).setCell ?_ _).setCell ?_ _).setCell ?_ _ |>.setCell ?_ _
      all_goals first
        | (intro h; have := h.1; simp at this; omega)
        | (intro b h; have := h.2; simp; omega)
    · intro b h; have h1 := h.1; have h2 := h.2; exact ⟨by simp at h1; omega, by simp; omega⟩
    · refine ((((((SameOn.refl _ _).setCell ?_ _).setCell ?_ _).setCell ?_ _).setCell ?_ _).setCell ?_ _).setCell ?_ _
      all_goals (intro h; have := h.1; simp at this; omega)
    · intro b h; have h1 := h.1; have h2 := h.2; exact ⟨by simp at h1; omega, by simp; omega⟩
  · refine (((((((((((((Below.refl _ _).alloc (Nat.le_refl _) _).alloc (by simp) _).alloc (by simp; omega) _).trans (HB1.out.mono (by simp; omega))).setCell ?_ _).setCell ?_ _).trans (HB2.out.mono (by simp; omega))).setCell ?_ _).setCell ?_ _).setCell ?_ _).setCell ?_ _).setCell ?_ _).setCell ?_ _
    all_goals (simp; try omega)

end Go.Proofs.Ytkpamgabhlplfaa

namespace Go.Proofs.Ytkpamgabhlplfaa
open Go.RowKit Go.Siskin

/-- The first k forms stand in a block of the call's own; what they lead to lies behind it. -/
def Got (g : Nat) (wr : World) (cs : Array Value) (ks : List Fm) (k : Nat) : Prop :=
  ∀ j (hj : j < ks.length), j < k → ∃ d0 d1 d2 d3 d4, cs[j * 5]? = some d0 ∧ cs[j * 5 + 1]? = some d1 ∧ cs[j * 5 + 2]? = some d2 ∧ cs[j * 5 + 3]? = some d3 ∧ cs[j * 5 + 4]? = some d4 ∧ FormAt (fun b => g < b ∧ b < wr.heap.size) wr ks[j] d0 d1 d2 d3 d4

/-- Five cells in a row. -/
def put5 (w : World) (g o : Nat) (d0 d1 d2 d3 d4 : Value) : World :=
  ((((w.setCell ⟨g, o, none⟩ d0).setCell ⟨g, o + 1, none⟩ d1).setCell ⟨g, o + 2, none⟩ d2).setCell ⟨g, o + 3, none⟩ d3).setCell ⟨g, o + 4, none⟩ d4
def arr5 (cs : Array Value) (o : Nat) (d0 d1 d2 d3 d4 : Value) : Array Value :=
  ((((cs.setIfInBounds o d0).setIfInBounds (o + 1) d1).setIfInBounds (o + 2) d2).setIfInBounds (o + 3) d3).setIfInBounds (o + 4) d4

theorem put5_own {w : World} {g : Nat} {e : TypeId} {cs : Array Value} (h : Own w g e cs) (o : Nat) (d0 d1 d2 d3 d4 : Value) : Own (put5 w g o d0 d1 d2 d3 d4) g e (arr5 cs o d0 d1 d2 d3 d4) :=
  ((((h.set o d0).set (o + 1) d1).set (o + 2) d2).set (o + 3) d3).set (o + 4) d4
theorem put5_size (w : World) (g o : Nat) (d0 d1 d2 d3 d4 : Value) : (put5 w g o d0 d1 d2 d3 d4).heap.size = w.heap.size := by simp [put5]
theorem put5_same {R : Nat → Prop} {a w : World} (h : SameOn R a w) {g : Nat} (hg : ¬ R g) (o : Nat) (d0 d1 d2 d3 d4 : Value) : SameOn R a (put5 w g o d0 d1 d2 d3 d4) :=
  ((((h.setCell hg _).setCell hg _).setCell hg _).setCell hg _).setCell hg _
theorem put5_below {B : Nat} {a w : World} (h : Below B a w) {g : Nat} (hg : B ≤ g) (o : Nat) (d0 d1 d2 d3 d4 : Value) : Below B a (put5 w g o d0 d1 d2 d3 d4) :=
  ((((h.setCell hg _).setCell hg _).setCell hg _).setCell hg _).setCell hg _
theorem arr5_size (cs : Array Value) (o : Nat) (d0 d1 d2 d3 d4 : Value) : (arr5 cs o d0 d1 d2 d3 d4).size = cs.size := by simp [arr5]
theorem arr5_out {cs : Array Value} {o : Nat} (d0 d1 d2 d3 d4 : Value) {i : Nat} (h : i < o ∨ o + 5 ≤ i) : (arr5 cs o d0 d1 d2 d3 d4)[i]? = cs[i]? := by
  unfold arr5
  rw [Array.getElem?_setIfInBounds, if_neg (by omega), Array.getElem?_setIfInBounds, if_neg (by omega), Array.getElem?_setIfInBounds, if_neg (by omega), Array.getElem?_setIfInBounds, if_neg (by omega), Array.getElem?_setIfInBounds, if_neg (by omega)]
theorem arr5_in {cs : Array Value} {o : Nat} (d0 d1 d2 d3 d4 : Value) (h : o + 5 ≤ cs.size) :
    (arr5 cs o d0 d1 d2 d3 d4)[o]? = some d0 ∧ (arr5 cs o d0 d1 d2 d3 d4)[o + 1]? = some d1 ∧ (arr5 cs o d0 d1 d2 d3 d4)[o + 2]? = some d2 ∧ (arr5 cs o d0 d1 d2 d3 d4)[o + 3]? = some d3 ∧ (arr5 cs o d0 d1 d2 d3 d4)[o + 4]? = some d4 := by
  unfold arr5
  refine ⟨?_, ?_, ?_, ?_, ?_⟩ <;> simp [Array.getElem?_setIfInBounds] <;> omega

theorem got_step {g k : Nat} {wr w1 : World} {cs : Array Value} {ks : List Fm} {d0 d1 d2 d3 d4 : Value} (hcs : cs.size = ks.length * 5) (hlt : k < ks.length) (hg : g < wr.heap.size) (hb : Below wr.heap.size wr w1)
    (hf : FormAt (Fresh wr w1) w1 ks[k] d0 d1 d2 d3 d4) (got : Got g wr cs ks k) : Got g (put5 w1 g (k * 5) d0 d1 d2 d3 d4) (arr5 cs (k * 5) d0 d1 d2 d3 d4) ks (k + 1) := by
  intro j hj hjk
  have hs := hb.size
  by_cases e : j = k
  · subst e
    obtain ⟨e0, e1, e2, e3, e4⟩ := arr5_in (cs := cs) (o := j * 5) d0 d1 d2 d3 d4 (by omega)
    refine ⟨d0, d1, d2, d3, d4, e0, e1, e2, e3, e4, FormAt.mono ?_ _ (FormAt.keep (put5_same (SameOn.refl _ _) ?_ _ _ _ _ _ _) _ hf)⟩
    · intro b h; have h1 := h.1; have h2 := h.2; rw [put5_size]; exact ⟨by omega, h2⟩
    · intro h; have h1 := h.1; omega
  · obtain ⟨x0, x1, x2, x3, x4, e0, e1, e2, e3, e4, hx⟩ := got j hj (by omega)
    refine ⟨x0, x1, x2, x3, x4, ?_, ?_, ?_, ?_, ?_, FormAt.mono ?_ _ (FormAt.keep (put5_same ((SameOn.refl _ _).below hb ?_) ?_ _ _ _ _ _ _) _ hx)⟩
    · rw [arr5_out _ _ _ _ _ (by omega)]; exact e0
    · rw [arr5_out _ _ _ _ _ (by omega)]; exact e1
    · rw [arr5_out _ _ _ _ _ (by omega)]; exact e2
    · rw [arr5_out _ _ _ _ _ (by omega)]; exact e3
    · rw [arr5_out _ _ _ _ _ (by omega)]; exact e4
    · intro b h; rw [put5_size]; exact ⟨h.1, by omega⟩
    · intro b h; exact h.2
    · intro h; omega

set_option maxHeartbeats 1000000 in
theorem toForms_of (n : Nat) (ih : ToForm n) : ToForms n := by
  intro ks hks B w v hv hB hn
  obtain ⟨a, ca, rfl, hla, ha⟩ := hv
  unfold maxLen at hla
  obtain ⟨i, hi, hz0, hz1, hz2⟩ := info_parts Try.infoForm
  have Hi := hid hi
  have Hz0 := hid hz0
  have Hz1 := hid hz1
  have Hz2 := hid hz2
  have HI := hid ih
  have HR := hid hB
  clear hi hz0 hz1 hz2 ih hB
  have hn1 : ks.length ≤ 1048576 := by omega
  go_enter Try.func28, Try.ntmps28
  go_wp2_with (at_make; refine wpList_make_new _ rfl _ _ 28 rfl 30 i (.agg #[.int .i64 0, .string ⟨#[]⟩, .slice none 0 0, .int .i64 0, .slice none 0 0]) 5 Try.underlying28 Hi.out Hz0.out Hz1.out .i64 .i64 ks.length rfl rfl (by rw [Hz2.out]; omega) (by unfold maxLen; omega) ?_)
  go_loopw [4] (fun i wr => ∃ k : Nat, k ≤ ks.length ∧ i = .int .i64 k ∧ Hid (∃ cs : Array Value, Own wr w.heap.size 30 cs ∧ cs.size = ks.length * 5 ∧ Got w.heap.size wr cs ks k ∧ Below w.heap.size w wr)) (fun i _ => ks.length - (intOf i).toNat)
  case atStart => exact ⟨0, Nat.zero_le _, rfl, _, own_new _ _ _, size_madeCells _ _, fun j _ hj => absurd hj (by omega), (Below.refl _ _).alloc (Nat.le_refl _) _⟩
  case round =>
    obtain ⟨k, hk, rfl, HA⟩ := hrel
    obtain ⟨cs, ho, hcs, hgot, hbel⟩ := HA.out
    have HO := hid ho
    have HG := hid hgot
    have HB := hid hbel
    clear ho hgot hbel HA
    by_cases hlt : k < ks.length
    · rcases ha with ha | ⟨ba, oa, rfl, hb, ha⟩
      · subst ha; simp at hlt
      have hrow := RowAt.keep (HB.out.on HR.out) hb ks ha
      obtain ⟨c0, c1, c2, c3, c4, g0, g1, g2, g3, g4, hf⟩ := RowAt.get ks hrow k hlt
      have HC := hid (HI.out ks[k] (Nat.le_trans (Fm.szs_get ks k hlt) hks) B wr c0 c1 c2 c3 c4 hf (fun b hb => by have := HR.out b hb; have := HB.out.size; omega) (by have := Fm.costs_get ks k hlt; omega))
      clear ha hf hrow HI
      go_wp2_with fail
      refine HC.out.mono ?_
      rintro e w1 ⟨d0, d1, d2, d3, d4, rfl, hf, hw⟩
      have HF := hid hf
      obtain ⟨rfl, rfl, -, h2, rfl, h4⟩ := (formAt_iff _ _ _ _ _ _ _ _).1 hf
      obtain ⟨a2, k2, rfl, -⟩ := h2
      obtain ⟨a4, k4, rfl, -⟩ := h4
      have ho1 := HO.out.keep hw HO.out.lt
      have q0 := ho1.cell (k * 5)
      have q1 := ho1.cell (k * 5 + 1)
      have q2 := ho1.cell (k * 5 + 2)
      have q3 := ho1.cell (k * 5 + 3)
      have q4 := ho1.cell (k * 5 + 4)
      rw [Array.getElem?_eq_getElem (by omega)] at q0 q1 q2 q3 q4
      have f0 := ho1.frozen (k * 5)
      have f1 := ho1.frozen (k * 5 + 1)
      have f2 := ho1.frozen (k * 5 + 2)
      have f3 := ho1.frozen (k * 5 + 3)
      have f4 := ho1.frozen (k * 5 + 4)
      have HW := hid hw
      have HO1 := hid ho1
      clear ho1 hf hw
      go_wp2_with fail
      have hsz := HB.out.size
      exact ⟨⟨k + 1, by omega, by go_num, _, put5_own HO1.out (k * 5) _ _ _ _ _, by rw [arr5_size, hcs], got_step hcs hlt HO.out.lt HW.out HF.out HG.out, put5_below (HB.out.trans (HW.out.mono hsz)) (Nat.le_refl _) _ _ _ _ _ _⟩, by simp [intOf]; omega⟩
    · go_wp2_with fail
      go_ret
      refine ⟨_, rfl, ?_, HB.out⟩
      refine ⟨_, _, rfl, by unfold maxLen; omega, Or.inr ⟨w.heap.size, 0, rfl, ⟨Nat.le_refl _, HO.out.lt⟩, RowAt.mk ks fun j hj => ?_⟩⟩
      obtain ⟨x0, x1, x2, x3, x4, e0, e1, e2, e3, e4, hx⟩ := HG.out j hj (by omega)
      rw [Nat.zero_add]
      refine ⟨x0, x1, x2, x3, x4, (HO.out.cell _).trans e0, (HO.out.cell _).trans e1, (HO.out.cell _).trans e2, (HO.out.cell _).trans e3, (HO.out.cell _).trans e4, FormAt.mono ?_ _ hx⟩
      intro b h; exact ⟨by have := h.1; omega, h.2⟩

theorem toForm_all : ∀ n, ToForm n ∧ ToForms n
  | 0 => by
    have h : ToForm 0 := fun f hf => by have := Fm.sz_kids f; omega
    exact ⟨h, toForms_of 0 h⟩
  | n + 1 => by
    have h := toForm_of n (toForm_all n).2
    exact ⟨h, toForms_of (n + 1) h⟩

/-- The law's copy of a form: the same form, in new memory. -/
theorem toExpForm_any (f : Fm) (B : Nat → Prop) (w : World) (c0 c1 c2 c3 c4 : Value) (h : FormAt B w f c0 c1 c2 c3 c4) (hB : ∀ b, B b → b < w.heap.size) (h0 : f.cost ≤ 1048576) :
    Calls Try.prog 9 #[.agg #[c0, c1, c2, c3, c4]] w fun e w' => ∃ d0 d1 d2 d3 d4, e = .returned (.agg #[d0, d1, d2, d3, d4]) ∧ FormAt (Fresh w w') w' f d0 d1 d2 d3 d4 ∧ Below w.heap.size w w' :=
  (toForm_all f.sz).1 f (Nat.le_refl _) B w c0 c1 c2 c3 c4 h hB h0

end Go.Proofs.Ytkpamgabhlplfaa

namespace Go.Proofs.Ytkpamgabhlplfaa
open Go.RowKit Go.Siskin

set_option maxHeartbeats 1000000 in
theorem l5Head_any (s : Int) (w : World) : Calls Try.prog 43 #[.int .i64 s] w fun e w' => e = .returned (.string ⟨(headB s).toArray⟩) ∧ w' = w := by
  by_cases h5 : s = 5
  · subst h5
    go_enter Try.func43, Try.ntmps43
    go_wp2_with fail
    go_ret
    exact ⟨rfl, rfl⟩
  by_cases h6 : s = 6
  · subst h6
    go_enter Try.func43, Try.ntmps43
    go_wp2_with fail
    go_ret
    exact ⟨rfl, rfl⟩
  by_cases h7 : s = 7
  · subst h7
    go_enter Try.func43, Try.ntmps43
    go_wp2_with fail
    go_ret
    exact ⟨rfl, rfl⟩
  by_cases h9 : s = 9
  · subst h9
    go_enter Try.func43, Try.ntmps43
    go_wp2_with fail
    go_ret
    exact ⟨rfl, rfl⟩
  have HX : Hid (headB s = []) := by show headB s = []; unfold headB; rw [if_neg h5, if_neg h6, if_neg h7, if_neg h9]
  have b5 : (s == 5) = false := by simpa using h5
  have b6 : (s == 6) = false := by simpa using h6
  have b7 : (s == 7) = false := by simpa using h7
  have b9 : (s == 9) = false := by simpa using h9
  clear h5 h6 h7 h9
  go_enter Try.func43, Try.ntmps43
  go_wp2_with fail
  go_ret
  exact ⟨by rw [HX.out]; rfl, rfl⟩

theorem par_len {b zs : List UInt8} (h : zs = [40] ++ b) (hl : b.length + 2 ≤ 1000000000) : (zs.length : Int) ≤ 1000000000 := by
  rw [h]; simp only [List.length_append, List.length_cons, List.length_nil]; omega
theorem par_eq {xs a b c p q ys zs : List UInt8} (hx : xs = [40] ++ a) (ht : b = a ++ (c ++ ys)) (hc : c = p ++ q) (hz : zs = xs ++ (p ++ q) ++ ys) : zs = [40] ++ b := by
  rw [hz, hx, ht, hc]; simp

set_option maxRecDepth 20000 in
set_option maxHeartbeats 4000000 in
theorem l5Params_any (B : Nat → Prop) (v : Value) (ns : List ByteArray) (r : Bool) (w : World) (h : StrsAt B w v ns) (hl : (parB ns r).length ≤ 1000000000) :
    Calls Try.prog 44 #[v, .bool r] w fun e w' => e = .returned (.string ⟨(parB ns r).toArray⟩) ∧ w' = w := by
  obtain ⟨a, ca, rfl, hla, -, ha⟩ := h
  obtain ⟨hla, -⟩ := hla
  unfold maxLen at hla
  have HX := hid (show parB ns r = [40] ++ joinP r ns.length 0 (ns.map fun x => x.data.toList) ++ [41] from rfl)
  have HL : Hid ((joinP r ns.length 0 (ns.map fun x => x.data.toList)).length + 2 ≤ 1000000000) := by
    show _ ≤ _
    have h := hl
    rw [HX.out] at h
    simp only [List.length_append, List.length_cons, List.length_nil] at h
    omega
  clear hl
  go_enter Try.func44, Try.ntmps44
  go_wp2_with fail
  go_loopw [5, 6] (fun o i wr => Hid (wr = w) ∧ ∃ k : Nat, k ≤ ns.length ∧ i = .int .i64 k ∧ ∃ xs : List UInt8, o = .string ⟨xs.toArray⟩ ∧ (xs.length : Int) ≤ 1000000000 ∧ Hid (xs = [40] ++ joinP r ns.length 0 ((ns.map fun x => x.data.toList).take k))) (fun _ i _ => ns.length - (intOf i).toNat)
  case atStart => exact ⟨rfl, 0, Nat.zero_le _, rfl, [40], rfl, by simp, by show _ = _; simp [joinP]⟩
  case round =>
    obtain ⟨HW, k, hk, rfl, xs, rfl, hxs, HO⟩ := hrel
    by_cases hlt : k < ns.length
    · rcases ha with ha | ⟨ba, oa, rfl, hb, ha⟩
      · subst ha; simp at hlt
      have hc := ha k hlt
      rw [← HW.out, ← ceta ns[k]] at hc
      have HT := hid (joinP_take r ns.length (ns.map fun x => x.data.toList) k (by simpa using hlt))
      have hle := joinP_le r ns.length (ns.map fun x => x.data.toList) 0 (k + 1)
      have hle1 : (joinP r ns.length 0 ((ns.map fun x => x.data.toList).take (k + 1))).length + 2 ≤ 1000000000 := by have := HL.out; omega
      have HLE := hid hle1
      have hget : (ns.map fun x => x.data.toList)[k]'(by simpa using hlt) = ns[k].data.toList := by simp
      obtain ⟨ys, hys⟩ : ∃ ys, ys = ns[k].data.toList := ⟨_, rfl⟩
      rw [hget, ← hys] at HT
      rw [← hys] at hc
      have hy : (ys.length : Int) ≤ 1000000000 := by
        have h3 := hle1
        rw [HT.out] at h3
        simp only [List.length_append] at h3
        omega
      have HCD := hid (fun (p q : List UInt8) (h1 : (if 0 < k then [(32 : UInt8)] else []) = p) (h2 : (if r = true ∧ k + 1 = ns.length then [(46 : UInt8), 32] else []) = q) => show (if 0 < k then [(32 : UInt8)] else []) ++ (if r = true ∧ k + 1 = ns.length then [(46 : UInt8), 32] else []) = p ++ q by rw [h1, h2])
      clear ha hle hle1 hget hys
      by_cases hk0 : 0 < k
      · have hk0' : (0 : Int) < (k : Int) := by omega
        have HP := hid (if_pos (c := 0 < k) hk0 : (if 0 < k then [(32 : UInt8)] else []) = [32])
        cases r with
        | true =>
          by_cases h4 : k + 1 = ns.length
          · have b5 : ((k : Int) + 1 == (ns.length : Int)) = true := by simp; omega
            have HQ := hid (if_pos (c := true = true ∧ k + 1 = ns.length) ⟨rfl, h4⟩ : (if true = true ∧ k + 1 = ns.length then [(46 : UInt8), 32] else []) = [46, 32])
            clear h4
            go_wp2_with fail
            exact ⟨⟨HW, k + 1, by omega, by go_num, _, capp3 xs [32] [46, 32] ys, par_len (par_eq HO.out HT.out (HCD.out _ _ HP.out HQ.out) (by simp)) HLE.out, par_eq HO.out HT.out (HCD.out _ _ HP.out HQ.out) (by simp)⟩, by simp [intOf]; omega⟩
          · have b5 : ((k : Int) + 1 == (ns.length : Int)) = false := by simp; omega
            have HQ := hid (if_neg (c := true = true ∧ k + 1 = ns.length) (fun h => h4 h.2) : (if true = true ∧ k + 1 = ns.length then [(46 : UInt8), 32] else []) = [])
            clear h4
            go_wp2_with fail
            exact ⟨⟨HW, k + 1, by omega, by go_num, _, capp2 xs [32] ys, par_len (par_eq HO.out HT.out (HCD.out _ _ HP.out HQ.out) (by simp)) HLE.out, par_eq HO.out HT.out (HCD.out _ _ HP.out HQ.out) (by simp)⟩, by simp [intOf]; omega⟩
        | false =>
          have HQ := hid (if_neg (c := false = true ∧ k + 1 = ns.length) (fun h => by cases h.1) : (if false = true ∧ k + 1 = ns.length then [(46 : UInt8), 32] else []) = [])
          go_wp2_with fail
          exact ⟨⟨HW, k + 1, by omega, by go_num, _, capp2 xs [32] ys, par_len (par_eq HO.out HT.out (HCD.out _ _ HP.out HQ.out) (by simp)) HLE.out, par_eq HO.out HT.out (HCD.out _ _ HP.out HQ.out) (by simp)⟩, by simp [intOf]; omega⟩
      · have hk0' : ¬ (0 : Int) < (k : Int) := by omega
        have HP := hid (if_neg (c := 0 < k) hk0 : (if 0 < k then [(32 : UInt8)] else []) = [])
        cases r with
        | true =>
          by_cases h4 : k + 1 = ns.length
          · have b5 : ((k : Int) + 1 == (ns.length : Int)) = true := by simp; omega
            have HQ := hid (if_pos (c := true = true ∧ k + 1 = ns.length) ⟨rfl, h4⟩ : (if true = true ∧ k + 1 = ns.length then [(46 : UInt8), 32] else []) = [46, 32])
            clear h4
            go_wp2_with fail
            exact ⟨⟨HW, k + 1, by omega, by go_num, _, capp2 xs [46, 32] ys, par_len (par_eq HO.out HT.out (HCD.out _ _ HP.out HQ.out) (by simp)) HLE.out, par_eq HO.out HT.out (HCD.out _ _ HP.out HQ.out) (by simp)⟩, by simp [intOf]; omega⟩
          · have b5 : ((k : Int) + 1 == (ns.length : Int)) = false := by simp; omega
            have HQ := hid (if_neg (c := true = true ∧ k + 1 = ns.length) (fun h => h4 h.2) : (if true = true ∧ k + 1 = ns.length then [(46 : UInt8), 32] else []) = [])
            clear h4
            go_wp2_with fail
            exact ⟨⟨HW, k + 1, by omega, by go_num, _, capp1 xs ys, par_len (par_eq HO.out HT.out (HCD.out _ _ HP.out HQ.out) (by simp)) HLE.out, par_eq HO.out HT.out (HCD.out _ _ HP.out HQ.out) (by simp)⟩, by simp [intOf]; omega⟩
        | false =>
          have HQ := hid (if_neg (c := false = true ∧ k + 1 = ns.length) (fun h => by cases h.1) : (if false = true ∧ k + 1 = ns.length then [(46 : UInt8), 32] else []) = [])
          go_wp2_with fail
          exact ⟨⟨HW, k + 1, by omega, by go_num, _, capp1 xs ys, par_len (par_eq HO.out HT.out (HCD.out _ _ HP.out HQ.out) (by simp)) HLE.out, par_eq HO.out HT.out (HCD.out _ _ HP.out HQ.out) (by simp)⟩, by simp [intOf]; omega⟩
    · have h := HO.out
      rw [List.take_of_length_le (by simp; omega)] at h
      have HO' := hid h
      clear h
      go_wp2_with fail
      go_ret
      refine ⟨?_, HW.out⟩
      rw [HX.out, ← HO'.out]
      exact congrArg Ending.returned (capp1 xs [41])

end Go.Proofs.Ytkpamgabhlplfaa
