/-
  The law's toExpForm and toExpFormS copy forms into new memory. Condition: the forms lie in memory, and cost at most 1048576.
  The law's toIntS, toExpForm and toExpFormS copy into memory of their own: every list in a block of its own. Condition: the form lies in memory, and costs at most 1048576.
  The law's markText, markIntS, heldIntS: what they write and say. Condition: the numbers lie in a row of their own.
-/
import Derived.Test.YtghgilkdmdppcaaGreatPart13
import Derived.Test.YtghgilkdmdppcaaGreatPart11
import Derived.Test.YtghgilkdmdppcaaGreatPart3
namespace Go.Proofs.YtghgilkdmdppcaaGreat
open Go.RowKit Go.Siskin

/-- The first k forms stand in a block of the call's own; what they lead to lies behind it. -/
def Got (g : Nat) (wr : World) (cs : Array Value) (ks : List Fm) (k : Nat) : Prop :=
  ∀ j (hj : j < ks.length), j < k → ∃ d0 d1 d2 d3 d4, cs[j * 5]? = some d0 ∧ cs[j * 5 + 1]? = some d1 ∧ cs[j * 5 + 2]? = some d2 ∧ cs[j * 5 + 3]? = some d3 ∧ cs[j * 5 + 4]? = some d4 ∧ FormAt (fun b => g < b ∧ b < wr.heap.size) wr ks[j] d0 d1 d2 d3 d4

/-- Five cells in a row. -/
def put5 (w : World) (g o : Nat) (d0 d1 d2 d3 d4 : Value) : World :=
  ((((w.setCell ⟨g, o, none⟩ d0).setCell ⟨g, o + 1, none⟩ d1).setCell ⟨g, o + 2, none⟩ d2).setCell ⟨g, o + 3, none⟩ d3).setCell ⟨g, o + 4, none⟩ d4
def arr5 (cs : Array Value) (o : Nat) (d0 d1 d2 d3 d4 : Value) : Array Value :=
  ((((cs.setIfInBounds o d0).setIfInBounds (o + 1) d1).setIfInBounds (o + 2) d2).setIfInBounds (o + 3) d3).setIfInBounds (o + 4) d4

theorem put5_own {w : World} {g : Nat} {e : TypeId} {cs : Array Value} (h : Own w g e cs) (o : Nat) (d0 d1 d2 d3 d4 : Value) : Own (put5 w g o d0 d1 d2 d3 d4) g e (arr5 cs o d0 d1 d2 d3 d4) :=
  ((((h.set o d0).set (o + 1) d1).set (o + 2) d2).set (o + 3) d3).set (o + 4) d4
theorem put5_size (w : World) (g o : Nat) (d0 d1 d2 d3 d4 : Value) : (put5 w g o d0 d1 d2 d3 d4).heap.size = w.heap.size := by simp [put5]
theorem put5_same {R : Nat → Prop} {a w : World} (h : SameOn R a w) {g : Nat} (hg : ¬ R g) (o : Nat) (d0 d1 d2 d3 d4 : Value) : SameOn R a (put5 w g o d0 d1 d2 d3 d4) :=
  ((((h.setCell hg _).setCell hg _).setCell hg _).setCell hg _).setCell hg _
theorem put5_below {B : Nat} {a w : World} (h : Below B a w) {g : Nat} (hg : B ≤ g) (o : Nat) (d0 d1 d2 d3 d4 : Value) : Below B a (put5 w g o d0 d1 d2 d3 d4) :=
  ((((h.setCell hg _).setCell hg _).setCell hg _).setCell hg _).setCell hg _
theorem arr5_size (cs : Array Value) (o : Nat) (d0 d1 d2 d3 d4 : Value) : (arr5 cs o d0 d1 d2 d3 d4).size = cs.size := by simp [arr5]
theorem arr5_out {cs : Array Value} {o : Nat} (d0 d1 d2 d3 d4 : Value) {i : Nat} (h : i < o ∨ o + 5 ≤ i) : (arr5 cs o d0 d1 d2 d3 d4)[i]? = cs[i]? := by
  unfold arr5
  rw [Array.getElem?_setIfInBounds, if_neg (by omega), Array.getElem?_setIfInBounds, if_neg (by omega), Array.getElem?_setIfInBounds, if_neg (by omega), Array.getElem?_setIfInBounds, if_neg (by omega), Array.getElem?_setIfInBounds, if_neg (by omega)]
theorem arr5_in {cs : Array Value} {o : Nat} (d0 d1 d2 d3 d4 : Value) (h : o + 5 ≤ cs.size) :
    (arr5 cs o d0 d1 d2 d3 d4)[o]? = some d0 ∧ (arr5 cs o d0 d1 d2 d3 d4)[o + 1]? = some d1 ∧ (arr5 cs o d0 d1 d2 d3 d4)[o + 2]? = some d2 ∧ (arr5 cs o d0 d1 d2 d3 d4)[o + 3]? = some d3 ∧ (arr5 cs o d0 d1 d2 d3 d4)[o + 4]? = some d4 := by
  unfold arr5
  refine ⟨?_, ?_, ?_, ?_, ?_⟩ <;> simp [Array.getElem?_setIfInBounds] <;> omega

theorem got_step {g k : Nat} {wr w1 : World} {cs : Array Value} {ks : List Fm} {d0 d1 d2 d3 d4 : Value} (hcs : cs.size = ks.length * 5) (hlt : k < ks.length) (hg : g < wr.heap.size) (hb : Below wr.heap.size wr w1)
    (hf : FormAt (Fresh wr w1) w1 ks[k] d0 d1 d2 d3 d4) (got : Got g wr cs ks k) : Got g (put5 w1 g (k * 5) d0 d1 d2 d3 d4) (arr5 cs (k * 5) d0 d1 d2 d3 d4) ks (k + 1) := by
  intro j hj hjk
  have hs := hb.size
  by_cases e : j = k
  · subst e
    obtain ⟨e0, e1, e2, e3, e4⟩ := arr5_in (cs := cs) (o := j * 5) d0 d1 d2 d3 d4 (by omega)
    refine ⟨d0, d1, d2, d3, d4, e0, e1, e2, e3, e4, FormAt.mono ?_ _ (FormAt.keep (put5_same (SameOn.refl _ _) ?_ _ _ _ _ _ _) _ hf)⟩
    · intro b h; have h1 := h.1; have h2 := h.2; rw [put5_size]; exact ⟨by omega, h2⟩
    · intro h; have h1 := h.1; omega
  · obtain ⟨x0, x1, x2, x3, x4, e0, e1, e2, e3, e4, hx⟩ := got j hj (by omega)
    refine ⟨x0, x1, x2, x3, x4, ?_, ?_, ?_, ?_, ?_, FormAt.mono ?_ _ (FormAt.keep (put5_same ((SameOn.refl _ _).below hb ?_) ?_ _ _ _ _ _ _) _ hx)⟩
    · rw [arr5_out _ _ _ _ _ (by omega)]; exact e0
    · rw [arr5_out _ _ _ _ _ (by omega)]; exact e1
    · rw [arr5_out _ _ _ _ _ (by omega)]; exact e2
    · rw [arr5_out _ _ _ _ _ (by omega)]; exact e3
    · rw [arr5_out _ _ _ _ _ (by omega)]; exact e4
    · intro b h; rw [put5_size]; exact ⟨h.1, by omega⟩
    · intro b h; exact h.2
    · intro h; omega

set_option maxHeartbeats 1000000 in
theorem toForms_of (n : Nat) (ih : ToForm n) : ToForms n := by
  intro ks hks B w v hv hB hn
  obtain ⟨a, ca, rfl, hla, ha⟩ := hv
  unfold maxLen at hla
  obtain ⟨i, hi, hz0, hz1, hz2⟩ := info_parts Tryz.infoForm
  have Hi := hid hi
  have Hz0 := hid hz0
  have Hz1 := hid hz1
  have Hz2 := hid hz2
  have HI := hid ih
  have HR := hid hB
  clear hi hz0 hz1 hz2 ih hB
  have hn1 : ks.length ≤ 1048576 := by omega
  go_enter Tryz.func19, Tryz.ntmps19
  go_wp2_with (at_make; refine wpList_make_new _ rfl _ _ 27 rfl 29 i (.agg #[.int .i64 0, .string ⟨#[]⟩, .slice none 0 0, .int .i64 0, .slice none 0 0]) 5 Tryz.underlying27 Hi.out Hz0.out Hz1.out .i64 .i64 ks.length rfl rfl (by rw [Hz2.out]; omega) (by unfold maxLen; omega) ?_)
  go_loopw [4] (fun i wr => ∃ k : Nat, k ≤ ks.length ∧ i = .int .i64 k ∧ Hid (∃ cs : Array Value, Own wr w.heap.size 29 cs ∧ cs.size = ks.length * 5 ∧ Got w.heap.size wr cs ks k ∧ Below w.heap.size w wr)) (fun i _ => ks.length - (intOf i).toNat)
  case atStart => exact ⟨0, Nat.zero_le _, rfl, _, own_new _ _ _, size_madeCells _ _, fun j _ hj => absurd hj (by omega), (Below.refl _ _).alloc (Nat.le_refl _) _⟩
  case round =>
    obtain ⟨k, hk, rfl, HA⟩ := hrel
    obtain ⟨cs, ho, hcs, hgot, hbel⟩ := HA.out
    have HO := hid ho
    have HG := hid hgot
    have HB := hid hbel
    clear ho hgot hbel HA
    by_cases hlt : k < ks.length
    · rcases ha with ha | ⟨ba, oa, rfl, hb, ha⟩
      · subst ha; simp at hlt
      have hrow := RowAt.keep (HB.out.on HR.out) hb ks ha
      obtain ⟨c0, c1, c2, c3, c4, g0, g1, g2, g3, g4, hf⟩ := RowAt.get ks hrow k hlt
      have HC := hid (HI.out ks[k] (Nat.le_trans (Fm.szs_get ks k hlt) hks) B wr c0 c1 c2 c3 c4 hf (fun b hb => by have := HR.out b hb; have := HB.out.size; omega) (by have := Fm.costs_get ks k hlt; omega))
      clear ha hf hrow HI
      go_wp2_with fail
      refine HC.out.mono ?_
      rintro e w1 ⟨d0, d1, d2, d3, d4, rfl, hf, hw⟩
      have HF := hid hf
      obtain ⟨rfl, rfl, -, h2, rfl, h4⟩ := (formAt_iff _ _ _ _ _ _ _ _).1 hf
      obtain ⟨a2, k2, rfl, -⟩ := h2
      obtain ⟨a4, k4, rfl, -⟩ := h4
      have ho1 := HO.out.keep hw HO.out.lt
      have q0 := ho1.cell (k * 5)
      have q1 := ho1.cell (k * 5 + 1)
      have q2 := ho1.cell (k * 5 + 2)
      have q3 := ho1.cell (k * 5 + 3)
      have q4 := ho1.cell (k * 5 + 4)
      rw [Array.getElem?_eq_getElem (by omega)] at q0 q1 q2 q3 q4
      have f0 := ho1.frozen (k * 5)
      have f1 := ho1.frozen (k * 5 + 1)
      have f2 := ho1.frozen (k * 5 + 2)
      have f3 := ho1.frozen (k * 5 + 3)
      have f4 := ho1.frozen (k * 5 + 4)
      have HW := hid hw
      have HO1 := hid ho1
      clear ho1 hf hw
      go_wp2_with fail
      have hsz := HB.out.size
      exact ⟨⟨k + 1, by omega, by go_num, _, put5_own HO1.out (k * 5) _ _ _ _ _, by rw [arr5_size, hcs], got_step hcs hlt HO.out.lt HW.out HF.out HG.out, put5_below (HB.out.trans (HW.out.mono hsz)) (Nat.le_refl _) _ _ _ _ _ _⟩, by simp [intOf]; omega⟩
    · go_wp2_with fail
      go_ret
      refine ⟨_, rfl, ?_, HB.out⟩
      refine ⟨_, _, rfl, by unfold maxLen; omega, Or.inr ⟨w.heap.size, 0, rfl, ⟨Nat.le_refl _, HO.out.lt⟩, RowAt.mk ks fun j hj => ?_⟩⟩
      obtain ⟨x0, x1, x2, x3, x4, e0, e1, e2, e3, e4, hx⟩ := HG.out j hj (by omega)
      rw [Nat.zero_add]
      refine ⟨x0, x1, x2, x3, x4, (HO.out.cell _).trans e0, (HO.out.cell _).trans e1, (HO.out.cell _).trans e2, (HO.out.cell _).trans e3, (HO.out.cell _).trans e4, FormAt.mono ?_ _ hx⟩
      intro b h; exact ⟨by have := h.1; omega, h.2⟩

theorem toForm_all : ∀ n, ToForm n ∧ ToForms n
  | 0 => by
    have h : ToForm 0 := fun f hf => by have := Fm.sz_kids f; omega
    exact ⟨h, toForms_of 0 h⟩
  | n + 1 => by
    have h := toForm_of n (toForm_all n).2
    exact ⟨h, toForms_of (n + 1) h⟩

/-- The law's copy of a form: the same form, in new memory. -/
theorem toExpForm_any (f : Fm) (B : Nat → Prop) (w : World) (c0 c1 c2 c3 c4 : Value) (h : FormAt B w f c0 c1 c2 c3 c4) (hB : ∀ b, B b → b < w.heap.size) (h0 : f.cost ≤ 1048576) :
    Calls Tryz.prog 7 #[.agg #[c0, c1, c2, c3, c4]] w fun e w' => ∃ d0 d1 d2 d3 d4, e = .returned (.agg #[d0, d1, d2, d3, d4]) ∧ FormAt (Fresh w w') w' f d0 d1 d2 d3 d4 ∧ Below w.heap.size w w' :=
  (toForm_all f.sz).1 f (Nat.le_refl _) B w c0 c1 c2 c3 c4 h hB h0

end Go.Proofs.YtghgilkdmdppcaaGreat

namespace Go.Proofs.YtghgilkdmdppcaaGreat
open Go.RowKit Go.Siskin

theorem own_row {w : World} {g n size : Nat} {e : TypeId} {cs : Array Value} (h : Own w g e cs) (hs : cs.size = n * size) (hm : n ≤ maxLen) : w.ownsRow 0 e size (.slice (some ⟨g, 0, none⟩) n n) n cs.toList :=
  ⟨by simp [hs], Or.inr ⟨g, n, cs, rfl, Nat.zero_le _, h, Nat.le_refl _, hm, hs, by rw [List.take_of_length_le (by simp [hs])]⟩⟩

set_option maxHeartbeats 1000000 in
theorem toIntS_own (B : Nat → Prop) (va : Value) (xs : List Int) (w : World) (ha : IntsAt B w va xs) (hB : ∀ b, B b → b < w.heap.size) (hn : xs.length ≤ 1048576) :
    Calls Tryz.prog 18 #[va] w fun e w' => e = .returned (.slice (some ⟨w.heap.size, 0, none⟩) xs.length xs.length) ∧ w'.ownsRow 0 3 1 (.slice (some ⟨w.heap.size, 0, none⟩) xs.length xs.length) xs.length (xs.map (Value.int .i64)) ∧ Below w.heap.size w w' := by
  obtain ⟨a, ca, rfl, hla, ha⟩ := ha
  unfold maxLen at hla
  obtain ⟨i, hi, hz0, hz1, hz2⟩ := info_parts Tryz.infoInt
  have Hi := hid hi
  have Hz0 := hid hz0
  have Hz1 := hid hz1
  have Hz2 := hid hz2
  clear hi hz0 hz1 hz2
  go_enter Tryz.func18, Tryz.ntmps18
  go_wp2_with (at_make; refine wpList_make_new _ rfl _ _ 22 rfl 3 i (.int .i64 0) 1 Tryz.underlying22 Hi.out Hz0.out Hz1.out .i64 .i64 xs.length rfl rfl (by rw [Hz2.out]; omega) (by unfold maxLen; omega) ?_)
  go_loopw [4] (fun i wr => ∃ k : Nat, k ≤ xs.length ∧ i = .int .i64 k ∧ Hid (∃ cs : Array Value, Own wr w.heap.size 3 cs ∧ cs.size = xs.length ∧ (∀ j, j < k → cs[j]? = some (.int .i64 (xs.getD j 0))) ∧ Below w.heap.size w wr)) (fun i _ => xs.length - (intOf i).toNat)
  case atStart => exact ⟨0, Nat.zero_le _, rfl, _, own_new _ _ _, size_madeCells _ _, fun j hj => absurd hj (by omega), (Below.refl _ _).alloc (Nat.le_refl _) _⟩
  case round =>
    obtain ⟨k, hk, rfl, HA⟩ := hrel
    obtain ⟨cs, ho, hcs, hgot, hbel⟩ := HA.out
    have HO := hid ho
    have HG := hid hgot
    have HB := hid hbel
    by_cases hlt : k < xs.length
    · rcases ha with ha | ⟨ba, oa, rfl, hb, ha⟩
      · subst ha; simp at hlt
      have ga := (hbel.cell (p := ⟨ba, oa + k, none⟩) (hB ba hb)).trans (ha k hlt)
      rw [getD_get hlt] at ga
      have gc := ho.cell k
      rw [Array.getElem?_eq_getElem (by omega)] at gc
      have gf := ho.frozen k
      have HX : Hid (xs.getD k 0 = xs[k]) := getD_get hlt
      clear ha HA ho hgot hbel
      go_wp2_with fail
      exact ⟨⟨k + 1, by omega, by go_num, _, HO.out.set k _, by simp [hcs], set_step hcs hlt HX.out HG.out, HB.out.setCell (Nat.le_refl _) _⟩, by simp [intOf]; omega⟩
    · clear HA ho hgot hbel
      go_wp2_with fail
      go_ret
      refine ⟨rfl, ?_, HB.out⟩
      have hl : cs.toList = xs.map (Value.int .i64) := by
        apply List.ext_getElem?
        intro j
        by_cases hj : j < xs.length
        · rw [Array.getElem?_toList, HG.out j (by omega), List.getElem?_map, List.getElem?_eq_getElem hj, getD_get hj]; rfl
        · rw [List.getElem?_eq_none (by simp; omega), List.getElem?_eq_none (by simp; omega)]
      have h := own_row (n := xs.length) (size := 1) HO.out (by omega) (by unfold maxLen; omega)
      rw [hl] at h
      exact h

def TToForm (n : Nat) : Prop := ∀ f : Fm, f.sz ≤ n → ∀ (B : Nat → Prop) (w : World) (c0 c1 c2 c3 c4 : Value), FormAt B w f c0 c1 c2 c3 c4 → (∀ b, B b → b < w.heap.size) → f.cost ≤ 1048576 →
    Calls Tryz.prog 7 #[.agg #[c0, c1, c2, c3, c4]] w fun e w' => ∃ d2 d4, e = .returned (.agg #[.int .i64 f.sort, .string f.text, d2, .int .i64 f.frm, d4]) ∧ Tree w' f (Fresh w w') d2 d4 ∧ Below w.heap.size w w'
def TToForms (n : Nat) : Prop := ∀ ks : List Fm, Fm.szs ks ≤ n → ∀ (B : Nat → Prop) (w : World) (v : Value), FormsAt B w v ks → (∀ b, B b → b < w.heap.size) → ks.length + Fm.costs ks ≤ 1048576 →
    Calls Tryz.prog 19 #[v] w fun e w' => ∃ u, e = .returned u ∧ TRow w' (Fresh w w') u ks ∧ Below w.heap.size w w'

set_option maxHeartbeats 1000000 in
theorem ttoForm_of (n : Nat) (ih : TToForms n) : TToForm (n + 1) := by
  intro f hf B w c0 c1 c2 c3 c4 hA hB h0
  obtain ⟨rfl, rfl, ht, h2, rfl, h4⟩ := (formAt_iff _ _ _ _ _ _ _ _).1 hA
  have HC := hid (Fm.cost_eq f)
  have HS := hid (Fm.sz_kids f)
  have hl : f.scopes.length ≤ 1048576 := by have := HC.out; omega
  have H2 := hid h2
  have H4 := hid h4
  have HI := hid ih
  have HR := hid hB
  clear h2 h4 hA ih hB
  go_enter Tryz.func7, Tryz.ntmps7
  go_wp2_with fail
  refine (toIntS_own B _ f.scopes _ (H2.out.keep (((((SameOn.refl _ _).alloc HR.out _).alloc (fun b hb => by have := HR.out b hb; simp; omega) _).alloc (fun b hb => by have := HR.out b hb; simp; omega) _))) (fun b hb => by have := HR.out b hb; simp; omega) hl).mono ?_
  rintro e w1 ⟨rfl, hi1, hb1⟩
  simp only [World.size_alloc] at hi1
  simp only [World.size_alloc]
  obtain ⟨hc1, hf1⟩ := bcell hb1
  have hz0 : w.heap.size + 3 < w1.heap.size := (hi1.lt (w.heap.size + 1 + 1 + 1) rfl).2
  have hz1 : w.heap.size + 2 < w1.heap.size := by omega
  have hz1a : w.heap.size + 1 < w1.heap.size := by omega
  have hz1b : w.heap.size < w1.heap.size := by omega
  have HI1 := hid hi1
  have HB1 := hid hb1
  clear hi1 hb1
  go_wp2_with fail
  refine (HI.out f.kids (by have := HS.out; omega) B _ c4 (H4.out.keep ?_) ?_ (by have := HC.out; omega)).mono ?_
  · exact (((((((SameOn.refl _ _).alloc HR.out _).alloc (fun b hb => by have := HR.out b hb; simp; omega) _).alloc (fun b hb => by have := HR.out b hb; simp; omega) _).below HB1.out (fun b hb => by have := HR.out b hb; simp; omega)).setCell (fun hb => by have := HR.out _ hb; simp at this; omega) _).setCell (fun hb => by have := HR.out _ hb; simp at this; omega) _)
  · exact fun b hb => by have := HR.out b hb; simp; omega
  rintro e w2 ⟨u, rfl, hi2, hb2⟩
  obtain ⟨a4, k4, rfl⟩ : ∃ a c, u = .slice a f.kids.length c := by
    obtain ⟨cs', F', h⟩ := hi2
    exact row_shape h.row
  obtain ⟨hc2, hf2⟩ := bcell hb2
  have hz2 : w1.heap.size ≤ w2.heap.size := by have := hb2.size; simp at this; omega
  have HI2 := hid hi2
  have HB2 := hid hb2
  clear hi2 hb2
  go_wp2_with fail
  refine bodyPost_ret (v := .agg #[.int .i64 f.sort, .string f.text, .slice (some ⟨w.heap.size + 1 + 1 + 1, 0, none⟩) f.scopes.length f.scopes.length, .int .i64 f.frm, .slice a4 f.kids.length k4]) (by simp [results, Tryz.results7, go_sem, hc1, hc2, hz1a]) rfl ⟨_, _, rfl, ?_, ?_⟩
  · rw [tree_iff]
    refine ⟨row_same HI1.out ?_, ?_, ((HI2.out.keep ?_).mono ?_)⟩
    · intro g hg
      have hg' : g = w.heap.size + 1 + 1 + 1 := by simpa [Value.ownBlock] using hg.symm
      subst hg'
      refine (((((((((SameOn.refl (fun b => b = w.heap.size + 1 + 1 + 1) w1).setCell ?_ _).setCell ?_ _).below HB2.out ?_).setCell ?_ _).setCell ?_ _).setCell ?_ _).setCell ?_ _).setCell ?_ _ |>.setCell ?_ _) _ rfl
      all_goals first
        | (intro h; simp at h <;> omega)
        | (intro b h; have h' : b = w.heap.size + 1 + 1 + 1 := h; simp; omega)
    · intro g hg
      have hg' : g = w.heap.size + 1 + 1 + 1 := by simpa [Value.ownBlock] using hg.symm
      subst hg'
      exact ⟨by omega, by simp; omega⟩
    · refine ((((((SameOn.refl _ _).setCell ?_ _).setCell ?_ _).setCell ?_ _).setCell ?_ _).setCell ?_ _).setCell ?_ _
      all_goals (intro h; have := h.1; simp at this; omega)
    · intro b h; have h1 := h.1; have h2 := h.2; simp at h1; exact ⟨⟨by omega, by simp; omega⟩, by simp [Value.ownBlock]; omega⟩
  · refine (((((((((((((Below.refl _ _).alloc (Nat.le_refl _) _).alloc (by simp) _).alloc (by simp; omega) _).trans (HB1.out.mono (by simp; omega))).setCell ?_ _).setCell ?_ _).trans (HB2.out.mono (by simp; omega))).setCell ?_ _).setCell ?_ _).setCell ?_ _).setCell ?_ _).setCell ?_ _).setCell ?_ _
    all_goals (simp; try omega)

/-- The first k forms stand in a block of the call's own; what they lead to lies behind it, each in blocks of its own. -/
def TGot (g : Nat) (wr : World) (cs : Array Value) (ks : List Fm) (k : Nat) : Prop :=
  ∃ F : Nat → Nat → Prop, (∀ i b, F i b → i < k ∧ g < b ∧ b < wr.heap.size) ∧ (∀ i j b, i ≠ j → F i b → ¬ F j b) ∧
    ∀ j (hj : j < ks.length), j < k → ∃ d2 d4, cs[j * 5]? = some (.int .i64 ks[j].sort) ∧ cs[j * 5 + 1]? = some (.string ks[j].text) ∧ cs[j * 5 + 2]? = some d2 ∧ cs[j * 5 + 3]? = some (.int .i64 ks[j].frm) ∧ cs[j * 5 + 4]? = some d4 ∧ Tree wr ks[j] (F j) d2 d4

theorem tgot_step {g k : Nat} {wr w1 : World} {cs : Array Value} {ks : List Fm} {d2 d4 : Value} (hcs : cs.size = ks.length * 5) (hlt : k < ks.length) (hg : g < wr.heap.size) (hb : Below wr.heap.size wr w1)
    (hf : Tree w1 ks[k] (Fresh wr w1) d2 d4) (got : TGot g wr cs ks k) : TGot g (put5 w1 g (k * 5) (.int .i64 ks[k].sort) (.string ks[k].text) d2 (.int .i64 ks[k].frm) d4) (arr5 cs (k * 5) (.int .i64 ks[k].sort) (.string ks[k].text) d2 (.int .i64 ks[k].frm) d4) ks (k + 1) := by
  obtain ⟨F, hF, hap, hk⟩ := got
  have hs := hb.size
  refine ⟨fun i b => F i b ∨ (i = k ∧ Fresh wr w1 b), ?_, ?_, ?_⟩
  · intro i b h
    rw [put5_size]
    rcases h with h | ⟨rfl, h⟩
    · have := hF i b h; omega
    · have := h.1; have := h.2; omega
  · intro i j b hij h1 h2
    rcases h1 with h1 | ⟨rfl, h1⟩
    · rcases h2 with h2 | ⟨rfl, h2⟩
      · exact hap i j b hij h1 h2
      · have := hF i b h1; have := h2.1; omega
    · rcases h2 with h2 | ⟨rfl, h2⟩
      · have := hF j b h2; have := h1.1; omega
      · exact hij rfl
  · intro j hj hjk
    by_cases e : j = k
    · subst e
      obtain ⟨e0, e1, e2, e3, e4⟩ := arr5_in (cs := cs) (o := j * 5) (.int .i64 ks[j].sort) (.string ks[j].text) d2 (.int .i64 ks[j].frm) d4 (by omega)
      refine ⟨d2, d4, e0, e1, e2, e3, e4, (hf.keep (put5_same (SameOn.refl _ _) ?_ _ _ _ _ _ _)).mono ?_⟩
      · intro h; have h1 := h.1; omega
      · intro b h; exact Or.inr ⟨rfl, h⟩
    · obtain ⟨x2, x4, e0, e1, e2, e3, e4, hx⟩ := hk j hj (by omega)
      refine ⟨x2, x4, ?_, ?_, ?_, ?_, ?_, (hx.keep (put5_same ((SameOn.refl _ _).below hb ?_) ?_ _ _ _ _ _ _)).mono ?_⟩
      · rw [arr5_out _ _ _ _ _ (by omega)]; exact e0
      · rw [arr5_out _ _ _ _ _ (by omega)]; exact e1
      · rw [arr5_out _ _ _ _ _ (by omega)]; exact e2
      · rw [arr5_out _ _ _ _ _ (by omega)]; exact e3
      · rw [arr5_out _ _ _ _ _ (by omega)]; exact e4
      · intro b h; exact (hF j b h).2.2
      · intro h; have := hF j g h; omega
      · intro b h; exact Or.inl h

set_option maxHeartbeats 1000000 in
theorem ttoForms_of (n : Nat) (ih : TToForm n) : TToForms n := by
  intro ks hks B w v hv hB hn
  obtain ⟨a, ca, rfl, hla, ha⟩ := hv
  unfold maxLen at hla
  obtain ⟨i, hi, hz0, hz1, hz2⟩ := info_parts Tryz.infoForm
  have Hi := hid hi
  have Hz0 := hid hz0
  have Hz1 := hid hz1
  have Hz2 := hid hz2
  have HI := hid ih
  have HR := hid hB
  clear hi hz0 hz1 hz2 ih hB
  have hn1 : ks.length ≤ 1048576 := by omega
  go_enter Tryz.func19, Tryz.ntmps19
  go_wp2_with (at_make; refine wpList_make_new _ rfl _ _ 27 rfl 29 i (.agg #[.int .i64 0, .string ⟨#[]⟩, .slice none 0 0, .int .i64 0, .slice none 0 0]) 5 Tryz.underlying27 Hi.out Hz0.out Hz1.out .i64 .i64 ks.length rfl rfl (by rw [Hz2.out]; omega) (by unfold maxLen; omega) ?_)
  go_loopw [4] (fun i wr => ∃ k : Nat, k ≤ ks.length ∧ i = .int .i64 k ∧ Hid (∃ cs : Array Value, Own wr w.heap.size 29 cs ∧ cs.size = ks.length * 5 ∧ TGot w.heap.size wr cs ks k ∧ Below w.heap.size w wr)) (fun i _ => ks.length - (intOf i).toNat)
  case atStart => exact ⟨0, Nat.zero_le _, rfl, _, own_new _ _ _, size_madeCells _ _, ⟨fun _ _ => False, fun _ _ h => h.elim, fun _ _ _ _ h => h.elim, fun j _ hj => absurd hj (by omega)⟩, (Below.refl _ _).alloc (Nat.le_refl _) _⟩
  case round =>
    obtain ⟨k, hk, rfl, HA⟩ := hrel
    obtain ⟨cs, ho, hcs, hgot, hbel⟩ := HA.out
    have HO := hid ho
    have HG := hid hgot
    have HB := hid hbel
    clear ho hgot hbel HA
    by_cases hlt : k < ks.length
    · rcases ha with ha | ⟨ba, oa, rfl, hb, ha⟩
      · subst ha; simp at hlt
      have hrow := RowAt.keep (HB.out.on HR.out) hb ks ha
      obtain ⟨c0, c1, c2, c3, c4, g0, g1, g2, g3, g4, hf⟩ := RowAt.get ks hrow k hlt
      have HC := hid (HI.out ks[k] (Nat.le_trans (Fm.szs_get ks k hlt) hks) B wr c0 c1 c2 c3 c4 hf (fun b hb => by have := HR.out b hb; have := HB.out.size; omega) (by have := Fm.costs_get ks k hlt; omega))
      clear ha hf hrow HI
      go_wp2_with fail
      refine HC.out.mono ?_
      rintro e w1 ⟨d2, d4, rfl, hf, hw⟩
      have HF := hid hf
      obtain ⟨⟨a2, k2, rfl⟩, a4, k4, rfl⟩ : (∃ a c, d2 = .slice a ks[k].scopes.length c) ∧ ∃ a c, d4 = .slice a ks[k].kids.length c := by
        rw [tree_iff] at hf
        obtain ⟨h1, -, cs', F', h2⟩ := hf
        exact ⟨row_shape h1, row_shape h2.row⟩
      have ho1 := HO.out.keep hw HO.out.lt
      have q0 := ho1.cell (k * 5)
      have q1 := ho1.cell (k * 5 + 1)
      have q2 := ho1.cell (k * 5 + 2)
      have q3 := ho1.cell (k * 5 + 3)
      have q4 := ho1.cell (k * 5 + 4)
      rw [Array.getElem?_eq_getElem (by omega)] at q0 q1 q2 q3 q4
      have f0 := ho1.frozen (k * 5)
      have f1 := ho1.frozen (k * 5 + 1)
      have f2 := ho1.frozen (k * 5 + 2)
      have f3 := ho1.frozen (k * 5 + 3)
      have f4 := ho1.frozen (k * 5 + 4)
      have HW := hid hw
      have HO1 := hid ho1
      clear ho1 hf hw
      go_wp2_with fail
      have hsz := HB.out.size
      exact ⟨⟨k + 1, by omega, by go_num, _, put5_own HO1.out (k * 5) _ _ _ _ _, by rw [arr5_size, hcs], tgot_step hcs hlt HO.out.lt HW.out HF.out HG.out, put5_below (HB.out.trans (HW.out.mono hsz)) (Nat.le_refl _) _ _ _ _ _ _⟩, by simp [intOf]; omega⟩
    · go_wp2_with fail
      go_ret
      refine ⟨_, rfl, ?_, HB.out⟩
      obtain ⟨F, hF, hap, hkk⟩ := HG.out
      have hkl : k = ks.length := by omega
      refine ⟨cs.toList, F, own_row HO.out hcs (by unfold maxLen; omega), ?_, ?_, hap, ?_⟩
      · intro g hg
        have hg' : g = w.heap.size := by simpa [Value.ownBlock] using hg.symm
        subst hg'
        exact ⟨Nat.le_refl _, HO.out.lt⟩
      · intro i b h
        have := hF i b h
        exact ⟨⟨by omega, by omega⟩, by simp [Value.ownBlock]; omega⟩
      · intro j hj
        obtain ⟨x2, x4, e0, e1, e2, e3, e4, hx⟩ := hkk j hj (by omega)
        simp only [Array.getElem?_toList]
        exact ⟨x2, x4, e0, e1, e2, e3, e4, hx⟩

theorem ttoForm_all : ∀ n, TToForm n ∧ TToForms n
  | 0 => by
    have h : TToForm 0 := fun f hf => by have := Fm.sz_kids f; omega
    exact ⟨h, ttoForms_of 0 h⟩
  | n + 1 => by
    have h := ttoForm_of n (ttoForm_all n).2
    exact ⟨h, ttoForms_of (n + 1) h⟩

/-- The law's copy of a form: the same form, in memory of its own. -/
theorem toExpForm_own (f : Fm) (B : Nat → Prop) (w : World) (c0 c1 c2 c3 c4 : Value) (h : FormAt B w f c0 c1 c2 c3 c4) (hB : ∀ b, B b → b < w.heap.size) (h0 : f.cost ≤ 1048576) :
    Calls Tryz.prog 7 #[.agg #[c0, c1, c2, c3, c4]] w fun e w' => ∃ d2 d4, e = .returned (.agg #[.int .i64 f.sort, .string f.text, d2, .int .i64 f.frm, d4]) ∧ Tree w' f (Fresh w w') d2 d4 ∧ Below w.heap.size w w' :=
  (ttoForm_all f.sz).1 f (Nat.le_refl _) B w c0 c1 c2 c3 c4 h hB h0

end Go.Proofs.YtghgilkdmdppcaaGreat

namespace Go.Proofs.YtghgilkdmdppcaaGreat
open Go.RowKit Go.Siskin

/-- A number's digits ahead of a text. -/
def digs (k : Nat) (acc : List UInt8) : List UInt8 := if h : k = 0 then acc else digs (k / 10) (UInt8.ofNat (48 + k % 10) :: acc)
theorem digs_zero (acc : List UInt8) : digs 0 acc = acc := by rw [digs]; simp
theorem digs_pos {k : Nat} (h : k ≠ 0) (acc : List UInt8) : digs k acc = digs (k / 10) (UInt8.ofNat (48 + k % 10) :: acc) := by
  rw [digs, dif_neg h]
/-- The text that marks a number. -/
def mtx (k : Nat) : ByteArray := ⟨(109 :: digs k []).toArray⟩

theorem bytes_cons (d : UInt8) (l : List UInt8) : (⟨#[d]⟩ : ByteArray) ++ ⟨l.toArray⟩ = ⟨(d :: l).toArray⟩ := by
  apply ByteArray.ext
  simp [ByteArray.data_append]

set_option maxRecDepth 20000 in
set_option maxHeartbeats 1000000 in
theorem markText_any (k : Nat) (w : World) (h0 : 0 < k) (h1 : k ≤ 1000000000) :
    Calls Tryz.prog 37 #[.int .i64 k] w fun e w' => e = .returned (.string (mtx k)) ∧ Below w.heap.size w w' := by
  have hk : ¬ ((k : Int) ≤ 0) := by omega
  go_enter Tryz.func37, Tryz.ntmps37
  go_wp2_with fail
  go_loopw [0, 3] (fun i s wr => ∃ (j : Nat) (bs : ByteArray), i = .int .i64 j ∧ s = .string bs ∧ bs.size + j ≤ 1000000000 ∧ Hid (∃ acc : List UInt8, bs = ⟨acc.toArray⟩ ∧ digs j acc = digs k []) ∧ Hid (Below w.heap.size w wr)) (fun i _ _ => (intOf i).toNat)
  case atStart => exact ⟨k, ⟨#[]⟩, rfl, rfl, by show 0 + k ≤ _; omega, ⟨[], rfl, rfl⟩, Below.refl _ _⟩
  case round =>
    obtain ⟨j, bs, rfl, rfl, hj, HD, HB⟩ := hrel
    by_cases hj0 : 0 < j
    · have hj1 : (0 : Int) < (j : Int) := by omega
      obtain ⟨D, hD⟩ : ∃ D : ByteArray, D = ⟨#[UInt8.ofNat (48 + j % 10)]⟩ := ⟨_, rfl⟩
      have hDs : D.size = 1 := by rw [hD]; rfl
      have hcv : (convert 72 9 (.slice (some ⟨wr.heap.size, 0, none⟩) 1 1)).run Tryz.prog (wr.alloc (.cells #[.int .u8 (48 + (j : Int) % 10)] 5)) = .ok (.string D) (wr.alloc (.cells #[.int .u8 (48 + (j : Int) % 10)] 5)) := by
        rw [hD]
        refine run_convert_bytes_back (P := Tryz.prog) _ 72 9 5 ⟨wr.heap.size, 0, none⟩ 1 [UInt8.ofNat (48 + j % 10)] Tryz.underlying72 Tryz.underlying5 Tryz.underlying9 fun i hi => ?_
        have hi0 : i = 0 := by simpa using hi
        subst hi0
        rw [Go.WideShapes.add_plain, Nat.add_zero, (own_new wr #[.int .u8 (48 + (j : Int) % 10)] 5).cell]
        have hm : (UInt8.ofNat (48 + j % 10)).toNat = 48 + j % 10 := by
          rw [UInt8.toNat_ofNat']
          omega
        simp only [List.getElem_cons_zero, hm]
        simp
      have hsum : D.size + bs.size ≤ 9223372036854775807 := by omega
      have HDE := hid hD
      clear hD
      go_wp2_with fail
      refine ⟨⟨j / 10, D ++ bs, ?_, rfl, ?_, ?_, HB.out.alloc HB.out.size _⟩, ?_⟩
      · congr 1
      · rw [ByteArray.size_append]
        omega
      · obtain ⟨acc, e1, e2⟩ := HD.out
        refine ⟨UInt8.ofNat (48 + j % 10) :: acc, by rw [HDE.out, e1, bytes_cons], ?_⟩
        rw [← e2, digs_pos (k := j) (by omega)]
      · simp only [intOf]
        omega
    · have hj2 : j = 0 := by omega
      subst hj2
      have hsum : (1 : Nat) + bs.size ≤ 9223372036854775807 := by omega
      go_wp2_with fail
      go_ret
      obtain ⟨acc, e1, e2⟩ := HD.out
      rw [digs_zero] at e2
      refine ⟨?_, HB.out⟩
      unfold mtx
      rw [← e2, e1]
      show Ending.returned (.string _) = _
      congr 2

/-- Numbers one after another. -/
def seqI (k n : Nat) : List Int := (List.range' k n).map Int.ofNat
theorem seqI_length (k n : Nat) : (seqI k n).length = n := by simp [seqI]
theorem seqI_get (k n i : Nat) (h : i < n) : (seqI k n)[i]'(by rw [seqI_length]; exact h) = ((k + i : Nat) : Int) := by simp [seqI]
theorem mark_step (k : Nat) (xs : List Int) (j : Nat) (h : j < xs.length) : ((seqI k j ++ xs.drop j).map (Value.int .i64)).set j (.int .i64 ((k + j : Nat) : Int)) = (seqI k (j + 1) ++ xs.drop (j + 1)).map (Value.int .i64) := by
  rw [← List.map_set, List.set_append_right _ _ (by rw [seqI_length]; exact Nat.le_refl _), seqI_length, Nat.sub_self, List.drop_eq_getElem_cons h, List.set_cons_zero]
  congr 1
  unfold seqI
  rw [List.range'_concat, List.map_append, List.append_assoc]
  simp

set_option maxRecDepth 20000 in
set_option maxHeartbeats 1000000 in
theorem markIntS_any (v : Value) (xs : List Int) (k : Nat) (w : World) (ho : w.ownsRow 0 3 1 v xs.length (xs.map (Value.int .i64))) (hn : xs.length ≤ 100000000) (hk : k ≤ 100000000) :
    Calls Tryz.prog 24 #[v, .int .i64 k] w fun e w' => e = .returned (.int .i64 ((k + xs.length : Nat) : Int)) ∧ w'.ownsRow 0 3 1 v xs.length ((seqI k xs.length).map (Value.int .i64)) ∧ w.grownBy w' v.ownBlock := by
  have HO := hid ho
  obtain ⟨a, c, rfl⟩ := row_shape ho
  clear ho
  go_enter Tryz.func24, Tryz.ntmps24
  go_wp2_with fail
  go_loopw [1, 5] (fun q i wr => ∃ j : Nat, j ≤ xs.length ∧ i = .int .i64 j ∧ q = .int .i64 ((k + j : Nat) : Int) ∧ Hid (wr.ownsRow 0 3 1 (.slice a xs.length c) xs.length ((seqI k j ++ xs.drop j).map (Value.int .i64))) ∧ Hid (w.grownBy wr (Value.slice a xs.length c).ownBlock)) (fun _ i _ => xs.length - (intOf i).toNat)
  case atStart => exact ⟨0, Nat.zero_le _, rfl, rfl, by show World.ownsRow _ _ _ _ _ _ _; simpa [seqI] using HO.out, World.grownBy.refl _ _⟩
  case round =>
    obtain ⟨j, hj, rfl, rfl, HR, HG⟩ := hrel
    by_cases hlt : j < xs.length
    · obtain ⟨g, rfl⟩ : ∃ g, a = some ⟨g, 0, none⟩ := by
        rcases HR.out.2 with ⟨e, h0⟩ | ⟨g, cap, cur, e, -⟩
        · omega
        · cases e; exact ⟨g, rfl⟩
      have hc := HR.out.cellAt j (by omega)
      have hf := HR.out.frozenAt j
      have hst := HR.out.stored j (.int .i64 ((k + j : Nat) : Int))
      rw [List.getElem?_map, List.getElem?_append_right (by rw [seqI_length]; exact Nat.le_refl _), List.getElem?_drop] at hc
      simp only [seqI_length, Nat.sub_self, Nat.add_zero, List.getElem?_eq_getElem hlt, Option.map_some] at hc
      rw [mark_step k xs j hlt] at hst
      have HS := hid hst
      have HST := hid (mark_step k xs j hlt)
      clear hst
      go_wp2_with fail
      refine ⟨⟨j + 1, by omega, by go_num, by go_num, ?_, ?_⟩, by simp [intOf]; omega⟩
      · have h := HS.out.1
        rw [Int.natCast_add] at h
        exact h
      · have h := HS.out.2
        rw [Int.natCast_add] at h
        exact HG.out.trans h
    · have hjl : j = xs.length := by omega
      rw [hjl, List.drop_length, List.append_nil] at HR
      rw [hjl]
      go_wp2_with fail
      go_ret
      exact ⟨rfl, HR.out, HG.out⟩

/-- What is held against: numbers one after another. -/
def heldB (xs : List Int) (k : Nat) : Prop := ∀ i (hi : i < xs.length), xs[i] = ((k + i : Nat) : Int)

set_option maxRecDepth 20000 in
set_option maxHeartbeats 1000000 in
theorem heldIntS_any (B : Nat → Prop) (v : Value) (n k : Nat) (w : World) (ha : IntsAt B w v (seqI k n)) (hn : n ≤ 100000000) (hk : k ≤ 100000000) :
    Calls Tryz.prog 26 #[v, .int .i64 k] w fun e w' => e = .returned (.int .i64 ((k + n : Nat) : Int)) ∧ w' = w := by
  obtain ⟨a, c, rfl, hl, ha⟩ := ha
  rw [seqI_length] at hl ⊢
  have HC : Hid (∀ j, j < n → ∃ b o, a = some ⟨b, o, none⟩ ∧ w.cell? ⟨b, o + j, none⟩ = some (.int .i64 ((k + j : Nat) : Int))) := fun j hj => by
    rcases ha with ha | ⟨b, o, h1, -, ha⟩
    · have := congrArg List.length ha; rw [seqI_length] at this; simp at this; omega
    · refine ⟨b, o, h1, ?_⟩
      rw [ha j (by rw [seqI_length]; exact hj), List.getD_eq_getElem?_getD, List.getElem?_eq_getElem (by rw [seqI_length]; exact hj)]
      simp only [Option.getD_some, seqI_get k n j hj]
  clear ha hl
  go_enter Tryz.func26, Tryz.ntmps26
  go_wp2_with fail
  go_loopw [1, 5] (fun q i wr => Hid (wr = w) ∧ ∃ j : Nat, j ≤ n ∧ i = .int .i64 j ∧ q = .int .i64 ((k + j : Nat) : Int)) (fun _ i _ => n - (intOf i).toNat)
  case atStart => exact ⟨rfl, 0, Nat.zero_le _, rfl, rfl⟩
  case round =>
    obtain ⟨HW, j, hj, rfl, rfl⟩ := hrel
    by_cases hlt : j < n
    · obtain ⟨b, o, rfl, hc⟩ := HC.out j hlt
      rw [← HW.out] at hc
      go_wp2_with fail
      exact ⟨⟨HW, j + 1, by omega, by go_num, by go_num⟩, by simp [intOf]; omega⟩
    · have hjl : j = n := by omega
      rw [hjl]
      go_wp2_with fail
      go_ret
      exact ⟨rfl, HW.out⟩

end Go.Proofs.YtghgilkdmdppcaaGreat
