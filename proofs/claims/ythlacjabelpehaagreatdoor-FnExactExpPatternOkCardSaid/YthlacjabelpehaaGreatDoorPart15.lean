/-
  The law's toExpForm and toExpFormS copy forms into new memory, and there is room for as many kids as there are. Condition: the forms lie in memory, and cost at most 1048576.
  The law's eqExpForm and eqExpFormS return true of two places that hold one form. Condition: both lie in memory as FormAt says.
  The law FnExactExpPatternOk returns true, and nothing that was there has turned. Condition: the forms that it is given lie in memory as FormAt says, their scopes are numbers of the machine, and the table of powers stands.
  A form that comes in as an argument, read as data, lies in memory as a tree.
  Forms that come in as arguments, read as data, lie in memory as trees, and their scopes are numbers of the machine.
-/
import Derived.Test.YthlacjabelpehaaGreatDoorPart8
import Derived.Test.YthlacjabelpehaaGreatDoorPart7
import Derived.Deep.RegionWith
import Derived.Test.YthlacjabelpehaaGreatDoorPart14
import Derived.Test.YthlacjabelpehaaGreatDoorPart1
import Derived.Test.YthlacjabelpehaaGreatDoorProg
import Derived.ProofKit
import Derived.OpenShut
import Derived.Deep.Slices
import Derived.Test.YthlacjabelpehaaGreatDoorPart12
namespace Go.Proofs.YthlacjabelpehaaGreatDoor
open Go.RowKit Go.Siskin

def ToFoQ (n : Nat) : Prop := ∀ f : Fm, f.sz ≤ n → ∀ (B : Nat → Prop) (w : World) (c0 c1 c2 c3 c4 : Value), FormAt B w f c0 c1 c2 c3 c4 → (∀ b, B b → b < w.heap.size) → f.cost ≤ 1048576 →
    Calls Tryz.prog 7 #[.agg #[c0, c1, c2, c3, c4]] w fun e w' => ∃ d0 d1 d2 d3 d4, e = .returned (.agg #[d0, d1, d2, d3, d4]) ∧ FqAt (Fresh w w') w' f d0 d1 d2 d3 d4 ∧ Below w.heap.size w w'
def ToFoQs (n : Nat) : Prop := ∀ ks : List Fm, Fm.szs ks ≤ n → ∀ (B : Nat → Prop) (w : World) (v : Value), FormsAt B w v ks → (∀ b, B b → b < w.heap.size) → ks.length + Fm.costs ks ≤ 1048576 →
    Calls Tryz.prog 8 #[v] w fun e w' => ∃ u, e = .returned u ∧ FqsAt (Fresh w w') w' u ks ∧ Below w.heap.size w w'

set_option maxHeartbeats 1000000 in
theorem toFoQ_of (n : Nat) (ih : ToFoQs n) : ToFoQ (n + 1) := by
  intro f hf B w c0 c1 c2 c3 c4 hA hB h0
  obtain ⟨rfl, rfl, ht, h2, rfl, h4⟩ := (formAt_iff _ _ _ _ _ _ _ _).1 hA
  have HC := hid (Fm.cost_eq f)
  have HS := hid (Fm.sz_kids f)
  have hl : f.scopes.length ≤ 1048576 := by have := HC.out; omega
  have H2 := hid h2
  have H4 := hid h4
  have HI := hid ih
  have HR := hid hB
  clear h2 h4 hA ih hB
  go_enter Tryz.func7, Tryz.ntmps7
  go_wp2_with fail
  refine (toIntS_any B _ f.scopes _ (H2.out.keep (((((SameOn.refl _ _).alloc HR.out _).alloc (fun b hb => by have := HR.out b hb; simp; omega) _).alloc (fun b hb => by have := HR.out b hb; simp; omega) _))) (fun b hb => by have := HR.out b hb; simp; omega) hl).mono ?_
  rintro e w1 ⟨v2, rfl, hi1, hb1⟩
  obtain ⟨a2, k2, rfl, -⟩ := id hi1
  obtain ⟨hc1, hf1⟩ := bcell hb1
  have hz1 : w.heap.size + 2 < w1.heap.size := by have := hb1.size; simp at this; omega
  have hz1a : w.heap.size + 1 < w1.heap.size := by omega
  have hz1b : w.heap.size < w1.heap.size := by omega
  have HI1 := hid hi1
  have HB1 := hid hb1
  clear hi1 hb1
  go_wp2_with fail
  refine (HI.out f.kids (by have := HS.out; omega) B _ c4 (H4.out.keep ?_) ?_ (by have := HC.out; omega)).mono ?_
  · exact (((((((SameOn.refl _ _).alloc HR.out _).alloc (fun b hb => by have := HR.out b hb; simp; omega) _).alloc (fun b hb => by have := HR.out b hb; simp; omega) _).below HB1.out (fun b hb => by have := HR.out b hb; simp; omega)).setCell (fun hb => by have := HR.out _ hb; simp at this; omega) _).setCell (fun hb => by have := HR.out _ hb; simp at this; omega) _)
  · exact fun b hb => by have := HR.out b hb; simp; omega
  rintro e w2 ⟨u, rfl, hi2, hb2⟩
  obtain ⟨a4, k4, rfl, -⟩ := id hi2
  obtain ⟨hc2, hf2⟩ := bcell hb2
  have hz2 : w1.heap.size ≤ w2.heap.size := by have := hb2.size; simp at this; omega
  have HI2 := hid hi2
  have HB2 := hid hb2
  clear hi2 hb2
  go_wp2_with fail
  refine bodyPost_ret (v := .agg #[.int .i64 f.sort, .string f.text, .slice a2 f.scopes.length k2, .int .i64 f.frm, .slice a4 f.kids.length k4]) (by simp [results, Tryz.results7, go_sem, hc1, hc2, hz1a]) rfl ⟨_, _, _, _, _, rfl, ?_, ?_⟩
  · refine (fqAt_iff _ _ _ _ _ _ _ _).2 ⟨rfl, rfl, ht, (HI1.out.keep ?_).mono ?_, rfl, (HI2.out.keep ?_).mono ?_⟩
    · refine ((((((((SameOn.refl _ _).setCell ?_ _).setCell ?_ _).below HB2.out ?_).setCell ?_ _).setCell ?_ _).setCell ?_ _).setCell ?_ _).setCell ?_ _ |>.setCell ?_ _
      all_goals first
        | (intro h; have := h.1; simp at this; omega)
        | (intro b h; have := h.2; simp; omega)
    · intro b h; have h1 := h.1; have h2 := h.2; exact ⟨by simp at h1; omega, by simp; omega⟩
    · refine ((((((SameOn.refl _ _).setCell ?_ _).setCell ?_ _).setCell ?_ _).setCell ?_ _).setCell ?_ _).setCell ?_ _
      all_goals (intro h; have := h.1; simp at this; omega)
    · intro b h; have h1 := h.1; have h2 := h.2; exact ⟨by simp at h1; omega, by simp; omega⟩
  · refine (((((((((((((Below.refl _ _).alloc (Nat.le_refl _) _).alloc (by simp) _).alloc (by simp; omega) _).trans (HB1.out.mono (by simp; omega))).setCell ?_ _).setCell ?_ _).trans (HB2.out.mono (by simp; omega))).setCell ?_ _).setCell ?_ _).setCell ?_ _).setCell ?_ _).setCell ?_ _).setCell ?_ _
    all_goals (simp; try omega)

def GoQ (g : Nat) (wr : World) (cs : Array Value) (ks : List Fm) (k : Nat) : Prop :=
  ∀ j (hj : j < ks.length), j < k → ∃ d0 d1 d2 d3 d4, cs[j * 5]? = some d0 ∧ cs[j * 5 + 1]? = some d1 ∧ cs[j * 5 + 2]? = some d2 ∧ cs[j * 5 + 3]? = some d3 ∧ cs[j * 5 + 4]? = some d4 ∧ FqAt (fun b => g < b ∧ b < wr.heap.size) wr ks[j] d0 d1 d2 d3 d4

theorem goQ_step {g k : Nat} {wr w1 : World} {cs : Array Value} {ks : List Fm} {d0 d1 d2 d3 d4 : Value} (hcs : cs.size = ks.length * 5) (hlt : k < ks.length) (hg : g < wr.heap.size) (hb : Below wr.heap.size wr w1)
    (hf : FqAt (Fresh wr w1) w1 ks[k] d0 d1 d2 d3 d4) (got : GoQ g wr cs ks k) : GoQ g (put5 w1 g (k * 5) d0 d1 d2 d3 d4) (arr5 cs (k * 5) d0 d1 d2 d3 d4) ks (k + 1) := by
  intro j hj hjk
  have hs := hb.size
  by_cases e : j = k
  · subst e
    obtain ⟨e0, e1, e2, e3, e4⟩ := arr5_in (cs := cs) (o := j * 5) d0 d1 d2 d3 d4 (by omega)
    refine ⟨d0, d1, d2, d3, d4, e0, e1, e2, e3, e4, FqAt.mono (FqAt.keep hf (put5_same (SameOn.refl _ _) ?_ _ _ _ _ _ _)) ?_⟩
    · intro h; have h1 := h.1; omega
    · intro b h; have h1 := h.1; have h2 := h.2; rw [put5_size]; exact ⟨by omega, h2⟩
  · obtain ⟨x0, x1, x2, x3, x4, e0, e1, e2, e3, e4, hx⟩ := got j hj (by omega)
    refine ⟨x0, x1, x2, x3, x4, ?_, ?_, ?_, ?_, ?_, FqAt.mono (FqAt.keep hx (put5_same ((SameOn.refl _ _).below hb ?_) ?_ _ _ _ _ _ _)) ?_⟩
    · rw [arr5_out _ _ _ _ _ (by omega)]; exact e0
    · rw [arr5_out _ _ _ _ _ (by omega)]; exact e1
    · rw [arr5_out _ _ _ _ _ (by omega)]; exact e2
    · rw [arr5_out _ _ _ _ _ (by omega)]; exact e3
    · rw [arr5_out _ _ _ _ _ (by omega)]; exact e4
    · intro b h; exact h.2
    · intro h; omega
    · intro b h; rw [put5_size]; exact ⟨h.1, by omega⟩

set_option maxHeartbeats 1000000 in
theorem toFoQs_of (n : Nat) (ih : ToFoQ n) : ToFoQs n := by
  intro ks hks B w v hv hB hn
  obtain ⟨a, ca, rfl, hla, ha⟩ := hv
  unfold maxLen at hla
  obtain ⟨i, hi, hz0, hz1, hz2⟩ := info_parts Tryz.infoForm
  have Hi := hid hi
  have Hz0 := hid hz0
  have Hz1 := hid hz1
  have Hz2 := hid hz2
  have HI := hid ih
  have HR := hid hB
  clear hi hz0 hz1 hz2 ih hB
  have hn1 : ks.length ≤ 1048576 := by omega
  go_enter Tryz.func8, Tryz.ntmps8
  go_wp2_with (at_make; refine wpList_make_new _ rfl _ _ 29 rfl 31 i (.agg #[.int .i64 0, .string ⟨#[]⟩, .slice none 0 0, .int .i64 0, .slice none 0 0]) 5 Tryz.underlying29 Hi.out Hz0.out Hz1.out .i64 .i64 ks.length rfl rfl (by rw [Hz2.out]; omega) (by unfold maxLen; omega) ?_)
  go_loopw [4] (fun i wr => ∃ k : Nat, k ≤ ks.length ∧ i = .int .i64 k ∧ Hid (∃ cs : Array Value, Own wr w.heap.size 31 cs ∧ cs.size = ks.length * 5 ∧ GoQ w.heap.size wr cs ks k ∧ Below w.heap.size w wr)) (fun i _ => ks.length - (intOf i).toNat)
  case atStart => exact ⟨0, Nat.zero_le _, rfl, _, own_new _ _ _, size_madeCells _ _, fun j _ hj => absurd hj (by omega), (Below.refl _ _).alloc (Nat.le_refl _) _⟩
  case round =>
    obtain ⟨k, hk, rfl, HA⟩ := hrel
    obtain ⟨cs, ho, hcs, hgot, hbel⟩ := HA.out
    have HO := hid ho
    have HG := hid hgot
    have HB := hid hbel
    clear ho hgot hbel HA
    by_cases hlt : k < ks.length
    · rcases ha with ha | ⟨ba, oa, rfl, hb, ha⟩
      · subst ha; simp at hlt
      have hrow := RowAt.keep (HB.out.on HR.out) hb ks ha
      obtain ⟨c0, c1, c2, c3, c4, g0, g1, g2, g3, g4, hf⟩ := RowAt.get ks hrow k hlt
      have HC := hid (HI.out ks[k] (Nat.le_trans (Fm.szs_get ks k hlt) hks) B wr c0 c1 c2 c3 c4 hf (fun b hb => by have := HR.out b hb; have := HB.out.size; omega) (by have := Fm.costs_get ks k hlt; omega))
      clear ha hf hrow HI
      go_wp2_with fail
      refine HC.out.mono ?_
      rintro e w1 ⟨d0, d1, d2, d3, d4, rfl, hf, hw⟩
      have HF := hid hf
      obtain ⟨rfl, rfl, -, h2, rfl, h4⟩ := (fqAt_iff _ _ _ _ _ _ _ _).1 hf
      obtain ⟨a2, k2, rfl, -⟩ := h2
      obtain ⟨a4, k4, rfl, -⟩ := h4
      have ho1 := HO.out.keep hw HO.out.lt
      have q0 := ho1.cell (k * 5)
      have q1 := ho1.cell (k * 5 + 1)
      have q2 := ho1.cell (k * 5 + 2)
      have q3 := ho1.cell (k * 5 + 3)
      have q4 := ho1.cell (k * 5 + 4)
      rw [Array.getElem?_eq_getElem (by omega)] at q0 q1 q2 q3 q4
      have f0 := ho1.frozen (k * 5)
      have f1 := ho1.frozen (k * 5 + 1)
      have f2 := ho1.frozen (k * 5 + 2)
      have f3 := ho1.frozen (k * 5 + 3)
      have f4 := ho1.frozen (k * 5 + 4)
      have HW := hid hw
      have HO1 := hid ho1
      clear ho1 hf hw
      go_wp2_with fail
      have hsz := HB.out.size
      exact ⟨⟨k + 1, by omega, by go_num, _, put5_own HO1.out (k * 5) _ _ _ _ _, by rw [arr5_size, hcs], goQ_step hcs hlt HO.out.lt HW.out HF.out HG.out, put5_below (HB.out.trans (HW.out.mono hsz)) (Nat.le_refl _) _ _ _ _ _ _⟩, by simp [intOf]; omega⟩
    · go_wp2_with fail
      go_ret
      refine ⟨_, rfl, ?_, HB.out⟩
      refine ⟨_, _, rfl, ⟨by unfold maxLen; omega, Nat.le_refl _⟩, Or.inr ⟨w.heap.size, 0, rfl, ⟨Nat.le_refl _, HO.out.lt⟩, fun j hj => ?_⟩⟩
      obtain ⟨x0, x1, x2, x3, x4, e0, e1, e2, e3, e4, hx⟩ := HG.out j hj (by omega)
      rw [Nat.zero_add]
      refine ⟨x0, x1, x2, x3, x4, (HO.out.cell _).trans e0, (HO.out.cell _).trans e1, (HO.out.cell _).trans e2, (HO.out.cell _).trans e3, (HO.out.cell _).trans e4, FqAt.mono hx ?_⟩
      intro b h; exact ⟨by have := h.1; omega, h.2⟩

theorem toFoQ_all : ∀ n, ToFoQ n ∧ ToFoQs n
  | 0 => by
    have h : ToFoQ 0 := fun f hf => by have := Fm.sz_kids f; omega
    exact ⟨h, toFoQs_of 0 h⟩
  | n + 1 => by
    have h := toFoQ_of n (toFoQ_all n).2
    exact ⟨h, toFoQs_of (n + 1) h⟩

/-- The law's copy of a form: the same form, in new memory. -/
theorem toExpFoQ_any (f : Fm) (B : Nat → Prop) (w : World) (c0 c1 c2 c3 c4 : Value) (h : FormAt B w f c0 c1 c2 c3 c4) (hB : ∀ b, B b → b < w.heap.size) (h0 : f.cost ≤ 1048576) :
    Calls Tryz.prog 7 #[.agg #[c0, c1, c2, c3, c4]] w fun e w' => ∃ d0 d1 d2 d3 d4, e = .returned (.agg #[d0, d1, d2, d3, d4]) ∧ FqAt (Fresh w w') w' f d0 d1 d2 d3 d4 ∧ Below w.heap.size w w' :=
  (toFoQ_all f.sz).1 f (Nat.le_refl _) B w c0 c1 c2 c3 c4 h hB h0

/-- The law's copy of forms: the same forms, in new memory. -/
theorem toExpFoQs_any (ks : List Fm) (B : Nat → Prop) (w : World) (v : Value) (h : FormsAt B w v ks) (hB : ∀ b, B b → b < w.heap.size) (h0 : ks.length + Fm.costs ks ≤ 1048576) :
    Calls Tryz.prog 8 #[v] w fun e w' => ∃ u, e = .returned u ∧ FqsAt (Fresh w w') w' u ks ∧ Below w.heap.size w w' :=
  (toFoQ_all (Fm.szs ks)).2 ks (Nat.le_refl _) B w v h hB h0

end Go.Proofs.YthlacjabelpehaaGreatDoor

namespace Go.Proofs.YthlacjabelpehaaGreatDoor
open Go.RowKit Go.Siskin

theorem _root_.Go.Siskin.SameOn.drewN {R : Nat → Prop} {a w : World} (h : SameOn R a w) (m : Nat) : SameOn R a (w.drewN m) := fun b hb => h b hb
theorem belowN {B : Nat} {a w : World} (h : Below B a w) (n : Nat) : Below B a (w.drewN n) := h.trans ⟨rfl, rfl, rfl, Nat.le_refl _, fun _ _ => rfl⟩

def EqForm (n : Nat) : Prop := ∀ f : Fm, f.sz ≤ n → ∀ (B B' : Nat → Prop) (w : World) (c0 c1 c2 c3 c4 d0 d1 d2 d3 d4 : Value), FormAt B w f c0 c1 c2 c3 c4 → FormAt B' w f d0 d1 d2 d3 d4 → (∀ b, B b → b < w.heap.size) → (∀ b, B' b → b < w.heap.size) →
    Calls Tryz.prog 10 #[.agg #[c0, c1, c2, c3, c4], .agg #[d0, d1, d2, d3, d4]] w fun e w' => e = .returned (.bool true) ∧ Below w.heap.size w w'
def EqForms (n : Nat) : Prop := ∀ ks : List Fm, Fm.szs ks ≤ n → ∀ (B B' : Nat → Prop) (w : World) (v u : Value), FormsAt B w v ks → FormsAt B' w u ks → (∀ b, B b → b < w.heap.size) → (∀ b, B' b → b < w.heap.size) →
    Calls Tryz.prog 11 #[v, u] w fun e w' => e = .returned (.bool true) ∧ Below w.heap.size w w'

set_option maxHeartbeats 1000000 in
theorem eqForms_of (n : Nat) (ih : EqForm n) : EqForms n := by
  intro ks hks B B' w v u hv hu hB hB'
  obtain ⟨a, ca, rfl, hla, ha⟩ := hv
  obtain ⟨a', ca', rfl, -, ha'⟩ := hu
  unfold maxLen at hla
  have HI := hid ih
  have HR := hid hB
  have HR' := hid hB'
  clear ih hB hB'
  go_enter Tryz.func11, Tryz.ntmps11
  go_wp2_with fail
  go_loopw [5] (fun i wr => ∃ k : Nat, k ≤ ks.length ∧ i = .int .i64 k ∧ Hid (Below w.heap.size w wr)) (fun i _ => ks.length - (intOf i).toNat)
  case atStart => exact ⟨0, Nat.zero_le _, rfl, Below.refl _ _⟩
  case round =>
    obtain ⟨k, hk, rfl, HB⟩ := hrel
    by_cases hlt : k < ks.length
    · rcases ha with ha | ⟨ba, oa, rfl, hb, ha⟩
      · subst ha; simp at hlt
      rcases ha' with ha' | ⟨ba', oa', rfl, hb', ha'⟩
      · subst ha'; simp at hlt
      obtain ⟨c0, c1, c2, c3, c4, g0, g1, g2, g3, g4, hf⟩ := RowAt.get ks (RowAt.keep (HB.out.on HR.out) hb ks ha) k hlt
      obtain ⟨d0, d1, d2, d3, d4, e0, e1, e2, e3, e4, hf'⟩ := RowAt.get ks (RowAt.keep (HB.out.on HR'.out) hb' ks ha') k hlt
      have hsz := HB.out.size
      have HC := hid (HI.out ks[k] (Nat.le_trans (Fm.szs_get ks k hlt) hks) B B' wr.drew c0 c1 c2 c3 c4 d0 d1 d2 d3 d4 (FormAt.keep (SameOn.drew _ _) _ hf) (FormAt.keep (SameOn.drew _ _) _ hf') (fun b hb => Nat.lt_of_lt_of_le (HR.out b hb) hsz) (fun b hb => Nat.lt_of_lt_of_le (HR'.out b hb) hsz))
      clear ha hf ha' hf' HI
      go_wp2_with fail
      go_region_with (go_at_call 10; refine HC.out.mono ?_; rintro e w' ⟨rfl, hw⟩)
      all_goals go_wp2_with fail
      all_goals exact ⟨⟨k + 1, by omega, by go_num, HB.out.drew.trans (hw.mono hsz)⟩, by simp [intOf]; omega⟩
    · go_wp2_with fail
      go_ret
      exact ⟨rfl, HB.out⟩

set_option maxHeartbeats 2000000 in
theorem eqForm_of (n : Nat) (ih : EqForms n) : EqForm (n + 1) := by
  intro f hf B B' w c0 c1 c2 c3 c4 d0 d1 d2 d3 d4 hA hA' hB hB'
  obtain ⟨rfl, rfl, ht, h2, rfl, h4⟩ := (formAt_iff _ _ _ _ _ _ _ _).1 hA
  obtain ⟨rfl, rfl, -, h2', rfl, h4'⟩ := (formAt_iff _ _ _ _ _ _ _ _).1 hA'
  have HS := hid (Fm.sz_kids f)
  have H2 := hid h2
  have H4 := hid h4
  have H2' := hid h2'
  have H4' := hid h4'
  have HI := hid ih
  have HR := hid hB
  have HR' := hid hB'
  obtain ⟨a2, k2, rfl, -⟩ := h2
  obtain ⟨a2', k2', rfl, -⟩ := h2'
  obtain ⟨a4, k4, rfl, -⟩ := h4
  obtain ⟨a4', k4', rfl, -⟩ := h4'
  clear hA hA' ih hB hB'
  go_enter Tryz.func10, Tryz.ntmps10
  go_wp2_with fail
  refine (eqIntS_any (fun b => B b ∨ B' b) _ _ f.scopes f.scopes _ ((H2.out.keep (((SameOn.refl _ _).alloc HR.out _).alloc (fun b hb => by have := HR.out b hb; simp; omega) _)).mono (fun _ h => Or.inl h)) ((H2'.out.keep (((SameOn.refl _ _).alloc HR'.out _).alloc (fun b hb => by have := HR'.out b hb; simp; omega) _)).mono (fun _ h => Or.inr h))).mono ?_
  rintro e w1 ⟨rfl, m, rfl⟩
  rw [show (f.scopes == f.scopes) = true from by simp]
  go_wp2_with fail
  refine (HI.out f.kids (by have := HS.out; omega) B B' _ _ _ (H4.out.keep ?_) (H4'.out.keep ?_) ?_ ?_).mono ?_
  · exact (((SameOn.refl _ _).alloc HR.out _).alloc (fun b hb => by have := HR.out b hb; simp; omega) _).drewN m
  · exact (((SameOn.refl _ _).alloc HR'.out _).alloc (fun b hb => by have := HR'.out b hb; simp; omega) _).drewN m
  · exact fun b hb => by have := HR.out b hb; simp; omega
  · exact fun b hb => by have := HR'.out b hb; simp; omega
  rintro e w2 ⟨rfl, hw⟩
  go_wp2_with fail
  go_ret
  exact ⟨rfl, (belowN (((Below.refl _ _).alloc (Nat.le_refl _) _).alloc (by simp) _) m).trans (hw.mono (by simp; omega))⟩

theorem eqForm_all : ∀ n, EqForm n ∧ EqForms n
  | 0 => by
    have h : EqForm 0 := fun f hf => by have := Fm.sz_kids f; omega
    exact ⟨h, eqForms_of 0 h⟩
  | n + 1 => by
    have h := eqForm_of n (eqForm_all n).2
    exact ⟨h, eqForms_of (n + 1) h⟩

/-- Two places that hold one form are held equal by the law. -/
theorem eqExpForm_any (f : Fm) (B B' : Nat → Prop) (w : World) (c0 c1 c2 c3 c4 d0 d1 d2 d3 d4 : Value) (h : FormAt B w f c0 c1 c2 c3 c4) (h' : FormAt B' w f d0 d1 d2 d3 d4) (hB : ∀ b, B b → b < w.heap.size) (hB' : ∀ b, B' b → b < w.heap.size) :
    Calls Tryz.prog 10 #[.agg #[c0, c1, c2, c3, c4], .agg #[d0, d1, d2, d3, d4]] w fun e w' => e = .returned (.bool true) ∧ Below w.heap.size w w' :=
  (eqForm_all f.sz).1 f (Nat.le_refl _) B B' w c0 c1 c2 c3 c4 d0 d1 d2 d3 d4 h h' hB hB'

end Go.Proofs.YthlacjabelpehaaGreatDoor

namespace Go.Proofs.YthlacjabelpehaaGreatDoor
open Go.RowKit Go.Siskin

theorem boxY {w w' : World} {o : Obj} (h : Below (w.heap.size + 1) (w.alloc o) w') : ∀ j, w'.cell? ⟨w.heap.size, j, none⟩ = (w.alloc o).cell? ⟨w.heap.size, j, none⟩ :=
  fun j => h.cell (p := ⟨w.heap.size, j, none⟩) (by simp)
theorem boxY_step {w w' w2 : World} {o : Obj} (h : Below (w.heap.size + 1) (w.alloc o) w') (h2 : Below w'.heap.size w' w2) : Below (w.heap.size + 1) (w.alloc o) w2 :=
  h.trans (h2.mono (by have := h.size; simpa using this))
theorem boxY_on {R : Nat → Prop} {w w' : World} {o : Obj} (h : Below (w.heap.size + 1) (w.alloc o) w') (hR : ∀ b, R b → b < w.heap.size) : SameOn R w w' :=
  ((SameOn.refl _ _).alloc hR _).below h (fun b hb => by have := hR b hb; omega)
theorem boxY_done {w w' : World} {o : Obj} (h : Below (w.heap.size + 1) (w.alloc o) w') : Below w.heap.size w w' :=
  ((Below.refl _ _).alloc (Nat.le_refl _) _).trans (h.mono (by omega))
theorem sz_cost : ∀ (n : Nat) (f : Fm), f.sz ≤ n → f.sz ≤ f.cost + 1
  | 0, f, hn => by have := Fm.sz_kids f; omega
  | n + 1, f, hn => by
    have h1 := Fm.sz_kids f
    have h2 := Fm.cost_eq f
    have h3 : ∀ ks : List Fm, (∀ k ∈ ks, k.sz ≤ k.cost + 1) → Fm.szs ks ≤ ks.length + Fm.costs ks := by
      intro ks
      induction ks with
      | nil => intro _; exact Nat.le_refl _
      | cons k r ih =>
        intro h
        have h4 := h k (List.mem_cons_self ..)
        have h5 := ih fun x hx => h x (List.mem_cons_of_mem _ hx)
        rw [Fm.szs_cons, Fm.costs_cons, List.length_cons]
        omega
    have h6 := h3 f.kids fun k hk => sz_cost n k (by have := sz_memY f.kids k hk; omega)
    omega

theorem FormAt.keepY {B : Nat → Prop} {w w' : World} {f : Fm} {c0 c1 c2 c3 c4 : Value} (h : FormAt B w f c0 c1 c2 c3 c4) (hb : SameOn B w w') : FormAt B w' f c0 c1 c2 c3 c4 := FormAt.keep hb _ h
theorem FormAt.monoY {B B' : Nat → Prop} {w : World} {f : Fm} {c0 c1 c2 c3 c4 : Value} (h : FormAt B w f c0 c1 c2 c3 c4) (hb : ∀ b, B b → B' b) : FormAt B' w f c0 c1 c2 c3 c4 := FormAt.mono hb _ h

set_option maxRecDepth 20000 in
set_option maxHeartbeats 4000000 in
theorem lawPatternOk_any (f : Fm) (ls : List Fm) (B : Nat → Prop) (w : World) (c0 c1 c2 c3 c4 lv : Value) (hA : FormAt B w f c0 c1 c2 c3 c4) (hV : FormsAt B w lv ls) (hB : ∀ b, B b → b < w.heap.size) (hfit : FitF f) (hfits : ∀ g ∈ ls, FitF g) (hT : TabY w) :
    Calls Tryz.prog 3 #[.agg #[c0, c1, c2, c3, c4], lv] w fun e w' => e = .returned (.bool true) ∧ Below w.heap.size w w' := by
  have HA := hid hA
  have HV := hid hV
  have HR := hid hB
  have HFI := hid hfit
  have HFS := hid hfits
  have HT := hid hT
  have H1 := hid (fun o : Obj => szExpForm_any f B (w.alloc o) c0 c1 c2 c3 c4 1048576 (FormAt.keep ((SameOn.refl _ _).alloc hB _) _ hA) (fun b hb => by have := hB b hb; simp; omega) (by omega) (by omega))
  obtain ⟨rfl, rfl, ht, h2, rfl, h4⟩ := (formAt_iff _ _ _ _ _ _ _ _).1 hA
  obtain ⟨a2, k2, rfl, -⟩ := h2
  obtain ⟨a4, k4, rfl, -⟩ := h4
  obtain ⟨la, lk, rfl, -⟩ := hV
  clear hA hB hfit hfits hT
  go_enter Tryz.func3, Tryz.ntmps3
  go_wp2_with fail
  refine (H1.out _).mono ?_
  rintro e w1 ⟨rfl, hw1⟩
  simp only [World.size_alloc] at hw1
  have s1 := hw1.size
  simp only [World.size_alloc] at s1
  have HW1 := hid hw1
  clear hw1 H1
  by_cases hneg : szI f.cost 1048576 < 0
  · go_wp2_with fail
    go_ret
    exact ⟨rfl, boxY_done HW1.out⟩
  have hc : f.cost ≤ 1048576 := by rw [szI_neg] at hneg; omega
  have hge := szI_ge f.cost 1048576
  have hl1 : 0 ≤ szI f.cost 1048576 := by omega
  have hl2 : szI f.cost 1048576 ≤ 1048576 := hge.2 (by omega)
  obtain ⟨left, hleft⟩ : ∃ left, left = szI f.cost 1048576 := ⟨_, rfl⟩
  rw [← hleft] at hneg hl1 hl2 ⊢
  clear hge hleft
  have H2 := hid ((szForm_all (Fm.szs ls)).2 ls (Nat.le_refl _) B w1 _ left (HV.out.keep (boxY_on HW1.out HR.out)) (fun b hb => by have := HR.out b hb; omega) hl1 hl2)
  go_wp2_with fail
  refine H2.out.mono ?_
  rintro e w2 ⟨rfl, hw2⟩
  have HW2 := hid (boxY_step HW1.out hw2)
  have s2 := hw2.size
  clear hw2 H2
  by_cases hneg2 : szI (ls.length + Fm.costs ls) left < 0
  · go_wp2_with fail
    go_ret
    exact ⟨rfl, boxY_done HW2.out⟩
  have hcl : ls.length + Fm.costs ls ≤ 1048576 := by rw [szI_neg] at hneg2; omega
  obtain ⟨left2, hleft2⟩ : ∃ left2, left2 = szI (ls.length + Fm.costs ls) left := ⟨_, rfl⟩
  rw [← hleft2] at hneg2 ⊢
  clear hleft2
  have q2 := boxY HW2.out
  go_wp2_with fail
  refine (toExpFoQ_any f B w2 _ _ _ _ _ (FormAt.keep (boxY_on HW2.out HR.out) _ HA.out) (fun b hb => by have := HR.out b hb; omega) hc).mono ?_
  rintro e w3 ⟨d0, d1, d2, d3, d4, rfl, hf3, hw3⟩
  have HW3 := hid (boxY_step HW2.out hw3)
  have s3 := hw3.size
  have HF3 := hid hf3
  obtain ⟨rfl, rfl, -, h2, rfl, h4⟩ := (formAt_iff _ _ _ _ _ _ _ _).1 hf3.form
  obtain ⟨x2, y2, rfl, -⟩ := h2
  obtain ⟨x4, y4, rfl, -⟩ := h4
  clear hw3 hf3 q2
  go_wp2_with fail
  refine (toExpFoQs_any ls B w3 _ (HV.out.keep (boxY_on HW3.out HR.out)) (fun b hb => by have := HR.out b hb; omega) hcl).mono ?_
  rintro e w4 ⟨u, rfl, hu4, hw4⟩
  have HW4 := hid (boxY_step HW3.out hw4)
  have HWa := hid hw4
  have s4 := hw4.size
  have HU4 := hid hu4
  obtain ⟨ua, uc, rfl, -⟩ := hu4.forms
  clear hw4 hu4
  obtain ⟨res, hres⟩ : ∃ res, res = patOk f ls := ⟨_, rfl⟩
  have HSP := hid (expPatternOk_any f ls (fun b => b < w4.heap.size) w4 _ _ _ _ _ _ ((HF3.out.keep (HWa.out.on (fun b hb => hb.2))).mono (fun b hb => by have := hb.2; omega)) (HU4.out.forms.mono (fun b hb => hb.2)) (fun _ h => h) hc (by have := sz_cost f.sz f (Nat.le_refl _); omega) (fun g hg => by
    obtain ⟨i, hi, rfl⟩ := List.getElem_of_mem hg
    have := Fm.costs_get ls i hi
    omega))
  rw [← hres] at HSP
  have HRS := hid hres
  clear hres
  go_wp2_with fail
  refine HSP.out.mono ?_
  rintro e w5 ⟨rfl, hw5⟩
  have HW5 := hid (boxY_step HW4.out hw5)
  have s5 := hw5.size
  have q5 := boxY HW5.out
  clear hw5 HSP
  go_wp2_with fail
  refine (toExpFoQ_any f B w5 _ _ _ _ _ (FormAt.keep (boxY_on HW5.out HR.out) _ HA.out) (fun b hb => by have := HR.out b hb; omega) hc).mono ?_
  rintro e w6 ⟨e0, e1, e2, e3, e4, rfl, hf6, hw6⟩
  have HW6 := hid (boxY_step HW5.out hw6)
  have s6 := hw6.size
  have HF6 := hid hf6
  obtain ⟨rfl, rfl, -, h2, rfl, h4⟩ := (formAt_iff _ _ _ _ _ _ _ _).1 hf6.form
  obtain ⟨v2, v3, rfl, -⟩ := h2
  obtain ⟨v4, v5, rfl, -⟩ := h4
  clear hw6 hf6 q5
  have HX0 := hid (own_new w6 #[.int .i64 f.sort, .string f.text, .slice v2 f.scopes.length v3, .int .i64 f.frm, .slice v4 f.kids.length v5] 31)
  have HW6a := hid (HW6.out.alloc (by omega) (.cells #[.int .i64 f.sort, .string f.text, .slice v2 f.scopes.length v3, .int .i64 f.frm, .slice v4 f.kids.length v5] 31))
  go_wp2_with fail
  refine (toExpFoQs_any ls B (w6.alloc (.cells #[.int .i64 f.sort, .string f.text, .slice v2 f.scopes.length v3, .int .i64 f.frm, .slice v4 f.kids.length v5] 31)) _ (HV.out.keep (boxY_on HW6a.out HR.out)) (fun b hb => by have := HR.out b hb; simp; omega) hcl).mono ?_
  rintro e w7 ⟨z, rfl, hz7, hw7⟩
  have HW7 := hid (boxY_step HW6a.out hw7)
  have HWb := hid hw7
  have s7 := hw7.size
  simp only [World.size_alloc] at s7
  have HZ7 := hid hz7
  obtain ⟨za, zc, rfl, -⟩ := hz7.forms
  have HX7 := hid (HX0.out.keep hw7 (by simp))
  obtain ⟨b0, b1, b2, b3, b4⟩ := yown5 HX7.out
  clear hw7 hz7
  have HF7 := hid (FormAt.keepY (FormAt.keepY HF6.out.form ((SameOn.refl _ _).alloc (fun b hb => hb.2) _)) (HWb.out.on (fun b hb => by have := hb.2; simp; omega)))
  have HIM := hid (implPatternOk_any f ls (fun b => b < w7.heap.size) w7 _ _ _ _ _ _ (FormAt.monoY HF7.out (fun b hb => by have := hb.2; omega)) (HZ7.out.forms.mono (fun b hb => hb.2)) (fun _ h => h) hc hcl HFI.out HFS.out (HT.out.below (boxY_done HW7.out) rfl))
  rw [← HRS.out] at HIM
  go_wp2_with fail
  refine HIM.out.mono ?_
  rintro e w8 ⟨rfl, hw8⟩
  have HW8 := hid (boxY_step HW7.out hw8)
  have s8 := hw8.size
  have HX8 := hid (HX7.out.keep hw8 (by omega))
  obtain ⟨b0, b1, b2, b3, b4⟩ := yown5 HX8.out
  have HF8 := hid (FormAt.keepY HF7.out (hw8.on (fun b hb => by have := hb.2; omega)))
  have HZ8 := hid (HZ7.out.forms.keep (hw8.on (fun b hb => hb.2)))
  have q8 := boxY HW8.out
  clear hw8 HIM
  have HC9 := hid (toExpFoQ_any f B w8.drew _ _ _ _ _ (FormAt.keep (SameOn.drew _ _) _ (FormAt.keep (boxY_on HW8.out HR.out) _ HA.out)) (fun b hb => by have := HR.out b hb; show b < w8.heap.size; omega) hc)
  go_wp2_with fail
  go_region_with (first
    | (go_at_call 7; refine HC9.out.mono ?_; rintro e w9 ⟨g0, g1, g2, g3, g4, rfl, hf9, hw9⟩; have x9 : ∀ j, w9.cell? ⟨w6.heap.size, j, none⟩ = w8.cell? ⟨w6.heap.size, j, none⟩ := fun j => hw9.cell (p := ⟨w6.heap.size, j, none⟩) (by show w6.heap.size < w8.heap.size; omega); have HF9 := hid hf9.form; have HW9 := hid hw9; clear hf9 hw9)
    | (go_at_call 10; refine (eqExpForm_any f (Fresh w5 w6) (Fresh w8.drew w9) w9 _ _ _ _ _ _ _ _ _ _ (FormAt.keep (HW9.out.on (fun b hb => by have := hb.2; show b < w8.heap.size; omega)) _ (FormAt.keep (SameOn.drew _ _) _ HF8.out)) HF9.out (fun b hb => by have := hb.2; have := HW9.out.size; have h : w8.heap.size ≤ w9.heap.size := this; omega) (fun b hb => hb.2)).mono ?_; rintro e w10 ⟨rfl, hw10⟩; have HW10 := hid hw10; clear hw10))
  all_goals
    have s9 : w8.heap.size ≤ w9.heap.size := HW9.out.size
    have s10 := HW10.out.size
    have HWc := hid (boxY_step (boxY_step HW8.out.drew HW9.out) HW10.out)
    have HC11 := hid (toExpFoQs_any ls B w10 _ (HV.out.keep (boxY_on HWc.out HR.out)) (fun b hb => by have := HR.out b hb; omega) hcl)
    go_wp2_with fail
    refine HC11.out.mono ?_
    rintro e w11 ⟨y, rfl, hy11, hw11⟩
    have HY11 := hid hy11.forms
    have HW11 := hid hw11
    have HWd := hid (boxY_step HWc.out hw11)
    obtain ⟨ya, yc, rfl, -⟩ := hy11.forms
    have s11 := hw11.size
    have HZ11 := hid (((((HZ8.out.keep (SameOn.drew _ _)).keep (HW9.out.on (fun b hb => by have := hb.2; show b < w8.heap.size; omega))).keep (HW10.out.on (fun b hb => by have := hb.2; omega))).keep (hw11.on (fun b hb => by have := hb.2; omega))))
    clear hy11 hw11
    go_wp2_with fail
    refine ((eqForm_all (Fm.szs ls)).2 ls (Nat.le_refl _) _ _ w11 _ _ HZ11.out HY11.out (fun b hb => by have := hb.2; omega) (fun b hb => hb.2)).mono ?_
    rintro e w12 ⟨rfl, hw12⟩
    have HW12 := hid (boxY_step HWd.out hw12)
    clear hw12
    go_wp2_with fail
    go_ret
    exact ⟨rfl, boxY_done HW12.out⟩
end Go.Proofs.YthlacjabelpehaaGreatDoor

namespace Go.Proofs.YthlacjabelpehaaGreatDoor
open Go.ChangeShapes Go.WideShapes Go.ChangeAt Go.RowKit Go.Siskin

theorem Tryz.cellsInt : Tryz.prog.cellsOf 3 = 1 := by kernel_rfl
theorem Tryz.cellsStr : Tryz.prog.cellsOf 9 = 1 := by kernel_rfl
theorem Tryz.cellsInts : Tryz.prog.cellsOf 22 = 1 := by kernel_rfl
theorem Tryz.cellsForms : Tryz.prog.cellsOf 23 = 1 := by kernel_rfl
theorem Tryz.cellsForm : Tryz.prog.cellsOf 25 = 5 := by kernel_rfl

theorem list5 {α : Type} {cs : List α} (h : cs.length = 5) : ∃ c0 c1 c2 c3 c4, cs = [c0, c1, c2, c3, c4] := by
  match cs, h with
  | [c0, c1, c2, c3, c4], _ => exact ⟨c0, c1, c2, c3, c4, rfl⟩
theorem array5 {α : Type} {cs : Array α} (h : cs.size = 5) : ∃ c0 c1 c2 c3 c4, cs = #[c0, c1, c2, c3, c4] := by
  obtain ⟨l⟩ := cs
  obtain ⟨c0, c1, c2, c3, c4, e⟩ := list5 (cs := l) h
  exact ⟨c0, c1, c2, c3, c4, by rw [e]⟩

section
variable {H : Type} {enc : TypeId × Value → H} {W : World} {spare : Nat → Bool} {held : Bool}

/-- A cell that is there lies in a block that is there. -/
theorem cell_lt {a : Addr} {v : Value} (h : W.cell? a = some v) : a.block < W.heap.size := by
  unfold World.cell? at h
  cases e : W.heap[a.block]? with
  | none => rw [e] at h; simp at h
  | some o => exact (Array.getElem?_eq_some_iff.1 e).1

theorem ints_of {fuel : Nat} {v : Value} {x : DataW H × List MemPlace} (h : DataW.trod enc Tryz.prog W 0 spare held fuel 22 [v] = some x) : ∃ xs : List Int, IntsAt (fun b => b < W.heap.size) W v xs := by
  rcases open_ints Tryz.underlying22 Tryz.underlying3 Tryz.cellsInt h with ⟨hcs, _⟩ | ⟨a, len, cap, zs, hcs, _, hl, hm, hz, _, hcell, _⟩
  · simp only [List.cons.injEq, and_true] at hcs
    exact ⟨[], none, 0, hcs, ⟨Nat.zero_le _, Nat.le_refl _⟩, Or.inl rfl⟩
  · simp only [List.cons.injEq, and_true] at hcs
    have hlen : len ≤ zs.length := by rw [hz]; split <;> omega
    have hl2 : (zs.take len).length = len := by rw [List.length_take]; omega
    refine ⟨zs.take len, some a, cap, by rw [hl2]; exact hcs, ⟨by rw [hl2]; omega, by rw [hl2]; omega⟩, ?_⟩
    by_cases h0 : len = 0
    · left; subst h0; simp
    · right
      obtain ⟨b, o, rfl, hc⟩ := ints_at hcell (by omega)
      refine ⟨b, o, rfl, ?_, fun i hi => ?_⟩
      · exact cell_lt (hc 0 (by omega))
      · rw [hl2] at hi
        rw [hc i (by omega)]
        simp [List.getD_eq_getElem?_getD, hi]

theorem cells5 {a : Addr} {k0 k1 k2 k3 k4 : Value} (h : W.cells? 0 a 5 = some [k0, k1, k2, k3, k4]) : W.cell? (a.add 0) = some k0 ∧ W.cell? (a.add 1) = some k1 ∧ W.cell? (a.add 2) = some k2 ∧ W.cell? (a.add 3) = some k3 ∧ W.cell? (a.add 4) = some k4 := by
  unfold World.cells? at h
  rw [if_pos (Nat.zero_le _), show List.range 5 = [0, 1, 2, 3, 4] from rfl] at h
  have g := mapM_some_get h
  have e0 := g 0 0 rfl
  have e1 := g 1 1 rfl
  have e2 := g 2 2 rfl
  have e3 := g 3 3 rfl
  have e4 := g 4 4 rfl
  exact ⟨e0, e1, e2, e3, e4⟩

theorem form_of : ∀ (fuel : Nat) {cs : List Value} {x : DataW H × List MemPlace}, DataW.trod enc Tryz.prog W 0 spare held fuel 25 cs = some x →
    ∃ (c0 c1 c2 c3 c4 : Value) (f : Fm), cs = [c0, c1, c2, c3, c4] ∧ FormAt (fun b => b < W.heap.size) W f c0 c1 c2 c3 c4 := by
  intro fuel
  induction fuel using Nat.strongRecOn with
  | ind fuel ih =>
  intro cs x h
  obtain ⟨xs, n, hn, -, hl, hxs, hf⟩ := DataW.trod_struct Tryz.underlying25 h
  rw [Tryz.cellsForm] at hl
  obtain ⟨c0, c1, c2, c3, c4, rfl⟩ := list5 hl
  have hx5 : xs.length = 5 := hxs
  obtain ⟨x0, x1, x2, x3, x4, rfl⟩ := list5 hx5
  have g0 : DataW.trod enc Tryz.prog W 0 spare held n 3 [c0] = some x0 := by simpa [Tryz.cellsInt] using hf 0 _ rfl
  have g1 : DataW.trod enc Tryz.prog W 0 spare held n 9 [c1] = some x1 := by simpa [Tryz.cellsStr] using hf 1 _ rfl
  have g2 : DataW.trod enc Tryz.prog W 0 spare held n 22 [c2] = some x2 := by simpa [Tryz.cellsInts] using hf 2 _ rfl
  have g3 : DataW.trod enc Tryz.prog W 0 spare held n 3 [c3] = some x3 := by simpa [Tryz.cellsInt] using hf 3 _ rfl
  have g4 : DataW.trod enc Tryz.prog W 0 spare held n 23 [c4] = some x4 := by simpa [Tryz.cellsForms] using hf 4 _ rfl
  obtain ⟨s, e0, -, -⟩ := DataW.trod_int Tryz.underlying3 g0
  obtain ⟨t, e1, -, ht⟩ := DataW.trod_string Tryz.underlying9 g1
  obtain ⟨sc, hsc⟩ := ints_of g2
  obtain ⟨fr, e3, -, -⟩ := DataW.trod_int Tryz.underlying3 g3
  simp only [List.cons.injEq, and_true] at e0 e1 e3
  subst e0 e1 e3
  obtain ⟨ks, hks⟩ : ∃ ks, FormsAt (fun b => b < W.heap.size) W c4 ks := by
    rcases DataW.trod_slice Tryz.underlying23 g4 with ⟨hcs, -⟩ | ⟨a, len, cap, elems, rest, n2, hn2, hcs, -, -, hlc, hm, hlen, hel, -⟩
    · simp only [List.cons.injEq, and_true] at hcs
      exact ⟨[], none, 0, hcs, Nat.zero_le _, Or.inl rfl⟩
    · simp only [List.cons.injEq, and_true] at hcs
      have hall : ∀ i, i < len → ∃ f : Fm, ∃ k0 k1 k2 k3 k4, W.cells? 0 (a.add (i * 5)) 5 = some [k0, k1, k2, k3, k4] ∧ FormAt (fun b => b < W.heap.size) W f k0 k1 k2 k3 k4 := by
        intro i hi
        have he := hel i hi
        rw [Tryz.cellsForm, List.getElem?_eq_getElem (by omega)] at he
        obtain ⟨cs', h1, h2⟩ := Option.bind_eq_some_iff.1 he
        obtain ⟨k0, k1, k2, k3, k4, f, rfl, hf'⟩ := ih n2 (by omega) h2
        exact ⟨f, k0, k1, k2, k3, k4, h1, hf'⟩
      obtain ⟨F, hF⟩ := @Go.Deep.choose_lt Fm ⟨Fm.no⟩ _ _ hall
      have hl2 : ((List.range len).map F).length = len := by simp
      refine ⟨(List.range len).map F, some a, cap, by rw [hl2]; exact hcs, by rw [hl2]; omega, ?_⟩
      by_cases h0 : len = 0
      · left; subst h0; rfl
      · right
        obtain ⟨b, o, spot⟩ := a
        obtain ⟨k0, k1, k2, k3, k4, hc0, -⟩ := hF 0 (by omega)
        have hq := (cells5 hc0).1
        have hspot : spot = none := by simpa [Addr.add] using World.cell?_spot hq
        subst hspot
        refine ⟨b, o, rfl, ?_, RowAt.mk _ fun i hi => ?_⟩
        · have := cell_lt hq
          simpa [Addr.add] using this
        · rw [hl2] at hi
          obtain ⟨k0, k1, k2, k3, k4, hci, hfi⟩ := hF i hi
          obtain ⟨q0, q1, q2, q3, q4⟩ := cells5 hci
          rw [Go.Deep.add_add, Go.WideShapes.add_plain] at q0 q1 q2 q3 q4
          refine ⟨k0, k1, k2, k3, k4, q0, q1, q2, q3, q4, ?_⟩
          simpa using hfi
  exact ⟨_, _, _, _, _, .mk s t sc fr ks, rfl, (formAt_iff _ _ _ _ _ _ _ _).2 ⟨rfl, rfl, ht, hsc, rfl, hks⟩⟩
end
end Go.Proofs.YthlacjabelpehaaGreatDoor

namespace Go.Proofs.YthlacjabelpehaaGreatDoor
open Go.ChangeShapes Go.WideShapes Go.ChangeAt Go.RowKit Go.Siskin

section
variable {H : Type} {enc : TypeId × Value → H} {W : World} {spare : Nat → Bool} {held : Bool}

theorem wf_le {n : Int} (h : (Lit.int .i64 n).wf = true) : n ≤ 9223372036854775807 := by
  simp only [Lit.wf, Bool.and_eq_true, decide_eq_true_eq] at h
  exact Int.le_trans h.2 (by decide)

theorem intsF_of {fuel : Nat} {v : Value} {x : DataW H × List MemPlace} (h : DataW.trod enc Tryz.prog W 0 spare held fuel 22 [v] = some x) : ∃ xs : List Int, IntsAt (fun b => b < W.heap.size) W v xs ∧ ∀ y ∈ xs, y ≤ 9223372036854775807 := by
  rcases open_ints Tryz.underlying22 Tryz.underlying3 Tryz.cellsInt h with ⟨hcs, _⟩ | ⟨a, len, cap, zs, hcs, _, hl, hm, hz, _, hcell, hwf⟩
  · simp only [List.cons.injEq, and_true] at hcs
    exact ⟨[], ⟨none, 0, hcs, ⟨Nat.zero_le _, Nat.le_refl _⟩, Or.inl rfl⟩, fun y hy => by simp at hy⟩
  · simp only [List.cons.injEq, and_true] at hcs
    have hlen : len ≤ zs.length := by rw [hz]; split <;> omega
    have hl2 : (zs.take len).length = len := by rw [List.length_take]; omega
    refine ⟨zs.take len, ⟨some a, cap, by rw [hl2]; exact hcs, ⟨by rw [hl2]; omega, by rw [hl2]; omega⟩, ?_⟩, fun y hy => wf_le (hwf y (List.mem_of_mem_take hy))⟩
    by_cases h0 : len = 0
    · left; subst h0; simp
    · right
      obtain ⟨b, o, rfl, hc⟩ := ints_at hcell (by omega)
      refine ⟨b, o, rfl, ?_, fun i hi => ?_⟩
      · exact cell_lt (hc 0 (by omega))
      · rw [hl2] at hi
        rw [hc i (by omega)]
        simp [List.getD_eq_getElem?_getD, hi]

/-- A row of forms, if each form of less fuel is read so. -/
theorem formsF_of {n : Nat} (ih : ∀ m, m < n → ∀ {cs : List Value} {x : DataW H × List MemPlace}, DataW.trod enc Tryz.prog W 0 spare held m 25 cs = some x →
    ∃ (c0 c1 c2 c3 c4 : Value) (f : Fm), cs = [c0, c1, c2, c3, c4] ∧ FormAt (fun b => b < W.heap.size) W f c0 c1 c2 c3 c4 ∧ FitF f) {v : Value} {x : DataW H × List MemPlace} (g4 : DataW.trod enc Tryz.prog W 0 spare held n 23 [v] = some x) :
    ∃ ks : List Fm, FormsAt (fun b => b < W.heap.size) W v ks ∧ ∀ g ∈ ks, FitF g := by
  rcases DataW.trod_slice Tryz.underlying23 g4 with ⟨hcs, -⟩ | ⟨a, len, cap, elems, rest, n2, hn2, hcs, -, -, hlc, hm, hlen, hel, -⟩
  · simp only [List.cons.injEq, and_true] at hcs
    exact ⟨[], ⟨none, 0, hcs, Nat.zero_le _, Or.inl rfl⟩, fun g hg => by simp at hg⟩
  · simp only [List.cons.injEq, and_true] at hcs
    have hall : ∀ i, i < len → ∃ f : Fm, ∃ k0 k1 k2 k3 k4, W.cells? 0 (a.add (i * 5)) 5 = some [k0, k1, k2, k3, k4] ∧ FormAt (fun b => b < W.heap.size) W f k0 k1 k2 k3 k4 ∧ FitF f := by
      intro i hi
      have he := hel i hi
      rw [Tryz.cellsForm, List.getElem?_eq_getElem (by omega)] at he
      obtain ⟨cs', h1, h2⟩ := Option.bind_eq_some_iff.1 he
      obtain ⟨k0, k1, k2, k3, k4, f, rfl, hf'⟩ := ih n2 (by omega) h2
      exact ⟨f, k0, k1, k2, k3, k4, h1, hf'⟩
    obtain ⟨F, hF⟩ := @Go.Deep.choose_lt Fm ⟨Fm.no⟩ _ _ hall
    have hl2 : ((List.range len).map F).length = len := by simp
    refine ⟨(List.range len).map F, ⟨some a, cap, by rw [hl2]; exact hcs, by rw [hl2]; omega, ?_⟩, fun g hg => ?_⟩
    · by_cases h0 : len = 0
      · left; subst h0; rfl
      · right
        obtain ⟨b, o, spot⟩ := a
        obtain ⟨k0, k1, k2, k3, k4, hc0, -⟩ := hF 0 (by omega)
        have hq := (cells5 hc0).1
        have hspot : spot = none := by simpa [Addr.add] using World.cell?_spot hq
        subst hspot
        refine ⟨b, o, rfl, ?_, RowAt.mk _ fun i hi => ?_⟩
        · have := cell_lt hq
          simpa [Addr.add] using this
        · rw [hl2] at hi
          obtain ⟨k0, k1, k2, k3, k4, hci, hfi, -⟩ := hF i hi
          obtain ⟨q0, q1, q2, q3, q4⟩ := cells5 hci
          rw [Go.Deep.add_add, Go.WideShapes.add_plain] at q0 q1 q2 q3 q4
          refine ⟨k0, k1, k2, k3, k4, q0, q1, q2, q3, q4, ?_⟩
          simpa using hfi
    · obtain ⟨i, hi, rfl⟩ := List.mem_map.1 hg
      obtain ⟨k0, k1, k2, k3, k4, -, -, hfit⟩ := hF i (List.mem_range.1 hi)
      exact hfit

theorem formF_of : ∀ (fuel : Nat) {cs : List Value} {x : DataW H × List MemPlace}, DataW.trod enc Tryz.prog W 0 spare held fuel 25 cs = some x →
    ∃ (c0 c1 c2 c3 c4 : Value) (f : Fm), cs = [c0, c1, c2, c3, c4] ∧ FormAt (fun b => b < W.heap.size) W f c0 c1 c2 c3 c4 ∧ FitF f := by
  intro fuel
  induction fuel using Nat.strongRecOn with
  | ind fuel ih =>
  intro cs x h
  obtain ⟨xs, n, hn, -, hl, hxs, hf⟩ := DataW.trod_struct Tryz.underlying25 h
  rw [Tryz.cellsForm] at hl
  obtain ⟨c0, c1, c2, c3, c4, rfl⟩ := list5 hl
  have hx5 : xs.length = 5 := hxs
  obtain ⟨x0, x1, x2, x3, x4, rfl⟩ := list5 hx5
  have g0 : DataW.trod enc Tryz.prog W 0 spare held n 3 [c0] = some x0 := by simpa [Tryz.cellsInt] using hf 0 _ rfl
  have g1 : DataW.trod enc Tryz.prog W 0 spare held n 9 [c1] = some x1 := by simpa [Tryz.cellsStr] using hf 1 _ rfl
  have g2 : DataW.trod enc Tryz.prog W 0 spare held n 22 [c2] = some x2 := by simpa [Tryz.cellsInts] using hf 2 _ rfl
  have g3 : DataW.trod enc Tryz.prog W 0 spare held n 3 [c3] = some x3 := by simpa [Tryz.cellsInt] using hf 3 _ rfl
  have g4 : DataW.trod enc Tryz.prog W 0 spare held n 23 [c4] = some x4 := by simpa [Tryz.cellsForms] using hf 4 _ rfl
  obtain ⟨s, e0, -, -⟩ := DataW.trod_int Tryz.underlying3 g0
  obtain ⟨t, e1, -, ht⟩ := DataW.trod_string Tryz.underlying9 g1
  obtain ⟨sc, hsc, hfit⟩ := intsF_of g2
  obtain ⟨fr, e3, -, -⟩ := DataW.trod_int Tryz.underlying3 g3
  simp only [List.cons.injEq, and_true] at e0 e1 e3
  subst e0 e1 e3
  obtain ⟨ks, hks, hkf⟩ := formsF_of (n := n) (fun m hm => ih m (by omega)) g4
  exact ⟨_, _, _, _, _, .mk s t sc fr ks, rfl, (formAt_iff _ _ _ _ _ _ _ _).2 ⟨rfl, rfl, ht, hsc, rfl, hks⟩, (fitF_iff _).2 ⟨hfit, hkf⟩⟩
end
end Go.Proofs.YthlacjabelpehaaGreatDoor
