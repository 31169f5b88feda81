/- The law's toExpForm and toExpFormS copy forms into new memory. Condition: the forms lie in memory, and cost at most 1048576. -/
import Derived.Test.YtoefpcegekfggaaF2
namespace Go.Proofs.Ytoefpcegekfggaa
open Go.RowKit Go.Siskin

/-- The first k forms stand in a block of the call's own; what they lead to lies behind it. -/
def Got (g : Nat) (wr : World) (cs : Array Value) (ks : List Fm) (k : Nat) : Prop :=
  ∀ j (hj : j < ks.length), j < k → ∃ d0 d1 d2 d3 d4, cs[j * 5]? = some d0 ∧ cs[j * 5 + 1]? = some d1 ∧ cs[j * 5 + 2]? = some d2 ∧ cs[j * 5 + 3]? = some d3 ∧ cs[j * 5 + 4]? = some d4 ∧ FormAt (fun b => g < b ∧ b < wr.heap.size) wr ks[j] d0 d1 d2 d3 d4

/-- Five cells in a row. -/
def put5 (w : World) (g o : Nat) (d0 d1 d2 d3 d4 : Value) : World :=
  ((((w.setCell ⟨g, o, none⟩ d0).setCell ⟨g, o + 1, none⟩ d1).setCell ⟨g, o + 2, none⟩ d2).setCell ⟨g, o + 3, none⟩ d3).setCell ⟨g, o + 4, none⟩ d4
def arr5 (cs : Array Value) (o : Nat) (d0 d1 d2 d3 d4 : Value) : Array Value :=
  ((((cs.setIfInBounds o d0).setIfInBounds (o + 1) d1).setIfInBounds (o + 2) d2).setIfInBounds (o + 3) d3).setIfInBounds (o + 4) d4

theorem put5_own {w : World} {g : Nat} {e : TypeId} {cs : Array Value} (h : Own w g e cs) (o : Nat) (d0 d1 d2 d3 d4 : Value) : Own (put5 w g o d0 d1 d2 d3 d4) g e (arr5 cs o d0 d1 d2 d3 d4) :=
  ((((h.set o d0).set (o + 1) d1).set (o + 2) d2).set (o + 3) d3).set (o + 4) d4
theorem put5_size (w : World) (g o : Nat) (d0 d1 d2 d3 d4 : Value) : (put5 w g o d0 d1 d2 d3 d4).heap.size = w.heap.size := by simp [put5]
theorem put5_same {R : Nat → Prop} {a w : World} (h : SameOn R a w) {g : Nat} (hg : ¬ R g) (o : Nat) (d0 d1 d2 d3 d4 : Value) : SameOn R a (put5 w g o d0 d1 d2 d3 d4) :=
  ((((h.setCell hg _).setCell hg _).setCell hg _).setCell hg _).setCell hg _
theorem put5_below {B : Nat} {a w : World} (h : Below B a w) {g : Nat} (hg : B ≤ g) (o : Nat) (d0 d1 d2 d3 d4 : Value) : Below B a (put5 w g o d0 d1 d2 d3 d4) :=
  ((((h.setCell hg _).setCell hg _).setCell hg _).setCell hg _).setCell hg _
theorem arr5_size (cs : Array Value) (o : Nat) (d0 d1 d2 d3 d4 : Value) : (arr5 cs o d0 d1 d2 d3 d4).size = cs.size := by simp [arr5]
theorem arr5_out {cs : Array Value} {o : Nat} (d0 d1 d2 d3 d4 : Value) {i : Nat} (h : i < o ∨ o + 5 ≤ i) : (arr5 cs o d0 d1 d2 d3 d4)[i]? = cs[i]? := by
  unfold arr5
  rw [Array.getElem?_setIfInBounds, if_neg (by omega), Array.getElem?_setIfInBounds, if_neg (by omega), Array.getElem?_setIfInBounds, if_neg (by omega), Array.getElem?_setIfInBounds, if_neg (by omega), Array.getElem?_setIfInBounds, if_neg (by omega)]
theorem arr5_in {cs : Array Value} {o : Nat} (d0 d1 d2 d3 d4 : Value) (h : o + 5 ≤ cs.size) :
    (arr5 cs o d0 d1 d2 d3 d4)[o]? = some d0 ∧ (arr5 cs o d0 d1 d2 d3 d4)[o + 1]? = some d1 ∧ (arr5 cs o d0 d1 d2 d3 d4)[o + 2]? = some d2 ∧ (arr5 cs o d0 d1 d2 d3 d4)[o + 3]? = some d3 ∧ (arr5 cs o d0 d1 d2 d3 d4)[o + 4]? = some d4 := by
  unfold arr5
  refine ⟨?_, ?_, ?_, ?_, ?_⟩ <;> simp [Array.getElem?_setIfInBounds] <;> omega

theorem got_step {g k : Nat} {wr w1 : World} {cs : Array Value} {ks : List Fm} {d0 d1 d2 d3 d4 : Value} (hcs : cs.size = ks.length * 5) (hlt : k < ks.length) (hg : g < wr.heap.size) (hb : Below wr.heap.size wr w1)
    (hf : FormAt (Fresh wr w1) w1 ks[k] d0 d1 d2 d3 d4) (got : Got g wr cs ks k) : Got g (put5 w1 g (k * 5) d0 d1 d2 d3 d4) (arr5 cs (k * 5) d0 d1 d2 d3 d4) ks (k + 1) := by
  intro j hj hjk
  have hs := hb.size
  by_cases e : j = k
  · subst e
    obtain ⟨e0, e1, e2, e3, e4⟩ := arr5_in (cs := cs) (o := j * 5) d0 d1 d2 d3 d4 (by omega)
    refine ⟨d0, d1, d2, d3, d4, e0, e1, e2, e3, e4, FormAt.mono ?_ _ (FormAt.keep (put5_same (SameOn.refl _ _) ?_ _ _ _ _ _ _) _ hf)⟩
    · intro b h; have h1 := h.1; have h2 := h.2; rw [put5_size]; exact ⟨by omega, h2⟩
    · intro h; have h1 := h.1; omega
  · obtain ⟨x0, x1, x2, x3, x4, e0, e1, e2, e3, e4, hx⟩ := got j hj (by omega)
    refine ⟨x0, x1, x2, x3, x4, ?_, ?_, ?_, ?_, ?_, FormAt.mono ?_ _ (FormAt.keep (put5_same ((SameOn.refl _ _).below hb ?_) ?_ _ _ _ _ _ _) _ hx)⟩
    · rw [arr5_out _ _ _ _ _ (by omega)]; exact e0
    · rw [arr5_out _ _ _ _ _ (by omega)]; exact e1
    · rw [arr5_out _ _ _ _ _ (by omega)]; exact e2
    · rw [arr5_out _ _ _ _ _ (by omega)]; exact e3
    · rw [arr5_out _ _ _ _ _ (by omega)]; exact e4
    · intro b h; rw [put5_size]; exact ⟨h.1, by omega⟩
    · intro b h; exact h.2
    · intro h; omega

set_option maxHeartbeats 1000000 in
theorem toForms_of (n : Nat) (ih : ToForm n) : ToForms n := by
  intro ks hks B w v hv hB hn
  obtain ⟨a, ca, rfl, hla, ha⟩ := hv
  unfold maxLen at hla
  obtain ⟨i, hi, hz0, hz1, hz2⟩ := info_parts Try.infoForm
  have Hi := hid hi
  have Hz0 := hid hz0
  have Hz1 := hid hz1
  have Hz2 := hid hz2
  have HI := hid ih
  have HR := hid hB
  clear hi hz0 hz1 hz2 ih hB
  have hn1 : ks.length ≤ 1048576 := by omega
  go_enter Try.func22, Try.ntmps22
  go_wp2_with (at_make; refine wpList_make_new _ rfl _ _ 28 rfl 30 i (.agg #[.int .i64 0, .string ⟨#[]⟩, .slice none 0 0, .int .i64 0, .slice none 0 0]) 5 Try.underlying28 Hi.out Hz0.out Hz1.out .i64 .i64 ks.length rfl rfl (by rw [Hz2.out]; omega) (by unfold maxLen; omega) ?_)
  go_loopw [4] (fun i wr => ∃ k : Nat, k ≤ ks.length ∧ i = .int .i64 k ∧ Hid (∃ cs : Array Value, Own wr w.heap.size 30 cs ∧ cs.size = ks.length * 5 ∧ Got w.heap.size wr cs ks k ∧ Below w.heap.size w wr)) (fun i _ => ks.length - (intOf i).toNat)
  case atStart => exact ⟨0, Nat.zero_le _, rfl, _, own_new _ _ _, size_madeCells _ _, fun j _ hj => absurd hj (by omega), (Below.refl _ _).alloc (Nat.le_refl _) _⟩
  case round =>
    obtain ⟨k, hk, rfl, HA⟩ := hrel
    obtain ⟨cs, ho, hcs, hgot, hbel⟩ := HA.out
    have HO := hid ho
    have HG := hid hgot
    have HB := hid hbel
    clear ho hgot hbel HA
    by_cases hlt : k < ks.length
    · rcases ha with ha | ⟨ba, oa, rfl, hb, ha⟩
      · subst ha; simp at hlt
      have hrow := RowAt.keep (HB.out.on HR.out) hb ks ha
      obtain ⟨c0, c1, c2, c3, c4, g0, g1, g2, g3, g4, hf⟩ := RowAt.get ks hrow k hlt
      have HC := hid (HI.out ks[k] (Nat.le_trans (Fm.szs_get ks k hlt) hks) B wr c0 c1 c2 c3 c4 hf (fun b hb => by have := HR.out b hb; have := HB.out.size; omega) (by have := Fm.costs_get ks k hlt; omega))
      clear ha hf hrow HI
      go_wp2_with fail
      refine HC.out.mono ?_
      rintro e w1 ⟨d0, d1, d2, d3, d4, rfl, hf, hw⟩
      have HF := hid hf
      obtain ⟨rfl, rfl, -, h2, rfl, h4⟩ := (formAt_iff _ _ _ _ _ _ _ _).1 hf
      obtain ⟨a2, k2, rfl, -⟩ := h2
      obtain ⟨a4, k4, rfl, -⟩ := h4
      have ho1 := HO.out.keep hw HO.out.lt
      have q0 := ho1.cell (k * 5)
      have q1 := ho1.cell (k * 5 + 1)
      have q2 := ho1.cell (k * 5 + 2)
      have q3 := ho1.cell (k * 5 + 3)
      have q4 := ho1.cell (k * 5 + 4)
      rw [Array.getElem?_eq_getElem (by omega)] at q0 q1 q2 q3 q4
      have f0 := ho1.frozen (k * 5)
      have f1 := ho1.frozen (k * 5 + 1)
      have f2 := ho1.frozen (k * 5 + 2)
      have f3 := ho1.frozen (k * 5 + 3)
      have f4 := ho1.frozen (k * 5 + 4)
      have HW := hid hw
      have HO1 := hid ho1
      clear ho1 hf hw
      go_wp2_with fail
      have hsz := HB.out.size
      exact ⟨⟨k + 1, by omega, by go_num, _, put5_own HO1.out (k * 5) _ _ _ _ _, by rw [arr5_size, hcs], got_step hcs hlt HO.out.lt HW.out HF.out HG.out, put5_below (HB.out.trans (HW.out.mono hsz)) (Nat.le_refl _) _ _ _ _ _ _⟩, by simp [intOf]; omega⟩
    · go_wp2_with fail
      go_ret
      refine ⟨_, rfl, ?_, HB.out⟩
      refine ⟨_, _, rfl, by unfold maxLen; omega, Or.inr ⟨w.heap.size, 0, rfl, ⟨Nat.le_refl _, HO.out.lt⟩, RowAt.mk ks fun j hj => ?_⟩⟩
      obtain ⟨x0, x1, x2, x3, x4, e0, e1, e2, e3, e4, hx⟩ := HG.out j hj (by omega)
      rw [Nat.zero_add]
      refine ⟨x0, x1, x2, x3, x4, (HO.out.cell _).trans e0, (HO.out.cell _).trans e1, (HO.out.cell _).trans e2, (HO.out.cell _).trans e3, (HO.out.cell _).trans e4, FormAt.mono ?_ _ hx⟩
      intro b h; exact ⟨by have := h.1; omega, h.2⟩

theorem toForm_all : ∀ n, ToForm n ∧ ToForms n
  | 0 => by
    have h : ToForm 0 := fun f hf => by have := Fm.sz_kids f; omega
    exact ⟨h, toForms_of 0 h⟩
  | n + 1 => by
    have h := toForm_of n (toForm_all n).2
    exact ⟨h, toForms_of (n + 1) h⟩

/-- The law's copy of a form: the same form, in new memory. -/
theorem toExpForm_any (f : Fm) (B : Nat → Prop) (w : World) (c0 c1 c2 c3 c4 : Value) (h : FormAt B w f c0 c1 c2 c3 c4) (hB : ∀ b, B b → b < w.heap.size) (h0 : f.cost ≤ 1048576) :
    Calls Try.prog 8 #[.agg #[c0, c1, c2, c3, c4]] w fun e w' => ∃ d0 d1 d2 d3 d4, e = .returned (.agg #[d0, d1, d2, d3, d4]) ∧ FormAt (Fresh w w') w' f d0 d1 d2 d3 d4 ∧ Below w.heap.size w w' :=
  (toForm_all f.sz).1 f (Nat.le_refl _) B w c0 c1 c2 c3 c4 h hB h0

end Go.Proofs.Ytoefpcegekfggaa
