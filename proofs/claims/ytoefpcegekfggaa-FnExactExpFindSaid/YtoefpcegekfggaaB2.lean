/- The law's toExpBind and toExpBindS copy binds into new memory. Condition: the binds lie in memory, and cost at most 1048576. -/
import Derived.Test.YtoefpcegekfggaaB1
namespace Go.Proofs.Ytoefpcegekfggaa
open Go.RowKit Go.Siskin

theorem Try.infoBind : (Try.prog.info? 65).map (fun i => (i.zero, i.size, i.bytes)) = some (some (.agg #[.string ⟨#[]⟩, .slice none 0 0, .string ⟨#[]⟩]), 3, 56) := by kernel_rfl

set_option maxHeartbeats 1000000 in
theorem toBind_any (d : Bd) (B : Nat → Prop) (w : World) (c0 c1 c2 : Value) (hA : BindAt B w d c0 c1 c2) (hB : ∀ b, B b → b < w.heap.size) (h0 : d.cost ≤ 1048576) :
    Calls Try.prog 32 #[.agg #[c0, c1, c2]] w fun e w' => ∃ d0 d1 d2, e = .returned (.agg #[d0, d1, d2]) ∧ BindAt (Fresh w w') w' d d0 d1 d2 ∧ Below w.heap.size w w' := by
  obtain ⟨rfl, ht, h2, rfl, hn⟩ := hA
  have hl : d.scopes.length ≤ 1048576 := by unfold Bd.cost at h0; omega
  have H2 := hid h2
  have HR := hid hB
  clear h2 hB
  go_enter Try.func32, Try.ntmps32
  go_wp2_with fail
  refine (toIntS_any B _ d.scopes _ (H2.out.keep (((((SameOn.refl _ _).alloc HR.out _).alloc (fun b hb => by have := HR.out b hb; simp; omega) _).alloc (fun b hb => by have := HR.out b hb; simp; omega) _))) (fun b hb => by have := HR.out b hb; simp; omega) hl).mono ?_
  rintro e w1 ⟨v2, rfl, hi1, hb1⟩
  obtain ⟨a2, k2, rfl, -⟩ := id hi1
  obtain ⟨hc1, hf1⟩ := bcell hb1
  have hz1 : w.heap.size + 2 < w1.heap.size := by have := hb1.size; simp at this; omega
  have hz1a : w.heap.size + 1 < w1.heap.size := by omega
  have hz1b : w.heap.size < w1.heap.size := by omega
  have HI1 := hid hi1
  have HB1 := hid hb1
  clear hi1 hb1
  go_wp2_with fail
  refine bodyPost_ret (v := .agg #[.string d.text, .slice a2 d.scopes.length k2, .string d.name]) (by simp [results, Try.results32, go_sem, hc1]) rfl ⟨_, _, _, rfl, ?_, ?_⟩
  · refine ⟨rfl, ht, (HI1.out.keep ?_).mono ?_, rfl, hn⟩
    · refine (((((SameOn.refl _ _).setCell ?_ _).setCell ?_ _).setCell ?_ _).setCell ?_ _).setCell ?_ _
      all_goals (intro h; have := h.1; simp at this; omega)
    · intro b h; have h1 := h.1; have h2 := h.2; exact ⟨by simp at h1; omega, by simp; omega⟩
  · refine (((((((((Below.refl _ _).alloc (Nat.le_refl _) _).alloc (by simp) _).alloc (by simp; omega) _).trans (HB1.out.mono (by simp; omega))).setCell ?_ _).setCell ?_ _).setCell ?_ _).setCell ?_ _).setCell ?_ _
    all_goals (simp; try omega)

/-- The first k binds stand in a block of the call's own; what they lead to lies behind it. -/
def GotB (g : Nat) (wr : World) (cs : Array Value) (ks : List Bd) (k : Nat) : Prop :=
  ∀ j (hj : j < ks.length), j < k → ∃ d0 d1 d2, cs[j * 3]? = some d0 ∧ cs[j * 3 + 1]? = some d1 ∧ cs[j * 3 + 2]? = some d2 ∧ BindAt (fun b => g < b ∧ b < wr.heap.size) wr ks[j] d0 d1 d2
/-- Three cells in a row. -/
def put3 (w : World) (g o : Nat) (d0 d1 d2 : Value) : World := ((w.setCell ⟨g, o, none⟩ d0).setCell ⟨g, o + 1, none⟩ d1).setCell ⟨g, o + 2, none⟩ d2
def arr3 (cs : Array Value) (o : Nat) (d0 d1 d2 : Value) : Array Value := ((cs.setIfInBounds o d0).setIfInBounds (o + 1) d1).setIfInBounds (o + 2) d2
theorem put3_own {w : World} {g : Nat} {e : TypeId} {cs : Array Value} (h : Own w g e cs) (o : Nat) (d0 d1 d2 : Value) : Own (put3 w g o d0 d1 d2) g e (arr3 cs o d0 d1 d2) := ((h.set o d0).set (o + 1) d1).set (o + 2) d2
theorem put3_size (w : World) (g o : Nat) (d0 d1 d2 : Value) : (put3 w g o d0 d1 d2).heap.size = w.heap.size := by simp [put3]
theorem put3_same {R : Nat → Prop} {a w : World} (h : SameOn R a w) {g : Nat} (hg : ¬ R g) (o : Nat) (d0 d1 d2 : Value) : SameOn R a (put3 w g o d0 d1 d2) := ((h.setCell hg _).setCell hg _).setCell hg _
theorem put3_below {B : Nat} {a w : World} (h : Below B a w) {g : Nat} (hg : B ≤ g) (o : Nat) (d0 d1 d2 : Value) : Below B a (put3 w g o d0 d1 d2) := ((h.setCell hg _).setCell hg _).setCell hg _
theorem arr3_size (cs : Array Value) (o : Nat) (d0 d1 d2 : Value) : (arr3 cs o d0 d1 d2).size = cs.size := by simp [arr3]
theorem arr3_out {cs : Array Value} {o : Nat} (d0 d1 d2 : Value) {i : Nat} (h : i < o ∨ o + 3 ≤ i) : (arr3 cs o d0 d1 d2)[i]? = cs[i]? := by
  unfold arr3
  rw [Array.getElem?_setIfInBounds, if_neg (by omega), Array.getElem?_setIfInBounds, if_neg (by omega), Array.getElem?_setIfInBounds, if_neg (by omega)]
theorem arr3_in {cs : Array Value} {o : Nat} (d0 d1 d2 : Value) (h : o + 3 ≤ cs.size) :
    (arr3 cs o d0 d1 d2)[o]? = some d0 ∧ (arr3 cs o d0 d1 d2)[o + 1]? = some d1 ∧ (arr3 cs o d0 d1 d2)[o + 2]? = some d2 := by
  unfold arr3
  refine ⟨?_, ?_, ?_⟩ <;> simp [Array.getElem?_setIfInBounds] <;> omega
theorem gotB_step {g k : Nat} {wr w1 : World} {cs : Array Value} {ks : List Bd} {d0 d1 d2 : Value} (hcs : cs.size = ks.length * 3) (hlt : k < ks.length) (hg : g < wr.heap.size) (hb : Below wr.heap.size wr w1)
    (hf : BindAt (Fresh wr w1) w1 ks[k] d0 d1 d2) (got : GotB g wr cs ks k) : GotB g (put3 w1 g (k * 3) d0 d1 d2) (arr3 cs (k * 3) d0 d1 d2) ks (k + 1) := by
  intro j hj hjk
  have hs := hb.size
  by_cases e : j = k
  · subst e
    obtain ⟨e0, e1, e2⟩ := arr3_in (cs := cs) (o := j * 3) d0 d1 d2 (by omega)
    refine ⟨d0, d1, d2, e0, e1, e2, BindAt.mono ?_ (BindAt.keep (put3_same (SameOn.refl _ _) ?_ _ _ _ _) hf)⟩
    · intro b h; have h1 := h.1; have h2 := h.2; rw [put3_size]; exact ⟨by omega, h2⟩
    · intro h; have h1 := h.1; omega
  · obtain ⟨x0, x1, x2, e0, e1, e2, hx⟩ := got j hj (by omega)
    refine ⟨x0, x1, x2, ?_, ?_, ?_, BindAt.mono ?_ (BindAt.keep (put3_same ((SameOn.refl _ _).below hb ?_) ?_ _ _ _ _) hx)⟩
    · rw [arr3_out _ _ _ (by omega)]; exact e0
    · rw [arr3_out _ _ _ (by omega)]; exact e1
    · rw [arr3_out _ _ _ (by omega)]; exact e2
    · intro b h; rw [put3_size]; exact ⟨h.1, by omega⟩
    · intro b h; exact h.2
    · intro h; omega

set_option maxHeartbeats 1000000 in
theorem toBinds_any (ks : List Bd) (B : Nat → Prop) (w : World) (v : Value) (hv : BindsAt B w v ks) (hB : ∀ b, B b → b < w.heap.size) (hn : ks.length + Bd.costs ks ≤ 1048576) :
    Calls Try.prog 15 #[v] w fun e w' => ∃ u, e = .returned u ∧ BindsAt (Fresh w w') w' u ks ∧ Below w.heap.size w w' := by
  obtain ⟨a, ca, rfl, hla, ha⟩ := hv
  unfold maxLen at hla
  obtain ⟨i, hi, hz0, hz1, hz2⟩ := info_parts Try.infoBind
  have Hi := hid hi
  have Hz0 := hid hz0
  have Hz1 := hid hz1
  have Hz2 := hid hz2
  have HR := hid hB
  clear hi hz0 hz1 hz2 hB
  have hn1 : ks.length ≤ 1048576 := by omega
  go_enter Try.func15, Try.ntmps15
  go_wp2_with (at_make; refine wpList_make_new _ rfl _ _ 39 rfl 65 i (.agg #[.string ⟨#[]⟩, .slice none 0 0, .string ⟨#[]⟩]) 3 Try.underlying39 Hi.out Hz0.out Hz1.out .i64 .i64 ks.length rfl rfl (by rw [Hz2.out]; omega) (by unfold maxLen; omega) ?_)
  go_loopw [4] (fun i wr => ∃ k : Nat, k ≤ ks.length ∧ i = .int .i64 k ∧ Hid (∃ cs : Array Value, Own wr w.heap.size 65 cs ∧ cs.size = ks.length * 3 ∧ GotB w.heap.size wr cs ks k ∧ Below w.heap.size w wr)) (fun i _ => ks.length - (intOf i).toNat)
  case atStart => exact ⟨0, Nat.zero_le _, rfl, _, own_new _ _ _, size_madeCells _ _, fun j _ hj => absurd hj (by omega), (Below.refl _ _).alloc (Nat.le_refl _) _⟩
  case round =>
    obtain ⟨k, hk, rfl, HA⟩ := hrel
    obtain ⟨cs, ho, hcs, hgot, hbel⟩ := HA.out
    have HO := hid ho
    have HG := hid hgot
    have HB := hid hbel
    clear ho hgot hbel HA
    by_cases hlt : k < ks.length
    · rcases ha with ha | ⟨ba, oa, rfl, hb, ha⟩
      · subst ha; simp at hlt
      obtain ⟨c0, c1, c2, g0, g1, g2, hf⟩ := (ha.keep (HB.out.on HR.out) hb) k hlt
      have HC := hid (toBind_any ks[k] B wr c0 c1 c2 hf (fun b hb => by have := HR.out b hb; have := HB.out.size; omega) (by have := Bd.costs_get ks k hlt; omega))
      clear ha hf
      go_wp2_with fail
      refine HC.out.mono ?_
      rintro e w1 ⟨d0, d1, d2, rfl, hf, hw⟩
      have HF := hid hf
      obtain ⟨rfl, -, h2, rfl, -⟩ := hf
      obtain ⟨a2, k2, rfl, -⟩ := h2
      have ho1 := HO.out.keep hw HO.out.lt
      have q0 := ho1.cell (k * 3)
      have q1 := ho1.cell (k * 3 + 1)
      have q2 := ho1.cell (k * 3 + 2)
      rw [Array.getElem?_eq_getElem (by omega)] at q0 q1 q2
      have f0 := ho1.frozen (k * 3)
      have f1 := ho1.frozen (k * 3 + 1)
      have f2 := ho1.frozen (k * 3 + 2)
      have HW := hid hw
      have HO1 := hid ho1
      clear ho1 hw
      go_wp2_with fail
      have hsz := HB.out.size
      exact ⟨⟨k + 1, by omega, by go_num, _, put3_own HO1.out (k * 3) _ _ _, by rw [arr3_size, hcs], gotB_step hcs hlt HO.out.lt HW.out HF.out HG.out, put3_below (HB.out.trans (HW.out.mono hsz)) (Nat.le_refl _) _ _ _ _⟩, by simp [intOf]; omega⟩
    · go_wp2_with fail
      go_ret
      refine ⟨_, rfl, ?_, HB.out⟩
      refine ⟨_, _, rfl, by unfold maxLen; omega, Or.inr ⟨w.heap.size, 0, rfl, ⟨Nat.le_refl _, HO.out.lt⟩, fun j hj => ?_⟩⟩
      obtain ⟨x0, x1, x2, e0, e1, e2, hx⟩ := HG.out j hj (by omega)
      rw [Nat.zero_add]
      refine ⟨x0, x1, x2, (HO.out.cell _).trans e0, (HO.out.cell _).trans e1, (HO.out.cell _).trans e2, BindAt.mono ?_ hx⟩
      intro b h; exact ⟨by have := h.1; omega, h.2⟩

end Go.Proofs.Ytoefpcegekfggaa
