/-
  The drawing of a form and a scope, DrawExpWith. Condition: the code's bytes lie in memory as BytesAt says.
  The law's toExpForm copies a form into new memory, if toExpFormS does so of its kids. Condition: the form lies in memory, and costs at most 1048576.
  The law's toExpForm and toExpFormS copy forms into new memory. Condition: the forms lie in memory, and cost at most 1048576.
  The law's eqExpForm and eqExpFormS return true of two places that hold one form. Condition: both lie in memory as FormAt says.
  The law's wxInts, wxForm and wxForms return true of two places that hold one form. Condition: both lie in memory as FormAt says.
  A row of forms in which one is put in the place of another. No program's step is walked here.
-/
import Derived.Test.YtjbejnibiebjgaaGreatPart16
import Derived.Test.YtjbejnibiebjgaaGreatPart6
import Derived.Deep.RegionWith
import Derived.Deep.RegionHeld3
import Derived.Test.YtjbejnibiebjgaaGreatPart13
namespace Go.Proofs.YtjbejnibiebjgaaGreat
open Go.RowKit Go.Siskin

theorem Picked.under {rb : Nat} {v : Value} {w w' : World} {q N : Nat} (h : Picked rb v w w' q) (hr : N ≤ rb) (hs : N ≤ w.heap.size) : Below N w w' :=
  ⟨h.1.os, h.1.tape, h.1.output, h.1.size, fun i hi => h.1.block i (by omega) fun e => by cases e; omega⟩

/-- What was drawn: a form, and a number of -1 to 3. -/
def DrawnWith (w : World) (e : Ending) (w' : World) : Prop := ∃ (c0 c1 c2 c3 c4 : Value) (f : Fm) (k : Nat), e = .returned (.tuple #[.agg #[c0, c1, c2, c3, c4], .int .i64 ((k : Int) - 1)]) ∧ k < 5 ∧ FormAt (Fresh w w') w' f c0 c1 c2 c3 c4 ∧ f.cost ≤ 1000 ∧ Below w.heap.size w w'

set_option maxRecDepth 20000 in
set_option maxHeartbeats 2000000 in
theorem drawWith_any (R : Nat → Prop) (w : World) (n : Nat) (v : Value) (hv : BytesAt R w v n) (hn : n ≤ 1048576) (hR : ∀ b, R b → b < w.heap.size) :
    Calls Tryz.prog 4 #[v] w (DrawnWith w) := by
  have HV := hid hv
  have HR := hid hR
  clear hv hR
  go_enter Tryz.func4, Tryz.ntmps4
  go_wp2_with fail
  refine (l1Open_any R (w.alloc _) n v (HV.out.keep ((SameOn.refl _ _).alloc HR.out _)) hn (fun b hb => by have := HR.out b hb; simp; omega)).mono ?_
  rintro e w1 ⟨n', v', rfl, hrd, hw1⟩
  simp only [World.size_alloc] at hrd hw1
  have HD1 := hid hrd
  have HB1 := hid ((own_new w #[.int .i64 0, .string ⟨#[]⟩, .slice none 0 0, .int .i64 0, .slice none 0 0] 26).keep hw1 (by omega))
  have HW1 := hid (((Below.refl w.heap.size w).alloc (Nat.le_refl _) _).trans (hw1.mono (by omega)))
  have hs1 : w.heap.size + 1 < w1.heap.size := hrd.own.lt
  clear hrd hw1
  simp only [World.size_alloc]
  go_wp2_with fail
  refine (l8Any_any HD1.out (by omega)).mono ?_
  rintro e w2 ⟨c0, c1, c2, c3, c4, f, q, rfl, hf, hcost, hq, hp2⟩
  have HF2 := hid (FormAt.mono (B' := fun b => w1.heap.size ≤ b ∧ b < w2.heap.size) (fun b hb => hb) _ hf)
  have HD2 := hid (HD1.out.picked hp2 (by omega))
  have HB2 := hid (HB1.out.picked hp2 (by omega))
  have HW2 := hid (HW1.out.trans (hp2.under (by omega) (by omega)))
  have hs2 := hp2.1.size
  obtain ⟨rfl, rfl, ht, h2, rfl, h4⟩ := (formAt_iff _ _ _ _ _ _ _ _).1 hf
  obtain ⟨x2, y2, rfl, -⟩ := h2
  obtain ⟨x4, y4, rfl, -⟩ := h4
  clear hf hp2
  go_wp2_with fail
  refine (pick_rd HD2.out 5 (by omega) (by omega)).mono ?_
  rintro e w3 ⟨m, hm, rfl, hp3, hz3⟩
  have HF3 := hid (FormAt.keep (q_keep (lo := w1.heap.size) (hi := w2.heap.size) hp3.1 (fun g e => by cases e; omega) (Nat.le_refl _)) f HF2.out)
  have HB3 := hid (HB2.out.picked hp3 (by omega))
  have HW3 := hid (HW2.out.trans (hp3.under (by omega) (by omega)))
  obtain ⟨⟨b0, b1, b2, b3, b4⟩, z0, z1, z2, z3, z4⟩ := own_ten HB3.out
  clear hp3
  go_wp2_with fail
  refine bodyPost_ret (v := .tuple #[.agg #[.int .i64 f.sort, .string f.text, .slice x2 f.scopes.length y2, .int .i64 f.frm, .slice x4 f.kids.length y4], .int .i64 ((m : Int) - 1)]) (by simp [results, Tryz.results4, go_sem, b0, b1, b2, b3, b4]) rfl ?_
  have hg := wr5_grown w3 w.heap.size (.int .i64 f.sort) (.string f.text) (.slice x2 f.scopes.length y2) (.int .i64 f.frm) (.slice x4 f.kids.length y4)
  have hz : (wr5 w3 w.heap.size (.int .i64 f.sort) (.string f.text) (.slice x2 f.scopes.length y2) (.int .i64 f.frm) (.slice x4 f.kids.length y4)).heap.size = w3.heap.size := wr5_size _ _ _ _ _ _ _
  refine ⟨_, _, _, _, _, f, m, rfl, hm, ?_, hcost, ?_⟩
  · exact FormAt.mono (fun b hb => ⟨by omega, by have h1 := hb.2; show b < (wr5 w3 w.heap.size _ _ _ _ _).heap.size; rw [hz]; omega⟩) _ (FormAt.keep (w' := wr5 w3 w.heap.size (.int .i64 f.sort) (.string f.text) (.slice x2 f.scopes.length y2) (.int .i64 f.frm) (.slice x4 f.kids.length y4)) (fun b hb => hg.block b (by omega) fun e => by cases e; omega) f HF3.out)
  · exact HW3.out.trans ⟨hg.os, hg.tape, hg.output, hg.size, fun i hi => hg.block i (by omega) fun e => by cases e; omega⟩
end Go.Proofs.YtjbejnibiebjgaaGreat

namespace Go.Proofs.YtjbejnibiebjgaaGreat
open Go.RowKit Go.Siskin

end Go.Proofs.YtjbejnibiebjgaaGreat

namespace Go.Proofs.YtjbejnibiebjgaaGreat
open Go.RowKit Go.Siskin

/-- The first k forms stand in a block of the call's own; what they lead to lies behind it. -/
def Got (g : Nat) (wr : World) (cs : Array Value) (ks : List Fm) (k : Nat) : Prop :=
  ∀ j (hj : j < ks.length), j < k → ∃ d0 d1 d2 d3 d4, cs[j * 5]? = some d0 ∧ cs[j * 5 + 1]? = some d1 ∧ cs[j * 5 + 2]? = some d2 ∧ cs[j * 5 + 3]? = some d3 ∧ cs[j * 5 + 4]? = some d4 ∧ FormAt (fun b => g < b ∧ b < wr.heap.size) wr ks[j] d0 d1 d2 d3 d4

/-- Five cells in a row. -/
def put5 (w : World) (g o : Nat) (d0 d1 d2 d3 d4 : Value) : World :=
  ((((w.setCell ⟨g, o, none⟩ d0).setCell ⟨g, o + 1, none⟩ d1).setCell ⟨g, o + 2, none⟩ d2).setCell ⟨g, o + 3, none⟩ d3).setCell ⟨g, o + 4, none⟩ d4
def arr5 (cs : Array Value) (o : Nat) (d0 d1 d2 d3 d4 : Value) : Array Value :=
  ((((cs.setIfInBounds o d0).setIfInBounds (o + 1) d1).setIfInBounds (o + 2) d2).setIfInBounds (o + 3) d3).setIfInBounds (o + 4) d4

theorem put5_own {w : World} {g : Nat} {e : TypeId} {cs : Array Value} (h : Own w g e cs) (o : Nat) (d0 d1 d2 d3 d4 : Value) : Own (put5 w g o d0 d1 d2 d3 d4) g e (arr5 cs o d0 d1 d2 d3 d4) :=
  ((((h.set o d0).set (o + 1) d1).set (o + 2) d2).set (o + 3) d3).set (o + 4) d4
theorem put5_size (w : World) (g o : Nat) (d0 d1 d2 d3 d4 : Value) : (put5 w g o d0 d1 d2 d3 d4).heap.size = w.heap.size := by simp [put5]
theorem put5_same {R : Nat → Prop} {a w : World} (h : SameOn R a w) {g : Nat} (hg : ¬ R g) (o : Nat) (d0 d1 d2 d3 d4 : Value) : SameOn R a (put5 w g o d0 d1 d2 d3 d4) :=
  ((((h.setCell hg _).setCell hg _).setCell hg _).setCell hg _).setCell hg _
theorem put5_below {B : Nat} {a w : World} (h : Below B a w) {g : Nat} (hg : B ≤ g) (o : Nat) (d0 d1 d2 d3 d4 : Value) : Below B a (put5 w g o d0 d1 d2 d3 d4) :=
  ((((h.setCell hg _).setCell hg _).setCell hg _).setCell hg _).setCell hg _
theorem arr5_size (cs : Array Value) (o : Nat) (d0 d1 d2 d3 d4 : Value) : (arr5 cs o d0 d1 d2 d3 d4).size = cs.size := by simp [arr5]
theorem arr5_out {cs : Array Value} {o : Nat} (d0 d1 d2 d3 d4 : Value) {i : Nat} (h : i < o ∨ o + 5 ≤ i) : (arr5 cs o d0 d1 d2 d3 d4)[i]? = cs[i]? := by
  unfold arr5
  rw [Array.getElem?_setIfInBounds, if_neg (by omega), Array.getElem?_setIfInBounds, if_neg (by omega), Array.getElem?_setIfInBounds, if_neg (by omega), Array.getElem?_setIfInBounds, if_neg (by omega), Array.getElem?_setIfInBounds, if_neg (by omega)]
theorem arr5_in {cs : Array Value} {o : Nat} (d0 d1 d2 d3 d4 : Value) (h : o + 5 ≤ cs.size) :
    (arr5 cs o d0 d1 d2 d3 d4)[o]? = some d0 ∧ (arr5 cs o d0 d1 d2 d3 d4)[o + 1]? = some d1 ∧ (arr5 cs o d0 d1 d2 d3 d4)[o + 2]? = some d2 ∧ (arr5 cs o d0 d1 d2 d3 d4)[o + 3]? = some d3 ∧ (arr5 cs o d0 d1 d2 d3 d4)[o + 4]? = some d4 := by
  unfold arr5
  refine ⟨?_, ?_, ?_, ?_, ?_⟩ <;> simp [Array.getElem?_setIfInBounds] <;> omega

theorem got_step {g k : Nat} {wr w1 : World} {cs : Array Value} {ks : List Fm} {d0 d1 d2 d3 d4 : Value} (hcs : cs.size = ks.length * 5) (hlt : k < ks.length) (hg : g < wr.heap.size) (hb : Below wr.heap.size wr w1)
    (hf : FormAt (Fresh wr w1) w1 ks[k] d0 d1 d2 d3 d4) (got : Got g wr cs ks k) : Got g (put5 w1 g (k * 5) d0 d1 d2 d3 d4) (arr5 cs (k * 5) d0 d1 d2 d3 d4) ks (k + 1) := by
  intro j hj hjk
  have hs := hb.size
  by_cases e : j = k
  · subst e
    obtain ⟨e0, e1, e2, e3, e4⟩ := arr5_in (cs := cs) (o := j * 5) d0 d1 d2 d3 d4 (by omega)
    refine ⟨d0, d1, d2, d3, d4, e0, e1, e2, e3, e4, FormAt.mono ?_ _ (FormAt.keep (put5_same (SameOn.refl _ _) ?_ _ _ _ _ _ _) _ hf)⟩
    · intro b h; have h1 := h.1; have h2 := h.2; rw [put5_size]; exact ⟨by omega, h2⟩
    · intro h; have h1 := h.1; omega
  · obtain ⟨x0, x1, x2, x3, x4, e0, e1, e2, e3, e4, hx⟩ := got j hj (by omega)
    refine ⟨x0, x1, x2, x3, x4, ?_, ?_, ?_, ?_, ?_, FormAt.mono ?_ _ (FormAt.keep (put5_same ((SameOn.refl _ _).below hb ?_) ?_ _ _ _ _ _ _) _ hx)⟩
    · rw [arr5_out _ _ _ _ _ (by omega)]; exact e0
    · rw [arr5_out _ _ _ _ _ (by omega)]; exact e1
    · rw [arr5_out _ _ _ _ _ (by omega)]; exact e2
    · rw [arr5_out _ _ _ _ _ (by omega)]; exact e3
    · rw [arr5_out _ _ _ _ _ (by omega)]; exact e4
    · intro b h; rw [put5_size]; exact ⟨h.1, by omega⟩
    · intro b h; exact h.2
    · intro h; omega

end Go.Proofs.YtjbejnibiebjgaaGreat

namespace Go.Proofs.YtjbejnibiebjgaaGreat
open Go.RowKit Go.Siskin

theorem _root_.Go.Siskin.SameOn.drewN {R : Nat → Prop} {a w : World} (h : SameOn R a w) (m : Nat) : SameOn R a (w.drewN m) := fun b hb => h b hb
theorem belowN {B : Nat} {a w : World} (h : Below B a w) (n : Nat) : Below B a (w.drewN n) := h.trans ⟨rfl, rfl, rfl, Nat.le_refl _, fun _ _ => rfl⟩

end Go.Proofs.YtjbejnibiebjgaaGreat

namespace Go.Proofs.YtjbejnibiebjgaaGreat
open Go.RowKit Go.Siskin

set_option maxHeartbeats 1000000 in
theorem wxInts_any (B : Nat → Prop) (va vb : Value) (xs : List Int) (w : World) (ha : IntsAt B w va xs) (hb : IntsAt B w vb xs) :
    Calls Tryz.prog 19 #[va, vb] w fun e w' => e = .returned (.bool true) ∧ ∃ n, w' = w.drewN n := by
  obtain ⟨a, ca, rfl, hla, ha⟩ := ha
  obtain ⟨b, cb, rfl, hlb, hb⟩ := hb
  unfold maxLen at hla hlb
  go_enter Tryz.func19, Tryz.ntmps19
  go_wp2_with fail
  go_loopw [5] (fun i wr => (∃ n, wr = w.drewN n) ∧ ∃ k : Nat, k ≤ xs.length ∧ i = .int .i64 k) (fun i _ => xs.length - (intOf i).toNat)
  case atStart => exact ⟨⟨0, rfl⟩, 0, Nat.zero_le _, rfl⟩
  case round =>
    obtain ⟨⟨n, rfl⟩, k, hk, rfl⟩ := hrel
    by_cases hlt : k < xs.length
    · rcases ha with ha | ⟨ba, oa, rfl, _, ha⟩
      · subst ha; simp at hlt
      rcases hb with hb | ⟨bb, ob, rfl, _, hb⟩
      · subst hb; simp at hlt
      have ga := ha k hlt
      have gb := hb k hlt
      clear ha hb
      go_wp2_with fail
      go_quiet (fail)
      go_wp2_with fail
      exact ⟨⟨⟨n + nq, rfl⟩, k + 1, by omega, by go_num⟩, by simp [intOf]; omega⟩
    · go_wp2_with fail
      go_ret
      exact ⟨rfl, n, rfl⟩

def WxForm (n : Nat) : Prop := ∀ f : Fm, f.sz ≤ n → ∀ (B B' : Nat → Prop) (w : World) (c0 c1 c2 c3 c4 d0 d1 d2 d3 d4 : Value), FormAt B w f c0 c1 c2 c3 c4 → FormAt B' w f d0 d1 d2 d3 d4 → (∀ b, B b → b < w.heap.size) → (∀ b, B' b → b < w.heap.size) →
    Calls Tryz.prog 7 #[.agg #[c0, c1, c2, c3, c4], .agg #[d0, d1, d2, d3, d4]] w fun e w' => e = .returned (.bool true) ∧ Below w.heap.size w w'
def WxForms (n : Nat) : Prop := ∀ ks : List Fm, Fm.szs ks ≤ n → ∀ (B B' : Nat → Prop) (w : World) (v u : Value), FormsAt B w v ks → FormsAt B' w u ks → (∀ b, B b → b < w.heap.size) → (∀ b, B' b → b < w.heap.size) →
    Calls Tryz.prog 20 #[v, u] w fun e w' => e = .returned (.bool true) ∧ Below w.heap.size w w'

set_option maxHeartbeats 1000000 in
theorem wxForms_of (n : Nat) (ih : WxForm n) : WxForms n := by
  intro ks hks B B' w v u hv hu hB hB'
  obtain ⟨a, ca, rfl, hla, ha⟩ := hv
  obtain ⟨a', ca', rfl, -, ha'⟩ := hu
  unfold maxLen at hla
  have HI := hid ih
  have HR := hid hB
  have HR' := hid hB'
  clear ih hB hB'
  go_enter Tryz.func20, Tryz.ntmps20
  go_wp2_with fail
  go_loopw [5] (fun i wr => ∃ k : Nat, k ≤ ks.length ∧ i = .int .i64 k ∧ Hid (Below w.heap.size w wr)) (fun i _ => ks.length - (intOf i).toNat)
  case atStart => exact ⟨0, Nat.zero_le _, rfl, Below.refl _ _⟩
  case round =>
    obtain ⟨k, hk, rfl, HB⟩ := hrel
    by_cases hlt : k < ks.length
    · rcases ha with ha | ⟨ba, oa, rfl, hb, ha⟩
      · subst ha; simp at hlt
      rcases ha' with ha' | ⟨ba', oa', rfl, hb', ha'⟩
      · subst ha'; simp at hlt
      obtain ⟨c0, c1, c2, c3, c4, g0, g1, g2, g3, g4, hf⟩ := RowAt.get ks (RowAt.keep (HB.out.on HR.out) hb ks ha) k hlt
      obtain ⟨d0, d1, d2, d3, d4, e0, e1, e2, e3, e4, hf'⟩ := RowAt.get ks (RowAt.keep (HB.out.on HR'.out) hb' ks ha') k hlt
      have hsz := HB.out.size
      have HC := hid (HI.out ks[k] (Nat.le_trans (Fm.szs_get ks k hlt) hks) B B' wr.drew c0 c1 c2 c3 c4 d0 d1 d2 d3 d4 (FormAt.keep (SameOn.drew _ _) _ hf) (FormAt.keep (SameOn.drew _ _) _ hf') (fun b hb => Nat.lt_of_lt_of_le (HR.out b hb) hsz) (fun b hb => Nat.lt_of_lt_of_le (HR'.out b hb) hsz))
      clear ha hf ha' hf' HI
      go_wp2_with fail
      go_region_with (go_at_call 7; refine HC.out.mono ?_; rintro e w' ⟨rfl, hw⟩)
      all_goals go_wp2_with fail
      all_goals exact ⟨⟨k + 1, by omega, by go_num, HB.out.drew.trans (hw.mono hsz)⟩, by simp [intOf]; omega⟩
    · go_wp2_with fail
      go_ret
      exact ⟨rfl, HB.out⟩

set_option maxHeartbeats 2000000 in
theorem wxForm_of (n : Nat) (ih : WxForms n) : WxForm (n + 1) := by
  intro f hf B B' w c0 c1 c2 c3 c4 d0 d1 d2 d3 d4 hA hA' hB hB'
  obtain ⟨rfl, rfl, ht, h2, rfl, h4⟩ := (formAt_iff _ _ _ _ _ _ _ _).1 hA
  obtain ⟨rfl, rfl, -, h2', rfl, h4'⟩ := (formAt_iff _ _ _ _ _ _ _ _).1 hA'
  have HS := hid (Fm.sz_kids f)
  have H2 := hid h2
  have H4 := hid h4
  have H2' := hid h2'
  have H4' := hid h4'
  have HI := hid ih
  have HR := hid hB
  have HR' := hid hB'
  obtain ⟨a2, k2, rfl, -⟩ := h2
  obtain ⟨a2', k2', rfl, -⟩ := h2'
  obtain ⟨a4, k4, rfl, -⟩ := h4
  obtain ⟨a4', k4', rfl, -⟩ := h4'
  clear hA hA' ih hB hB'
  go_enter Tryz.func7, Tryz.ntmps7
  go_wp2_with fail
  refine (wxInts_any (fun b => B b ∨ B' b) _ _ f.scopes _ ((H2.out.keep (((SameOn.refl _ _).alloc HR.out _).alloc (fun b hb => by have := HR.out b hb; simp; omega) _)).mono (fun _ h => Or.inl h)) ((H2'.out.keep (((SameOn.refl _ _).alloc HR'.out _).alloc (fun b hb => by have := HR'.out b hb; simp; omega) _)).mono (fun _ h => Or.inr h))).mono ?_
  rintro e w1 ⟨rfl, m, rfl⟩
  go_wp2_with fail
  refine (HI.out f.kids (by have := HS.out; omega) B B' _ _ _ (H4.out.keep ?_) (H4'.out.keep ?_) ?_ ?_).mono ?_
  · exact (((SameOn.refl _ _).alloc HR.out _).alloc (fun b hb => by have := HR.out b hb; simp; omega) _).drewN m
  · exact (((SameOn.refl _ _).alloc HR'.out _).alloc (fun b hb => by have := HR'.out b hb; simp; omega) _).drewN m
  · exact fun b hb => by have := HR.out b hb; simp; omega
  · exact fun b hb => by have := HR'.out b hb; simp; omega
  rintro e w2 ⟨rfl, hw⟩
  go_wp2_with fail
  go_ret
  exact ⟨rfl, (belowN (((Below.refl _ _).alloc (Nat.le_refl _) _).alloc (by simp) _) m).trans (hw.mono (by simp; omega))⟩

theorem wxForm_all : ∀ n, WxForm n ∧ WxForms n
  | 0 => by
    have h : WxForm 0 := fun f hf => by have := Fm.sz_kids f; omega
    exact ⟨h, wxForms_of 0 h⟩
  | n + 1 => by
    have h := wxForm_of n (wxForm_all n).2
    exact ⟨h, wxForms_of (n + 1) h⟩

/-- Two places that hold one form are held equal by the law. -/
theorem wxForm_any (f : Fm) (B B' : Nat → Prop) (w : World) (c0 c1 c2 c3 c4 d0 d1 d2 d3 d4 : Value) (h : FormAt B w f c0 c1 c2 c3 c4) (h' : FormAt B' w f d0 d1 d2 d3 d4) (hB : ∀ b, B b → b < w.heap.size) (hB' : ∀ b, B' b → b < w.heap.size) :
    Calls Tryz.prog 7 #[.agg #[c0, c1, c2, c3, c4], .agg #[d0, d1, d2, d3, d4]] w fun e w' => e = .returned (.bool true) ∧ Below w.heap.size w w' :=
  (wxForm_all f.sz).1 f (Nat.le_refl _) B B' w c0 c1 c2 c3 c4 d0 d1 d2 d3 d4 h h' hB hB'

end Go.Proofs.YtjbejnibiebjgaaGreat

namespace Go.Proofs.YtjbejnibiebjgaaGreat
open Go.RowKit Go.Siskin

/-- The first k forms of a row, changed. -/
def mix (h : Fm → Fm) (k : Nat) (ks : List Fm) : List Fm := ks.mapIdx fun i x => if i < k then h x else x
theorem mix_length (h : Fm → Fm) (k : Nat) (ks : List Fm) : (mix h k ks).length = ks.length := by simp [mix]
theorem mix_zero (h : Fm → Fm) (ks : List Fm) : mix h 0 ks = ks := by
  refine List.ext_getElem (mix_length _ _ _) fun i h1 h2 => ?_
  simp [mix]
theorem mix_all (h : Fm → Fm) (ks : List Fm) : mix h ks.length ks = ks.map h := by
  refine List.ext_getElem (by simp [mix]) fun i h1 h2 => ?_
  rw [mix_length] at h1
  simp [mix, h1]
theorem mix_get (h : Fm → Fm) (k : Nat) (ks : List Fm) (hk : k < ks.length) : (mix h k ks)[k]'(by rw [mix_length]; exact hk) = ks[k] := by
  simp [mix]
theorem mix_step (h : Fm → Fm) (k : Nat) (ks : List Fm) (hk : k < ks.length) : (mix h k ks).set k (h ks[k]) = mix h (k + 1) ks := by
  refine List.ext_getElem (by simp [mix]) fun i h1 h2 => ?_
  rw [List.getElem_set]
  by_cases e : k = i
  · subst e
    simp [mix]
  · rw [if_neg e]
    simp only [mix, List.getElem_mapIdx]
    by_cases hi : i < k
    · rw [if_pos hi, if_pos (by omega)]
    · rw [if_neg hi, if_neg (by omega)]

theorem set5_out {cs : List Value} {o : Nat} (d0 d1 d2 d3 d4 : Value) {i : Nat} (h : i < o ∨ o + 5 ≤ i) : (((((cs.set o d0).set (o + 1) d1).set (o + 2) d2).set (o + 3) d3).set (o + 4) d4)[i]? = cs[i]? := by
  rw [List.getElem?_set_ne (by omega), List.getElem?_set_ne (by omega), List.getElem?_set_ne (by omega), List.getElem?_set_ne (by omega), List.getElem?_set_ne (by omega)]
theorem set5_in {cs : List Value} {o : Nat} (d0 d1 d2 d3 d4 : Value) (h : o + 5 ≤ cs.length) :
    (((((cs.set o d0).set (o + 1) d1).set (o + 2) d2).set (o + 3) d3).set (o + 4) d4)[o]? = some d0 ∧ (((((cs.set o d0).set (o + 1) d1).set (o + 2) d2).set (o + 3) d3).set (o + 4) d4)[o + 1]? = some d1 ∧ (((((cs.set o d0).set (o + 1) d1).set (o + 2) d2).set (o + 3) d3).set (o + 4) d4)[o + 2]? = some d2 ∧ (((((cs.set o d0).set (o + 1) d1).set (o + 2) d2).set (o + 3) d3).set (o + 4) d4)[o + 3]? = some d3 ∧ (((((cs.set o d0).set (o + 1) d1).set (o + 2) d2).set (o + 3) d3).set (o + 4) d4)[o + 4]? = some d4 := by
  refine ⟨?_, ?_, ?_, ?_, ?_⟩
  · rw [List.getElem?_set_ne (by omega), List.getElem?_set_ne (by omega), List.getElem?_set_ne (by omega), List.getElem?_set_ne (by omega), List.getElem?_set_self (by omega)]
  · rw [List.getElem?_set_ne (by omega), List.getElem?_set_ne (by omega), List.getElem?_set_ne (by omega), List.getElem?_set_self (by simp; omega)]
  · rw [List.getElem?_set_ne (by omega), List.getElem?_set_ne (by omega), List.getElem?_set_self (by simp; omega)]
  · rw [List.getElem?_set_ne (by omega), List.getElem?_set_self (by simp; omega)]
  · rw [List.getElem?_set_self (by simp; omega)]

theorem row_put5 {w : World} {base g n c : Nat} {cs : List Value} (h : w.ownsRow base 26 5 (.slice (some ⟨g, 0, none⟩) n c) n cs) (o : Nat) (d0 d1 d2 d3 d4 : Value) :
    (put5 w g o d0 d1 d2 d3 d4).ownsRow base 26 5 (.slice (some ⟨g, 0, none⟩) n c) n (((((cs.set o d0).set (o + 1) d1).set (o + 2) d2).set (o + 3) d3).set (o + 4) d4) ∧ w.grownBy (put5 w g o d0 d1 d2 d3 d4) (some g) := by
  have h0 := h.stored o d0
  have h1 := h0.1.stored (o + 1) d1
  have h2 := h1.1.stored (o + 2) d2
  have h3 := h2.1.stored (o + 3) d3
  have h4 := h3.1.stored (o + 4) d4
  exact ⟨h4.1, (((h0.2.trans h1.2).trans h2.2).trans h3.2).trans h4.2⟩

/-- Another form in the place of one. -/
theorem Kids.put {S : Nat → Prop} {w w1 : World} {base g n c : Nat} {ks : List Fm} (h : Kids S w base (.slice (some ⟨g, 0, none⟩) n c) ks) (hn : n = ks.length) {k : Nat} (hk : k < ks.length) (hb : Below w.heap.size w w1) (hbase : base ≤ w.heap.size) {f : Fm} {d0 d1 d2 d3 d4 : Value} (hf : FormAt (Fresh w w1) w1 f d0 d1 d2 d3 d4) :
    Kids (Reg S w w1) (put5 w1 g (k * 5) d0 d1 d2 d3 d4) base (.slice (some ⟨g, 0, none⟩) n c) (ks.set k f) := by
  have hg := h.lt (g := g) rfl
  have hs1 := hb.size
  obtain ⟨⟨cs, r1, r2⟩, ho, hl⟩ := h
  have hcl := r1.1
  subst hn
  obtain ⟨q1, q2⟩ := row_put5 (r1.kept (row := none) (w' := w1) ⟨hb.os, hb.tape, hb.output, hb.size, fun i hi _ => hb.block i hi⟩ (Or.inr (by simp [Value.ownBlock]))) (k * 5) d0 d1 d2 d3 d4
  have hoff : ¬ Reg S w w1 g := fun e => by
    rcases e with e | e
    · exact ho g rfl e
    · have := e.1; omega
  refine ⟨⟨_, by rw [List.length_set]; exact q1, fun i hi => ?_⟩, fun g' e hS => ?_, fun i hi => ?_⟩
  · rw [List.length_set] at hi
    by_cases e : i = k
    · subst e
      obtain ⟨e0, e1, e2, e3, e4⟩ := set5_in (cs := cs) (o := i * 5) d0 d1 d2 d3 d4 (by omega)
      refine ⟨d0, d1, d2, d3, d4, e0, e1, e2, e3, e4, ?_⟩
      rw [List.getElem_set_self]
      exact FormAt.mono (fun b hb => Or.inr hb) _ (FormAt.keep (put5_same (SameOn.refl _ _) (fun e => hoff (Or.inr e)) _ _ _ _ _ _) _ hf)
    · obtain ⟨k0, k1, k2, k3, k4, e0, e1, e2, e3, e4, e5⟩ := r2 i hi
      refine ⟨k0, k1, k2, k3, k4, ?_, ?_, ?_, ?_, ?_, ?_⟩
      · rw [set5_out _ _ _ _ _ (by omega)]; exact e0
      · rw [set5_out _ _ _ _ _ (by omega)]; exact e1
      · rw [set5_out _ _ _ _ _ (by omega)]; exact e2
      · rw [set5_out _ _ _ _ _ (by omega)]; exact e3
      · rw [set5_out _ _ _ _ _ (by omega)]; exact e4
      · rw [List.getElem_set_ne (by omega)]
        exact FormAt.mono (fun b hb => Or.inl hb) _ (FormAt.keep (put5_same ((SameOn.refl _ _).below hb fun b hb => (hl b hb).2) (fun e => hoff (Or.inl e)) _ _ _ _ _ _) _ e5)
  · cases e
    exact hoff hS
  · rw [put5_size]
    rcases hi with hi | hi
    · have := hl i hi
      exact ⟨this.1, by omega⟩
    · exact ⟨by have := hi.1; omega, hi.2⟩

/-- A row of ints as ints in memory. -/
theorem row_intsB {w : World} {base n : Nat} {v : Value} {xs : List Int} (h : w.ownsRow base 3 1 v n (xs.map (Value.int .i64))) (hn : xs.length ≤ maxLen) {B : Nat → Prop} (hB : ∀ g, v.ownBlock = some g → B g) : IntsAt B w v xs := by
  have hl := h.1
  rw [List.length_map] at hl
  rcases h.2 with ⟨rfl, h0⟩ | ⟨g, cap, cur, rfl, hb, hg, hcap, -, -, -⟩
  · have : xs = [] := List.length_eq_zero_iff.1 (by omega)
    subst this
    exact ⟨none, 0, rfl, ⟨Nat.zero_le _, Nat.le_refl _⟩, Or.inl rfl⟩
  · refine ⟨some ⟨g, 0, none⟩, cap, by rw [hl, Nat.mul_one], ⟨hn, by omega⟩, Or.inr ⟨g, 0, rfl, hB g rfl, fun i hi => ?_⟩⟩
    have k := h.cells (g := g) rfl i (.int .i64 (xs.getD i 0)) (by rw [List.getElem?_map, List.getElem?_eq_getElem hi, List.getD_eq_getElem?_getD, List.getElem?_eq_getElem hi]; rfl)
    rw [Go.WideShapes.add_plain] at k
    exact k

end Go.Proofs.YtjbejnibiebjgaaGreat
