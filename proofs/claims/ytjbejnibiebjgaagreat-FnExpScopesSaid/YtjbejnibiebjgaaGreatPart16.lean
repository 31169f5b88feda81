/-
  The drawing of a form that is spoilt, l8Spoil. Condition: the reader and its bytes lie in memory apart, and it has not picked too often; the form lies in memory as FormAt says.
  The drawing of any form, l8Any. Condition: the reader and its bytes lie in memory apart, and it has not picked too often.
-/
import Derived.Test.YtjbejnibiebjgaaGreatE5
namespace Go.Proofs.YtjbejnibiebjgaaGreat
open Go.RowKit Go.Siskin

theorem drawn_at {rb rs : Nat} {v : Value} {w w2 : World} {p b c q : Nat} {f : Fm} {c0 c1 c2 c3 c4 : Value} {B : Nat → Prop} (hf : FormAt B w2 f c0 c1 c2 c3 c4) (hB : ∀ i, B i → i ≠ rs ∧ w.heap.size ≤ i ∧ i < w2.heap.size) (hrs : w.heap.size ≤ rs) (hc : f.cost ≤ c) (hq : q ≤ p + b) (hp : Picked rb v w w2 q) (hrb : rb < w.heap.size) :
    Drawn rb v w p b c (.returned (.agg #[c0, c1, c2, c3, c4])) (wr5 w2 rs c0 c1 c2 c3 c4) := by
  have hg := wr5_grown w2 rs c0 c1 c2 c3 c4
  refine ⟨c0, c1, c2, c3, c4, f, q, rfl, FormAt.mono (fun i hi => ⟨(hB i hi).2.1, by rw [wr5_size]; exact (hB i hi).2.2⟩) _ (FormAt.keep (fun i hi => hg.block i (hB i hi).2.2 fun e => ?_) f hf), hc, hq, hp.far hg (fun g e => by cases e; exact hrs) hrb⟩
  have := (hB i hi).1
  cases e
  exact this rfl

theorem own_wr5 {w : World} {g : Nat} {e : TypeId} {c0 c1 c2 c3 c4 : Value} (h : Own w g e #[c0, c1, c2, c3, c4]) (d0 d1 d2 d3 d4 : Value) : Own (wr5 w g d0 d1 d2 d3 d4) g e #[d0, d1, d2, d3, d4] := by
  have h1 := ((((h.set 0 d0).set 1 d1).set 2 d2).set 3 d3).set 4 d4
  simp at h1
  exact h1
theorem q_keep {lo hi : Nat} {a b : World} {row : Option Nat} (hg : a.grownBy b row) (hr : ∀ g, row = some g → g < lo ∨ hi ≤ g) (hs : hi ≤ a.heap.size) : SameOn (fun i => lo ≤ i ∧ i < hi) a b :=
  fun i h => hg.block i (by omega) fun e => by have := hr i e.symm; omega
/-- A form whose scopes and kids lie between two numbers of blocks. -/
theorem q_form {lo hi : Nat} {w : World} {f : Fm} {c2 c4 : Value} (ht : f.text.size ≤ maxLen) (h2 : IntsAt (fun i => lo ≤ i ∧ i < hi) w c2 f.scopes) (h4 : FormsAt (fun i => lo ≤ i ∧ i < hi) w c4 f.kids) (hs : hi ≤ w.heap.size) : FormAt (fun i => lo ≤ i ∧ i < w.heap.size) w f (.int .i64 f.sort) (.string f.text) c2 (.int .i64 f.frm) c4 :=
  (formAt_iff _ _ _ _ _ _ _ _).2 ⟨rfl, rfl, ht, h2.mono fun i h => ⟨h.1, by omega⟩, rfl, h4.mono fun i h => ⟨h.1, by omega⟩⟩


set_option maxRecDepth 20000 in
set_option maxHeartbeats 3000000 in
theorem l8Spoil_any {R : Nat → Prop} {w : World} {rb n p : Nat} {v : Value} (h : RdAt R w rb n p v) (hp : p ≤ 900000) (f : Fm) (B : Nat → Prop) (c0 c1 c2 c3 c4 : Value) (hA : FormAt B w f c0 c1 c2 c3 c4) (hB : ∀ b, B b → b < w.heap.size) (hc : f.cost ≤ 1000000) :
    Calls Tryz.prog 28 #[.pointer (some ⟨rb, 0, none⟩), .agg #[c0, c1, c2, c3, c4]] w (Drawn rb v w p 3 (f.cost + 100)) := by
  have HR := hid h
  have HA := hid hA
  have HBB := hid hB
  have hrb := h.own.lt
  have hRd : Hid (∀ g, w.heap.size ≤ g → ¬ R g ∧ g ≠ rb) := fun g hg => ⟨fun h => by have := HR.out.low g h; omega, by omega⟩
  obtain ⟨rfl, rfl, ht, h2, rfl, h4⟩ := (formAt_iff _ _ _ _ _ _ _ _).1 hA
  obtain ⟨a2, k2, rfl, -⟩ := h2
  obtain ⟨a4, k4, rfl, -⟩ := h4
  clear h hA hB
  obtain ⟨i0, hi, hz0, hz1, hz2⟩ := info_parts Tryz.infoFormE
  have Hi := hid hi
  have Hz0 := hid hz0
  have Hz1 := hid hz1
  have Hz2 := hid hz2
  clear hi hz0 hz1 hz2
  obtain ⟨i1, hi, hz0, hz1, hz2⟩ := info_parts Tryz.infoIntE
  have Ji := hid hi
  have Jz0 := hid hz0
  have Jz1 := hid hz1
  have Jz2 := hid hz2
  clear hi hz0 hz1 hz2
  have Hc := hid (Fm.cost_eq f)
  go_enter Tryz.func28, Tryz.ntmps28
  go_wp2_with fail
  refine (l1Copy_any f B ((w.alloc _).alloc _) _ _ _ _ _ (FormAt.keep (((SameOn.refl _ _).alloc HBB.out _).alloc (fun b hb => by have := HBB.out b hb; simp; omega) _) f HA.out) (fun b hb => by have := HBB.out b hb; simp; omega) (by omega)).mono ?_
  rintro e w1 ⟨d0, d1, d2, d3, d4, rfl, hf, hcp, hw1⟩
  have HF1 := hid hf
  obtain ⟨rfl, rfl, -, h2, rfl, h4⟩ := (formAt_iff _ _ _ _ _ _ _ _).1 hf
  have HI1 := hid h2
  have HK1 := hid h4
  obtain ⟨x2, y2, rfl, -⟩ := h2
  obtain ⟨x4, y4, rfl, -⟩ := h4
  have HC1 := hid hcp
  have hs1 := hw1.size
  simp only [World.size_alloc] at hs1
  have HB1 : Hid (Below w.heap.size w w1) := (((Below.refl w.heap.size w).alloc (Nat.le_refl _) _).alloc (by simp) _).trans (hw1.mono (by simp; omega))
  have HRs := own_new (w.alloc (.cells #[.int .i64 f.sort, .string f.text, .slice a2 f.scopes.length k2, .int .i64 f.frm, .slice a4 f.kids.length k4] 26)) #[.int .i64 0, .string ⟨#[]⟩, .slice none 0 0, .int .i64 0, .slice none 0 0] 26
  rw [World.size_alloc] at HRs
  have HRs := hid (HRs.keep hw1 (by simp))
  clear hf hcp hw1
  go_wp2_with fail
  refine (pick_rd ((HR.out.below HB1.out).alloc _) 6 (by omega) (by omega)).mono ?_
  rintro e w2 ⟨m, hm, rfl, hp2, hz2⟩
  have HR2 := hid (((HR.out.below HB1.out).alloc _).picked hp2 (by omega))
  have HX2 := hid ((own_new w1 #[.int .i64 f.sort, .string f.text, .slice x2 f.scopes.length y2, .int .i64 f.frm, .slice x4 f.kids.length y4] 26).picked hp2 (by omega))
  have HRs2 := hid ((HRs.out.more (by omega) _).picked hp2 (by omega))
  have HP2 := hid ((HR.out.now.below (HB1.out.alloc (by omega) _) (Nat.le_refl _) hrb).trans hp2)
  have HS2 : Hid (SameOn (fun b => w.heap.size + 2 ≤ b ∧ b < w1.heap.size) w1 w2) := fun b hb => (hp2.1.block b (by simp; omega) (by simp; omega)).trans (Below.heap_alloc w1 _ b hb.2)
  have HI2 := hid ((HI1.out.mono (B' := fun b => w.heap.size + 2 ≤ b ∧ b < w1.heap.size) fun b hb => ⟨by have := hb.1; simp at this; omega, hb.2⟩).keep HS2.out)
  have HK2 := hid ((HK1.out.mono (B' := fun b => w.heap.size + 2 ≤ b ∧ b < w1.heap.size) fun b hb => ⟨by have := hb.1; simp at this; omega, hb.2⟩).keep HS2.out)
  simp only [World.size_alloc] at hz2
  have HC2 : Hid (∃ g c N S, Value.slice x2 f.scopes.length y2 = .slice (some ⟨g, 0, none⟩) f.scopes.length c ∧ w2.ownsRow (w.heap.size + 2) 3 1 (.slice x2 f.scopes.length y2) f.scopes.length (f.scopes.map (Value.int .i64)) ∧ g < N ∧ w.heap.size + 2 ≤ N ∧ N ≤ w1.heap.size ∧ w.heap.size + 2 ≤ g ∧ Kids S w2 N (.slice x4 f.kids.length y4) f.kids ∧ (∀ i, (Value.slice x4 f.kids.length y4).ownBlock = some i → i < w1.heap.size) ∧ ∀ i, S i → i < w1.heap.size) := by
    obtain ⟨g, c, N, S, e2, r, hgN, hN, hN2, hK⟩ := HC1.out
    have hW0 : ((w.alloc (.cells #[.int .i64 f.sort, .string f.text, .slice a2 f.scopes.length k2, .int .i64 f.frm, .slice a4 f.kids.length k4] 26)).alloc (.cells #[.int .i64 0, .string ⟨#[]⟩, .slice none 0 0, .int .i64 0, .slice none 0 0] 26)).heap.size = w.heap.size + 2 := by simp
    rw [hW0] at r hN
    have hgl : w.heap.size + 2 ≤ g := (r.lt g (by rw [e2]; rfl)).1
    refine ⟨g, c, N, S, e2, (r.alloc _).kept hp2.1 (Or.inr fun e => ?_), hgN, hN, hN2, hgl, (hK.below ((Below.refl _ _).alloc (Nat.le_refl _) _)).keep hp2.1 (fun i e hS => by cases e; have := (hK.low _ hS).1; omega) ?_, fun i e => (hK.lt e).2, fun i hS => (hK.low i hS).2⟩
    · rw [e2] at e; simp [Value.ownBlock] at e; omega
    · cases hu : (Value.slice x4 f.kids.length y4).ownBlock with
      | none => exact Or.inl rfl
      | some i => exact Or.inr fun e => by have := (hK.lt hu).1; simp at e; omega
  clear hp2 HRs HF1 HI1 HK1 HC1
  obtain rfl | rfl | rfl | rfl | rfl | rfl : m = 0 ∨ m = 1 ∨ m = 2 ∨ m = 3 ∨ m = 4 ∨ m = 5 := by omega
  · go_wp2_with fail
    refine (pick_rd HR2.out 7 (by omega) (by omega)).mono ?_
    rintro e w3 ⟨m3, hm3, rfl, hp3, hz3⟩
    have HX3 := hid (HX2.out.picked hp3 (by omega))
    have HRs3 := hid (HRs2.out.picked hp3 (by omega))
    have HP3 := hid (HP2.out.trans hp3)
    have HQ3 := hid (q_keep (lo := w.heap.size + 2) (hi := w1.heap.size) hp3.1 (fun g e => by cases e; omega) (by omega))
    clear hp3
    obtain ⟨⟨a0, a1, a2, a3, a4⟩, t0, t1, t2, t3, t4⟩ := own_ten HX3.out
    obtain ⟨⟨b0, b1, b2, b3, b4⟩, z0, z1, z2, z3, z4⟩ := own_ten HRs3.out
    go_wp2_with fail
    refine bodyPost_ret (v := .agg #[.int .i64 ((m3 : Int) - 1), .string f.text, .slice x2 f.scopes.length y2, .int .i64 f.frm, .slice x4 f.kids.length y4]) (by simp [results, Tryz.results28, go_sem, b0, b1, b2, b3, b4]) rfl ?_
    have hgs := grown_set w3 w1.heap.size 0 (.int .i64 ((m3 : Int) - 1))
    have hq4 := q_keep (lo := w.heap.size + 2) (hi := w1.heap.size) hgs (fun g e => by cases e; omega) (by omega)
    refine drawn_at (f := ⟨(m3 : Int) - 1, f.text, f.scopes, f.frm, f.kids⟩) (q := p + 1 + 1) (w2 := w3.setCell ⟨w1.heap.size, 0, none⟩ (.int .i64 ((m3 : Int) - 1))) (q_form (f := ⟨(m3 : Int) - 1, f.text, f.scopes, f.frm, f.kids⟩) ht ((HI2.out.keep HQ3.out).keep hq4) ((HK2.out.keep HQ3.out).keep hq4) (by simp; omega)) (fun i hi => ⟨by omega, by omega, hi.2⟩) (by omega) ?_ (by omega) (HP3.out.far hgs (fun g e => by cases e; omega) hrb) hrb
    have := Hc.out
    rw [Fm.cost_eq]
    show f.text.size + f.scopes.length + f.kids.length + Fm.costs f.kids ≤ _
    omega
  · go_wp2_with fail
    refine (of_rd (HR2.out.alloc _) (w1.heap.size + 1) [⟨#[]⟩, ⟨#[120]⟩, ⟨#[49]⟩, ⟨#[97, 32, 98]⟩, ⟨#[40]⟩, ⟨#[46]⟩] (by simp) (by simp) (by omega) (by simp; omega) (fun i hi => by rw [← hz2]; rcases i with _ | _ | _ | _ | _ | _ | i <;> first | (simp; done) | (simp at hi; omega))).mono ?_
    rintro e w3 ⟨s, hs, rfl, hp3, hz3⟩
    have hsz : s.size ≤ 3 := by
      simp only [List.mem_cons, List.not_mem_nil, or_false] at hs
      rcases hs with rfl | rfl | rfl | rfl | rfl | rfl <;> decide
    have hs3 : w2.heap.size + 1 ≤ w3.heap.size := by rw [hz3]; simp
    have HX3 := hid ((HX2.out.more (by omega) _).picked hp3 (by omega))
    have HRs3 := hid ((HRs2.out.more (by omega) _).picked hp3 (by omega))
    have HP3 := hid ((HP2.out.below ((Below.refl w.heap.size w2).alloc (by omega) _) (Nat.le_refl _) hrb).trans hp3)
    have HQ3 := hid ((q_keep (lo := w.heap.size + 2) (hi := w1.heap.size) (World.grownBy_alloc w2 _ none) (fun g e => by cases e) (by omega)).trans (q_keep hp3.1 (fun g e => by cases e; omega) (by simp; omega)))
    clear hs hp3
    obtain ⟨⟨a0, a1, a2, a3, a4⟩, t0, t1, t2, t3, t4⟩ := own_ten HX3.out
    obtain ⟨⟨b0, b1, b2, b3, b4⟩, z0, z1, z2, z3, z4⟩ := own_ten HRs3.out
    go_wp2_with fail
    refine bodyPost_ret (v := .agg #[.int .i64 f.sort, .string s, .slice x2 f.scopes.length y2, .int .i64 f.frm, .slice x4 f.kids.length y4]) (by simp [results, Tryz.results28, go_sem, b0, b1, b2, b3, b4]) rfl ?_
    have hgs := grown_set w3 w1.heap.size 1 (.string s)
    have hq4 := q_keep (lo := w.heap.size + 2) (hi := w1.heap.size) hgs (fun g e => by cases e; omega) (by omega)
    refine drawn_at (f := ⟨f.sort, s, f.scopes, f.frm, f.kids⟩) (q := p + 1 + 1) (w2 := w3.setCell ⟨w1.heap.size, 1, none⟩ (.string s)) (q_form (f := ⟨f.sort, s, f.scopes, f.frm, f.kids⟩) (by unfold maxLen; show s.size ≤ _; omega) ((HI2.out.keep HQ3.out).keep hq4) ((HK2.out.keep HQ3.out).keep hq4) (by simp; omega)) (fun i hi => ⟨by omega, by omega, hi.2⟩) (by omega) ?_ (by omega) (HP3.out.far hgs (fun g e => by cases e; omega) hrb) hrb
    have := Hc.out
    rw [Fm.cost_eq]
    show s.size + f.scopes.length + f.kids.length + Fm.costs f.kids ≤ _
    omega
  · obtain ⟨g, c, N, S, e2, r, hgN, hN, hN1, hgl, hK, hkl, hSl⟩ := HC2.out
    have R0 := hid r
    have HK0 := hid hK
    have E2 := hid e2
    have Hkl := hid hkl
    have HSl := hid hSl
    clear r hK e2 hkl hSl
    obtain ⟨⟨c0, c1, c2, c3, c4⟩, u0, u1, u2, u3, u4⟩ := own_ten HX2.out
    have hxw2 : w1.heap.size < w2.heap.size := by omega
    have HDa := hid (HR2.out.below (Below.refl _ _).drew)
    have HDb := hid (((HR2.out.alloc (.cells #[.int .i64 (-1), .int .i64 0, .int .i64 7] 3)).below (Below.refl _ _).drew))
    go_wp2_with fail
    go_region_law (first
      | (first
          | (refine step_append_lies _ (by rfl) _ _ _ (by rfl) (w.heap.size + 2) 3 i1 _ 1 8 Tryz.underlying23 Ji.out Jz0.out Jz1.out Jz2.out rfl (by omega) (.slice x2 f.scopes.length y2) f.scopes.length (f.scopes.map (Value.int .i64)) (by rfl) (R3.out.alloc _) ⟨w3.heap.size, 0, none⟩ 1 1 [.int .i64 z] (by rfl) (by rfl) (cell_one_new _ _ _) (by simp [Value.oneCell']) (by omega) (by unfold maxLen; have := Hc.out; omega) (by have := Hc.out; omega) (by simp; omega) (w3.heap.size + 1) (by simp) ?_)
          | (refine step_append_lies _ (by rfl) _ _ _ (by rfl) (w.heap.size + 2) 3 i1 _ 1 8 Tryz.underlying23 Ji.out Jz0.out Jz1.out Jz2.out rfl (by omega) (.slice x2 f.scopes.length y2) f.scopes.length (f.scopes.map (Value.int .i64)) (by rfl) ((R3.out.alloc _).alloc _) ⟨w3.heap.size + 1, 0, none⟩ 1 1 [.int .i64 z] (by rfl) (by rfl) (by have h := cell_one_new (w3.alloc (.cells #[.int .i64 (-1), .int .i64 0, .int .i64 7] 3)) (.int .i64 z) 3; rw [World.size_alloc] at h; exact h) (by simp [Value.oneCell']) (by omega) (by unfold maxLen; have := Hc.out; omega) (by have := Hc.out; omega) (by simp; omega) (w3.heap.size + 1 + 1) (by simp) ?_)
         intro g2 cap2 w4 hown hg hat hgl2
         have hall : w3.grownBy w4 (Value.slice x2 f.scopes.length y2).ownBlock := by first | exact (World.grownBy_alloc w3 _ _).trans hg | exact ((World.grownBy_alloc w3 _ _).trans (World.grownBy_alloc _ _ _)).trans hg
         have HA := hid hall
         have HG2 : Hid (g2 = g ∨ w3.heap.size ≤ g2) := by
           show _ ∨ _
           rcases hat with h | h
           · rw [E2.out] at h; simp [Value.ownBlock] at h; exact Or.inl h.symm
           · exact Or.inr (by omega)
         have HX4 := hid (HX3.out.far hall (by rw [E2.out]; simp [Value.ownBlock]; omega))
         have HRs4 := hid (HRs3.out.far hall (by rw [E2.out]; simp [Value.ownBlock]; omega))
         obtain ⟨⟨a0, a1, a2, a3, a4⟩, t0, t1, t2, t3, t4⟩ := own_ten HX4.out
         obtain ⟨⟨b0, b1, b2, b3, b4⟩, z0, z1, z2, z3, z4⟩ := own_ten HRs4.out
         have HO4 := hid hown
         clear hown hg hat hall)
      | (go_simp
         go_at_call 15
         refine (pick_rd (R := R) (n := n) (p := p + 1) (v := v) (by first | exact HDa.out | exact HDb.out) 3 (by omega) (by omega)).mono ?_
         rintro e w3 ⟨m3, hm3, rfl, hp3, hz3⟩
         have hs3 : w2.heap.size ≤ w3.heap.size := by have := hp3.1.size; simp at this; omega
         have hpk : Picked rb v w2 w3 (p + 1 + 1) := by first | exact ⟨⟨hp3.1.os, hp3.1.tape, hp3.1.output, hp3.1.size, hp3.1.block⟩, hp3.2⟩ | exact (HR2.out.now.below ((Below.refl w2.heap.size w2).alloc (Nat.le_refl _) (.cells #[.int .i64 (-1), .int .i64 0, .int .i64 7] 3)) (Nat.le_refl _) HR2.out.own.lt).trans ⟨⟨hp3.1.os, hp3.1.tape, hp3.1.output, hp3.1.size, hp3.1.block⟩, hp3.2⟩
         obtain ⟨z, hzz, hzl⟩ : ∃ z : Int, (#[.int .i64 (-1), .int .i64 0, .int .i64 7] : Array Value)[m3]? = some (.int .i64 z) ∧ ∀ h : m3 < [Value.int .i64 (-1), Value.int .i64 0, Value.int .i64 7].length, [Value.int .i64 (-1), Value.int .i64 0, Value.int .i64 7][m3]'h = .int .i64 z := by
           obtain rfl | rfl | rfl : m3 = 0 ∨ m3 = 1 ∨ m3 = 2 := by omega
           · exact ⟨-1, rfl, fun _ => rfl⟩
           · exact ⟨0, rfl, fun _ => rfl⟩
           · exact ⟨7, rfl, fun _ => rfl⟩
         have hL : (∀ h : w3.heap[w2.heap.size]? = some (.cells #[.int .i64 (-1), .int .i64 0, .int .i64 7] 3 (0, 0)), w3.cell? ⟨w1.heap.size + 1, m3, none⟩ = some (.int .i64 z)) := fun h => by rw [hz2] at h; exact (Own.cell (h : Own w3 (w1.heap.size + 1) 3 _) m3).trans hzz
         first
           | (have hLc := hL ((own_new w2 #[.int .i64 (-1), .int .i64 0, .int .i64 7] 3 |>.more (by simp) (.cells #[] 3) |> fun _ => (hp3.1.block w2.heap.size (by simp) (by simp; omega)).trans (own_new w2 #[.int .i64 (-1), .int .i64 0, .int .i64 7] 3))))
           | skip
         have HX3 := hid (HX2.out.picked hpk (by omega))
         have HRs3 := hid (HRs2.out.picked hpk (by omega))
         have HP3 := hid (HP2.out.trans hpk)
         have R3 := hid (R0.out.kept hpk.1 (by rw [E2.out]; exact Or.inr fun e => by simp [Value.ownBlock] at e; omega))
         have HK3 := hid (HK0.out.keep hpk.1 (fun i e hS => by cases e; have := (HK0.out.low _ hS).1; omega) (by cases hu : (Value.slice x4 f.kids.length y4).ownBlock with | none => exact Or.inl rfl | some i => exact Or.inr fun e => by have := (HK0.out.lt hu).1; simp at e; omega))
         have k2 := HX3.out.cell 2
         simp at k2
         have hxw3 : w1.heap.size < w3.heap.size := by omega
         have hm3' : (m3 : Int) < 3 := by omega
         clear hL hp3 hz3 hpk))
    all_goals go_wp2_with fail
    all_goals
      refine bodyPost_ret (v := .agg #[.int .i64 f.sort, .string f.text, .slice (some ⟨g2, 0, none⟩) (f.scopes.length + 1) cap2, .int .i64 f.frm, .slice x4 f.kids.length y4]) (by simp [results, Tryz.results28, go_sem, b0, b1, b2, b3, b4]) rfl ?_
      have hgs := grown_set w4 w1.heap.size 2 (.slice (some ⟨g2, 0, none⟩) (f.scopes.length + 1) cap2)
      have hs4 := HA.out.size
      have hg2 : w.heap.size + 2 ≤ g2 ∧ g2 ≠ w1.heap.size := by
        refine ⟨(HO4.out.lt g2 rfl).1, ?_⟩
        rcases HG2.out with h | h <;> omega
      have hO5 := HO4.out.kept hgs (Or.inr fun e => by simp [Value.ownBlock] at e; omega)
      have hO6 : (w4.setCell ⟨w1.heap.size, 2, none⟩ (.slice (some ⟨g2, 0, none⟩) (f.scopes.length + 1) cap2)).ownsRow (w.heap.size + 2) 3 1 (.slice (some ⟨g2, 0, none⟩) (f.scopes.length + 1) cap2) (f.scopes.length + 1) ((f.scopes ++ [z]).map (Value.int .i64)) := by
        rw [List.map_append]; exact hO5
      have hK5 := (HK3.out.keep HA.out (fun i e hS => by rw [E2.out] at e; simp [Value.ownBlock] at e; have := (HK0.out.low _ hS).1; omega) (by rw [E2.out]; cases hu : (Value.slice x4 f.kids.length y4).ownBlock with | none => exact Or.inl rfl | some i => exact Or.inr fun e => by have := (HK0.out.lt hu).1; simp [Value.ownBlock] at e; omega)).keep hgs (fun i e hS => by cases e; have := HSl.out _ hS; omega) (by cases hu : (Value.slice x4 f.kids.length y4).ownBlock with | none => exact Or.inl rfl | some i => exact Or.inr fun e => by have := Hkl.out i hu; simp at e; omega)
      have hcl : (f.scopes ++ [z]).length = f.scopes.length + 1 := by simp
      have hI6 := row_ints hO6 (show (f.scopes ++ [z]).length ≤ maxLen by rw [hcl]; unfold maxLen; have := Hc.out; omega) (B := fun i => w.heap.size + 2 ≤ i ∧ i < (w4.setCell ⟨w1.heap.size, 2, none⟩ (.slice (some ⟨g2, 0, none⟩) (f.scopes.length + 1) cap2)).heap.size) fun i h1 h2 => ⟨h1, h2⟩
      refine drawn_at (f := ⟨f.sort, f.text, f.scopes ++ [z], f.frm, f.kids⟩) (q := p + 1 + 1) (B := fun i => w.heap.size + 2 ≤ i ∧ i < (w4.setCell ⟨w1.heap.size, 2, none⟩ (.slice (some ⟨g2, 0, none⟩) (f.scopes.length + 1) cap2)).heap.size) (w2 := w4.setCell ⟨w1.heap.size, 2, none⟩ (.slice (some ⟨g2, 0, none⟩) (f.scopes.length + 1) cap2)) ((formAt_iff _ _ _ _ _ _ _ _).2 ⟨rfl, rfl, ht, hI6, rfl, hK5.forms (by unfold maxLen; have := Hc.out; omega) fun i h1 h2 => ⟨by omega, h2⟩⟩) (fun i hi => ⟨by omega, by omega, hi.2⟩) (by omega) ?_ (by omega) ((HP3.out.far HA.out (fun i e => by rw [E2.out] at e; simp [Value.ownBlock] at e; omega) hrb).far hgs (fun i e => by cases e; omega) hrb) hrb
      have := Hc.out
      rw [Fm.cost_eq]
      show f.text.size + (f.scopes ++ [z]).length + f.kids.length + Fm.costs f.kids ≤ _
      rw [hcl]; omega
  · go_wp2_with fail
    refine (pick_rd (HR2.out.alloc _) 3 (by omega) (by omega)).mono ?_
    rintro e w3 ⟨m3, hm3, rfl, hp3, hz3⟩
    have hs3 : w2.heap.size + 1 ≤ w3.heap.size := by rw [hz3]; simp
    have HX3 := hid ((HX2.out.more (by omega) _).picked hp3 (by omega))
    have HRs3 := hid ((HRs2.out.more (by omega) _).picked hp3 (by omega))
    have HP3 := hid ((HP2.out.below ((Below.refl w.heap.size w2).alloc (by omega) _) (Nat.le_refl _) hrb).trans hp3)
    have HQ3 := hid ((q_keep (lo := w.heap.size + 2) (hi := w1.heap.size) (World.grownBy_alloc w2 _ none) (fun g e => by cases e) (by omega)).trans (q_keep hp3.1 (fun g e => by cases e; omega) (by simp; omega)))
    have HL := (own_new w2 #[.int .i64 (-1), .int .i64 0, .int .i64 5] 3).picked hp3 (by omega)
    rw [hz2] at HL
    have l0 := HL.cell 0
    have l1 := HL.cell 1
    have l2 := HL.cell 2
    simp at l0 l1 l2
    clear hp3 HL
    obtain ⟨⟨a0, a1, a2, a3, a4⟩, t0, t1, t2, t3, t4⟩ := own_ten HX3.out
    obtain ⟨⟨b0, b1, b2, b3, b4⟩, z0, z1, z2, z3, z4⟩ := own_ten HRs3.out
    obtain rfl | rfl | rfl : m3 = 0 ∨ m3 = 1 ∨ m3 = 2 := by omega
    · go_wp2_with fail
      refine bodyPost_ret (v := .agg #[.int .i64 f.sort, .string f.text, .slice x2 f.scopes.length y2, .int .i64 (-1), .slice x4 f.kids.length y4]) (by simp [results, Tryz.results28, go_sem, b0, b1, b2, b3, b4]) rfl ?_
      have hgs := grown_set w3 w1.heap.size 3 (.int .i64 (-1))
      have hq4 := q_keep (lo := w.heap.size + 2) (hi := w1.heap.size) hgs (fun g e => by cases e; omega) (by omega)
      refine drawn_at (f := ⟨f.sort, f.text, f.scopes, -1, f.kids⟩) (q := p + 1 + 1) (w2 := w3.setCell ⟨w1.heap.size, 3, none⟩ (.int .i64 (-1))) (q_form (f := ⟨f.sort, f.text, f.scopes, -1, f.kids⟩) ht ((HI2.out.keep HQ3.out).keep hq4) ((HK2.out.keep HQ3.out).keep hq4) (by simp; omega)) (fun i hi => ⟨by omega, by omega, hi.2⟩) (by omega) ?_ (by omega) (HP3.out.far hgs (fun g e => by cases e; omega) hrb) hrb
      have := Hc.out
      rw [Fm.cost_eq]
      show f.text.size + f.scopes.length + f.kids.length + Fm.costs f.kids ≤ _
      omega
    · go_wp2_with fail
      refine bodyPost_ret (v := .agg #[.int .i64 f.sort, .string f.text, .slice x2 f.scopes.length y2, .int .i64 (0), .slice x4 f.kids.length y4]) (by simp [results, Tryz.results28, go_sem, b0, b1, b2, b3, b4]) rfl ?_
      have hgs := grown_set w3 w1.heap.size 3 (.int .i64 (0))
      have hq4 := q_keep (lo := w.heap.size + 2) (hi := w1.heap.size) hgs (fun g e => by cases e; omega) (by omega)
      refine drawn_at (f := ⟨f.sort, f.text, f.scopes, 0, f.kids⟩) (q := p + 1 + 1) (w2 := w3.setCell ⟨w1.heap.size, 3, none⟩ (.int .i64 (0))) (q_form (f := ⟨f.sort, f.text, f.scopes, 0, f.kids⟩) ht ((HI2.out.keep HQ3.out).keep hq4) ((HK2.out.keep HQ3.out).keep hq4) (by simp; omega)) (fun i hi => ⟨by omega, by omega, hi.2⟩) (by omega) ?_ (by omega) (HP3.out.far hgs (fun g e => by cases e; omega) hrb) hrb
      have := Hc.out
      rw [Fm.cost_eq]
      show f.text.size + f.scopes.length + f.kids.length + Fm.costs f.kids ≤ _
      omega
    · go_wp2_with fail
      refine bodyPost_ret (v := .agg #[.int .i64 f.sort, .string f.text, .slice x2 f.scopes.length y2, .int .i64 (5), .slice x4 f.kids.length y4]) (by simp [results, Tryz.results28, go_sem, b0, b1, b2, b3, b4]) rfl ?_
      have hgs := grown_set w3 w1.heap.size 3 (.int .i64 (5))
      have hq4 := q_keep (lo := w.heap.size + 2) (hi := w1.heap.size) hgs (fun g e => by cases e; omega) (by omega)
      refine drawn_at (f := ⟨f.sort, f.text, f.scopes, 5, f.kids⟩) (q := p + 1 + 1) (w2 := w3.setCell ⟨w1.heap.size, 3, none⟩ (.int .i64 (5))) (q_form (f := ⟨f.sort, f.text, f.scopes, 5, f.kids⟩) ht ((HI2.out.keep HQ3.out).keep hq4) ((HK2.out.keep HQ3.out).keep hq4) (by simp; omega)) (fun i hi => ⟨by omega, by omega, hi.2⟩) (by omega) ?_ (by omega) (HP3.out.far hgs (fun g e => by cases e; omega) hrb) hrb
      have := Hc.out
      rw [Fm.cost_eq]
      show f.text.size + f.scopes.length + f.kids.length + Fm.costs f.kids ≤ _
      omega
  · obtain ⟨g, c, N, S, e2, r, hgN, hN, hN1, hgl, hK, hkl, hSl⟩ := HC2.out
    obtain ⟨cs, r1, r2⟩ := hK.row
    have R0 := hid r
    have R1 := hid r1
    have R2 := hid r2
    have HK0 := hid hK
    have E2 := hid e2
    have Hkl := hid hkl
    have HSl := hid hSl
    clear r r1 r2 hK e2 hkl hSl
    obtain ⟨⟨c0, c1, c2, c3, c4⟩, u0, u1, u2, u3, u4⟩ := own_ten HX2.out
    go_wp2_with (at_builtin; refine wpList_append_lies _ rfl _ _ _ rfl N 26 i0 _ 5 80 Tryz.underlying24 Hi.out Hz0.out Hz1.out Hz2.out rfl (by omega) _ f.kids.length cs rfl (R1.out.alloc _) ⟨w1.heap.size + 1, 0, none⟩ 1 1 [.int .i64 3, .string ⟨#[]⟩, .slice none 0 0, .int .i64 0, .slice none 0 0] rfl rfl (by rw [← hz2]; exact World.news_of_block (cs := #[.int .i64 3, .string ⟨#[]⟩, .slice none 0 0, .int .i64 0, .slice none 0 0]) (heap_alloc_new _ _)) (by simp [Value.oneCell']) (by omega) (by unfold maxLen; have := Hc.out; omega) (by have := Hc.out; omega) (by simp; omega) (w1.heap.size + 1 + 1) (by simp; omega) ?_; intro g2 cap2 w3 hown hg hat hgl2; have hall := (World.grownBy_alloc w2 _ _).trans hg; have hxr : some w1.heap.size ≠ (Value.slice x4 f.kids.length y4).ownBlock := (fun e => by have := Hkl.out _ e.symm; omega); have HX3 := hid (HX2.out.far hall hxr); have HRs3 := hid (HRs2.out.far hall (fun e => by have := (HK0.out.lt e.symm).1; omega)); obtain ⟨⟨a0, a1, a2, a3, a4⟩, t0, t1, t2, t3, t4⟩ := own_ten HX3.out; obtain ⟨⟨b0, b1, b2, b3, b4⟩, z0, z1, z2, z3, z4⟩ := own_ten HRs3.out)
    refine bodyPost_ret (v := .agg #[.int .i64 f.sort, .string f.text, .slice x2 f.scopes.length y2, .int .i64 f.frm, .slice (some ⟨g2, 0, none⟩) (f.kids.length + 1) cap2]) (by simp [results, Tryz.results28, go_sem, b0, b1, b2, b3, b4]) rfl ?_
    have hgs := grown_set w3 w1.heap.size 4 (.slice (some ⟨g2, 0, none⟩) (f.kids.length + 1) cap2)
    have hs3 := hall.size
    have hg2 : N ≤ g2 ∧ g2 ≠ w1.heap.size := by
      refine ⟨(hown.lt g2 rfl).1, fun e => ?_⟩
      rcases hat with h | h
      · have := Hkl.out g2 h; omega
      · omega
    have hK4 := (HK0.out.snoc (f := ⟨3, ⟨#[]⟩, [], 0, []⟩) (v' := .slice (some ⟨g2, 0, none⟩) (f.kids.length + 1) cap2) R1.out R2.out ((formAt_iff _ _ _ _ _ _ _ _).2 ⟨rfl, rfl, Nat.zero_le _, ⟨none, 0, rfl, ⟨Nat.zero_le _, Nat.le_refl _⟩, Or.inl rfl⟩, rfl, none, 0, rfl, Nat.zero_le _, Or.inl rfl⟩) hall hown (either5 hat (fun e => e.symm) fun e => ⟨g2, rfl, by omega⟩)).keep hgs (fun i e hS => by cases e; have := HSl.out _ hS; omega) (Or.inr fun e => by simp [Value.ownBlock] at e; omega)
    have hO4 := (R0.out.kept hall (by rw [E2.out]; exact Or.inr fun e => by have := (HK0.out.lt (g := g) e.symm).1; omega)).kept hgs (by rw [E2.out]; exact Or.inr fun e => by simp [Value.ownBlock] at e; omega)
    have hcl : (f.kids ++ [(⟨3, ⟨#[]⟩, [], 0, []⟩ : Fm)]).length = f.kids.length + 1 := by simp
    have hcc : Fm.costs (f.kids ++ [(⟨3, ⟨#[]⟩, [], 0, []⟩ : Fm)]) = Fm.costs f.kids := by
      have h0 : (⟨3, ⟨#[]⟩, [], 0, []⟩ : Fm).cost = 0 := by rw [Fm.cost_eq]; rfl
      unfold Fm.costs; simp [h0]
    refine drawn_at (f := ⟨f.sort, f.text, f.scopes, f.frm, f.kids ++ [⟨3, ⟨#[]⟩, [], 0, []⟩]⟩) (q := p + 1) (B := fun i => w.heap.size + 2 ≤ i ∧ i < (w3.setCell ⟨w1.heap.size, 4, none⟩ (.slice (some ⟨g2, 0, none⟩) (f.kids.length + 1) cap2)).heap.size) (w2 := w3.setCell ⟨w1.heap.size, 4, none⟩ (.slice (some ⟨g2, 0, none⟩) (f.kids.length + 1) cap2)) ((formAt_iff _ _ _ _ _ _ _ _).2 ⟨rfl, rfl, ht, row_ints hO4 (show f.scopes.length ≤ maxLen by unfold maxLen; have := Hc.out; omega) fun i h1 h2 => ⟨h1, h2⟩, rfl, ?_⟩) (fun i hi => ⟨by omega, by omega, hi.2⟩) (by omega) ?_ (by omega) ((HP2.out.far hall (fun i e => by have := (HK0.out.lt e).1; omega) hrb).far hgs (fun i e => by cases e; omega) hrb) hrb
    · exact hK4.forms (by unfold maxLen; rw [hcl]; have := Hc.out; omega) fun i h1 h2 => ⟨by omega, h2⟩
    · have := Hc.out
      rw [Fm.cost_eq]
      show f.text.size + f.scopes.length + (f.kids ++ [(⟨3, ⟨#[]⟩, [], 0, []⟩ : Fm)]).length + Fm.costs (f.kids ++ [(⟨3, ⟨#[]⟩, [], 0, []⟩ : Fm)]) ≤ _
      rw [hcl, hcc]; omega
  · go_wp2_with fail
    refine (pick_rd HR2.out 3 (by omega) (by omega)).mono ?_
    rintro e w3 ⟨m3, hm3, rfl, hp3, hz3⟩
    have HX3 := hid (HX2.out.picked hp3 (by omega))
    have HRs3 := hid (HRs2.out.picked hp3 (by omega))
    have HP3 := hid (HP2.out.trans hp3)
    have HQ3 := hid (q_keep (lo := w.heap.size + 2) (hi := w1.heap.size) hp3.1 (fun g e => by cases e; omega) (by omega))
    clear hp3
    go_wp2_with fail
    go_loopw [6] (fun i wr => ∃ j : Nat, i = .int .i64 j ∧ j ≤ 100 ∧ ∃ (g : Fm) (x2 : Option Addr) (y2 : Nat) (x4 : Option Addr) (y4 : Nat), Hid (g.cost + j ≤ f.cost + 59) ∧ Hid (Own wr w1.heap.size 26 #[.int .i64 g.sort, .string g.text, .slice x2 g.scopes.length y2, .int .i64 g.frm, .slice x4 g.kids.length y4]) ∧ Hid (FormAt (fun b => (w.heap.size + 2 ≤ b ∧ b < wr.heap.size) ∧ b ≠ w1.heap.size) wr g (.int .i64 g.sort) (.string g.text) (.slice x2 g.scopes.length y2) (.int .i64 g.frm) (.slice x4 g.kids.length y4)) ∧ Hid (Own wr (w.heap.size + 1) 26 #[.int .i64 0, .string ⟨#[]⟩, .slice none 0 0, .int .i64 0, .slice none 0 0]) ∧ Hid (Picked rb v w wr (p + 1 + 1)) ∧ w1.heap.size + 1 ≤ wr.heap.size) (fun i _ => (intOf i).toNat)
    case atStart =>
      refine ⟨57 + m3, by go_num, by omega, f, x2, y2, x4, y4, by show f.cost + (57 + m3) ≤ _; omega, HX3, ?_, HRs3, HP3, by omega⟩
      exact (formAt_iff _ _ _ _ _ _ _ _).2 ⟨rfl, rfl, ht, (HI2.out.keep HQ3.out).mono fun i h => ⟨⟨h.1, by omega⟩, by omega⟩, rfl, (HK2.out.keep HQ3.out).mono fun i h => ⟨⟨h.1, by omega⟩, by omega⟩⟩
    case round =>
      obtain ⟨j, rfl, hj100, g, x2, y2, x4, y4, HCg, HX, HG, HS, HP, hws⟩ := hrel
      obtain ⟨⟨a0, a1, a2, a3, a4⟩, t0, t1, t2, t3, t4⟩ := own_ten HX.out
      have hxw : w1.heap.size < wr.heap.size := by omega
      by_cases hj : 0 < j
      · have hj' : (0 : Int) < (j : Int) := by omega
        go_wp2_with fail
        have hg5 := wr5_grown wr w1.heap.size (.int .i64 3) (.string ⟨#[]⟩) (.slice none 0 0) (.int .i64 0) (.slice (some ⟨wr.heap.size, 0, none⟩) 1 1)
        have hz5 := wr5_size wr w1.heap.size (.int .i64 3) (.string ⟨#[]⟩) (.slice none 0 0) (.int .i64 0) (.slice (some ⟨wr.heap.size, 0, none⟩) 1 1)
        have hX5 := (own_wr5 HX.out (.int .i64 3) (.string ⟨#[]⟩) (.slice none 0 0) (.int .i64 0) (.slice (some ⟨wr.heap.size, 0, none⟩) 1 1)).more (by rw [hz5]; omega) (.cells #[.int .i64 g.sort, .string g.text, .slice x2 g.scopes.length y2, .int .i64 g.frm, .slice x4 g.kids.length y4] 26)
        have hall := hg5.trans (World.grownBy_alloc (wr5 wr w1.heap.size (.int .i64 3) (.string ⟨#[]⟩) (.slice none 0 0) (.int .i64 0) (.slice (some ⟨wr.heap.size, 0, none⟩) 1 1)) (.cells #[.int .i64 g.sort, .string g.text, .slice x2 g.scopes.length y2, .int .i64 g.frm, .slice x4 g.kids.length y4] 26) (some w1.heap.size))
        have hz6 : ((wr5 wr w1.heap.size (.int .i64 3) (.string ⟨#[]⟩) (.slice none 0 0) (.int .i64 0) (.slice (some ⟨wr.heap.size, 0, none⟩) 1 1)).alloc (.cells #[.int .i64 g.sort, .string g.text, .slice x2 g.scopes.length y2, .int .i64 g.frm, .slice x4 g.kids.length y4] 26)).heap.size = wr.heap.size + 1 := by rw [World.size_alloc, hz5]
        have hnew := own_new (wr5 wr w1.heap.size (.int .i64 3) (.string ⟨#[]⟩) (.slice none 0 0) (.int .i64 0) (.slice (some ⟨wr.heap.size, 0, none⟩) 1 1)) #[.int .i64 g.sort, .string g.text, .slice x2 g.scopes.length y2, .int .i64 g.frm, .slice x4 g.kids.length y4] 26
        rw [hz5] at hnew
        obtain ⟨⟨n0, n1, n2, n3, n4⟩, -⟩ := own_ten hnew
        refine ⟨⟨j - 1, by go_num, by omega, ⟨3, ⟨#[]⟩, [], 0, [g]⟩, none, 0, some ⟨wr.heap.size, 0, none⟩, 1, ?_, ?_, ?_, ?_, ?_, ?_⟩, by simp [intOf]; omega⟩
        · have := HCg.out
          show Fm.cost _ + _ ≤ _
          rw [Fm.cost_eq]
          show 0 + 0 + 1 + Fm.costs [g] + (j - 1) ≤ _
          rw [Fm.costs_cons, Fm.costs_nil]; omega
        · exact hX5
        · refine (formAt_iff _ _ _ _ _ _ _ _).2 ⟨rfl, rfl, Nat.zero_le _, ⟨none, 0, rfl, ⟨Nat.zero_le _, Nat.le_refl _⟩, Or.inl rfl⟩, rfl, some ⟨wr.heap.size, 0, none⟩, 1, rfl, (by unfold maxLen; show 1 ≤ _; omega), Or.inr ⟨wr.heap.size, 0, rfl, ⟨⟨by omega, by show _ < (World.alloc (wr5 _ _ _ _ _ _ _) _).heap.size; rw [hz6]; omega⟩, by omega⟩, RowAt.mk _ fun i hi => ?_⟩⟩
          have hi0 : i = 0 := by simp at hi; omega
          subst hi0
          refine ⟨_, _, _, _, _, n0, n1, n2, n3, n4, ?_⟩
          refine FormAt.mono (fun b hb => ⟨⟨hb.1.1, by show _ < (World.alloc (wr5 _ _ _ _ _ _ _) _).heap.size; rw [hz6]; have := hb.1.2; omega⟩, hb.2⟩) _ (FormAt.keep (fun b hb => hall.block b hb.1.2 fun e => hb.2 (by cases e; rfl)) g HG.out)
        · exact HS.out.far hall (by simp; omega)
        · exact HP.out.far hall (fun i e => by cases e; omega) hrb
        · show _ ≤ (World.alloc (wr5 _ _ _ _ _ _ _) _).heap.size
          rw [hz6]; omega
      · have hj0 : j = 0 := by omega
        subst hj0
        obtain ⟨⟨b0, b1, b2, b3, b4⟩, z0, z1, z2, z3, z4⟩ := own_ten HS.out
        go_wp2_with fail
        refine bodyPost_ret (v := .agg #[.int .i64 g.sort, .string g.text, .slice x2 g.scopes.length y2, .int .i64 g.frm, .slice x4 g.kids.length y4]) (by simp [results, Tryz.results28, go_sem, b0, b1, b2, b3, b4]) rfl ?_
        have := HCg.out
        exact drawn_at (f := g) (q := p + 1 + 1) HG.out (fun i hi => ⟨by omega, by omega, hi.1.2⟩) (by omega) (by omega) (by omega) HP.out hrb

end Go.Proofs.YtjbejnibiebjgaaGreat

namespace Go.Proofs.YtjbejnibiebjgaaGreat
open Go.RowKit Go.Siskin

set_option maxRecDepth 20000 in
set_option maxHeartbeats 2000000 in
theorem l8Any_any {R : Nat → Prop} {w : World} {rb n p : Nat} {v : Value} (h : RdAt R w rb n p v) (hp : p ≤ 800000) :
    Calls Tryz.prog 14 #[.pointer (some ⟨rb, 0, none⟩)] w (Drawn rb v w p 700 1000) := by
  have HR := hid h
  have hrb := h.own.lt
  clear h
  have hb3 : bnd 3 = 640 := by decide
  go_enter Tryz.func14, Tryz.ntmps14
  go_wp2_with fail
  refine (form_all 3 (by omega) R (w.alloc _) rb n p v (HR.out.alloc _) (by omega)).mono ?_
  rintro e w1 ⟨c0, c1, c2, c3, c4, f, q, rfl, hf, hcost, hq, hp1⟩
  have HR1 := hid ((HR.out.alloc _).picked hp1 (by omega))
  have HB1 := hid ((own_new w #[.int .i64 0, .string ⟨#[]⟩, .slice none 0 0, .int .i64 0, .slice none 0 0] 26).picked hp1 (by omega))
  have HP1 := hid ((HR.out.now.below ((Below.refl w.heap.size w).alloc (Nat.le_refl _) _) (Nat.le_refl _) hrb).trans hp1)
  have hs1 := hp1.1.size
  simp only [World.size_alloc] at hs1
  have HF1 := hid (FormAt.mono (B' := fun b => w.heap.size + 1 ≤ b ∧ b < w1.heap.size) (fun b hb => ⟨by have := hb.1; simp at this; omega, hb.2⟩) _ hf)
  obtain ⟨rfl, rfl, -, h2, rfl, h4⟩ := (formAt_iff _ _ _ _ _ _ _ _).1 hf
  obtain ⟨x2, y2, rfl, -⟩ := h2
  obtain ⟨x4, y4, rfl, -⟩ := h4
  clear hf hp1
  go_wp2_with fail
  refine (pick_rd (HR1.out.alloc _) 20 (by omega) (by omega)).mono ?_
  rintro e w2 ⟨m, hm, rfl, hp2, hz2⟩
  have HR2 := hid ((HR1.out.alloc _).picked hp2 (by omega))
  have HB2 := hid ((HB1.out.more (by omega) _).picked hp2 (by omega))
  have HX2 := hid ((own_new w1 #[.int .i64 f.sort, .string f.text, .slice x2 f.scopes.length y2, .int .i64 f.frm, .slice x4 f.kids.length y4] 26).picked hp2 (by omega))
  have HP2 := hid ((HP1.out.below ((Below.refl w.heap.size w1).alloc (by omega) _) (Nat.le_refl _) hrb).trans hp2)
  have HF2 := hid (FormAt.keep ((q_keep (lo := w.heap.size + 1) (hi := w1.heap.size) (World.grownBy_alloc w1 _ none) (fun g e => by cases e) (Nat.le_refl _)).trans (q_keep hp2.1 (fun g e => by cases e; omega) (by simp))) f HF1.out)
  simp only [World.size_alloc] at hz2
  clear hp2
  obtain ⟨⟨a0, a1, a2, a3, a4⟩, -⟩ := own_ten HX2.out
  by_cases hm0 : m = 0
  · subst hm0
    go_wp2_with fail
    refine (l8Spoil_any HR2.out (by omega) f (fun b => w.heap.size + 1 ≤ b ∧ b < w1.heap.size) _ _ _ _ _ HF2.out (fun b hb => by omega) (by omega)).mono ?_
    rintro e w3 ⟨d0, d1, d2, d3, d4, f3, q3, rfl, hf3, hcost3, hq3, hp3⟩
    have HP3 := hid (HP2.out.trans hp3)
    have hs3 := hp3.1.size
    have HF3 := hid hf3
    obtain ⟨rfl, rfl, -, h2, rfl, h4⟩ := (formAt_iff _ _ _ _ _ _ _ _).1 hf3
    obtain ⟨u2, v2, rfl, -⟩ := h2
    obtain ⟨u4, v4, rfl, -⟩ := h4
    obtain ⟨⟨b0, b1, b2, b3, b4⟩, z0, z1, z2, z3, z4⟩ := own_ten (HB2.out.picked hp3 (by omega))
    clear hf3 hp3
    go_wp2_with fail
    refine bodyPost_ret (v := .agg #[.int .i64 f3.sort, .string f3.text, .slice u2 f3.scopes.length v2, .int .i64 f3.frm, .slice u4 f3.kids.length v4]) (by simp [results, Tryz.results14, go_sem, b0, b1, b2, b3, b4]) rfl ?_
    exact drawn_put HF3.out (fun i hi => ⟨by have := hi.1; omega, hi.2⟩) (by omega) (by omega) HP3.out hrb
  · have hm0' : ((m : Int) == 0) = false := by simp; omega
    obtain ⟨⟨b0, b1, b2, b3, b4⟩, z0, z1, z2, z3, z4⟩ := own_ten HB2.out
    go_wp2_with fail
    refine bodyPost_ret (v := .agg #[.int .i64 f.sort, .string f.text, .slice x2 f.scopes.length y2, .int .i64 f.frm, .slice x4 f.kids.length y4]) (by simp [results, Tryz.results14, go_sem, b0, b1, b2, b3, b4]) rfl ?_
    exact drawn_put HF2.out (fun i hi => ⟨by omega, by omega⟩) (by omega) (by omega) HP2.out hrb

end Go.Proofs.YtjbejnibiebjgaaGreat
