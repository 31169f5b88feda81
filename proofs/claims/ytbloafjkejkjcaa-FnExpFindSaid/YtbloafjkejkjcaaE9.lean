/- The drawing of binds and a form, DrawExpFind. Condition: the code's bytes lie in memory as BytesAt says. -/
import Derived.Test.YtbloafjkejkjcaaE7
import Derived.Test.YtbloafjkejkjcaaE8
import Derived.RegionTactic
namespace Go.Proofs.Ytbloafjkejkjcaa
open Go.RowKit Go.Siskin

theorem Picked.toBelow {rb : Nat} {v : Value} {w w' : World} {q N : Nat} (h : Picked rb v w w' q) (hr : N ≤ rb) (hs : N ≤ w.heap.size) : Below N w w' :=
  ⟨h.1.os, h.1.tape, h.1.output, h.1.size, fun i hi => h.1.block i (by omega) fun e => by cases e; omega⟩
theorem grown_below {w w' : World} {row : Option Nat} {N : Nat} (h : w.grownBy w' row) (hr : ∀ g, row = some g → N ≤ g) (hs : N ≤ w.heap.size) : Below N w w' :=
  ⟨h.os, h.tape, h.output, h.size, fun i hi => h.block i (by omega) fun e => by have := hr i e.symm; omega⟩

/-- What was drawn: binds, and a form. -/
def DrawnFind (w : World) (e : Ending) (w' : World) : Prop := ∃ (u : Value) (ks : List Bd) (c0 c1 c2 c3 c4 : Value) (f : Fm), e = .returned (.tuple #[u, .agg #[c0, c1, c2, c3, c4]]) ∧ BindsAt (Fresh w w') w' u ks ∧ FormAt (Fresh w w') w' f c0 c1 c2 c3 c4 ∧ ks.length ≤ 5 ∧ Bd.costs ks ≤ 100 ∧ f.cost ≤ 1000 ∧ (∀ d ∈ ks, d.name.size = 2) ∧ Below w.heap.size w w'

theorem drawnFind_put {w w2 w3 : World} {u : Value} {ks : List Bd} {c0 c1 c2 c3 c4 : Value} {f : Fm} {B B' : Nat → Prop} (hg : w2.grownBy w3 (some w.heap.size)) (hz : w3.heap.size = w2.heap.size) (hu : BindsAt B w2 u ks) (hf : FormAt B' w2 f c0 c1 c2 c3 c4) (hB : ∀ b, B b → w.heap.size < b ∧ b < w2.heap.size) (hB' : ∀ b, B' b → w.heap.size < b ∧ b < w2.heap.size) (h5 : ks.length ≤ 5) (hc : Bd.costs ks ≤ 100) (hfc : f.cost ≤ 1000) (hn : ∀ d ∈ ks, d.name.size = 2) (hb : Below w.heap.size w w2) (hs : w.heap.size < w2.heap.size) :
    DrawnFind w (.returned (.tuple #[u, .agg #[c0, c1, c2, c3, c4]])) w3 := by
  have k1 : SameOn B w2 w3 := fun b h => hg.block b (hB b h).2 fun e => by have := (hB b h).1; cases e; omega
  have k2 : SameOn B' w2 w3 := fun b h => hg.block b (hB' b h).2 fun e => by have := (hB' b h).1; cases e; omega
  refine ⟨u, ks, c0, c1, c2, c3, c4, f, rfl, (hu.keep k1).mono fun b h => ⟨Nat.le_of_lt (hB b h).1, by rw [hz]; exact (hB b h).2⟩, FormAt.mono (fun b h => ⟨Nat.le_of_lt (hB' b h).1, by rw [hz]; exact (hB' b h).2⟩) _ (FormAt.keep k2 f hf), h5, hc, hfc, hn, hb.trans (grown_below hg (fun g e => by cases e; exact Nat.le_refl _) (by omega))⟩

theorem grown_drew {w w' : World} {row : Option Nat} (h : w.grownBy w' row) : w.grownBy w'.drew row := ⟨h.os, h.tape, h.output, h.size, h.block⟩
theorem drawnFind_at {w w2 : World} {u : Value} {ks : List Bd} {c0 c1 c2 c3 c4 : Value} {f : Fm} {B B' : Nat → Prop} (hu : BindsAt B w2 u ks) (hf : FormAt B' w2 f c0 c1 c2 c3 c4) (hB : ∀ b, B b → w.heap.size < b ∧ b < w2.heap.size) (hB' : ∀ b, B' b → w.heap.size < b ∧ b < w2.heap.size) (h5 : ks.length ≤ 5) (hc : Bd.costs ks ≤ 100) (hfc : f.cost ≤ 1000) (hn : ∀ d ∈ ks, d.name.size = 2) (hb : Below w.heap.size w w2) (hs : w.heap.size < w2.heap.size) :
    DrawnFind w (.returned (.tuple #[u, .agg #[c0, c1, c2, c3, c4]])) (wr5 w2 w.heap.size c0 c1 c2 c3 c4).drew :=
  drawnFind_put (grown_drew (wr5_grown w2 w.heap.size c0 c1 c2 c3 c4)) (by simp [wr5]) hu hf hB hB' h5 hc hfc hn hb hs

set_option maxRecDepth 20000 in
set_option maxHeartbeats 4000000 in
theorem drawFind_any (R : Nat → Prop) (w : World) (n : Nat) (v : Value) (hv : BytesAt R w v n) (hn : n ≤ 1048576) (hR : ∀ b, R b → b < w.heap.size) :
    Calls Try.prog 4 #[v] w (DrawnFind w) := by
  have HV := hid hv
  have HR := hid hR
  clear hv hR
  go_enter Try.func4, Try.ntmps4
  go_wp2_with fail
  refine (l1Open_any R (w.alloc _) n v (HV.out.keep ((SameOn.refl _ _).alloc HR.out _)) hn (fun b hb => by have := HR.out b hb; simp; omega)).mono ?_
  rintro e w1 ⟨n', v', rfl, hrd, hw1⟩
  simp only [World.size_alloc] at hrd hw1
  have HD1 := hid hrd
  have HB1 := hid ((own_new w #[.int .i64 0, .string ⟨#[]⟩, .slice none 0 0, .int .i64 0, .slice none 0 0] 27).keep hw1 (by omega))
  have HW1 := hid (((Below.refl w.heap.size w).alloc (Nat.le_refl _) _).trans (hw1.mono (by omega)))
  have hs1 : w.heap.size + 1 < w1.heap.size := hrd.own.lt
  clear hrd hw1
  go_wp2_with fail
  refine (l8Binds_any HD1.out (by omega)).mono ?_
  rintro e w2 ⟨u, ks, q2, rfl, hb2, hk5, hkc, hkn, hq2, hp2⟩
  have HU2 := hid (hb2.mono (B' := fun b => w1.heap.size ≤ b ∧ b < w2.heap.size) fun b hb => hb)
  have HN := hid hkn
  have HD2 := hid (HD1.out.picked hp2 (by omega))
  have HB2 := hid (HB1.out.picked hp2 (by omega))
  have HW2 := hid (HW1.out.trans (hp2.toBelow (by omega) (by omega)))
  have hs2 := hp2.1.size
  obtain ⟨ua, uc, rfl, -⟩ := hb2
  clear hp2 hkn
  go_wp2_with fail
  refine (l8Id_any HD2.out (by omega)).mono ?_
  rintro e w3 ⟨c0, c1, c2, c3, c4, f, q3, rfl, hf, hfs, hfk, hcost, hq3, hp3⟩
  have HU3 := hid ((HU2.out.keep (q_keep hp3.1 (fun g e => by cases e; omega) (Nat.le_refl _))).mono (B' := fun b => w1.heap.size ≤ b ∧ b < w3.heap.size) fun b hb => ⟨hb.1, by have := hp3.1.size; omega⟩)
  have HF3 := hid (FormAt.mono (B' := fun b => w1.heap.size ≤ b ∧ b < w3.heap.size) (fun b hb => ⟨by have := hb.1; omega, hb.2⟩) _ hf)
  have HD3 := hid (HD2.out.picked hp3 (by omega))
  have HB3 := hid (HB2.out.picked hp3 (by omega))
  have HW3 := hid (HW2.out.trans (hp3.toBelow (by omega) (by omega)))
  have hs3 := hp3.1.size
  obtain ⟨rfl, rfl, ht, h2, rfl, h4⟩ := (formAt_iff _ _ _ _ _ _ _ _).1 hf
  obtain ⟨x2, y2, rfl, -⟩ := h2
  obtain ⟨x4, y4, rfl, -⟩ := h4
  clear hf hp3 hfs hfk HU2
  go_wp2_with fail
  refine (pick_rd (HD3.out.alloc _) 2 (by omega) (by omega)).mono ?_
  rintro e w4 ⟨m, hm, rfl, hp4, hz4⟩
  have HD4 := hid ((HD3.out.alloc _).picked hp4 (by omega))
  have HB4 := hid ((HB3.out.more (by omega) _).picked hp4 (by omega))
  have HX4 := hid ((own_new w3 #[.int .i64 f.sort, .string f.text, .slice x2 f.scopes.length y2, .int .i64 f.frm, .slice x4 f.kids.length y4] 27).picked hp4 (by omega))
  have HQ4 := hid ((q_keep (lo := w1.heap.size) (hi := w3.heap.size) (World.grownBy_alloc w3 (.cells #[.int .i64 f.sort, .string f.text, .slice x2 f.scopes.length y2, .int .i64 f.frm, .slice x4 f.kids.length y4] 27) none) (fun g e => by cases e) (Nat.le_refl _)).trans (q_keep hp4.1 (fun g e => by cases e; omega) (by simp)))
  have HU4 := hid (HU3.out.keep HQ4.out)
  have HF4 := hid (FormAt.keep HQ4.out f HF3.out)
  have HW4 := hid ((HW3.out.alloc (by omega) _).trans (hp4.toBelow (by omega) (by simp; omega)))
  simp only [World.size_alloc] at hz4
  clear hp4 HU3 HF3 HD3 HB3
  obtain ⟨⟨a0, a1, a2, a3, a4⟩, t0, t1, t2, t3, t4⟩ := own_ten HX4.out
  by_cases hm0 : m = 0
  · subst hm0
    have hgs := grown_set w4 w3.heap.size 2 (.slice (some ⟨w3.heap.size + 1, 0, none⟩) 3 3)
    have hx5 := HX4.out.set 2 (.slice (some ⟨w3.heap.size + 1, 0, none⟩) 3 3)
    simp at hx5
    have HX5 := hid hx5
    have HG5 := hid hgs
    clear hgs hx5
    go_wp2_with fail
    obtain ⟨W5, hW5⟩ : ∃ W5, W5 = (w4.setCell ⟨w3.heap.size, 2, none⟩ (.slice (some ⟨w3.heap.size + 1, 0, none⟩) 3 3)).alloc (.cells #[.int .i64 0, .int .i64 1, .int .i64 2] 3) := ⟨_, rfl⟩
    rw [← hW5]
    have hz5 : W5.heap.size = w3.heap.size + 2 := by rw [hW5]; simp; omega
    have hg5 : w4.grownBy W5 (some w3.heap.size) := by rw [hW5]; exact HG5.out.trans (World.grownBy_alloc _ _ _)
    have hL5 := own_new (w4.setCell ⟨w3.heap.size, 2, none⟩ (.slice (some ⟨w3.heap.size + 1, 0, none⟩) 3 3)) #[.int .i64 0, .int .i64 1, .int .i64 2] 3
    rw [← hW5, show (w4.setCell ⟨w3.heap.size, 2, none⟩ (.slice (some ⟨w3.heap.size + 1, 0, none⟩) 3 3)).heap.size = w3.heap.size + 1 by simp; omega] at hL5
    have HX5' : Hid (Own W5 w3.heap.size 27 #[.int .i64 f.sort, .string f.text, .slice (some ⟨w3.heap.size + 1, 0, none⟩) 3 3, .int .i64 f.frm, .slice x4 f.kids.length y4]) := by
      show Own _ _ _ _
      rw [hW5]; exact HX5.out.more (by simp; omega) _
    have HD5 := hid (HD4.out.far hg5 fun g e => by cases e; exact ⟨fun h => by have := HR.out _ h; omega, by omega⟩)
    have HB5 := hid (HB4.out.far hg5 (by simp; omega))
    have HU5 := hid (HU4.out.keep (q_keep hg5 (fun g e => by cases e; omega) (by omega)))
    have HW5 := hid (HW4.out.trans (grown_below hg5 (fun g e => by cases e; omega) (by omega)))
    obtain ⟨-, -, -, -, -, hfk⟩ := (formAt_iff _ _ _ _ _ _ _ _).1 HF4.out
    obtain ⟨f5, hf5⟩ : ∃ f5 : Fm, f5 = ⟨f.sort, f.text, [0, 1, 2], f.frm, f.kids⟩ := ⟨_, rfl⟩
    have HF5 : Hid (FormAt (fun b => (w1.heap.size ≤ b ∧ b < W5.heap.size) ∧ b ≠ w3.heap.size) W5 f5 (.int .i64 f5.sort) (.string f5.text) (.slice (some ⟨w3.heap.size + 1, 0, none⟩) f5.scopes.length 3) (.int .i64 f5.frm) (.slice x4 f5.kids.length y4)) := by
      show FormAt _ _ _ _ _ _ _ _
      subst hf5
      refine (formAt_iff _ _ _ _ _ _ _ _).2 ⟨rfl, rfl, ht, ⟨_, 3, rfl, by unfold maxLen; show 3 ≤ _; omega, Or.inr ⟨w3.heap.size + 1, 0, rfl, ⟨⟨by omega, by omega⟩, by omega⟩, fun i hi => ?_⟩⟩, rfl, (hfk.keep (q_keep hg5 (fun g e => by cases e; omega) (by omega))).mono fun b hb => ⟨⟨hb.1, by omega⟩, by omega⟩⟩
      have hi3 : i < 3 := hi
      rw [Nat.zero_add, hL5.cell]
      obtain rfl | rfl | rfl : i = 0 ∨ i = 1 ∨ i = 2 := by omega
      · rfl
      · rfl
      · rfl
    have HX5 : Hid (Own W5 w3.heap.size 27 #[.int .i64 f5.sort, .string f5.text, .slice (some ⟨w3.heap.size + 1, 0, none⟩) f5.scopes.length 3, .int .i64 f5.frm, .slice x4 f5.kids.length y4]) := by
      show Own _ _ _ _
      subst hf5; exact HX5'.out
    have hc5 : f5.cost ≤ 20 := by
      have h1 := Fm.cost_eq f
      subst hf5
      rw [Fm.cost_eq]
      show f.text.size + 3 + f.kids.length + Fm.costs f.kids ≤ _
      omega
    clear hW5 hg5 hL5 HX5' HG5 hfk hf5 a0 a1 a2 a3 a4 t0 t1 t2 t3 t4
    refine (pick_rd HD5.out 20 (by omega) (by omega)).mono ?_
    rintro e w6 ⟨m2, hm2, rfl, hp6, hz6⟩
    have HD6 := hid (HD5.out.picked hp6 (by omega))
    have HB6 := hid (HB5.out.picked hp6 (by omega))
    have HX6 := hid (HX5.out.picked hp6 (by omega))
    have HU6 := hid (HU5.out.keep (q_keep (lo := w1.heap.size) (hi := w3.heap.size) hp6.1 (fun g e => by cases e; omega) (by omega)))
    have HF6 := hid (FormAt.keep (fun b (hb : (w1.heap.size ≤ b ∧ b < W5.heap.size) ∧ b ≠ w3.heap.size) => hp6.1.block b hb.1.2 fun e => by cases e; omega) f5 HF5.out)
    have HW6 := hid (HW5.out.trans (hp6.toBelow (by omega) (by omega)))
    clear hp6
    obtain ⟨⟨p0, p1, p2, p3, p4⟩, s0, s1, s2', s3, s4⟩ := own_ten HX6.out
    by_cases hm20 : m2 = 0
    · subst hm20
      go_wp2_with fail
      refine (l8Any_any HD6.out (by omega)).mono ?_
      rintro e w7 ⟨d0, d1, d2, d3, d4, f7, q7, rfl, hf7, hcost7, hq7, hp7⟩
      have hs7 := hp7.1.size
      have HB7 := hid (HB6.out.picked hp7 (by omega))
      have HX7 := hid (HX6.out.picked hp7 (by omega))
      have HU7 := hid (HU6.out.keep (q_keep (lo := w1.heap.size) (hi := w3.heap.size) hp7.1 (fun g e => by cases e; omega) (by omega)))
      have HW7 := hid (HW6.out.trans (hp7.toBelow (by omega) (by omega)))
      have HF7 := hid hf7
      obtain ⟨rfl, rfl, -, h2, rfl, h4⟩ := (formAt_iff _ _ _ _ _ _ _ _).1 hf7
      obtain ⟨r2, j2, rfl, -⟩ := h2
      obtain ⟨r4, j4, rfl, -⟩ := h4
      clear hf7 hp7 p0 p1 p2 p3 p4 s0 s1 s2' s3 s4
      obtain ⟨⟨p0, p1, p2, p3, p4⟩, s0, s1, s2', s3, s4⟩ := own_ten HX7.out
      obtain ⟨⟨b0, b1, b2, b3, b4⟩, z0, z1, z2, z3, z4⟩ := own_ten HB7.out
      have hne : w3.heap.size ≠ w.heap.size := by omega
      have hne' : w.heap.size ≠ w3.heap.size := by omega
      go_wp2_with fail
      go_region
      all_goals
        go_wp2_with fail
        refine bodyPost_ret (v := .tuple #[.slice ua ks.length uc, .agg #[.int .i64 f7.sort, .string f7.text, .slice r2 f7.scopes.length j2, .int .i64 f7.frm, .slice r4 f7.kids.length j4]]) (by simp [results, Try.results4, go_sem, b0, b1, b2, b3, b4]) rfl ?_
        have hgI := wr5_grown w7 w3.heap.size (.int .i64 f7.sort) (.string f7.text) (.slice r2 f7.scopes.length j2) (.int .i64 f7.frm) (.slice r4 f7.kids.length j4)
        have hzI := wr5_size w7 w3.heap.size (.int .i64 f7.sort) (.string f7.text) (.slice r2 f7.scopes.length j2) (.int .i64 f7.frm) (.slice r4 f7.kids.length j4)
        exact drawnFind_at (w2 := wr5 w7 w3.heap.size (.int .i64 f7.sort) (.string f7.text) (.slice r2 f7.scopes.length j2) (.int .i64 f7.frm) (.slice r4 f7.kids.length j4)) (B := fun b => w1.heap.size ≤ b ∧ b < w3.heap.size) (B' := Fresh w6 w7) (f := f7) (HU7.out.keep (q_keep hgI (fun g e => by cases e; omega) (by omega))) (FormAt.keep (fun b hb => hgI.block b hb.2 fun e => by have := hb.1; cases e; omega) f7 HF7.out) (fun b hb => ⟨by omega, by omega⟩) (fun b hb => ⟨by have := hb.1; omega, by rw [hzI]; exact hb.2⟩) hk5 hkc (by omega) HN.out (HW7.out.trans (grown_below hgI (fun g e => by cases e; omega) (by omega))) (by omega)
    · have hm2' : ((m2 : Int) == 0) = false := by simp; omega
      obtain ⟨⟨b0, b1, b2, b3, b4⟩, z0, z1, z2, z3, z4⟩ := own_ten HB6.out
      go_wp2_with fail
      go_region
      all_goals
        go_wp2_with fail
        refine bodyPost_ret (v := .tuple #[.slice ua ks.length uc, .agg #[.int .i64 f5.sort, .string f5.text, .slice (some ⟨w3.heap.size + 1, 0, none⟩) f5.scopes.length 3, .int .i64 f5.frm, .slice x4 f5.kids.length y4]]) (by simp [results, Try.results4, go_sem, b0, b1, b2, b3, b4]) rfl ?_
        exact drawnFind_at (w2 := w6) (B := fun b => w1.heap.size ≤ b ∧ b < w3.heap.size) (B' := fun b => (w1.heap.size ≤ b ∧ b < W5.heap.size) ∧ b ≠ w3.heap.size) (f := f5) HU6.out HF6.out (fun b hb => ⟨by omega, by omega⟩) (fun b hb => ⟨by omega, by omega⟩) hk5 hkc (by omega) HN.out HW6.out (by omega)
  · have hm0' : ((m : Int) == 0) = false := by simp; omega
    go_wp2_with fail
    obtain ⟨W5, hW5⟩ : ∃ W5, W5 = w4 := ⟨_, rfl⟩
    rw [← hW5]
    obtain ⟨f5, hf5⟩ : ∃ f5, f5 = f := ⟨_, rfl⟩
    rw [← hf5] at HX4 HF4 hcost
    rw [← hW5] at HX4 HF4 HD4 HB4 HU4 HW4 hz4
    have HX5 := HX4
    have HD5 := HD4
    have HB5 := HB4
    have HU5 := HU4
    have HW5 := HW4
    have HF5 := hid (FormAt.mono (B' := fun b => (w1.heap.size ≤ b ∧ b < W5.heap.size) ∧ b ≠ w3.heap.size) (fun b hb => ⟨⟨hb.1, by omega⟩, by omega⟩) _ HF4.out)
    clear hW5 hf5 a0 a1 a2 a3 a4 t0 t1 t2 t3 t4
    refine (pick_rd HD5.out 20 (by omega) (by omega)).mono ?_
    rintro e w6 ⟨m2, hm2, rfl, hp6, hz6⟩
    have HD6 := hid (HD5.out.picked hp6 (by omega))
    have HB6 := hid (HB5.out.picked hp6 (by omega))
    have HX6 := hid (HX5.out.picked hp6 (by omega))
    have HU6 := hid (HU5.out.keep (q_keep (lo := w1.heap.size) (hi := w3.heap.size) hp6.1 (fun g e => by cases e; omega) (by omega)))
    have HF6 := hid (FormAt.keep (fun b (hb : (w1.heap.size ≤ b ∧ b < W5.heap.size) ∧ b ≠ w3.heap.size) => hp6.1.block b hb.1.2 fun e => by cases e; omega) f5 HF5.out)
    have HW6 := hid (HW5.out.trans (hp6.toBelow (by omega) (by omega)))
    clear hp6
    obtain ⟨⟨p0, p1, p2, p3, p4⟩, s0, s1, s2', s3, s4⟩ := own_ten HX6.out
    by_cases hm20 : m2 = 0
    · subst hm20
      go_wp2_with fail
      refine (l8Any_any HD6.out (by omega)).mono ?_
      rintro e w7 ⟨d0, d1, d2, d3, d4, f7, q7, rfl, hf7, hcost7, hq7, hp7⟩
      have hs7 := hp7.1.size
      have HB7 := hid (HB6.out.picked hp7 (by omega))
      have HX7 := hid (HX6.out.picked hp7 (by omega))
      have HU7 := hid (HU6.out.keep (q_keep (lo := w1.heap.size) (hi := w3.heap.size) hp7.1 (fun g e => by cases e; omega) (by omega)))
      have HW7 := hid (HW6.out.trans (hp7.toBelow (by omega) (by omega)))
      have HF7 := hid hf7
      obtain ⟨rfl, rfl, -, h2, rfl, h4⟩ := (formAt_iff _ _ _ _ _ _ _ _).1 hf7
      obtain ⟨r2, j2, rfl, -⟩ := h2
      obtain ⟨r4, j4, rfl, -⟩ := h4
      clear hf7 hp7 p0 p1 p2 p3 p4 s0 s1 s2' s3 s4
      obtain ⟨⟨p0, p1, p2, p3, p4⟩, s0, s1, s2', s3, s4⟩ := own_ten HX7.out
      obtain ⟨⟨b0, b1, b2, b3, b4⟩, z0, z1, z2, z3, z4⟩ := own_ten HB7.out
      have hne : w3.heap.size ≠ w.heap.size := by omega
      have hne' : w.heap.size ≠ w3.heap.size := by omega
      go_wp2_with fail
      go_region
      all_goals
        go_wp2_with fail
        refine bodyPost_ret (v := .tuple #[.slice ua ks.length uc, .agg #[.int .i64 f7.sort, .string f7.text, .slice r2 f7.scopes.length j2, .int .i64 f7.frm, .slice r4 f7.kids.length j4]]) (by simp [results, Try.results4, go_sem, b0, b1, b2, b3, b4]) rfl ?_
        have hgI := wr5_grown w7 w3.heap.size (.int .i64 f7.sort) (.string f7.text) (.slice r2 f7.scopes.length j2) (.int .i64 f7.frm) (.slice r4 f7.kids.length j4)
        have hzI := wr5_size w7 w3.heap.size (.int .i64 f7.sort) (.string f7.text) (.slice r2 f7.scopes.length j2) (.int .i64 f7.frm) (.slice r4 f7.kids.length j4)
        exact drawnFind_at (w2 := wr5 w7 w3.heap.size (.int .i64 f7.sort) (.string f7.text) (.slice r2 f7.scopes.length j2) (.int .i64 f7.frm) (.slice r4 f7.kids.length j4)) (B := fun b => w1.heap.size ≤ b ∧ b < w3.heap.size) (B' := Fresh w6 w7) (f := f7) (HU7.out.keep (q_keep hgI (fun g e => by cases e; omega) (by omega))) (FormAt.keep (fun b hb => hgI.block b hb.2 fun e => by have := hb.1; cases e; omega) f7 HF7.out) (fun b hb => ⟨by omega, by omega⟩) (fun b hb => ⟨by have := hb.1; omega, by rw [hzI]; exact hb.2⟩) hk5 hkc (by omega) HN.out (HW7.out.trans (grown_below hgI (fun g e => by cases e; omega) (by omega))) (by omega)
    · have hm2' : ((m2 : Int) == 0) = false := by simp; omega
      obtain ⟨⟨b0, b1, b2, b3, b4⟩, z0, z1, z2, z3, z4⟩ := own_ten HB6.out
      go_wp2_with fail
      go_region
      all_goals
        go_wp2_with fail
        refine bodyPost_ret (v := .tuple #[.slice ua ks.length uc, .agg #[.int .i64 f5.sort, .string f5.text, .slice x2 f5.scopes.length y2, .int .i64 f5.frm, .slice x4 f5.kids.length y4]]) (by simp [results, Try.results4, go_sem, b0, b1, b2, b3, b4]) rfl ?_
        exact drawnFind_at (w2 := w6) (B := fun b => w1.heap.size ≤ b ∧ b < w3.heap.size) (B' := fun b => (w1.heap.size ≤ b ∧ b < W5.heap.size) ∧ b ≠ w3.heap.size) (f := f5) HU6.out HF6.out (fun b hb => ⟨by omega, by omega⟩) (fun b hb => ⟨by omega, by omega⟩) hk5 hkc (by omega) HN.out HW6.out (by omega)

end Go.Proofs.Ytbloafjkejkjcaa
