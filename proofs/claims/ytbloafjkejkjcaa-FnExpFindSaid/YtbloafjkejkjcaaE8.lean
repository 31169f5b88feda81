/- The drawing of any form, l8Any. Condition: the reader and its bytes lie in memory apart, and it has not picked too often. -/
import Derived.Test.YtbloafjkejkjcaaE6
namespace Go.Proofs.Ytbloafjkejkjcaa
open Go.RowKit Go.Siskin

set_option maxRecDepth 20000 in
set_option maxHeartbeats 2000000 in
theorem l8Any_any {R : Nat → Prop} {w : World} {rb n p : Nat} {v : Value} (h : RdAt R w rb n p v) (hp : p ≤ 800000) :
    Calls Try.prog 13 #[.pointer (some ⟨rb, 0, none⟩)] w (Drawn rb v w p 700 1000) := by
  have HR := hid h
  have hrb := h.own.lt
  clear h
  have hb3 : bnd 3 = 640 := by decide
  go_enter Try.func13, Try.ntmps13
  go_wp2_with fail
  refine (form_all 3 (by omega) R (w.alloc _) rb n p v (HR.out.alloc _) (by omega)).mono ?_
  rintro e w1 ⟨c0, c1, c2, c3, c4, f, q, rfl, hf, hcost, hq, hp1⟩
  have HR1 := hid ((HR.out.alloc _).picked hp1 (by omega))
  have HB1 := hid ((own_new w #[.int .i64 0, .string ⟨#[]⟩, .slice none 0 0, .int .i64 0, .slice none 0 0] 27).picked hp1 (by omega))
  have HP1 := hid ((HR.out.now.below ((Below.refl w.heap.size w).alloc (Nat.le_refl _) _) (Nat.le_refl _) hrb).trans hp1)
  have hs1 := hp1.1.size
  simp only [World.size_alloc] at hs1
  have HF1 := hid (FormAt.mono (B' := fun b => w.heap.size + 1 ≤ b ∧ b < w1.heap.size) (fun b hb => ⟨by have := hb.1; simp at this; omega, hb.2⟩) _ hf)
  obtain ⟨rfl, rfl, -, h2, rfl, h4⟩ := (formAt_iff _ _ _ _ _ _ _ _).1 hf
  obtain ⟨x2, y2, rfl, -⟩ := h2
  obtain ⟨x4, y4, rfl, -⟩ := h4
  clear hf hp1
  go_wp2_with fail
  refine (pick_rd (HR1.out.alloc _) 20 (by omega) (by omega)).mono ?_
  rintro e w2 ⟨m, hm, rfl, hp2, hz2⟩
  have HR2 := hid ((HR1.out.alloc _).picked hp2 (by omega))
  have HB2 := hid ((HB1.out.more (by omega) _).picked hp2 (by omega))
  have HX2 := hid ((own_new w1 #[.int .i64 f.sort, .string f.text, .slice x2 f.scopes.length y2, .int .i64 f.frm, .slice x4 f.kids.length y4] 27).picked hp2 (by omega))
  have HP2 := hid ((HP1.out.below ((Below.refl w.heap.size w1).alloc (by omega) _) (Nat.le_refl _) hrb).trans hp2)
  have HF2 := hid (FormAt.keep ((q_keep (lo := w.heap.size + 1) (hi := w1.heap.size) (World.grownBy_alloc w1 _ none) (fun g e => by cases e) (Nat.le_refl _)).trans (q_keep hp2.1 (fun g e => by cases e; omega) (by simp))) f HF1.out)
  simp only [World.size_alloc] at hz2
  clear hp2
  obtain ⟨⟨a0, a1, a2, a3, a4⟩, -⟩ := own_ten HX2.out
  by_cases hm0 : m = 0
  · subst hm0
    go_wp2_with fail
    refine (l8Spoil_any HR2.out (by omega) f (fun b => w.heap.size + 1 ≤ b ∧ b < w1.heap.size) _ _ _ _ _ HF2.out (fun b hb => by omega) (by omega)).mono ?_
    rintro e w3 ⟨d0, d1, d2, d3, d4, f3, q3, rfl, hf3, hcost3, hq3, hp3⟩
    have HP3 := hid (HP2.out.trans hp3)
    have hs3 := hp3.1.size
    have HF3 := hid hf3
    obtain ⟨rfl, rfl, -, h2, rfl, h4⟩ := (formAt_iff _ _ _ _ _ _ _ _).1 hf3
    obtain ⟨u2, v2, rfl, -⟩ := h2
    obtain ⟨u4, v4, rfl, -⟩ := h4
    obtain ⟨⟨b0, b1, b2, b3, b4⟩, z0, z1, z2, z3, z4⟩ := own_ten (HB2.out.picked hp3 (by omega))
    clear hf3 hp3
    go_wp2_with fail
    refine bodyPost_ret (v := .agg #[.int .i64 f3.sort, .string f3.text, .slice u2 f3.scopes.length v2, .int .i64 f3.frm, .slice u4 f3.kids.length v4]) (by simp [results, Try.results13, go_sem, b0, b1, b2, b3, b4]) rfl ?_
    exact drawn_put HF3.out (fun i hi => ⟨by have := hi.1; omega, hi.2⟩) (by omega) (by omega) HP3.out hrb
  · have hm0' : ((m : Int) == 0) = false := by simp; omega
    obtain ⟨⟨b0, b1, b2, b3, b4⟩, z0, z1, z2, z3, z4⟩ := own_ten HB2.out
    go_wp2_with fail
    refine bodyPost_ret (v := .agg #[.int .i64 f.sort, .string f.text, .slice x2 f.scopes.length y2, .int .i64 f.frm, .slice x4 f.kids.length y4]) (by simp [results, Try.results13, go_sem, b0, b1, b2, b3, b4]) rfl ?_
    exact drawn_put HF2.out (fun i hi => ⟨by omega, by omega⟩) (by omega) (by omega) HP2.out hrb

end Go.Proofs.Ytbloafjkejkjcaa
