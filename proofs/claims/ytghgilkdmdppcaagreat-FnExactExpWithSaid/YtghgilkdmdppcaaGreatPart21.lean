/-
  The model's ExpWith and ExpFlip: the form with other scopes, in new memory; nothing, if the form is not ok or the scope is none. Condition: the form lies in memory, and costs at most 1048576.
  A form that comes in as an argument, read as data, lies in memory as a tree.
-/
import Derived.Test.YtghgilkdmdppcaaGreatH6
import Derived.Test.YtghgilkdmdppcaaGreatPart20
import Derived.Test.YtghgilkdmdppcaaGreatPart1
import Derived.Test.YtghgilkdmdppcaaGreatProg
import Derived.ProofKit
import Derived.OpenShut
import Derived.Deep.Slices
namespace Go.Proofs.YtghgilkdmdppcaaGreat
open Go.RowKit Go.Siskin

set_option maxRecDepth 20000 in
set_option maxHeartbeats 2000000 in
theorem specWith_any (n : Int) (f : Fm) (B : Nat → Prop) (w : World) (c0 c1 c2 c3 c4 : Value) (hA : FormAt B w f c0 c1 c2 c3 c4) (hB : ∀ b, B b → b < w.heap.size) (hc : f.cost ≤ 1048576) :
    Calls Tryz.prog 6 #[.agg #[c0, c1, c2, c3, c4], .int .i64 n] w fun e w' => ∃ d2 d4, e = .returned (handed (resF (putB n) n f) d2 d4) ∧ FormAt (Fresh w w') w' (resF (putB n) n f) (.int .i64 (resF (putB n) n f).sort) (.string (resF (putB n) n f).text) d2 (.int .i64 (resF (putB n) n f).frm) d4 ∧ Below w.heap.size w w' := by
  have HR := hid hB
  obtain ⟨W, hW⟩ : ∃ W, W = (w.alloc (.cells #[c0, c1, c2, c3, c4] 29)).alloc (.cells #[.int .i64 0, .string ⟨#[]⟩, .slice none 0 0, .int .i64 0, .slice none 0 0] 29) := ⟨_, rfl⟩
  have hWs : W.heap.size = w.heap.size + 2 := by rw [hW]; simp
  have HWB : Hid (Below w.heap.size w W) := by
    show Below _ _ _
    rw [hW]; exact ((Below.refl _ _).alloc (Nat.le_refl _) _).alloc (by simp) _
  have O0 : Hid (Own W w.heap.size 29 #[c0, c1, c2, c3, c4]) := by
    show Own _ _ _ _
    rw [hW]; exact (own_new _ _ _).more (by simp) _
  have O1 : Hid (Own W (w.heap.size + 1) 29 #[.int .i64 0, .string ⟨#[]⟩, .slice none 0 0, .int .i64 0, .slice none 0 0]) := by
    show Own _ _ _ _
    have h := own_new (w.alloc (.cells #[c0, c1, c2, c3, c4] 29)) #[.int .i64 0, .string ⟨#[]⟩, .slice none 0 0, .int .i64 0, .slice none 0 0] 29
    rw [World.size_alloc] at h
    rw [hW]; exact h
  have HO := hid (specFormOk_any f B W c0 c1 c2 c3 c4 (FormAt.keep (HWB.out.on HR.out) _ hA) (fun b hb => by have := HR.out b hb; omega) hc)
  have HA := hid hA
  obtain ⟨rfl, rfl, ht, h2, rfl, h4⟩ := (formAt_iff _ _ _ _ _ _ _ _).1 hA
  obtain ⟨a2, k2, rfl, -⟩ := h2
  obtain ⟨a4, k4, rfl, -⟩ := h4
  clear hA hB
  by_cases hbad : formOk f = true ∧ 0 ≤ n
  · obtain ⟨hok, hn0⟩ := hbad
    have HX : Hid (resF (putB n) n f = chF (putB n) f) := by show _ = _; unfold resF; rw [if_pos ⟨hok, hn0⟩]
    have HOK : Hid (okB f 0 = true) := by
      have h := hok
      unfold formOk at h
      rw [Bool.and_eq_true] at h
      exact h.1
    have ho := HO.out
    rw [hok] at ho
    have HO := hid ho
    clear ho
    have hnn : ¬ n < 0 := by omega
    go_enter Tryz.func6, Tryz.ntmps6
    go_wp2_with (go_at_call 16; rw [← hW]; refine HO.out.mono ?_; rintro e w1 ⟨rfl, hw1⟩; have P0 := hid (O0.out.keep hw1 (by omega)); have g0 := P0.out.cell 0; have g1 := P0.out.cell 1; have g2 := P0.out.cell 2; have g3 := P0.out.cell 3; have g4 := P0.out.cell 4; simp at g0 g1 g2 g3 g4; have HB1 := hid hw1; clear hw1)
    have hs1 := HB1.out.size
    have hBW := HWB.out.trans (HB1.out.mono (by omega))
    refine (wputB_all n f.sz f (Nat.le_refl _) B w1 _ _ _ _ _ 0 (FormAt.keep (hBW.on HR.out) _ HA.out) (fun b hb => by have := HR.out b hb; omega) hc HOK.out).mono ?_
    rintro e w2 ⟨d0, d1, d2, d3, d4, rfl, hf, hw2⟩
    obtain ⟨r, hr0⟩ : ∃ r, r = chF (putB n) f := ⟨_, rfl⟩
    rw [← hr0] at hf HX
    have HF := hid hf
    obtain ⟨rfl, rfl, -, q2, rfl, q4⟩ := (formAt_iff _ _ _ _ _ _ _ _).1 hf
    obtain ⟨x2, y2, rfl, -⟩ := q2
    obtain ⟨x4, y4, rfl, -⟩ := q4
    have hs2 := hw2.size
    have P2 := hid ((O1.out.keep HB1.out (by omega)).keep hw2 (by omega))
    have HB2 := hid (hBW.trans (hw2.mono (by omega)))
    have h0 := P2.out.cell 0
    have zz0 := P2.out.frozen 0
    have h1 := P2.out.cell 1
    have zz1 := P2.out.frozen 1
    have h2 := P2.out.cell 2
    have zz2 := P2.out.frozen 2
    have h3 := P2.out.cell 3
    have zz3 := P2.out.frozen 3
    have h4 := P2.out.cell 4
    have zz4 := P2.out.frozen 4
    simp at h0 h1 h2 h3 h4
    clear hf hw2 hBW hr0 hW
    go_wp2_with fail
    have hg5 := wr5_grown w2 (w.heap.size + 1) (.int .i64 r.sort) (.string r.text) (.slice x2 r.scopes.length y2) (.int .i64 r.frm) (.slice x4 r.kids.length y4)
    have hz5 : (wr5 w2 (w.heap.size + 1) (.int .i64 r.sort) (.string r.text) (.slice x2 r.scopes.length y2) (.int .i64 r.frm) (.slice x4 r.kids.length y4)).heap.size = w2.heap.size := wr5_size _ _ _ _ _ _ _
    refine bodyPost_ret (v := .agg #[.int .i64 r.sort, .string r.text, .slice x2 r.scopes.length y2, .int .i64 r.frm, .slice x4 r.kids.length y4]) (by simp [results, Tryz.results6, go_sem, h0, h1, h2, h3, h4]) rfl ?_
    rw [HX.out]
    refine ⟨_, _, rfl, ?_, HB2.out.trans (wr5_below (w := w2) (by omega) _ _ _ _ _)⟩
    exact FormAt.mono (fun b hb => ⟨by have := hb.1; omega, by have := hb.2; rw [← hz5] at this; exact this⟩) _ (FormAt.keep (w' := wr5 w2 (w.heap.size + 1) (.int .i64 r.sort) (.string r.text) (.slice x2 r.scopes.length y2) (.int .i64 r.frm) (.slice x4 r.kids.length y4)) (fun b hb => hg5.block b hb.2 (by have := hb.1; simp; omega)) _ HF.out)
  · have HX : Hid (resF (putB n) n f = Fm.no) := by show _ = _; unfold resF; rw [if_neg hbad]
    have fin : ∀ w1, Below W.heap.size W w1 → ∃ d2 d4, (Ending.returned (.agg #[.int .i64 0, .string ⟨#[]⟩, .slice none 0 0, .int .i64 0, .slice none 0 0]) : Ending) = .returned (handed (resF (putB n) n f) d2 d4) ∧ FormAt (Fresh w (wr5 w1 (w.heap.size + 1) (.int .i64 0) (.string ⟨#[]⟩) (.slice none 0 0) (.int .i64 0) (.slice none 0 0))) (wr5 w1 (w.heap.size + 1) (.int .i64 0) (.string ⟨#[]⟩) (.slice none 0 0) (.int .i64 0) (.slice none 0 0)) (resF (putB n) n f) (.int .i64 (resF (putB n) n f).sort) (.string (resF (putB n) n f).text) d2 (.int .i64 (resF (putB n) n f).frm) d4 ∧ Below w.heap.size w (wr5 w1 (w.heap.size + 1) (.int .i64 0) (.string ⟨#[]⟩) (.slice none 0 0) (.int .i64 0) (.slice none 0 0)) := fun w1 hb => by
      rw [HX.out]
      exact ⟨_, _, rfl, (tree_no _ _).form (by rw [Fm.cost_eq]; exact Nat.zero_le _), (HWB.out.trans (hb.mono (by omega))).trans (wr5_below (by omega) _ _ _ _ _)⟩
    have HFin := hid fin
    clear fin
    cases hok : formOk f with
    | false =>
      have ho := HO.out
      rw [hok] at ho
      have HO := hid ho
      clear ho hbad
      go_enter Tryz.func6, Tryz.ntmps6
      go_wp2_with fail
      rw [← hW]
      refine HO.out.mono ?_
      rintro e w1 ⟨rfl, hw1⟩
      have HB1 := hid hw1
      have P2 := hid (O1.out.keep hw1 (by omega))
      have h0 := P2.out.cell 0
      have zz0 := P2.out.frozen 0
      have h1 := P2.out.cell 1
      have zz1 := P2.out.frozen 1
      have h2 := P2.out.cell 2
      have zz2 := P2.out.frozen 2
      have h3 := P2.out.cell 3
      have zz3 := P2.out.frozen 3
      have h4 := P2.out.cell 4
      have zz4 := P2.out.frozen 4
      simp at h0 h1 h2 h3 h4
      clear hw1 hW
      go_wp2_with fail
      refine bodyPost_ret (v := .agg #[.int .i64 0, .string ⟨#[]⟩, .slice none 0 0, .int .i64 0, .slice none 0 0]) (by simp [results, Tryz.results6, go_sem, h0, h1, h2, h3, h4]) rfl ?_
      exact HFin.out w1 HB1.out
    | true =>
      have hnn : n < 0 := by
        rcases Int.lt_or_le n 0 with h | h
        · exact h
        · exact absurd ⟨hok, h⟩ hbad
      have ho := HO.out
      rw [hok] at ho
      have HO := hid ho
      clear ho hbad
      go_enter Tryz.func6, Tryz.ntmps6
      go_wp2_with fail
      rw [← hW]
      refine HO.out.mono ?_
      rintro e w1 ⟨rfl, hw1⟩
      have HB1 := hid hw1
      have P2 := hid (O1.out.keep hw1 (by omega))
      have h0 := P2.out.cell 0
      have zz0 := P2.out.frozen 0
      have h1 := P2.out.cell 1
      have zz1 := P2.out.frozen 1
      have h2 := P2.out.cell 2
      have zz2 := P2.out.frozen 2
      have h3 := P2.out.cell 3
      have zz3 := P2.out.frozen 3
      have h4 := P2.out.cell 4
      have zz4 := P2.out.frozen 4
      simp at h0 h1 h2 h3 h4
      clear hw1 hW
      go_wp2_with fail
      refine bodyPost_ret (v := .agg #[.int .i64 0, .string ⟨#[]⟩, .slice none 0 0, .int .i64 0, .slice none 0 0]) (by simp [results, Tryz.results6, go_sem, h0, h1, h2, h3, h4]) rfl ?_
      exact HFin.out w1 HB1.out

set_option maxRecDepth 20000 in
set_option maxHeartbeats 2000000 in
theorem specFlip_any (n : Int) (f : Fm) (B : Nat → Prop) (w : World) (c0 c1 c2 c3 c4 : Value) (hA : FormAt B w f c0 c1 c2 c3 c4) (hB : ∀ b, B b → b < w.heap.size) (hc : f.cost ≤ 1048576) :
    Calls Tryz.prog 12 #[.agg #[c0, c1, c2, c3, c4], .int .i64 n] w fun e w' => ∃ d2 d4, e = .returned (handed (resF (flipB n) n f) d2 d4) ∧ FormAt (Fresh w w') w' (resF (flipB n) n f) (.int .i64 (resF (flipB n) n f).sort) (.string (resF (flipB n) n f).text) d2 (.int .i64 (resF (flipB n) n f).frm) d4 ∧ Below w.heap.size w w' := by
  have HR := hid hB
  obtain ⟨W, hW⟩ : ∃ W, W = (w.alloc (.cells #[c0, c1, c2, c3, c4] 29)).alloc (.cells #[.int .i64 0, .string ⟨#[]⟩, .slice none 0 0, .int .i64 0, .slice none 0 0] 29) := ⟨_, rfl⟩
  have hWs : W.heap.size = w.heap.size + 2 := by rw [hW]; simp
  have HWB : Hid (Below w.heap.size w W) := by
    show Below _ _ _
    rw [hW]; exact ((Below.refl _ _).alloc (Nat.le_refl _) _).alloc (by simp) _
  have O0 : Hid (Own W w.heap.size 29 #[c0, c1, c2, c3, c4]) := by
    show Own _ _ _ _
    rw [hW]; exact (own_new _ _ _).more (by simp) _
  have O1 : Hid (Own W (w.heap.size + 1) 29 #[.int .i64 0, .string ⟨#[]⟩, .slice none 0 0, .int .i64 0, .slice none 0 0]) := by
    show Own _ _ _ _
    have h := own_new (w.alloc (.cells #[c0, c1, c2, c3, c4] 29)) #[.int .i64 0, .string ⟨#[]⟩, .slice none 0 0, .int .i64 0, .slice none 0 0] 29
    rw [World.size_alloc] at h
    rw [hW]; exact h
  have HO := hid (specFormOk_any f B W c0 c1 c2 c3 c4 (FormAt.keep (HWB.out.on HR.out) _ hA) (fun b hb => by have := HR.out b hb; omega) hc)
  have HA := hid hA
  obtain ⟨rfl, rfl, ht, h2, rfl, h4⟩ := (formAt_iff _ _ _ _ _ _ _ _).1 hA
  obtain ⟨a2, k2, rfl, -⟩ := h2
  obtain ⟨a4, k4, rfl, -⟩ := h4
  clear hA hB
  by_cases hbad : formOk f = true ∧ 0 ≤ n
  · obtain ⟨hok, hn0⟩ := hbad
    have HX : Hid (resF (flipB n) n f = chF (flipB n) f) := by show _ = _; unfold resF; rw [if_pos ⟨hok, hn0⟩]
    have HOK : Hid (okB f 0 = true) := by
      have h := hok
      unfold formOk at h
      rw [Bool.and_eq_true] at h
      exact h.1
    have ho := HO.out
    rw [hok] at ho
    have HO := hid ho
    clear ho
    have hnn : ¬ n < 0 := by omega
    go_enter Tryz.func12, Tryz.ntmps12
    go_wp2_with (go_at_call 16; rw [← hW]; refine HO.out.mono ?_; rintro e w1 ⟨rfl, hw1⟩; have P0 := hid (O0.out.keep hw1 (by omega)); have g0 := P0.out.cell 0; have g1 := P0.out.cell 1; have g2 := P0.out.cell 2; have g3 := P0.out.cell 3; have g4 := P0.out.cell 4; simp at g0 g1 g2 g3 g4; have HB1 := hid hw1; clear hw1)
    have hs1 := HB1.out.size
    have hBW := HWB.out.trans (HB1.out.mono (by omega))
    refine (wflipB_all n f.sz f (Nat.le_refl _) B w1 _ _ _ _ _ 0 (FormAt.keep (hBW.on HR.out) _ HA.out) (fun b hb => by have := HR.out b hb; omega) hc HOK.out).mono ?_
    rintro e w2 ⟨d0, d1, d2, d3, d4, rfl, hf, hw2⟩
    obtain ⟨r, hr0⟩ : ∃ r, r = chF (flipB n) f := ⟨_, rfl⟩
    rw [← hr0] at hf HX
    have HF := hid hf
    obtain ⟨rfl, rfl, -, q2, rfl, q4⟩ := (formAt_iff _ _ _ _ _ _ _ _).1 hf
    obtain ⟨x2, y2, rfl, -⟩ := q2
    obtain ⟨x4, y4, rfl, -⟩ := q4
    have hs2 := hw2.size
    have P2 := hid ((O1.out.keep HB1.out (by omega)).keep hw2 (by omega))
    have HB2 := hid (hBW.trans (hw2.mono (by omega)))
    have h0 := P2.out.cell 0
    have zz0 := P2.out.frozen 0
    have h1 := P2.out.cell 1
    have zz1 := P2.out.frozen 1
    have h2 := P2.out.cell 2
    have zz2 := P2.out.frozen 2
    have h3 := P2.out.cell 3
    have zz3 := P2.out.frozen 3
    have h4 := P2.out.cell 4
    have zz4 := P2.out.frozen 4
    simp at h0 h1 h2 h3 h4
    clear hf hw2 hBW hr0 hW
    go_wp2_with fail
    have hg5 := wr5_grown w2 (w.heap.size + 1) (.int .i64 r.sort) (.string r.text) (.slice x2 r.scopes.length y2) (.int .i64 r.frm) (.slice x4 r.kids.length y4)
    have hz5 : (wr5 w2 (w.heap.size + 1) (.int .i64 r.sort) (.string r.text) (.slice x2 r.scopes.length y2) (.int .i64 r.frm) (.slice x4 r.kids.length y4)).heap.size = w2.heap.size := wr5_size _ _ _ _ _ _ _
    refine bodyPost_ret (v := .agg #[.int .i64 r.sort, .string r.text, .slice x2 r.scopes.length y2, .int .i64 r.frm, .slice x4 r.kids.length y4]) (by simp [results, Tryz.results12, go_sem, h0, h1, h2, h3, h4]) rfl ?_
    rw [HX.out]
    refine ⟨_, _, rfl, ?_, HB2.out.trans (wr5_below (w := w2) (by omega) _ _ _ _ _)⟩
    exact FormAt.mono (fun b hb => ⟨by have := hb.1; omega, by have := hb.2; rw [← hz5] at this; exact this⟩) _ (FormAt.keep (w' := wr5 w2 (w.heap.size + 1) (.int .i64 r.sort) (.string r.text) (.slice x2 r.scopes.length y2) (.int .i64 r.frm) (.slice x4 r.kids.length y4)) (fun b hb => hg5.block b hb.2 (by have := hb.1; simp; omega)) _ HF.out)
  · have HX : Hid (resF (flipB n) n f = Fm.no) := by show _ = _; unfold resF; rw [if_neg hbad]
    have fin : ∀ w1, Below W.heap.size W w1 → ∃ d2 d4, (Ending.returned (.agg #[.int .i64 0, .string ⟨#[]⟩, .slice none 0 0, .int .i64 0, .slice none 0 0]) : Ending) = .returned (handed (resF (flipB n) n f) d2 d4) ∧ FormAt (Fresh w (wr5 w1 (w.heap.size + 1) (.int .i64 0) (.string ⟨#[]⟩) (.slice none 0 0) (.int .i64 0) (.slice none 0 0))) (wr5 w1 (w.heap.size + 1) (.int .i64 0) (.string ⟨#[]⟩) (.slice none 0 0) (.int .i64 0) (.slice none 0 0)) (resF (flipB n) n f) (.int .i64 (resF (flipB n) n f).sort) (.string (resF (flipB n) n f).text) d2 (.int .i64 (resF (flipB n) n f).frm) d4 ∧ Below w.heap.size w (wr5 w1 (w.heap.size + 1) (.int .i64 0) (.string ⟨#[]⟩) (.slice none 0 0) (.int .i64 0) (.slice none 0 0)) := fun w1 hb => by
      rw [HX.out]
      exact ⟨_, _, rfl, (tree_no _ _).form (by rw [Fm.cost_eq]; exact Nat.zero_le _), (HWB.out.trans (hb.mono (by omega))).trans (wr5_below (by omega) _ _ _ _ _)⟩
    have HFin := hid fin
    clear fin
    cases hok : formOk f with
    | false =>
      have ho := HO.out
      rw [hok] at ho
      have HO := hid ho
      clear ho hbad
      go_enter Tryz.func12, Tryz.ntmps12
      go_wp2_with fail
      rw [← hW]
      refine HO.out.mono ?_
      rintro e w1 ⟨rfl, hw1⟩
      have HB1 := hid hw1
      have P2 := hid (O1.out.keep hw1 (by omega))
      have h0 := P2.out.cell 0
      have zz0 := P2.out.frozen 0
      have h1 := P2.out.cell 1
      have zz1 := P2.out.frozen 1
      have h2 := P2.out.cell 2
      have zz2 := P2.out.frozen 2
      have h3 := P2.out.cell 3
      have zz3 := P2.out.frozen 3
      have h4 := P2.out.cell 4
      have zz4 := P2.out.frozen 4
      simp at h0 h1 h2 h3 h4
      clear hw1 hW
      go_wp2_with fail
      refine bodyPost_ret (v := .agg #[.int .i64 0, .string ⟨#[]⟩, .slice none 0 0, .int .i64 0, .slice none 0 0]) (by simp [results, Tryz.results12, go_sem, h0, h1, h2, h3, h4]) rfl ?_
      exact HFin.out w1 HB1.out
    | true =>
      have hnn : n < 0 := by
        rcases Int.lt_or_le n 0 with h | h
        · exact h
        · exact absurd ⟨hok, h⟩ hbad
      have ho := HO.out
      rw [hok] at ho
      have HO := hid ho
      clear ho hbad
      go_enter Tryz.func12, Tryz.ntmps12
      go_wp2_with fail
      rw [← hW]
      refine HO.out.mono ?_
      rintro e w1 ⟨rfl, hw1⟩
      have HB1 := hid hw1
      have P2 := hid (O1.out.keep hw1 (by omega))
      have h0 := P2.out.cell 0
      have zz0 := P2.out.frozen 0
      have h1 := P2.out.cell 1
      have zz1 := P2.out.frozen 1
      have h2 := P2.out.cell 2
      have zz2 := P2.out.frozen 2
      have h3 := P2.out.cell 3
      have zz3 := P2.out.frozen 3
      have h4 := P2.out.cell 4
      have zz4 := P2.out.frozen 4
      simp at h0 h1 h2 h3 h4
      clear hw1 hW
      go_wp2_with fail
      refine bodyPost_ret (v := .agg #[.int .i64 0, .string ⟨#[]⟩, .slice none 0 0, .int .i64 0, .slice none 0 0]) (by simp [results, Tryz.results12, go_sem, h0, h1, h2, h3, h4]) rfl ?_
      exact HFin.out w1 HB1.out

end Go.Proofs.YtghgilkdmdppcaaGreat

namespace Go.Proofs.YtghgilkdmdppcaaGreat
open Go.ChangeShapes Go.WideShapes Go.ChangeAt Go.RowKit Go.Siskin

theorem Tryz.cellsInt : Tryz.prog.cellsOf 3 = 1 := by kernel_rfl
theorem Tryz.cellsStr : Tryz.prog.cellsOf 9 = 1 := by kernel_rfl
theorem Tryz.cellsInts : Tryz.prog.cellsOf 22 = 1 := by kernel_rfl
theorem Tryz.cellsForms : Tryz.prog.cellsOf 23 = 1 := by kernel_rfl
theorem Tryz.cellsForm : Tryz.prog.cellsOf 25 = 5 := by kernel_rfl

theorem list5 {α : Type} {cs : List α} (h : cs.length = 5) : ∃ c0 c1 c2 c3 c4, cs = [c0, c1, c2, c3, c4] := by
  match cs, h with
  | [c0, c1, c2, c3, c4], _ => exact ⟨c0, c1, c2, c3, c4, rfl⟩
theorem array5 {α : Type} {cs : Array α} (h : cs.size = 5) : ∃ c0 c1 c2 c3 c4, cs = #[c0, c1, c2, c3, c4] := by
  obtain ⟨l⟩ := cs
  obtain ⟨c0, c1, c2, c3, c4, e⟩ := list5 (cs := l) h
  exact ⟨c0, c1, c2, c3, c4, by rw [e]⟩

section
variable {H : Type} {enc : TypeId × Value → H} {W : World} {spare : Nat → Bool} {held : Bool}

/-- A cell that is there lies in a block that is there. -/
theorem cell_lt {a : Addr} {v : Value} (h : W.cell? a = some v) : a.block < W.heap.size := by
  unfold World.cell? at h
  cases e : W.heap[a.block]? with
  | none => rw [e] at h; simp at h
  | some o => exact (Array.getElem?_eq_some_iff.1 e).1

theorem ints_of {fuel : Nat} {v : Value} {x : DataW H × List MemPlace} (h : DataW.trod enc Tryz.prog W 0 spare held fuel 22 [v] = some x) : ∃ xs : List Int, IntsAt (fun b => b < W.heap.size) W v xs := by
  rcases open_ints Tryz.underlying22 Tryz.underlying3 Tryz.cellsInt h with ⟨hcs, _⟩ | ⟨a, len, cap, zs, hcs, _, hl, hm, hz, _, hcell, _⟩
  · simp only [List.cons.injEq, and_true] at hcs
    exact ⟨[], none, 0, hcs, ⟨Nat.zero_le _, Nat.le_refl _⟩, Or.inl rfl⟩
  · simp only [List.cons.injEq, and_true] at hcs
    have hlen : len ≤ zs.length := by rw [hz]; split <;> omega
    have hl2 : (zs.take len).length = len := by rw [List.length_take]; omega
    refine ⟨zs.take len, some a, cap, by rw [hl2]; exact hcs, ⟨by rw [hl2]; omega, by rw [hl2]; omega⟩, ?_⟩
    by_cases h0 : len = 0
    · left; subst h0; simp
    · right
      obtain ⟨b, o, rfl, hc⟩ := ints_at hcell (by omega)
      refine ⟨b, o, rfl, ?_, fun i hi => ?_⟩
      · exact cell_lt (hc 0 (by omega))
      · rw [hl2] at hi
        rw [hc i (by omega)]
        simp [List.getD_eq_getElem?_getD, hi]

theorem cells5 {a : Addr} {k0 k1 k2 k3 k4 : Value} (h : W.cells? 0 a 5 = some [k0, k1, k2, k3, k4]) : W.cell? (a.add 0) = some k0 ∧ W.cell? (a.add 1) = some k1 ∧ W.cell? (a.add 2) = some k2 ∧ W.cell? (a.add 3) = some k3 ∧ W.cell? (a.add 4) = some k4 := by
  unfold World.cells? at h
  rw [if_pos (Nat.zero_le _), show List.range 5 = [0, 1, 2, 3, 4] from rfl] at h
  have g := mapM_some_get h
  have e0 := g 0 0 rfl
  have e1 := g 1 1 rfl
  have e2 := g 2 2 rfl
  have e3 := g 3 3 rfl
  have e4 := g 4 4 rfl
  exact ⟨e0, e1, e2, e3, e4⟩

theorem form_of : ∀ (fuel : Nat) {cs : List Value} {x : DataW H × List MemPlace}, DataW.trod enc Tryz.prog W 0 spare held fuel 25 cs = some x →
    ∃ (c0 c1 c2 c3 c4 : Value) (f : Fm), cs = [c0, c1, c2, c3, c4] ∧ FormAt (fun b => b < W.heap.size) W f c0 c1 c2 c3 c4 := by
  intro fuel
  induction fuel using Nat.strongRecOn with
  | ind fuel ih =>
  intro cs x h
  obtain ⟨xs, n, hn, -, hl, hxs, hf⟩ := DataW.trod_struct Tryz.underlying25 h
  rw [Tryz.cellsForm] at hl
  obtain ⟨c0, c1, c2, c3, c4, rfl⟩ := list5 hl
  have hx5 : xs.length = 5 := hxs
  obtain ⟨x0, x1, x2, x3, x4, rfl⟩ := list5 hx5
  have g0 : DataW.trod enc Tryz.prog W 0 spare held n 3 [c0] = some x0 := by simpa [Tryz.cellsInt] using hf 0 _ rfl
  have g1 : DataW.trod enc Tryz.prog W 0 spare held n 9 [c1] = some x1 := by simpa [Tryz.cellsStr] using hf 1 _ rfl
  have g2 : DataW.trod enc Tryz.prog W 0 spare held n 22 [c2] = some x2 := by simpa [Tryz.cellsInts] using hf 2 _ rfl
  have g3 : DataW.trod enc Tryz.prog W 0 spare held n 3 [c3] = some x3 := by simpa [Tryz.cellsInt] using hf 3 _ rfl
  have g4 : DataW.trod enc Tryz.prog W 0 spare held n 23 [c4] = some x4 := by simpa [Tryz.cellsForms] using hf 4 _ rfl
  obtain ⟨s, e0, -, -⟩ := DataW.trod_int Tryz.underlying3 g0
  obtain ⟨t, e1, -, ht⟩ := DataW.trod_string Tryz.underlying9 g1
  obtain ⟨sc, hsc⟩ := ints_of g2
  obtain ⟨fr, e3, -, -⟩ := DataW.trod_int Tryz.underlying3 g3
  simp only [List.cons.injEq, and_true] at e0 e1 e3
  subst e0 e1 e3
  obtain ⟨ks, hks⟩ : ∃ ks, FormsAt (fun b => b < W.heap.size) W c4 ks := by
    rcases DataW.trod_slice Tryz.underlying23 g4 with ⟨hcs, -⟩ | ⟨a, len, cap, elems, rest, n2, hn2, hcs, -, -, hlc, hm, hlen, hel, -⟩
    · simp only [List.cons.injEq, and_true] at hcs
      exact ⟨[], none, 0, hcs, Nat.zero_le _, Or.inl rfl⟩
    · simp only [List.cons.injEq, and_true] at hcs
      have hall : ∀ i, i < len → ∃ f : Fm, ∃ k0 k1 k2 k3 k4, W.cells? 0 (a.add (i * 5)) 5 = some [k0, k1, k2, k3, k4] ∧ FormAt (fun b => b < W.heap.size) W f k0 k1 k2 k3 k4 := by
        intro i hi
        have he := hel i hi
        rw [Tryz.cellsForm, List.getElem?_eq_getElem (by omega)] at he
        obtain ⟨cs', h1, h2⟩ := Option.bind_eq_some_iff.1 he
        obtain ⟨k0, k1, k2, k3, k4, f, rfl, hf'⟩ := ih n2 (by omega) h2
        exact ⟨f, k0, k1, k2, k3, k4, h1, hf'⟩
      obtain ⟨F, hF⟩ := @Go.Deep.choose_lt Fm ⟨Fm.no⟩ _ _ hall
      have hl2 : ((List.range len).map F).length = len := by simp
      refine ⟨(List.range len).map F, some a, cap, by rw [hl2]; exact hcs, by rw [hl2]; omega, ?_⟩
      by_cases h0 : len = 0
      · left; subst h0; rfl
      · right
        obtain ⟨b, o, spot⟩ := a
        obtain ⟨k0, k1, k2, k3, k4, hc0, -⟩ := hF 0 (by omega)
        have hq := (cells5 hc0).1
        have hspot : spot = none := by simpa [Addr.add] using World.cell?_spot hq
        subst hspot
        refine ⟨b, o, rfl, ?_, RowAt.mk _ fun i hi => ?_⟩
        · have := cell_lt hq
          simpa [Addr.add] using this
        · rw [hl2] at hi
          obtain ⟨k0, k1, k2, k3, k4, hci, hfi⟩ := hF i hi
          obtain ⟨q0, q1, q2, q3, q4⟩ := cells5 hci
          rw [Go.Deep.add_add, Go.WideShapes.add_plain] at q0 q1 q2 q3 q4
          refine ⟨k0, k1, k2, k3, k4, q0, q1, q2, q3, q4, ?_⟩
          simpa using hfi
  exact ⟨_, _, _, _, _, .mk s t sc fr ks, rfl, (formAt_iff _ _ _ _ _ _ _ _).2 ⟨rfl, rfl, ht, hsc, rfl, hks⟩⟩
end
end Go.Proofs.YtghgilkdmdppcaaGreat
