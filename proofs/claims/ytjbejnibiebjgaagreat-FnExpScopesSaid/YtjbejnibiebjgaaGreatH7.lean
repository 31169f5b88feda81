/-
  The model's ExpWith and ExpFlip: the form with other scopes, in new memory; nothing, if the form is not ok or the scope is none. Condition: the form lies in memory, and costs at most 1048576.
-/
import Derived.Test.YtjbejnibiebjgaaGreatH6
import Derived.Test.YtjbejnibiebjgaaGreatPart21
namespace Go.Proofs.YtjbejnibiebjgaaGreat
open Go.RowKit Go.Siskin

set_option maxRecDepth 20000 in
set_option maxHeartbeats 2000000 in
theorem specWith_any (n : Int) (f : Fm) (B : Nat → Prop) (w : World) (c0 c1 c2 c3 c4 : Value) (hA : FormAt B w f c0 c1 c2 c3 c4) (hB : ∀ b, B b → b < w.heap.size) (hc : f.cost ≤ 1048576) :
    Calls Tryz.prog 8 #[.agg #[c0, c1, c2, c3, c4], .int .i64 n] w fun e w' => ∃ d2 d4, e = .returned (handed (resF (putB n) n f) d2 d4) ∧ FormAt (Fresh w w') w' (resF (putB n) n f) (.int .i64 (resF (putB n) n f).sort) (.string (resF (putB n) n f).text) d2 (.int .i64 (resF (putB n) n f).frm) d4 ∧ Below w.heap.size w w' := by
  have HR := hid hB
  obtain ⟨W, hW⟩ : ∃ W, W = (w.alloc (.cells #[c0, c1, c2, c3, c4] 26)).alloc (.cells #[.int .i64 0, .string ⟨#[]⟩, .slice none 0 0, .int .i64 0, .slice none 0 0] 26) := ⟨_, rfl⟩
  have hWs : W.heap.size = w.heap.size + 2 := by rw [hW]; simp
  have HWB : Hid (Below w.heap.size w W) := by
    show Below _ _ _
    rw [hW]; exact ((Below.refl _ _).alloc (Nat.le_refl _) _).alloc (by simp) _
  have O0 : Hid (Own W w.heap.size 26 #[c0, c1, c2, c3, c4]) := by
    show Own _ _ _ _
    rw [hW]; exact (own_new _ _ _).more (by simp) _
  have O1 : Hid (Own W (w.heap.size + 1) 26 #[.int .i64 0, .string ⟨#[]⟩, .slice none 0 0, .int .i64 0, .slice none 0 0]) := by
    show Own _ _ _ _
    have h := own_new (w.alloc (.cells #[c0, c1, c2, c3, c4] 26)) #[.int .i64 0, .string ⟨#[]⟩, .slice none 0 0, .int .i64 0, .slice none 0 0] 26
    rw [World.size_alloc] at h
    rw [hW]; exact h
  have HO := hid (specFormOk_any f B W c0 c1 c2 c3 c4 (FormAt.keep (HWB.out.on HR.out) _ hA) (fun b hb => by have := HR.out b hb; omega) hc)
  have HA := hid hA
  obtain ⟨rfl, rfl, ht, h2, rfl, h4⟩ := (formAt_iff _ _ _ _ _ _ _ _).1 hA
  obtain ⟨a2, k2, rfl, -⟩ := h2
  obtain ⟨a4, k4, rfl, -⟩ := h4
  clear hA hB
  by_cases hbad : formOk f = true ∧ 0 ≤ n
  · obtain ⟨hok, hn0⟩ := hbad
    have HX : Hid (resF (putB n) n f = chF (putB n) f) := by show _ = _; unfold resF; rw [if_pos ⟨hok, hn0⟩]
    have HOK : Hid (okB f 0 = true) := by
      have h := hok
      unfold formOk at h
      rw [Bool.and_eq_true] at h
      exact h.1
    have ho := HO.out
    rw [hok] at ho
    have HO := hid ho
    clear ho
    have hnn : ¬ n < 0 := by omega
    go_enter Tryz.func8, Tryz.ntmps8
    go_wp2_with (go_at_call 11; rw [← hW]; refine HO.out.mono ?_; rintro e w1 ⟨rfl, hw1⟩; have P0 := hid (O0.out.keep hw1 (by omega)); have g0 := P0.out.cell 0; have g1 := P0.out.cell 1; have g2 := P0.out.cell 2; have g3 := P0.out.cell 3; have g4 := P0.out.cell 4; simp at g0 g1 g2 g3 g4; have HB1 := hid hw1; clear hw1)
    have hs1 := HB1.out.size
    have hBW := HWB.out.trans (HB1.out.mono (by omega))
    refine (wputB_all n f.sz f (Nat.le_refl _) B w1 _ _ _ _ _ 0 (FormAt.keep (hBW.on HR.out) _ HA.out) (fun b hb => by have := HR.out b hb; omega) hc HOK.out).mono ?_
    rintro e w2 ⟨d0, d1, d2, d3, d4, rfl, hf, hw2⟩
    obtain ⟨r, hr0⟩ : ∃ r, r = chF (putB n) f := ⟨_, rfl⟩
    rw [← hr0] at hf HX
    have HF := hid hf
    obtain ⟨rfl, rfl, -, q2, rfl, q4⟩ := (formAt_iff _ _ _ _ _ _ _ _).1 hf
    obtain ⟨x2, y2, rfl, -⟩ := q2
    obtain ⟨x4, y4, rfl, -⟩ := q4
    have hs2 := hw2.size
    have P2 := hid ((O1.out.keep HB1.out (by omega)).keep hw2 (by omega))
    have HB2 := hid (hBW.trans (hw2.mono (by omega)))
    have h0 := P2.out.cell 0
    have zz0 := P2.out.frozen 0
    have h1 := P2.out.cell 1
    have zz1 := P2.out.frozen 1
    have h2 := P2.out.cell 2
    have zz2 := P2.out.frozen 2
    have h3 := P2.out.cell 3
    have zz3 := P2.out.frozen 3
    have h4 := P2.out.cell 4
    have zz4 := P2.out.frozen 4
    simp at h0 h1 h2 h3 h4
    clear hf hw2 hBW hr0 hW
    go_wp2_with fail
    have hg5 := wr5_grown w2 (w.heap.size + 1) (.int .i64 r.sort) (.string r.text) (.slice x2 r.scopes.length y2) (.int .i64 r.frm) (.slice x4 r.kids.length y4)
    have hz5 : (wr5 w2 (w.heap.size + 1) (.int .i64 r.sort) (.string r.text) (.slice x2 r.scopes.length y2) (.int .i64 r.frm) (.slice x4 r.kids.length y4)).heap.size = w2.heap.size := wr5_size _ _ _ _ _ _ _
    refine bodyPost_ret (v := .agg #[.int .i64 r.sort, .string r.text, .slice x2 r.scopes.length y2, .int .i64 r.frm, .slice x4 r.kids.length y4]) (by simp [results, Tryz.results8, go_sem, h0, h1, h2, h3, h4]) rfl ?_
    rw [HX.out]
    refine ⟨_, _, rfl, ?_, HB2.out.trans (wr5_below (w := w2) (by omega) _ _ _ _ _)⟩
    exact FormAt.mono (fun b hb => ⟨by have := hb.1; omega, by have := hb.2; rw [← hz5] at this; exact this⟩) _ (FormAt.keep (w' := wr5 w2 (w.heap.size + 1) (.int .i64 r.sort) (.string r.text) (.slice x2 r.scopes.length y2) (.int .i64 r.frm) (.slice x4 r.kids.length y4)) (fun b hb => hg5.block b hb.2 (by have := hb.1; simp; omega)) _ HF.out)
  · have HX : Hid (resF (putB n) n f = Fm.no) := by show _ = _; unfold resF; rw [if_neg hbad]
    have fin : ∀ w1, Below W.heap.size W w1 → ∃ d2 d4, (Ending.returned (.agg #[.int .i64 0, .string ⟨#[]⟩, .slice none 0 0, .int .i64 0, .slice none 0 0]) : Ending) = .returned (handed (resF (putB n) n f) d2 d4) ∧ FormAt (Fresh w (wr5 w1 (w.heap.size + 1) (.int .i64 0) (.string ⟨#[]⟩) (.slice none 0 0) (.int .i64 0) (.slice none 0 0))) (wr5 w1 (w.heap.size + 1) (.int .i64 0) (.string ⟨#[]⟩) (.slice none 0 0) (.int .i64 0) (.slice none 0 0)) (resF (putB n) n f) (.int .i64 (resF (putB n) n f).sort) (.string (resF (putB n) n f).text) d2 (.int .i64 (resF (putB n) n f).frm) d4 ∧ Below w.heap.size w (wr5 w1 (w.heap.size + 1) (.int .i64 0) (.string ⟨#[]⟩) (.slice none 0 0) (.int .i64 0) (.slice none 0 0)) := fun w1 hb => by
      rw [HX.out]
      exact ⟨_, _, rfl, (tree_no _ _).form (by rw [Fm.cost_eq]; exact Nat.zero_le _), (HWB.out.trans (hb.mono (by omega))).trans (wr5_below (by omega) _ _ _ _ _)⟩
    have HFin := hid fin
    clear fin
    cases hok : formOk f with
    | false =>
      have ho := HO.out
      rw [hok] at ho
      have HO := hid ho
      clear ho hbad
      go_enter Tryz.func8, Tryz.ntmps8
      go_wp2_with fail
      rw [← hW]
      refine HO.out.mono ?_
      rintro e w1 ⟨rfl, hw1⟩
      have HB1 := hid hw1
      have P2 := hid (O1.out.keep hw1 (by omega))
      have h0 := P2.out.cell 0
      have zz0 := P2.out.frozen 0
      have h1 := P2.out.cell 1
      have zz1 := P2.out.frozen 1
      have h2 := P2.out.cell 2
      have zz2 := P2.out.frozen 2
      have h3 := P2.out.cell 3
      have zz3 := P2.out.frozen 3
      have h4 := P2.out.cell 4
      have zz4 := P2.out.frozen 4
      simp at h0 h1 h2 h3 h4
      clear hw1 hW
      go_wp2_with fail
      refine bodyPost_ret (v := .agg #[.int .i64 0, .string ⟨#[]⟩, .slice none 0 0, .int .i64 0, .slice none 0 0]) (by simp [results, Tryz.results8, go_sem, h0, h1, h2, h3, h4]) rfl ?_
      exact HFin.out w1 HB1.out
    | true =>
      have hnn : n < 0 := by
        rcases Int.lt_or_le n 0 with h | h
        · exact h
        · exact absurd ⟨hok, h⟩ hbad
      have ho := HO.out
      rw [hok] at ho
      have HO := hid ho
      clear ho hbad
      go_enter Tryz.func8, Tryz.ntmps8
      go_wp2_with fail
      rw [← hW]
      refine HO.out.mono ?_
      rintro e w1 ⟨rfl, hw1⟩
      have HB1 := hid hw1
      have P2 := hid (O1.out.keep hw1 (by omega))
      have h0 := P2.out.cell 0
      have zz0 := P2.out.frozen 0
      have h1 := P2.out.cell 1
      have zz1 := P2.out.frozen 1
      have h2 := P2.out.cell 2
      have zz2 := P2.out.frozen 2
      have h3 := P2.out.cell 3
      have zz3 := P2.out.frozen 3
      have h4 := P2.out.cell 4
      have zz4 := P2.out.frozen 4
      simp at h0 h1 h2 h3 h4
      clear hw1 hW
      go_wp2_with fail
      refine bodyPost_ret (v := .agg #[.int .i64 0, .string ⟨#[]⟩, .slice none 0 0, .int .i64 0, .slice none 0 0]) (by simp [results, Tryz.results8, go_sem, h0, h1, h2, h3, h4]) rfl ?_
      exact HFin.out w1 HB1.out

set_option maxRecDepth 20000 in
set_option maxHeartbeats 2000000 in
theorem specFlip_any (n : Int) (f : Fm) (B : Nat → Prop) (w : World) (c0 c1 c2 c3 c4 : Value) (hA : FormAt B w f c0 c1 c2 c3 c4) (hB : ∀ b, B b → b < w.heap.size) (hc : f.cost ≤ 1048576) :
    Calls Tryz.prog 9 #[.agg #[c0, c1, c2, c3, c4], .int .i64 n] w fun e w' => ∃ d2 d4, e = .returned (handed (resF (flipB n) n f) d2 d4) ∧ FormAt (Fresh w w') w' (resF (flipB n) n f) (.int .i64 (resF (flipB n) n f).sort) (.string (resF (flipB n) n f).text) d2 (.int .i64 (resF (flipB n) n f).frm) d4 ∧ Below w.heap.size w w' := by
  have HR := hid hB
  obtain ⟨W, hW⟩ : ∃ W, W = (w.alloc (.cells #[c0, c1, c2, c3, c4] 26)).alloc (.cells #[.int .i64 0, .string ⟨#[]⟩, .slice none 0 0, .int .i64 0, .slice none 0 0] 26) := ⟨_, rfl⟩
  have hWs : W.heap.size = w.heap.size + 2 := by rw [hW]; simp
  have HWB : Hid (Below w.heap.size w W) := by
    show Below _ _ _
    rw [hW]; exact ((Below.refl _ _).alloc (Nat.le_refl _) _).alloc (by simp) _
  have O0 : Hid (Own W w.heap.size 26 #[c0, c1, c2, c3, c4]) := by
    show Own _ _ _ _
    rw [hW]; exact (own_new _ _ _).more (by simp) _
  have O1 : Hid (Own W (w.heap.size + 1) 26 #[.int .i64 0, .string ⟨#[]⟩, .slice none 0 0, .int .i64 0, .slice none 0 0]) := by
    show Own _ _ _ _
    have h := own_new (w.alloc (.cells #[c0, c1, c2, c3, c4] 26)) #[.int .i64 0, .string ⟨#[]⟩, .slice none 0 0, .int .i64 0, .slice none 0 0] 26
    rw [World.size_alloc] at h
    rw [hW]; exact h
  have HO := hid (specFormOk_any f B W c0 c1 c2 c3 c4 (FormAt.keep (HWB.out.on HR.out) _ hA) (fun b hb => by have := HR.out b hb; omega) hc)
  have HA := hid hA
  obtain ⟨rfl, rfl, ht, h2, rfl, h4⟩ := (formAt_iff _ _ _ _ _ _ _ _).1 hA
  obtain ⟨a2, k2, rfl, -⟩ := h2
  obtain ⟨a4, k4, rfl, -⟩ := h4
  clear hA hB
  by_cases hbad : formOk f = true ∧ 0 ≤ n
  · obtain ⟨hok, hn0⟩ := hbad
    have HX : Hid (resF (flipB n) n f = chF (flipB n) f) := by show _ = _; unfold resF; rw [if_pos ⟨hok, hn0⟩]
    have HOK : Hid (okB f 0 = true) := by
      have h := hok
      unfold formOk at h
      rw [Bool.and_eq_true] at h
      exact h.1
    have ho := HO.out
    rw [hok] at ho
    have HO := hid ho
    clear ho
    have hnn : ¬ n < 0 := by omega
    go_enter Tryz.func9, Tryz.ntmps9
    go_wp2_with (go_at_call 11; rw [← hW]; refine HO.out.mono ?_; rintro e w1 ⟨rfl, hw1⟩; have P0 := hid (O0.out.keep hw1 (by omega)); have g0 := P0.out.cell 0; have g1 := P0.out.cell 1; have g2 := P0.out.cell 2; have g3 := P0.out.cell 3; have g4 := P0.out.cell 4; simp at g0 g1 g2 g3 g4; have HB1 := hid hw1; clear hw1)
    have hs1 := HB1.out.size
    have hBW := HWB.out.trans (HB1.out.mono (by omega))
    refine (wflipB_all n f.sz f (Nat.le_refl _) B w1 _ _ _ _ _ 0 (FormAt.keep (hBW.on HR.out) _ HA.out) (fun b hb => by have := HR.out b hb; omega) hc HOK.out).mono ?_
    rintro e w2 ⟨d0, d1, d2, d3, d4, rfl, hf, hw2⟩
    obtain ⟨r, hr0⟩ : ∃ r, r = chF (flipB n) f := ⟨_, rfl⟩
    rw [← hr0] at hf HX
    have HF := hid hf
    obtain ⟨rfl, rfl, -, q2, rfl, q4⟩ := (formAt_iff _ _ _ _ _ _ _ _).1 hf
    obtain ⟨x2, y2, rfl, -⟩ := q2
    obtain ⟨x4, y4, rfl, -⟩ := q4
    have hs2 := hw2.size
    have P2 := hid ((O1.out.keep HB1.out (by omega)).keep hw2 (by omega))
    have HB2 := hid (hBW.trans (hw2.mono (by omega)))
    have h0 := P2.out.cell 0
    have zz0 := P2.out.frozen 0
    have h1 := P2.out.cell 1
    have zz1 := P2.out.frozen 1
    have h2 := P2.out.cell 2
    have zz2 := P2.out.frozen 2
    have h3 := P2.out.cell 3
    have zz3 := P2.out.frozen 3
    have h4 := P2.out.cell 4
    have zz4 := P2.out.frozen 4
    simp at h0 h1 h2 h3 h4
    clear hf hw2 hBW hr0 hW
    go_wp2_with fail
    have hg5 := wr5_grown w2 (w.heap.size + 1) (.int .i64 r.sort) (.string r.text) (.slice x2 r.scopes.length y2) (.int .i64 r.frm) (.slice x4 r.kids.length y4)
    have hz5 : (wr5 w2 (w.heap.size + 1) (.int .i64 r.sort) (.string r.text) (.slice x2 r.scopes.length y2) (.int .i64 r.frm) (.slice x4 r.kids.length y4)).heap.size = w2.heap.size := wr5_size _ _ _ _ _ _ _
    refine bodyPost_ret (v := .agg #[.int .i64 r.sort, .string r.text, .slice x2 r.scopes.length y2, .int .i64 r.frm, .slice x4 r.kids.length y4]) (by simp [results, Tryz.results9, go_sem, h0, h1, h2, h3, h4]) rfl ?_
    rw [HX.out]
    refine ⟨_, _, rfl, ?_, HB2.out.trans (wr5_below (w := w2) (by omega) _ _ _ _ _)⟩
    exact FormAt.mono (fun b hb => ⟨by have := hb.1; omega, by have := hb.2; rw [← hz5] at this; exact this⟩) _ (FormAt.keep (w' := wr5 w2 (w.heap.size + 1) (.int .i64 r.sort) (.string r.text) (.slice x2 r.scopes.length y2) (.int .i64 r.frm) (.slice x4 r.kids.length y4)) (fun b hb => hg5.block b hb.2 (by have := hb.1; simp; omega)) _ HF.out)
  · have HX : Hid (resF (flipB n) n f = Fm.no) := by show _ = _; unfold resF; rw [if_neg hbad]
    have fin : ∀ w1, Below W.heap.size W w1 → ∃ d2 d4, (Ending.returned (.agg #[.int .i64 0, .string ⟨#[]⟩, .slice none 0 0, .int .i64 0, .slice none 0 0]) : Ending) = .returned (handed (resF (flipB n) n f) d2 d4) ∧ FormAt (Fresh w (wr5 w1 (w.heap.size + 1) (.int .i64 0) (.string ⟨#[]⟩) (.slice none 0 0) (.int .i64 0) (.slice none 0 0))) (wr5 w1 (w.heap.size + 1) (.int .i64 0) (.string ⟨#[]⟩) (.slice none 0 0) (.int .i64 0) (.slice none 0 0)) (resF (flipB n) n f) (.int .i64 (resF (flipB n) n f).sort) (.string (resF (flipB n) n f).text) d2 (.int .i64 (resF (flipB n) n f).frm) d4 ∧ Below w.heap.size w (wr5 w1 (w.heap.size + 1) (.int .i64 0) (.string ⟨#[]⟩) (.slice none 0 0) (.int .i64 0) (.slice none 0 0)) := fun w1 hb => by
      rw [HX.out]
      exact ⟨_, _, rfl, (tree_no _ _).form (by rw [Fm.cost_eq]; exact Nat.zero_le _), (HWB.out.trans (hb.mono (by omega))).trans (wr5_below (by omega) _ _ _ _ _)⟩
    have HFin := hid fin
    clear fin
    cases hok : formOk f with
    | false =>
      have ho := HO.out
      rw [hok] at ho
      have HO := hid ho
      clear ho hbad
      go_enter Tryz.func9, Tryz.ntmps9
      go_wp2_with fail
      rw [← hW]
      refine HO.out.mono ?_
      rintro e w1 ⟨rfl, hw1⟩
      have HB1 := hid hw1
      have P2 := hid (O1.out.keep hw1 (by omega))
      have h0 := P2.out.cell 0
      have zz0 := P2.out.frozen 0
      have h1 := P2.out.cell 1
      have zz1 := P2.out.frozen 1
      have h2 := P2.out.cell 2
      have zz2 := P2.out.frozen 2
      have h3 := P2.out.cell 3
      have zz3 := P2.out.frozen 3
      have h4 := P2.out.cell 4
      have zz4 := P2.out.frozen 4
      simp at h0 h1 h2 h3 h4
      clear hw1 hW
      go_wp2_with fail
      refine bodyPost_ret (v := .agg #[.int .i64 0, .string ⟨#[]⟩, .slice none 0 0, .int .i64 0, .slice none 0 0]) (by simp [results, Tryz.results9, go_sem, h0, h1, h2, h3, h4]) rfl ?_
      exact HFin.out w1 HB1.out
    | true =>
      have hnn : n < 0 := by
        rcases Int.lt_or_le n 0 with h | h
        · exact h
        · exact absurd ⟨hok, h⟩ hbad
      have ho := HO.out
      rw [hok] at ho
      have HO := hid ho
      clear ho hbad
      go_enter Tryz.func9, Tryz.ntmps9
      go_wp2_with fail
      rw [← hW]
      refine HO.out.mono ?_
      rintro e w1 ⟨rfl, hw1⟩
      have HB1 := hid hw1
      have P2 := hid (O1.out.keep hw1 (by omega))
      have h0 := P2.out.cell 0
      have zz0 := P2.out.frozen 0
      have h1 := P2.out.cell 1
      have zz1 := P2.out.frozen 1
      have h2 := P2.out.cell 2
      have zz2 := P2.out.frozen 2
      have h3 := P2.out.cell 3
      have zz3 := P2.out.frozen 3
      have h4 := P2.out.cell 4
      have zz4 := P2.out.frozen 4
      simp at h0 h1 h2 h3 h4
      clear hw1 hW
      go_wp2_with fail
      refine bodyPost_ret (v := .agg #[.int .i64 0, .string ⟨#[]⟩, .slice none 0 0, .int .i64 0, .slice none 0 0]) (by simp [results, Tryz.results9, go_sem, h0, h1, h2, h3, h4]) rfl ?_
      exact HFin.out w1 HB1.out

end Go.Proofs.YtjbejnibiebjgaaGreat
