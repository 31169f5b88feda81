/-
  The model's l2With and l2Flip: the form with other scopes, in new memory. Condition: the form lies in memory, is ok, and costs at most 1048576.
-/
import Derived.Test.YtjbejnibiebjgaaGreatPart19
import Derived.Test.YtjbejnibiebjgaaGreatH3
import Derived.Deep.RegionHeld3
namespace Go.Proofs.YtjbejnibiebjgaaGreat
open Go.RowKit Go.Siskin

def WflipBForm (sc : Int) (n : Nat) : Prop := ∀ f : Fm, f.sz ≤ n → ∀ (B : Nat → Prop) (w : World) (c0 c1 c2 c3 c4 : Value) (d : Nat), FormAt B w f c0 c1 c2 c3 c4 → (∀ b, B b → b < w.heap.size) → f.cost ≤ 1048576 → okB f d = true →
  Calls Tryz.prog 22 #[.agg #[c0, c1, c2, c3, c4], .int .i64 sc] w fun e w' => ∃ d0 d1 d2 d3 d4, e = .returned (.agg #[d0, d1, d2, d3, d4]) ∧ FormAt (Fresh w w') w' (chF (flipB sc) f) d0 d1 d2 d3 d4 ∧ Below w.heap.size w w'

set_option maxRecDepth 20000 in
set_option maxHeartbeats 4000000 in
theorem wflipB_of (sc : Int) (n : Nat) (ih : WflipBForm sc n) : WflipBForm sc (n + 1) := by
  intro f hfz B w c0 c1 c2 c3 c4 d hA hB hc hok
  have HI := hid ih
  have HR := hid hB
  have HCo := hid (Fm.cost_eq f)
  have HSz := hid (Fm.sz_kids f)
  obtain ⟨W, hW⟩ : ∃ W, W = (w.alloc (.cells #[c0, c1, c2, c3, c4] 26)).alloc (.cells #[.int .i64 0, .string ⟨#[]⟩, .slice none 0 0, .int .i64 0, .slice none 0 0] 26) := ⟨_, rfl⟩
  have hWs : W.heap.size = w.heap.size + 2 := by rw [hW]; simp
  have HWB : Hid (Below w.heap.size w W) := by
    show Below _ _ _
    rw [hW]; exact ((Below.refl _ _).alloc (Nat.le_refl _) _).alloc (by simp) _
  have O0 : Hid (Own W w.heap.size 26 #[c0, c1, c2, c3, c4]) := by
    show Own _ _ _ _
    rw [hW]; exact (own_new _ _ _).more (by simp) _
  have O1 : Hid (Own W (w.heap.size + 1) 26 #[.int .i64 0, .string ⟨#[]⟩, .slice none 0 0, .int .i64 0, .slice none 0 0]) := by
    show Own _ _ _ _
    have h := own_new (w.alloc (.cells #[c0, c1, c2, c3, c4] 26)) #[.int .i64 0, .string ⟨#[]⟩, .slice none 0 0, .int .i64 0, .slice none 0 0] 26
    rw [World.size_alloc] at h
    rw [hW]; exact h
  have HQ := hid (l1Copy_any f B W c0 c1 c2 c3 c4 (FormAt.keep (HWB.out.on HR.out) _ hA) (fun b hb => by have := HR.out b hb; omega) hc)
  obtain ⟨rfl, rfl, ht, h2, rfl, h4⟩ := (formAt_iff _ _ _ _ _ _ _ _).1 hA
  have H2 := hid h2
  obtain ⟨a2, k2, rfl, -⟩ := h2
  obtain ⟨a4, k4, rfl, -⟩ := h4
  have HOK := hid hok
  clear hA hB ih hok
  have hd : d ≤ 60 := by
    rcases Nat.lt_or_ge 60 d with h1 | h1
    · have h := HOK.out; rw [okB_deep f d h1] at h; cases h
    · exact h1
  by_cases s1 : f.sort = 1
  · have hid1 := HOK.out
    rw [okB_id f d hd s1] at hid1
    unfold idFormB at hid1
    simp only [Bool.and_eq_true, decide_eq_true_eq] at hid1
    have hkl : f.kids = [] := List.length_eq_zero_iff.1 hid1.2
    have HKL := hid hkl
    have HUp : Hid (Up f.scopes) := by
      have h := hid1.1.2
      unfold scopesB at h
      rw [Bool.and_eq_true] at h
      exact asc_up _ h.1
    have HS1 := hid s1
    have hsl : f.scopes.length ≤ 1048576 := by have := HCo.out; omega
    have hsb : (f.sort == 1) = true := by simpa using s1
    clear hid1 hkl s1
    go_enter Tryz.func22, Tryz.ntmps22
    go_wp2_with fail
    rw [← hW]
    refine HQ.out.mono ?_
    rintro e w1 ⟨d0, d1, d2, d3, d4, rfl, hcf, -, hw1⟩
    have HCF := hid hcf
    obtain ⟨rfl, rfl, -, q2, rfl, q4⟩ := (formAt_iff _ _ _ _ _ _ _ _).1 hcf
    have HQ4 := hid q4
    obtain ⟨x2, y2, rfl, -⟩ := q2
    obtain ⟨x4, y4, rfl, -⟩ := q4
    have hs1 := hw1.size
    have HB1 := hid (HWB.out.trans (hw1.mono (by omega)))
    have P0 := hid (O0.out.keep hw1 (by omega))
    have P1 := hid (O1.out.keep hw1 (by omega))
    obtain ⟨X, hX⟩ : ∃ X, X = w1.alloc (.cells #[.int .i64 f.sort, .string f.text, .slice x2 f.scopes.length y2, .int .i64 f.frm, .slice x4 f.kids.length y4] 26) := ⟨_, rfl⟩
    have hXs : Hid (X.heap.size = w1.heap.size + 1) := by show _ = _; rw [hX]; simp
    have OX : Hid (Own X w1.heap.size 26 #[.int .i64 f.sort, .string f.text, .slice x2 f.scopes.length y2, .int .i64 f.frm, .slice x4 f.kids.length y4]) := by show Own _ _ _ _; rw [hX]; exact own_new _ _ _
    have HBX : Hid (Below w1.heap.size w1 X) := by show Below _ _ _; rw [hX]; exact (Below.refl _ _).alloc (Nat.le_refl _) _
    have p0 := P0.out.cell 0
    have p2 := P0.out.cell 2
    simp at p0 p2
    have hlt0 : w.heap.size < w1.heap.size := by omega
    have h0X : w.heap.size + 1 < w1.heap.size := by omega
    clear hcf hw1 hW
    have HHas := hid (l2Has_any B (.slice a2 f.scopes.length k2) f.scopes sc X (H2.out.keep ((HB1.out.trans (HBX.out.mono (by omega))).on HR.out)))
    cases hcn : f.scopes.contains sc with
    | true =>
      have HXF : Hid (flipB sc f.scopes = lessB sc f.scopes) := by show _ = _; unfold flipB; rw [if_pos hcn]
      have hh := HHas.out
      rw [hcn, hX] at hh
      have HHas := hid hh
      clear hh
      have px : X.cell? ⟨w.heap.size, 2, none⟩ = some (.slice a2 f.scopes.length k2) := (HBX.out.cell (p := ⟨w.heap.size, 2, none⟩) hlt0).trans p2
      rw [hX] at px
      have HPut := hid (l2Take_any B (.slice a2 f.scopes.length k2) f.scopes sc X (H2.out.keep ((HB1.out.trans (HBX.out.mono (by omega))).on HR.out)) (fun b hb => by have := HR.out b hb; have := hXs.out; omega) hsl)
      rw [← HXF.out] at HPut
      go_wp2_with (go_at_call 35; refine HHas.out.mono ?_; rintro e w' ⟨rfl, hw⟩; rw [hw]; clear hw w')
      rw [← hX]
      refine HPut.out.mono ?_
      rintro e w2 ⟨u, rfl, hu, hw2⟩
      have HU2 := hid hu
      obtain ⟨ua, uc, rfl, -⟩ := hu
      have hs2 : w1.heap.size + 1 ≤ w2.heap.size := by have h := hw2.size; rw [hXs.out] at h; exact h
      have HB2 := hid hw2
      have OX2 := hid (OX.out.keep hw2 OX.out.lt)
      have P2 := hid ((P1.out.keep HBX.out (by omega)).keep hw2 (by rw [hXs.out]; omega))
      have f0 := OX2.out.cell 0
      have f1 := OX2.out.cell 1
      have f2 := OX2.out.cell 2
      have f3 := OX2.out.cell 3
      have f4 := OX2.out.cell 4
      have z2 := OX2.out.frozen 2
      have h0 := P2.out.cell 0
      have h1 := P2.out.cell 1
      have h2 := P2.out.cell 2
      have h3 := P2.out.cell 3
      have h4 := P2.out.cell 4
      have y0 := P2.out.frozen 0
      have y1 := P2.out.frozen 1
      have y2' := P2.out.frozen 2
      have y3 := P2.out.frozen 3
      have y4' := P2.out.frozen 4
      simp at f0 f1 f2 f3 f4 h0 h1 h2 h3 h4
      obtain ⟨L, hL⟩ : ∃ L, L = (flipB sc f.scopes).length := ⟨_, rfl⟩
      rw [← hL] at HU2 ⊢
      clear hw2 hX hL
      go_wp2_with fail
      have hgs := grown_set w2 w1.heap.size 2 (.slice ua L uc)
      have hg5 := wr5_grown (w2.setCell ⟨w1.heap.size, 2, none⟩ (.slice ua L uc)) (w.heap.size + 1) (.int .i64 f.sort) (.string f.text) (.slice ua L uc) (.int .i64 f.frm) (.slice x4 f.kids.length y4)
      have hz5 : (wr5 (w2.setCell ⟨w1.heap.size, 2, none⟩ (.slice ua L uc)) (w.heap.size + 1) (.int .i64 f.sort) (.string f.text) (.slice ua L uc) (.int .i64 f.frm) (.slice x4 f.kids.length y4)).heap.size = w2.heap.size := by rw [wr5_size]; simp
      refine bodyPost_ret (v := .agg #[.int .i64 f.sort, .string f.text, .slice ua L uc, .int .i64 f.frm, .slice x4 f.kids.length y4]) (by simp [results, Tryz.results22, go_sem, h0, h1, h2, h3, h4]) rfl ?_
      refine ⟨_, _, _, _, _, rfl, ?_, ?_⟩
      · rw [formAt_iff, chF_eq]
        refine ⟨rfl, rfl, ht, ?_, rfl, ?_⟩
        · show IntsAt _ _ _ (if f.sort = 1 then _ else _)
          rw [if_pos HS1.out]
          show IntsAt (Fresh w (wr5 (w2.setCell ⟨w1.heap.size, 2, none⟩ (.slice ua L uc)) (w.heap.size + 1) (.int .i64 f.sort) (.string f.text) (.slice ua L uc) (.int .i64 f.frm) (.slice x4 f.kids.length y4))) (wr5 (w2.setCell ⟨w1.heap.size, 2, none⟩ (.slice ua L uc)) (w.heap.size + 1) (.int .i64 f.sort) (.string f.text) (.slice ua L uc) (.int .i64 f.frm) (.slice x4 f.kids.length y4)) _ _
          refine IntsAt.mono (B := Fresh X w2) ((HU2.out.keep fun b hb => hgs.block b hb.2 (by have h := hb.1; rw [hXs.out] at h; simp; omega)).keep fun b hb => hg5.block b (by simpa using hb.2) (by have h := hb.1; rw [hXs.out] at h; simp; omega)) fun b hb => ⟨by have h := hb.1; rw [hXs.out] at h; omega, by rw [hz5]; exact hb.2⟩
        · show FormsAt _ _ _ (f.kids.map _)
          rw [HKL.out]
          exact ⟨x4, y4, rfl, Nat.zero_le _, Or.inl rfl⟩
      · exact (((HB1.out.trans (HBX.out.mono (by omega))).trans (HB2.out.mono (by have := hXs.out; omega))).trans ⟨hgs.os, hgs.tape, hgs.output, hgs.size, fun i hi => hgs.block i (by omega) (by simp; omega)⟩).trans ⟨hg5.os, hg5.tape, hg5.output, hg5.size, fun i hi => hg5.block i (by simp; omega) (by simp; omega)⟩
    | false =>
      have HXF : Hid (flipB sc f.scopes = putB sc f.scopes) := by show _ = _; unfold flipB putB; rw [if_neg (by rw [hcn]; simp), if_neg (by rw [hcn]; simp)]
      have hh := HHas.out
      rw [hcn, hX] at hh
      have HHas := hid hh
      clear hh
      have px : X.cell? ⟨w.heap.size, 2, none⟩ = some (.slice a2 f.scopes.length k2) := (HBX.out.cell (p := ⟨w.heap.size, 2, none⟩) hlt0).trans p2
      rw [hX] at px
      have HPut := hid (l2Put_any B (.slice a2 f.scopes.length k2) f.scopes sc X (H2.out.keep ((HB1.out.trans (HBX.out.mono (by omega))).on HR.out)) HUp.out (fun b hb => by have := HR.out b hb; have := hXs.out; omega) hsl)
      rw [← HXF.out] at HPut
      go_wp2_with (go_at_call 35; refine HHas.out.mono ?_; rintro e w' ⟨rfl, hw⟩; rw [hw]; clear hw w')
      rw [← hX]
      refine HPut.out.mono ?_
      rintro e w2 ⟨u, rfl, hu, hw2⟩
      have HU2 := hid hu
      obtain ⟨ua, uc, rfl, -⟩ := hu
      have hs2 : w1.heap.size + 1 ≤ w2.heap.size := by have h := hw2.size; rw [hXs.out] at h; exact h
      have HB2 := hid hw2
      have OX2 := hid (OX.out.keep hw2 OX.out.lt)
      have P2 := hid ((P1.out.keep HBX.out (by omega)).keep hw2 (by rw [hXs.out]; omega))
      have f0 := OX2.out.cell 0
      have f1 := OX2.out.cell 1
      have f2 := OX2.out.cell 2
      have f3 := OX2.out.cell 3
      have f4 := OX2.out.cell 4
      have z2 := OX2.out.frozen 2
      have h0 := P2.out.cell 0
      have h1 := P2.out.cell 1
      have h2 := P2.out.cell 2
      have h3 := P2.out.cell 3
      have h4 := P2.out.cell 4
      have y0 := P2.out.frozen 0
      have y1 := P2.out.frozen 1
      have y2' := P2.out.frozen 2
      have y3 := P2.out.frozen 3
      have y4' := P2.out.frozen 4
      simp at f0 f1 f2 f3 f4 h0 h1 h2 h3 h4
      obtain ⟨L, hL⟩ : ∃ L, L = (flipB sc f.scopes).length := ⟨_, rfl⟩
      rw [← hL] at HU2 ⊢
      clear hw2 hX hL
      go_wp2_with fail
      have hgs := grown_set w2 w1.heap.size 2 (.slice ua L uc)
      have hg5 := wr5_grown (w2.setCell ⟨w1.heap.size, 2, none⟩ (.slice ua L uc)) (w.heap.size + 1) (.int .i64 f.sort) (.string f.text) (.slice ua L uc) (.int .i64 f.frm) (.slice x4 f.kids.length y4)
      have hz5 : (wr5 (w2.setCell ⟨w1.heap.size, 2, none⟩ (.slice ua L uc)) (w.heap.size + 1) (.int .i64 f.sort) (.string f.text) (.slice ua L uc) (.int .i64 f.frm) (.slice x4 f.kids.length y4)).heap.size = w2.heap.size := by rw [wr5_size]; simp
      refine bodyPost_ret (v := .agg #[.int .i64 f.sort, .string f.text, .slice ua L uc, .int .i64 f.frm, .slice x4 f.kids.length y4]) (by simp [results, Tryz.results22, go_sem, h0, h1, h2, h3, h4]) rfl ?_
      refine ⟨_, _, _, _, _, rfl, ?_, ?_⟩
      · rw [formAt_iff, chF_eq]
        refine ⟨rfl, rfl, ht, ?_, rfl, ?_⟩
        · show IntsAt _ _ _ (if f.sort = 1 then _ else _)
          rw [if_pos HS1.out]
          show IntsAt (Fresh w (wr5 (w2.setCell ⟨w1.heap.size, 2, none⟩ (.slice ua L uc)) (w.heap.size + 1) (.int .i64 f.sort) (.string f.text) (.slice ua L uc) (.int .i64 f.frm) (.slice x4 f.kids.length y4))) (wr5 (w2.setCell ⟨w1.heap.size, 2, none⟩ (.slice ua L uc)) (w.heap.size + 1) (.int .i64 f.sort) (.string f.text) (.slice ua L uc) (.int .i64 f.frm) (.slice x4 f.kids.length y4)) _ _
          refine IntsAt.mono (B := Fresh X w2) ((HU2.out.keep fun b hb => hgs.block b hb.2 (by have h := hb.1; rw [hXs.out] at h; simp; omega)).keep fun b hb => hg5.block b (by simpa using hb.2) (by have h := hb.1; rw [hXs.out] at h; simp; omega)) fun b hb => ⟨by have h := hb.1; rw [hXs.out] at h; omega, by rw [hz5]; exact hb.2⟩
        · show FormsAt _ _ _ (f.kids.map _)
          rw [HKL.out]
          exact ⟨x4, y4, rfl, Nat.zero_le _, Or.inl rfl⟩
      · exact (((HB1.out.trans (HBX.out.mono (by omega))).trans (HB2.out.mono (by have := hXs.out; omega))).trans ⟨hgs.os, hgs.tape, hgs.output, hgs.size, fun i hi => hgs.block i (by omega) (by simp; omega)⟩).trans ⟨hg5.os, hg5.tape, hg5.output, hg5.size, fun i hi => hg5.block i (by simp; omega) (by simp; omega)⟩
  · have hsb : (f.sort == 1) = false := by simpa using s1
    have HS1 := hid s1
    clear s1
    have hkid : Hid (∀ k (hk : k < f.kids.length), okB f.kids[k] (d + 1) = true) := fun k hk => by
      have h := HOK.out
      rw [okB_eq] at h
      simp only [Bool.and_eq_true] at h
      cases hb : okB f.kids[k] (d + 1) with
      | true => rfl
      | false => rw [oksB_bad f.kids k (d + 1) hk hb] at h; exact absurd h.1.2 (by simp)
    go_enter Tryz.func22, Tryz.ntmps22
    go_wp2_with fail
    rw [← hW]
    refine HQ.out.mono ?_
    rintro e w1 ⟨d0, d1, d2, d3, d4, rfl, hcf, hcop, hw1⟩
    obtain ⟨rfl, rfl, -, -, rfl, -⟩ := (formAt_iff _ _ _ _ _ _ _ _).1 hcf
    obtain ⟨g2, y2, N, S0, rfl, hr2, hgN, hWN, hNw, hK0⟩ := hcop
    obtain ⟨x4, y4, rfl⟩ := hK0.shape
    have hs1 := hw1.size
    have HB1 := hid (HWB.out.trans (hw1.mono (by omega)))
    have P0 := hid (O0.out.keep hw1 (by omega))
    have P1 := hid (O1.out.keep hw1 (by omega))
    have HR2 := hid hr2
    have HK0 := hid hK0
    obtain ⟨xb, hxb⟩ : ∃ xb, xb = w1.heap.size := ⟨_, rfl⟩
    obtain ⟨X, hX⟩ : ∃ X, X = w1.alloc (.cells #[.int .i64 f.sort, .string f.text, .slice (some ⟨g2, 0, none⟩) f.scopes.length y2, .int .i64 f.frm, .slice x4 f.kids.length y4] 26) := ⟨_, rfl⟩
    have hXs : Hid (X.heap.size = w1.heap.size + 1) := by show _ = _; rw [hX]; simp
    have OX : Hid (Own X xb 26 #[.int .i64 f.sort, .string f.text, .slice (some ⟨g2, 0, none⟩) f.scopes.length y2, .int .i64 f.frm, .slice x4 f.kids.length y4]) := by show Own _ _ _ _; rw [hX, hxb]; exact own_new _ _ _
    have HBX : Hid (Below w1.heap.size w1 X) := by show Below _ _ _; rw [hX]; exact (Below.refl _ _).alloc (Nat.le_refl _) _
    have p0 := P0.out.cell 0
    simp at p0
    have hlt0 : w.heap.size < w1.heap.size := by omega
    clear hcf hw1 hW hr2 hK0
    go_wp2_with fail
    rw [← hX, ← hxb]
    have hxb' : w1.heap.size ≤ xb := by omega
    have hXlt : Hid (xb < X.heap.size) := by have := hXs.out; show _ < _; omega
    have A1 := hid (P1.out.keep HBX.out (by omega))
    have A2 := hid (row_base' (HR2.out.kept (row := none) (w' := X) ⟨HBX.out.os, HBX.out.tape, HBX.out.output, HBX.out.size, fun i hi _ => HBX.out.block i hi⟩ (Or.inr (by simp [Value.ownBlock]))))
    have A3 := hid (HK0.out.below HBX.out)
    have A4 := hid (HB1.out.trans (HBX.out.mono (by omega)))
    clear hX hxb p0
    go_loopw [6] (fun i wr => ∃ k : Nat, k ≤ f.kids.length ∧ i = .int .i64 k ∧ Hid (∃ S, Kids S wr N (.slice x4 f.kids.length y4) (mix (chF (flipB sc)) k f.kids) ∧ ¬ S xb) ∧ Hid (Own wr xb 26 #[.int .i64 f.sort, .string f.text, .slice (some ⟨g2, 0, none⟩) f.scopes.length y2, .int .i64 f.frm, .slice x4 f.kids.length y4]) ∧ Hid (Own wr (w.heap.size + 1) 26 #[.int .i64 0, .string ⟨#[]⟩, .slice none 0 0, .int .i64 0, .slice none 0 0]) ∧ Hid (wr.ownsRow 0 3 1 (.slice (some ⟨g2, 0, none⟩) f.scopes.length y2) f.scopes.length (f.scopes.map (Value.int .i64))) ∧ Hid (Below w.heap.size w wr) ∧ Hid (xb < wr.heap.size)) (fun i _ => f.kids.length - (intOf i).toNat)
    case atStart =>
      refine ⟨0, Nat.zero_le _, rfl, ⟨S0, ?_, fun h => by have := (HK0.out.low _ h).2; omega⟩, OX, A1, A2, A4, hXlt⟩
      rw [mix_zero]; exact A3.out
    case round =>
      obtain ⟨k, hk, rfl, HKS, HX, HO, HR3, HBl, HLt⟩ := hrel
      obtain ⟨S, hKS, hSx⟩ := HKS.out
      have HK := hid hKS
      have HSx := hid hSx
      have hwr := HLt.out
      have v4 := HX.out.cell 4
      simp at v4
      clear hKS hSx
      by_cases hlt : k < f.kids.length
      · have hrow := HK.out.row
        obtain ⟨cs, r1, r2⟩ := hrow
        rw [mix_length] at r1
        obtain ⟨g4, rfl, hg4, hg4w⟩ : ∃ g4, x4 = some ⟨g4, 0, none⟩ ∧ N ≤ g4 ∧ g4 < wr.heap.size := by
          rcases r1.2 with ⟨e, h0⟩ | ⟨g, cap, cur, e, hb, hg, -⟩
          · omega
          · cases e; exact ⟨g, rfl, hb, (Array.getElem?_eq_some_iff.1 hg).1⟩
        obtain ⟨e0, e1, e2, e3, e4, i0, i1, i2, i3, i4, hkf⟩ := r2 k (by rw [mix_length]; exact hlt)
        rw [mix_get _ _ _ hlt] at hkf
        have hg4' := (HK0.out.lt (g := g4) rfl).2
        have HC := hid (HI.out f.kids[k] (by have := HSz.out; have := Fm.szs_get f.kids k hlt; omega) S wr.drew e0 e1 e2 e3 e4 (d + 1) (FormAt.keep (SameOn.drew S wr) _ hkf) (fun b hb => (HK.out.low b hb).2) (by have := HCo.out; have := Fm.costs_get f.kids k hlt; omega) (hkid.out k hlt))
        have q0 := (r1.cellAt (k * 5) (by omega)).trans i0
        have q1 := (r1.cellAt (k * 5 + 1) (by omega)).trans i1
        have q2 := (r1.cellAt (k * 5 + 2) (by omega)).trans i2
        have q3 := (r1.cellAt (k * 5 + 3) (by omega)).trans i3
        have q4 := (r1.cellAt (k * 5 + 4) (by omega)).trans i4
        obtain ⟨rfl, rfl, -, t2, rfl, t4⟩ := (formAt_iff _ _ _ _ _ _ _ _).1 hkf
        obtain ⟨z2, j2, rfl, -⟩ := t2
        obtain ⟨z4, j4, rfl, -⟩ := t4
        have R1 := hid r1
        have hfl : f.kids.length ≤ 1048576 := by have := HCo.out; omega
        have L0 : Hid (wr.drew.cell? ⟨xb, 4, none⟩ = some (.slice (some ⟨g4, 0, none⟩) f.kids.length y4)) := v4
        clear r1 r2 hkf i0 i1 i2 i3 i4
        go_wp2_with fail
        refine wp_region_held_drew (S := fun w' => w'.cell? ⟨xb, 4, none⟩ = some (.slice (some ⟨g4, 0, none⟩) f.kids.length y4)) rfl L0.out (fun _ => ?_)
        refine wpAnyH_take (i := 0) (oi := ({ dst := some 34, op := _, type := _, pos := _, after := _, guard := _ } : Oper)) (v := (.pointer (some ⟨xb, 4, none⟩))) rfl (by kernel_rfl) (by kernel_rfl) (by kernel_rfl) (fun _ _ _ h => h) (Or.inl ⟨by rfl, ?_⟩) L0.out ?_
        · intro w hSw; (try dsimp only at hSw); go_simp
        try simp only [Act.put, List.setIfInBounds_toArray, List.set_cons_zero, List.set_cons_succ]
        refine wpAnyH_take (i := 1) (oi := ({ dst := some 35, op := _, type := _, pos := _, after := _, guard := _ } : Oper)) (v := (.slice (some ⟨g4, 0, none⟩) f.kids.length y4)) rfl (by kernel_rfl) (by kernel_rfl) (by kernel_rfl) (fun _ _ _ h => h) (Or.inl ⟨by rfl, ?_⟩) L0.out ?_
        · intro w hSw; (try dsimp only at hSw); go_simp
        try simp only [Act.put, List.setIfInBounds_toArray, List.set_cons_zero, List.set_cons_succ]
        refine wpAnyH_take (i := 2) (oi := ({ dst := some 36, op := _, type := _, pos := _, after := _, guard := _ } : Oper)) (v := (.int .i64 k)) rfl (by kernel_rfl) (by kernel_rfl) (by kernel_rfl) (fun _ _ _ h => h) (Or.inl ⟨by rfl, ?_⟩) L0.out ?_
        · intro w hSw; (try dsimp only at hSw); go_simp
        try simp only [Act.put, List.setIfInBounds_toArray, List.set_cons_zero, List.set_cons_succ]
        refine wpAnyH_take (i := 3) (oi := ({ dst := some 37, op := _, type := _, pos := _, after := _, guard := _ } : Oper)) (v := (.pointer (some ⟨xb, 4, none⟩))) rfl (by kernel_rfl) (by kernel_rfl) (by kernel_rfl) (fun _ _ _ h => h) (Or.inl ⟨by rfl, ?_⟩) L0.out ?_
        · intro w hSw; (try dsimp only at hSw); go_simp
        try simp only [Act.put, List.setIfInBounds_toArray, List.set_cons_zero, List.set_cons_succ]
        refine wpAnyH_take (i := 4) (oi := ({ dst := some 38, op := _, type := _, pos := _, after := _, guard := _ } : Oper)) (v := (.slice (some ⟨g4, 0, none⟩) f.kids.length y4)) rfl (by kernel_rfl) (by kernel_rfl) (by kernel_rfl) (fun _ _ _ h => h) (Or.inl ⟨by rfl, ?_⟩) L0.out ?_
        · intro w hSw; (try dsimp only at hSw); go_simp
        try simp only [Act.put, List.setIfInBounds_toArray, List.set_cons_zero, List.set_cons_succ]
        refine wpAnyH_take (i := 5) (oi := ({ dst := some 39, op := _, type := _, pos := _, after := _, guard := _ } : Oper)) (v := (.int .i64 k)) rfl (by kernel_rfl) (by kernel_rfl) (by kernel_rfl) (fun _ _ _ h => h) (Or.inl ⟨by rfl, ?_⟩) L0.out ?_
        · intro w hSw; (try dsimp only at hSw); go_simp
        try simp only [Act.put, List.setIfInBounds_toArray, List.set_cons_zero, List.set_cons_succ]
        refine wpAnyH_take (i := 6) (oi := ({ dst := some 40, op := _, type := _, pos := _, after := _, guard := _ } : Oper)) (v := (.pointer (some ⟨g4, k * 5, none⟩))) rfl (by kernel_rfl) (by kernel_rfl) (by kernel_rfl) (fun _ _ _ h => h) (Or.inl ⟨by rfl, ?_⟩) L0.out ?_
        · intro w hSw; (try dsimp only at hSw); go_simp
        try simp only [Act.put, List.setIfInBounds_toArray, List.set_cons_zero, List.set_cons_succ]
        refine wpAnyH_take (i := 8) (oi := ({ dst := some 42, op := _, type := _, pos := _, after := _, guard := _ } : Oper)) (v := (.int .i64 sc)) rfl (by kernel_rfl) (by kernel_rfl) (by kernel_rfl) (fun _ _ _ h => h) (Or.inl ⟨by rfl, ?_⟩) L0.out ?_
        · intro w hSw; (try dsimp only at hSw); go_simp
        try simp only [Act.put, List.setIfInBounds_toArray, List.set_cons_zero, List.set_cons_succ]
        refine wpAnyH_ready (rs := [7]) (by kernel_rfl) (by simp) ?_
        refine AllReadyH.cons (o := ({ dst := some 41, op := _, type := _, pos := _, after := _, guard := _ } : Oper)) rfl (fun K hK => ?_) AllReadyH.nil
        go_simp
        refine hK.out _ _ L0.out (fun _ => ?_)
        clear hK K
        try simp only [Act.put, List.setIfInBounds_toArray, List.set_cons_zero, List.set_cons_succ]
        refine wpAnyH_ready (rs := [9]) (by kernel_rfl) (by simp) ?_
        refine AllReadyH.cons (o := ({ dst := some 43, op := _, type := _, pos := _, after := _, guard := _ } : Oper)) rfl (fun K hK => ?_) AllReadyH.nil
        go_simp
        go_at_call 22
        refine HC.out.mono ?_
        rintro e w5 ⟨b0, b1, b2, b3, b4, rfl, hf5, hw5⟩
        obtain ⟨F5, hF5⟩ : ∃ F5, F5 = chF (flipB sc) f.kids[k] := ⟨_, rfl⟩
        rw [← hF5] at hf5
        have HF5E := hid hF5
        have HF5 := hid hf5
        obtain ⟨rfl, rfl, -, t2, rfl, t4⟩ := (formAt_iff _ _ _ _ _ _ _ _).1 hf5
        obtain ⟨v2, l2, rfl, -⟩ := t2
        obtain ⟨v4', l4, rfl, -⟩ := t4
        have hs5 : wr.heap.size ≤ w5.heap.size := hw5.size
        have hwd : Below wr.heap.size wr w5 := ((Below.refl wr.heap.size wr).drew).trans hw5
        have HW5 := hid hw5
        have HWD := hid hwd
        have X5 := hid (HX.out.keep hwd hwr)
        have x5 := X5.out.cell 4
        simp at x5
        have L5 : Hid (w5.cell? ⟨xb, 4, none⟩ = some (.slice (some ⟨g4, 0, none⟩) f.kids.length y4)) := x5
        have R5 := R1.out.kept (row := none) (w' := w5) ⟨hwd.os, hwd.tape, hwd.output, hwd.size, fun i hi _ => hwd.block i hi⟩ (Or.inr (by simp [Value.ownBlock]))
        have n0 := (hwd.cell (p := ⟨g4, k * 5, none⟩) hg4w).trans q0
        have n1 := (hwd.cell (p := ⟨g4, k * 5 + 1, none⟩) hg4w).trans q1
        have n2 := (hwd.cell (p := ⟨g4, k * 5 + 2, none⟩) hg4w).trans q2
        have n3 := (hwd.cell (p := ⟨g4, k * 5 + 3, none⟩) hg4w).trans q3
        have n4 := (hwd.cell (p := ⟨g4, k * 5 + 4, none⟩) hg4w).trans q4
        have o0 := R5.frozenAt (k * 5)
        have o1 := R5.frozenAt (k * 5 + 1)
        have o2 := R5.frozenAt (k * 5 + 2)
        have o3 := R5.frozenAt (k * 5 + 3)
        have o4 := R5.frozenAt (k * 5 + 4)
        have HG := hid (row_put5 R5 (k * 5) (.int .i64 F5.sort) (.string F5.text) (.slice v2 F5.scopes.length l2) (.int .i64 F5.frm) (.slice v4' F5.kids.length l4)).2
        clear hf5 hw5 hF5 x5 hwd R5 q0 q1 q2 q3 q4
        go_wp2_with fail
        refine hK.out _ _ L5.out (fun _ => ?_)
        clear hK K
        try simp only [Act.put, List.setIfInBounds_toArray, List.set_cons_zero, List.set_cons_succ]
        refine wpAnyH_take (i := 10) (oi := ({ dst := some 44, op := _, type := _, pos := _, after := _, guard := _ } : Oper)) (v := (.pointer (some ⟨g4, k * 5, none⟩))) rfl (by kernel_rfl) (by kernel_rfl) (by kernel_rfl) (fun _ _ _ h => h) (Or.inl ⟨by rfl, ?_⟩) L5.out ?_
        · intro w hSw; (try dsimp only at hSw); go_simp
        try simp only [Act.put, List.setIfInBounds_toArray, List.set_cons_zero, List.set_cons_succ]
        refine wpAnyH_ready (rs := [11]) (by kernel_rfl) (by simp) ?_
        refine AllReadyH.cons (o := ({ dst := none, op := _, type := _, pos := _, after := _, guard := _ } : Oper)) rfl (fun K hK => ?_) AllReadyH.nil
        go_simp
        have X6 := hid (X5.out.far HG.out (by simp; omega))
        have x6 := X6.out.cell 4
        simp only [put5, List.getElem?_toArray, List.getElem?_cons_zero, List.getElem?_cons_succ] at x6
        have L6 := hid x6
        clear x6
        go_wp2_with fail
        refine hK.out _ _ L6.out (fun _ => ?_)
        clear hK K
        try simp only [Act.put, List.setIfInBounds_toArray, List.set_cons_zero, List.set_cons_succ]
        refine wpAnyH_done (by kernel_rfl) ?_ _
        clear L0 L5 L6 n0 n1 n2 n3 n4 o0 o1 o2 o3 o4
        go_wp2_with fail
        have hp := (HK.out.below ((Below.refl wr.heap.size wr).drew)).put (by rw [mix_length]) (k := k) (by rw [mix_length]; exact hlt) HW5.out (by have := HBl.out.size; show N ≤ wr.heap.size; omega) HF5.out
        rw [HF5E.out, mix_step _ _ _ hlt, ← HF5E.out] at hp
        refine ⟨⟨k + 1, by omega, by go_num, ⟨_, hp, fun h => ?_⟩, X6.out, ?_, ?_, ?_, ?_⟩, by simp [intOf]; omega⟩
        · rcases h with h | h
          · exact HSx.out h
          · have := h.1
            have h2 : wr.heap.size ≤ xb := this
            omega
        · exact (HO.out.keep HWD.out (by omega)).far HG.out (by simp; omega)
        · exact row_same HR3.out fun g e => by
            cases e
            have h1 := (HR3.out.lt g2 rfl).2
            exact (HG.out.block g2 (by omega) (by simp; omega)).trans (HWD.out.block g2 h1)
        · exact (HBl.out.trans (HWD.out.mono HBl.out.size)).trans ⟨HG.out.os, HG.out.tape, HG.out.output, HG.out.size, fun i hi => HG.out.block i (by have := HBl.out.size; omega) (by simp; omega)⟩
        · have := HG.out.size
          show _ < _
          exact Nat.lt_of_lt_of_le (by omega) this
      · have hkk : k = f.kids.length := by omega
        have u0 := HX.out.cell 0
        have u1 := HX.out.cell 1
        have u2 := HX.out.cell 2
        have u3 := HX.out.cell 3
        have h0 := HO.out.cell 0
        have h1 := HO.out.cell 1
        have h2 := HO.out.cell 2
        have h3 := HO.out.cell 3
        have h4 := HO.out.cell 4
        have y0 := HO.out.frozen 0
        have y1 := HO.out.frozen 1
        have y2' := HO.out.frozen 2
        have y3 := HO.out.frozen 3
        have y4' := HO.out.frozen 4
        simp at u0 u1 u2 u3 h0 h1 h2 h3 h4
        rw [hkk, mix_all] at HK
        go_wp2_with fail
        have hg5 := wr5_grown wr (w.heap.size + 1) (.int .i64 f.sort) (.string f.text) (.slice (some ⟨g2, 0, none⟩) f.scopes.length y2) (.int .i64 f.frm) (.slice x4 f.kids.length y4)
        have hz5 : (wr5 wr (w.heap.size + 1) (.int .i64 f.sort) (.string f.text) (.slice (some ⟨g2, 0, none⟩) f.scopes.length y2) (.int .i64 f.frm) (.slice x4 f.kids.length y4)).heap.size = wr.heap.size := wr5_size _ _ _ _ _ _ _
        refine bodyPost_ret (v := .agg #[.int .i64 f.sort, .string f.text, .slice (some ⟨g2, 0, none⟩) f.scopes.length y2, .int .i64 f.frm, .slice x4 f.kids.length y4]) (by simp [results, Tryz.results22, go_sem, h0, h1, h2, h3, h4]) rfl ?_
        refine ⟨_, _, _, _, _, rfl, ?_, HBl.out.trans (wr5_below (w := wr) (by omega) _ _ _ _ _)⟩
        rw [formAt_iff, chF_eq]
        refine ⟨rfl, rfl, ht, ?_, rfl, ?_⟩
        · show IntsAt _ _ _ (if f.sort = 1 then _ else _)
          rw [if_neg HS1.out]
          have hg2 := (HR2.out.lt g2 rfl).1
          have hr9 := HR3.out.kept hg5 (Or.inr fun e => by simp [Value.ownBlock] at e; omega)
          exact row_intsB hr9 (show f.scopes.length ≤ maxLen by unfold maxLen; have := HCo.out; omega) fun g e => by
            have h9 := (hr9.lt g e).2
            cases e
            exact ⟨show w.heap.size ≤ g2 by omega, h9⟩
        · show FormsAt _ _ _ (f.kids.map _)
          have hk9 := HK.out.keep hg5 (fun g e hS => by cases e; have := (HK.out.low _ hS).1; omega) (by
            cases hu : (Value.slice x4 f.kids.length y4).ownBlock with
            | none => exact Or.inl rfl
            | some i => exact Or.inr fun e => by have := (HK.out.lt hu).1; simp at e; omega)
          have hl9 : (f.kids.map (chF (flipB sc))).length = f.kids.length := List.length_map _
          exact hk9.forms (by rw [hl9]; unfold maxLen; have := HCo.out; omega) fun i h1 h2 => ⟨by omega, h2⟩

theorem wflipB_all (sc : Int) : ∀ n, WflipBForm sc n
  | 0 => fun f hf => by have := Fm.sz_kids f; omega
  | n + 1 => wflipB_of sc n (wflipB_all sc n)

end Go.Proofs.YtjbejnibiebjgaaGreat
