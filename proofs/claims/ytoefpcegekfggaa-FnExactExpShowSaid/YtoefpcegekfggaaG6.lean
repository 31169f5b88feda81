/- The program's opener opens just the forms that are ok and not too many. Condition: the form lies in memory, the opener's counter apart from it. -/
import Derived.Test.YtoefpcegekfggaaG5
namespace Go.Proofs.Ytoefpcegekfggaa
open Go.RowKit Go.Siskin

theorem opened_world1 {w w2 : World} {bo m : Nat} {o : Obj} {m' : Int} (h : Opened bo (world1 w bo m o) w2 m') : Opened bo w w2 m' := by
  have g := world1_grown w bo m o
  exact ⟨⟨h.1.os.trans g.os, h.1.tape.trans g.tape, h.1.output.trans g.output, Nat.le_trans g.size h.1.size, fun k hk hne => (h.1.block k (Nat.lt_of_lt_of_le hk g.size) hne).trans (g.block k hk hne)⟩, h.2⟩

theorem goodB_list {f : Fm} {d : Nat} (m : Nat) (hd : d ≤ 60) (hs : f.sort = 3) : goodB f d m = (listFormB f && goodsB f.kids (d + 1) (m + 1)) := by
  have h := Fm.sz_kids f
  have e : decide (m + f.sz ≤ 1500) = decide (m + 1 + Fm.szs f.kids ≤ 1500) := decide_eq_decide.2 (by omega)
  unfold goodB goodsB
  rw [okB_list f d hd hs, e, Bool.and_assoc]
theorem goodB_dots {f : Fm} {d : Nat} (m : Nat) (hd : d ≤ 60) (hs : f.sort = 4) : goodB f d m = dotsB f d (m + 1) := by
  have h := Fm.sz_kids f
  have e : decide (m + f.sz ≤ 1500) = decide (m + 1 + Fm.szs f.kids ≤ 1500) := decide_eq_decide.2 (by omega)
  unfold goodB dotsB goodsB
  rw [okB_dots f d hd hs, e]
  cases listFormB f <;> cases oksB f.kids (d + 1) <;> cases endB f.kids <;> simp

set_option maxRecDepth 20000 in
set_option maxHeartbeats 1000000 in
theorem openF_list (n : Nat) (ih : OpenForms n) (f : Fm) (hf : f.sz ≤ n + 1) (B : Nat → Prop) (w : World) (c0 c1 c2 c3 c4 : Value) (d m bo : Nat) (hA : FormAt B w f c0 c1 c2 c3 c4) (hB : ∀ b, B b → b < w.heap.size ∧ b ≠ bo) (ho : Own w bo 77 #[.int .i64 m]) (hm : m < 1500) (hd : d ≤ 60) (hc : f.cost ≤ 1048576) (hs : f.sort = 3) :
    Calls Try.prog 37 #[.pointer (some ⟨bo, 0, none⟩), .agg #[c0, c1, c2, c3, c4], .int .i64 d] w fun e w' => ∃ (m' : Int) (v : Value), Opened bo w w' m' ∧ e = .returned (.tuple #[v, .bool (goodB f d m)]) ∧ (goodB f d m = true → m' = m + f.sz ∧ InAt (Reg B w w') w' (toIm f) v) := by
  obtain ⟨rfl, rfl, ht, h2, rfl, h4⟩ := (formAt_iff _ _ _ _ _ _ _ _).1 hA
  have q0 := ho.cell 0
  have f0 := ho.frozen 0
  simp at q0
  have hlt := ho.lt
  rw [hs] at hA ⊢
  have HA := hid hA
  obtain ⟨a2, k2, rfl, -⟩ := h2
  obtain ⟨a4, k4, rfl, -⟩ := h4
  have HR := hid hB
  have HO := hid ho
  have HG := hid (goodB_list m hd hs)
  have HT := hid (toIm_list f hs)
  have HS := hid (Fm.sz_kids f)
  have HI := hid ih
  clear hA hB ho hs ih
  go_enter Try.func37, Try.ntmps37
  go_wp2_with fail
  refine (openList_any n HI.out f (by have := HS.out; omega) B (world1 w bo m _) _ _ _ _ _ d (m + 1) bo (FormAt.keep (world1_same HR.out m _) f HA.out) (fun b hb => ⟨by have := (HR.out b hb).1; rw [world1_size]; omega, (HR.out b hb).2⟩) (world1_own HO.out _) (by omega) hd hc).mono ?_
  rintro e w2 ⟨m', v, hop, rfl, hgo⟩
  have HOP := hid hop
  have HGO := hid hgo
  clear hop hgo
  go_wp2_with fail
  go_ret2
  refine ⟨m', v, opened_world1 HOP.out, ret_tup HG.out.symm, fun h => ?_⟩
  obtain ⟨h1, h2⟩ := HGO.out (HG.out.symm.trans h)
  refine ⟨by have := HS.out; omega, ?_⟩
  rw [HT.out]
  exact InAt.mono (reg_after (by rw [world1_size]; omega)) _ h2

set_option maxRecDepth 20000 in
set_option maxHeartbeats 1000000 in
theorem openF_dots (n : Nat) (ih : OpenForms n) (f : Fm) (hf : f.sz ≤ n + 1) (B : Nat → Prop) (w : World) (c0 c1 c2 c3 c4 : Value) (d m bo : Nat) (hA : FormAt B w f c0 c1 c2 c3 c4) (hB : ∀ b, B b → b < w.heap.size ∧ b ≠ bo) (ho : Own w bo 77 #[.int .i64 m]) (hm : m < 1500) (hd : d ≤ 60) (hc : f.cost ≤ 1048576) (hs : f.sort = 4) :
    Calls Try.prog 37 #[.pointer (some ⟨bo, 0, none⟩), .agg #[c0, c1, c2, c3, c4], .int .i64 d] w fun e w' => ∃ (m' : Int) (v : Value), Opened bo w w' m' ∧ e = .returned (.tuple #[v, .bool (goodB f d m)]) ∧ (goodB f d m = true → m' = m + f.sz ∧ InAt (Reg B w w') w' (toIm f) v) := by
  obtain ⟨rfl, rfl, ht, h2, rfl, h4⟩ := (formAt_iff _ _ _ _ _ _ _ _).1 hA
  have q0 := ho.cell 0
  have f0 := ho.frozen 0
  simp at q0
  have hlt := ho.lt
  rw [hs] at hA ⊢
  have HA := hid hA
  obtain ⟨a2, k2, rfl, -⟩ := h2
  obtain ⟨a4, k4, rfl, -⟩ := h4
  have HR := hid hB
  have HO := hid ho
  have HG := hid (goodB_dots m hd hs)
  have HT := hid (toIm_dots f hs)
  have HS := hid (Fm.sz_kids f)
  have HI := hid ih
  clear hA hB ho hs ih
  go_enter Try.func37, Try.ntmps37
  go_wp2_with fail
  refine (openDots_any n HI.out f (by have := HS.out; omega) B (world1 w bo m _) _ _ _ _ _ d (m + 1) bo (FormAt.keep (world1_same HR.out m _) f HA.out) (fun b hb => ⟨by have := (HR.out b hb).1; rw [world1_size]; omega, (HR.out b hb).2⟩) (world1_own HO.out _) (by omega) hd hc).mono ?_
  rintro e w2 ⟨m', v, hop, rfl, hgo⟩
  have HOP := hid hop
  have HGO := hid hgo
  clear hop hgo
  go_wp2_with fail
  go_ret2
  refine ⟨m', v, opened_world1 HOP.out, ret_tup HG.out.symm, fun h => ?_⟩
  obtain ⟨h1, h2⟩ := HGO.out (HG.out.symm.trans h)
  refine ⟨by have := HS.out; omega, ?_⟩
  rw [HT.out]
  exact InAt.mono (reg_after (by rw [world1_size]; omega)) _ h2

set_option maxRecDepth 20000 in
set_option maxHeartbeats 2000000 in
theorem openForm_of (n : Nat) (ih : OpenForms n) : OpenForm (n + 1) := by
  intro f hf B w c0 c1 c2 c3 c4 d m bo hA hB ho hm hd hc
  by_cases hm2 : m < 1500
  · by_cases hd2 : d ≤ 60
    · by_cases s1 : f.sort = 1
      · exact openF_id f B w c0 c1 c2 c3 c4 d m bo hA hB ho hm2 hd2 s1
      by_cases s2 : f.sort = 2
      · exact openF_atom f B w c0 c1 c2 c3 c4 d m bo hA hB ho hm2 hd2 s2
      by_cases s3 : f.sort = 3
      · exact openF_list n ih f hf B w c0 c1 c2 c3 c4 d m bo hA hB ho hm2 hd2 hc s3
      by_cases s4 : f.sort = 4
      · exact openF_dots n ih f hf B w c0 c1 c2 c3 c4 d m bo hA hB ho hm2 hd2 hc s4
      have HX : Hid (false = goodB f d m) := by
        show _ = _
        unfold goodB; rw [okB_none f d s1 s2 s3 s4]; rfl
      obtain ⟨rfl, rfl, ht, h2, rfl, h4⟩ := (formAt_iff _ _ _ _ _ _ _ _).1 hA
      have q0 := ho.cell 0
      have f0 := ho.frozen 0
      simp at q0
      have hlt := ho.lt
      have HO := hid ho
      have b1 : (f.sort == 1) = false := by simpa using s1
      have b2 : (f.sort == 2) = false := by simpa using s2
      have b3 : (f.sort == 3) = false := by simpa using s3
      have b4 : (f.sort == 4) = false := by simpa using s4
      clear hA h2 h4 s1 s2 s3 s4 hB ih ho
      go_enter Try.func37, Try.ntmps37
      go_wp2_with fail
      go_ret2
      exact ⟨m + 1, .nilIface, opened1 HO.out (Below.refl _ _), ret_tup HX.out, fun h => absurd (HX.out.trans h) (by decide)⟩
    · have HX : Hid (false = goodB f d m) := by
        show _ = _
        unfold goodB; rw [okB_deep f d (by omega)]; rfl
      have q0 := ho.cell 0
      have f0 := ho.frozen 0
      simp at q0
      have hlt := ho.lt
      have HO := hid ho
      have hd3 : 60 < (d : Int) := by omega
      clear hA hB ih ho
      go_enter Try.func37, Try.ntmps37
      go_wp2_with fail
      go_ret2
      exact ⟨m + 1, .nilIface, opened1 HO.out (Below.refl _ _), ret_tup HX.out, fun h => absurd (HX.out.trans h) (by decide)⟩
  · have HX : Hid (false = goodB f d m) := by
      show _ = _
      have := Fm.sz_kids f
      unfold goodB; rw [decide_eq_false (p := m + f.sz ≤ 1500) (by omega)]; simp
    have q0 := ho.cell 0
    have f0 := ho.frozen 0
    simp at q0
    have hlt := ho.lt
    have HO := hid ho
    have hm3 : 1500 < (m : Int) + 1 := by omega
    clear hA hB ih ho
    go_enter Try.func37, Try.ntmps37
    go_wp2_with fail
    go_ret2
    exact ⟨m + 1, .nilIface, opened1 HO.out (Below.refl _ _), ret_tup HX.out, fun h => absurd (HX.out.trans h) (by decide)⟩

theorem openForm_all : ∀ n, OpenForm n ∧ OpenForms n
  | 0 => by
    have h : OpenForm 0 := fun f hf => by have := Fm.sz_kids f; omega
    exact ⟨h, openForms_of 0 h⟩
  | n + 1 => by
    have h := openForm_of n (openForm_all n).2
    exact ⟨h, openForms_of (n + 1) h⟩

end Go.Proofs.Ytoefpcegekfggaa
