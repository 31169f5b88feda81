/-
  The program's openList and openDots, if openAll does as it should. Condition: the form lies in memory, the opener's counter apart from it.
  The program's opener opens just the forms that are ok and not too many. Condition: the form lies in memory, the opener's counter apart from it.
  The model's l1Ok of an identifier and of an atom returns whether it is ok. Condition: the form lies in memory as FormAt says.
-/
import Derived.Test.YtkpamgabhlplfaaPart5
import Derived.Test.YtkpamgabhlplfaaPart4
namespace Go.Proofs.Ytkpamgabhlplfaa
open Go.RowKit Go.Siskin

theorem same_drewN (R : Nat → Prop) (w : World) (m : Nat) : SameOn R w (w.drewN m) := fun _ _ => rfl
theorem opened_after {bo : Nat} {w w1 w2 : World} {m' : Int} (hb : Below w.heap.size w w1) (h : Opened bo w1 w2 m') : Opened bo w w2 m' :=
  ⟨⟨h.1.os.trans hb.os, h.1.tape.trans hb.tape, h.1.output.trans hb.output, Nat.le_trans hb.size h.1.size, fun k hk hne => (h.1.block k (Nat.lt_of_lt_of_le hk hb.size) hne).trans (hb.block k hk)⟩, h.2⟩
theorem opened_below {bo : Nat} {w w1 : World} {m : Int} (hb : Below w.heap.size w w1) (ho : Own w bo 98 #[.int .i64 m]) : Opened bo w w1 m :=
  ⟨⟨hb.os, hb.tape, hb.output, hb.size, fun k hk _ => hb.block k hk⟩, ho.keep hb ho.lt⟩
theorem reg_after {B : Nat → Prop} {w w1 w2 : World} (hs : w.heap.size ≤ w1.heap.size) : ∀ b, Reg B w1 w2 b → Reg B w w2 b := by
  intro b h
  rcases h with h | h
  · exact Or.inl h
  · exact Or.inr ⟨by omega, h.2⟩

set_option maxRecDepth 20000 in
set_option maxHeartbeats 2000000 in
theorem openList_any (n : Nat) (ih : OpenForms n) (f : Fm) (hf : Fm.szs f.kids ≤ n) (B : Nat → Prop) (w : World) (c0 c1 c2 c3 c4 : Value) (d m bo : Nat) (hA : FormAt B w f c0 c1 c2 c3 c4) (hB : ∀ b, B b → b < w.heap.size ∧ b ≠ bo) (ho : Own w bo 98 #[.int .i64 m]) (hm : m ≤ 1500) (hd : d ≤ 60) (hc : f.cost ≤ 1048576) :
    Calls Try.prog 69 #[.pointer (some ⟨bo, 0, none⟩), .agg #[c0, c1, c2, c3, c4], .int .i64 d] w fun e w' => ∃ (m' : Int) (v : Value), Opened bo w w' m' ∧ e = .returned (.tuple #[v, .bool (listFormB f && goodsB f.kids (d + 1) m)]) ∧ ((listFormB f && goodsB f.kids (d + 1) m) = true → m' = m + Fm.szs f.kids ∧ InAt (Reg B w w') w' (.list (toIms f.kids)) v) := by
  have HA := hid hA
  obtain ⟨rfl, rfl, ht, h2, rfl, h4⟩ := (formAt_iff _ _ _ _ _ _ _ _).1 hA
  have H4 := hid h4
  obtain ⟨a2, k2, rfl, -⟩ := h2
  obtain ⟨a4, k4, rfl, hl4, -⟩ := h4
  have HI := hid ih
  have HR := hid hB
  have HO := hid ho
  have HC := hid (Fm.cost_eq f)
  have hbo := ho.lt
  clear hA hB ho ih
  go_enter Try.func69, Try.ntmps69
  go_wp2_with fail
  refine (hasOnlyKids_any f B _ _ _ _ _ _ (FormAt.keep ((SameOn.refl _ _).alloc (fun b hb => (HR.out b hb).1) _) _ HA.out)).mono ?_
  rintro e w1 ⟨rfl, hw⟩
  obtain ⟨hc1, -⟩ := bcell hw
  have hz1 : w.heap.size < w1.heap.size := by have := hw.size; simp at this; omega
  have HW := hid (((Below.refl w.heap.size w).alloc (Nat.le_refl _) _).trans (hw.mono (by simp)))
  clear hw
  cases hl : listFormB f with
  | false =>
    go_wp2_with fail
    go_ret2
    exact ⟨m, .nilIface, opened_below HW.out HO.out, ret_tup (by rw [hl]; rfl), fun h => by rw [hl] at h; cases h⟩
  | true =>
    go_wp2_with fail
    refine (HI.out f.kids hf B w1 _ (d + 1) m bo (H4.out.keep (HW.out.on (fun b hb => (HR.out b hb).1))) (fun b hb => ⟨by have := (HR.out b hb).1; omega, (HR.out b hb).2⟩) (HO.out.keep HW.out hbo) hm (by omega) (by have := HC.out; omega)).mono ?_
    rintro e w2 ⟨m', a, len, cap, hop, rfl, hgo⟩
    have HOP := hid hop
    have HGO := hid hgo
    clear hop hgo
    go_wp2_with fail
    go_ret2
    refine ⟨m', _, opened_after HW.out HOP.out, ret_tup (by rw [hl, Bool.true_and]), fun h => ?_⟩
    rw [hl, Bool.true_and] at h
    obtain ⟨h1, h2, h3, h4⟩ := HGO.out h
    refine ⟨h1, ?_⟩
    subst h2
    rw [InAt_list]
    refine ⟨a, cap, by rw [toIms_length]; rfl, by rw [toIms_length]; exact hl4, ?_⟩
    rcases h4 with h4 | ⟨g, h4, h5, h6⟩
    · exact Or.inl (by rw [h4]; rfl)
    · exact Or.inr ⟨g, 0, h4, reg_after (by omega) g h5, InRow.mono (reg_after (by omega)) _ h6⟩

def dotsB (f : Fm) (d m : Nat) : Bool := listFormB f && endB f.kids && goodsB f.kids (d + 1) m

set_option maxRecDepth 20000 in
set_option maxHeartbeats 4000000 in
theorem openDots_any (n : Nat) (ih : OpenForms n) (f : Fm) (hf : Fm.szs f.kids ≤ n) (B : Nat → Prop) (w : World) (c0 c1 c2 c3 c4 : Value) (d m bo : Nat) (hA : FormAt B w f c0 c1 c2 c3 c4) (hB : ∀ b, B b → b < w.heap.size ∧ b ≠ bo) (ho : Own w bo 98 #[.int .i64 m]) (hm : m ≤ 1500) (hd : d ≤ 60) (hc : f.cost ≤ 1048576) :
    Calls Try.prog 70 #[.pointer (some ⟨bo, 0, none⟩), .agg #[c0, c1, c2, c3, c4], .int .i64 d] w fun e w' => ∃ (m' : Int) (v : Value), Opened bo w w' m' ∧ e = .returned (.tuple #[v, .bool (dotsB f d m)]) ∧ (dotsB f d m = true → m' = m + Fm.szs f.kids ∧ InAt (Reg B w w') w' (.dots (toIms f.kids).dropLast ((toIms f.kids).getD ((toIms f.kids).length - 1) Im.no)) v) := by
  have HA := hid hA
  obtain ⟨rfl, rfl, ht, h2, rfl, h4⟩ := (formAt_iff _ _ _ _ _ _ _ _).1 hA
  have H4 := hid h4
  obtain ⟨a2, k2, rfl, -⟩ := h2
  obtain ⟨a4, k4, rfl, hl4, h4⟩ := h4
  have HI := hid ih
  have HR := hid hB
  have HO := hid ho
  have HC := hid (Fm.cost_eq f)
  have hbo := ho.lt
  have hl40 := hl4
  unfold maxLen at hl4
  clear hA hB ho ih
  go_enter Try.func70, Try.ntmps70
  go_wp2_with fail
  refine (hasOnlyKids_any f B _ _ _ _ _ _ (FormAt.keep ((SameOn.refl _ _).alloc (fun b hb => (HR.out b hb).1) _) _ HA.out)).mono ?_
  rintro e w1 ⟨rfl, hw⟩
  obtain ⟨hc1, -⟩ := bcell hw
  have hz1 : w.heap.size < w1.heap.size := by have := hw.size; simp at this; omega
  have HW := hid (((Below.refl w.heap.size w).alloc (Nat.le_refl _) _).trans (hw.mono (by simp)))
  have HW0 := hid (((SameOn.refl B w).alloc (fun b hb => (HR.out b hb).1) _).below hw (fun b hb => by have := (HR.out b hb).1; simp; omega))
  clear hw
  cases hl : listFormB f with
  | false =>
    go_wp2_with fail
    go_ret2
    exact ⟨m, .nilIface, opened_below HW.out HO.out, ret_tup (by unfold dotsB; rw [hl]; rfl), fun h => by unfold dotsB at h; rw [hl] at h; cases h⟩
  | true =>
  by_cases hn : 1 < f.kids.length
  · rcases h4 with h4 | ⟨ba, oa, rfl, hb, h4⟩
    · rw [h4] at hn; simp at hn
    obtain ⟨c0, c1, c2, c3, c4, g0, -, -, -, -, hf'⟩ := RowAt.get f.kids (RowAt.keep HW0.out hb f.kids h4) (f.kids.length - 1) (by omega)
    obtain ⟨rfl, -⟩ := (formAt_iff _ _ _ _ _ _ _ _).1 hf'
    have HE : Hid (endB f.kids = (decide (f.kids[f.kids.length - 1].sort = 1) || decide (f.kids[f.kids.length - 1].sort = 2))) := by
      show _ = _
      unfold endB
      rw [decide_eq_true hn, List.getD_eq_getElem?_getD, List.getElem?_eq_getElem (by omega)]; rfl
    generalize f.kids[f.kids.length - 1].sort = z at *
    have hn' : (1 : Int) < (f.kids.length : Int) := by omega
    have hn2 : (1 : Int) ≤ (f.kids.length : Int) - 1 := by omega
    clear h4 hf'
    by_cases hz : z = 1 ∨ z = 2
    · have HEt : Hid (endB f.kids = true) := by
        show _ = _
        rw [HE.out]; rcases hz with hz | hz <;> rw [hz] <;> rfl
      clear HE
      rcases hz with rfl | rfl
      all_goals
        go_wp2_with fail
        refine (HI.out f.kids hf B w1 _ (d + 1) m bo (H4.out.keep HW0.out) (fun b hb => ⟨by have := (HR.out b hb).1; omega, (HR.out b hb).2⟩) (HO.out.keep HW.out hbo) hm (by omega) (by have := HC.out; omega)).mono ?_
        rintro e w2 ⟨m', a, len, cap, hop, rfl, hgo⟩
        have HOP := hid hop
        have HGO := hid hgo
        clear hop hgo
        cases hg : goodsB f.kids (d + 1) m with
        | false =>
          go_wp2_with fail
          go_ret2
          exact ⟨m', .nilIface, opened_after HW.out HOP.out, ret_tup (by unfold dotsB; rw [hg]; simp), fun h => by unfold dotsB at h; rw [hg] at h; simp at h⟩
        | true =>
          obtain ⟨e1, rfl, e3, e4⟩ := HGO.out hg
          rcases e4 with e4 | ⟨g, rfl, e5, e6⟩
          · rw [e4] at hn; simp at hn
          obtain ⟨x, hx, hin⟩ := InRow.get _ e6 (f.kids.length - 1) (by rw [toIms_length]; omega)
          obtain ⟨t, y, rfl⟩ := InAt.iface hin
          rw [Nat.zero_add] at hx
          have HIN := hid hin
          have H6 := hid e6
          have H1 := hid e1
          clear hin e6 e1
          go_wp2_with fail
          go_quiet (fail)
          go_wp2_with fail
          go_ret2
          refine ⟨m', _, ?_, ret_tup (by unfold dotsB; rw [hl, HEt.out, hg]; rfl), fun _ => ⟨H1.out, ?_⟩⟩
          · have h := opened_after HW.out HOP.out
            exact ⟨⟨h.1.os, h.1.tape, h.1.output, h.1.size, h.1.block⟩, h.2⟩
          · rw [InAt_dots]
            have hlen : (toIms f.kids).dropLast.length = f.kids.length - 1 := by rw [List.length_dropLast, toIms_length]
            refine ⟨some ⟨g, 0, none⟩, f.kids.length - 1, .iface t y, by rw [hlen]; rfl, by rw [hlen]; omega, Or.inr ⟨g, 0, rfl, reg_after (by omega) g e5, ?_⟩, ?_⟩
            · refine InRow.mk _ fun i hi => ?_
              obtain ⟨x', hx', hi'⟩ := InRow.get _ H6.out i (by rw [hlen] at hi; rw [toIms_length]; omega)
              exact ⟨x', hx', by rw [List.getElem_dropLast]; exact InAt.mono (reg_after (by omega)) _ (InAt.keep (same_drewN _ _ _) _ hi')⟩
            · rw [List.getD_eq_getElem?_getD, List.getElem?_eq_getElem (by rw [toIms_length]; omega)]
              have h := HIN.out
              simp only [toIms_length]
              exact InAt.mono (reg_after (by omega)) _ (InAt.keep (same_drewN _ _ _) _ h)
    · have HEf : Hid (endB f.kids = false) := by
        show _ = _
        rw [HE.out, decide_eq_false (fun h => hz (Or.inl h)), decide_eq_false (fun h => hz (Or.inr h))]; rfl
      have z1 : (z != 1) = true := by simp; omega
      have z2 : (z != 2) = true := by simp; omega
      clear HE hz
      go_wp2_with fail
      go_ret2
      exact ⟨m, .nilIface, opened_below HW.out HO.out, ret_tup (by unfold dotsB; rw [HEf.out]; simp), fun h => by unfold dotsB at h; rw [HEf.out] at h; simp at h⟩
  · have HEf : Hid (endB f.kids = false) := by
      show _ = _
      unfold endB; rw [decide_eq_false hn]; rfl
    have hn2 : (f.kids.length : Int) - 1 < 1 := by omega
    go_wp2_with fail
    go_ret2
    exact ⟨m, .nilIface, opened_below HW.out HO.out, ret_tup (by unfold dotsB; rw [HEf.out]; simp), fun h => by unfold dotsB at h; rw [HEf.out] at h; simp at h⟩

end Go.Proofs.Ytkpamgabhlplfaa

namespace Go.Proofs.Ytkpamgabhlplfaa
open Go.RowKit Go.Siskin

theorem opened_world1 {w w2 : World} {bo m : Nat} {o : Obj} {m' : Int} (h : Opened bo (world1 w bo m o) w2 m') : Opened bo w w2 m' := by
  have g := world1_grown w bo m o
  exact ⟨⟨h.1.os.trans g.os, h.1.tape.trans g.tape, h.1.output.trans g.output, Nat.le_trans g.size h.1.size, fun k hk hne => (h.1.block k (Nat.lt_of_lt_of_le hk g.size) hne).trans (g.block k hk hne)⟩, h.2⟩

theorem goodB_list {f : Fm} {d : Nat} (m : Nat) (hd : d ≤ 60) (hs : f.sort = 3) : goodB f d m = (listFormB f && goodsB f.kids (d + 1) (m + 1)) := by
  have h := Fm.sz_kids f
  have e : decide (m + f.sz ≤ 1500) = decide (m + 1 + Fm.szs f.kids ≤ 1500) := decide_eq_decide.2 (by omega)
  unfold goodB goodsB
  rw [okB_list f d hd hs, e, Bool.and_assoc]
theorem goodB_dots {f : Fm} {d : Nat} (m : Nat) (hd : d ≤ 60) (hs : f.sort = 4) : goodB f d m = dotsB f d (m + 1) := by
  have h := Fm.sz_kids f
  have e : decide (m + f.sz ≤ 1500) = decide (m + 1 + Fm.szs f.kids ≤ 1500) := decide_eq_decide.2 (by omega)
  unfold goodB dotsB goodsB
  rw [okB_dots f d hd hs, e]
  cases listFormB f <;> cases oksB f.kids (d + 1) <;> cases endB f.kids <;> simp

set_option maxRecDepth 20000 in
set_option maxHeartbeats 1000000 in
theorem openF_list (n : Nat) (ih : OpenForms n) (f : Fm) (hf : f.sz ≤ n + 1) (B : Nat → Prop) (w : World) (c0 c1 c2 c3 c4 : Value) (d m bo : Nat) (hA : FormAt B w f c0 c1 c2 c3 c4) (hB : ∀ b, B b → b < w.heap.size ∧ b ≠ bo) (ho : Own w bo 98 #[.int .i64 m]) (hm : m < 1500) (hd : d ≤ 60) (hc : f.cost ≤ 1048576) (hs : f.sort = 3) :
    Calls Try.prog 53 #[.pointer (some ⟨bo, 0, none⟩), .agg #[c0, c1, c2, c3, c4], .int .i64 d] w fun e w' => ∃ (m' : Int) (v : Value), Opened bo w w' m' ∧ e = .returned (.tuple #[v, .bool (goodB f d m)]) ∧ (goodB f d m = true → m' = m + f.sz ∧ InAt (Reg B w w') w' (toIm f) v) := by
  obtain ⟨rfl, rfl, ht, h2, rfl, h4⟩ := (formAt_iff _ _ _ _ _ _ _ _).1 hA
  have q0 := ho.cell 0
  have f0 := ho.frozen 0
  simp at q0
  have hlt := ho.lt
  rw [hs] at hA ⊢
  have HA := hid hA
  obtain ⟨a2, k2, rfl, -⟩ := h2
  obtain ⟨a4, k4, rfl, -⟩ := h4
  have HR := hid hB
  have HO := hid ho
  have HG := hid (goodB_list m hd hs)
  have HT := hid (toIm_list f hs)
  have HS := hid (Fm.sz_kids f)
  have HI := hid ih
  clear hA hB ho hs ih
  go_enter Try.func53, Try.ntmps53
  go_wp2_with fail
  refine (openList_any n HI.out f (by have := HS.out; omega) B (world1 w bo m _) _ _ _ _ _ d (m + 1) bo (FormAt.keep (world1_same HR.out m _) f HA.out) (fun b hb => ⟨by have := (HR.out b hb).1; rw [world1_size]; omega, (HR.out b hb).2⟩) (world1_own HO.out _) (by omega) hd hc).mono ?_
  rintro e w2 ⟨m', v, hop, rfl, hgo⟩
  have HOP := hid hop
  have HGO := hid hgo
  clear hop hgo
  go_wp2_with fail
  go_ret2
  refine ⟨m', v, opened_world1 HOP.out, ret_tup HG.out.symm, fun h => ?_⟩
  obtain ⟨h1, h2⟩ := HGO.out (HG.out.symm.trans h)
  refine ⟨by have := HS.out; omega, ?_⟩
  rw [HT.out]
  exact InAt.mono (reg_after (by rw [world1_size]; omega)) _ h2

set_option maxRecDepth 20000 in
set_option maxHeartbeats 1000000 in
theorem openF_dots (n : Nat) (ih : OpenForms n) (f : Fm) (hf : f.sz ≤ n + 1) (B : Nat → Prop) (w : World) (c0 c1 c2 c3 c4 : Value) (d m bo : Nat) (hA : FormAt B w f c0 c1 c2 c3 c4) (hB : ∀ b, B b → b < w.heap.size ∧ b ≠ bo) (ho : Own w bo 98 #[.int .i64 m]) (hm : m < 1500) (hd : d ≤ 60) (hc : f.cost ≤ 1048576) (hs : f.sort = 4) :
    Calls Try.prog 53 #[.pointer (some ⟨bo, 0, none⟩), .agg #[c0, c1, c2, c3, c4], .int .i64 d] w fun e w' => ∃ (m' : Int) (v : Value), Opened bo w w' m' ∧ e = .returned (.tuple #[v, .bool (goodB f d m)]) ∧ (goodB f d m = true → m' = m + f.sz ∧ InAt (Reg B w w') w' (toIm f) v) := by
  obtain ⟨rfl, rfl, ht, h2, rfl, h4⟩ := (formAt_iff _ _ _ _ _ _ _ _).1 hA
  have q0 := ho.cell 0
  have f0 := ho.frozen 0
  simp at q0
  have hlt := ho.lt
  rw [hs] at hA ⊢
  have HA := hid hA
  obtain ⟨a2, k2, rfl, -⟩ := h2
  obtain ⟨a4, k4, rfl, -⟩ := h4
  have HR := hid hB
  have HO := hid ho
  have HG := hid (goodB_dots m hd hs)
  have HT := hid (toIm_dots f hs)
  have HS := hid (Fm.sz_kids f)
  have HI := hid ih
  clear hA hB ho hs ih
  go_enter Try.func53, Try.ntmps53
  go_wp2_with fail
  refine (openDots_any n HI.out f (by have := HS.out; omega) B (world1 w bo m _) _ _ _ _ _ d (m + 1) bo (FormAt.keep (world1_same HR.out m _) f HA.out) (fun b hb => ⟨by have := (HR.out b hb).1; rw [world1_size]; omega, (HR.out b hb).2⟩) (world1_own HO.out _) (by omega) hd hc).mono ?_
  rintro e w2 ⟨m', v, hop, rfl, hgo⟩
  have HOP := hid hop
  have HGO := hid hgo
  clear hop hgo
  go_wp2_with fail
  go_ret2
  refine ⟨m', v, opened_world1 HOP.out, ret_tup HG.out.symm, fun h => ?_⟩
  obtain ⟨h1, h2⟩ := HGO.out (HG.out.symm.trans h)
  refine ⟨by have := HS.out; omega, ?_⟩
  rw [HT.out]
  exact InAt.mono (reg_after (by rw [world1_size]; omega)) _ h2

set_option maxRecDepth 20000 in
set_option maxHeartbeats 2000000 in
theorem openForm_of (n : Nat) (ih : OpenForms n) : OpenForm (n + 1) := by
  intro f hf B w c0 c1 c2 c3 c4 d m bo hA hB ho hm hd hc
  by_cases hm2 : m < 1500
  · by_cases hd2 : d ≤ 60
    · by_cases s1 : f.sort = 1
      · exact openF_id f B w c0 c1 c2 c3 c4 d m bo hA hB ho hm2 hd2 s1
      by_cases s2 : f.sort = 2
      · exact openF_atom f B w c0 c1 c2 c3 c4 d m bo hA hB ho hm2 hd2 s2
      by_cases s3 : f.sort = 3
      · exact openF_list n ih f hf B w c0 c1 c2 c3 c4 d m bo hA hB ho hm2 hd2 hc s3
      by_cases s4 : f.sort = 4
      · exact openF_dots n ih f hf B w c0 c1 c2 c3 c4 d m bo hA hB ho hm2 hd2 hc s4
      have HX : Hid (false = goodB f d m) := by
        show _ = _
        unfold goodB; rw [okB_none f d s1 s2 s3 s4]; rfl
      obtain ⟨rfl, rfl, ht, h2, rfl, h4⟩ := (formAt_iff _ _ _ _ _ _ _ _).1 hA
      have q0 := ho.cell 0
      have f0 := ho.frozen 0
      simp at q0
      have hlt := ho.lt
      have HO := hid ho
      have b1 : (f.sort == 1) = false := by simpa using s1
      have b2 : (f.sort == 2) = false := by simpa using s2
      have b3 : (f.sort == 3) = false := by simpa using s3
      have b4 : (f.sort == 4) = false := by simpa using s4
      clear hA h2 h4 s1 s2 s3 s4 hB ih ho
      go_enter Try.func53, Try.ntmps53
      go_wp2_with fail
      go_ret2
      exact ⟨m + 1, .nilIface, opened1 HO.out (Below.refl _ _), ret_tup HX.out, fun h => absurd (HX.out.trans h) (by decide)⟩
    · have HX : Hid (false = goodB f d m) := by
        show _ = _
        unfold goodB; rw [okB_deep f d (by omega)]; rfl
      have q0 := ho.cell 0
      have f0 := ho.frozen 0
      simp at q0
      have hlt := ho.lt
      have HO := hid ho
      have hd3 : 60 < (d : Int) := by omega
      clear hA hB ih ho
      go_enter Try.func53, Try.ntmps53
      go_wp2_with fail
      go_ret2
      exact ⟨m + 1, .nilIface, opened1 HO.out (Below.refl _ _), ret_tup HX.out, fun h => absurd (HX.out.trans h) (by decide)⟩
  · have HX : Hid (false = goodB f d m) := by
      show _ = _
      have := Fm.sz_kids f
      unfold goodB; rw [decide_eq_false (p := m + f.sz ≤ 1500) (by omega)]; simp
    have q0 := ho.cell 0
    have f0 := ho.frozen 0
    simp at q0
    have hlt := ho.lt
    have HO := hid ho
    have hm3 : 1500 < (m : Int) + 1 := by omega
    clear hA hB ih ho
    go_enter Try.func53, Try.ntmps53
    go_wp2_with fail
    go_ret2
    exact ⟨m + 1, .nilIface, opened1 HO.out (Below.refl _ _), ret_tup HX.out, fun h => absurd (HX.out.trans h) (by decide)⟩

theorem openForm_all : ∀ n, OpenForm n ∧ OpenForms n
  | 0 => by
    have h : OpenForm 0 := fun f hf => by have := Fm.sz_kids f; omega
    exact ⟨h, openForms_of 0 h⟩
  | n + 1 => by
    have h := openForm_of n (openForm_all n).2
    exact ⟨h, openForms_of (n + 1) h⟩

end Go.Proofs.Ytkpamgabhlplfaa

namespace Go.Proofs.Ytkpamgabhlplfaa
open Go.RowKit Go.Siskin

theorem belowM {B : Nat} {a w : World} (h : Below B a w) (n : Nat) : Below B a (w.drewN n) := h.trans ⟨rfl, rfl, rfl, Nat.le_refl _, fun _ _ => rfl⟩

theorem idForm_0 {f : Fm} (h1 : idB f.text.data.toList = true) (h2 : (f.text.size : Int) ≤ 40) (h3 : 0 ≤ f.frm) (h4 : scopesB f.scopes = true) : ((f.kids.length : Int) == 0) = idFormB f := by
  unfold idFormB; rw [h1, h4, decide_eq_true (by omega), decide_eq_true h3]
  by_cases h : f.kids.length = 0
  · rw [decide_eq_true h, h]; rfl
  · rw [decide_eq_false h, Bool.and_false, beq_eq_false_iff_ne]; omega
theorem idForm_1 {f : Fm} (h : ¬ idB f.text.data.toList = true) : false = idFormB f := by
  unfold idFormB; rw [show idB f.text.data.toList = false from by simpa using h]; rfl
theorem idForm_2 {f : Fm} (h : 40 < (f.text.size : Int)) : false = idFormB f := by
  unfold idFormB; rw [decide_eq_false (p := f.text.size ≤ 40) (by omega)]; simp
theorem idForm_3 {f : Fm} (h : f.frm < 0) : false = idFormB f := by
  unfold idFormB; rw [decide_eq_false (p := 0 ≤ f.frm) (by omega)]; simp
theorem idForm_4 {f : Fm} (h : ¬ scopesB f.scopes = true) : false = idFormB f := by
  unfold idFormB; rw [show scopesB f.scopes = false from by simpa using h]; simp
theorem atomForm_0 {f : Fm} (h1 : atomB f.text.data.toList = true) (h2 : (f.text.size : Int) ≤ 40) (h3 : f.frm = 0) : ((f.scopes.length + f.kids.length : Int) == 0) = atomFormB f := by
  unfold atomFormB; rw [h1, decide_eq_true (by omega), decide_eq_true h3]
  by_cases h : f.scopes.length + f.kids.length = 0
  · rw [decide_eq_true h, beq_iff_eq.2 (by omega)]; rfl
  · rw [decide_eq_false h, Bool.and_false, beq_eq_false_iff_ne]; omega
theorem atomForm_1 {f : Fm} (h : ¬ atomB f.text.data.toList = true) : false = atomFormB f := by
  unfold atomFormB; rw [show atomB f.text.data.toList = false from by simpa using h]; rfl
theorem atomForm_2 {f : Fm} (h : 40 < (f.text.size : Int)) : false = atomFormB f := by
  unfold atomFormB; rw [decide_eq_false (p := f.text.size ≤ 40) (by omega)]; simp
theorem atomForm_3 {f : Fm} (h : ¬ f.frm = 0) : false = atomFormB f := by
  unfold atomFormB; rw [decide_eq_false (p := f.frm = 0) (by omega)]; simp

def OkForm (n : Nat) : Prop := ∀ f : Fm, f.sz ≤ n → ∀ (B : Nat → Prop) (w : World) (c0 c1 c2 c3 c4 : Value) (d : Nat), FormAt B w f c0 c1 c2 c3 c4 → (∀ b, B b → b < w.heap.size) → d ≤ 100 → f.cost ≤ 1048576 →
    Calls Try.prog 51 #[.agg #[c0, c1, c2, c3, c4], .int .i64 d] w fun e w' => e = .returned (.bool (okB f d)) ∧ Below w.heap.size w w'

set_option maxHeartbeats 1000000 in
theorem okForm_id (f : Fm) (B : Nat → Prop) (w : World) (c0 c1 c2 c3 c4 : Value) (d : Nat) (hA : FormAt B w f c0 c1 c2 c3 c4) (hB : ∀ b, B b → b < w.heap.size) (hd : d ≤ 60) (hs : f.sort = 1) :
    Calls Try.prog 51 #[.agg #[c0, c1, c2, c3, c4], .int .i64 d] w fun e w' => e = .returned (.bool (okB f d)) ∧ Below w.heap.size w w' := by
  obtain ⟨rfl, rfl, ht, h2, rfl, h4⟩ := (formAt_iff _ _ _ _ _ _ _ _).1 hA
  rw [hs]
  have H2 := hid h2
  have HR := hid hB
  obtain ⟨a2, k2, rfl, hl2, -⟩ := h2
  obtain ⟨a4, k4, rfl, hl4, -⟩ := h4
  have HX := hid (okB_id f d hd hs)
  have Hht := hid ht
  unfold maxLen at hl2 hl4 ht
  clear hA hB hs
  go_enter Try.func51, Try.ntmps51
  go_wp2_with (first
    | (go_at_call 64; refine (l1IdOk_any _ _ Hht.out).mono ?_; rintro e w' ⟨rfl, hw⟩; rw [hw]; clear hw w')
    | (go_at_call 65; refine (l1ScopesOk_any B _ f.scopes _ (H2.out.keep ((SameOn.refl _ _).alloc HR.out _))).mono ?_; rintro e w' ⟨rfl, m, rfl⟩))
  all_goals go_ret
  all_goals refine ⟨ret_bool ?_, ?_⟩
  all_goals first
    | exact (Below.refl _ _).alloc (Nat.le_refl _) _
    | exact belowM ((Below.refl _ _).alloc (Nat.le_refl _) _) _
    | skip
  all_goals rw [HX.out]
  all_goals first
    | exact idForm_0 ‹_› ‹_› ‹_› ‹_›
    | exact idForm_1 ‹_›
    | exact idForm_2 ‹_›
    | exact idForm_3 ‹_›
    | exact idForm_4 ‹_›

set_option maxHeartbeats 1000000 in
theorem okForm_atom (f : Fm) (B : Nat → Prop) (w : World) (c0 c1 c2 c3 c4 : Value) (d : Nat) (hA : FormAt B w f c0 c1 c2 c3 c4) (hd : d ≤ 60) (hs : f.sort = 2) (hc : f.cost ≤ 1048576) :
    Calls Try.prog 51 #[.agg #[c0, c1, c2, c3, c4], .int .i64 d] w fun e w' => e = .returned (.bool (okB f d)) ∧ Below w.heap.size w w' := by
  obtain ⟨rfl, rfl, ht, h2, rfl, h4⟩ := (formAt_iff _ _ _ _ _ _ _ _).1 hA
  rw [hs]
  obtain ⟨a2, k2, rfl, hl2, -⟩ := h2
  obtain ⟨a4, k4, rfl, hl4, -⟩ := h4
  have HX := hid (okB_atom f d hd hs)
  have Hht := hid ht
  clear hA hs
  have hb1 : f.scopes.length ≤ 1048576 := by have := Fm.cost_eq f; omega
  have hb2 : f.kids.length ≤ 1048576 := by have := Fm.cost_eq f; omega
  · unfold maxLen at hl2 hl4 ht
    go_enter Try.func51, Try.ntmps51
    go_wp2_with (go_at_call 66; refine (l1AtomOk_any _ _ Hht.out).mono ?_; rintro e w' ⟨rfl, hw⟩; rw [hw]; clear hw w')
    all_goals go_ret
    all_goals refine ⟨ret_bool ?_, (Below.refl _ _).alloc (Nat.le_refl _) _⟩
    all_goals rw [HX.out]
    all_goals first
      | exact atomForm_0 ‹_› ‹_› ‹_›
      | exact atomForm_1 ‹_›
      | exact atomForm_2 ‹_›
      | exact atomForm_3 ‹_›

end Go.Proofs.Ytkpamgabhlplfaa
