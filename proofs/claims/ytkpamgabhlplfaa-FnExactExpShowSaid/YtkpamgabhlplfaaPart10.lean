/-
  The program's openList and openDots, if openAll does as it should. Condition: the form lies in memory, the opener's counter apart from it.
  The program's opener opens just the forms that are ok and not too many. Condition: the form lies in memory, the opener's counter apart from it.
  The program's openForm and ExpFormOk say whether a form is ok; what is opened lies in the form's own memory and in new memory. Condition: the form lies in memory, and costs at most 1048576.
  The program's ExpShow shows a form just as the model does. Condition: the form lies in memory, and costs at most 1048576.
  The program's ExpShow shows a form just as the model does. Condition: the form lies in memory, and costs at most 1048576.
  The law's toExpForm copies a form into new memory, if toExpFormS does so of its kids. Condition: the form lies in memory, and costs at most 1048576.
-/
import Derived.Test.YtkpamgabhlplfaaPart9
import Derived.Test.YtkpamgabhlplfaaPart8
import Derived.Test.YtkpamgabhlplfaaPart4
namespace Go.Proofs.Ytkpamgabhlplfaa
open Go.RowKit Go.Siskin

theorem same_drewN (R : Nat → Prop) (w : World) (m : Nat) : SameOn R w (w.drewN m) := fun _ _ => rfl
theorem opened_after {bo : Nat} {w w1 w2 : World} {m' : Int} (hb : Below w.heap.size w w1) (h : Opened bo w1 w2 m') : Opened bo w w2 m' :=
  ⟨⟨h.1.os.trans hb.os, h.1.tape.trans hb.tape, h.1.output.trans hb.output, Nat.le_trans hb.size h.1.size, fun k hk hne => (h.1.block k (Nat.lt_of_lt_of_le hk hb.size) hne).trans (hb.block k hk)⟩, h.2⟩
theorem opened_below {bo : Nat} {w w1 : World} {m : Int} (hb : Below w.heap.size w w1) (ho : Own w bo 98 #[.int .i64 m]) : Opened bo w w1 m :=
  ⟨⟨hb.os, hb.tape, hb.output, hb.size, fun k hk _ => hb.block k hk⟩, ho.keep hb ho.lt⟩
theorem reg_after {B : Nat → Prop} {w w1 w2 : World} (hs : w.heap.size ≤ w1.heap.size) : ∀ b, Reg B w1 w2 b → Reg B w w2 b := by
  intro b h
  rcases h with h | h
  · exact Or.inl h
  · exact Or.inr ⟨by omega, h.2⟩

set_option maxRecDepth 20000 in
set_option maxHeartbeats 2000000 in
theorem openList_any (n : Nat) (ih : OpenForms n) (f : Fm) (hf : Fm.szs f.kids ≤ n) (B : Nat → Prop) (w : World) (c0 c1 c2 c3 c4 : Value) (d m bo : Nat) (hA : FormAt B w f c0 c1 c2 c3 c4) (hB : ∀ b, B b → b < w.heap.size ∧ b ≠ bo) (ho : Own w bo 98 #[.int .i64 m]) (hm : m ≤ 1500) (hd : d ≤ 60) (hc : f.cost ≤ 1048576) :
    Calls Try.prog 69 #[.pointer (some ⟨bo, 0, none⟩), .agg #[c0, c1, c2, c3, c4], .int .i64 d] w fun e w' => ∃ (m' : Int) (v : Value), Opened bo w w' m' ∧ e = .returned (.tuple #[v, .bool (listFormB f && goodsB f.kids (d + 1) m)]) ∧ ((listFormB f && goodsB f.kids (d + 1) m) = true → m' = m + Fm.szs f.kids ∧ InAt (Reg B w w') w' (.list (toIms f.kids)) v) := by
  have HA := hid hA
  obtain ⟨rfl, rfl, ht, h2, rfl, h4⟩ := (formAt_iff _ _ _ _ _ _ _ _).1 hA
  have H4 := hid h4
  obtain ⟨a2, k2, rfl, -⟩ := h2
  obtain ⟨a4, k4, rfl, hl4, -⟩ := h4
  have HI := hid ih
  have HR := hid hB
  have HO := hid ho
  have HC := hid (Fm.cost_eq f)
  have hbo := ho.lt
  clear hA hB ho ih
  go_enter Try.func69, Try.ntmps69
  go_wp2_with fail
  refine (hasOnlyKids_any f B _ _ _ _ _ _ (FormAt.keep ((SameOn.refl _ _).alloc (fun b hb => (HR.out b hb).1) _) _ HA.out)).mono ?_
  rintro e w1 ⟨rfl, hw⟩
  obtain ⟨hc1, -⟩ := bcell hw
  have hz1 : w.heap.size < w1.heap.size := by have := hw.size; simp at this; omega
  have HW := hid (((Below.refl w.heap.size w).alloc (Nat.le_refl _) _).trans (hw.mono (by simp)))
  clear hw
  cases hl : listFormB f with
  | false =>
    go_wp2_with fail
    go_ret2
    exact ⟨m, .nilIface, opened_below HW.out HO.out, ret_tup (by rw [hl]; rfl), fun h => by rw [hl] at h; cases h⟩
  | true =>
    go_wp2_with fail
    refine (HI.out f.kids hf B w1 _ (d + 1) m bo (H4.out.keep (HW.out.on (fun b hb => (HR.out b hb).1))) (fun b hb => ⟨by have := (HR.out b hb).1; omega, (HR.out b hb).2⟩) (HO.out.keep HW.out hbo) hm (by omega) (by have := HC.out; omega)).mono ?_
    rintro e w2 ⟨m', a, len, cap, hop, rfl, hgo⟩
    have HOP := hid hop
    have HGO := hid hgo
    clear hop hgo
    go_wp2_with fail
    go_ret2
    refine ⟨m', _, opened_after HW.out HOP.out, ret_tup (by rw [hl, Bool.true_and]), fun h => ?_⟩
    rw [hl, Bool.true_and] at h
    obtain ⟨h1, h2, h3, h4⟩ := HGO.out h
    refine ⟨h1, ?_⟩
    subst h2
    rw [InAt_list]
    refine ⟨a, cap, by rw [toIms_length]; rfl, by rw [toIms_length]; exact hl4, ?_⟩
    rcases h4 with h4 | ⟨g, h4, h5, h6⟩
    · exact Or.inl (by rw [h4]; rfl)
    · exact Or.inr ⟨g, 0, h4, reg_after (by omega) g h5, InRow.mono (reg_after (by omega)) _ h6⟩

def dotsB (f : Fm) (d m : Nat) : Bool := listFormB f && endB f.kids && goodsB f.kids (d + 1) m

set_option maxRecDepth 20000 in
set_option maxHeartbeats 4000000 in
theorem openDots_any (n : Nat) (ih : OpenForms n) (f : Fm) (hf : Fm.szs f.kids ≤ n) (B : Nat → Prop) (w : World) (c0 c1 c2 c3 c4 : Value) (d m bo : Nat) (hA : FormAt B w f c0 c1 c2 c3 c4) (hB : ∀ b, B b → b < w.heap.size ∧ b ≠ bo) (ho : Own w bo 98 #[.int .i64 m]) (hm : m ≤ 1500) (hd : d ≤ 60) (hc : f.cost ≤ 1048576) :
    Calls Try.prog 70 #[.pointer (some ⟨bo, 0, none⟩), .agg #[c0, c1, c2, c3, c4], .int .i64 d] w fun e w' => ∃ (m' : Int) (v : Value), Opened bo w w' m' ∧ e = .returned (.tuple #[v, .bool (dotsB f d m)]) ∧ (dotsB f d m = true → m' = m + Fm.szs f.kids ∧ InAt (Reg B w w') w' (.dots (toIms f.kids).dropLast ((toIms f.kids).getD ((toIms f.kids).length - 1) Im.no)) v) := by
  have HA := hid hA
  obtain ⟨rfl, rfl, ht, h2, rfl, h4⟩ := (formAt_iff _ _ _ _ _ _ _ _).1 hA
  have H4 := hid h4
  obtain ⟨a2, k2, rfl, -⟩ := h2
  obtain ⟨a4, k4, rfl, hl4, h4⟩ := h4
  have HI := hid ih
  have HR := hid hB
  have HO := hid ho
  have HC := hid (Fm.cost_eq f)
  have hbo := ho.lt
  have hl40 := hl4
  unfold maxLen at hl4
  clear hA hB ho ih
  go_enter Try.func70, Try.ntmps70
  go_wp2_with fail
  refine (hasOnlyKids_any f B _ _ _ _ _ _ (FormAt.keep ((SameOn.refl _ _).alloc (fun b hb => (HR.out b hb).1) _) _ HA.out)).mono ?_
  rintro e w1 ⟨rfl, hw⟩
  obtain ⟨hc1, -⟩ := bcell hw
  have hz1 : w.heap.size < w1.heap.size := by have := hw.size; simp at this; omega
  have HW := hid (((Below.refl w.heap.size w).alloc (Nat.le_refl _) _).trans (hw.mono (by simp)))
  have HW0 := hid (((SameOn.refl B w).alloc (fun b hb => (HR.out b hb).1) _).below hw (fun b hb => by have := (HR.out b hb).1; simp; omega))
  clear hw
  cases hl : listFormB f with
  | false =>
    go_wp2_with fail
    go_ret2
    exact ⟨m, .nilIface, opened_below HW.out HO.out, ret_tup (by unfold dotsB; rw [hl]; rfl), fun h => by unfold dotsB at h; rw [hl] at h; cases h⟩
  | true =>
  by_cases hn : 1 < f.kids.length
  · rcases h4 with h4 | ⟨ba, oa, rfl, hb, h4⟩
    · rw [h4] at hn; simp at hn
    obtain ⟨c0, c1, c2, c3, c4, g0, -, -, -, -, hf'⟩ := RowAt.get f.kids (RowAt.keep HW0.out hb f.kids h4) (f.kids.length - 1) (by omega)
    obtain ⟨rfl, -⟩ := (formAt_iff _ _ _ _ _ _ _ _).1 hf'
    have HE : Hid (endB f.kids = (decide (f.kids[f.kids.length - 1].sort = 1) || decide (f.kids[f.kids.length - 1].sort = 2))) := by
      show _ = _
      unfold endB
      rw [decide_eq_true hn, List.getD_eq_getElem?_getD, List.getElem?_eq_getElem (by omega)]; rfl
    generalize f.kids[f.kids.length - 1].sort = z at *
    have hn' : (1 : Int) < (f.kids.length : Int) := by omega
    have hn2 : (1 : Int) ≤ (f.kids.length : Int) - 1 := by omega
    clear h4 hf'
    by_cases hz : z = 1 ∨ z = 2
    · have HEt : Hid (endB f.kids = true) := by
        show _ = _
        rw [HE.out]; rcases hz with hz | hz <;> rw [hz] <;> rfl
      clear HE
      rcases hz with rfl | rfl
      all_goals
        go_wp2_with fail
        refine (HI.out f.kids hf B w1 _ (d + 1) m bo (H4.out.keep HW0.out) (fun b hb => ⟨by have := (HR.out b hb).1; omega, (HR.out b hb).2⟩) (HO.out.keep HW.out hbo) hm (by omega) (by have := HC.out; omega)).mono ?_
        rintro e w2 ⟨m', a, len, cap, hop, rfl, hgo⟩
        have HOP := hid hop
        have HGO := hid hgo
        clear hop hgo
        cases hg : goodsB f.kids (d + 1) m with
        | false =>
          go_wp2_with fail
          go_ret2
          exact ⟨m', .nilIface, opened_after HW.out HOP.out, ret_tup (by unfold dotsB; rw [hg]; simp), fun h => by unfold dotsB at h; rw [hg] at h; simp at h⟩
        | true =>
          obtain ⟨e1, rfl, e3, e4⟩ := HGO.out hg
          rcases e4 with e4 | ⟨g, rfl, e5, e6⟩
          · rw [e4] at hn; simp at hn
          obtain ⟨x, hx, hin⟩ := InRow.get _ e6 (f.kids.length - 1) (by rw [toIms_length]; omega)
          obtain ⟨t, y, rfl⟩ := InAt.iface hin
          rw [Nat.zero_add] at hx
          have HIN := hid hin
          have H6 := hid e6
          have H1 := hid e1
          clear hin e6 e1
          go_wp2_with fail
          go_quiet (fail)
          go_wp2_with fail
          go_ret2
          refine ⟨m', _, ?_, ret_tup (by unfold dotsB; rw [hl, HEt.out, hg]; rfl), fun _ => ⟨H1.out, ?_⟩⟩
          · have h := opened_after HW.out HOP.out
            exact ⟨⟨h.1.os, h.1.tape, h.1.output, h.1.size, h.1.block⟩, h.2⟩
          · rw [InAt_dots]
            have hlen : (toIms f.kids).dropLast.length = f.kids.length - 1 := by rw [List.length_dropLast, toIms_length]
            refine ⟨some ⟨g, 0, none⟩, f.kids.length - 1, .iface t y, by rw [hlen]; rfl, by rw [hlen]; omega, Or.inr ⟨g, 0, rfl, reg_after (by omega) g e5, ?_⟩, ?_⟩
            · refine InRow.mk _ fun i hi => ?_
              obtain ⟨x', hx', hi'⟩ := InRow.get _ H6.out i (by rw [hlen] at hi; rw [toIms_length]; omega)
              exact ⟨x', hx', by rw [List.getElem_dropLast]; exact InAt.mono (reg_after (by omega)) _ (InAt.keep (same_drewN _ _ _) _ hi')⟩
            · rw [List.getD_eq_getElem?_getD, List.getElem?_eq_getElem (by rw [toIms_length]; omega)]
              have h := HIN.out
              simp only [toIms_length]
              exact InAt.mono (reg_after (by omega)) _ (InAt.keep (same_drewN _ _ _) _ h)
    · have HEf : Hid (endB f.kids = false) := by
        show _ = _
        rw [HE.out, decide_eq_false (fun h => hz (Or.inl h)), decide_eq_false (fun h => hz (Or.inr h))]; rfl
      have z1 : (z != 1) = true := by simp; omega
      have z2 : (z != 2) = true := by simp; omega
      clear HE hz
      go_wp2_with fail
      go_ret2
      exact ⟨m, .nilIface, opened_below HW.out HO.out, ret_tup (by unfold dotsB; rw [HEf.out]; simp), fun h => by unfold dotsB at h; rw [HEf.out] at h; simp at h⟩
  · have HEf : Hid (endB f.kids = false) := by
      show _ = _
      unfold endB; rw [decide_eq_false hn]; rfl
    have hn2 : (f.kids.length : Int) - 1 < 1 := by omega
    go_wp2_with fail
    go_ret2
    exact ⟨m, .nilIface, opened_below HW.out HO.out, ret_tup (by unfold dotsB; rw [HEf.out]; simp), fun h => by unfold dotsB at h; rw [HEf.out] at h; simp at h⟩

end Go.Proofs.Ytkpamgabhlplfaa

namespace Go.Proofs.Ytkpamgabhlplfaa
open Go.RowKit Go.Siskin

theorem opened_world1 {w w2 : World} {bo m : Nat} {o : Obj} {m' : Int} (h : Opened bo (world1 w bo m o) w2 m') : Opened bo w w2 m' := by
  have g := world1_grown w bo m o
  exact ⟨⟨h.1.os.trans g.os, h.1.tape.trans g.tape, h.1.output.trans g.output, Nat.le_trans g.size h.1.size, fun k hk hne => (h.1.block k (Nat.lt_of_lt_of_le hk g.size) hne).trans (g.block k hk hne)⟩, h.2⟩

theorem goodB_list {f : Fm} {d : Nat} (m : Nat) (hd : d ≤ 60) (hs : f.sort = 3) : goodB f d m = (listFormB f && goodsB f.kids (d + 1) (m + 1)) := by
  have h := Fm.sz_kids f
  have e : decide (m + f.sz ≤ 1500) = decide (m + 1 + Fm.szs f.kids ≤ 1500) := decide_eq_decide.2 (by omega)
  unfold goodB goodsB
  rw [okB_list f d hd hs, e, Bool.and_assoc]
theorem goodB_dots {f : Fm} {d : Nat} (m : Nat) (hd : d ≤ 60) (hs : f.sort = 4) : goodB f d m = dotsB f d (m + 1) := by
  have h := Fm.sz_kids f
  have e : decide (m + f.sz ≤ 1500) = decide (m + 1 + Fm.szs f.kids ≤ 1500) := decide_eq_decide.2 (by omega)
  unfold goodB dotsB goodsB
  rw [okB_dots f d hd hs, e]
  cases listFormB f <;> cases oksB f.kids (d + 1) <;> cases endB f.kids <;> simp

set_option maxRecDepth 20000 in
set_option maxHeartbeats 1000000 in
theorem openF_list (n : Nat) (ih : OpenForms n) (f : Fm) (hf : f.sz ≤ n + 1) (B : Nat → Prop) (w : World) (c0 c1 c2 c3 c4 : Value) (d m bo : Nat) (hA : FormAt B w f c0 c1 c2 c3 c4) (hB : ∀ b, B b → b < w.heap.size ∧ b ≠ bo) (ho : Own w bo 98 #[.int .i64 m]) (hm : m < 1500) (hd : d ≤ 60) (hc : f.cost ≤ 1048576) (hs : f.sort = 3) :
    Calls Try.prog 53 #[.pointer (some ⟨bo, 0, none⟩), .agg #[c0, c1, c2, c3, c4], .int .i64 d] w fun e w' => ∃ (m' : Int) (v : Value), Opened bo w w' m' ∧ e = .returned (.tuple #[v, .bool (goodB f d m)]) ∧ (goodB f d m = true → m' = m + f.sz ∧ InAt (Reg B w w') w' (toIm f) v) := by
  obtain ⟨rfl, rfl, ht, h2, rfl, h4⟩ := (formAt_iff _ _ _ _ _ _ _ _).1 hA
  have q0 := ho.cell 0
  have f0 := ho.frozen 0
  simp at q0
  have hlt := ho.lt
  rw [hs] at hA ⊢
  have HA := hid hA
  obtain ⟨a2, k2, rfl, -⟩ := h2
  obtain ⟨a4, k4, rfl, -⟩ := h4
  have HR := hid hB
  have HO := hid ho
  have HG := hid (goodB_list m hd hs)
  have HT := hid (toIm_list f hs)
  have HS := hid (Fm.sz_kids f)
  have HI := hid ih
  clear hA hB ho hs ih
  go_enter Try.func53, Try.ntmps53
  go_wp2_with fail
  refine (openList_any n HI.out f (by have := HS.out; omega) B (world1 w bo m _) _ _ _ _ _ d (m + 1) bo (FormAt.keep (world1_same HR.out m _) f HA.out) (fun b hb => ⟨by have := (HR.out b hb).1; rw [world1_size]; omega, (HR.out b hb).2⟩) (world1_own HO.out _) (by omega) hd hc).mono ?_
  rintro e w2 ⟨m', v, hop, rfl, hgo⟩
  have HOP := hid hop
  have HGO := hid hgo
  clear hop hgo
  go_wp2_with fail
  go_ret2
  refine ⟨m', v, opened_world1 HOP.out, ret_tup HG.out.symm, fun h => ?_⟩
  obtain ⟨h1, h2⟩ := HGO.out (HG.out.symm.trans h)
  refine ⟨by have := HS.out; omega, ?_⟩
  rw [HT.out]
  exact InAt.mono (reg_after (by rw [world1_size]; omega)) _ h2

set_option maxRecDepth 20000 in
set_option maxHeartbeats 1000000 in
theorem openF_dots (n : Nat) (ih : OpenForms n) (f : Fm) (hf : f.sz ≤ n + 1) (B : Nat → Prop) (w : World) (c0 c1 c2 c3 c4 : Value) (d m bo : Nat) (hA : FormAt B w f c0 c1 c2 c3 c4) (hB : ∀ b, B b → b < w.heap.size ∧ b ≠ bo) (ho : Own w bo 98 #[.int .i64 m]) (hm : m < 1500) (hd : d ≤ 60) (hc : f.cost ≤ 1048576) (hs : f.sort = 4) :
    Calls Try.prog 53 #[.pointer (some ⟨bo, 0, none⟩), .agg #[c0, c1, c2, c3, c4], .int .i64 d] w fun e w' => ∃ (m' : Int) (v : Value), Opened bo w w' m' ∧ e = .returned (.tuple #[v, .bool (goodB f d m)]) ∧ (goodB f d m = true → m' = m + f.sz ∧ InAt (Reg B w w') w' (toIm f) v) := by
  obtain ⟨rfl, rfl, ht, h2, rfl, h4⟩ := (formAt_iff _ _ _ _ _ _ _ _).1 hA
  have q0 := ho.cell 0
  have f0 := ho.frozen 0
  simp at q0
  have hlt := ho.lt
  rw [hs] at hA ⊢
  have HA := hid hA
  obtain ⟨a2, k2, rfl, -⟩ := h2
  obtain ⟨a4, k4, rfl, -⟩ := h4
  have HR := hid hB
  have HO := hid ho
  have HG := hid (goodB_dots m hd hs)
  have HT := hid (toIm_dots f hs)
  have HS := hid (Fm.sz_kids f)
  have HI := hid ih
  clear hA hB ho hs ih
  go_enter Try.func53, Try.ntmps53
  go_wp2_with fail
  refine (openDots_any n HI.out f (by have := HS.out; omega) B (world1 w bo m _) _ _ _ _ _ d (m + 1) bo (FormAt.keep (world1_same HR.out m _) f HA.out) (fun b hb => ⟨by have := (HR.out b hb).1; rw [world1_size]; omega, (HR.out b hb).2⟩) (world1_own HO.out _) (by omega) hd hc).mono ?_
  rintro e w2 ⟨m', v, hop, rfl, hgo⟩
  have HOP := hid hop
  have HGO := hid hgo
  clear hop hgo
  go_wp2_with fail
  go_ret2
  refine ⟨m', v, opened_world1 HOP.out, ret_tup HG.out.symm, fun h => ?_⟩
  obtain ⟨h1, h2⟩ := HGO.out (HG.out.symm.trans h)
  refine ⟨by have := HS.out; omega, ?_⟩
  rw [HT.out]
  exact InAt.mono (reg_after (by rw [world1_size]; omega)) _ h2

set_option maxRecDepth 20000 in
set_option maxHeartbeats 2000000 in
theorem openForm_of (n : Nat) (ih : OpenForms n) : OpenForm (n + 1) := by
  intro f hf B w c0 c1 c2 c3 c4 d m bo hA hB ho hm hd hc
  by_cases hm2 : m < 1500
  · by_cases hd2 : d ≤ 60
    · by_cases s1 : f.sort = 1
      · exact openF_id f B w c0 c1 c2 c3 c4 d m bo hA hB ho hm2 hd2 s1
      by_cases s2 : f.sort = 2
      · exact openF_atom f B w c0 c1 c2 c3 c4 d m bo hA hB ho hm2 hd2 s2
      by_cases s3 : f.sort = 3
      · exact openF_list n ih f hf B w c0 c1 c2 c3 c4 d m bo hA hB ho hm2 hd2 hc s3
      by_cases s4 : f.sort = 4
      · exact openF_dots n ih f hf B w c0 c1 c2 c3 c4 d m bo hA hB ho hm2 hd2 hc s4
      have HX : Hid (false = goodB f d m) := by
        show _ = _
        unfold goodB; rw [okB_none f d s1 s2 s3 s4]; rfl
      obtain ⟨rfl, rfl, ht, h2, rfl, h4⟩ := (formAt_iff _ _ _ _ _ _ _ _).1 hA
      have q0 := ho.cell 0
      have f0 := ho.frozen 0
      simp at q0
      have hlt := ho.lt
      have HO := hid ho
      have b1 : (f.sort == 1) = false := by simpa using s1
      have b2 : (f.sort == 2) = false := by simpa using s2
      have b3 : (f.sort == 3) = false := by simpa using s3
      have b4 : (f.sort == 4) = false := by simpa using s4
      clear hA h2 h4 s1 s2 s3 s4 hB ih ho
      go_enter Try.func53, Try.ntmps53
      go_wp2_with fail
      go_ret2
      exact ⟨m + 1, .nilIface, opened1 HO.out (Below.refl _ _), ret_tup HX.out, fun h => absurd (HX.out.trans h) (by decide)⟩
    · have HX : Hid (false = goodB f d m) := by
        show _ = _
        unfold goodB; rw [okB_deep f d (by omega)]; rfl
      have q0 := ho.cell 0
      have f0 := ho.frozen 0
      simp at q0
      have hlt := ho.lt
      have HO := hid ho
      have hd3 : 60 < (d : Int) := by omega
      clear hA hB ih ho
      go_enter Try.func53, Try.ntmps53
      go_wp2_with fail
      go_ret2
      exact ⟨m + 1, .nilIface, opened1 HO.out (Below.refl _ _), ret_tup HX.out, fun h => absurd (HX.out.trans h) (by decide)⟩
  · have HX : Hid (false = goodB f d m) := by
      show _ = _
      have := Fm.sz_kids f
      unfold goodB; rw [decide_eq_false (p := m + f.sz ≤ 1500) (by omega)]; simp
    have q0 := ho.cell 0
    have f0 := ho.frozen 0
    simp at q0
    have hlt := ho.lt
    have HO := hid ho
    have hm3 : 1500 < (m : Int) + 1 := by omega
    clear hA hB ih ho
    go_enter Try.func53, Try.ntmps53
    go_wp2_with fail
    go_ret2
    exact ⟨m + 1, .nilIface, opened1 HO.out (Below.refl _ _), ret_tup HX.out, fun h => absurd (HX.out.trans h) (by decide)⟩

theorem openForm_all : ∀ n, OpenForm n ∧ OpenForms n
  | 0 => by
    have h : OpenForm 0 := fun f hf => by have := Fm.sz_kids f; omega
    exact ⟨h, openForms_of 0 h⟩
  | n + 1 => by
    have h := openForm_of n (openForm_all n).2
    exact ⟨h, openForms_of (n + 1) h⟩

end Go.Proofs.Ytkpamgabhlplfaa

namespace Go.Proofs.Ytkpamgabhlplfaa
open Go.RowKit Go.Siskin

theorem good_ok (f : Fm) : goodB f 0 0 = formOk f := by
  unfold goodB formOk; rw [Nat.zero_add]

/-- The program's way into a form: just where it is ok; what comes out lies in the form's own memory and in new memory. -/
theorem openForm_any (f : Fm) (B : Nat → Prop) (w : World) (c0 c1 c2 c3 c4 : Value) (hA : FormAt B w f c0 c1 c2 c3 c4) (hB : ∀ b, B b → b < w.heap.size) (hc : f.cost ≤ 1048576) :
    Calls Try.prog 29 #[.agg #[c0, c1, c2, c3, c4]] w fun e w' => ∃ v, e = .returned (.tuple #[v, .bool (formOk f)]) ∧ Below w.heap.size w w' ∧ (formOk f = true → InAt (Reg B w w') w' (toIm f) v) := by
  have H := hid (fun o1 : Obj => (openForm_all f.sz).1 f (Nat.le_refl _) B ((w.alloc o1).alloc (.cells #[.int .i64 0] 98)) c0 c1 c2 c3 c4 0 0 (w.heap.size + 1) (FormAt.keep (((SameOn.refl _ _).alloc hB _).alloc (fun b hb => by have := hB b hb; simp; omega) _) _ hA) (fun b hb => by have := hB b hb; simp; omega) (by have := own_new (w.alloc o1) #[.int .i64 0] 98; simpa using this) (by omega) (by omega) hc)
  obtain ⟨rfl, rfl, ht, h2, rfl, h4⟩ := (formAt_iff _ _ _ _ _ _ _ _).1 hA
  obtain ⟨a2, k2, rfl, -⟩ := h2
  obtain ⟨a4, k4, rfl, -⟩ := h4
  clear hA hB
  go_enter Try.func29, Try.ntmps29
  go_wp2_with fail
  refine (H.out _).mono ?_
  rintro e w2 ⟨m', v, hop, rfl, hgo⟩
  have HOP := hid hop
  have HGO := hid hgo
  clear hop hgo H
  go_wp2_with fail
  go_ret2
  have h := HOP.out
  have hs := h.1.size
  simp only [World.size_alloc] at hs
  refine ⟨v, ret_tup (good_ok f), ⟨h.1.os, h.1.tape, h.1.output, by omega, fun k hk => ?_⟩, fun hg => ?_⟩
  · rw [h.1.block k (by simp; omega) (fun e => by have := Option.some.inj e; omega), Below.heap_alloc _ _ _ (by simp; omega), Below.heap_alloc _ _ _ hk]
  · obtain ⟨-, h2⟩ := HGO.out ((good_ok f).trans hg)
    exact InAt.mono (reg_after (by simp; omega)) _ h2

set_option maxHeartbeats 1000000 in
theorem implFormOk_any (f : Fm) (B : Nat → Prop) (w : World) (c0 c1 c2 c3 c4 : Value) (hA : FormAt B w f c0 c1 c2 c3 c4) (hB : ∀ b, B b → b < w.heap.size) (hc : f.cost ≤ 1048576) :
    Calls Try.prog 23 #[.agg #[c0, c1, c2, c3, c4]] w fun e w' => e = .returned (.bool (formOk f)) ∧ Below w.heap.size w w' := by
  have H := hid (fun o1 : Obj => openForm_any f B (w.alloc o1) c0 c1 c2 c3 c4 (FormAt.keep ((SameOn.refl _ _).alloc hB _) _ hA) (fun b hb => by have := hB b hb; simp; omega) hc)
  obtain ⟨rfl, rfl, ht, h2, rfl, h4⟩ := (formAt_iff _ _ _ _ _ _ _ _).1 hA
  obtain ⟨a2, k2, rfl, -⟩ := h2
  obtain ⟨a4, k4, rfl, -⟩ := h4
  clear hA hB
  go_enter Try.func23, Try.ntmps23
  go_wp2_with fail
  refine (H.out _).mono ?_
  rintro e w2 ⟨v, rfl, hw, -⟩
  have HW := hid hw
  clear hw H
  go_wp2_with fail
  go_ret
  exact ⟨rfl, ((Below.refl _ _).alloc (Nat.le_refl _) _).trans (HW.out.mono (by simp))⟩

end Go.Proofs.Ytkpamgabhlplfaa

namespace Go.Proofs.Ytkpamgabhlplfaa
open Go.RowKit Go.Siskin

theorem isB_lt {B b : Nat} {l : List UInt8} {w : World} (h : isB B b l w) : b < w.heap.size := by
  rcases h with ⟨_, v, h2, _⟩ | ⟨_, v, h2, _⟩
  · exact (Array.getElem?_eq_some_iff.1 h2).1
  · exact (Array.getElem?_eq_some_iff.1 h2).1

set_option maxRecDepth 20000 in
set_option maxHeartbeats 2000000 in
theorem showIm_list (n : Nat) (ih : ShowIms n) (ps : List Im) (hps : Im.szs ps ≤ n) (R : Nat → Prop) (w : World) (a : Option Addr) (cap B b : Nat) (l : List UInt8) (hm : ps.length ≤ maxLen) (ha : ps = [] ∨ ∃ g o, a = some ⟨g, o, none⟩ ∧ R g ∧ InRow R w g o ps) (hR : ∀ c, R c → c < B) (hb : isB B b l w) (hB : B ≤ w.heap.size) (hl : l.length + (showI (.list ps)).length ≤ 1000000000) :
    Calls Try.prog 179 #[.agg #[.slice a ps.length cap], .pointer (some ⟨b, 0, none⟩)] w fun e w' => e = .returned (.tuple #[]) ∧ isB B b (l ++ showI (.list ps)) w' ∧ Wrote B b w w' := by
  have hlen : l.length + 2 + (showIs 0 ps).length ≤ 1000000000 := by
    simp only [showI_list, List.length_append, List.length_cons, List.length_nil] at hl; omega
  have hrow : ∀ w', Below B w w' → (ps = [] ∨ ∃ g o, a = some ⟨g, o, none⟩ ∧ R g ∧ InRow R w' g o ps) := by
    intro w' hw
    rcases ha with h | ⟨g, o, h1, h2, h3⟩
    · exact Or.inl h
    · exact Or.inr ⟨g, o, h1, h2, InRow.keep (hw.on hR) h2 ps h3⟩
  have HRW := hid hrow
  have HN := hid hlen
  have HB := hid hb
  have HR := hid hR
  have HI := hid ih
  have HBL := hid (isB_lt hb)
  clear ha hR hb hl hlen hrow ih
  go_enter Try.func179, Try.ntmps179
  go_wp2_with fail
  refine (write_any B b l ⟨#[40]⟩ _ (isB_alloc HB.out _) (by have := HN.out; show _ + 1 ≤ _; omega) (by simp; omega)).mono ?_
  rintro e w1 ⟨rfl, hb1, hw1⟩
  have q1 := hw1.box HBL.out (by decide)
  have s1 := hw1.1.size
  simp only [World.size_alloc] at s1
  have HW1 := hid (((Wrote.refl B b w).alloc hB _).trans hw1)
  have HB1 := hid hb1
  clear hb1 hw1
  go_wp2_with fail
  refine (HI.out ps hps R w1 a cap B b _ hm (HRW.out w1 HW1.out.1) HR.out HB1.out (by omega) (by have := HN.out; simp only [List.length_append, List.length_cons, List.length_nil]; omega)).mono ?_
  rintro e w2 ⟨rfl, hb2, hw2⟩
  have HW2 := hid (HW1.out.trans hw2)
  have s2 := hw2.1.size
  have HB2 := hid hb2
  clear hb2 hw2
  go_wp2_with fail
  refine (write_any B b _ ⟨#[41]⟩ w2 HB2.out (by have := HN.out; simp only [List.length_append, List.length_cons, List.length_nil]; show _ + 1 ≤ _; omega) (by omega)).mono ?_
  rintro e w3 ⟨rfl, hb3, hw3⟩
  have HB3 := hid hb3
  have HW3 := hid hw3
  clear hb3 hw3
  go_wp2_with fail
  go_end0
  refine ⟨rfl, ?_, HW2.out.trans HW3.out⟩
  rw [showI_list]
  have h := HB3.out
  simpa using h

end Go.Proofs.Ytkpamgabhlplfaa

namespace Go.Proofs.Ytkpamgabhlplfaa
open Go.RowKit Go.Siskin

set_option maxRecDepth 20000 in
set_option maxHeartbeats 4000000 in
theorem showIm_dots (n : Nat) (ihs : ShowIms n) (ih : ShowIm n) (ps : List Im) (z : Im) (hps : Im.szs ps ≤ n) (hz : z.sz ≤ n) (R : Nat → Prop) (w : World) (a : Option Addr) (cap B b : Nat) (e : Value) (l : List UInt8) (hm : ps.length ≤ maxLen) (ha : ps = [] ∨ ∃ g o, a = some ⟨g, o, none⟩ ∧ R g ∧ InRow R w g o ps) (he : InAt R w z e) (hR : ∀ c, R c → c < B) (hb : isB B b l w) (hB : B ≤ w.heap.size) (hl : l.length + (showI (.dots ps z)).length ≤ 1000000000) :
    Calls Try.prog 188 #[.agg #[.slice a ps.length cap, e], .pointer (some ⟨b, 0, none⟩)] w fun e w' => e = .returned (.tuple #[]) ∧ isB B b (l ++ showI (.dots ps z)) w' ∧ Wrote B b w w' := by
  have hlen : l.length + 5 + (showIs 0 ps).length + (showI z).length ≤ 1000000000 := by
    simp only [showI_dots, List.length_append, List.length_cons, List.length_nil] at hl; omega
  have hrow : ∀ w', Below B w w' → (ps = [] ∨ ∃ g o, a = some ⟨g, o, none⟩ ∧ R g ∧ InRow R w' g o ps) := by
    intro w' hw
    rcases ha with h | ⟨g, o, h1, h2, h3⟩
    · exact Or.inl h
    · exact Or.inr ⟨g, o, h1, h2, InRow.keep (hw.on hR) h2 ps h3⟩
  have HRW := hid hrow
  have HN := hid hlen
  have HB := hid hb
  have HR := hid hR
  have HI := hid ih
  have HIS := hid ihs
  have HBL := hid (isB_lt hb)
  have HE := hid he
  have m1 := meth_id
  have m2 := meth_atom
  have m3 := meth_list
  have m4 := meth_dots
  simp [showName] at m1 m2 m3 m4
  rcases InAt.four he with ⟨x, rfl⟩ | ⟨x, rfl⟩ | ⟨x, rfl⟩ | ⟨x, rfl⟩
  all_goals
    clear ha hR hb hl hlen hrow ih ihs he
    go_enter Try.func188, Try.ntmps188
    go_wp2_with fail
    refine (write_any B b l ⟨#[40]⟩ _ (isB_alloc HB.out _) (by have := HN.out; show _ + 1 ≤ _; omega) (by simp; omega)).mono ?_
    rintro e w1 ⟨rfl, hb1, hw1⟩
    have q1 := hw1.box HBL.out (by decide)
    have s1 := hw1.1.size
    simp only [World.size_alloc] at s1
    have HW1a := hid hw1
    have HW1 := hid (((Wrote.refl B b w).alloc hB _).trans hw1)
    have HB1 := hid hb1
    clear hb1 hw1
    go_wp2_with fail
    refine (HIS.out ps hps R w1 a cap B b _ hm (HRW.out w1 HW1.out.1) HR.out HB1.out (by omega) (by have := HN.out; simp only [List.length_append, List.length_cons, List.length_nil]; omega)).mono ?_
    rintro e w2 ⟨rfl, hb2, hw2⟩
    have HW2a := hid (HW1a.out.trans hw2)
    have HW2 := hid (HW1.out.trans hw2)
    have s2 := hw2.1.size
    have HB2 := hid hb2
    clear hb2 hw2 q1
    go_wp2_with fail
    refine (write_any B b _ ⟨#[32, 46, 32]⟩ w2 HB2.out (by have := HN.out; simp only [List.length_append, List.length_cons, List.length_nil]; show _ + 3 ≤ _; omega) (by omega)).mono ?_
    rintro e w3 ⟨rfl, hb3, hw3⟩
    have q3 := (HW2a.out.trans hw3).box HBL.out (by decide)
    have HW3 := hid (HW2.out.trans hw3)
    have s3 := hw3.1.size
    have HB3 := hid hb3
    clear hb3 hw3
    go_wp2_with fail
    have hq := HI.out z hz R w3 _ x B b _ (InAt.keep (HW3.out.1.on HR.out) _ HE.out) HR.out HB3.out (by omega) (by have := HN.out; simp only [List.length_append, List.length_cons, List.length_nil]; omega)
    simp only [showFn_id, showFn_atom, showFn_list, showFn_dots] at hq
    refine hq.mono ?_
    rintro e w4 ⟨rfl, hb4, hw4⟩
    have HB4 := hid hb4
    have HW4 := hid (HW3.out.trans hw4)
    have s4 := hw4.1.size
    clear hb4 hw4 hq q3
    go_wp2_with fail
    refine (write_any B b _ ⟨#[41]⟩ w4 HB4.out (by have := HN.out; simp only [List.length_append, List.length_cons, List.length_nil]; show _ + 1 ≤ _; omega) (by omega)).mono ?_
    rintro e w5 ⟨rfl, hb5, hw5⟩
    have HB5 := hid hb5
    have HW5 := hid hw5
    clear hb5 hw5
    go_wp2_with fail
    go_end0
    refine ⟨rfl, ?_, HW4.out.trans HW5.out⟩
    rw [showI_dots]
    have h := HB5.out
    simpa using h

theorem showIm_of (n : Nat) (ih : ShowIm n) : ShowIm (n + 1) := by
  intro p hp R w t x B b l hin hR hb hB hl
  rw [InAt_kinds] at hin
  rcases hin with ⟨tx, sc, fr, rfl, c2, h1, h2, h3⟩ | ⟨tx, rfl, h1, h2⟩ | ⟨ps, rfl, a, cap, h1, h2, h3⟩ | ⟨ps, z, rfl, a, cap, e, h1, h2, h3, h5⟩
  · injection h1 with h1 h4
    subst h1 h4
    obtain ⟨a, cap, rfl, -⟩ := h3
    rw [showFn_id]
    exact showIm_id tx sc fr _ ⟨_, _, _, rfl⟩ w B b l hb hB hl
  · injection h1 with h1 h4
    subst h1 h4
    rw [showFn_atom]
    exact showIm_atom tx w B b l hb hB hl
  · injection h1 with h1 h4
    subst h1 h4
    rw [showFn_list]
    rw [Im.sz_list] at hp
    exact showIm_list n (showIms_of n ih) ps (by omega) R w a cap B b l h2 h3 hR hb hB hl
  · injection h1 with h1 h4
    subst h1 h4
    rw [showFn_dots]
    rw [Im.sz_dots] at hp
    exact showIm_dots n (showIms_of n ih) ih ps z (by omega) (by omega) R w a cap B b e l h2 h3 h5 hR hb hB hl

theorem showIm_all : ∀ n, ShowIm n
  | 0 => fun p hp => by have := Im.sz_pos p; omega
  | n + 1 => showIm_of n (showIm_all n)

theorem reg_lt {B : Nat → Prop} {w w1 : World} (h : ∀ b, B b → b < w1.heap.size) : ∀ b, Reg B w w1 b → b < w1.heap.size := by
  intro b hb
  rcases hb with hb | hb
  · exact h b hb
  · exact hb.2

/-- A builder that was never written. -/
theorem isB_new (w : World) : isB w.heap.size w.heap.size [] (w.alloc (.cells #[.pointer none, .slice none 0 0] 66)) := by
  refine Or.inl ⟨Nat.le_refl _, .slice none 0 0, ?_, World.ownsRow_nil _ _ _ _, by simp [Value.ownBlock]⟩
  show (w.heap.push _)[w.heap.size]? = _
  simp

set_option maxRecDepth 20000 in
set_option maxHeartbeats 4000000 in
theorem implShow_any (f : Fm) (B : Nat → Prop) (w : World) (c0 c1 c2 c3 c4 : Value) (hA : FormAt B w f c0 c1 c2 c3 c4) (hB : ∀ b, B b → b < w.heap.size) (hc : f.cost ≤ 1048576) :
    Calls Try.prog 10 #[.agg #[c0, c1, c2, c3, c4]] w fun e w' => e = .returned (.string ⟨(shown f).toArray⟩) ∧ Below w.heap.size w w' := by
  have H := hid (fun o1 : Obj => openForm_any f B (w.alloc o1) c0 c1 c2 c3 c4 (FormAt.keep ((SameOn.refl _ _).alloc hB _) _ hA) (fun b hb => by have := hB b hb; simp; omega) hc)
  have HR := hid hB
  obtain ⟨rfl, rfl, ht, h2, rfl, h4⟩ := (formAt_iff _ _ _ _ _ _ _ _).1 hA
  obtain ⟨a2, k2, rfl, -⟩ := h2
  obtain ⟨a4, k4, rfl, -⟩ := h4
  clear hA hB hc
  go_enter Try.func10, Try.ntmps10
  go_wp2_with fail
  refine (H.out _).mono ?_
  rintro e w1 ⟨v, rfl, hw, hin⟩
  have HW := hid (((Below.refl w.heap.size w).alloc (Nat.le_refl _) _).trans (hw.mono (by simp)))
  have HIN := hid hin
  have s1 := hw.size
  simp only [World.size_alloc] at s1
  clear hw H hin
  cases hok : formOk f with
  | false =>
    go_wp2_with fail
    go_ret
    exact ⟨by unfold shown; rw [if_neg (by rw [hok]; decide)]; rfl, HW.out⟩
  | true =>
    have hin := HIN.out hok
    have HS : Hid (showI (toIm f) = shown f) := by
      show _ = _
      have h := hok
      unfold formOk at h
      rw [Bool.and_eq_true] at h
      rw [show_ok f.sz f 0 (Nat.le_refl _) h.1]
      unfold shown; rw [if_pos hok]
    have HL : Hid ((showI (toIm f)).length ≤ 1000000) := by
      show _ ≤ _
      rw [HS.out]; unfold shown; rw [if_pos hok]; exact shown_short hok
    have m1 := meth_id
    have m2 := meth_atom
    have m3 := meth_list
    have m4 := meth_dots
    simp [showName] at m1 m2 m3 m4
    have HQ := hid (fun (t : TypeId) (x : Value) (o : Obj) (ho : o = .cells #[.pointer none, .slice none 0 0] 66) (hv : v = .iface t x) => (showIm_all (toIm f).sz (toIm f) (Nat.le_refl _) _ (w1.alloc o) t x w1.heap.size w1.heap.size [] (by rw [← hv]; exact InAt.keep ((SameOn.refl _ _).alloc (reg_lt (fun b hb => by have := HR.out b hb; omega)) _) _ hin) (reg_lt (fun b hb => by have := HR.out b hb; omega)) (by rw [ho]; exact isB_new w1) (by simp) (by have := HL.out; simp; omega)))
    rcases InAt.four hin with ⟨x, rfl⟩ | ⟨x, rfl⟩ | ⟨x, rfl⟩ | ⟨x, rfl⟩
    all_goals
      clear hin HIN
      go_wp2_with fail
      have hq := HQ.out _ x _ rfl rfl
      simp only [showFn_id, showFn_atom, showFn_list, showFn_dots] at hq
      refine hq.mono ?_
      rintro e w2 ⟨rfl, hb2, hw2⟩
      have HB2 := hid hb2
      have HW2 := hid hw2
      have s2 := hw2.1.size
      simp only [World.size_alloc] at s2
      clear hb2 hw2 hq HQ
      go_wp2_with fail
      refine (Try.Builder_String_any w1.heap.size w1.heap.size (showI (toIm f)) w2 (by have h := HB2.out; rw [List.nil_append] at h; exact h) (by omega)).mono ?_
      rintro e w3 ⟨rfl, hw3⟩
      go_wp2_with fail
      go_ret
      refine ⟨by rw [HS.out]; rfl, ?_⟩
      exact ((HW.out.alloc (by omega) _).trans (HW2.out.1.mono (by omega))).trans (hw3.mono (by omega))

end Go.Proofs.Ytkpamgabhlplfaa

namespace Go.Proofs.Ytkpamgabhlplfaa
open Go.RowKit Go.Siskin

def ToForm (n : Nat) : Prop := ∀ f : Fm, f.sz ≤ n → ∀ (B : Nat → Prop) (w : World) (c0 c1 c2 c3 c4 : Value), FormAt B w f c0 c1 c2 c3 c4 → (∀ b, B b → b < w.heap.size) → f.cost ≤ 1048576 →
    Calls Try.prog 9 #[.agg #[c0, c1, c2, c3, c4]] w fun e w' => ∃ d0 d1 d2 d3 d4, e = .returned (.agg #[d0, d1, d2, d3, d4]) ∧ FormAt (Fresh w w') w' f d0 d1 d2 d3 d4 ∧ Below w.heap.size w w'
def ToForms (n : Nat) : Prop := ∀ ks : List Fm, Fm.szs ks ≤ n → ∀ (B : Nat → Prop) (w : World) (v : Value), FormsAt B w v ks → (∀ b, B b → b < w.heap.size) → ks.length + Fm.costs ks ≤ 1048576 →
    Calls Try.prog 28 #[v] w fun e w' => ∃ u, e = .returned u ∧ FormsAt (Fresh w w') w' u ks ∧ Below w.heap.size w w'

set_option maxHeartbeats 1000000 in
theorem toForm_of (n : Nat) (ih : ToForms n) : ToForm (n + 1) := by
  intro f hf B w c0 c1 c2 c3 c4 hA hB h0
  obtain ⟨rfl, rfl, ht, h2, rfl, h4⟩ := (formAt_iff _ _ _ _ _ _ _ _).1 hA
  have HC := hid (Fm.cost_eq f)
  have HS := hid (Fm.sz_kids f)
  have hl : f.scopes.length ≤ 1048576 := by have := HC.out; omega
  have H2 := hid h2
  have H4 := hid h4
  have HI := hid ih
  have HR := hid hB
  clear h2 h4 hA ih hB
  go_enter Try.func9, Try.ntmps9
  go_wp2_with fail
  refine (toIntS_any B _ f.scopes _ (H2.out.keep (((((SameOn.refl _ _).alloc HR.out _).alloc (fun b hb => by have := HR.out b hb; simp; omega) _).alloc (fun b hb => by have := HR.out b hb; simp; omega) _))) (fun b hb => by have := HR.out b hb; simp; omega) hl).mono ?_
  rintro e w1 ⟨v2, rfl, hi1, hb1⟩
  obtain ⟨a2, k2, rfl, -⟩ := id hi1
  obtain ⟨hc1, hf1⟩ := bcell hb1
  have hz1 : w.heap.size + 2 < w1.heap.size := by have := hb1.size; simp at this; omega
  have hz1a : w.heap.size + 1 < w1.heap.size := by omega
  have hz1b : w.heap.size < w1.heap.size := by omega
  have HI1 := hid hi1
  have HB1 := hid hb1
  clear hi1 hb1
  go_wp2_with fail
  refine (HI.out f.kids (by have := HS.out; omega) B _ c4 (H4.out.keep ?_) ?_ (by have := HC.out; omega)).mono ?_
  · exact (((((((SameOn.refl _ _).alloc HR.out _).alloc (fun b hb => by have := HR.out b hb; simp; omega) _).alloc (fun b hb => by have := HR.out b hb; simp; omega) _).below HB1.out (fun b hb => by have := HR.out b hb; simp; omega)).setCell (fun hb => by have := HR.out _ hb; simp at this; omega) _).setCell (fun hb => by have := HR.out _ hb; simp at this; omega) _)
  · exact fun b hb => by have := HR.out b hb; simp; omega
  rintro e w2 ⟨u, rfl, hi2, hb2⟩
  obtain ⟨a4, k4, rfl, -⟩ := id hi2
  obtain ⟨hc2, hf2⟩ := bcell hb2
  have hz2 : w1.heap.size ≤ w2.heap.size := by have := hb2.size; simp at this; omega
  have HI2 := hid hi2
  have HB2 := hid hb2
  clear hi2 hb2
  go_wp2_with fail
  refine bodyPost_ret (v := .agg #[.int .i64 f.sort, .string f.text, .slice a2 f.scopes.length k2, .int .i64 f.frm, .slice a4 f.kids.length k4]) (by simp [results, Try.results9, go_sem, hc1, hc2, hz1a]) rfl ⟨_, _, _, _, _, rfl, ?_, ?_⟩
  · refine (formAt_iff _ _ _ _ _ _ _ _).2 ⟨rfl, rfl, ht, (HI1.out.keep ?_).mono ?_, rfl, (HI2.out.keep ?_).mono ?_⟩
    · refine ((((((((SameOn.refl _ _).setCell ?_ _).setCell ?_ _).below HB2.out ?_).setCell ?_ _).setCell ?_ _).setCell ?_ _).setCell ?_ _).setCell ?_ _ |>.setCell ?_ _
      all_goals first
        | (intro h; have := h.1; simp at this; omega)
        | (intro b h; have := h.2; simp; omega)
    · intro b h; have h1 := h.1; have h2 := h.2; exact ⟨by simp at h1; omega, by simp; omega⟩
    · refine ((((((SameOn.refl _ _).setCell ?_ _).setCell ?_ _).setCell ?_ _).setCell ?_ _).setCell ?_ _).setCell ?_ _
      all_goals (intro h; have := h.1; simp at this; omega)
    · intro b h; have h1 := h.1; have h2 := h.2; exact ⟨by simp at h1; omega, by simp; omega⟩
  · refine (((((((((((((Below.refl _ _).alloc (Nat.le_refl _) _).alloc (by simp) _).alloc (by simp; omega) _).trans (HB1.out.mono (by simp; omega))).setCell ?_ _).setCell ?_ _).trans (HB2.out.mono (by simp; omega))).setCell ?_ _).setCell ?_ _).setCell ?_ _).setCell ?_ _).setCell ?_ _).setCell ?_ _
    all_goals (simp; try omega)

end Go.Proofs.Ytkpamgabhlplfaa
