/- The program's openList and openDots, if openAll does as it should. Condition: the form lies in memory, the opener's counter apart from it. -/
import Derived.Test.YtoefpcegekfggaaG4
namespace Go.Proofs.Ytoefpcegekfggaa
open Go.RowKit Go.Siskin

theorem same_drewN (R : Nat → Prop) (w : World) (m : Nat) : SameOn R w (w.drewN m) := fun _ _ => rfl
theorem opened_after {bo : Nat} {w w1 w2 : World} {m' : Int} (hb : Below w.heap.size w w1) (h : Opened bo w1 w2 m') : Opened bo w w2 m' :=
  ⟨⟨h.1.os.trans hb.os, h.1.tape.trans hb.tape, h.1.output.trans hb.output, Nat.le_trans hb.size h.1.size, fun k hk hne => (h.1.block k (Nat.lt_of_lt_of_le hk hb.size) hne).trans (hb.block k hk)⟩, h.2⟩
theorem opened_below {bo : Nat} {w w1 : World} {m : Int} (hb : Below w.heap.size w w1) (ho : Own w bo 77 #[.int .i64 m]) : Opened bo w w1 m :=
  ⟨⟨hb.os, hb.tape, hb.output, hb.size, fun k hk _ => hb.block k hk⟩, ho.keep hb ho.lt⟩
theorem reg_after {B : Nat → Prop} {w w1 w2 : World} (hs : w.heap.size ≤ w1.heap.size) : ∀ b, Reg B w1 w2 b → Reg B w w2 b := by
  intro b h
  rcases h with h | h
  · exact Or.inl h
  · exact Or.inr ⟨by omega, h.2⟩

set_option maxRecDepth 20000 in
set_option maxHeartbeats 2000000 in
theorem openList_any (n : Nat) (ih : OpenForms n) (f : Fm) (hf : Fm.szs f.kids ≤ n) (B : Nat → Prop) (w : World) (c0 c1 c2 c3 c4 : Value) (d m bo : Nat) (hA : FormAt B w f c0 c1 c2 c3 c4) (hB : ∀ b, B b → b < w.heap.size ∧ b ≠ bo) (ho : Own w bo 77 #[.int .i64 m]) (hm : m ≤ 1500) (hd : d ≤ 60) (hc : f.cost ≤ 1048576) :
    Calls Try.prog 50 #[.pointer (some ⟨bo, 0, none⟩), .agg #[c0, c1, c2, c3, c4], .int .i64 d] w fun e w' => ∃ (m' : Int) (v : Value), Opened bo w w' m' ∧ e = .returned (.tuple #[v, .bool (listFormB f && goodsB f.kids (d + 1) m)]) ∧ ((listFormB f && goodsB f.kids (d + 1) m) = true → m' = m + Fm.szs f.kids ∧ InAt (Reg B w w') w' (.list (toIms f.kids)) v) := by
  have HA := hid hA
  obtain ⟨rfl, rfl, ht, h2, rfl, h4⟩ := (formAt_iff _ _ _ _ _ _ _ _).1 hA
  have H4 := hid h4
  obtain ⟨a2, k2, rfl, -⟩ := h2
  obtain ⟨a4, k4, rfl, hl4, -⟩ := h4
  have HI := hid ih
  have HR := hid hB
  have HO := hid ho
  have HC := hid (Fm.cost_eq f)
  have hbo := ho.lt
  clear hA hB ho ih
  go_enter Try.func50, Try.ntmps50
  go_wp2_with fail
  refine (hasOnlyKids_any f B _ _ _ _ _ _ (FormAt.keep ((SameOn.refl _ _).alloc (fun b hb => (HR.out b hb).1) _) _ HA.out)).mono ?_
  rintro e w1 ⟨rfl, hw⟩
  obtain ⟨hc1, -⟩ := bcell hw
  have hz1 : w.heap.size < w1.heap.size := by have := hw.size; simp at this; omega
  have HW := hid (((Below.refl w.heap.size w).alloc (Nat.le_refl _) _).trans (hw.mono (by simp)))
  clear hw
  cases hl : listFormB f with
  | false =>
    go_wp2_with fail
    go_ret2
    exact ⟨m, .nilIface, opened_below HW.out HO.out, ret_tup (by rw [hl]; rfl), fun h => by rw [hl] at h; cases h⟩
  | true =>
    go_wp2_with fail
    refine (HI.out f.kids hf B w1 _ (d + 1) m bo (H4.out.keep (HW.out.on (fun b hb => (HR.out b hb).1))) (fun b hb => ⟨by have := (HR.out b hb).1; omega, (HR.out b hb).2⟩) (HO.out.keep HW.out hbo) hm (by omega) (by have := HC.out; omega)).mono ?_
    rintro e w2 ⟨m', a, len, cap, hop, rfl, hgo⟩
    have HOP := hid hop
    have HGO := hid hgo
    clear hop hgo
    go_wp2_with fail
    go_ret2
    refine ⟨m', _, opened_after HW.out HOP.out, ret_tup (by rw [hl, Bool.true_and]), fun h => ?_⟩
    rw [hl, Bool.true_and] at h
    obtain ⟨h1, h2, h3, h4⟩ := HGO.out h
    refine ⟨h1, ?_⟩
    subst h2
    rw [InAt_list]
    refine ⟨a, cap, by rw [toIms_length]; rfl, by rw [toIms_length]; exact hl4, ?_⟩
    rcases h4 with h4 | ⟨g, h4, h5, h6⟩
    · exact Or.inl (by rw [h4]; rfl)
    · exact Or.inr ⟨g, 0, h4, reg_after (by omega) g h5, InRow.mono (reg_after (by omega)) _ h6⟩

def dotsB (f : Fm) (d m : Nat) : Bool := listFormB f && endB f.kids && goodsB f.kids (d + 1) m

set_option maxRecDepth 20000 in
set_option maxHeartbeats 4000000 in
theorem openDots_any (n : Nat) (ih : OpenForms n) (f : Fm) (hf : Fm.szs f.kids ≤ n) (B : Nat → Prop) (w : World) (c0 c1 c2 c3 c4 : Value) (d m bo : Nat) (hA : FormAt B w f c0 c1 c2 c3 c4) (hB : ∀ b, B b → b < w.heap.size ∧ b ≠ bo) (ho : Own w bo 77 #[.int .i64 m]) (hm : m ≤ 1500) (hd : d ≤ 60) (hc : f.cost ≤ 1048576) :
    Calls Try.prog 51 #[.pointer (some ⟨bo, 0, none⟩), .agg #[c0, c1, c2, c3, c4], .int .i64 d] w fun e w' => ∃ (m' : Int) (v : Value), Opened bo w w' m' ∧ e = .returned (.tuple #[v, .bool (dotsB f d m)]) ∧ (dotsB f d m = true → m' = m + Fm.szs f.kids ∧ InAt (Reg B w w') w' (.dots (toIms f.kids).dropLast ((toIms f.kids).getD ((toIms f.kids).length - 1) Im.no)) v) := by
  have HA := hid hA
  obtain ⟨rfl, rfl, ht, h2, rfl, h4⟩ := (formAt_iff _ _ _ _ _ _ _ _).1 hA
  have H4 := hid h4
  obtain ⟨a2, k2, rfl, -⟩ := h2
  obtain ⟨a4, k4, rfl, hl4, h4⟩ := h4
  have HI := hid ih
  have HR := hid hB
  have HO := hid ho
  have HC := hid (Fm.cost_eq f)
  have hbo := ho.lt
  have hl40 := hl4
  unfold maxLen at hl4
  clear hA hB ho ih
  go_enter Try.func51, Try.ntmps51
  go_wp2_with fail
  refine (hasOnlyKids_any f B _ _ _ _ _ _ (FormAt.keep ((SameOn.refl _ _).alloc (fun b hb => (HR.out b hb).1) _) _ HA.out)).mono ?_
  rintro e w1 ⟨rfl, hw⟩
  obtain ⟨hc1, -⟩ := bcell hw
  have hz1 : w.heap.size < w1.heap.size := by have := hw.size; simp at this; omega
  have HW := hid (((Below.refl w.heap.size w).alloc (Nat.le_refl _) _).trans (hw.mono (by simp)))
  have HW0 := hid (((SameOn.refl B w).alloc (fun b hb => (HR.out b hb).1) _).below hw (fun b hb => by have := (HR.out b hb).1; simp; omega))
  clear hw
  cases hl : listFormB f with
  | false =>
    go_wp2_with fail
    go_ret2
    exact ⟨m, .nilIface, opened_below HW.out HO.out, ret_tup (by unfold dotsB; rw [hl]; rfl), fun h => by unfold dotsB at h; rw [hl] at h; cases h⟩
  | true =>
  by_cases hn : 1 < f.kids.length
  · rcases h4 with h4 | ⟨ba, oa, rfl, hb, h4⟩
    · rw [h4] at hn; simp at hn
    obtain ⟨c0, c1, c2, c3, c4, g0, -, -, -, -, hf'⟩ := RowAt.get f.kids (RowAt.keep HW0.out hb f.kids h4) (f.kids.length - 1) (by omega)
    obtain ⟨rfl, -⟩ := (formAt_iff _ _ _ _ _ _ _ _).1 hf'
    have HE : Hid (endB f.kids = (decide (f.kids[f.kids.length - 1].sort = 1) || decide (f.kids[f.kids.length - 1].sort = 2))) := by
      show _ = _
      unfold endB
      rw [decide_eq_true hn, List.getD_eq_getElem?_getD, List.getElem?_eq_getElem (by omega)]; rfl
    generalize f.kids[f.kids.length - 1].sort = z at *
    have hn' : (1 : Int) < (f.kids.length : Int) := by omega
    have hn2 : (1 : Int) ≤ (f.kids.length : Int) - 1 := by omega
    clear h4 hf'
    by_cases hz : z = 1 ∨ z = 2
    · have HEt : Hid (endB f.kids = true) := by
        show _ = _
        rw [HE.out]; rcases hz with hz | hz <;> rw [hz] <;> rfl
      clear HE
      rcases hz with rfl | rfl
      all_goals
        go_wp2_with fail
        refine (HI.out f.kids hf B w1 _ (d + 1) m bo (H4.out.keep HW0.out) (fun b hb => ⟨by have := (HR.out b hb).1; omega, (HR.out b hb).2⟩) (HO.out.keep HW.out hbo) hm (by omega) (by have := HC.out; omega)).mono ?_
        rintro e w2 ⟨m', a, len, cap, hop, rfl, hgo⟩
        have HOP := hid hop
        have HGO := hid hgo
        clear hop hgo
        cases hg : goodsB f.kids (d + 1) m with
        | false =>
          go_wp2_with fail
          go_ret2
          exact ⟨m', .nilIface, opened_after HW.out HOP.out, ret_tup (by unfold dotsB; rw [hg]; simp), fun h => by unfold dotsB at h; rw [hg] at h; simp at h⟩
        | true =>
          obtain ⟨e1, rfl, e3, e4⟩ := HGO.out hg
          rcases e4 with e4 | ⟨g, rfl, e5, e6⟩
          · rw [e4] at hn; simp at hn
          obtain ⟨x, hx, hin⟩ := InRow.get _ e6 (f.kids.length - 1) (by rw [toIms_length]; omega)
          obtain ⟨t, y, rfl⟩ := InAt.iface hin
          rw [Nat.zero_add] at hx
          have HIN := hid hin
          have H6 := hid e6
          have H1 := hid e1
          clear hin e6 e1
          go_wp2_with fail
          go_quiet (fail)
          go_wp2_with fail
          go_ret2
          refine ⟨m', _, ?_, ret_tup (by unfold dotsB; rw [hl, HEt.out, hg]; rfl), fun _ => ⟨H1.out, ?_⟩⟩
          · have h := opened_after HW.out HOP.out
            exact ⟨⟨h.1.os, h.1.tape, h.1.output, h.1.size, h.1.block⟩, h.2⟩
          · rw [InAt_dots]
            have hlen : (toIms f.kids).dropLast.length = f.kids.length - 1 := by rw [List.length_dropLast, toIms_length]
            refine ⟨some ⟨g, 0, none⟩, f.kids.length - 1, .iface t y, by rw [hlen]; rfl, by rw [hlen]; omega, Or.inr ⟨g, 0, rfl, reg_after (by omega) g e5, ?_⟩, ?_⟩
            · refine InRow.mk _ fun i hi => ?_
              obtain ⟨x', hx', hi'⟩ := InRow.get _ H6.out i (by rw [hlen] at hi; rw [toIms_length]; omega)
              exact ⟨x', hx', by rw [List.getElem_dropLast]; exact InAt.mono (reg_after (by omega)) _ (InAt.keep (same_drewN _ _ _) _ hi')⟩
            · rw [List.getD_eq_getElem?_getD, List.getElem?_eq_getElem (by rw [toIms_length]; omega)]
              have h := HIN.out
              simp only [toIms_length]
              exact InAt.mono (reg_after (by omega)) _ (InAt.keep (same_drewN _ _ _) _ h)
    · have HEf : Hid (endB f.kids = false) := by
        show _ = _
        rw [HE.out, decide_eq_false (fun h => hz (Or.inl h)), decide_eq_false (fun h => hz (Or.inr h))]; rfl
      have z1 : (z != 1) = true := by simp; omega
      have z2 : (z != 2) = true := by simp; omega
      clear HE hz
      go_wp2_with fail
      go_ret2
      exact ⟨m, .nilIface, opened_below HW.out HO.out, ret_tup (by unfold dotsB; rw [HEf.out]; simp), fun h => by unfold dotsB at h; rw [HEf.out] at h; simp at h⟩
  · have HEf : Hid (endB f.kids = false) := by
      show _ = _
      unfold endB; rw [decide_eq_false hn]; rfl
    have hn2 : (f.kids.length : Int) - 1 < 1 := by omega
    go_wp2_with fail
    go_ret2
    exact ⟨m, .nilIface, opened_below HW.out HO.out, ret_tup (by unfold dotsB; rw [HEf.out]; simp), fun h => by unfold dotsB at h; rw [HEf.out] at h; simp at h⟩

end Go.Proofs.Ytoefpcegekfggaa
