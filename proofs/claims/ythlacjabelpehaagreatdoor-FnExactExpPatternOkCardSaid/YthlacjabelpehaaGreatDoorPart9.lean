/-
  The model's l3IdsOk. Condition: the forms lie in memory as FormsAt says.
  The model's ExpPatternOk. Condition: the form and the literals lie in memory.
  The program's isStringText and isAtomText return, at every text, whether it is a string, and whether it is an atom that is not too long; the world is as it was. Condition: the text's size is one that a Go string can have.
  The program's isIdText returns, at every text, whether it is an identifier that is not too long; nothing that was there has turned. Condition: the text's size is one that a Go string can have.
  The program's openId and openAtom take just the identifiers and atoms that are ok. Condition: the form lies in memory as FormAt says.
  The program's openId at a form that is no identifier, isOrdinary; and that both look for the same in a literal. Condition: the form lies in memory.
  The program's openLiterals. Condition: the forms lie in memory.
-/
import Derived.Test.YthlacjabelpehaaGreatDoorPart8
import Derived.Test.YthlacjabelpehaaGreatDoorPart7
namespace Go.Proofs.YthlacjabelpehaaGreatDoor
open Go.RowKit Go.Siskin

def idBY (g : Fm) : Bool := formOk g && (g.sort == 1) && !dotsF g && !blankF g
def idsB (ks : List Fm) : Bool := ks.all idBY
theorem idsB_bad {ks : List Fm} {k : Nat} (h : k < ks.length) (hb : idBY ks[k] = false) : false = idsB ks := by
  unfold idsB
  symm
  rw [List.all_eq_false]
  exact ⟨ks[k], List.getElem_mem h, by rw [hb]; simp⟩
theorem idsB_good {ks : List Fm} (h : ∀ j (hj : j < ks.length), idBY ks[j] = true) : true = idsB ks := by
  unfold idsB
  symm
  rw [List.all_eq_true]
  intro x hx
  obtain ⟨i, hi, rfl⟩ := List.mem_iff_getElem.1 hx
  exact h i hi

set_option maxRecDepth 20000 in
set_option maxHeartbeats 1000000 in
theorem l3IdsOk_any (ks : List Fm) (B : Nat → Prop) (w : World) (v : Value) (hv : FormsAt B w v ks) (hB : ∀ b, B b → b < w.heap.size) (hc : ∀ g ∈ ks, g.cost ≤ 1048576) :
    Calls Tryz.prog 14 #[v] w fun e w' => e = .returned (.bool (idsB ks)) ∧ Below w.heap.size w w' := by
  obtain ⟨a, ca, rfl, hla, ha⟩ := hv
  have HR := hid hB
  have HC := hid hc
  unfold maxLen at hla
  have HGet : Hid (∀ w', Below w.heap.size w w' → ∀ i (hi : i < ks.length), ∃ b o, a = some ⟨b, o, none⟩ ∧ B b ∧ ∃ e0 e1 e2 e3 e4, w'.cell? ⟨b, o + i * 5, none⟩ = some e0 ∧ w'.cell? ⟨b, o + i * 5 + 1, none⟩ = some e1 ∧ w'.cell? ⟨b, o + i * 5 + 2, none⟩ = some e2 ∧ w'.cell? ⟨b, o + i * 5 + 3, none⟩ = some e3 ∧ w'.cell? ⟨b, o + i * 5 + 4, none⟩ = some e4 ∧ FormAt B w' ks[i] e0 e1 e2 e3 e4) := fun w' hb i hi => by
    rcases ha with h | ⟨b, o, e1, e2, e3⟩
    · rw [h] at hi; simp at hi
    · obtain ⟨k0, k1, k2, k3, k4, q0, q1, q2, q3, q4, q5⟩ := RowAt.get ks (RowAt.keep (hb.on HR.out) e2 ks e3) i hi
      exact ⟨b, o, e1, e2, k0, k1, k2, k3, k4, q0, q1, q2, q3, q4, q5⟩
  clear hB hc ha
  go_enter Tryz.func14, Tryz.ntmps14
  go_wp2_with fail
  go_loopw [3] (fun i wr => ∃ k : Nat, k ≤ ks.length ∧ i = .int .i64 k ∧ Hid (Below w.heap.size w wr) ∧ Hid (∀ j (hj : j < ks.length), j < k → idBY ks[j] = true)) (fun i _ => ks.length - (intOf i).toNat)
  case atStart => exact ⟨0, Nat.zero_le _, rfl, Below.refl _ _, fun j _ hj => absurd hj (by omega)⟩
  case round =>
    obtain ⟨k, hk, rfl, HB, HN⟩ := hrel
    by_cases hlt : k < ks.length
    · obtain ⟨b', o', hab, hb', e0, e1, e2, e3, e4, g0, g1, g2, g3, g4, hf⟩ := HGet.out _ HB.out k hlt
      subst hab
      have HF := hid hf
      have HBk := hid (fun w' (hb : Below wr.heap.size wr w') => HB.out.trans (hb.mono HB.out.size))
      have HBs : Hid (∀ w', Below wr.heap.size wr w' → ∀ b, B b → b < w'.heap.size) := fun w' hb b h => by have h1 := HR.out b h; have h2 := HB.out.size; have h3 := hb.size; omega
      have HKe : Hid (∀ w', Below wr.heap.size wr w' → w'.cell? ⟨b', o' + k * 5, none⟩ = some e0 ∧ w'.cell? ⟨b', o' + k * 5 + 1, none⟩ = some e1 ∧ w'.cell? ⟨b', o' + k * 5 + 2, none⟩ = some e2 ∧ w'.cell? ⟨b', o' + k * 5 + 3, none⟩ = some e3 ∧ w'.cell? ⟨b', o' + k * 5 + 4, none⟩ = some e4 ∧ FormAt B w' ks[k] e0 e1 e2 e3 e4) := fun w' hw => by
        have hon := hw.on (HBs.out wr (Below.refl _ _))
        exact ⟨(hon.cell hb' _).trans g0, (hon.cell hb' _).trans g1, (hon.cell hb' _).trans g2, (hon.cell hb' _).trans g3, (hon.cell hb' _).trans g4, FormAt.keep hon _ HF.out⟩
      have HO := hid (specFormOk_any ks[k] B wr _ _ _ _ _ hf (HBs.out wr (Below.refl _ _)) (HC.out _ (List.getElem_mem hlt)))
      have HD : Hid (∀ w', Below wr.heap.size wr w' → Calls Tryz.prog 23 #[.agg #[e0, e1, e2, e3, e4]] w' fun e w'' => e = .returned (.bool (dotsF ks[k])) ∧ Below w'.heap.size w' w'') := fun w' hb => l3Dots_any _ B w' _ _ _ _ _ (HKe.out w' hb).2.2.2.2.2
      have HL : Hid (∀ w', Below wr.heap.size wr w' → Calls Tryz.prog 24 #[.agg #[e0, e1, e2, e3, e4]] w' fun e w'' => e = .returned (.bool (blankF ks[k])) ∧ Below w'.heap.size w' w'') := fun w' hb => l3Blank_any _ B w' _ _ _ _ _ (HKe.out w' hb).2.2.2.2.2
      have hs0 := ((formAt_iff _ _ _ _ _ _ _ _).1 hf).1
      obtain ⟨s, hs⟩ : ∃ s, ks[k].sort = s := ⟨_, rfl⟩
      rw [hs] at hs0
      have HS := hid hs
      subst hs0
      clear hf hs
      cases hx : formOk ks[k] with
      | false =>
        rw [hx] at HO
        have HY := hid (idsB_bad hlt (show idBY ks[k] = false by unfold idBY; rw [hx]; rfl))
        clear hx
        go_wp2_with fail
        refine HO.out.mono ?_
        rintro e w1 ⟨rfl, hw1⟩
        have HW := hid (HBk.out _ hw1)
        clear hw1
        go_wp2_with fail
        go_ret
        exact ⟨ret_bool HY.out, HW.out⟩
      | true =>
        rw [hx] at HO
        have HX := hid hx
        clear hx
        by_cases h1 : s = 1
        · have h1' : (s == 1) = true := by simpa using h1
          have h1n : (s != 1) = false := by simp [h1]
          have HS1 : Hid ((ks[k].sort == 1) = true) := by show _ = true; rw [HS.out]; exact h1'
          clear h1 h1'
          cases hd : dotsF ks[k] with
          | true =>
            rw [hd] at HD
            have HY := hid (idsB_bad hlt (show idBY ks[k] = false by unfold idBY; rw [hd]; simp))
            clear hd
            go_wp2_with fail
            refine HO.out.mono ?_
            rintro e w1 ⟨rfl, hw1⟩
            have HD1 := hid (HD.out _ hw1)
            obtain ⟨y0, y1, y2, y3, y4, -⟩ := HKe.out _ hw1
            have HW := hid (HBk.out _ hw1)
            clear hw1 g0 g1 g2 g3 g4
            go_wp2_with fail
            refine HD1.out.mono ?_
            rintro e w2 ⟨rfl, hw2⟩
            have HW2 := hid (HW.out.trans (hw2.mono HW.out.size))
            clear hw2
            go_wp2_with fail
            go_ret
            exact ⟨ret_bool HY.out, HW2.out⟩
          | false =>
            rw [hd] at HD
            have HDX := hid hd
            clear hd
            cases hl : blankF ks[k] with
            | true =>
              rw [hl] at HL
              have HY := hid (idsB_bad hlt (show idBY ks[k] = false by unfold idBY; rw [hl]; simp))
              clear hl
              go_wp2_with fail
              refine HO.out.mono ?_
              rintro e w1 ⟨rfl, hw1⟩
              have HD1 := hid (HD.out _ hw1)
              obtain ⟨y0, y1, y2, y3, y4, -⟩ := HKe.out _ hw1
              have HWr := hid hw1
              have HW := hid (HBk.out _ hw1)
              clear hw1 g0 g1 g2 g3 g4
              go_wp2_with fail
              refine HD1.out.mono ?_
              rintro e w2 ⟨rfl, hw2⟩
              have HWr2 := hid (HWr.out.trans (hw2.mono HWr.out.size))
              have HW2 := hid (HBk.out _ HWr2.out)
              have HL2 := hid (HL.out _ HWr2.out)
              obtain ⟨z0, z1, z2, z3, z4, -⟩ := HKe.out _ HWr2.out
              clear hw2 y0 y1 y2 y3 y4
              go_wp2_with fail
              refine HL2.out.mono ?_
              rintro e w3 ⟨rfl, hw3⟩
              have HW3 := hid (HW2.out.trans (hw3.mono HW2.out.size))
              clear hw3
              go_wp2_with fail
              go_ret
              exact ⟨ret_bool HY.out, HW3.out⟩
            | false =>
              rw [hl] at HL
              have HY := hid (show idBY ks[k] = true by unfold idBY; rw [hl, HX.out, HDX.out, HS1.out]; rfl)
              clear hl
              go_wp2_with fail
              refine HO.out.mono ?_
              rintro e w1 ⟨rfl, hw1⟩
              have HD1 := hid (HD.out _ hw1)
              obtain ⟨y0, y1, y2, y3, y4, -⟩ := HKe.out _ hw1
              have HWr := hid hw1
              have HW := hid (HBk.out _ hw1)
              clear hw1 g0 g1 g2 g3 g4
              go_wp2_with fail
              refine HD1.out.mono ?_
              rintro e w2 ⟨rfl, hw2⟩
              have HWr2 := hid (HWr.out.trans (hw2.mono HWr.out.size))
              have HW2 := hid (HBk.out _ HWr2.out)
              have HL2 := hid (HL.out _ HWr2.out)
              obtain ⟨z0, z1, z2, z3, z4, -⟩ := HKe.out _ HWr2.out
              clear hw2 y0 y1 y2 y3 y4
              go_wp2_with fail
              refine HL2.out.mono ?_
              rintro e w3 ⟨rfl, hw3⟩
              have HW3 := hid (HW2.out.trans (hw3.mono HW2.out.size))
              clear hw3
              go_wp2_with fail
              refine ⟨⟨k + 1, by omega, by go_num, HW3, fun j hj hjk => ?_⟩, by simp [intOf]; omega⟩
              by_cases e : j = k
              · subst e; exact HY.out
              · exact HN.out j hj (by omega)
        · have h1' : (s == 1) = false := by simpa using h1
          have HY := hid (idsB_bad hlt (show idBY ks[k] = false by unfold idBY; rw [HS.out, h1']; simp))
          have h1n : (s != 1) = true := by simp [h1]
          clear h1 h1'
          go_wp2_with fail
          refine HO.out.mono ?_
          rintro e w1 ⟨rfl, hw1⟩
          obtain ⟨y0, y1, y2, y3, y4, -⟩ := HKe.out _ hw1
          have HW := hid (HBk.out _ hw1)
          clear hw1 g0 g1 g2 g3 g4
          go_wp2_with fail
          go_ret
          exact ⟨ret_bool HY.out, HW.out⟩
    · go_wp2_with fail
      go_ret
      exact ⟨ret_bool (idsB_good fun j hj => HN.out j hj (by omega)), HB.out⟩
end Go.Proofs.YthlacjabelpehaaGreatDoor

namespace Go.Proofs.YthlacjabelpehaaGreatDoor
open Go.RowKit Go.Siskin

def onceB (ks : List Fm) : Bool := (List.range ks.length).all fun i => !amongF (ks.take i) (ks.getD i Fm.no)
/-- The model's ExpPatternOk, plainly. -/
def patOk (f : Fm) (ls : List Fm) : Bool := formOk f && idsB ls && patB f && onceB (namesF ls f)
theorem onceB_bad {ks : List Fm} {k : Nat} (h : k < ks.length) (hb : amongF (ks.take k) ks[k] = true) : onceB ks = false := by
  unfold onceB
  rw [List.all_eq_false]
  refine ⟨k, List.mem_range.2 h, ?_⟩
  rw [List.getD_eq_getElem?_getD, List.getElem?_eq_getElem h, Option.getD_some, hb]; simp
theorem onceB_good {ks : List Fm} (h : ∀ j (hj : j < ks.length), amongF (ks.take j) ks[j] = false) : onceB ks = true := by
  unfold onceB
  rw [List.all_eq_true]
  intro i hi
  have hi := List.mem_range.1 hi
  rw [List.getD_eq_getElem?_getD, List.getElem?_eq_getElem hi, Option.getD_some, h i hi]; rfl
theorem QRow.rows {B : Nat → Prop} {w : World} {base : Nat} {v : Value} {ks : List Fm} (h : QRow B w base v ks) :
    ∃ g cap, v = .slice (some ⟨g, 0, none⟩) ks.length cap ∧ base ≤ g ∧ g < w.heap.size ∧ ks.length ≤ cap ∧ cap ≤ maxLen ∧ FqRow (fun b => B b ∨ b = g) w g 0 ks := by
  obtain ⟨g, cap, cs, rfl, h1, h2, h3⟩ := h
  have hlt := h1.lt g rfl
  have h1' := h1
  rcases h1.2 with ⟨h, -⟩ | ⟨g', cap', cur, e1, e2, e3, e4, e5, -⟩
  · cases h
  · cases e1
    refine ⟨g, cap, rfl, hlt.1, hlt.2, e4, e5, fun i hi => ?_⟩
    obtain ⟨c0, c1, c2, c3, c4, q0, q1, q2, q3, q4, q5⟩ := h2 i hi
    exact ⟨c0, c1, c2, c3, c4, by rw [Nat.zero_add, h1'.cellAt _ (by omega)]; exact q0, by rw [Nat.zero_add, h1'.cellAt _ (by omega)]; exact q1, by rw [Nat.zero_add, h1'.cellAt _ (by omega)]; exact q2, by rw [Nat.zero_add, h1'.cellAt _ (by omega)]; exact q3, by rw [Nat.zero_add, h1'.cellAt _ (by omega)]; exact q4, q5.mono fun b hb => Or.inl hb⟩

set_option maxRecDepth 20000 in
set_option maxHeartbeats 1000000 in
theorem expPatternOk_any (f : Fm) (ls : List Fm) (B : Nat → Prop) (w : World) (v c0 c1 c2 c3 c4 : Value) (hA : FqAt B w f c0 c1 c2 c3 c4) (hv : FormsAt B w v ls) (hB : ∀ b, B b → b < w.heap.size) (hc : f.cost ≤ 1048576) (hz : f.sz ≤ 1048577) (hcl : ∀ g ∈ ls, g.cost ≤ 1048576) :
    Calls Tryz.prog 6 #[.agg #[c0, c1, c2, c3, c4], v] w fun e w' => e = .returned (.bool (patOk f ls)) ∧ Below w.heap.size w w' := by
  have HR := hid hB
  have HV := hid hv
  have HAF := hid hA
  have HCL := hid hcl
  obtain ⟨av, cv, rfl, hlv, hav⟩ := hv
  obtain ⟨W0, hW0⟩ : ∃ W0, W0 = w.alloc (.cells #[c0, c1, c2, c3, c4] 31) := ⟨_, rfl⟩
  have sW0 : W0.heap.size = w.heap.size + 1 := by rw [hW0]; simp
  have BW0 : Below w.heap.size w W0 := by rw [hW0]; exact (Below.refl _ _).alloc (Nat.le_refl _) _
  have HBW0 := hid BW0
  have OW0 : Own W0 w.heap.size 31 #[c0, c1, c2, c3, c4] := by rw [hW0]; exact own_new _ _ _
  have HDone : Hid (∀ w', Below W0.heap.size W0 w' → Below w.heap.size w w') := fun w' hb => HBW0.out.trans (hb.mono (by omega))
  have HBs : Hid (∀ w', Below W0.heap.size W0 w' → ∀ b, B b → b < w'.heap.size) := fun w' hb b h => by have h1 := hb.size; have := HR.out b h; omega
  have HFO := hid (specFormOk_any f B W0 c0 c1 c2 c3 c4 (HAF.out.keep (BW0.on HR.out)).form (HBs.out _ (Below.refl _ _)) hc)
  have HID : Hid (∀ w', Below W0.heap.size W0 w' → Calls Tryz.prog 14 #[.slice av ls.length cv] w' fun e w'' => e = .returned (.bool (idsB ls)) ∧ Below w'.heap.size w' w'') := fun w' hb => l3IdsOk_any ls B w' _ (HV.out.keep ((HDone.out w' hb).on HR.out)) (HBs.out w' hb) HCL.out
  have HPM : Hid (∀ w', Below W0.heap.size W0 w' → okB f 0 = true → Calls Tryz.prog 15 #[.agg #[c0, c1, c2, c3, c4]] w' fun e w'' => e = .returned (.bool (patB f)) ∧ Below w'.heap.size w' w'') := fun w' hb hok => patM_all f.sz f (Nat.le_refl _) hc 0 hok B w' _ _ _ _ _ (HAF.out.keep ((HDone.out w' hb).on HR.out)) (HBs.out w' hb)
  have HNM : Hid (∀ w', Below W0.heap.size W0 w' → Calls Tryz.prog 16 #[.agg #[c0, c1, c2, c3, c4], .slice av ls.length cv] w' fun e w'' => ∃ u, e = .returned u ∧ QRow B w'' w'.heap.size u (namesF ls f) ∧ Below w'.heap.size w' w'') := fun w' hb => namM_all f.sz f (Nat.le_refl _) hz ls B w' _ _ _ _ _ _ (HAF.out.keep ((HDone.out w' hb).on HR.out)) (HV.out.keep ((HDone.out w' hb).on HR.out)) (HBs.out w' hb)
  have HLN := hid (namesF_len ls f.sz f (Nat.le_refl _))
  obtain ⟨rfl, rfl, ht, h2, rfl, hk⟩ := (fqAt_iff _ _ _ _ _ _ _ _).1 hA
  obtain ⟨a2, k2, rfl, -⟩ := h2
  obtain ⟨a4, k4, rfl, -, hrow⟩ := hk
  have HKEEP : Hid (∀ w', Below W0.heap.size W0 w' → w'.cell? ⟨w.heap.size, 0, none⟩ = some (.int .i64 f.sort) ∧ w'.cell? ⟨w.heap.size, 1, none⟩ = some (.string f.text) ∧ w'.cell? ⟨w.heap.size, 2, none⟩ = some (.slice a2 f.scopes.length k2) ∧ w'.cell? ⟨w.heap.size, 3, none⟩ = some (.int .i64 f.frm) ∧ w'.cell? ⟨w.heap.size, 4, none⟩ = some (.slice a4 f.kids.length k4)) := fun w' hb => yown5 (OW0.keep hb (by omega))
  obtain ⟨x0, x1, x2, x3, x4⟩ := yown5 OW0
  have hW0' := hW0.symm
  clear hA hB hrow hav hW0 BW0 OW0 hcl
  cases ho : formOk f with
  | false =>
    have HX : Hid (patOk f ls = false) := by show _ = _; unfold patOk; rw [ho]; rfl
    rw [ho] at HFO
    clear ho
    go_enter Tryz.func6, Tryz.ntmps6
    go_wp2_with fail
    refine HFO.out.mono ?_
    rintro e w1 ⟨rfl, hw1⟩
    have HW := hid hw1
    clear hw1
    go_wp2_with fail
    go_ret
    exact ⟨ret_bool HX.out.symm, HDone.out _ HW.out⟩
  | true =>
    rw [ho] at HFO
    have HOX := hid ho
    have hok : okB f 0 = true := by unfold formOk at ho; rw [Bool.and_eq_true] at ho; exact ho.1
    have HPM : Hid (∀ w', Below W0.heap.size W0 w' → _) := fun w' hb => HPM.out w' hb hok
    clear ho hok
    cases hi : idsB ls with
    | false =>
      have HX : Hid (patOk f ls = false) := by show _ = _; unfold patOk; rw [hi]; simp
      rw [hi] at HID
      clear hi
      go_enter Tryz.func6, Tryz.ntmps6
      go_wp2_with fail
      refine HFO.out.mono ?_
      rintro e w1 ⟨rfl, hw1⟩
      have HW := hid hw1
      have HI1 := hid (HID.out _ hw1)
      clear hw1 x0 x1 x2 x3 x4 hW0'
      go_wp2_with fail
      refine HI1.out.mono ?_
      rintro e w2 ⟨rfl, hw2⟩
      have HW2 := hid (HW.out.trans (hw2.mono HW.out.size))
      clear hw2
      go_wp2_with fail
      go_ret
      exact ⟨ret_bool HX.out.symm, HDone.out _ HW2.out⟩
    | true =>
      rw [hi] at HID
      have HIX := hid hi
      clear hi
      cases hp : patB f with
      | false =>
        have HX : Hid (patOk f ls = false) := by show _ = _; unfold patOk; rw [hp]; simp
        rw [hp] at HPM
        clear hp
        go_enter Tryz.func6, Tryz.ntmps6
        go_wp2_with fail
        refine HFO.out.mono ?_
        rintro e w1 ⟨rfl, hw1⟩
        have HW := hid hw1
        have HI1 := hid (HID.out _ hw1)
        clear hw1 x0 x1 x2 x3 x4 hW0'
        go_wp2_with fail
        refine HI1.out.mono ?_
        rintro e w2 ⟨rfl, hw2⟩
        have HW2 := hid (HW.out.trans (hw2.mono HW.out.size))
        obtain ⟨y0, y1, y2, y3, y4⟩ := HKEEP.out _ HW2.out
        have HP2 := hid (HPM.out _ HW2.out)
        clear hw2
        go_wp2_with fail
        refine HP2.out.mono ?_
        rintro e w3 ⟨rfl, hw3⟩
        have HW3 := hid (HW2.out.trans (hw3.mono HW2.out.size))
        clear hw3
        go_wp2_with fail
        go_ret
        exact ⟨ret_bool HX.out.symm, HDone.out _ HW3.out⟩
      | true =>
        have HX : Hid (patOk f ls = onceB (namesF ls f)) := by show _ = _; unfold patOk; rw [hp, HOX.out, HIX.out]; rfl
        rw [hp] at HPM
        clear hp
        go_enter Tryz.func6, Tryz.ntmps6
        go_wp2_with fail
        refine HFO.out.mono ?_
        rintro e w1 ⟨rfl, hw1⟩
        have HW := hid hw1
        have HI1 := hid (HID.out _ hw1)
        clear hw1 x0 x1 x2 x3 x4 hW0'
        go_wp2_with fail
        refine HI1.out.mono ?_
        rintro e w2 ⟨rfl, hw2⟩
        have HW2 := hid (HW.out.trans (hw2.mono HW.out.size))
        obtain ⟨y0, y1, y2, y3, y4⟩ := HKEEP.out _ HW2.out
        have HP2 := hid (HPM.out _ HW2.out)
        clear hw2
        go_wp2_with fail
        refine HP2.out.mono ?_
        rintro e w3 ⟨rfl, hw3⟩
        have HW3 := hid (HW2.out.trans (hw3.mono HW2.out.size))
        have HN3 := hid (HNM.out _ HW3.out)
        clear hw3 y0 y1 y2 y3 y4
        obtain ⟨z0, z1, z2, z3, z4⟩ := HKEEP.out _ HW3.out
        go_wp2_with fail
        refine HN3.out.mono ?_
        rintro e w4 ⟨u, rfl, hq, hw4⟩
        obtain ⟨g, cap, rfl, hg0, hg1, hcap, hcm, hrow⟩ := hq.rows
        have HRow := hid hrow
        have HW4 := hid (HW3.out.trans (hw4.mono HW3.out.size))
        have hnl : (namesF ls f).length ≤ 1048577 := by have := HLN.out; omega
        obtain ⟨ns, hns⟩ : ∃ ns, namesF ls f = ns := ⟨_, rfl⟩
        rw [hns] at HRow hnl hcap HX ⊢
        have HBn : Hid (∀ wr, Below w4.heap.size w4 wr → ∀ b, (B b ∨ b = g) → b < wr.heap.size) := fun wr hb b h => by
          have h1 := hb.size
          rcases h with h | h
          · have := HBs.out _ HW4.out b h; omega
          · omega
        clear hq hw4 z0 z1 z2 z3 z4 hrow hns
        go_wp2_with fail
        go_loopw [6] (fun i wr => ∃ k : Nat, k ≤ ns.length ∧ i = .int .i64 k ∧ Hid (Below w4.heap.size w4 wr) ∧ Hid (∀ j (hj : j < ns.length), j < k → amongF (ns.take j) ns[j] = false)) (fun i _ => ns.length - (intOf i).toNat)
        case atStart => exact ⟨0, Nat.zero_le _, rfl, Below.refl _ _, fun j _ hj => absurd hj (by omega)⟩
        case round =>
          obtain ⟨k, hk, rfl, HB, HN⟩ := hrel
          have HBa := hid (HW4.out.trans (HB.out.mono HW4.out.size))
          by_cases hlt : k < ns.length
          · have HRw := hid (HRow.out.keep (HB.out.on (HBn.out _ (Below.refl _ _))) (Or.inr rfl))
            obtain ⟨e0, e1, e2, e3, e4, g0, g1, g2, g3, g4, hf⟩ := HRw.out k hlt
            simp only [Nat.zero_add] at g0 g1 g2 g3 g4
            have hlt' : (ns.take k).length = k := by rw [List.length_take]; omega
            have hfs : FormsAt (fun b => B b ∨ b = g) wr (.slice (some ⟨g, 0, none⟩) k cap) (ns.take k) := FqsAt.forms ⟨some ⟨g, 0, none⟩, cap, by rw [hlt'], ⟨by rw [hlt']; unfold maxLen; omega, by rw [hlt']; omega⟩, Or.inr ⟨g, 0, rfl, Or.inr rfl, HRw.out.take k⟩⟩
            have HC := hid (l3Among_any (ns.take k) ns[k] (fun b => B b ∨ b = g) wr.drew _ _ _ _ _ _ (hfs.keep (SameOn.drew _ _)) (hf.keep (SameOn.drew _ _)).form (fun b hb => by have := HBn.out _ HB.out b hb; exact this))
            have hsw : wr.drew.heap.size = wr.heap.size := rfl
            rw [hsw] at HC
            clear hfs hf hlt' hsw
            cases hx : amongF (ns.take k) ns[k] with
            | true =>
              rw [hx] at HC
              have HY := hid (HX.out.trans (onceB_bad hlt hx))
              clear hx
              go_wp2_with fail
              go_region_with (go_at_call 17; refine HC.out.mono ?_; rintro e w5 ⟨rfl, hw⟩; have HW5 := hid hw; clear hw)
              all_goals go_wp2_with fail
              all_goals go_ret
              all_goals exact ⟨ret_bool HY.out.symm, HDone.out _ (HBa.out.drew.trans (HW5.out.mono HBa.out.size))⟩
            | false =>
              rw [hx] at HC
              have HXk := hid hx
              clear hx
              go_wp2_with fail
              go_region_with (go_at_call 17; refine HC.out.mono ?_; rintro e w5 ⟨rfl, hw⟩; have HW5 := hid hw; clear hw)
              all_goals go_wp2_with fail
              all_goals
                refine ⟨⟨k + 1, by omega, by go_num, HB.out.drew.trans (HW5.out.mono HB.out.size), fun j hj hjk => ?_⟩, by simp [intOf]; omega⟩
                by_cases e : j = k
                · subst e; exact HXk.out
                · exact HN.out j hj (by omega)
          · go_wp2_with fail
            go_ret
            exact ⟨ret_bool (HX.out.trans (onceB_good fun j hj => HN.out j hj (by omega))).symm, HDone.out _ HBa.out⟩
end Go.Proofs.YthlacjabelpehaaGreatDoor

namespace Go.Proofs.YthlacjabelpehaaGreatDoor
open Go.RowKit Go.Siskin

/- ### The program's -/

theorem mid_list (s : ByteArray) : List.take (s.size - 1 - 1) s.data.toList.tail = (s.data.toList.drop 1).dropLast := by
  rw [List.dropLast_eq_take, List.drop_one, List.length_tail, show s.data.toList.length = s.size from by simp]

set_option maxHeartbeats 4000000 in
theorem isStringText_any (s : ByteArray) (w : World) (hs : s.size ≤ maxLen) :
    Calls Tryz.prog 77 #[.string s] w fun e w' => e = .returned (.bool (stringB s.data.toList)) ∧ w' = w := by
  have hs0 := hs
  unfold maxLen at hs
  by_cases h1 : s.size < 2
  · have HS : Hid (stringB s.data.toList = false) := string_short s h1
    go_enter Tryz.func77, Tryz.ntmps77
    go_wp2_with fail
    go_ret
    exact ⟨ret_bool HS.out.symm, rfl⟩
  have hl : s.data.toList.length = s.size := by simp
  by_cases h2 : ((s[0]'(by omega)).toNat : Int) = 34
  · by_cases h3 : ((s[s.size - 1]'(by omega)).toNat : Int) = 34
    · have HS : Hid ((fromB 32 s.data.toList && !(List.take (s.size - 1 - 1) s.data.toList.tail).contains 34) = stringB s.data.toList) := by
        show _ = _
        rw [mid_list]
        refine string_two _ (by omega) ?_ ?_
        · rw [head_size s (by omega)]; exact congrArg some (UInt8.toNat_inj.1 (by show _ = 34; omega))
        · rw [last_size s (by omega)]; exact congrArg some (UInt8.toNat_inj.1 (by show _ = 34; omega))
      cases h4 : fromB 32 s.data.toList with
      | false =>
        go_enter Tryz.func77, Tryz.ntmps77
        go_wp2_with (go_at_call 60; refine (hasBytesFrom_any 32 _ _ hs0).mono ?_; rintro e w' ⟨rfl, hw⟩; rw [hw]; clear hw w')
        go_ret
        exact ⟨ret_bool (by rw [← HS.out, h4]; rfl), rfl⟩
      | true =>
        go_enter Tryz.func77, Tryz.ntmps77
        go_wp2_with (first
          | (go_at_call 60; refine (hasBytesFrom_any 32 _ _ hs0).mono ?_; rintro e w' ⟨rfl, hw⟩; rw [hw]; clear hw w')
          | (go_at_call 85; refine (Tryz.strings_Contains_one _ _ _).mono ?_; rintro e w' ⟨rfl, hw⟩; rw [hw]; clear hw w'))
        go_ret
        exact ⟨ret_bool (by rw [← HS.out, h4, Lib.contains_iff_indexByte]; rfl), rfl⟩
    · have HS : Hid (stringB s.data.toList = false) := by
        show _ = _
        rw [string_parts s (by omega), decide_eq_false h3]; simp
      have h9 : (((s[s.size - 1]'(by omega)).toNat : Int) != 34) = true := by simpa using h3
      go_enter Tryz.func77, Tryz.ntmps77
      go_wp2_with fail
      go_ret
      exact ⟨ret_bool HS.out.symm, rfl⟩
  · have HS : Hid (stringB s.data.toList = false) := by
      show _ = _
      rw [string_parts s (by omega), decide_eq_false h2]; rfl
    have h9 : (((s[0]'(by omega)).toNat : Int) != 34) = true := by simpa using h2
    go_enter Tryz.func77, Tryz.ntmps77
    go_wp2_with fail
    go_ret
    exact ⟨ret_bool HS.out.symm, rfl⟩

theorem trim_minus (l : List UInt8) : Lib.trimPrefix l [45] = (if l.head? = some 45 then l.drop 1 else l) := by
  unfold Lib.trimPrefix Lib.hasPrefix
  cases l with
  | nil => simp
  | cons a r =>
    by_cases h : a = 45
    · subst h; simp
    · simp [h]; intro e; exact absurd e.symm h

/-- An atom that is not too long. -/
def atom40 (l : List UInt8) : Bool := decide (l.length ≤ 40) && atomB l

set_option maxHeartbeats 4000000 in
theorem isAtomText_any (s : ByteArray) (w : World) (hs : s.size ≤ maxLen) :
    Calls Tryz.prog 57 #[.string s] w fun e w' => e = .returned (.bool (atom40 s.data.toList)) ∧ w' = w := by
  have hs0 := hs
  have HT : Hid (atom40 s.data.toList = (decide (s.size ≤ 40) && (s.toList == [35, 116] || s.toList == [35, 102] || digitsB (Lib.trimPrefix s.data.toList [45]) || stringB s.data.toList))) := by
    show _ = _
    rw [tl_beq, tl_beq, trim_minus, digits_trim]
    unfold atom40 atomB
    rw [show s.data.toList.length = s.size from by simp]
    simp only [Bool.or_assoc]
  unfold maxLen at hs
  by_cases h0 : 40 < s.size
  · go_enter Tryz.func57, Tryz.ntmps57
    go_wp2_with fail
    go_ret
    exact ⟨ret_bool (by rw [HT.out, decide_eq_false (by omega)]; rfl), rfl⟩
  have h0' : (s.size : Int) ≤ 40 := by omega
  have HT' : Hid (atom40 s.data.toList = ((s.toList == [35, 116] || s.toList == [35, 102] || digitsB (Lib.trimPrefix s.data.toList [45]) || stringB s.data.toList))) := by
    show _ = _
    rw [HT.out, decide_eq_true (by omega), Bool.true_and]
  clear HT h0
  have hs2 : (⟨(Lib.trimPrefix s.data.toList [45]).toArray⟩ : ByteArray).size ≤ maxLen := by
    rw [trim_minus]
    show ((if s.data.toList.head? = some 45 then s.data.toList.drop 1 else s.data.toList).toArray).size ≤ maxLen
    have hl : s.data.toList.length = s.size := by simp
    split
    · rw [List.size_toArray, List.length_drop, hl]; omega
    · rw [List.size_toArray, hl]; omega
  cases h1 : (s.toList == [35, 116]) with
  | true =>
    go_enter Tryz.func57, Tryz.ntmps57
    go_wp2_with fail
    go_ret
    exact ⟨ret_bool (by rw [HT'.out, h1]; rfl), rfl⟩
  | false =>
  cases h2 : (s.toList == [35, 102]) with
  | true =>
    go_enter Tryz.func57, Tryz.ntmps57
    go_wp2_with fail
    go_ret
    exact ⟨ret_bool (by rw [HT'.out, h2]; simp), rfl⟩
  | false =>
  cases h3 : digitsB (Lib.trimPrefix s.data.toList [45]) with
  | true =>
    go_enter Tryz.func57, Tryz.ntmps57
    go_wp2_with (first
      | (go_at_call 76; refine (Tryz.strings_TrimPrefix _ _ _).mono ?_; rintro e w' ⟨rfl, hw⟩; rw [hw]; clear hw w')
      | (go_at_call 75; refine (isDigits_any _ _ hs2).mono ?_; rintro e w' ⟨rfl, hw⟩; rw [hw]; clear hw w'))
    go_ret
    exact ⟨ret_bool (by rw [HT'.out, h3]; simp), rfl⟩
  | false =>
    go_enter Tryz.func57, Tryz.ntmps57
    go_wp2_with (first
      | (go_at_call 76; refine (Tryz.strings_TrimPrefix _ _ _).mono ?_; rintro e w' ⟨rfl, hw⟩; rw [hw]; clear hw w')
      | (go_at_call 75; refine (isDigits_any _ _ hs2).mono ?_; rintro e w' ⟨rfl, hw⟩; rw [hw]; clear hw w')
      | (go_at_call 77; refine (isStringText_any _ _ hs0).mono ?_; rintro e w' ⟨rfl, hw⟩; rw [hw]; clear hw w'))
    go_ret
    exact ⟨ret_bool (by rw [HT'.out, h1, h2, h3]; rfl), rfl⟩


end Go.Proofs.YthlacjabelpehaaGreatDoor

namespace Go.Proofs.YthlacjabelpehaaGreatDoor
open Go.RowKit Go.Siskin

/-- An identifier that is not too long. -/
def id40 (l : List UInt8) : Bool := decide (l.length ≤ 40) && idB l

theorem any_contains (l m : List UInt8) : Lib.containsAny l m = l.any fun c => m.contains c := by
  unfold Lib.containsAny
  induction l with
  | nil => simp [Lib.indexAny]
  | cons b r ih =>
    rw [List.any_cons, ← ih]
    have h := Lib.indexAny_ge m r
    rw [show Lib.indexAny (b :: r) m = (if m.contains b then 0 else if Lib.indexAny r m == -1 then -1 else Lib.indexAny r m + 1) from rfl]
    by_cases hc : m.contains b = true
    · rw [if_pos hc, hc]; simp
    · rw [if_neg hc]
      have hc' : m.contains b = false := by simpa using hc
      rw [hc', Bool.false_or]
      by_cases h1 : Lib.indexAny r m = -1
      · rw [h1]; simp
      · rw [if_neg (by simpa using h1)]
        rw [decide_eq_true (by omega), decide_eq_true (by omega)]

theorem from_ascii (s : ByteArray) (h : fromB 33 s.data.toList = true) : ∀ (j : Nat) b, s.data.toList[j]? = some b → b.toNat < 128 := by
  intro j b hb
  have := List.all_eq_true.1 h b (List.mem_of_getElem? hb)
  simp at this; omega

theorem marks_ascii : ∀ (j : Nat) b, (⟨#[40, 41, 34, 39, 126]⟩ : ByteArray).data.toList[j]? = some b → b.toNat < 128 := by
  intro j b hb
  have : ([40, 41, 34, 39, 126] : List UInt8).all (fun b => decide (b.toNat < 128)) = true := by decide
  exact of_decide_eq_true (List.all_eq_true.1 this b (List.mem_of_getElem? hb))

set_option maxHeartbeats 4000000 in
theorem isIdText_any (s : ByteArray) (w : World) (hs : s.size ≤ maxLen) :
    Calls Tryz.prog 47 #[.string s] w fun e w' => e = .returned (.bool (id40 s.data.toList)) ∧ Below w.heap.size w w' := by
  have hs0 := hs
  have hl : s.data.toList.length = s.size := by simp
  have HT : Hid (id40 s.data.toList = (decide (s.size ≤ 40) && (!(s.toList.isEmpty || s.toList == [46] || atomB s.data.toList || s.data.toList.head? == some 35) && s.data.toList.all wordB))) := by
    show _ = _
    rw [tl_beq, tl_empty]; unfold id40; rw [hl]; rfl
  unfold maxLen at hs
  cases h0 : s.toList.isEmpty with
  | true =>
    go_enter Tryz.func47, Tryz.ntmps47
    go_wp2_with fail
    go_ret
    exact ⟨ret_bool (by rw [HT.out, h0]; simp), Below.refl _ _⟩
  | false =>
  have h9 : 0 < s.size := by
    by_cases e : s.size = 0
    · rw [tl_empty, empty_size, decide_eq_true e] at h0; cases h0
    · omega
  by_cases h40 : 40 < s.size
  · go_enter Tryz.func47, Tryz.ntmps47
    go_wp2_with fail
    go_ret
    exact ⟨ret_bool (by rw [HT.out, decide_eq_false (by omega)]; rfl), Below.refl _ _⟩
  have h40' : (s.size : Int) ≤ 40 := by omega
  cases h1 : (s.toList == [46]) with
  | true =>
    go_enter Tryz.func47, Tryz.ntmps47
    go_wp2_with fail
    go_ret
    exact ⟨ret_bool (by rw [HT.out, h1]; simp), Below.refl _ _⟩
  | false =>
  by_cases h3 : (s[0].toNat : Int) = 35
  · have HH : Hid ((s.data.toList.head? == some 35) = true) := by
      show _ = _
      rw [head_size s h9]; exact (u8_some s[0] 35 (by decide)).trans (decide_eq_true h3)
    go_enter Tryz.func47, Tryz.ntmps47
    go_wp2_with fail
    go_ret
    exact ⟨ret_bool (by rw [HT.out, HH.out]; simp), Below.refl _ _⟩
  have h3' : ((s[0].toNat : Int) == 35) = false := by simpa using h3
  have HH : Hid ((s.data.toList.head? == some 35) = false) := by
    show _ = _
    rw [head_size s h9]; exact (u8_some s[0] 35 (by decide)).trans (decide_eq_false h3)
  cases h2 : atom40 s.data.toList with
  | true =>
    have HA : Hid (atomB s.data.toList = true) := by
      show _ = _
      unfold atom40 at h2; simp at h2; exact h2.2
    go_enter Tryz.func47, Tryz.ntmps47
    go_wp2_with (go_at_call 57; refine (isAtomText_any _ _ hs0).mono ?_; rintro e w' ⟨rfl, hw⟩; rw [hw]; clear hw w')
    go_ret
    exact ⟨ret_bool (by rw [HT.out, HA.out]; simp), Below.refl _ _⟩
  | false =>
  have HA : Hid (atomB s.data.toList = false) := by
    show _ = _
    unfold atom40 at h2; rw [hl, decide_eq_true (by omega)] at h2; simpa using h2
  have HF : Hid (id40 s.data.toList = (fromB 33 s.data.toList && !Lib.containsAny s.data.toList [40, 41, 34, 39, 126])) := by
    show _ = _
    rw [HT.out, h0, h1, HA.out, HH.out, any_contains, words_two, decide_eq_true (by omega)]; rfl
  clear HT HA HH
  cases h4 : fromB 33 s.data.toList with
  | false =>
    go_enter Tryz.func47, Tryz.ntmps47
    go_wp2_with (first
      | (go_at_call 57; refine (isAtomText_any _ _ hs0).mono ?_; rintro e w' ⟨rfl, hw⟩; rw [hw]; clear hw w')
      | (go_at_call 60; refine (hasBytesFrom_any 33 _ _ hs0).mono ?_; rintro e w' ⟨rfl, hw⟩; rw [hw]; clear hw w'))
    go_ret
    exact ⟨ret_bool (by rw [HF.out, h4]; rfl), Below.refl _ _⟩
  | true =>
    have ha := from_ascii s h4
    have HAS : Hid _ := ha
    clear ha
    go_enter Tryz.func47, Tryz.ntmps47
    go_wp2_with (first
      | (go_at_call 57; refine (isAtomText_any _ _ hs0).mono ?_; rintro e w' ⟨rfl, hw⟩; rw [hw]; clear hw w')
      | (go_at_call 60; refine (hasBytesFrom_any 33 _ _ hs0).mono ?_; rintro e w' ⟨rfl, hw⟩; rw [hw]; clear hw w')
      | (go_at_call 61; refine (Tryz.strings_ContainsAny_laid _ _ _ (by omega) (by decide) HAS.out marks_ascii).mono ?_; rintro e w' ⟨rfl, hw⟩))
    go_ret
    exact ⟨ret_bool (by rw [HF.out, h4]; rfl), hw⟩
end Go.Proofs.YthlacjabelpehaaGreatDoor

namespace Go.Proofs.YthlacjabelpehaaGreatDoor
open Go.RowKit Go.Siskin

theorem belowN' {B : Nat} {a w : World} (h : Below B a w) (n : Nat) : Below B a (w.drewN n) := h.trans ⟨rfl, rfl, rfl, Nat.le_refl _, fun _ _ => rfl⟩

theorem len_size (s : ByteArray) : s.data.toList.length = s.size := by simp
theorem idF_1 {f : Fm} (h : ¬ id40 f.text.data.toList = true) : false = idFormB f := by
  unfold idFormB; unfold id40 at h; rw [len_size] at h
  cases h1 : idB f.text.data.toList <;> cases h2 : decide (f.text.size ≤ 40) <;> simp_all
theorem idF_3 {f : Fm} (h : f.frm < 0) : false = idFormB f := by
  unfold idFormB; rw [decide_eq_false (p := 0 ≤ f.frm) (by omega)]; simp
theorem idF_4 {f : Fm} (h : ¬ scopesB f.scopes = true) : false = idFormB f := by
  unfold idFormB; rw [show scopesB f.scopes = false from by simpa using h]; simp
theorem idF_5 {f : Fm} (h : 0 < f.kids.length) : false = idFormB f := by
  unfold idFormB; rw [decide_eq_false (p := f.kids.length = 0) (by omega)]; simp
theorem idF_0 {f : Fm} (h1 : id40 f.text.data.toList = true) (h2 : scopesB f.scopes = true) (h3 : 0 ≤ f.frm) (h4 : f.kids.length = 0) : idFormB f = true := by
  unfold idFormB; unfold id40 at h1; rw [len_size, Bool.and_eq_true] at h1
  rw [h1.1, h1.2, h2, decide_eq_true h3, decide_eq_true h4]; rfl
theorem atF_1 {f : Fm} (h : ¬ atom40 f.text.data.toList = true) : false = atomFormB f := by
  unfold atomFormB; unfold atom40 at h; rw [len_size] at h
  cases h1 : atomB f.text.data.toList <;> cases h2 : decide (f.text.size ≤ 40) <;> simp_all
theorem atF_2 {f : Fm} (h : 0 < f.scopes.length) : false = atomFormB f := by
  unfold atomFormB; rw [decide_eq_false (p := f.scopes.length + f.kids.length = 0) (by omega)]; simp
theorem atF_3 {f : Fm} (h : ¬ f.frm = 0) : false = atomFormB f := by
  unfold atomFormB; rw [decide_eq_false (p := f.frm = 0) h]; simp
theorem atF_4 {f : Fm} (h : 0 < f.kids.length) : false = atomFormB f := by
  unfold atomFormB; rw [decide_eq_false (p := f.scopes.length + f.kids.length = 0) (by omega)]; simp
theorem atF_0 {f : Fm} (h1 : atom40 f.text.data.toList = true) (h2 : f.scopes.length = 0) (h3 : f.frm = 0) (h4 : f.kids.length = 0) : atomFormB f = true := by
  unfold atomFormB; unfold atom40 at h1; rw [len_size, Bool.and_eq_true] at h1
  rw [h1.1, h1.2, decide_eq_true h3, decide_eq_true (by omega)]; rfl

set_option maxHeartbeats 1000000 in
theorem openAtom_any (f : Fm) (B : Nat → Prop) (w : World) (c0 c1 c2 c3 c4 : Value) (hA : FormAt B w f c0 c1 c2 c3 c4) :
    Calls Tryz.prog 44 #[.agg #[c0, c1, c2, c3, c4]] w fun e w' => (atomFormB f = true → e = .returned (.tuple #[.iface 85 (.agg #[c1]), .bool true])) ∧ (atomFormB f = false → e = .returned (.tuple #[.nilIface, .bool false])) ∧ Below w.heap.size w w' := by
  obtain ⟨rfl, rfl, ht, h2, rfl, h4⟩ := (formAt_iff _ _ _ _ _ _ _ _).1 hA
  obtain ⟨a2, k2, rfl, hl2, -⟩ := h2
  obtain ⟨a4, k4, rfl, hl4, -⟩ := h4
  have Hht := hid ht
  unfold maxLen at hl2 hl4 ht
  clear hA
  cases e1 : atom40 f.text.data.toList with
  | false =>
    go_enter Tryz.func44, Tryz.ntmps44
    go_wp2_with (go_at_call 57; refine (isAtomText_any _ _ Hht.out).mono ?_; rintro e w' ⟨rfl, hw⟩; rw [hw]; clear hw w')
    go_ret2
    exact ⟨fun hx => absurd ((atF_1 (by rw [e1]; decide)).trans hx) (by decide), fun _ => rfl, (Below.refl _ _).alloc (Nat.le_refl _) _⟩
  | true =>
  by_cases e2 : 0 < f.scopes.length
  · have e2' : 0 < (f.scopes.length : Int) := by omega
    go_enter Tryz.func44, Tryz.ntmps44
    go_wp2_with (go_at_call 57; refine (isAtomText_any _ _ Hht.out).mono ?_; rintro e w' ⟨rfl, hw⟩; rw [hw]; clear hw w')
    go_ret2
    exact ⟨fun hx => absurd ((atF_2 e2).trans hx) (by decide), fun _ => rfl, (Below.refl _ _).alloc (Nat.le_refl _) _⟩
  have e2' : f.scopes.length = 0 := by omega
  rw [e2']
  by_cases e3 : f.frm = 0
  · rw [e3]
    by_cases e4 : 0 < f.kids.length
    · have e4' : 0 < (f.kids.length : Int) := by omega
      clear e2' e2
      go_enter Tryz.func44, Tryz.ntmps44
      go_wp2_with (go_at_call 57; refine (isAtomText_any _ _ Hht.out).mono ?_; rintro e w' ⟨rfl, hw⟩; rw [hw]; clear hw w')
      go_ret2
      exact ⟨fun hx => absurd ((atF_4 e4).trans hx) (by decide), fun _ => rfl, (Below.refl _ _).alloc (Nat.le_refl _) _⟩
    · have e4' : f.kids.length = 0 := by omega
      rw [e4']
      have HY := hid (atF_0 e1 e2' e3 e4')
      clear e2' e2 e3 e4 e4'
      go_enter Tryz.func44, Tryz.ntmps44
      go_wp2_with (go_at_call 57; refine (isAtomText_any _ _ Hht.out).mono ?_; rintro e w' ⟨rfl, hw⟩; rw [hw]; clear hw w')
      go_ret2
      exact ⟨fun _ => rfl, fun hx => absurd (hx.symm.trans HY.out) (by decide), (Below.refl _ _).alloc (Nat.le_refl _) _⟩
  · have e3' : (f.frm != 0) = true := by simpa using e3
    clear e2' e2
    go_enter Tryz.func44, Tryz.ntmps44
    go_wp2_with (go_at_call 57; refine (isAtomText_any _ _ Hht.out).mono ?_; rintro e w' ⟨rfl, hw⟩; rw [hw]; clear hw w')
    go_ret2
    exact ⟨fun hx => absurd ((atF_3 e3).trans hx) (by decide), fun _ => rfl, (Below.refl _ _).alloc (Nat.le_refl _) _⟩

set_option maxHeartbeats 1000000 in
theorem openId_any (f : Fm) (B : Nat → Prop) (w : World) (c0 c1 c2 c3 c4 : Value) (hA : FormAt B w f c0 c1 c2 c3 c4) (hB : ∀ b, B b → b < w.heap.size) (hs : f.sort = 1) :
    Calls Tryz.prog 37 #[.agg #[c0, c1, c2, c3, c4]] w fun e w' => (idFormB f = true → e = .returned (.tuple #[.agg #[c1, c2, c3], .bool true])) ∧ (idFormB f = false → e = .returned (.tuple #[.agg #[.string ⟨#[]⟩, .slice none 0 0, .int .i64 0], .bool false])) ∧ Below w.heap.size w w' := by
  have HA := hid hA
  obtain ⟨rfl, rfl, ht, h2, rfl, h4⟩ := (formAt_iff _ _ _ _ _ _ _ _).1 hA
  have H2 := hid h2
  have HR := hid hB
  obtain ⟨a2, k2, rfl, hl2, -⟩ := h2
  obtain ⟨a4, k4, rfl, hl4, -⟩ := h4
  have Hht := hid ht
  unfold maxLen at hl2 hl4 ht
  rw [hs] at HA ⊢
  clear hA hB
  go_enter Tryz.func37, Tryz.ntmps37
  go_wp2_with fail
  refine (isIdText_any _ _ Hht.out).mono ?_
  rintro e w1 ⟨rfl, hw⟩
  obtain ⟨hc1, hf1⟩ := bcell hw
  have hz1 : w.heap.size + 1 < w1.heap.size := by have := hw.size; simp at this; omega
  have HW := hid hw
  have HT := hid ((((Below.refl w.heap.size w).alloc (Nat.le_refl _) _).alloc (by simp) _).trans (hw.mono (by simp; omega)))
  clear hw
  go_wp2_with (go_at_call 48; refine (areScopes_any B _ f.scopes _ (H2.out.keep ((((SameOn.refl _ _).alloc HR.out _).alloc (fun b hb => by have := HR.out b hb; simp; omega) _).below HW.out (fun b hb => by have := HR.out b hb; simp; omega)))).mono ?_; rintro e w' ⟨rfl, m, rfl⟩)
  · refine bodyPost_ret (v := .tuple #[.agg #[.string ⟨#[]⟩, .slice none 0 0, .int .i64 0], .bool false]) (by simp [results, Tryz.results37, go_sem, hc1]) rfl ?_
    exact ⟨fun hx => absurd ((idF_5 (by omega)).trans hx) (by decide), fun _ => rfl, ((((belowN' HT.out m).setCell (by simp) _).setCell (by simp) _).setCell (by simp) _)⟩
  · refine bodyPost_ret (v := .tuple #[.agg #[.string f.text, .slice a2 f.scopes.length k2, .int .i64 f.frm], .bool true]) (by simp [results, Tryz.results37, go_sem, hc1]) rfl ?_
    exact ⟨fun _ => rfl, fun hx => absurd (hx.symm.trans (idF_0 ‹_› ‹_› (by omega) (by omega))) (by decide), ((((belowN' HT.out m).setCell (by simp) _).setCell (by simp) _).setCell (by simp) _)⟩
  · refine bodyPost_ret (v := .tuple #[.agg #[.string ⟨#[]⟩, .slice none 0 0, .int .i64 0], .bool false]) (by simp [results, Tryz.results37, go_sem, hc1]) rfl ?_
    exact ⟨fun hx => absurd ((idF_3 ‹_›).trans hx) (by decide), fun _ => rfl, ((((belowN' HT.out m).setCell (by simp) _).setCell (by simp) _).setCell (by simp) _)⟩
  · refine bodyPost_ret (v := .tuple #[.agg #[.string ⟨#[]⟩, .slice none 0 0, .int .i64 0], .bool false]) (by simp [results, Tryz.results37, go_sem, hc1]) rfl ?_
    exact ⟨fun hx => absurd ((idF_4 ‹_›).trans hx) (by decide), fun _ => rfl, ((((belowN' HT.out m).setCell (by simp) _).setCell (by simp) _).setCell (by simp) _)⟩
  · refine bodyPost_ret (v := .tuple #[.agg #[.string ⟨#[]⟩, .slice none 0 0, .int .i64 0], .bool false]) (by simp [results, Tryz.results37, go_sem, hc1]) rfl ?_
    exact ⟨fun hx => absurd ((idF_1 ‹_›).trans hx) (by decide), fun _ => rfl, (((HT.out.setCell (by simp) _).setCell (by simp) _).setCell (by simp) _)⟩

end Go.Proofs.YthlacjabelpehaaGreatDoor

namespace Go.Proofs.YthlacjabelpehaaGreatDoor
open Go.RowKit Go.Siskin

set_option maxRecDepth 20000 in
set_option maxHeartbeats 1000000 in
theorem openId_other (f : Fm) (B : Nat → Prop) (w : World) (c0 c1 c2 c3 c4 : Value) (hA : FormAt B w f c0 c1 c2 c3 c4) (hs : f.sort ≠ 1) :
    Calls Tryz.prog 37 #[.agg #[c0, c1, c2, c3, c4]] w fun e w' => e = .returned (.tuple #[.agg #[.string ⟨#[]⟩, .slice none 0 0, .int .i64 0], .bool false]) ∧ Below w.heap.size w w' := by
  obtain ⟨rfl, rfl, ht, h2, rfl, h4⟩ := (formAt_iff _ _ _ _ _ _ _ _).1 hA
  obtain ⟨a2, k2, rfl, -⟩ := h2
  obtain ⟨a4, k4, rfl, -⟩ := h4
  have hn : (f.sort != 1) = true := by simpa using hs
  clear hA hs
  go_enter Tryz.func37, Tryz.ntmps37
  go_wp2_with fail
  refine bodyPost_ret (v := .tuple #[.agg #[.string ⟨#[]⟩, .slice none 0 0, .int .i64 0], .bool false]) (by simp [results, Tryz.results37, go_sem]) rfl ?_
  refine ⟨rfl, ?_⟩
  exact ((Below.refl _ _).alloc (Nat.le_refl _) _).alloc (by simp) _

/-- Neither dots nor a blank. -/
def ordT (t : ByteArray) : Bool := !(t.toList == [46, 46, 46]) && !(t.toList == [95])

set_option maxRecDepth 20000 in
set_option maxHeartbeats 1000000 in
theorem isOrdinary_any (t : ByteArray) (c2 c3 : Value) (w : World) (h2 : ∃ a n k, c2 = .slice a n k) (h3 : ∃ i, c3 = .int .i64 i) :
    Calls Tryz.prog 38 #[.agg #[.string t, c2, c3]] w fun e w' => e = .returned (.bool (ordT t)) ∧ Below w.heap.size w w' := by
  obtain ⟨a, n, k, rfl⟩ := h2
  obtain ⟨i, rfl⟩ := h3
  unfold ordT
  cases h1 : (t.toList == [46, 46, 46]) <;> cases h2 : (t.toList == [95])
  all_goals
    have h1n : (t.toList != [46, 46, 46]) = !(t.toList == [46, 46, 46]) := rfl
    have h2n : (t.toList != [95]) = !(t.toList == [95]) := rfl
    rw [h1] at h1n
    rw [h2] at h2n
    simp only [Bool.not_true, Bool.not_false] at h1n h2n
    go_enter Tryz.func38, Tryz.ntmps38
    go_wp2_with fail
    go_ret
    exact ⟨rfl, (Below.refl _ _).alloc (Nat.le_refl _) _⟩

/-- What the program asks of a literal, the model asks too. -/
theorem idB_prog (f : Fm) (hs : f.sort = 1) : idBY f = (idFormB f && ordT f.text) := by
  have h1 : (f.sort == 1) = true := by simpa using hs
  unfold idBY formOk dotsF blankF ordT
  rw [okB_eq, h1]
  unfold headB
  rw [if_pos hs]
  cases h : idFormB f with
  | false => simp
  | true =>
    have hk : f.kids = [] := by
      unfold idFormB at h
      simp only [Bool.and_eq_true, decide_eq_true_eq] at h
      exact List.eq_nil_of_length_eq_zero h.2
    have hz : f.sz ≤ 1500 := by rw [Fm.sz_kids, hk]; decide
    have ht : tailB f = true := by unfold tailB; simp [hs, hk]
    rw [hk, oksB_nil, ht, decide_eq_true hz]
    simp
theorem idB_other (f : Fm) (hs : f.sort ≠ 1) : idBY f = false := by
  have h1 : (f.sort == 1) = false := by simpa using hs
  unfold idBY; rw [h1]; simp
end Go.Proofs.YthlacjabelpehaaGreatDoor

namespace Go.Proofs.YthlacjabelpehaaGreatDoor
open Go.RowKit Go.Siskin

/-- Cells, three for each identifier. -/
def ICells (B : Nat → Prop) (w : World) (cs : List Value) (ks : List Fm) : Prop := ∀ (i : Nat) (hi : i < ks.length),
  ∃ c2, cs[i * 3]? = some (.string ks[i].text) ∧ cs[i * 3 + 1]? = some c2 ∧ cs[i * 3 + 2]? = some (.int .i64 ks[i].frm) ∧ IntsAt B w c2 ks[i].scopes
theorem ICells.keep {B : Nat → Prop} {w w' : World} {cs : List Value} {ks : List Fm} (h : ICells B w cs ks) (hb : SameOn B w w') : ICells B w' cs ks := fun i hi => by
  obtain ⟨c2, e0, e1, e2, e3⟩ := h i hi
  exact ⟨c2, e0, e1, e2, e3.keep hb⟩
/-- Identifiers in a row of their own; what they lead to in B. -/
def IRow (B : Nat → Prop) (w : World) (base : Nat) (v : Value) (ks : List Fm) : Prop :=
  ∃ cs, w.ownsRow base 73 3 v ks.length cs ∧ ICells B w cs ks
theorem IRow.keep {B : Nat → Prop} {w w' : World} {base : Nat} {v : Value} {ks : List Fm} (h : IRow B w base v ks) (hb : Below w.heap.size w w') (hB : ∀ b, B b → b < w.heap.size) : IRow B w' base v ks := by
  obtain ⟨cs, h1, h2⟩ := h
  have hg : w.grownBy w' none := ⟨hb.os, hb.tape, hb.output, hb.size, fun i hi _ => hb.block i hi⟩
  exact ⟨cs, h1.kept hg (by cases v.ownBlock <;> simp), h2.keep (hb.on hB)⟩
theorem IRow.snoc {B : Nat → Prop} {w w' : World} {base : Nat} {v v' : Value} {ks : List Fm} {f : Fm} {cs : List Value} {c2 : Value} (hB : ∀ b, B b → b < base) (hs : base ≤ w.heap.size)
    (r1 : w.ownsRow base 73 3 v ks.length cs) (q1 : ICells B w cs ks) (h2 : IntsAt B w c2 f.scopes) (hg : w.grownBy w' v.ownBlock)
    (hown : w'.ownsRow base 73 3 v' (ks.length + 1) (cs ++ [.string f.text, c2, .int .i64 f.frm])) : IRow B w' base v' (ks ++ [f]) ∧ Below base w w' := by
  have hbl : Below base w w' := ⟨hg.os, hg.tape, hg.output, hg.size, fun i hi => hg.block i (by omega) fun e => by
    have := (r1.lt i e.symm).1
    omega⟩
  refine ⟨⟨_, by rw [List.length_append]; exact hown, fun i hi => ?_⟩, hbl⟩
  have hl := r1.1
  rw [List.length_append, List.length_singleton] at hi
  by_cases e : i < ks.length
  · obtain ⟨c, e0, e1, e2, e3⟩ := q1 i e
    rw [List.getElem_append_left e]
    refine ⟨c, ?_, ?_, ?_, e3.keep (hbl.on hB)⟩
    all_goals (rw [List.getElem?_append_left (by omega)]; assumption)
  · have ei : i = ks.length := by omega
    subst ei
    rw [List.getElem_append_right (by omega)]
    refine ⟨c2, ?_, ?_, ?_, by simpa using h2.keep (hbl.on hB)⟩
    · rw [List.getElem?_append_right (by omega), hl]; simp
    · rw [List.getElem?_append_right (by omega), hl, show ks.length * 3 + 1 - ks.length * 3 = 1 by omega]; rfl
    · rw [List.getElem?_append_right (by omega), hl, show ks.length * 3 + 2 - ks.length * 3 = 2 by omega]; simp

theorem yown3 {w : World} {g : Nat} {e : TypeId} {c0 c1 c2 : Value} (h : Own w g e #[c0, c1, c2]) :
    w.cell? ⟨g, 0, none⟩ = some c0 ∧ w.cell? ⟨g, 1, none⟩ = some c1 ∧ w.cell? ⟨g, 2, none⟩ = some c2 :=
  ⟨(h.cell 0).trans (by simp), (h.cell 1).trans (by simp), (h.cell 2).trans (by simp)⟩
theorem Tryz.infoIdY : (Tryz.prog.info? 73).map (fun i => (i.zero, i.size, i.bytes)) = some (some (.agg #[.string ⟨#[]⟩, .slice none 0 0, .int .i64 0]), 3, 48) := by kernel_rfl

set_option maxRecDepth 20000 in
set_option maxHeartbeats 1000000 in
theorem openLiterals_any (ls : List Fm) (B : Nat → Prop) (w : World) (v : Value) (hv : FormsAt B w v ls) (hB : ∀ b, B b → b < w.heap.size) (hn : ls.length ≤ 1048576) :
    Calls Tryz.prog 28 #[v] w fun e w' => ∃ u, e = .returned (.tuple #[u, .bool (idsB ls)]) ∧ (idsB ls = true → IRow B w' w.heap.size u ls) ∧ Below w.heap.size w w' := by
  obtain ⟨a, ca, rfl, hla, ha⟩ := hv
  have HR := hid hB
  have HGet : Hid (∀ w', Below w.heap.size w w' → ∀ i (hi : i < ls.length), ∃ b o, a = some ⟨b, o, none⟩ ∧ B b ∧ ∃ e0 e1 e2 e3 e4, w'.cell? ⟨b, o + i * 5, none⟩ = some e0 ∧ w'.cell? ⟨b, o + i * 5 + 1, none⟩ = some e1 ∧ w'.cell? ⟨b, o + i * 5 + 2, none⟩ = some e2 ∧ w'.cell? ⟨b, o + i * 5 + 3, none⟩ = some e3 ∧ w'.cell? ⟨b, o + i * 5 + 4, none⟩ = some e4 ∧ FormAt B w' ls[i] e0 e1 e2 e3 e4) := fun w' hb i hi => by
    rcases ha with h | ⟨b, o, e1, e2, e3⟩
    · rw [h] at hi; simp at hi
    · obtain ⟨k0, k1, k2, k3, k4, q0, q1, q2, q3, q4, q5⟩ := RowAt.get ls (RowAt.keep (hb.on HR.out) e2 ls e3) i hi
      exact ⟨b, o, e1, e2, k0, k1, k2, k3, k4, q0, q1, q2, q3, q4, q5⟩
  obtain ⟨i0, hi, hz0, hz1, hz2⟩ := info_parts Tryz.infoIdY
  have Hi := hid hi
  have Hz0 := hid hz0
  have Hz1 := hid hz1
  have Hz2 := hid hz2
  unfold maxLen at hla
  clear hB ha hi hz0 hz1 hz2
  go_enter Tryz.func28, Tryz.ntmps28
  go_wp2_with fail
  go_loopw [4, 11] (fun u i wr => ∃ k : Nat, k ≤ ls.length ∧ i = .int .i64 k ∧ Hid (IRow B wr w.heap.size u (ls.take k)) ∧ Hid (Below w.heap.size w wr) ∧ Hid (∀ j (hj : j < ls.length), j < k → idBY ls[j] = true)) (fun _ i _ => ls.length - (intOf i).toNat)
  case atStart => exact ⟨0, Nat.zero_le _, rfl, ⟨[], World.ownsRow_nil _ _ _ _, fun i hi => absurd hi (by simp)⟩, Below.refl _ _, fun j _ hj => absurd hj (by omega)⟩
  case round =>
    obtain ⟨k, hk, rfl, HQ, HB, HN⟩ := hrel
    by_cases hlt : k < ls.length
    · obtain ⟨b', o', hab, hb', e0, e1, e2, e3, e4, g0, g1, g2, g3, g4, hf⟩ := HGet.out _ HB.out k hlt
      subst hab
      have HF := hid hf
      have hsz := HB.out.size
      have HBs : Hid (∀ b, B b → b < wr.heap.size) := fun b h => by have h1 := HR.out b h; omega
      have HFo := hid (fun o : Obj => FormAt.keep ((SameOn.refl _ _).alloc HBs.out o) _ hf)
      cases hx : (ls[k].sort == 1 && idFormB ls[k]) with
      | false =>
        have HY : Hid (false = idsB ls) := idsB_bad hlt (by
          by_cases h1 : ls[k].sort = 1
          · rw [idB_prog _ h1]
            have h2 : (ls[k].sort == 1) = true := by simpa using h1
            rw [h2] at hx
            rw [show idFormB ls[k] = false from by simpa using hx]; rfl
          · exact idB_other _ h1)
        have HOI : Hid (∀ o : Obj, Calls Tryz.prog 37 #[.agg #[e0, e1, e2, e3, e4]] (wr.alloc o) fun e w' => e = .returned (.tuple #[.agg #[.string ⟨#[]⟩, .slice none 0 0, .int .i64 0], .bool false]) ∧ Below (wr.alloc o).heap.size (wr.alloc o) w') := fun o => by
          by_cases h1 : ls[k].sort = 1
          · have h2 : (ls[k].sort == 1) = true := by simpa using h1
            rw [h2] at hx
            refine (openId_any ls[k] B (wr.alloc o) _ _ _ _ _ (HFo.out o) (fun b hb => by have := HBs.out b hb; simp; omega) h1).mono ?_
            rintro e w' ⟨-, h3, h4⟩
            exact ⟨h3 (by simpa using hx), h4⟩
          · exact openId_other ls[k] B (wr.alloc o) _ _ _ _ _ (HFo.out o) h1
        obtain ⟨rfl, rfl, -, h2, rfl, h4⟩ := (formAt_iff _ _ _ _ _ _ _ _).1 hf
        obtain ⟨a2, k2, rfl, -⟩ := h2
        obtain ⟨a4, k4, rfl, -⟩ := h4
        clear hf hx
        go_wp2_with (go_at_call 37; refine (HOI.out _).mono ?_; rintro e w1 ⟨rfl, hw⟩; have HW1 := hid hw; clear hw)
        go_ret2
        refine ⟨_, by rw [← HY.out]; rfl, fun h => absurd (HY.out.trans h) (by decide), ?_⟩
        exact (((HB.out.alloc (by omega) _).trans (HW1.out.mono (by simp; omega))).alloc (by have := HW1.out.size; simp at this; omega) _)
      | true =>
        rw [Bool.and_eq_true] at hx
        have h1 : ls[k].sort = 1 := by simpa using hx.1
        have HPr := hid (idB_prog _ h1)
        rw [hx.2] at HPr
        have HOI : Hid (∀ o : Obj, Calls Tryz.prog 37 #[.agg #[e0, e1, e2, e3, e4]] (wr.alloc o) fun e w' => e = .returned (.tuple #[.agg #[e1, e2, e3], .bool true]) ∧ Below (wr.alloc o).heap.size (wr.alloc o) w') := fun o => by
          refine (openId_any ls[k] B (wr.alloc o) _ _ _ _ _ (HFo.out o) (fun b hb => by have := HBs.out b hb; simp; omega) h1).mono ?_
          rintro e w' ⟨h3, -, h4⟩
          exact ⟨h3 hx.2, h4⟩
        obtain ⟨rfl, rfl, -, h2, rfl, h4⟩ := (formAt_iff _ _ _ _ _ _ _ _).1 hf
        have H2 := hid h2
        obtain ⟨a2, k2, rfl, -⟩ := h2
        obtain ⟨a4, k4, rfl, -⟩ := h4
        have HOr := hid (fun w' : World => isOrdinary_any ls[k].text (.slice a2 ls[k].scopes.length k2) (.int .i64 ls[k].frm) w' ⟨_, _, _, rfl⟩ ⟨_, rfl⟩)
        clear hf hx h1
        cases ho : ordT ls[k].text with
        | false =>
          rw [ho] at HOr HPr
          have HY := hid (idsB_bad hlt (HPr.out.trans rfl))
          clear ho
          go_wp2_with (first
            | (go_at_call 37; refine (HOI.out _).mono ?_; rintro e w1 ⟨rfl, hw⟩; have HW1 := hid hw; clear hw)
            | (go_at_call 38; refine (HOr.out _).mono ?_; rintro e w2 ⟨rfl, hw⟩; have HW2 := hid hw; clear hw))
          go_ret2
          refine ⟨_, by rw [← HY.out]; rfl, fun h => absurd (HY.out.trans h) (by decide), ?_⟩
          have hs1 := HW1.out.size
          simp at hs1
          exact ((((HB.out.alloc (by omega) _).trans (HW1.out.mono (by simp; omega))).alloc (by omega) _).trans (HW2.out.mono (by simp; omega)))
        | true =>
          rw [ho] at HOr HPr
          clear ho
          have HT := hid (List.take_succ_eq_append_getElem hlt)
          have htl : (ls.take k).length = k := by rw [List.length_take]; omega
          have HTL := hid htl
          clear htl
          go_wp2_with (first
            | (go_at_call 37; refine (HOI.out _).mono ?_; rintro e w1 ⟨rfl, hw⟩; have HW1 := hid hw; have hs1 := hw.size; simp only [World.size_alloc] at hs1; clear hw)
            | (go_at_call 38; refine (HOr.out _).mono ?_; rintro e w2 ⟨rfl, hw⟩; have HW2 := hid hw; have hs2 := hw.size; simp only [World.size_alloc] at hs2; obtain ⟨m0, m1, m2⟩ := yown3 ((own_new w1 _ _).keep hw (by simp)); have HB2 := hid (((Below.refl wr.heap.size wr).alloc (Nat.le_refl _) _).trans (HW1.out.mono (by simp)) |>.alloc (by omega) _ |>.trans (hw.mono (by simp; omega))); obtain ⟨cs, r1, r2⟩ := HQ.out.keep HB2.out HBs.out; rw [HTL.out] at r1; have R1 := hid r1; have R2 := hid r2; clear hw r1 r2)
            | (at_builtin; refine wpList_append_own_at _ rfl _ _ 57 rfl w.heap.size 73 i0 _ 3 48 Tryz.underlying57 Hi.out Hz0.out Hz1.out Hz2.out rfl (by decide) _ k cs rfl (R1.out.alloc _) ⟨w2.heap.size, 0, none⟩ 1 1 [.string ls[k].text, .slice a2 ls[k].scopes.length k2, .int .i64 ls[k].frm] rfl rfl (World.news_of_block (cs := #[.string ls[k].text, .slice a2 ls[k].scopes.length k2, .int .i64 ls[k].frm]) (heap_alloc_new _ _)) (by simp [Value.oneCell']) (by unfold maxLen; omega) (by omega) (by simp; omega) ?_; intro v' w4 hown' hg hnil hb'))
          have hbw := (HB2.out.on HBs.out)
          have hj := IRow.snoc (B := B) (ks := ls.take k) (f := ls[k]) HR.out (by simp; omega) (by rw [HTL.out]; exact R1.out.alloc _) (R2.out.keep ((SameOn.refl _ _).alloc (fun b hb => by have := HBs.out b hb; omega) _)) ((H2.out.keep hbw).keep ((SameOn.refl _ _).alloc (fun b hb => by have := HBs.out b hb; omega) _)) hg (by rw [HTL.out]; exact hown')
          rw [← HT.out] at hj
          refine ⟨⟨k + 1, by omega, by go_num, hj.1, ((HB.out.trans (HB2.out.mono hsz)).alloc (by omega) _).trans hj.2, fun j hj hjk => ?_⟩, by simp [intOf]; omega⟩
          by_cases e : j = k
          · subst e; exact HPr.out.trans rfl
          · exact HN.out j hj (by omega)
    · have hkk : k = ls.length := by omega
      rw [hkk, List.take_length] at HQ
      have HG : Hid (true = idsB ls) := idsB_good fun j hj => HN.out j hj (by omega)
      obtain ⟨cs, hr, -⟩ := HQ.out
      rcases hr.2 with ⟨rfl, -⟩ | ⟨gg, cap, cur, rfl, -⟩
      all_goals
        clear hr
        go_wp2_with fail
        go_ret2
        exact ⟨_, by rw [← HG.out]; rfl, fun _ => HQ.out, HB.out⟩
end Go.Proofs.YthlacjabelpehaaGreatDoor
