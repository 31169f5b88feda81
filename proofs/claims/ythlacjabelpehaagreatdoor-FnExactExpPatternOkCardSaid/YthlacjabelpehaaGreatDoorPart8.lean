/-
  The model's l3PatternOk. Condition: the form lies in memory as FqAt says, and is ok.
  The law's toExpForm copies a form into new memory, if toExpFormS does so of its kids. Condition: the form lies in memory, and costs at most 1048576.
  The law's toExpForm and toExpFormS copy forms into new memory. Condition: the forms lie in memory, and cost at most 1048576.
  The model's l3Names. Condition: the form lies in memory as FqAt says, the literals as FormsAt says.
  The model's l3Names, walked. Condition: as in NamM.
-/
import Derived.Test.YthlacjabelpehaaGreatDoorPart7
import Derived.Test.YthlacjabelpehaaGreatDoorPart5
import Derived.Maps.AppendAt
import Derived.Deep.AppendLies
namespace Go.Proofs.YthlacjabelpehaaGreatDoor
open Go.RowKit Go.Siskin

set_option maxRecDepth 20000 in
set_option maxHeartbeats 4000000 in
theorem patM_of (n : Nat) (ih : PatM n) : PatM (n + 1) := by
  intro f hf hc d hok B w c0 c1 c2 c3 c4 hA hB
  have HR := hid hB
  have HI := hid ih
  have HC := hid (Fm.cost_eq f)
  have HS := hid (Fm.sz_kids f)
  have hkl : f.kids.length ≤ 1048576 := by have := HC.out; omega
  obtain ⟨W0, hW0⟩ : ∃ W0, W0 = w.alloc (.cells #[c0, c1, c2, c3, c4] 31) := ⟨_, rfl⟩
  have sW0 : W0.heap.size = w.heap.size + 1 := by rw [hW0]; simp
  have BW0 : Below w.heap.size w W0 := by rw [hW0]; exact (Below.refl _ _).alloc (Nat.le_refl _) _
  have HBW0 := hid BW0
  have OW0 : Own W0 w.heap.size 31 #[c0, c1, c2, c3, c4] := by rw [hW0]; exact own_new _ _ _
  have HD := hid (l3Dots_any f B W0 c0 c1 c2 c3 c4 (hA.keep (BW0.on hB)).form)
  have HRp := hid (l3Repeat_any f B W0 c0 c1 c2 c3 c4 (hA.keep (BW0.on hB)) (fun b hb => by have := hB b hb; omega) (fun h => by have := kidsF_len hok h; omega) hkl)
  have HPE := hid (patB_eq f)
  have HL2 := hid (kidsF_len hok)
  have HOKk := hid (okB_kid hok)
  obtain ⟨rfl, rfl, ht, h2, rfl, hk⟩ := (fqAt_iff _ _ _ _ _ _ _ _).1 hA
  obtain ⟨a2, k2, rfl, -⟩ := h2
  obtain ⟨a4, k4, rfl, -, hrow⟩ := hk
  have HRow := hid hrow
  have HDone : Hid (∀ w', Below W0.heap.size W0 w' → Below w.heap.size w w') := fun w' hb => HBW0.out.trans (hb.mono (by omega))
  have HKEEP : Hid (∀ w', Below W0.heap.size W0 w' → w'.cell? ⟨w.heap.size, 0, none⟩ = some (.int .i64 f.sort) ∧ w'.cell? ⟨w.heap.size, 4, none⟩ = some (.slice a4 f.kids.length k4)) := fun w' hb => by
    obtain ⟨x0, -, -, -, x4⟩ := yown5 (OW0.keep hb (by omega))
    exact ⟨x0, x4⟩
  have HSz : Hid (∀ w', Below W0.heap.size W0 w' → W0.heap.size ≤ w'.heap.size ∧ ∀ b, B b → b < w'.heap.size) := fun w' hb => by
    have h1 := hb.size
    exact ⟨h1, fun b hb => by have := HR.out b hb; omega⟩
  have HGet : Hid (∀ w', Below W0.heap.size W0 w' → ∀ i (hi : i < f.kids.length), ∃ b o, a4 = some ⟨b, o, none⟩ ∧ B b ∧ ∃ e0 e1 e2 e3 e4, w'.cell? ⟨b, o + i * 5, none⟩ = some e0 ∧ w'.cell? ⟨b, o + i * 5 + 1, none⟩ = some e1 ∧ w'.cell? ⟨b, o + i * 5 + 2, none⟩ = some e2 ∧ w'.cell? ⟨b, o + i * 5 + 3, none⟩ = some e3 ∧ w'.cell? ⟨b, o + i * 5 + 4, none⟩ = some e4 ∧ FqAt B w' f.kids[i] e0 e1 e2 e3 e4) := fun w' hb i hi => by
    rcases HRow.out with h | ⟨b, o, e1, e2, e3⟩
    · rw [h] at hi; simp at hi
    · obtain ⟨k0, k1, k2, k3, k4, q0, q1, q2, q3, q4, q5⟩ := (e3.keep ((HDone.out w' hb).on HR.out) e2) i hi
      exact ⟨b, o, e1, e2, k0, k1, k2, k3, k4, q0, q1, q2, q3, q4, q5⟩
  obtain ⟨x0, -, -, -, x4⟩ := yown5 OW0
  have y0 := yown5 OW0
  obtain ⟨-, y1, y2, y3, -⟩ := y0
  have hW0' := hW0.symm
  clear hA hB hrow hok ih hW0 BW0 OW0
  by_cases h1 : f.sort = 1
  · have h1' : (f.sort == 1) = true := by simpa using h1
    have HX : Hid (patB f = !dotsF f) := by show _ = _; rw [HPE.out, if_pos h1]
    clear h1
    go_enter Tryz.func15, Tryz.ntmps15
    go_wp2_with fail
    refine HD.out.mono ?_
    rintro e w1 ⟨rfl, hw1⟩
    have HW := hid hw1
    clear hw1
    go_wp2_with fail
    go_ret
    exact ⟨ret_bool HX.out.symm, HDone.out _ HW.out⟩
  have h1' : (f.sort == 1) = false := by simpa using h1
  by_cases h2 : f.sort = 2
  · have h2' : (f.sort == 2) = true := by simpa using h2
    have HX : Hid (patB f = true) := by show _ = _; rw [HPE.out, if_neg h1, if_pos h2]
    clear h1 h2
    go_enter Tryz.func15, Tryz.ntmps15
    go_wp2_with fail
    go_ret
    exact ⟨ret_bool HX.out.symm, HBW0.out⟩
  have h2' : (f.sort == 2) = false := by simpa using h2
  have hpe := HPE.out
  rw [if_neg h1, if_neg h2] at hpe
  have HPE := hid hpe
  clear hpe h1 h2
  by_cases hr : repF f = -2
  · have hr' : (repF f == -2) = true := by simpa using hr
    have HX := hid (HPE.out.trans (if_pos (Or.inl hr)))
    clear hr
    go_enter Tryz.func15, Tryz.ntmps15
    go_wp2_with fail
    refine HRp.out.mono ?_
    rintro e w1 ⟨rfl, hw1⟩
    have HW := hid hw1
    clear hw1
    go_wp2_with fail
    go_ret
    exact ⟨ret_bool HX.out.symm, HDone.out _ HW.out⟩
  have hr' : (repF f == -2) = false := by simpa using hr
  have HNr := hid hr
  clear hr
  have HWay : Hid (∀ b : Bool, patsB f.kids = b → (f.sort == 4) = false ∨ dotsF (f.kids.getD (f.kids.length - 1) Fm.no) = false → patB f = b) := fun b hb h => by
    rw [HPE.out, if_neg, hb]
    rintro (h' | ⟨h', h''⟩)
    · exact HNr.out h'
    · rcases h with h | h
      · rw [h'] at h; cases h
      · rw [h] at h''; cases h''
  cases h4 : (f.sort == 4) with
  | false =>
    have HWy : Hid (∀ b : Bool, patsB f.kids = b → patB f = b) := fun b hb => HWay.out b hb (Or.inl h4)
    obtain ⟨m, hm⟩ : ∃ m, f.kids.length = m := ⟨_, rfl⟩
    have HM := hid hm
    rw [hm] at HRp HKEEP hW0' hkl x4 ⊢
    clear hm HWay
    go_enter Tryz.func15, Tryz.ntmps15
    go_wp2_with fail
    refine HRp.out.mono ?_
    rintro e w2 ⟨rfl, hw2⟩
    have HB2 := hid hw2
    obtain ⟨z0, z4⟩ := HKEEP.out _ hw2
    clear hw2 x0 x4 y1 y2 y3 hW0'
    go_wp2_with fail
    go_loopw [3] (fun i wr => ∃ k : Nat, k ≤ m ∧ i = .int .i64 k ∧ Hid (Below W0.heap.size W0 wr) ∧ Hid (∀ j (hj : j < f.kids.length), j < k → (dotsF f.kids[j] || patB f.kids[j]) = true)) (fun i _ => m - (intOf i).toNat)
    case atStart => exact ⟨0, Nat.zero_le _, rfl, HB2, fun j _ hj => absurd hj (by omega)⟩
    case round =>
      obtain ⟨k, hk, rfl, HB, HN⟩ := hrel
      obtain ⟨z0, z4⟩ := HKEEP.out _ HB.out
      by_cases hlt : k < m
      · have hltf : k < f.kids.length := by have := HM.out; omega
        obtain ⟨b', o', hab, hb', e0, e1, e2, e3, e4, g0, g1, g2, g3, g4, hfq⟩ := HGet.out _ HB.out k hltf
        cases hab
        have HFq := hid hfq
        have HDk := hid (l3Dots_any f.kids[k] B wr _ _ _ _ _ hfq.form)
        have hck : f.kids[k].cost ≤ 1048576 := by have h1 := Fm.costs_get f.kids k hltf; have h2 := HC.out; omega
        have hzk : f.kids[k].sz ≤ n := by have h1 := Fm.szs_get f.kids k hltf; have h2 := HS.out; omega
        have hokk := HOKk.out k hltf
        have HSB := hid (HSz.out _ HB.out)
        have HPk : Hid (∀ w3, Below wr.heap.size wr w3 → Calls Tryz.prog 15 #[.agg #[e0, e1, e2, e3, e4]] w3 fun e w' => e = .returned (.bool (patB f.kids[k])) ∧ Below w3.heap.size w3 w') := fun w3 hw => HI.out f.kids[k] hzk hck (d + 1) hokk B w3 _ _ _ _ _ (HFq.out.keep (hw.on HSB.out.2)) (fun b hb => by have h1 := HSB.out.2 b hb; have h2 := hw.size; omega)
        have HCk : Hid (∀ w3, Below wr.heap.size wr w3 → w3.cell? ⟨b', o' + k * 5, none⟩ = some e0 ∧ w3.cell? ⟨b', o' + k * 5 + 1, none⟩ = some e1 ∧ w3.cell? ⟨b', o' + k * 5 + 2, none⟩ = some e2 ∧ w3.cell? ⟨b', o' + k * 5 + 3, none⟩ = some e3 ∧ w3.cell? ⟨b', o' + k * 5 + 4, none⟩ = some e4) := fun w3 hw => by
          have hon := hw.on HSB.out.2
          exact ⟨(hon.cell hb' _).trans g0, (hon.cell hb' _).trans g1, (hon.cell hb' _).trans g2, (hon.cell hb' _).trans g3, (hon.cell hb' _).trans g4⟩
        clear hfq hck hzk hokk
        cases hx : dotsF f.kids[k] with
        | true =>
          rw [hx] at HDk
          have HXk := hid hx
          clear hx
          go_wp2_with fail
          refine HDk.out.mono ?_
          rintro e w3 ⟨rfl, hw3⟩
          have HB3 := hid (HB.out.trans (hw3.mono HSB.out.1))
          clear hw3
          go_wp2_with fail
          refine ⟨⟨k + 1, by omega, by go_num, HB3, fun j hj hjk => ?_⟩, by simp [intOf]; omega⟩
          by_cases e : j = k
          · subst e; rw [HXk.out]; rfl
          · exact HN.out j hj (by omega)
        | false =>
          rw [hx] at HDk
          have HXk := hid hx
          clear hx
          cases hy : patB f.kids[k] with
          | true =>
            rw [hy] at HPk
            have HYk := hid hy
            clear hy
            go_wp2_with fail
            refine HDk.out.mono ?_
            rintro e w3 ⟨rfl, hw3⟩
            have HB3 := hid (HB.out.trans (hw3.mono HSB.out.1))
            have HP3 := hid (HPk.out _ hw3)
            obtain ⟨m0, m1, m2, m3, m4⟩ := HCk.out _ hw3
            obtain ⟨t0, t4⟩ := HKEEP.out _ HB3.out
            clear hw3
            go_wp2_with fail
            refine HP3.out.mono ?_
            rintro e w4 ⟨rfl, hw4⟩
            have HB4 := hid (HB3.out.trans (hw4.mono (HSz.out _ HB3.out).1))
            clear hw4
            go_wp2_with fail
            refine ⟨⟨k + 1, by omega, by go_num, HB4, fun j hj hjk => ?_⟩, by simp [intOf]; omega⟩
            by_cases e : j = k
            · subst e; rw [HYk.out, Bool.or_true]
            · exact HN.out j hj (by omega)
          | false =>
            rw [hy] at HPk
            have HF := hid (HWy.out false (patsB_bad f.kids k hltf HXk.out hy))
            clear hy
            go_wp2_with fail
            refine HDk.out.mono ?_
            rintro e w3 ⟨rfl, hw3⟩
            have HB3 := hid (HB.out.trans (hw3.mono HSB.out.1))
            have HP3 := hid (HPk.out _ hw3)
            obtain ⟨m0, m1, m2, m3, m4⟩ := HCk.out _ hw3
            obtain ⟨t0, t4⟩ := HKEEP.out _ HB3.out
            clear hw3
            go_wp2_with fail
            refine HP3.out.mono ?_
            rintro e w4 ⟨rfl, hw4⟩
            have HB4 := hid (HB3.out.trans (hw4.mono (HSz.out _ HB3.out).1))
            clear hw4
            go_wp2_with fail
            go_ret
            exact ⟨ret_bool HF.out.symm, HDone.out _ HB4.out⟩
      · go_wp2_with fail
        go_ret
        exact ⟨ret_bool (HWy.out true (patsB_good f.kids fun j hj => HN.out j hj (by have := HM.out; omega))).symm, HDone.out _ HB.out⟩
  | true =>
    have h4e : f.sort = 4 := by simpa using h4
    have hl2 := HL2.out h4e
    obtain ⟨q, hq⟩ : ∃ q, f.kids.length = q + 1 := ⟨f.kids.length - 1, by omega⟩
    have HM := hid hq
    obtain ⟨L, hL⟩ : ∃ L, L = f.kids.getD (f.kids.length - 1) Fm.no := ⟨_, rfl⟩
    have hLq : L = f.kids[q]'(by omega) := by
      rw [hL, List.getD_eq_getElem?_getD, List.getElem?_eq_getElem (by omega), Option.getD_some]
      have e : f.kids.length - 1 = q := by omega
      simp [e]
    have HGq : Hid (∀ w', Below W0.heap.size W0 w' → ∃ b o, a4 = some ⟨b, o, none⟩ ∧ B b ∧ ∃ e0 e1 e2 e3 e4, w'.cell? ⟨b, o + q * 5, none⟩ = some e0 ∧ w'.cell? ⟨b, o + q * 5 + 1, none⟩ = some e1 ∧ w'.cell? ⟨b, o + q * 5 + 2, none⟩ = some e2 ∧ w'.cell? ⟨b, o + q * 5 + 3, none⟩ = some e3 ∧ w'.cell? ⟨b, o + q * 5 + 4, none⟩ = some e4 ∧ FqAt B w' L e0 e1 e2 e3 e4) := fun w' hb => by
      obtain ⟨b, o, r1, r2, e0, e1, e2, e3, e4, g0, g1, g2, g3, g4, g5⟩ := HGet.out w' hb q (by omega)
      exact ⟨b, o, r1, r2, e0, e1, e2, e3, e4, g0, g1, g2, g3, g4, by rw [hLq]; exact g5⟩
    cases hd : dotsF L with
    | true =>
      have HX : Hid (patB f = false) := HPE.out.trans (if_pos (Or.inr ⟨h4e, by rw [← hL]; exact hd⟩))
      rw [hq] at HRp HKEEP hW0' hkl x4 ⊢
      clear hq h4e hl2 hL hLq HWay
      go_enter Tryz.func15, Tryz.ntmps15
      go_wp2_with fail
      refine HRp.out.mono ?_
      rintro e w1 ⟨rfl, hw1⟩
      have HB1 := hid hw1
      obtain ⟨z0, z4⟩ := HKEEP.out _ hw1
      obtain ⟨b, o, rfl, hb, e0, e1, e2, e3, e4, g0, g1, g2, g3, g4, hfq⟩ := HGq.out _ hw1
      have hdd := l3Dots_any L B w1 _ _ _ _ _ hfq.form
      rw [hd] at hdd
      have HD2 := hid hdd
      clear hw1 hdd hfq hd
      go_wp2_with fail
      refine HD2.out.mono ?_
      rintro e w2 ⟨rfl, hw2⟩
      have HB2 := hid (HB1.out.trans (hw2.mono (HSz.out _ HB1.out).1))
      clear hw2
      go_wp2_with fail
      go_ret
      exact ⟨ret_bool HX.out.symm, HDone.out _ HB2.out⟩
    | false =>
      have HWy : Hid (∀ b : Bool, patsB f.kids = b → patB f = b) := fun b hb => HWay.out b hb (Or.inr (by rw [← hL]; exact hd))
      rw [hq] at HRp HKEEP hW0' hkl x4 ⊢
      clear hq h4e hl2 hL hLq HWay
      go_enter Tryz.func15, Tryz.ntmps15
      go_wp2_with fail
      refine HRp.out.mono ?_
      rintro e w1 ⟨rfl, hw1⟩
      have HB1 := hid hw1
      obtain ⟨z0, z4⟩ := HKEEP.out _ hw1
      obtain ⟨b, o, rfl, hb, e0, e1, e2, e3, e4, g0, g1, g2, g3, g4, hfq⟩ := HGq.out _ hw1
      have hdd := l3Dots_any L B w1 _ _ _ _ _ hfq.form
      rw [hd] at hdd
      have HD2 := hid hdd
      clear hw1 hdd hfq hd
      go_wp2_with fail
      refine HD2.out.mono ?_
      rintro e w2 ⟨rfl, hw2⟩
      have HB2 := hid (HB1.out.trans (hw2.mono (HSz.out _ HB1.out).1))
      clear hw2 x0 x4 y1 y2 y3 hW0' z0 z4 g0 g1 g2 g3 g4
      obtain ⟨z0, z4⟩ := HKEEP.out _ HB2.out
      go_wp2_with fail
      go_loopw [3] (fun i wr => ∃ k : Nat, k ≤ (q + 1) ∧ i = .int .i64 k ∧ Hid (Below W0.heap.size W0 wr) ∧ Hid (∀ j (hj : j < f.kids.length), j < k → (dotsF f.kids[j] || patB f.kids[j]) = true)) (fun i _ => (q + 1) - (intOf i).toNat)
      case atStart => exact ⟨0, Nat.zero_le _, rfl, HB2, fun j _ hj => absurd hj (by omega)⟩
      case round =>
        obtain ⟨k, hk, rfl, HB, HN⟩ := hrel
        obtain ⟨z0, z4⟩ := HKEEP.out _ HB.out
        by_cases hlt : k < (q + 1)
        · have hltf : k < f.kids.length := by have := HM.out; omega
          obtain ⟨b', o', hab, hb', e0, e1, e2, e3, e4, g0, g1, g2, g3, g4, hfq⟩ := HGet.out _ HB.out k hltf
          cases hab
          have HFq := hid hfq
          have HDk := hid (l3Dots_any f.kids[k] B wr _ _ _ _ _ hfq.form)
          have hck : f.kids[k].cost ≤ 1048576 := by have h1 := Fm.costs_get f.kids k hltf; have h2 := HC.out; omega
          have hzk : f.kids[k].sz ≤ n := by have h1 := Fm.szs_get f.kids k hltf; have h2 := HS.out; omega
          have hokk := HOKk.out k hltf
          have HSB := hid (HSz.out _ HB.out)
          have HPk : Hid (∀ w3, Below wr.heap.size wr w3 → Calls Tryz.prog 15 #[.agg #[e0, e1, e2, e3, e4]] w3 fun e w' => e = .returned (.bool (patB f.kids[k])) ∧ Below w3.heap.size w3 w') := fun w3 hw => HI.out f.kids[k] hzk hck (d + 1) hokk B w3 _ _ _ _ _ (HFq.out.keep (hw.on HSB.out.2)) (fun b hb => by have h1 := HSB.out.2 b hb; have h2 := hw.size; omega)
          have HCk : Hid (∀ w3, Below wr.heap.size wr w3 → w3.cell? ⟨b, o + k * 5, none⟩ = some e0 ∧ w3.cell? ⟨b, o + k * 5 + 1, none⟩ = some e1 ∧ w3.cell? ⟨b, o + k * 5 + 2, none⟩ = some e2 ∧ w3.cell? ⟨b, o + k * 5 + 3, none⟩ = some e3 ∧ w3.cell? ⟨b, o + k * 5 + 4, none⟩ = some e4) := fun w3 hw => by
            have hon := hw.on HSB.out.2
            exact ⟨(hon.cell hb' _).trans g0, (hon.cell hb' _).trans g1, (hon.cell hb' _).trans g2, (hon.cell hb' _).trans g3, (hon.cell hb' _).trans g4⟩
          clear hfq hck hzk hokk
          cases hx : dotsF f.kids[k] with
          | true =>
            rw [hx] at HDk
            have HXk := hid hx
            clear hx
            go_wp2_with fail
            refine HDk.out.mono ?_
            rintro e w3 ⟨rfl, hw3⟩
            have HB3 := hid (HB.out.trans (hw3.mono HSB.out.1))
            clear hw3
            go_wp2_with fail
            refine ⟨⟨k + 1, by omega, by go_num, HB3, fun j hj hjk => ?_⟩, by simp [intOf]; omega⟩
            by_cases e : j = k
            · subst e; rw [HXk.out]; rfl
            · exact HN.out j hj (by omega)
          | false =>
            rw [hx] at HDk
            have HXk := hid hx
            clear hx
            cases hy : patB f.kids[k] with
            | true =>
              rw [hy] at HPk
              have HYk := hid hy
              clear hy
              go_wp2_with fail
              refine HDk.out.mono ?_
              rintro e w3 ⟨rfl, hw3⟩
              have HB3 := hid (HB.out.trans (hw3.mono HSB.out.1))
              have HP3 := hid (HPk.out _ hw3)
              obtain ⟨m0, m1, m2, m3, m4⟩ := HCk.out _ hw3
              obtain ⟨t0, t4⟩ := HKEEP.out _ HB3.out
              clear hw3
              go_wp2_with fail
              refine HP3.out.mono ?_
              rintro e w4 ⟨rfl, hw4⟩
              have HB4 := hid (HB3.out.trans (hw4.mono (HSz.out _ HB3.out).1))
              clear hw4
              go_wp2_with fail
              refine ⟨⟨k + 1, by omega, by go_num, HB4, fun j hj hjk => ?_⟩, by simp [intOf]; omega⟩
              by_cases e : j = k
              · subst e; rw [HYk.out, Bool.or_true]
              · exact HN.out j hj (by omega)
            | false =>
              rw [hy] at HPk
              have HF := hid (HWy.out false (patsB_bad f.kids k hltf HXk.out hy))
              clear hy
              go_wp2_with fail
              refine HDk.out.mono ?_
              rintro e w3 ⟨rfl, hw3⟩
              have HB3 := hid (HB.out.trans (hw3.mono HSB.out.1))
              have HP3 := hid (HPk.out _ hw3)
              obtain ⟨m0, m1, m2, m3, m4⟩ := HCk.out _ hw3
              obtain ⟨t0, t4⟩ := HKEEP.out _ HB3.out
              clear hw3
              go_wp2_with fail
              refine HP3.out.mono ?_
              rintro e w4 ⟨rfl, hw4⟩
              have HB4 := hid (HB3.out.trans (hw4.mono (HSz.out _ HB3.out).1))
              clear hw4
              go_wp2_with fail
              go_ret
              exact ⟨ret_bool HF.out.symm, HDone.out _ HB4.out⟩
        · go_wp2_with fail
          go_ret
          exact ⟨ret_bool (HWy.out true (patsB_good f.kids fun j hj => HN.out j hj (by have := HM.out; omega))).symm, HDone.out _ HB.out⟩

theorem patM_all : ∀ n, PatM n
  | 0 => fun f hf => by have := Fm.sz_kids f; omega
  | n + 1 => patM_of n (patM_all n)
end Go.Proofs.YthlacjabelpehaaGreatDoor

namespace Go.Proofs.YthlacjabelpehaaGreatDoor
open Go.RowKit Go.Siskin

def ToForm (n : Nat) : Prop := ∀ f : Fm, f.sz ≤ n → ∀ (B : Nat → Prop) (w : World) (c0 c1 c2 c3 c4 : Value), FormAt B w f c0 c1 c2 c3 c4 → (∀ b, B b → b < w.heap.size) → f.cost ≤ 1048576 →
    Calls Tryz.prog 7 #[.agg #[c0, c1, c2, c3, c4]] w fun e w' => ∃ d0 d1 d2 d3 d4, e = .returned (.agg #[d0, d1, d2, d3, d4]) ∧ FormAt (Fresh w w') w' f d0 d1 d2 d3 d4 ∧ Below w.heap.size w w'
def ToForms (n : Nat) : Prop := ∀ ks : List Fm, Fm.szs ks ≤ n → ∀ (B : Nat → Prop) (w : World) (v : Value), FormsAt B w v ks → (∀ b, B b → b < w.heap.size) → ks.length + Fm.costs ks ≤ 1048576 →
    Calls Tryz.prog 8 #[v] w fun e w' => ∃ u, e = .returned u ∧ FormsAt (Fresh w w') w' u ks ∧ Below w.heap.size w w'

set_option maxHeartbeats 1000000 in
theorem toForm_of (n : Nat) (ih : ToForms n) : ToForm (n + 1) := by
  intro f hf B w c0 c1 c2 c3 c4 hA hB h0
  obtain ⟨rfl, rfl, ht, h2, rfl, h4⟩ := (formAt_iff _ _ _ _ _ _ _ _).1 hA
  have HC := hid (Fm.cost_eq f)
  have HS := hid (Fm.sz_kids f)
  have hl : f.scopes.length ≤ 1048576 := by have := HC.out; omega
  have H2 := hid h2
  have H4 := hid h4
  have HI := hid ih
  have HR := hid hB
  clear h2 h4 hA ih hB
  go_enter Tryz.func7, Tryz.ntmps7
  go_wp2_with fail
  refine (toIntS_any B _ f.scopes _ (H2.out.keep (((((SameOn.refl _ _).alloc HR.out _).alloc (fun b hb => by have := HR.out b hb; simp; omega) _).alloc (fun b hb => by have := HR.out b hb; simp; omega) _))) (fun b hb => by have := HR.out b hb; simp; omega) hl).mono ?_
  rintro e w1 ⟨v2, rfl, hi1, hb1⟩
  obtain ⟨a2, k2, rfl, -⟩ := id hi1
  obtain ⟨hc1, hf1⟩ := bcell hb1
  have hz1 : w.heap.size + 2 < w1.heap.size := by have := hb1.size; simp at this; omega
  have hz1a : w.heap.size + 1 < w1.heap.size := by omega
  have hz1b : w.heap.size < w1.heap.size := by omega
  have HI1 := hid hi1
  have HB1 := hid hb1
  clear hi1 hb1
  go_wp2_with fail
  refine (HI.out f.kids (by have := HS.out; omega) B _ c4 (H4.out.keep ?_) ?_ (by have := HC.out; omega)).mono ?_
  · exact (((((((SameOn.refl _ _).alloc HR.out _).alloc (fun b hb => by have := HR.out b hb; simp; omega) _).alloc (fun b hb => by have := HR.out b hb; simp; omega) _).below HB1.out (fun b hb => by have := HR.out b hb; simp; omega)).setCell (fun hb => by have := HR.out _ hb; simp at this; omega) _).setCell (fun hb => by have := HR.out _ hb; simp at this; omega) _)
  · exact fun b hb => by have := HR.out b hb; simp; omega
  rintro e w2 ⟨u, rfl, hi2, hb2⟩
  obtain ⟨a4, k4, rfl, -⟩ := id hi2
  obtain ⟨hc2, hf2⟩ := bcell hb2
  have hz2 : w1.heap.size ≤ w2.heap.size := by have := hb2.size; simp at this; omega
  have HI2 := hid hi2
  have HB2 := hid hb2
  clear hi2 hb2
  go_wp2_with fail
  refine bodyPost_ret (v := .agg #[.int .i64 f.sort, .string f.text, .slice a2 f.scopes.length k2, .int .i64 f.frm, .slice a4 f.kids.length k4]) (by simp [results, Tryz.results7, go_sem, hc1, hc2, hz1a]) rfl ⟨_, _, _, _, _, rfl, ?_, ?_⟩
  · refine (formAt_iff _ _ _ _ _ _ _ _).2 ⟨rfl, rfl, ht, (HI1.out.keep ?_).mono ?_, rfl, (HI2.out.keep ?_).mono ?_⟩
    · refine ((((((((SameOn.refl _ _).setCell ?_ _).setCell ?_ _).below HB2.out ?_).setCell ?_ _).setCell ?_ _).setCell ?_ _).setCell ?_ _).setCell ?_ _ |>.setCell ?_ _
      all_goals first
        | (intro h; have := h.1; simp at this; omega)
        | (intro b h; have := h.2; simp; omega)
    · intro b h; have h1 := h.1; have h2 := h.2; exact ⟨by simp at h1; omega, by simp; omega⟩
    · refine ((((((SameOn.refl _ _).setCell ?_ _).setCell ?_ _).setCell ?_ _).setCell ?_ _).setCell ?_ _).setCell ?_ _
      all_goals (intro h; have := h.1; simp at this; omega)
    · intro b h; have h1 := h.1; have h2 := h.2; exact ⟨by simp at h1; omega, by simp; omega⟩
  · refine (((((((((((((Below.refl _ _).alloc (Nat.le_refl _) _).alloc (by simp) _).alloc (by simp; omega) _).trans (HB1.out.mono (by simp; omega))).setCell ?_ _).setCell ?_ _).trans (HB2.out.mono (by simp; omega))).setCell ?_ _).setCell ?_ _).setCell ?_ _).setCell ?_ _).setCell ?_ _).setCell ?_ _
    all_goals (simp; try omega)

end Go.Proofs.YthlacjabelpehaaGreatDoor

namespace Go.Proofs.YthlacjabelpehaaGreatDoor
open Go.RowKit Go.Siskin

/-- The first k forms stand in a block of the call's own; what they lead to lies behind it. -/
def Got (g : Nat) (wr : World) (cs : Array Value) (ks : List Fm) (k : Nat) : Prop :=
  ∀ j (hj : j < ks.length), j < k → ∃ d0 d1 d2 d3 d4, cs[j * 5]? = some d0 ∧ cs[j * 5 + 1]? = some d1 ∧ cs[j * 5 + 2]? = some d2 ∧ cs[j * 5 + 3]? = some d3 ∧ cs[j * 5 + 4]? = some d4 ∧ FormAt (fun b => g < b ∧ b < wr.heap.size) wr ks[j] d0 d1 d2 d3 d4

/-- Five cells in a row. -/
def put5 (w : World) (g o : Nat) (d0 d1 d2 d3 d4 : Value) : World :=
  ((((w.setCell ⟨g, o, none⟩ d0).setCell ⟨g, o + 1, none⟩ d1).setCell ⟨g, o + 2, none⟩ d2).setCell ⟨g, o + 3, none⟩ d3).setCell ⟨g, o + 4, none⟩ d4
def arr5 (cs : Array Value) (o : Nat) (d0 d1 d2 d3 d4 : Value) : Array Value :=
  ((((cs.setIfInBounds o d0).setIfInBounds (o + 1) d1).setIfInBounds (o + 2) d2).setIfInBounds (o + 3) d3).setIfInBounds (o + 4) d4

theorem put5_own {w : World} {g : Nat} {e : TypeId} {cs : Array Value} (h : Own w g e cs) (o : Nat) (d0 d1 d2 d3 d4 : Value) : Own (put5 w g o d0 d1 d2 d3 d4) g e (arr5 cs o d0 d1 d2 d3 d4) :=
  ((((h.set o d0).set (o + 1) d1).set (o + 2) d2).set (o + 3) d3).set (o + 4) d4
theorem put5_size (w : World) (g o : Nat) (d0 d1 d2 d3 d4 : Value) : (put5 w g o d0 d1 d2 d3 d4).heap.size = w.heap.size := by simp [put5]
theorem put5_same {R : Nat → Prop} {a w : World} (h : SameOn R a w) {g : Nat} (hg : ¬ R g) (o : Nat) (d0 d1 d2 d3 d4 : Value) : SameOn R a (put5 w g o d0 d1 d2 d3 d4) :=
  ((((h.setCell hg _).setCell hg _).setCell hg _).setCell hg _).setCell hg _
theorem put5_below {B : Nat} {a w : World} (h : Below B a w) {g : Nat} (hg : B ≤ g) (o : Nat) (d0 d1 d2 d3 d4 : Value) : Below B a (put5 w g o d0 d1 d2 d3 d4) :=
  ((((h.setCell hg _).setCell hg _).setCell hg _).setCell hg _).setCell hg _
theorem arr5_size (cs : Array Value) (o : Nat) (d0 d1 d2 d3 d4 : Value) : (arr5 cs o d0 d1 d2 d3 d4).size = cs.size := by simp [arr5]
theorem arr5_out {cs : Array Value} {o : Nat} (d0 d1 d2 d3 d4 : Value) {i : Nat} (h : i < o ∨ o + 5 ≤ i) : (arr5 cs o d0 d1 d2 d3 d4)[i]? = cs[i]? := by
  unfold arr5
  rw [Array.getElem?_setIfInBounds, if_neg (by omega), Array.getElem?_setIfInBounds, if_neg (by omega), Array.getElem?_setIfInBounds, if_neg (by omega), Array.getElem?_setIfInBounds, if_neg (by omega), Array.getElem?_setIfInBounds, if_neg (by omega)]
theorem arr5_in {cs : Array Value} {o : Nat} (d0 d1 d2 d3 d4 : Value) (h : o + 5 ≤ cs.size) :
    (arr5 cs o d0 d1 d2 d3 d4)[o]? = some d0 ∧ (arr5 cs o d0 d1 d2 d3 d4)[o + 1]? = some d1 ∧ (arr5 cs o d0 d1 d2 d3 d4)[o + 2]? = some d2 ∧ (arr5 cs o d0 d1 d2 d3 d4)[o + 3]? = some d3 ∧ (arr5 cs o d0 d1 d2 d3 d4)[o + 4]? = some d4 := by
  unfold arr5
  refine ⟨?_, ?_, ?_, ?_, ?_⟩ <;> simp [Array.getElem?_setIfInBounds] <;> omega

theorem got_step {g k : Nat} {wr w1 : World} {cs : Array Value} {ks : List Fm} {d0 d1 d2 d3 d4 : Value} (hcs : cs.size = ks.length * 5) (hlt : k < ks.length) (hg : g < wr.heap.size) (hb : Below wr.heap.size wr w1)
    (hf : FormAt (Fresh wr w1) w1 ks[k] d0 d1 d2 d3 d4) (got : Got g wr cs ks k) : Got g (put5 w1 g (k * 5) d0 d1 d2 d3 d4) (arr5 cs (k * 5) d0 d1 d2 d3 d4) ks (k + 1) := by
  intro j hj hjk
  have hs := hb.size
  by_cases e : j = k
  · subst e
    obtain ⟨e0, e1, e2, e3, e4⟩ := arr5_in (cs := cs) (o := j * 5) d0 d1 d2 d3 d4 (by omega)
    refine ⟨d0, d1, d2, d3, d4, e0, e1, e2, e3, e4, FormAt.mono ?_ _ (FormAt.keep (put5_same (SameOn.refl _ _) ?_ _ _ _ _ _ _) _ hf)⟩
    · intro b h; have h1 := h.1; have h2 := h.2; rw [put5_size]; exact ⟨by omega, h2⟩
    · intro h; have h1 := h.1; omega
  · obtain ⟨x0, x1, x2, x3, x4, e0, e1, e2, e3, e4, hx⟩ := got j hj (by omega)
    refine ⟨x0, x1, x2, x3, x4, ?_, ?_, ?_, ?_, ?_, FormAt.mono ?_ _ (FormAt.keep (put5_same ((SameOn.refl _ _).below hb ?_) ?_ _ _ _ _ _ _) _ hx)⟩
    · rw [arr5_out _ _ _ _ _ (by omega)]; exact e0
    · rw [arr5_out _ _ _ _ _ (by omega)]; exact e1
    · rw [arr5_out _ _ _ _ _ (by omega)]; exact e2
    · rw [arr5_out _ _ _ _ _ (by omega)]; exact e3
    · rw [arr5_out _ _ _ _ _ (by omega)]; exact e4
    · intro b h; rw [put5_size]; exact ⟨h.1, by omega⟩
    · intro b h; exact h.2
    · intro h; omega

set_option maxHeartbeats 1000000 in
theorem toForms_of (n : Nat) (ih : ToForm n) : ToForms n := by
  intro ks hks B w v hv hB hn
  obtain ⟨a, ca, rfl, hla, ha⟩ := hv
  unfold maxLen at hla
  obtain ⟨i, hi, hz0, hz1, hz2⟩ := info_parts Tryz.infoForm
  have Hi := hid hi
  have Hz0 := hid hz0
  have Hz1 := hid hz1
  have Hz2 := hid hz2
  have HI := hid ih
  have HR := hid hB
  clear hi hz0 hz1 hz2 ih hB
  have hn1 : ks.length ≤ 1048576 := by omega
  go_enter Tryz.func8, Tryz.ntmps8
  go_wp2_with (at_make; refine wpList_make_new _ rfl _ _ 29 rfl 31 i (.agg #[.int .i64 0, .string ⟨#[]⟩, .slice none 0 0, .int .i64 0, .slice none 0 0]) 5 Tryz.underlying29 Hi.out Hz0.out Hz1.out .i64 .i64 ks.length rfl rfl (by rw [Hz2.out]; omega) (by unfold maxLen; omega) ?_)
  go_loopw [4] (fun i wr => ∃ k : Nat, k ≤ ks.length ∧ i = .int .i64 k ∧ Hid (∃ cs : Array Value, Own wr w.heap.size 31 cs ∧ cs.size = ks.length * 5 ∧ Got w.heap.size wr cs ks k ∧ Below w.heap.size w wr)) (fun i _ => ks.length - (intOf i).toNat)
  case atStart => exact ⟨0, Nat.zero_le _, rfl, _, own_new _ _ _, size_madeCells _ _, fun j _ hj => absurd hj (by omega), (Below.refl _ _).alloc (Nat.le_refl _) _⟩
  case round =>
    obtain ⟨k, hk, rfl, HA⟩ := hrel
    obtain ⟨cs, ho, hcs, hgot, hbel⟩ := HA.out
    have HO := hid ho
    have HG := hid hgot
    have HB := hid hbel
    clear ho hgot hbel HA
    by_cases hlt : k < ks.length
    · rcases ha with ha | ⟨ba, oa, rfl, hb, ha⟩
      · subst ha; simp at hlt
      have hrow := RowAt.keep (HB.out.on HR.out) hb ks ha
      obtain ⟨c0, c1, c2, c3, c4, g0, g1, g2, g3, g4, hf⟩ := RowAt.get ks hrow k hlt
      have HC := hid (HI.out ks[k] (Nat.le_trans (Fm.szs_get ks k hlt) hks) B wr c0 c1 c2 c3 c4 hf (fun b hb => by have := HR.out b hb; have := HB.out.size; omega) (by have := Fm.costs_get ks k hlt; omega))
      clear ha hf hrow HI
      go_wp2_with fail
      refine HC.out.mono ?_
      rintro e w1 ⟨d0, d1, d2, d3, d4, rfl, hf, hw⟩
      have HF := hid hf
      obtain ⟨rfl, rfl, -, h2, rfl, h4⟩ := (formAt_iff _ _ _ _ _ _ _ _).1 hf
      obtain ⟨a2, k2, rfl, -⟩ := h2
      obtain ⟨a4, k4, rfl, -⟩ := h4
      have ho1 := HO.out.keep hw HO.out.lt
      have q0 := ho1.cell (k * 5)
      have q1 := ho1.cell (k * 5 + 1)
      have q2 := ho1.cell (k * 5 + 2)
      have q3 := ho1.cell (k * 5 + 3)
      have q4 := ho1.cell (k * 5 + 4)
      rw [Array.getElem?_eq_getElem (by omega)] at q0 q1 q2 q3 q4
      have f0 := ho1.frozen (k * 5)
      have f1 := ho1.frozen (k * 5 + 1)
      have f2 := ho1.frozen (k * 5 + 2)
      have f3 := ho1.frozen (k * 5 + 3)
      have f4 := ho1.frozen (k * 5 + 4)
      have HW := hid hw
      have HO1 := hid ho1
      clear ho1 hf hw
      go_wp2_with fail
      have hsz := HB.out.size
      exact ⟨⟨k + 1, by omega, by go_num, _, put5_own HO1.out (k * 5) _ _ _ _ _, by rw [arr5_size, hcs], got_step hcs hlt HO.out.lt HW.out HF.out HG.out, put5_below (HB.out.trans (HW.out.mono hsz)) (Nat.le_refl _) _ _ _ _ _ _⟩, by simp [intOf]; omega⟩
    · go_wp2_with fail
      go_ret
      refine ⟨_, rfl, ?_, HB.out⟩
      refine ⟨_, _, rfl, by unfold maxLen; omega, Or.inr ⟨w.heap.size, 0, rfl, ⟨Nat.le_refl _, HO.out.lt⟩, RowAt.mk ks fun j hj => ?_⟩⟩
      obtain ⟨x0, x1, x2, x3, x4, e0, e1, e2, e3, e4, hx⟩ := HG.out j hj (by omega)
      rw [Nat.zero_add]
      refine ⟨x0, x1, x2, x3, x4, (HO.out.cell _).trans e0, (HO.out.cell _).trans e1, (HO.out.cell _).trans e2, (HO.out.cell _).trans e3, (HO.out.cell _).trans e4, FormAt.mono ?_ _ hx⟩
      intro b h; exact ⟨by have := h.1; omega, h.2⟩

theorem toForm_all : ∀ n, ToForm n ∧ ToForms n
  | 0 => by
    have h : ToForm 0 := fun f hf => by have := Fm.sz_kids f; omega
    exact ⟨h, toForms_of 0 h⟩
  | n + 1 => by
    have h := toForm_of n (toForm_all n).2
    exact ⟨h, toForms_of (n + 1) h⟩

/-- The law's copy of a form: the same form, in new memory. -/
theorem toExpForm_any (f : Fm) (B : Nat → Prop) (w : World) (c0 c1 c2 c3 c4 : Value) (h : FormAt B w f c0 c1 c2 c3 c4) (hB : ∀ b, B b → b < w.heap.size) (h0 : f.cost ≤ 1048576) :
    Calls Tryz.prog 7 #[.agg #[c0, c1, c2, c3, c4]] w fun e w' => ∃ d0 d1 d2 d3 d4, e = .returned (.agg #[d0, d1, d2, d3, d4]) ∧ FormAt (Fresh w w') w' f d0 d1 d2 d3 d4 ∧ Below w.heap.size w w' :=
  (toForm_all f.sz).1 f (Nat.le_refl _) B w c0 c1 c2 c3 c4 h hB h0

end Go.Proofs.YthlacjabelpehaaGreatDoor

namespace Go.Proofs.YthlacjabelpehaaGreatDoor
open Go.RowKit Go.Siskin

/-- The names of a pattern, in order. -/
def namesF (ls : List Fm) : Fm → List Fm
  | ⟨s, t, sc, fr, ks⟩ => if s = 1 then (if (!dotsF ⟨s, t, sc, fr, ks⟩ && !blankF ⟨s, t, sc, fr, ks⟩ && !amongF ls ⟨s, t, sc, fr, ks⟩) = true then [⟨s, t, sc, fr, ks⟩] else []) else (ks.map fun k => namesF ls k).flatten
def namesS (ls : List Fm) (ks : List Fm) : List Fm := (ks.map (namesF ls)).flatten
theorem namesF_eq (ls : List Fm) (f : Fm) : namesF ls f = if f.sort = 1 then (if (!dotsF f && !blankF f && !amongF ls f) = true then [f] else []) else namesS ls f.kids := by
  obtain ⟨s, t, sc, fr, ks⟩ := f
  rw [namesF]; rfl
theorem namesS_take (ls ks : List Fm) (k : Nat) (h : k < ks.length) : namesS ls (ks.take (k + 1)) = namesS ls (ks.take k) ++ namesF ls ks[k] := by
  unfold namesS
  rw [List.take_succ_eq_append_getElem h, List.map_append, List.flatten_append]
  simp
theorem namesS_len (ls : List Fm) : ∀ (ks : List Fm), (∀ k ∈ ks, (namesF ls k).length ≤ k.sz) → (namesS ls ks).length ≤ Fm.szs ks
  | [], _ => Nat.le_refl _
  | k :: r, h => by
    have h1 := h k List.mem_cons_self
    have h2 := namesS_len ls r fun x hx => h x (List.mem_cons_of_mem _ hx)
    have e : namesS ls (k :: r) = namesF ls k ++ namesS ls r := rfl
    rw [e, List.length_append, Fm.szs_cons]; omega
theorem namesF_len (ls : List Fm) : ∀ (n : Nat) (f : Fm), f.sz ≤ n → (namesF ls f).length ≤ f.sz
  | 0, f, h => by have := Fm.sz_kids f; omega
  | n + 1, f, h => by
    have hs := Fm.sz_kids f
    rw [namesF_eq]
    split
    · split
      · simp; omega
      · simp
    · have := namesS_len ls f.kids fun k hk => namesF_len ls n k (by
        obtain ⟨i, hi, e⟩ := List.mem_iff_getElem.1 hk
        have h1 := Fm.szs_get f.kids i hi
        rw [e] at h1
        omega)
      omega
theorem szs_takeF (ks : List Fm) (k : Nat) : Fm.szs (ks.take k) ≤ Fm.szs ks := by
  conv => rhs; rw [← List.take_append_drop k ks]
  unfold Fm.szs
  rw [List.map_append, List.sum_append]; omega

/-- Cells, five for each form. -/
def QCells (B : Nat → Prop) (w : World) (cs : List Value) (ks : List Fm) : Prop := ∀ (i : Nat) (hi : i < ks.length),
  ∃ c0 c1 c2 c3 c4, cs[i * 5]? = some c0 ∧ cs[i * 5 + 1]? = some c1 ∧ cs[i * 5 + 2]? = some c2 ∧ cs[i * 5 + 3]? = some c3 ∧ cs[i * 5 + 4]? = some c4 ∧ FqAt B w ks[i] c0 c1 c2 c3 c4
theorem QCells.keep {B : Nat → Prop} {w w' : World} {cs : List Value} {ks : List Fm} (h : QCells B w cs ks) (hb : SameOn B w w') : QCells B w' cs ks := fun i hi => by
  obtain ⟨c0, c1, c2, c3, c4, e0, e1, e2, e3, e4, e5⟩ := h i hi
  exact ⟨c0, c1, c2, c3, c4, e0, e1, e2, e3, e4, e5.keep hb⟩
theorem QCells.join {B : Nat → Prop} {w : World} {cs ds : List Value} {ks ls : List Fm} (h : QCells B w cs ks) (hl : cs.length = ks.length * 5) (h' : QCells B w ds ls) : QCells B w (cs ++ ds) (ks ++ ls) := fun i hi => by
  rw [List.length_append] at hi
  by_cases e : i < ks.length
  · obtain ⟨c0, c1, c2, c3, c4, e0, e1, e2, e3, e4, e5⟩ := h i e
    refine ⟨c0, c1, c2, c3, c4, ?_, ?_, ?_, ?_, ?_, by rw [List.getElem_append_left e]; exact e5⟩
    all_goals (rw [List.getElem?_append_left (by omega)]; assumption)
  · obtain ⟨c0, c1, c2, c3, c4, e0, e1, e2, e3, e4, e5⟩ := h' (i - ks.length) (by omega)
    refine ⟨c0, c1, c2, c3, c4, ?_, ?_, ?_, ?_, ?_, by rw [List.getElem_append_right (by omega)]; exact e5⟩
    · rw [List.getElem?_append_right (by omega), hl, show i * 5 - ks.length * 5 = (i - ks.length) * 5 by omega]; exact e0
    · rw [List.getElem?_append_right (by omega), hl, show i * 5 + 1 - ks.length * 5 = (i - ks.length) * 5 + 1 by omega]; exact e1
    · rw [List.getElem?_append_right (by omega), hl, show i * 5 + 2 - ks.length * 5 = (i - ks.length) * 5 + 2 by omega]; exact e2
    · rw [List.getElem?_append_right (by omega), hl, show i * 5 + 3 - ks.length * 5 = (i - ks.length) * 5 + 3 by omega]; exact e3
    · rw [List.getElem?_append_right (by omega), hl, show i * 5 + 4 - ks.length * 5 = (i - ks.length) * 5 + 4 by omega]; exact e4
theorem qcells_one {B : Nat → Prop} {w : World} {f : Fm} {c0 c1 c2 c3 c4 : Value} (h : FqAt B w f c0 c1 c2 c3 c4) : QCells B w [c0, c1, c2, c3, c4] [f] := fun i hi => by
  have : i = 0 := by simpa using hi
  subst this
  exact ⟨c0, c1, c2, c3, c4, rfl, rfl, rfl, rfl, rfl, h⟩

/-- Forms in a row of their own, what they lead to in B. -/
def QRow (B : Nat → Prop) (w : World) (base : Nat) (v : Value) (ks : List Fm) : Prop :=
  ∃ g cap cs, v = .slice (some ⟨g, 0, none⟩) ks.length cap ∧ w.ownsRow base 31 5 v ks.length cs ∧ QCells B w cs ks ∧ ∀ u ∈ cs, u.oneCell' = true
theorem QRow.keep {B : Nat → Prop} {w w' : World} {base : Nat} {v : Value} {ks : List Fm} (h : QRow B w base v ks) (hb : Below w.heap.size w w') (hB : ∀ b, B b → b < w.heap.size) : QRow B w' base v ks := by
  obtain ⟨g, cap, cs, rfl, h1, h2, h3⟩ := h
  have hg : w.grownBy w' none := ⟨hb.os, hb.tape, hb.output, hb.size, fun i hi _ => hb.block i hi⟩
  exact ⟨g, cap, cs, rfl, h1.kept hg (Or.inr (by simp [Value.ownBlock])), h2.keep (hb.on hB), h3⟩
theorem fq_one {B : Nat → Prop} {w : World} {f : Fm} {c0 c1 c2 c3 c4 : Value} (h : FqAt B w f c0 c1 c2 c3 c4) : ∀ u ∈ [c0, c1, c2, c3, c4], u.oneCell' = true := by
  obtain ⟨rfl, rfl, ht, h2, rfl, hk⟩ := (fqAt_iff _ _ _ _ _ _ _ _).1 h
  obtain ⟨a2, k2, rfl, -⟩ := h2
  obtain ⟨a4, k4, rfl, -⟩ := hk
  simp [Value.oneCell']

def NamM (n : Nat) : Prop := ∀ f : Fm, f.sz ≤ n → f.sz ≤ 1048577 → ∀ (ls : List Fm) (B : Nat → Prop) (w : World) (v c0 c1 c2 c3 c4 : Value), FqAt B w f c0 c1 c2 c3 c4 → FormsAt B w v ls → (∀ b, B b → b < w.heap.size) →
  Calls Tryz.prog 16 #[.agg #[c0, c1, c2, c3, c4], v] w fun e w' => ∃ u, e = .returned u ∧ QRow B w' w.heap.size u (namesF ls f) ∧ Below w.heap.size w w'

theorem Tryz.infoFormY : (Tryz.prog.info? 31).map (fun i => (i.zero, i.size, i.bytes)) = some (some (.agg #[.int .i64 0, .string ⟨#[]⟩, .slice none 0 0, .int .i64 0, .slice none 0 0]), 5, 80) := by kernel_rfl
end Go.Proofs.YthlacjabelpehaaGreatDoor

namespace Go.Proofs.YthlacjabelpehaaGreatDoor
open Go.RowKit Go.Siskin

theorem QRow.join {B : Nat → Prop} {w w' : World} {base : Nat} {g c : Nat} {v' : Value} {ks ls : List Fm} {cs ds : List Value} (hB : ∀ b, B b → b < base) (hs : base ≤ w.heap.size)
    (r1 : w.ownsRow base 31 5 (.slice (some ⟨g, 0, none⟩) ks.length c) ks.length cs) (q1 : QCells B w cs ks) (o1 : ∀ u ∈ cs, u.oneCell' = true)
    (q2 : QCells B w ds ls) (o2 : ∀ u ∈ ds, u.oneCell' = true) (hg : w.grownBy w' (some g))
    (hown : w'.ownsRow base 31 5 v' (ks.length + ls.length) (cs ++ ds)) (hnil : v' ≠ .slice none 0 0) : QRow B w' base v' (ks ++ ls) ∧ Below base w w' := by
  have hbl : Below base w w' := ⟨hg.os, hg.tape, hg.output, hg.size, fun i hi => hg.block i (by omega) fun e => by
    have := (r1.lt i (by simpa [Value.ownBlock] using e.symm)).1
    omega⟩
  refine ⟨?_, hbl⟩
  rcases hown.2 with ⟨h, -⟩ | ⟨g', cap, cur, hv, -⟩
  · exact absurd h hnil
  · subst hv
    have hq := (q1.join r1.1 q2).keep (hbl.on hB)
    rw [← List.length_append] at hown
    exact ⟨g', cap, cs ++ ds, by rw [List.length_append], by rw [List.length_append] at hown ⊢; exact hown, hq, fun u hu => by
      rcases List.mem_append.1 hu with h | h
      · exact o1 u h
      · exact o2 u h⟩
theorem row_news {w : World} {base g n cap : Nat} {xs : List Value} (h : w.ownsRow base 31 5 (.slice (some ⟨g, 0, none⟩) n cap) n xs) : ∀ j u, xs[j]? = some u → w.cell? ((⟨g, 0, none⟩ : Addr).add j) = some u := fun j u hj => by
  have hl : j < xs.length := (List.getElem?_eq_some_iff.1 hj).1
  have h1 := h.cellAt j (by rw [← h.1]; exact hl)
  rw [hj] at h1
  unfold Addr.add
  split
  · rename_i e; subst e; exact h1
  · simpa using h1
theorem fszs_len : ∀ ks : List Fm, ks.length ≤ Fm.szs ks
  | [] => Nat.le_refl _
  | k :: r => by
    have h1 := fszs_len r
    have h2 := Fm.sz_kids k
    rw [Fm.szs_cons, List.length_cons]; omega
theorem QRow.mono {B : Nat → Prop} {w : World} {base base' : Nat} {v : Value} {ks : List Fm} (h : QRow B w base v ks) (hb : base' ≤ base) : QRow B w base' v ks := by
  obtain ⟨g, cap, cs, rfl, h1, h2, h3⟩ := h
  refine ⟨g, cap, cs, rfl, ⟨h1.1, ?_⟩, h2, h3⟩
  rcases h1.2 with h | ⟨g', cap', cur, e1, e2, e3⟩
  · exact Or.inl h
  · exact Or.inr ⟨g', cap', cur, e1, by omega, e3⟩

set_option maxRecDepth 20000 in
set_option maxHeartbeats 1000000 in
theorem namM_of (n : Nat) (ih : NamM n) : NamM (n + 1) := by
  intro f hf hc ls B w v c0 c1 c2 c3 c4 hA hv hB
  have HR := hid hB
  have HI := hid ih
  have HV := hid hv
  have HAF := hid hA
  have HS := hid (Fm.sz_kids f)
  have HNE := hid (namesF_eq ls f)
  have HLN := hid (namesF_len ls f.sz f (Nat.le_refl _))
  obtain ⟨av, cv, rfl, hlv, hav⟩ := hv
  obtain ⟨W0, hW0⟩ : ∃ W0, W0 = (w.alloc (.cells #[c0, c1, c2, c3, c4] 31)).alloc (.cells #[] 31) := ⟨_, rfl⟩
  have sW0 : W0.heap.size = w.heap.size + 2 := by rw [hW0]; simp
  have BW0 : Below w.heap.size w W0 := by rw [hW0]; exact ((Below.refl _ _).alloc (Nat.le_refl _) _).alloc (by simp) _
  have HBW0 := hid BW0
  have OW0 : Own W0 w.heap.size 31 #[c0, c1, c2, c3, c4] := by rw [hW0]; exact (own_new _ _ _).keep ((Below.refl _ _).alloc (Nat.le_refl _) _) (by simp)
  have HO0 : Hid (W0.ownsRow (w.heap.size + 1) 31 5 (.slice (some ⟨w.heap.size + 1, 0, none⟩) 0 0) 0 []) := by
    show World.ownsRow _ _ _ _ _ _ _
    rw [hW0]
    have h := World.ownsRow_made (base := w.heap.size + 1) (w.alloc (.cells #[c0, c1, c2, c3, c4] 31)) #[] 0 (e := 31) (size := 5) (by simp) (by simp) (by simp)
    simpa using h
  have HOk : Hid (∀ w', Below W0.heap.size W0 w' → w'.ownsRow (w.heap.size + 1) 31 5 (.slice (some ⟨w.heap.size + 1, 0, none⟩) 0 0) 0 []) := fun w' hb => by
    have hg : W0.grownBy w' none := ⟨hb.os, hb.tape, hb.output, hb.size, fun i hi _ => hb.block i hi⟩
    exact HO0.out.kept hg (Or.inr (by simp [Value.ownBlock]))
  have HQ0 : Hid (∀ w', Below W0.heap.size W0 w' → QRow B w' w.heap.size (.slice (some ⟨w.heap.size + 1, 0, none⟩) 0 0) []) := fun w' hb => QRow.mono ⟨_, _, [], rfl, HOk.out w' hb, fun i hi => absurd hi (by simp), by simp⟩ (Nat.le_succ _)
  have HDone : Hid (∀ w', Below (w.heap.size + 1) W0 w' → Below w.heap.size w w') := fun w' hb => HBW0.out.trans (hb.mono (by omega))
  have HBs : Hid (∀ w', Below (w.heap.size + 1) W0 w' → W0.heap.size ≤ w'.heap.size ∧ ∀ b, B b → b < w'.heap.size) := fun w' hb => by
    have h1 := hb.size
    exact ⟨h1, fun b hb => by have := HR.out b hb; omega⟩
  have HD : Hid (∀ w', Below (w.heap.size + 1) W0 w' → Calls Tryz.prog 23 #[.agg #[c0, c1, c2, c3, c4]] w' fun e w'' => e = .returned (.bool (dotsF f)) ∧ Below w'.heap.size w' w'') := fun w' hb => l3Dots_any f B w' _ _ _ _ _ (HAF.out.keep ((HDone.out w' hb).on HR.out)).form
  have HL : Hid (∀ w', Below (w.heap.size + 1) W0 w' → Calls Tryz.prog 24 #[.agg #[c0, c1, c2, c3, c4]] w' fun e w'' => e = .returned (.bool (blankF f)) ∧ Below w'.heap.size w' w'') := fun w' hb => l3Blank_any f B w' _ _ _ _ _ (HAF.out.keep ((HDone.out w' hb).on HR.out)).form
  have HM : Hid (∀ w', Below (w.heap.size + 1) W0 w' → Calls Tryz.prog 17 #[.slice av ls.length cv, .agg #[c0, c1, c2, c3, c4]] w' fun e w'' => e = .returned (.bool (amongF ls f)) ∧ Below w'.heap.size w' w'') := fun w' hb => l3Among_any ls f B w' _ _ _ _ _ _ (HV.out.keep ((HDone.out w' hb).on HR.out)) (HAF.out.keep ((HDone.out w' hb).on HR.out)).form (HBs.out w' hb).2
  obtain ⟨rfl, rfl, ht, h2, rfl, hk⟩ := (fqAt_iff _ _ _ _ _ _ _ _).1 hA
  obtain ⟨a2, k2, rfl, -⟩ := h2
  obtain ⟨a4, k4, rfl, -, hrow⟩ := hk
  have HRow := hid hrow
  have HKEEP : Hid (∀ w', Below (w.heap.size + 1) W0 w' → w'.cell? ⟨w.heap.size, 0, none⟩ = some (.int .i64 f.sort) ∧ w'.cell? ⟨w.heap.size, 1, none⟩ = some (.string f.text) ∧ w'.cell? ⟨w.heap.size, 2, none⟩ = some (.slice a2 f.scopes.length k2) ∧ w'.cell? ⟨w.heap.size, 3, none⟩ = some (.int .i64 f.frm) ∧ w'.cell? ⟨w.heap.size, 4, none⟩ = some (.slice a4 f.kids.length k4)) := fun w' hb => yown5 (OW0.keep hb (by omega))
  obtain ⟨i0, hi, hz0, hz1, hz2⟩ := info_parts Tryz.infoFormY
  have Hi := hid hi
  have Hz0 := hid hz0
  have Hz1 := hid hz1
  have Hz2 := hid hz2
  obtain ⟨x0, x1, x2, x3, x4⟩ := yown5 OW0
  have hW0' := hW0.symm
  clear hi hz0 hz1 hz2 hA hB hrow hav ih hW0 BW0 OW0
  by_cases h1 : f.sort = 1
  · have h1' : (f.sort == 1) = true := by simpa using h1
    have hne := HNE.out
    rw [if_pos h1] at hne
    have HNE := hid hne
    clear h1 hne
    cases hd : dotsF f with
    | true =>
      have HX : Hid (namesF ls f = []) := by show _ = _; rw [HNE.out, hd]; rfl
      rw [hd] at HD
      clear hd
      go_enter Tryz.func16, Tryz.ntmps16
      go_wp2_with fail
      refine (HD.out _ (Below.refl _ _)).mono ?_
      rintro e w1 ⟨rfl, hw1⟩
      have HW := hid hw1
      clear hw1
      go_wp2_with fail
      go_ret
      exact ⟨_, rfl, by rw [HX.out]; exact HQ0.out _ HW.out, HDone.out _ (HW.out.mono (by omega))⟩
    | false =>
      rw [hd] at HD
      have HDX := hid hd
      clear hd
      cases hl : blankF f with
      | true =>
        have HX : Hid (namesF ls f = []) := by show _ = _; rw [HNE.out, hl]; simp
        rw [hl] at HL
        clear hl
        go_enter Tryz.func16, Tryz.ntmps16
        go_wp2_with fail
        refine (HD.out _ (Below.refl _ _)).mono ?_
        rintro e w1 ⟨rfl, hw1⟩
        have HW := hid hw1
        have HL1 := hid (HL.out _ (hw1.mono (by omega)))
        obtain ⟨y0, y1, y2, y3, y4⟩ := HKEEP.out _ (hw1.mono (by omega))
        clear hw1 x0 x1 x2 x3 x4 hW0'
        go_wp2_with fail
        refine HL1.out.mono ?_
        rintro e w2 ⟨rfl, hw2⟩
        have HW2 := hid (HW.out.trans (hw2.mono HW.out.size))
        clear hw2
        go_wp2_with fail
        go_ret
        exact ⟨_, rfl, by rw [HX.out]; exact HQ0.out _ HW2.out, HDone.out _ (HW2.out.mono (by omega))⟩
      | false =>
        rw [hl] at HL
        have HLX := hid hl
        clear hl
        cases hm : amongF ls f with
        | true =>
          have HX : Hid (namesF ls f = []) := by show _ = _; rw [HNE.out, hm]; simp
          rw [hm] at HM
          clear hm
          go_enter Tryz.func16, Tryz.ntmps16
          go_wp2_with fail
          refine (HD.out _ (Below.refl _ _)).mono ?_
          rintro e w1 ⟨rfl, hw1⟩
          have HW := hid hw1
          have HL1 := hid (HL.out _ (hw1.mono (by omega)))
          obtain ⟨y0, y1, y2, y3, y4⟩ := HKEEP.out _ (hw1.mono (by omega))
          clear hw1 x0 x1 x2 x3 x4 hW0'
          go_wp2_with fail
          refine HL1.out.mono ?_
          rintro e w2 ⟨rfl, hw2⟩
          have HW2 := hid (HW.out.trans (hw2.mono HW.out.size))
          have HM2 := hid (HM.out _ (HW2.out.mono (by omega)))
          obtain ⟨z0, z1, z2, z3, z4⟩ := HKEEP.out _ (HW2.out.mono (by omega))
          clear hw2 y0 y1 y2 y3 y4
          go_wp2_with fail
          refine HM2.out.mono ?_
          rintro e w3 ⟨rfl, hw3⟩
          have HW3 := hid (HW2.out.trans (hw3.mono HW2.out.size))
          clear hw3
          go_wp2_with fail
          go_ret
          exact ⟨_, rfl, by rw [HX.out]; exact HQ0.out _ HW3.out, HDone.out _ (HW3.out.mono (by omega))⟩
        | false =>
          have HX : Hid (namesF ls f = [f]) := by show _ = _; rw [HNE.out, hm, HDX.out, HLX.out]; rfl
          rw [hm] at HM
          clear hm
          go_enter Tryz.func16, Tryz.ntmps16
          go_wp2_with fail
          refine (HD.out _ (Below.refl _ _)).mono ?_
          rintro e w1 ⟨rfl, hw1⟩
          have HW := hid hw1
          have HL1 := hid (HL.out _ (hw1.mono (by omega)))
          obtain ⟨y0, y1, y2, y3, y4⟩ := HKEEP.out _ (hw1.mono (by omega))
          clear hw1 x0 x1 x2 x3 x4 hW0'
          go_wp2_with fail
          refine HL1.out.mono ?_
          rintro e w2 ⟨rfl, hw2⟩
          have HW2 := hid (HW.out.trans (hw2.mono HW.out.size))
          have HM2 := hid (HM.out _ (HW2.out.mono (by omega)))
          obtain ⟨z0, z1, z2, z3, z4⟩ := HKEEP.out _ (HW2.out.mono (by omega))
          clear hw2 y0 y1 y2 y3 y4
          go_wp2_with fail
          refine HM2.out.mono ?_
          rintro e w3 ⟨rfl, hw3⟩
          have HW3 := hid (HW2.out.trans (hw3.mono HW2.out.size))
          obtain ⟨y0, y1, y2, y3, y4⟩ := HKEEP.out _ (HW3.out.mono (by omega))
          have hs3 := HW3.out.size
          clear hw3 z0 z1 z2 z3 z4
          go_wp2_with (at_builtin; refine wpList_append_own_at _ rfl _ _ 29 rfl (w.heap.size + 1) 31 i0 _ 5 80 Tryz.underlying29 Hi.out Hz0.out Hz1.out Hz2.out rfl (by decide) _ 0 [] rfl ((HOk.out _ HW3.out).alloc _) ⟨w3.heap.size, 0, none⟩ 1 1 [.int .i64 f.sort, .string f.text, .slice a2 f.scopes.length k2, .int .i64 f.frm, .slice a4 f.kids.length k4] rfl rfl (World.news_of_block (cs := #[.int .i64 f.sort, .string f.text, .slice a2 f.scopes.length k2, .int .i64 f.frm, .slice a4 f.kids.length k4]) (heap_alloc_new _ _)) (by simp [Value.oneCell']) (by unfold maxLen; omega) (by omega) (by simp; omega) ?_; intro v' w4 hown' hg hnil hb')
          go_ret
          have hj := QRow.join (B := B) (ks := []) (ls := [f]) (fun b hb => by have := HR.out b hb; omega) (by simp; omega) ((HOk.out _ HW3.out).alloc _) (fun i hi => absurd hi (by simp)) (by simp) (qcells_one ((HAF.out.keep ((HDone.out _ (HW3.out.mono (by omega))).on HR.out)).keep ((SameOn.refl _ _).alloc (HBs.out _ (HW3.out.mono (by omega))).2 _))) (by simp [Value.oneCell']) hg hown' (fun h => by have := (hnil.1 h).2; omega)
          have hb0 := HW3.out.mono (show w.heap.size + 1 ≤ W0.heap.size by omega)
          exact ⟨_, rfl, by rw [HX.out]; exact hj.1.mono (Nat.le_succ _), HDone.out _ ((hb0.alloc (by omega) _).trans hj.2)⟩
  have h1' : (f.sort == 1) = false := by simpa using h1
  have hne := HNE.out
  rw [if_neg h1] at hne
  have HNE := hid hne
  have HNK := hid (fun (k : Nat) (hk : k < f.kids.length) => show (namesS ls (f.kids.take k)).length + (namesF ls f.kids[k]).length ≤ 1048577 by
    have e := namesS_take ls f.kids k hk
    have h1 := namesS_len ls (f.kids.take (k + 1)) fun x _ => namesF_len ls x.sz x (Nat.le_refl _)
    have h2 := szs_takeF f.kids (k + 1)
    have h3 := HS.out
    rw [e, List.length_append] at h1
    omega)
  have HGet : Hid (∀ w', Below (w.heap.size + 1) W0 w' → ∀ i (hi : i < f.kids.length), ∃ b o, a4 = some ⟨b, o, none⟩ ∧ B b ∧ ∃ e0 e1 e2 e3 e4, w'.cell? ⟨b, o + i * 5, none⟩ = some e0 ∧ w'.cell? ⟨b, o + i * 5 + 1, none⟩ = some e1 ∧ w'.cell? ⟨b, o + i * 5 + 2, none⟩ = some e2 ∧ w'.cell? ⟨b, o + i * 5 + 3, none⟩ = some e3 ∧ w'.cell? ⟨b, o + i * 5 + 4, none⟩ = some e4 ∧ FqAt B w' f.kids[i] e0 e1 e2 e3 e4) := fun w' hb i hi => by
    rcases HRow.out with h | ⟨b, o, e1, e2, e3⟩
    · rw [h] at hi; simp at hi
    · obtain ⟨k0, k1, k2, k3, k4, q0, q1, q2, q3, q4, q5⟩ := (e3.keep ((HDone.out w' hb).on HR.out) e2) i hi
      exact ⟨b, o, e1, e2, k0, k1, k2, k3, k4, q0, q1, q2, q3, q4, q5⟩
  have hkl : f.kids.length ≤ 1048577 := by have h1 := HS.out; have h2 := fszs_len f.kids; omega
  clear h1 hne HD HL HM
  go_enter Tryz.func16, Tryz.ntmps16
  go_wp2_with fail
  go_loopw [5, 6] (fun u i wr => ∃ k : Nat, k ≤ f.kids.length ∧ i = .int .i64 k ∧ Hid (QRow B wr (w.heap.size + 1) u (namesS ls (f.kids.take k))) ∧ Hid (Below (w.heap.size + 1) W0 wr)) (fun _ i _ => f.kids.length - (intOf i).toNat)
  case atStart =>
    refine ⟨0, Nat.zero_le _, rfl, ?_, Below.refl _ _⟩
    exact ⟨_, _, [], rfl, HO0.out, fun i hi => absurd hi (by simp [namesS]), by simp⟩
  case round =>
    obtain ⟨k, hk, rfl, HQ, HB⟩ := hrel
    obtain ⟨y0, y1, y2, y3, y4⟩ := HKEEP.out _ HB.out
    obtain ⟨g, cap, cs, rfl, hr1, hr2, hr3⟩ := HQ.out
    by_cases hlt : k < f.kids.length
    · obtain ⟨b', o', hab, hb', e0, e1, e2, e3, e4, g0, g1, g2, g3, g4, hfq⟩ := HGet.out _ HB.out k hlt
      subst hab
      have HSB := hid (HBs.out _ HB.out)
      have hck : f.kids[k].sz ≤ 1048577 := by have h1 := Fm.szs_get f.kids k hlt; have h2 := HS.out; omega
      have hzk : f.kids[k].sz ≤ n := by have h1 := Fm.szs_get f.kids k hlt; have h2 := HS.out; omega
      have HNk := hid (HI.out f.kids[k] hzk hck ls B wr _ _ _ _ _ _ hfq (HV.out.keep ((HDone.out _ HB.out).on HR.out)) HSB.out.2)
      have HNT := hid (namesS_take ls f.kids k hlt)
      have hbd := HNK.out k hlt
      clear hfq hck hzk hr1 hr2 hr3
      go_wp2_with fail
      refine HNk.out.mono ?_
      rintro e w1 ⟨u, rfl, ⟨gu, cu, cs2, rfl, hs1, hs2, hs3⟩, hw1⟩
      have HW1 := hid hw1
      have HS1 := hid hs1
      have HS2 := hid hs2
      have HS3 := hid hs3
      obtain ⟨g', cap', cs, he, hr1, hr2, hr3⟩ := HQ.out.keep hw1 HSB.out.2
      cases he
      have HR1 := hid hr1
      have HR2 := hid hr2
      have HR3 := hid hr3
      have hsz := hw1.size
      have hsz0 := HSB.out.1
      clear hw1 hs1 hs2 hs3 hr1 hr2 hr3
      go_wp2_with (at_builtin; refine wpList_append_own_at _ rfl _ _ 29 rfl (w.heap.size + 1) 31 i0 _ 5 80 Tryz.underlying29 Hi.out Hz0.out Hz1.out Hz2.out rfl (by decide) _ (namesS ls (f.kids.take k)).length cs rfl HR1.out ⟨gu, 0, none⟩ (namesF ls f.kids[k]).length cu cs2 rfl HS1.out.1 (row_news HS1.out) HS3.out (by unfold maxLen; omega) (by omega) (by omega) ?_; intro v' w4 hown' hg hnil hb')
      have hj := QRow.join (B := B) (fun b hb => by have := HR.out b hb; omega) (by omega) HR1.out HR2.out HR3.out HS2.out HS3.out hg hown' (fun h => by have := (hnil.1 h).1; cases this)
      rw [← HNT.out] at hj
      exact ⟨⟨k + 1, by omega, by go_num, hj.1, (HB.out.trans (HW1.out.mono (by omega))).trans hj.2⟩, by simp [intOf]; omega⟩
    · have hkk : k = f.kids.length := by omega
      rw [hkk, List.take_length, ← HNE.out] at HQ
      rw [hkk, List.take_length, ← HNE.out]
      clear hr1 hr2 hr3
      go_wp2_with fail
      go_ret
      exact ⟨_, rfl, HQ.out.mono (Nat.le_succ _), HDone.out _ HB.out⟩

theorem namM_all : ∀ n, NamM n
  | 0 => fun f hf => by have := Fm.sz_kids f; omega
  | n + 1 => namM_of n (namM_all n)
end Go.Proofs.YthlacjabelpehaaGreatDoor
