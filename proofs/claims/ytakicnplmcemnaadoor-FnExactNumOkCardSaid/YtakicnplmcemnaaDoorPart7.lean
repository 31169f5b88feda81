/-
  The program's openNum: a number as a fraction. Condition: the table of powers stands.
  The model's l11Div: what comes of dividing numerals, and what is left. Condition: numerals of at most 10,000 digits, the second above nought.
-/
import Derived.Test.YtakicnplmcemnaaDoorPart5
import Derived.Test.YtakicnplmcemnaaDoorPart6
import Derived.Deep.RegionHeld3
import Derived.Deep.DeepCutAuto
namespace Go.Proofs.YtakicnplmcemnaaDoor
open Go.RowKit Go.Siskin

abbrev boxN (neg : Bool) (up down : ByteArray) : Obj := .cells #[.bool neg, .string up, .string down] 26
abbrev boxF : Obj := .cells #[.bool false, .slice none 0 0, .slice none 0 0] 46

theorem own3V {w : World} {g : Nat} {e : TypeId} {a b c : Value} (h : Own w g e #[a, b, c]) : (w.cell? ⟨g, 0, none⟩ = some a ∧ w.cell? ⟨g, 1, none⟩ = some b ∧ w.cell? ⟨g, 2, none⟩ = some c) ∧ w.frozen? ⟨g, 0, none⟩ = false ∧ w.frozen? ⟨g, 1, none⟩ = false ∧ w.frozen? ⟨g, 2, none⟩ = false := ⟨⟨h.cell 0, h.cell 1, h.cell 2⟩, h.frozen 0, h.frozen 1, h.frozen 2⟩

/-- What of the two boxes stands. -/
theorem boxesV {w W : World} {neg : Bool} {up down : ByteArray} (h : Below (w.heap.size + 2) ((w.alloc (boxN neg up down)).alloc boxF) W) : Own W w.heap.size 26 #[.bool neg, .string up, .string down] ∧ Own W (w.heap.size + 1) 46 #[.bool false, .slice none 0 0, .slice none 0 0] ∧ Below w.heap.size w W := by
  have h1 : Own ((w.alloc (boxN neg up down)).alloc boxF) w.heap.size 26 #[.bool neg, .string up, .string down] := (Below.heap_alloc _ _ _ (by simp)).trans (own_new w _ _)
  have h2 := own_new (w.alloc (boxN neg up down)) #[.bool false, .slice none 0 0, .slice none 0 0] 46
  rw [World.size_alloc] at h2
  exact ⟨h1.keep h (by omega), h2.keep h (by omega), (((Below.refl _ _).alloc (Nat.le_refl _) _).alloc (by simp) _).trans (h.mono (by omega))⟩

set_option maxRecDepth 20000 in
set_option maxHeartbeats 4000000 in
theorem openNum_text (neg : Bool) (up down : ByteArray) (w : World) (hu : up.size ≤ maxLen) (hd : down.size ≤ maxLen) (hn : ¬ ((DecP up ∧ up.size ≤ 60) ∧ (DecP down ∧ down.size ≤ 60))) :
    Calls Tryd.prog 35 #[.agg #[.bool neg, .string up, .string down]] w fun e w' => e = .returned (.tuple #[.agg #[.bool false, .slice none 0 0, .slice none 0 0], .bool false]) ∧ Below w.heap.size w w' := by
  have HB0 : Hid (Below (w.heap.size + 2) ((w.alloc (boxN neg up down)).alloc boxF) ((w.alloc (boxN neg up down)).alloc boxF)) := Below.refl _ _
  have HBx := hid (boxesV HB0.out)
  obtain ⟨⟨n0, n1, n2⟩, -⟩ := own3V HBx.out.1
  obtain ⟨⟨r0, r1, r2⟩, q0, q1, q2⟩ := own3V HBx.out.2.1
  by_cases h1 : DecP up ∧ up.size ≤ 60
  · have HU := hid (fun w => isDecimals_any up w hu true ⟨fun _ => h1, fun _ => rfl⟩)
    have h2 : ¬ (DecP down ∧ down.size ≤ 60) := fun h => hn ⟨h1, h⟩
    have HD := hid (fun w => isDecimals_any down w hd false ⟨fun h => (by cases h), fun h => absurd h h2⟩)
    clear h1 h2 hn
    go_enter Tryd.func35, Tryd.ntmps35
    go_wp2_with fail
    refine (HU.out _).mono ?_
    rintro e w' ⟨rfl, hw⟩
    subst hw
    go_wp2_with fail
    refine (HD.out _).mono ?_
    rintro e w' ⟨rfl, hw⟩
    subst hw
    go_wp2_with fail
    refine bodyPost_ret (v := .tuple #[.agg #[.bool false, .slice none 0 0, .slice none 0 0], .bool false]) ?_ rfl ⟨rfl, ?_⟩
    · simp [results, Tryd.results35, go_sem, r0, r1, r2]
    · exact HBx.out.2.2
  · have HU := hid (fun w => isDecimals_any up w hu false ⟨fun h => (by cases h), fun h => absurd h h1⟩)
    clear h1 hn
    go_enter Tryd.func35, Tryd.ntmps35
    go_wp2_with fail
    refine (HU.out _).mono ?_
    rintro e w' ⟨rfl, hw⟩
    subst hw
    go_wp2_with fail
    refine bodyPost_ret (v := .tuple #[.agg #[.bool false, .slice none 0 0, .slice none 0 0], .bool false]) ?_ rfl ⟨rfl, ?_⟩
    · simp [results, Tryd.results35, go_sem, r0, r1, r2]
    · exact HBx.out.2.2

theorem nG_digits {v : Nat} (h : Lib.nDigits v ≤ 60) : nG v ≤ 1000 := by
  unfold nG; split <;> omega

/-- What makes two numerals a number. -/
def OkUD (neg : Bool) (u d : Nat) : Prop := d ≠ 0 ∧ ¬ (neg = true ∧ u = 0) ∧ Nat.gcd u d = 1

/-- A fraction's box is no row of groups. -/
theorem natA_box {w : World} {v : Value} {gs : List Nat} {fb : Nat} {e : TypeId} (h : NatA w v gs) (ho : Own w fb e #[.bool false, .slice none 0 0, .slice none 0 0]) (x y z : Value) :
    NatA (((w.setCell ⟨fb, 0, none⟩ x).setCell ⟨fb, 1, none⟩ y).setCell ⟨fb, 2, none⟩ z) v gs := by
  obtain ⟨a, cap, e1, h1, h2, h3⟩ := h
  refine ⟨a, cap, e1, h1, h2, ?_⟩
  rcases h3 with h3 | ⟨b, o, e2, hb, hc⟩
  · exact Or.inl h3
  · by_cases hg : gs = []
    · exact Or.inl hg
    · have hne : b ≠ fb := by
        rintro rfl
        have hl : 0 < gs.length := List.length_pos_iff.2 hg
        have h := hc 0 hl
        rw [Own.cell ho (o + 0)] at h
        rcases o with _ | _ | _ | o
        · simp at h
        · simp at h
        · simp at h
        · simp at h
      refine Or.inr ⟨b, o, e2, by simpa [World.setCell] using hb, fun i hi => ?_⟩
      rw [← hc i hi]
      refine World.cell?_of_block (w := w) ?_
      rw [Below.heap_setCell _ _ _ _ hne, Below.heap_setCell _ _ _ _ hne, Below.heap_setCell _ _ _ _ hne]

set_option maxRecDepth 20000 in
set_option maxHeartbeats 4000000 in
theorem openNum_dec (neg : Bool) (u d : Nat) (w : World) (hu : Lib.nDigits u ≤ 60) (hd : Lib.nDigits d ≤ 60) (hP : Pow9 w) :
    Calls Tryd.prog 35 #[.agg #[.bool neg, .string (dec u), .string (dec d)]] w fun e w' => ∃ F b, e = .returned (.tuple #[F, .bool b]) ∧ Below w.heap.size w w' ∧
      ((b = true ∧ OkUD neg u d ∧ ∃ vu vd, F = .agg #[.bool neg, vu, vd] ∧ NatA w' vu (grp u) ∧ NatA w' vd (grp d)) ∨ (b = false ∧ ¬ OkUD neg u d ∧ F = .agg #[.bool false, .slice none 0 0, .slice none 0 0])) := by
  have HB : Hid (Below (w.heap.size + 2) ((w.alloc (boxN neg (dec u) (dec d))).alloc boxF) ((w.alloc (boxN neg (dec u) (dec d))).alloc boxF)) := Below.refl _ _
  have HBx : Hid (∀ W, Below (w.heap.size + 2) ((w.alloc (boxN neg (dec u) (dec d))).alloc boxF) W → Own W w.heap.size 26 #[.bool neg, .string (dec u), .string (dec d)] ∧ Own W (w.heap.size + 1) 46 #[.bool false, .slice none 0 0, .slice none 0 0] ∧ Below w.heap.size w W) := fun W h => boxesV h
  have hsu : (dec u).size ≤ 60 := by rw [dec_size]; exact hu
  have hsd : (dec d).size ≤ 60 := by rw [dec_size]; exact hd
  have HU := hid (fun w => isDecimals_any (dec u) w (by unfold maxLen; omega) true ⟨fun _ => ⟨(decP_iff _).2 ⟨u, rfl⟩, hsu⟩, fun _ => rfl⟩)
  have HD := hid (fun w => isDecimals_any (dec d) w (by unfold maxLen; omega) true ⟨fun _ => ⟨(decP_iff _).2 ⟨d, rfl⟩, hsd⟩, fun _ => rfl⟩)
  have HNU : Hid (∀ W, Below w.heap.size w W → Calls Tryd.prog 73 #[.string (dec u)] W fun e W' => ∃ v, e = .returned v ∧ NatA W' v (grp u) ∧ Below W.heap.size W W') := fun W h => naturalIn_any u W (by omega) (hP.below h (Nat.le_refl _))
  have HND : Hid (∀ W, Below w.heap.size w W → Calls Tryd.prog 73 #[.string (dec d)] W fun e W' => ∃ v, e = .returned v ∧ NatA W' v (grp d) ∧ Below W.heap.size W W') := fun W h => naturalIn_any d W (by omega) (hP.below h (Nat.le_refl _))
  obtain ⟨⟨n0, n1, n2⟩, -⟩ := own3V (HBx.out _ HB.out).1
  clear hsu hsd hP
  generalize HBU : dec u = up at *
  generalize HBD : dec d = down at *
  have HEu := hid HBU
  have HEd := hid HBD
  clear HBU HBD
  go_enter Tryd.func35, Tryd.ntmps35
  go_wp2_with fail
  refine (HU.out _).mono ?_
  rintro e w' ⟨rfl, hw⟩
  subst hw
  go_wp2_with fail
  refine (HD.out _).mono ?_
  rintro e w' ⟨rfl, hw⟩
  subst hw
  go_wp2_with fail
  go_cut [4] (fun f wc => ∃ (fb : Nat) (ua da : Option Addr) (uc dc : Nat), f = .pointer (some ⟨fb, 0, none⟩) ∧ Hid (Own wc fb 46 #[.bool neg, .slice ua (grp u).length uc, .slice da (grp d).length dc]) ∧ Hid (w.heap.size + 2 ≤ fb) ∧ Hid (NatA wc (.slice ua (grp u).length uc) (grp u)) ∧ Hid (NatA wc (.slice da (grp d).length dc) (grp d)) ∧ Hid (Below (w.heap.size + 2) ((w.alloc (boxN neg up down)).alloc boxF) wc))
  case first =>
    have C1 : Hid (∀ W, Below (w.heap.size + 2) ((w.alloc (boxN neg up down)).alloc boxF) W → Calls Tryd.prog 73 #[.string up] W fun e W' => ∃ ua uc, e = .returned (.slice ua (grp u).length uc) ∧ NatA W' (.slice ua (grp u).length uc) (grp u) ∧ Below W.heap.size W W' ∧ Below (w.heap.size + 2) ((w.alloc (boxN neg up down)).alloc boxF) W') := fun W hb => by
      refine (HNU.out W (HBx.out W hb).2.2).mono ?_
      rintro e W' ⟨v, rfl, h1, h2⟩
      obtain ⟨ua, uc, rfl⟩ := natA_formR h1
      exact ⟨ua, uc, rfl, h1, h2, hb.trans (h2.mono (Nat.le_trans (by simp) hb.size))⟩
    have C2 : Hid (∀ W, Below (w.heap.size + 2) ((w.alloc (boxN neg up down)).alloc boxF) W → Calls Tryd.prog 73 #[.string down] W fun e W' => ∃ ua uc, e = .returned (.slice ua (grp d).length uc) ∧ NatA W' (.slice ua (grp d).length uc) (grp d) ∧ Below W.heap.size W W' ∧ Below (w.heap.size + 2) ((w.alloc (boxN neg up down)).alloc boxF) W') := fun W hb => by
      refine (HND.out W (HBx.out W hb).2.2).mono ?_
      rintro e W' ⟨v, rfl, h1, h2⟩
      obtain ⟨ua, uc, rfl⟩ := natA_formR h1
      exact ⟨ua, uc, rfl, h1, h2, hb.trans (h2.mono (Nat.le_trans (by simp) hb.size))⟩
    have HK : Hid (∀ W, Below (w.heap.size + 2) ((w.alloc (boxN neg up down)).alloc boxF) W → W.cell? ⟨w.heap.size, 0, none⟩ = some (.bool neg) ∧ W.cell? ⟨w.heap.size, 1, none⟩ = some (.string up) ∧ W.cell? ⟨w.heap.size, 2, none⟩ = some (.string down)) := fun W hb => (own3V (HBx.out W hb).1).1
    have HB : Hid (Below (w.heap.size + 2) ((w.alloc (boxN neg up down)).alloc boxF) ((w.alloc (boxN neg up down)).alloc boxF).drew) := (Below.refl _ _).drew
    have HOF : Hid (Own (((w.alloc (boxN neg up down)).alloc boxF).alloc (.cells #[.bool false, .slice none 0 0, .slice none 0 0] 46)) (w.heap.size + 1 + 1) 46 #[.bool false, .slice none 0 0, .slice none 0 0]) := by
      have h := own_new ((w.alloc (boxN neg up down)).alloc boxF) #[.bool false, .slice none 0 0, .slice none 0 0] 46
      rw [World.size_alloc, World.size_alloc] at h
      exact h
    go_region_held3 (fun W => W.cell? ⟨w.heap.size, 0, none⟩ = some (.bool neg) ∧ W.cell? ⟨w.heap.size, 1, none⟩ = some (.string up) ∧ W.cell? ⟨w.heap.size, 2, none⟩ = some (.string down))
      (first
        | exact HK.out _ HB.out
        | exact HK.out _ (HB.out.alloc (Nat.le_trans (by simp) HB.out.size) _)
        | exact HK.out _ (((HB.out.setCell (p := ⟨_, 0, none⟩) (by first | exact Nat.le_refl _ | exact y3 | exact y4) _).setCell (p := ⟨_, 1, none⟩) (by first | exact Nat.le_refl _ | exact y3 | exact y4) _).setCell (p := ⟨_, 2, none⟩) (by first | exact Nat.le_refl _ | exact y3 | exact y4) _))
      (first
        | (go_at_call_of 73 (Value.string up)
           go_loud (
            refine (C1.out _ (by first | exact HB.out | exact HB.out.alloc (Nat.le_trans (by simp) HB.out.size) _)).mono ?_
            rintro e w3 ⟨ua, uc, rfl, hU, hw3, hb3⟩
            have HUa := hid hU
            have HB := hid hb3
            have y3 : w.heap.size + 2 ≤ w3.heap.size := Nat.le_trans (by simp) hb3.size
            have z3 := hw3.size
            try simp at z3
            first
              | (have OF : Hid (Own w3 (w.heap.size + 1 + 1) 46 #[.bool false, .slice none 0 0, .slice none 0 0]) := Own.keep (w := (((w.alloc (boxN neg up down)).alloc boxF).alloc (.cells #[.bool false, .slice none 0 0, .slice none 0 0] 46)).drew) HOF.out hw3 (by simp))
              | skip
            clear hU hb3 hw3))
        | (go_at_call_of 73 (Value.string down)
           go_loud (
            refine (C2.out _ (by first | exact HB.out | exact HB.out.alloc (Nat.le_trans (by simp) HB.out.size) _)).mono ?_
            rintro e w4 ⟨da, dc, rfl, hD, hw4, hb4⟩
            have HDa := hid hD
            have HUb := hid (by first | exact HUa.out.below hw4 (Nat.le_refl _) | exact (HUa.out.alloc _).below hw4 (Nat.le_refl _))
            have HB := hid hb4
            have z4 := hw4.size
            try simp at z4
            have y4 : w.heap.size + 2 ≤ w4.heap.size := Nat.le_trans (by simp) hb4.size
            first
              | (have OF2 : Own w4 (w.heap.size + 1 + 1) 46 #[.bool false, .slice none 0 0, .slice none 0 0] := OF.out.keep hw4 (by omega)
                 obtain ⟨⟨c0, c1, c2⟩, f0, f1, f2⟩ := own3V OF2
                 have OF3 := hid OF2
                 clear OF2)
              | (have OF2 : Own w4 w3.heap.size 46 #[.bool false, .slice none 0 0, .slice none 0 0] := (own_new w3 #[.bool false, .slice none 0 0, .slice none 0 0] 46).keep hw4 (by simp)
                 obtain ⟨⟨c0, c1, c2⟩, f0, f1, f2⟩ := own3V OF2
                 have OF3 := hid OF2
                 clear OF2)
              | skip
            clear hD hb4 hw4)))
    all_goals go_wp2_with fail
    all_goals go_meet
    · exact ⟨w4.heap.size, ua, da, uc, dc, rfl, own_new w4 _ _, y4, HUb.out.alloc _, HDa.out.alloc _, HB.out.alloc y4 _⟩
    · exact ⟨w3.heap.size, ua, da, uc, dc, rfl, ((OF3.out.set 0 _).set 1 _).set 2 _, y3, natA_box HUb.out OF3.out _ _ _, natA_box HDa.out OF3.out _ _ _, ((HB.out.setCell (p := ⟨_, 0, none⟩) (by first | exact Nat.le_refl _ | exact y3 | exact y4) _).setCell (p := ⟨_, 1, none⟩) (by first | exact Nat.le_refl _ | exact y3 | exact y4) _).setCell (p := ⟨_, 2, none⟩) (by first | exact Nat.le_refl _ | exact y3 | exact y4) _⟩
    · exact ⟨w.heap.size + 1 + 1, ua, da, uc, dc, rfl, ((OF3.out.set 0 _).set 1 _).set 2 _, Nat.le_refl _, natA_box HUb.out OF3.out _ _ _, natA_box HDa.out OF3.out _ _ _, ((HB.out.setCell (p := ⟨_, 0, none⟩) (by first | exact Nat.le_refl _ | exact y3 | exact y4) _).setCell (p := ⟨_, 1, none⟩) (by first | exact Nat.le_refl _ | exact y3 | exact y4) _).setCell (p := ⟨_, 2, none⟩) (by first | exact Nat.le_refl _ | exact y3 | exact y4) _⟩
  case rest =>
    obtain ⟨fb, ua, da, uc, dc, rfl, OFb, HFb, HNu, HNd, HB⟩ := hcut
    have hfb : w.heap.size + 2 ≤ fb := HFb.out
    have HX := hid (HBx.out _ HB.out)
    obtain ⟨⟨r0, r1, r2⟩, q0, q1, q2⟩ := own3V HX.out.2.1
    obtain ⟨⟨b0, b1, b2⟩, p0, p1, p2⟩ := own3V OFb.out
    have HND0 := hid (isNought_any d _ wc HNd.out)
    have HNU0 := hid (isNought_any u _ wc HNu.out)
    have HGu : Hid (nG u ≤ 1000) := nG_digits hu
    have HGd : Hid (nG d ≤ 1000) := nG_digits hd
    have HCo := hid (commonOf_any u d _ _ wc HNu.out HNd.out HGu.out HGd.out)
    by_cases hd0 : d = 0
    · have e0 : (d == 0) = true := by rw [hd0]; rfl
      rw [e0] at HND0
      have HNo : Hid (¬ OkUD neg u d) := fun h => h.1 hd0
      clear hd0 e0
      go_wp2_with fail
      refine HND0.out.mono ?_
      rintro e w' ⟨rfl, hw⟩
      obtain rfl := hw.symm
      go_wp2_with fail
      refine bodyPost_ret (v := .tuple #[.agg #[.bool false, .slice none 0 0, .slice none 0 0], .bool false]) ?_ rfl ⟨_, false, rfl, ?_, Or.inr ⟨rfl, HNo.out, rfl⟩⟩
      · simp [results, Tryd.results35, go_sem, r0, r1, r2]
      · first | exact HX.out.2.2 | exact ((HX.out.2.2.setCell (p := ⟨w.heap.size + 1, 0, none⟩) (Nat.le_succ _) _).setCell (p := ⟨w.heap.size + 1, 1, none⟩) (Nat.le_succ _) _).setCell (p := ⟨w.heap.size + 1, 2, none⟩) (Nat.le_succ _) _
    · have e0 : (d == 0) = false := by rw [beq_eq_false_iff_ne]; exact hd0
      rw [e0] at HND0
      have HD0 : Hid (d ≠ 0) := hd0
      clear hd0 e0
      cases neg with
      | false =>
        have HNN : Hid (¬ (false = true ∧ u = 0)) := fun h => by cases h.1
        go_wp2_with fail
        refine HND0.out.mono ?_
        rintro e w' ⟨rfl, hw⟩
        obtain rfl := hw.symm
        go_wp2_with fail
        refine HCo.out.mono ?_
        rintro e w5 ⟨g, rfl, hg, hw5⟩
        have HGn := hid hg
        have HB5 := hid (HB.out.trans (hw5.mono (Nat.le_trans (by simp) HB.out.size)))
        have HU5 := hid (HNu.out.below hw5 (Nat.le_refl _))
        have HD5 := hid (HNd.out.below hw5 (Nat.le_refl _))
        have HF5 : Hid (Own w5 fb 46 #[.bool false, .slice ua (grp u).length uc, .slice da (grp d).length dc]) := OFb.out.keep hw5 OFb.out.lt
        obtain ⟨ga', gc, rfl⟩ := natA_formR hg
        clear hg hw5 r0 r1 r2 q0 q1 q2 b0 b1 b2 p0 p1 p2
        have HX5 := hid (HBx.out _ HB5.out)
        obtain ⟨⟨r0, r1, r2⟩, q0, q1, q2⟩ := own3V HX5.out.2.1
        obtain ⟨⟨b0, b1, b2⟩, p0, p1, p2⟩ := own3V HF5.out
        have HOn := hid (isOne_any _ _ w5 HGn.out)
        by_cases hgcd : Nat.gcd u d = 1
        · have e1 : (Nat.gcd u d == 1) = true := by rw [hgcd]; rfl
          rw [e1] at HOn
          have HOK : Hid (OkUD false u d) := ⟨HD0.out, by first | exact HNN.out | simpa using HNN.out, hgcd⟩
          clear hgcd e1
          go_wp2_with fail
          refine HOn.out.mono ?_
          rintro e w' ⟨rfl, hw⟩
          obtain rfl := hw.symm
          go_wp2_with fail
          refine bodyPost_ret (v := .tuple #[.agg #[.bool false, .slice ua (grp u).length uc, .slice da (grp d).length dc], .bool true]) ?_ rfl ⟨_, true, rfl, ?_, Or.inl ⟨rfl, HOK.out, _, _, rfl, natA_box HU5.out HX5.out.2.1 _ _ _, natA_box HD5.out HX5.out.2.1 _ _ _⟩⟩
          · simp [results, Tryd.results35, go_sem, r0, r1, r2]
          · exact ((HX5.out.2.2.setCell (p := ⟨w.heap.size + 1, 0, none⟩) (Nat.le_succ _) _).setCell (p := ⟨w.heap.size + 1, 1, none⟩) (Nat.le_succ _) _).setCell (p := ⟨w.heap.size + 1, 2, none⟩) (Nat.le_succ _) _
        · have e1 : (Nat.gcd u d == 1) = false := by rw [beq_eq_false_iff_ne]; exact hgcd
          rw [e1] at HOn
          have HNo : Hid (¬ OkUD false u d) := fun h => hgcd h.2.2
          clear hgcd e1
          go_wp2_with fail
          refine HOn.out.mono ?_
          rintro e w' ⟨rfl, hw⟩
          obtain rfl := hw.symm
          go_wp2_with fail
          refine bodyPost_ret (v := .tuple #[.agg #[.bool false, .slice none 0 0, .slice none 0 0], .bool false]) ?_ rfl ⟨_, false, rfl, ?_, Or.inr ⟨rfl, HNo.out, rfl⟩⟩
          · simp [results, Tryd.results35, go_sem, r0, r1, r2]
          · first | exact HX5.out.2.2 | exact ((HX5.out.2.2.setCell (p := ⟨w.heap.size + 1, 0, none⟩) (Nat.le_succ _) _).setCell (p := ⟨w.heap.size + 1, 1, none⟩) (Nat.le_succ _) _).setCell (p := ⟨w.heap.size + 1, 2, none⟩) (Nat.le_succ _) _
      | true =>
        by_cases hu0 : u = 0
        · have e0 : (u == 0) = true := by rw [hu0]; rfl
          rw [e0] at HNU0
          have HNo : Hid (¬ OkUD true u d) := fun h => h.2.1 ⟨rfl, hu0⟩
          clear hu0 e0
          go_wp2_with fail
          refine HND0.out.mono ?_
          rintro e w' ⟨rfl, hw⟩
          obtain rfl := hw.symm
          go_wp2_with fail
          refine HNU0.out.mono ?_
          rintro e w' ⟨rfl, hw⟩
          obtain rfl := hw.symm
          go_wp2_with fail
          refine bodyPost_ret (v := .tuple #[.agg #[.bool false, .slice none 0 0, .slice none 0 0], .bool false]) ?_ rfl ⟨_, false, rfl, ?_, Or.inr ⟨rfl, HNo.out, rfl⟩⟩
          · simp [results, Tryd.results35, go_sem, r0, r1, r2]
          · first | exact HX.out.2.2 | exact ((HX.out.2.2.setCell (p := ⟨w.heap.size + 1, 0, none⟩) (Nat.le_succ _) _).setCell (p := ⟨w.heap.size + 1, 1, none⟩) (Nat.le_succ _) _).setCell (p := ⟨w.heap.size + 1, 2, none⟩) (Nat.le_succ _) _
        · have e0 : (u == 0) = false := by rw [beq_eq_false_iff_ne]; exact hu0
          rw [e0] at HNU0
          have HNN : Hid (¬ (true = true ∧ u = 0)) := fun h => hu0 h.2
          clear hu0 e0
          go_wp2_with fail
          refine HND0.out.mono ?_
          rintro e w' ⟨rfl, hw⟩
          obtain rfl := hw.symm
          go_wp2_with fail
          refine HNU0.out.mono ?_
          rintro e w' ⟨rfl, hw⟩
          obtain rfl := hw.symm
          go_wp2_with fail
          refine HCo.out.mono ?_
          rintro e w5 ⟨g, rfl, hg, hw5⟩
          have HGn := hid hg
          have HB5 := hid (HB.out.trans (hw5.mono (Nat.le_trans (by simp) HB.out.size)))
          have HU5 := hid (HNu.out.below hw5 (Nat.le_refl _))
          have HD5 := hid (HNd.out.below hw5 (Nat.le_refl _))
          have HF5 : Hid (Own w5 fb 46 #[.bool true, .slice ua (grp u).length uc, .slice da (grp d).length dc]) := OFb.out.keep hw5 OFb.out.lt
          obtain ⟨ga', gc, rfl⟩ := natA_formR hg
          clear hg hw5 r0 r1 r2 q0 q1 q2 b0 b1 b2 p0 p1 p2
          have HX5 := hid (HBx.out _ HB5.out)
          obtain ⟨⟨r0, r1, r2⟩, q0, q1, q2⟩ := own3V HX5.out.2.1
          obtain ⟨⟨b0, b1, b2⟩, p0, p1, p2⟩ := own3V HF5.out
          have HOn := hid (isOne_any _ _ w5 HGn.out)
          by_cases hgcd : Nat.gcd u d = 1
          · have e1 : (Nat.gcd u d == 1) = true := by rw [hgcd]; rfl
            rw [e1] at HOn
            have HOK : Hid (OkUD true u d) := ⟨HD0.out, by first | exact HNN.out | simpa using HNN.out, hgcd⟩
            clear hgcd e1
            go_wp2_with fail
            refine HOn.out.mono ?_
            rintro e w' ⟨rfl, hw⟩
            obtain rfl := hw.symm
            go_wp2_with fail
            refine bodyPost_ret (v := .tuple #[.agg #[.bool true, .slice ua (grp u).length uc, .slice da (grp d).length dc], .bool true]) ?_ rfl ⟨_, true, rfl, ?_, Or.inl ⟨rfl, HOK.out, _, _, rfl, natA_box HU5.out HX5.out.2.1 _ _ _, natA_box HD5.out HX5.out.2.1 _ _ _⟩⟩
            · simp [results, Tryd.results35, go_sem, r0, r1, r2]
            · exact ((HX5.out.2.2.setCell (p := ⟨w.heap.size + 1, 0, none⟩) (Nat.le_succ _) _).setCell (p := ⟨w.heap.size + 1, 1, none⟩) (Nat.le_succ _) _).setCell (p := ⟨w.heap.size + 1, 2, none⟩) (Nat.le_succ _) _
          · have e1 : (Nat.gcd u d == 1) = false := by rw [beq_eq_false_iff_ne]; exact hgcd
            rw [e1] at HOn
            have HNo : Hid (¬ OkUD true u d) := fun h => hgcd h.2.2
            clear hgcd e1
            go_wp2_with fail
            refine HOn.out.mono ?_
            rintro e w' ⟨rfl, hw⟩
            obtain rfl := hw.symm
            go_wp2_with fail
            refine bodyPost_ret (v := .tuple #[.agg #[.bool false, .slice none 0 0, .slice none 0 0], .bool false]) ?_ rfl ⟨_, false, rfl, ?_, Or.inr ⟨rfl, HNo.out, rfl⟩⟩
            · simp [results, Tryd.results35, go_sem, r0, r1, r2]
            · first | exact HX5.out.2.2 | exact ((HX5.out.2.2.setCell (p := ⟨w.heap.size + 1, 0, none⟩) (Nat.le_succ _) _).setCell (p := ⟨w.heap.size + 1, 1, none⟩) (Nat.le_succ _) _).setCell (p := ⟨w.heap.size + 1, 2, none⟩) (Nat.le_succ _) _
end Go.Proofs.YtakicnplmcemnaaDoor

namespace Go.Proofs.YtakicnplmcemnaaDoor
open Go.RowKit Go.Siskin

theorem cut_one (m v i : Nat) (h : i < m) : (digT m v).extract i (i + 1) = ⟨#[UInt8.ofNat (48 + v / 10 ^ (m - 1 - i) % 10)]⟩ := by
  apply ba_ext
  rw [ByteArray.data_extract, Array.toList_extract]
  show ((digL m v).toArray.toList.drop i).take (i + 1 - i) = _
  rw [List.toList_toArray, Nat.add_sub_cancel_left]
  apply List.ext_getElem
  · simp [digL]; omega
  · intro j h1 h2
    simp at h2
    subst h2
    simp [digL, Lib.dg]

set_option maxRecDepth 20000 in
set_option maxHeartbeats 2000000 in
theorem l11Div_of (a b n : Nat) (w : World) (HNa : Hid (Lib.nDigits a = n)) (hn : n ≤ 10000) (hbn : Lib.nDigits b ≤ 10000) (hb : 0 < b) :
    Calls Tryd.prog 71 #[.string (dec a), .string (dec b)] w fun e w' => e = .returned (.tuple #[.string (dec (a / b)), .string (dec (a % b))]) ∧ Below w.heap.size w w' := by
  have hla : ((dec a).size : Int) = (n : Int) := by rw [dec_size, HNa.out]
  have HCut : Hid (∀ i, i < n → (dec a).extract i (i + 1) = ⟨#[UInt8.ofNat (48 + a / 10 ^ (n - 1 - i) % 10)]⟩) := fun i hi => by unfold dec; rw [HNa.out]; exact cut_one n a i hi
  have HBp := hid hb
  have HBn := hid hbn
  obtain ⟨i0, hi, hz0, hz1, hz2⟩ := info_partsZ Tryd.infoByteZ2
  have Hi := hid hi
  have Hz0 := hid hz0
  have Hz1 := hid hz1
  have Hz2 := hid hz2
  clear hi hz0 hz1 hz2 hb hbn
  go_enter Tryd.func71, Tryd.ntmps71
  go_wp2_with fail
  go_loopw [6, 7, 8] (fun q r i wr => ∃ (k g cap : Nat), q = .slice (some ⟨g, 0, none⟩) k cap ∧ r = .string (dec (a / 10 ^ (n - k) % b)) ∧ i = .int .i64 k ∧ k ≤ n ∧ Hid (wr.ownsRow w.heap.size 5 1 (.slice (some ⟨g, 0, none⟩) k cap) k (byteL (digT k (a / 10 ^ (n - k) / b)))) ∧ Hid (Below w.heap.size w wr)) (fun _ _ i _ => n - (intOf i).toNat)
  case atStart =>
    have h0 : a / 10 ^ (n - 0) = 0 := by rw [Nat.sub_zero, ← HNa.out]; exact Nat.div_eq_of_lt (Lib.lt_pow_nDigits a)
    refine ⟨0, _, 0, rfl, ?_, rfl, Nat.zero_le _, ?_, (Below.refl _ _).alloc (Nat.le_refl _) _⟩
    · rw [h0, Nat.zero_mod, dec_small (by decide)]; rfl
    · show World.ownsRow _ _ _ _ _ _ _
      rw [h0, Nat.zero_div]
      exact World.ownsRow_made w #[] 0 (Nat.le_refl _) (Nat.zero_le _) (by simp)
  case round =>
    obtain ⟨k, g, cap, rfl, rfl, rfl, hk, HU, HB⟩ := hrel
    have hsz := HB.out.size
    by_cases hlt : k < n
    · have hst := div_step (a := a) (n := n) HBp.out hlt
      obtain ⟨r, HR⟩ : ∃ r : Nat, Hid (a / 10 ^ (n - k) % b = r) := ⟨_, rfl⟩
      obtain ⟨q, HQ⟩ : ∃ q : Nat, Hid (a / 10 ^ (n - k) / b = q) := ⟨_, rfl⟩
      obtain ⟨d, HD⟩ : ∃ d : Nat, Hid (a / 10 ^ (n - 1 - k) % 10 = d) := ⟨_, rfl⟩
      have hd10 : d < 10 := by rw [← HD.out]; exact Nat.mod_lt _ (by decide)
      have hcut := HCut.out k hlt
      rw [HD.out] at hcut
      rw [HR.out, HQ.out, HD.out] at hst
      rw [HQ.out] at HU
      rw [HR.out]
      have hrb : r < b := by rw [← HR.out]; exact Nat.mod_lt _ HBp.out
      have HST := hid hst
      have hrs : (dec r).size ≤ 10000 := by rw [dec_size]; exact Nat.le_trans (nDigits_mono (Nat.le_of_lt hrb)) HBn.out
      have HCat := hid (digT_snoc (Lib.nDigits r) r d hd10)
      obtain ⟨c, HCc⟩ : ∃ c : UInt8, Hid (UInt8.ofNat (48 + d) = c) := ⟨_, rfl⟩
      rw [HCc.out] at hcut HCat
      have HTr := hid (fun w => l11Trim_any (Lib.nDigits r + 1) (r * 10 + d) w (by rw [dec_size] at hrs; unfold maxLen; omega) (by omega) (by rw [Nat.pow_succ]; have := Lib.lt_pow_nDigits r; omega))
      rw [← HCat.out] at HTr
      clear hst
      go_wp2_with fail
      refine (HTr.out _).mono ?_
      rintro e w' ⟨rfl, hw⟩
      obtain rfl := hw.symm
      obtain ⟨R, HRR⟩ : ∃ R : Nat, Hid (r * 10 + d = R) := ⟨_, rfl⟩
      rw [HRR.out] at HST ⊢
      clear HTr HCat hcut
      go_wp2_with fail
      rename World => w1
      go_loopw [7, 9] (fun rr nn wr => ∃ j : Nat, rr = .string (dec (R - j * b)) ∧ nn = .int .u8 ((48 + j : Nat) : Int) ∧ Hid (j * b ≤ R) ∧ j ≤ 9 ∧ Hid (Below w1.heap.size w1 wr)) (fun _ nn _ => (60 - intOf nn).toNat)
      case atStart => exact ⟨0, by rw [Nat.zero_mul]; rfl, rfl, by show _ ≤ _; omega, by omega, Below.refl _ _⟩
      case round =>
        obtain ⟨j, rfl, rfl, HJ, hj, HB2⟩ := hrel
        have hs2 := HB2.out.size
        have HCm := hid (l11Cmp_any (R - j * b) b)
        by_cases hge : b ≤ R - j * b
        · have HV : Hid (0 ≤ cmpI (R - j * b) b) := by
            show _ ≤ _; unfold cmpI; rw [if_neg (by omega)]; split <;> omega
          have hj9 : j < 9 := by
            rcases Nat.lt_or_ge j 9 with h | h
            · exact h
            · exfalso
              have e : j = 9 := by omega
              subst e
              have := HST.out.2.2; omega
          have HSb := hid (fun w => l11Sub_any (R - j * b) b w (by
            have h1 : Lib.nDigits (R - j * b) ≤ Lib.nDigits b + 1 := nDigits_le (by rw [Nat.pow_succ]; have := Lib.lt_pow_nDigits b; have := HST.out.2.2; omega) (by omega)
            have := HBn.out; omega) hge)
          have HE : Hid (R - j * b - b = R - (j + 1) * b) := by show _ = _; rw [Nat.succ_mul]; omega
          rw [HE.out] at HSb
          have HJ2 : Hid ((j + 1) * b ≤ R) := by
            have h := HJ.out
            show _ ≤ _; rw [Nat.succ_mul]; omega
          obtain ⟨cv, HCV⟩ : ∃ cv : Int, Hid (cmpI (R - j * b) b = cv) := ⟨_, rfl⟩
          rw [HCV.out] at HCm
          have hcv : 0 ≤ cv := by rw [← HCV.out]; exact HV.out
          clear hge HV
          go_wp2_with fail
          refine (HCm.out _).mono ?_
          rintro e w' ⟨rfl, hw⟩
          obtain rfl := hw.symm
          go_wp2_with fail
          refine (HSb.out _).mono ?_
          rintro e w3 ⟨rfl, hw3⟩
          have HW3 := hid hw3
          clear hw3
          go_wp2_with fail
          refine ⟨⟨j + 1, rfl, by congr 1, HJ2, by omega, HB2.out.trans (HW3.out.mono hs2)⟩, by simp [intOf]; omega⟩
        · have HV : Hid (cmpI (R - j * b) b < 0) := by
            show _ < _; unfold cmpI; rw [if_pos (by omega)]; omega
          obtain ⟨cv, HCV⟩ : ∃ cv : Int, Hid (cmpI (R - j * b) b = cv) := ⟨_, rfl⟩
          rw [HCV.out] at HCm
          have hcv : cv < 0 := by rw [← HCV.out]; exact HV.out
          have HJq : Hid (R / b = j ∧ R % b = R - j * b) := by
            have h := HJ.out
            have hb := HBp.out
            have e : R = b * j + (R - j * b) := by rw [Nat.mul_comm b j]; omega
            generalize R - j * b = z at *
            constructor
            · rw [e, Nat.mul_add_div hb, Nat.div_eq_of_lt (by omega), Nat.add_zero]
            · rw [e, Nat.mul_add_mod, Nat.mod_eq_of_lt (by omega)]
          have HU2 : Hid (wr.ownsRow w.heap.size 5 1 (.slice (some ⟨g, 0, none⟩) k cap) k (byteL (digT k q))) := World.ownsRow.kept (row := none) HU.out ⟨HB2.out.os, HB2.out.tape, HB2.out.output, HB2.out.size, fun i hi _ => HB2.out.block i hi⟩ (Or.inr (by simp [Value.ownBlock]))
          have hsz2 : w.heap.size ≤ wr.heap.size := by omega
          clear hge HV
          go_wp2_with fail
          refine (HCm.out _).mono ?_
          rintro e w' ⟨rfl, hw⟩
          obtain rfl := hw.symm
          go_wp2_with (at_builtin; go_loud (refine wpList_append_lies _ rfl _ _ _ rfl w.heap.size 5 i0 (.int .u8 0) 1 1 Tryd.underlying67 Hi.out Hz0.out Hz1.out Hz2.out rfl (by decide) _ k (byteL (digT k q)) rfl (HU2.out.alloc _) ⟨wr.heap.size, 0, none⟩ 1 1 [.int .u8 ((48 + j : Nat) : Int)] rfl rfl (cell_one_newZ _ _ _) (by simp [Value.oneCell']) (by omega) (by unfold maxLen; omega) (by omega) (by simp; omega) (wr.heap.size + 1) (by simp) ?_; intro gg cc w4 hown' hg hat hgl; have hall := (World.grownBy_alloc wr _ _).trans hg))
          have hlow : ∀ g', (Value.slice (some ⟨g, 0, none⟩) k cap).ownBlock = some g' → w.heap.size ≤ g' := fun g' e => (HU2.out.lt g' e).1
          refine ⟨⟨k + 1, gg, cc, rfl, ?_, by go_num, by omega, ?_, (HB.out.trans (HB2.out.mono hsz)).grown hall hsz2 hlow⟩, by simp [intOf]; omega⟩
          · rw [HST.out.2.1, HJq.out.2]
          · show World.ownsRow _ _ _ _ _ _ _
            rw [HST.out.1, HJq.out.1, byteL_snoc k q j (by omega)]
            exact hown'
    · have hkn : k = n := by omega
      subst hkn
      have he : a / 10 ^ (k - k) = a := by rw [Nat.sub_self, Nat.pow_zero, Nat.div_one]
      rw [he] at HU ⊢
      have HCv := hid (conv_back wr w.heap.size k g cap _ HU.out)
      have HTr := hid (fun w => l11Trim_any k (a / b) w (by unfold maxLen; omega) (by have := Lib.nDigits_pos a; have := HNa.out; omega) (Nat.lt_of_le_of_lt (Nat.div_le_self _ _) (by rw [← HNa.out]; exact Lib.lt_pow_nDigits a)))
      have hcv := HCv.out
      clear he
      go_wp2_with fail
      refine (HTr.out _).mono ?_
      rintro e w' ⟨rfl, hw⟩
      obtain rfl := hw.symm
      go_wp2_with fail
      go_ret2
      exact ⟨rfl, HB.out⟩
theorem l11Div_any (a b : Nat) (w : World) (hn : Lib.nDigits a ≤ 10000) (hbn : Lib.nDigits b ≤ 10000) (hb : 0 < b) :
    Calls Tryd.prog 71 #[.string (dec a), .string (dec b)] w fun e w' => e = .returned (.tuple #[.string (dec (a / b)), .string (dec (a % b))]) ∧ Below w.heap.size w w' := l11Div_of a b _ w rfl hn hbn hb

/-- The greatest number that divides both. -/
theorem gcd_step (a b : Nat) : Nat.gcd a b = Nat.gcd b (a % b) := by rw [Nat.gcd_comm a b, Nat.gcd_rec b a, Nat.gcd_comm]

set_option maxRecDepth 20000 in
set_option maxHeartbeats 2000000 in
theorem l11Gcd_any (a b : Nat) (w : World) (hn : Lib.nDigits a ≤ 10000) (hbn : Lib.nDigits b ≤ 10000) :
    Calls Tryd.prog 34 #[.string (dec a), .string (dec b)] w fun e w' => e = .returned (.string (dec (Nat.gcd a b))) ∧ Below w.heap.size w w' := by
  obtain ⟨G, HG⟩ : ∃ G : Nat, Hid (Nat.gcd a b = G) := ⟨_, rfl⟩
  rw [HG.out]
  have HN := hid hn
  have HBn := hid hbn
  have hz : dec 0 = ⟨#[48]⟩ := by rw [dec_small (by decide)]; rfl
  have HZ := hid hz
  clear hn hbn hz
  go_enter Tryd.func34, Tryd.ntmps34
  go_wp2_with fail
  go_loopw [0, 1] (fun x y wr => ∃ (u v : Nat), x = .string (dec u) ∧ y = .string (dec v) ∧ Hid (Nat.gcd u v = G) ∧ Hid (Lib.nDigits u ≤ 10000) ∧ Hid (Lib.nDigits v ≤ 10000) ∧ Hid (Below w.heap.size w wr)) (fun _ y _ => match y with | .string t => valT t | _ => 0)
  case atStart => exact ⟨a, b, rfl, rfl, HG.out, HN.out, HBn.out, Below.refl _ _⟩
  case round =>
    obtain ⟨u, v, rfl, rfl, HGu, HNu, HNv, HB⟩ := hrel
    have hsz := HB.out.size
    by_cases hv : v = 0
    · subst hv
      have hne : ((dec 0).toList == [48]) = true := by rw [HZ.out, Go.ByteArray.toList_eq]; rfl
      have HU : Hid (u = G) := by rw [← HGu.out]; exact (Nat.gcd_zero_right u).symm
      go_wp2_with fail
      go_ret
      exact ⟨ret_strz (by rw [HU.out]), HB.out⟩
    · have hne : ((dec v).toList == [48]) = false := by
        rw [beq_eq_false_iff_ne]
        intro e
        rw [Go.ByteArray.toList_eq] at e
        have h2 : dec v = dec 0 := by rw [HZ.out]; exact ba_ext e
        exact hv (dec_inj h2)
      have HD := hid (fun w => l11Div_any u v w HNu.out HNv.out (by omega))
      have HM : Hid (valT (dec (u % v)) < valT (dec v)) := by
        show _ < _
        rw [valT_dec, valT_dec]
        exact Nat.mod_lt _ (by omega)
      have HGs : Hid (Nat.gcd v (u % v) = G) := by show _ = _; rw [← gcd_step]; exact HGu.out
      have HN2 : Hid (Lib.nDigits (u % v) ≤ 10000) := by
        show _ ≤ _
        exact Nat.le_trans (nDigits_mono (Nat.le_of_lt (Nat.mod_lt _ (by omega)))) HNv.out
      clear hv
      go_wp2_with fail
      refine (HD.out _).mono ?_
      rintro e w2 ⟨rfl, hw⟩
      have HW := hid hw
      clear hw
      go_wp2_with fail
      refine ⟨⟨v, u % v, rfl, rfl, HGs, HNv, HN2, HB.out.trans (HW.out.mono hsz)⟩, ?_⟩
      exact HM.out
end Go.Proofs.YtakicnplmcemnaaDoor
