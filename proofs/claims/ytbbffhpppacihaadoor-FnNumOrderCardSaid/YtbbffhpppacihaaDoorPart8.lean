/-
  The program's openNum: a number as a fraction. Condition: the table of powers stands.
  The program's whole numbers of any size: times. Condition: the groups lie in memory as NatA says; at most 2,000 groups.
-/
import Derived.Test.YtbbffhpppacihaaDoorPart6
import Derived.Test.YtbbffhpppacihaaDoorPart7
import Derived.Deep.RegionHeld3
import Derived.Deep.DeepCutAuto
import Derived.Test.YtbbffhpppacihaaDoorPart5
namespace Go.Proofs.YtbbffhpppacihaaDoor
open Go.RowKit Go.Siskin

abbrev boxN (neg : Bool) (up down : ByteArray) : Obj := .cells #[.bool neg, .string up, .string down] 25
abbrev boxF : Obj := .cells #[.bool false, .slice none 0 0, .slice none 0 0] 71

theorem own3V {w : World} {g : Nat} {e : TypeId} {a b c : Value} (h : Own w g e #[a, b, c]) : (w.cell? ⟨g, 0, none⟩ = some a ∧ w.cell? ⟨g, 1, none⟩ = some b ∧ w.cell? ⟨g, 2, none⟩ = some c) ∧ w.frozen? ⟨g, 0, none⟩ = false ∧ w.frozen? ⟨g, 1, none⟩ = false ∧ w.frozen? ⟨g, 2, none⟩ = false := ⟨⟨h.cell 0, h.cell 1, h.cell 2⟩, h.frozen 0, h.frozen 1, h.frozen 2⟩

/-- What of the two boxes stands. -/
theorem boxesV {w W : World} {neg : Bool} {up down : ByteArray} (h : Below (w.heap.size + 2) ((w.alloc (boxN neg up down)).alloc boxF) W) : Own W w.heap.size 25 #[.bool neg, .string up, .string down] ∧ Own W (w.heap.size + 1) 71 #[.bool false, .slice none 0 0, .slice none 0 0] ∧ Below w.heap.size w W := by
  have h1 : Own ((w.alloc (boxN neg up down)).alloc boxF) w.heap.size 25 #[.bool neg, .string up, .string down] := (Below.heap_alloc _ _ _ (by simp)).trans (own_new w _ _)
  have h2 := own_new (w.alloc (boxN neg up down)) #[.bool false, .slice none 0 0, .slice none 0 0] 71
  rw [World.size_alloc] at h2
  exact ⟨h1.keep h (by omega), h2.keep h (by omega), (((Below.refl _ _).alloc (Nat.le_refl _) _).alloc (by simp) _).trans (h.mono (by omega))⟩

set_option maxRecDepth 20000 in
set_option maxHeartbeats 4000000 in
theorem openNum_text (neg : Bool) (up down : ByteArray) (w : World) (hu : up.size ≤ maxLen) (hd : down.size ≤ maxLen) (hn : ¬ ((DecP up ∧ up.size ≤ 60) ∧ (DecP down ∧ down.size ≤ 60))) :
    Calls Tryd.prog 49 #[.agg #[.bool neg, .string up, .string down]] w fun e w' => e = .returned (.tuple #[.agg #[.bool false, .slice none 0 0, .slice none 0 0], .bool false]) ∧ Below w.heap.size w w' := by
  have HB0 : Hid (Below (w.heap.size + 2) ((w.alloc (boxN neg up down)).alloc boxF) ((w.alloc (boxN neg up down)).alloc boxF)) := Below.refl _ _
  have HBx := hid (boxesV HB0.out)
  obtain ⟨⟨n0, n1, n2⟩, -⟩ := own3V HBx.out.1
  obtain ⟨⟨r0, r1, r2⟩, q0, q1, q2⟩ := own3V HBx.out.2.1
  by_cases h1 : DecP up ∧ up.size ≤ 60
  · have HU := hid (fun w => isDecimals_any up w hu true ⟨fun _ => h1, fun _ => rfl⟩)
    have h2 : ¬ (DecP down ∧ down.size ≤ 60) := fun h => hn ⟨h1, h⟩
    have HD := hid (fun w => isDecimals_any down w hd false ⟨fun h => (by cases h), fun h => absurd h h2⟩)
    clear h1 h2 hn
    go_enter Tryd.func49, Tryd.ntmps49
    go_wp2_with fail
    refine (HU.out _).mono ?_
    rintro e w' ⟨rfl, hw⟩
    subst hw
    go_wp2_with fail
    refine (HD.out _).mono ?_
    rintro e w' ⟨rfl, hw⟩
    subst hw
    go_wp2_with fail
    refine bodyPost_ret (v := .tuple #[.agg #[.bool false, .slice none 0 0, .slice none 0 0], .bool false]) ?_ rfl ⟨rfl, ?_⟩
    · simp [results, Tryd.results49, go_sem, r0, r1, r2]
    · exact HBx.out.2.2
  · have HU := hid (fun w => isDecimals_any up w hu false ⟨fun h => (by cases h), fun h => absurd h h1⟩)
    clear h1 hn
    go_enter Tryd.func49, Tryd.ntmps49
    go_wp2_with fail
    refine (HU.out _).mono ?_
    rintro e w' ⟨rfl, hw⟩
    subst hw
    go_wp2_with fail
    refine bodyPost_ret (v := .tuple #[.agg #[.bool false, .slice none 0 0, .slice none 0 0], .bool false]) ?_ rfl ⟨rfl, ?_⟩
    · simp [results, Tryd.results49, go_sem, r0, r1, r2]
    · exact HBx.out.2.2

theorem nG_digits {v : Nat} (h : Lib.nDigits v ≤ 60) : nG v ≤ 1000 := by
  unfold nG; split <;> omega

/-- What makes two numerals a number. -/
def OkUD (neg : Bool) (u d : Nat) : Prop := d ≠ 0 ∧ ¬ (neg = true ∧ u = 0) ∧ Nat.gcd u d = 1

/-- A fraction's box is no row of groups. -/
theorem natA_box {w : World} {v : Value} {gs : List Nat} {fb : Nat} {e : TypeId} (h : NatA w v gs) (ho : Own w fb e #[.bool false, .slice none 0 0, .slice none 0 0]) (x y z : Value) :
    NatA (((w.setCell ⟨fb, 0, none⟩ x).setCell ⟨fb, 1, none⟩ y).setCell ⟨fb, 2, none⟩ z) v gs := by
  obtain ⟨a, cap, e1, h1, h2, h3⟩ := h
  refine ⟨a, cap, e1, h1, h2, ?_⟩
  rcases h3 with h3 | ⟨b, o, e2, hb, hc⟩
  · exact Or.inl h3
  · by_cases hg : gs = []
    · exact Or.inl hg
    · have hne : b ≠ fb := by
        rintro rfl
        have hl : 0 < gs.length := List.length_pos_iff.2 hg
        have h := hc 0 hl
        rw [Own.cell ho (o + 0)] at h
        rcases o with _ | _ | _ | o
        · simp at h
        · simp at h
        · simp at h
        · simp at h
      refine Or.inr ⟨b, o, e2, by simpa [World.setCell] using hb, fun i hi => ?_⟩
      rw [← hc i hi]
      refine World.cell?_of_block (w := w) ?_
      rw [Below.heap_setCell _ _ _ _ hne, Below.heap_setCell _ _ _ _ hne, Below.heap_setCell _ _ _ _ hne]

set_option maxRecDepth 20000 in
set_option maxHeartbeats 4000000 in
theorem openNum_dec (neg : Bool) (u d : Nat) (w : World) (hu : Lib.nDigits u ≤ 60) (hd : Lib.nDigits d ≤ 60) (hP : Pow9 w) :
    Calls Tryd.prog 49 #[.agg #[.bool neg, .string (dec u), .string (dec d)]] w fun e w' => ∃ F b, e = .returned (.tuple #[F, .bool b]) ∧ Below w.heap.size w w' ∧
      ((b = true ∧ OkUD neg u d ∧ ∃ vu vd, F = .agg #[.bool neg, vu, vd] ∧ NatA w' vu (grp u) ∧ NatA w' vd (grp d)) ∨ (b = false ∧ ¬ OkUD neg u d ∧ F = .agg #[.bool false, .slice none 0 0, .slice none 0 0])) := by
  have HB : Hid (Below (w.heap.size + 2) ((w.alloc (boxN neg (dec u) (dec d))).alloc boxF) ((w.alloc (boxN neg (dec u) (dec d))).alloc boxF)) := Below.refl _ _
  have HBx : Hid (∀ W, Below (w.heap.size + 2) ((w.alloc (boxN neg (dec u) (dec d))).alloc boxF) W → Own W w.heap.size 25 #[.bool neg, .string (dec u), .string (dec d)] ∧ Own W (w.heap.size + 1) 71 #[.bool false, .slice none 0 0, .slice none 0 0] ∧ Below w.heap.size w W) := fun W h => boxesV h
  have hsu : (dec u).size ≤ 60 := by rw [dec_size]; exact hu
  have hsd : (dec d).size ≤ 60 := by rw [dec_size]; exact hd
  have HU := hid (fun w => isDecimals_any (dec u) w (by unfold maxLen; omega) true ⟨fun _ => ⟨(decP_iff _).2 ⟨u, rfl⟩, hsu⟩, fun _ => rfl⟩)
  have HD := hid (fun w => isDecimals_any (dec d) w (by unfold maxLen; omega) true ⟨fun _ => ⟨(decP_iff _).2 ⟨d, rfl⟩, hsd⟩, fun _ => rfl⟩)
  have HNU : Hid (∀ W, Below w.heap.size w W → Calls Tryd.prog 80 #[.string (dec u)] W fun e W' => ∃ v, e = .returned v ∧ NatA W' v (grp u) ∧ Below W.heap.size W W') := fun W h => naturalIn_any u W (by omega) (hP.below h (Nat.le_refl _))
  have HND : Hid (∀ W, Below w.heap.size w W → Calls Tryd.prog 80 #[.string (dec d)] W fun e W' => ∃ v, e = .returned v ∧ NatA W' v (grp d) ∧ Below W.heap.size W W') := fun W h => naturalIn_any d W (by omega) (hP.below h (Nat.le_refl _))
  obtain ⟨⟨n0, n1, n2⟩, -⟩ := own3V (HBx.out _ HB.out).1
  clear hsu hsd hP
  generalize HBU : dec u = up at *
  generalize HBD : dec d = down at *
  have HEu := hid HBU
  have HEd := hid HBD
  clear HBU HBD
  go_enter Tryd.func49, Tryd.ntmps49
  go_wp2_with fail
  refine (HU.out _).mono ?_
  rintro e w' ⟨rfl, hw⟩
  subst hw
  go_wp2_with fail
  refine (HD.out _).mono ?_
  rintro e w' ⟨rfl, hw⟩
  subst hw
  go_wp2_with fail
  go_cut [4] (fun f wc => ∃ (fb : Nat) (ua da : Option Addr) (uc dc : Nat), f = .pointer (some ⟨fb, 0, none⟩) ∧ Hid (Own wc fb 71 #[.bool neg, .slice ua (grp u).length uc, .slice da (grp d).length dc]) ∧ Hid (w.heap.size + 2 ≤ fb) ∧ Hid (NatA wc (.slice ua (grp u).length uc) (grp u)) ∧ Hid (NatA wc (.slice da (grp d).length dc) (grp d)) ∧ Hid (Below (w.heap.size + 2) ((w.alloc (boxN neg up down)).alloc boxF) wc))
  case first =>
    have C1 : Hid (∀ W, Below (w.heap.size + 2) ((w.alloc (boxN neg up down)).alloc boxF) W → Calls Tryd.prog 80 #[.string up] W fun e W' => ∃ ua uc, e = .returned (.slice ua (grp u).length uc) ∧ NatA W' (.slice ua (grp u).length uc) (grp u) ∧ Below W.heap.size W W' ∧ Below (w.heap.size + 2) ((w.alloc (boxN neg up down)).alloc boxF) W') := fun W hb => by
      refine (HNU.out W (HBx.out W hb).2.2).mono ?_
      rintro e W' ⟨v, rfl, h1, h2⟩
      obtain ⟨ua, uc, rfl⟩ := natA_formR h1
      exact ⟨ua, uc, rfl, h1, h2, hb.trans (h2.mono (Nat.le_trans (by simp) hb.size))⟩
    have C2 : Hid (∀ W, Below (w.heap.size + 2) ((w.alloc (boxN neg up down)).alloc boxF) W → Calls Tryd.prog 80 #[.string down] W fun e W' => ∃ ua uc, e = .returned (.slice ua (grp d).length uc) ∧ NatA W' (.slice ua (grp d).length uc) (grp d) ∧ Below W.heap.size W W' ∧ Below (w.heap.size + 2) ((w.alloc (boxN neg up down)).alloc boxF) W') := fun W hb => by
      refine (HND.out W (HBx.out W hb).2.2).mono ?_
      rintro e W' ⟨v, rfl, h1, h2⟩
      obtain ⟨ua, uc, rfl⟩ := natA_formR h1
      exact ⟨ua, uc, rfl, h1, h2, hb.trans (h2.mono (Nat.le_trans (by simp) hb.size))⟩
    have HK : Hid (∀ W, Below (w.heap.size + 2) ((w.alloc (boxN neg up down)).alloc boxF) W → W.cell? ⟨w.heap.size, 0, none⟩ = some (.bool neg) ∧ W.cell? ⟨w.heap.size, 1, none⟩ = some (.string up) ∧ W.cell? ⟨w.heap.size, 2, none⟩ = some (.string down)) := fun W hb => (own3V (HBx.out W hb).1).1
    have HB : Hid (Below (w.heap.size + 2) ((w.alloc (boxN neg up down)).alloc boxF) ((w.alloc (boxN neg up down)).alloc boxF).drew) := (Below.refl _ _).drew
    have HOF : Hid (Own (((w.alloc (boxN neg up down)).alloc boxF).alloc (.cells #[.bool false, .slice none 0 0, .slice none 0 0] 71)) (w.heap.size + 1 + 1) 71 #[.bool false, .slice none 0 0, .slice none 0 0]) := by
      have h := own_new ((w.alloc (boxN neg up down)).alloc boxF) #[.bool false, .slice none 0 0, .slice none 0 0] 71
      rw [World.size_alloc, World.size_alloc] at h
      exact h
    go_region_held3 (fun W => W.cell? ⟨w.heap.size, 0, none⟩ = some (.bool neg) ∧ W.cell? ⟨w.heap.size, 1, none⟩ = some (.string up) ∧ W.cell? ⟨w.heap.size, 2, none⟩ = some (.string down))
      (first
        | exact HK.out _ HB.out
        | exact HK.out _ (HB.out.alloc (Nat.le_trans (by simp) HB.out.size) _)
        | exact HK.out _ (((HB.out.setCell (p := ⟨_, 0, none⟩) (by first | exact Nat.le_refl _ | exact y3 | exact y4) _).setCell (p := ⟨_, 1, none⟩) (by first | exact Nat.le_refl _ | exact y3 | exact y4) _).setCell (p := ⟨_, 2, none⟩) (by first | exact Nat.le_refl _ | exact y3 | exact y4) _))
      (first
        | (go_at_call_of 80 (Value.string up)
           go_loud (
            refine (C1.out _ (by first | exact HB.out | exact HB.out.alloc (Nat.le_trans (by simp) HB.out.size) _)).mono ?_
            rintro e w3 ⟨ua, uc, rfl, hU, hw3, hb3⟩
            have HUa := hid hU
            have HB := hid hb3
            have y3 : w.heap.size + 2 ≤ w3.heap.size := Nat.le_trans (by simp) hb3.size
            have z3 := hw3.size
            try simp at z3
            first
              | (have OF : Hid (Own w3 (w.heap.size + 1 + 1) 71 #[.bool false, .slice none 0 0, .slice none 0 0]) := Own.keep (w := (((w.alloc (boxN neg up down)).alloc boxF).alloc (.cells #[.bool false, .slice none 0 0, .slice none 0 0] 71)).drew) HOF.out hw3 (by simp))
              | skip
            clear hU hb3 hw3))
        | (go_at_call_of 80 (Value.string down)
           go_loud (
            refine (C2.out _ (by first | exact HB.out | exact HB.out.alloc (Nat.le_trans (by simp) HB.out.size) _)).mono ?_
            rintro e w4 ⟨da, dc, rfl, hD, hw4, hb4⟩
            have HDa := hid hD
            have HUb := hid (by first | exact HUa.out.below hw4 (Nat.le_refl _) | exact (HUa.out.alloc _).below hw4 (Nat.le_refl _))
            have HB := hid hb4
            have z4 := hw4.size
            try simp at z4
            have y4 : w.heap.size + 2 ≤ w4.heap.size := Nat.le_trans (by simp) hb4.size
            first
              | (have OF2 : Own w4 (w.heap.size + 1 + 1) 71 #[.bool false, .slice none 0 0, .slice none 0 0] := OF.out.keep hw4 (by omega)
                 obtain ⟨⟨c0, c1, c2⟩, f0, f1, f2⟩ := own3V OF2
                 have OF3 := hid OF2
                 clear OF2)
              | (have OF2 : Own w4 w3.heap.size 71 #[.bool false, .slice none 0 0, .slice none 0 0] := (own_new w3 #[.bool false, .slice none 0 0, .slice none 0 0] 71).keep hw4 (by simp)
                 obtain ⟨⟨c0, c1, c2⟩, f0, f1, f2⟩ := own3V OF2
                 have OF3 := hid OF2
                 clear OF2)
              | skip
            clear hD hb4 hw4)))
    all_goals go_wp2_with fail
    all_goals go_meet
    · exact ⟨w4.heap.size, ua, da, uc, dc, rfl, own_new w4 _ _, y4, HUb.out.alloc _, HDa.out.alloc _, HB.out.alloc y4 _⟩
    · exact ⟨w3.heap.size, ua, da, uc, dc, rfl, ((OF3.out.set 0 _).set 1 _).set 2 _, y3, natA_box HUb.out OF3.out _ _ _, natA_box HDa.out OF3.out _ _ _, ((HB.out.setCell (p := ⟨_, 0, none⟩) (by first | exact Nat.le_refl _ | exact y3 | exact y4) _).setCell (p := ⟨_, 1, none⟩) (by first | exact Nat.le_refl _ | exact y3 | exact y4) _).setCell (p := ⟨_, 2, none⟩) (by first | exact Nat.le_refl _ | exact y3 | exact y4) _⟩
    · exact ⟨w.heap.size + 1 + 1, ua, da, uc, dc, rfl, ((OF3.out.set 0 _).set 1 _).set 2 _, Nat.le_refl _, natA_box HUb.out OF3.out _ _ _, natA_box HDa.out OF3.out _ _ _, ((HB.out.setCell (p := ⟨_, 0, none⟩) (by first | exact Nat.le_refl _ | exact y3 | exact y4) _).setCell (p := ⟨_, 1, none⟩) (by first | exact Nat.le_refl _ | exact y3 | exact y4) _).setCell (p := ⟨_, 2, none⟩) (by first | exact Nat.le_refl _ | exact y3 | exact y4) _⟩
  case rest =>
    obtain ⟨fb, ua, da, uc, dc, rfl, OFb, HFb, HNu, HNd, HB⟩ := hcut
    have hfb : w.heap.size + 2 ≤ fb := HFb.out
    have HX := hid (HBx.out _ HB.out)
    obtain ⟨⟨r0, r1, r2⟩, q0, q1, q2⟩ := own3V HX.out.2.1
    obtain ⟨⟨b0, b1, b2⟩, p0, p1, p2⟩ := own3V OFb.out
    have HND0 := hid (isNought_any d _ wc HNd.out)
    have HNU0 := hid (isNought_any u _ wc HNu.out)
    have HGu : Hid (nG u ≤ 1000) := nG_digits hu
    have HGd : Hid (nG d ≤ 1000) := nG_digits hd
    have HCo := hid (commonOf_any u d _ _ wc HNu.out HNd.out HGu.out HGd.out)
    by_cases hd0 : d = 0
    · have e0 : (d == 0) = true := by rw [hd0]; rfl
      rw [e0] at HND0
      have HNo : Hid (¬ OkUD neg u d) := fun h => h.1 hd0
      clear hd0 e0
      go_wp2_with fail
      refine HND0.out.mono ?_
      rintro e w' ⟨rfl, hw⟩
      obtain rfl := hw.symm
      go_wp2_with fail
      refine bodyPost_ret (v := .tuple #[.agg #[.bool false, .slice none 0 0, .slice none 0 0], .bool false]) ?_ rfl ⟨_, false, rfl, ?_, Or.inr ⟨rfl, HNo.out, rfl⟩⟩
      · simp [results, Tryd.results49, go_sem, r0, r1, r2]
      · first | exact HX.out.2.2 | exact ((HX.out.2.2.setCell (p := ⟨w.heap.size + 1, 0, none⟩) (Nat.le_succ _) _).setCell (p := ⟨w.heap.size + 1, 1, none⟩) (Nat.le_succ _) _).setCell (p := ⟨w.heap.size + 1, 2, none⟩) (Nat.le_succ _) _
    · have e0 : (d == 0) = false := by rw [beq_eq_false_iff_ne]; exact hd0
      rw [e0] at HND0
      have HD0 : Hid (d ≠ 0) := hd0
      clear hd0 e0
      cases neg with
      | false =>
        have HNN : Hid (¬ (false = true ∧ u = 0)) := fun h => by cases h.1
        go_wp2_with fail
        refine HND0.out.mono ?_
        rintro e w' ⟨rfl, hw⟩
        obtain rfl := hw.symm
        go_wp2_with fail
        refine HCo.out.mono ?_
        rintro e w5 ⟨g, rfl, hg, hw5⟩
        have HGn := hid hg
        have HB5 := hid (HB.out.trans (hw5.mono (Nat.le_trans (by simp) HB.out.size)))
        have HU5 := hid (HNu.out.below hw5 (Nat.le_refl _))
        have HD5 := hid (HNd.out.below hw5 (Nat.le_refl _))
        have HF5 : Hid (Own w5 fb 71 #[.bool false, .slice ua (grp u).length uc, .slice da (grp d).length dc]) := OFb.out.keep hw5 OFb.out.lt
        obtain ⟨ga', gc, rfl⟩ := natA_formR hg
        clear hg hw5 r0 r1 r2 q0 q1 q2 b0 b1 b2 p0 p1 p2
        have HX5 := hid (HBx.out _ HB5.out)
        obtain ⟨⟨r0, r1, r2⟩, q0, q1, q2⟩ := own3V HX5.out.2.1
        obtain ⟨⟨b0, b1, b2⟩, p0, p1, p2⟩ := own3V HF5.out
        have HOn := hid (isOne_any _ _ w5 HGn.out)
        by_cases hgcd : Nat.gcd u d = 1
        · have e1 : (Nat.gcd u d == 1) = true := by rw [hgcd]; rfl
          rw [e1] at HOn
          have HOK : Hid (OkUD false u d) := ⟨HD0.out, by first | exact HNN.out | simpa using HNN.out, hgcd⟩
          clear hgcd e1
          go_wp2_with fail
          refine HOn.out.mono ?_
          rintro e w' ⟨rfl, hw⟩
          obtain rfl := hw.symm
          go_wp2_with fail
          refine bodyPost_ret (v := .tuple #[.agg #[.bool false, .slice ua (grp u).length uc, .slice da (grp d).length dc], .bool true]) ?_ rfl ⟨_, true, rfl, ?_, Or.inl ⟨rfl, HOK.out, _, _, rfl, natA_box HU5.out HX5.out.2.1 _ _ _, natA_box HD5.out HX5.out.2.1 _ _ _⟩⟩
          · simp [results, Tryd.results49, go_sem, r0, r1, r2]
          · exact ((HX5.out.2.2.setCell (p := ⟨w.heap.size + 1, 0, none⟩) (Nat.le_succ _) _).setCell (p := ⟨w.heap.size + 1, 1, none⟩) (Nat.le_succ _) _).setCell (p := ⟨w.heap.size + 1, 2, none⟩) (Nat.le_succ _) _
        · have e1 : (Nat.gcd u d == 1) = false := by rw [beq_eq_false_iff_ne]; exact hgcd
          rw [e1] at HOn
          have HNo : Hid (¬ OkUD false u d) := fun h => hgcd h.2.2
          clear hgcd e1
          go_wp2_with fail
          refine HOn.out.mono ?_
          rintro e w' ⟨rfl, hw⟩
          obtain rfl := hw.symm
          go_wp2_with fail
          refine bodyPost_ret (v := .tuple #[.agg #[.bool false, .slice none 0 0, .slice none 0 0], .bool false]) ?_ rfl ⟨_, false, rfl, ?_, Or.inr ⟨rfl, HNo.out, rfl⟩⟩
          · simp [results, Tryd.results49, go_sem, r0, r1, r2]
          · first | exact HX5.out.2.2 | exact ((HX5.out.2.2.setCell (p := ⟨w.heap.size + 1, 0, none⟩) (Nat.le_succ _) _).setCell (p := ⟨w.heap.size + 1, 1, none⟩) (Nat.le_succ _) _).setCell (p := ⟨w.heap.size + 1, 2, none⟩) (Nat.le_succ _) _
      | true =>
        by_cases hu0 : u = 0
        · have e0 : (u == 0) = true := by rw [hu0]; rfl
          rw [e0] at HNU0
          have HNo : Hid (¬ OkUD true u d) := fun h => h.2.1 ⟨rfl, hu0⟩
          clear hu0 e0
          go_wp2_with fail
          refine HND0.out.mono ?_
          rintro e w' ⟨rfl, hw⟩
          obtain rfl := hw.symm
          go_wp2_with fail
          refine HNU0.out.mono ?_
          rintro e w' ⟨rfl, hw⟩
          obtain rfl := hw.symm
          go_wp2_with fail
          refine bodyPost_ret (v := .tuple #[.agg #[.bool false, .slice none 0 0, .slice none 0 0], .bool false]) ?_ rfl ⟨_, false, rfl, ?_, Or.inr ⟨rfl, HNo.out, rfl⟩⟩
          · simp [results, Tryd.results49, go_sem, r0, r1, r2]
          · first | exact HX.out.2.2 | exact ((HX.out.2.2.setCell (p := ⟨w.heap.size + 1, 0, none⟩) (Nat.le_succ _) _).setCell (p := ⟨w.heap.size + 1, 1, none⟩) (Nat.le_succ _) _).setCell (p := ⟨w.heap.size + 1, 2, none⟩) (Nat.le_succ _) _
        · have e0 : (u == 0) = false := by rw [beq_eq_false_iff_ne]; exact hu0
          rw [e0] at HNU0
          have HNN : Hid (¬ (true = true ∧ u = 0)) := fun h => hu0 h.2
          clear hu0 e0
          go_wp2_with fail
          refine HND0.out.mono ?_
          rintro e w' ⟨rfl, hw⟩
          obtain rfl := hw.symm
          go_wp2_with fail
          refine HNU0.out.mono ?_
          rintro e w' ⟨rfl, hw⟩
          obtain rfl := hw.symm
          go_wp2_with fail
          refine HCo.out.mono ?_
          rintro e w5 ⟨g, rfl, hg, hw5⟩
          have HGn := hid hg
          have HB5 := hid (HB.out.trans (hw5.mono (Nat.le_trans (by simp) HB.out.size)))
          have HU5 := hid (HNu.out.below hw5 (Nat.le_refl _))
          have HD5 := hid (HNd.out.below hw5 (Nat.le_refl _))
          have HF5 : Hid (Own w5 fb 71 #[.bool true, .slice ua (grp u).length uc, .slice da (grp d).length dc]) := OFb.out.keep hw5 OFb.out.lt
          obtain ⟨ga', gc, rfl⟩ := natA_formR hg
          clear hg hw5 r0 r1 r2 q0 q1 q2 b0 b1 b2 p0 p1 p2
          have HX5 := hid (HBx.out _ HB5.out)
          obtain ⟨⟨r0, r1, r2⟩, q0, q1, q2⟩ := own3V HX5.out.2.1
          obtain ⟨⟨b0, b1, b2⟩, p0, p1, p2⟩ := own3V HF5.out
          have HOn := hid (isOne_any _ _ w5 HGn.out)
          by_cases hgcd : Nat.gcd u d = 1
          · have e1 : (Nat.gcd u d == 1) = true := by rw [hgcd]; rfl
            rw [e1] at HOn
            have HOK : Hid (OkUD true u d) := ⟨HD0.out, by first | exact HNN.out | simpa using HNN.out, hgcd⟩
            clear hgcd e1
            go_wp2_with fail
            refine HOn.out.mono ?_
            rintro e w' ⟨rfl, hw⟩
            obtain rfl := hw.symm
            go_wp2_with fail
            refine bodyPost_ret (v := .tuple #[.agg #[.bool true, .slice ua (grp u).length uc, .slice da (grp d).length dc], .bool true]) ?_ rfl ⟨_, true, rfl, ?_, Or.inl ⟨rfl, HOK.out, _, _, rfl, natA_box HU5.out HX5.out.2.1 _ _ _, natA_box HD5.out HX5.out.2.1 _ _ _⟩⟩
            · simp [results, Tryd.results49, go_sem, r0, r1, r2]
            · exact ((HX5.out.2.2.setCell (p := ⟨w.heap.size + 1, 0, none⟩) (Nat.le_succ _) _).setCell (p := ⟨w.heap.size + 1, 1, none⟩) (Nat.le_succ _) _).setCell (p := ⟨w.heap.size + 1, 2, none⟩) (Nat.le_succ _) _
          · have e1 : (Nat.gcd u d == 1) = false := by rw [beq_eq_false_iff_ne]; exact hgcd
            rw [e1] at HOn
            have HNo : Hid (¬ OkUD true u d) := fun h => hgcd h.2.2
            clear hgcd e1
            go_wp2_with fail
            refine HOn.out.mono ?_
            rintro e w' ⟨rfl, hw⟩
            obtain rfl := hw.symm
            go_wp2_with fail
            refine bodyPost_ret (v := .tuple #[.agg #[.bool false, .slice none 0 0, .slice none 0 0], .bool false]) ?_ rfl ⟨_, false, rfl, ?_, Or.inr ⟨rfl, HNo.out, rfl⟩⟩
            · simp [results, Tryd.results49, go_sem, r0, r1, r2]
            · first | exact HX5.out.2.2 | exact ((HX5.out.2.2.setCell (p := ⟨w.heap.size + 1, 0, none⟩) (Nat.le_succ _) _).setCell (p := ⟨w.heap.size + 1, 1, none⟩) (Nat.le_succ _) _).setCell (p := ⟨w.heap.size + 1, 2, none⟩) (Nat.le_succ _) _
end Go.Proofs.YtbbffhpppacihaaDoor

namespace Go.Proofs.YtbbffhpppacihaaDoor
open Go.RowKit Go.Siskin

/-- Three boxes of a call's own. -/
theorem boxes3 (w : World) (c1 c2 c3 : Array Value) (t1 t2 t3 : TypeId) {W : World} (h : Below (w.heap.size + 3) (((w.alloc (.cells c1 t1)).alloc (.cells c2 t2)).alloc (.cells c3 t3)) W) :
    Own W w.heap.size t1 c1 ∧ Own W (w.heap.size + 1) t2 c2 ∧ Own W (w.heap.size + 1 + 1) t3 c3 ∧ Below w.heap.size w W := by
  have h1 : Own (((w.alloc (.cells c1 t1)).alloc (.cells c2 t2)).alloc (.cells c3 t3)) w.heap.size t1 c1 := ((Below.heap_alloc _ _ _ (by simp; omega)).trans (Below.heap_alloc _ _ _ (by simp))).trans (own_new w _ _)
  have h2 := own_new (w.alloc (.cells c1 t1)) c2 t2
  rw [World.size_alloc] at h2
  have h2' : Own (((w.alloc (.cells c1 t1)).alloc (.cells c2 t2)).alloc (.cells c3 t3)) (w.heap.size + 1) t2 c2 := (Below.heap_alloc _ _ _ (by simp)).trans h2
  have h3 := own_new ((w.alloc (.cells c1 t1)).alloc (.cells c2 t2)) c3 t3
  rw [World.size_alloc, World.size_alloc] at h3
  exact ⟨h1.keep h (by omega), h2'.keep h (by omega), h3.keep h (by omega), ((((Below.refl _ _).alloc (Nat.le_refl _) _).alloc (by simp) _).alloc (by simp; omega) _).trans (h.mono (by omega))⟩
theorem own2V {w : World} {g : Nat} {e : TypeId} {a b : Value} (h : Own w g e #[a, b]) : (w.cell? ⟨g, 0, none⟩ = some a ∧ w.cell? ⟨g, 1, none⟩ = some b) ∧ w.frozen? ⟨g, 0, none⟩ = false ∧ w.frozen? ⟨g, 1, none⟩ = false := ⟨⟨h.cell 0, h.cell 1⟩, h.frozen 0, h.frozen 1⟩
/-- A box that is no row of groups. -/
theorem natA_boxG {w : World} {v : Value} {gs : List Nat} {fb : Nat} {e : TypeId} {cs : Array Value} (h : NatA w v gs) (ho : Own w fb e cs) (hc : ∀ (i : Nat) (n : Int), cs[i]? ≠ some (.int .u64 n)) {W : World} (hW : ∀ b, b ≠ fb → W.heap[b]? = w.heap[b]?) (hs : w.heap.size ≤ W.heap.size) : NatA W v gs := by
  obtain ⟨a, cap, e1, h1, h2, h3⟩ := h
  refine ⟨a, cap, e1, h1, h2, ?_⟩
  rcases h3 with h3 | ⟨b, o, e2, hb, hcl⟩
  · exact Or.inl h3
  · by_cases hg : gs = []
    · exact Or.inl hg
    · have hne : b ≠ fb := by
        rintro rfl
        have h := hcl 0 (List.length_pos_iff.2 hg)
        rw [Own.cell ho (o + 0)] at h
        exact hc _ _ h
      refine Or.inr ⟨b, o, e2, by omega, fun i hi => ?_⟩
      rw [← hcl i hi]
      exact World.cell?_of_block (w := w) (hW b hne)

abbrev boxI (n : Bool) (v : Value) : Obj := .cells #[.bool n, v] 50
theorem intBox_no (n : Bool) (a : Option Addr) (l c : Nat) : ∀ (i : Nat) (z : Int), (#[Value.bool n, .slice a l c] : Array Value)[i]? ≠ some (.int .u64 z) := by
  intro i z
  rcases i with _ | _ | i <;> simp
/-- A store of two cells. -/
theorem natA_set2 {w : World} {v : Value} {gs : List Nat} {fb : Nat} {e : TypeId} {n : Bool} {a : Option Addr} {l c : Nat} (h : NatA w v gs) (ho : Own w fb e #[.bool n, .slice a l c]) (x y : Value) : NatA ((w.setCell ⟨fb, 0, none⟩ x).setCell ⟨fb, 1, none⟩ y) v gs :=
  natA_boxG h ho (intBox_no n a l c) (fun b hb => by rw [Below.heap_setCell _ _ _ _ hb, Below.heap_setCell _ _ _ _ hb]) (by simp [World.setCell])

theorem own_set2 {w : World} {g r : Nat} {e : TypeId} {cs : Array Value} (h : Own w g e cs) (hne : g ≠ r) (x y : Value) : Own ((w.setCell ⟨r, 0, none⟩ x).setCell ⟨r, 1, none⟩ y) g e cs := by
  unfold Own
  rw [Below.heap_setCell _ ⟨r, 1, none⟩ _ _ hne, Below.heap_setCell _ ⟨r, 0, none⟩ _ _ hne]
  exact h
theorem own_set4 {w : World} {g r : Nat} {e : TypeId} {cs : Array Value} (h : Own w g e cs) (hne : g ≠ r) (x y z t : Value) : Own ((((w.setCell ⟨r, 0, none⟩ x).setCell ⟨r, 1, none⟩ y).setCell ⟨r, 2, none⟩ z).setCell ⟨r, 3, none⟩ t) g e cs := by
  unfold Own
  rw [Below.heap_setCell _ ⟨r, 3, none⟩ _ _ hne, Below.heap_setCell _ ⟨r, 2, none⟩ _ _ hne, Below.heap_setCell _ ⟨r, 1, none⟩ _ _ hne, Below.heap_setCell _ ⟨r, 0, none⟩ _ _ hne]
  exact h
theorem below_set2 {B r : Nat} {w W : World} (h : Below B w W) (hr : B ≤ r) (x y : Value) : Below B w ((W.setCell ⟨r, 0, none⟩ x).setCell ⟨r, 1, none⟩ y) := (h.setCell (p := ⟨r, 0, none⟩) hr x).setCell (p := ⟨r, 1, none⟩) hr y
theorem below_set4 {B r : Nat} {w W : World} (h : Below B w W) (hr : B ≤ r) (x y z t : Value) : Below B w ((((W.setCell ⟨r, 0, none⟩ x).setCell ⟨r, 1, none⟩ y).setCell ⟨r, 2, none⟩ z).setCell ⟨r, 3, none⟩ t) :=
  (((h.setCell (p := ⟨r, 0, none⟩) hr x).setCell (p := ⟨r, 1, none⟩) hr y).setCell (p := ⟨r, 2, none⟩) hr z).setCell (p := ⟨r, 3, none⟩) hr t

set_option maxRecDepth 20000 in
set_option maxHeartbeats 2000000 in
theorem intTimes_any (n1 n2 : Bool) (x y : Nat) (vx vy : Value) (w : World) (hx : NatA w vx (grp x)) (hy : NatA w vy (grp y)) (hnx : nG x ≤ 2000) (hny : nG y ≤ 2000) :
    Calls Tryd.prog 141 #[.agg #[.bool n1, vx], .agg #[.bool n2, vy]] w fun e w' => ∃ u, e = .returned (.agg #[.bool (n1 != n2), u]) ∧ NatA w' u (grp (x * y)) ∧ Below w.heap.size w w' := by
  obtain ⟨xa, xc, rfl⟩ := natA_formR hx
  obtain ⟨ya, yc, rfl⟩ := natA_formR hy
  obtain ⟨W0, HW0⟩ : ∃ W, Hid (((w.alloc (boxI n1 (.slice xa (grp x).length xc))).alloc (boxI n2 (.slice ya (grp y).length yc))).alloc (boxI false (.slice none 0 0)) = W) := ⟨_, rfl⟩
  have HX : Hid (∀ W, Below (w.heap.size + 3) W0 W → Own W w.heap.size 50 #[.bool n1, .slice xa (grp x).length xc] ∧ Own W (w.heap.size + 1) 50 #[.bool n2, .slice ya (grp y).length yc] ∧ Own W (w.heap.size + 1 + 1) 50 #[.bool false, .slice none 0 0] ∧ Below w.heap.size w W) := fun W h => by
    rw [← HW0.out] at h
    exact boxes3 w _ _ _ _ _ _ h
  have HCT : Hid (∀ W, Below w.heap.size w W → Calls Tryd.prog 138 #[.slice xa (grp x).length xc, .slice ya (grp y).length yc] W fun e w' => ∃ ua uc, e = .returned (.slice ua (grp (x * y)).length uc) ∧ NatA w' (.slice ua (grp (x * y)).length uc) (grp (x * y)) ∧ Below W.heap.size W w') := fun W hb => by
    refine (times_any x y _ _ W (hx.below hb (Nat.le_refl _)) (hy.below hb (Nat.le_refl _)) hnx hny).mono ?_
    rintro e w' ⟨u, rfl, h1, h2⟩
    obtain ⟨ua, uc, rfl⟩ := natA_formR h1
    exact ⟨ua, uc, rfl, h1, h2⟩
  have HSt : Hid (∀ W, Below (w.heap.size + 3) W0 W → ∀ x' y' : Value, ((((W.setCell ⟨w.heap.size + 1 + 1, 0, none⟩ x').setCell ⟨w.heap.size + 1 + 1, 1, none⟩ y').cell? ⟨w.heap.size, 0, none⟩ = some (.bool n1) ∧ ((W.setCell ⟨w.heap.size + 1 + 1, 0, none⟩ x').setCell ⟨w.heap.size + 1 + 1, 1, none⟩ y').cell? ⟨w.heap.size, 1, none⟩ = some (.slice xa (grp x).length xc)) ∧
      ((W.setCell ⟨w.heap.size + 1 + 1, 0, none⟩ x').setCell ⟨w.heap.size + 1 + 1, 1, none⟩ y').cell? ⟨w.heap.size + 1, 0, none⟩ = some (.bool n2) ∧ ((W.setCell ⟨w.heap.size + 1 + 1, 0, none⟩ x').setCell ⟨w.heap.size + 1 + 1, 1, none⟩ y').cell? ⟨w.heap.size + 1, 1, none⟩ = some (.slice ya (grp y).length yc))) := fun W h x' y' => by
    have h0 := HX.out W h
    exact ⟨(own2V (own_set2 h0.1 (by omega) x' y')).1, (own2V (own_set2 h0.2.1 (by omega) x' y')).1⟩
  have HS0 : Hid (w.heap.size + 3 ≤ W0.heap.size) := by show _ ≤ _; rw [← HW0.out]; simp
  clear hx hy
  generalize (grp x).length = lx at *
  generalize (grp y).length = ly at *
  go_enter Tryd.func141, Tryd.ntmps141
  go_wp2_with fail
  rw [HW0.out]
  have HB : Hid (Below (w.heap.size + 3) W0 W0.drew) := (Below.refl _ _).drew
  obtain ⟨⟨r0, r1⟩, q0, q1⟩ := own2V (HX.out _ HB.out).2.2.1
  go_region_held3 (fun W => (W.cell? ⟨w.heap.size, 0, none⟩ = some (.bool n1) ∧ W.cell? ⟨w.heap.size, 1, none⟩ = some (.slice xa lx xc)) ∧ W.cell? ⟨w.heap.size + 1, 0, none⟩ = some (.bool n2) ∧ W.cell? ⟨w.heap.size + 1, 1, none⟩ = some (.slice ya ly yc))
    (first
      | exact ⟨(own2V (HX.out _ HB.out).1).1, (own2V (HX.out _ HB.out).2.1).1⟩
      | exact HSt.out _ HB.out _ _)
    (first
      | (go_at_call 138
         go_loud (
         refine (HCT.out _ (HX.out _ HB.out).2.2.2).mono ?_
         rintro e w3 ⟨ua, uc, rfl, hu, hw3⟩
         have HU := hid hu
         have HB := hid (HB.out.trans (hw3.mono (Nat.le_trans HS0.out HB.out.size)))
         clear hu hw3 r0 r1 q0 q1
         obtain ⟨⟨r0, r1⟩, q0, q1⟩ := own2V (HX.out _ HB.out).2.2.1)))
  go_wp2_with fail
  refine bodyPost_ret (v := .agg #[.bool (!n1 == n2), .slice ua (grp (x * y)).length uc]) (by simp [results, Tryd.results141, go_sem, r0, r1]) rfl ⟨.slice ua (grp (x * y)).length uc, rfl, ?_, ?_⟩
  · exact natA_set2 HU.out (HX.out _ HB.out).2.2.1 _ _
  · exact below_set2 (HX.out _ HB.out).2.2.2 (by omega) _ _
end Go.Proofs.YtbbffhpppacihaaDoor
