/-
  The program's lowest and closed: a fraction in lowest terms, as a number. Condition: what is below is not nought; the table of powers stands.
  The program's closed: the number of a fraction. Condition: what is below is not nought; the table of powers stands.
  The program's overBoth, answerOf. Condition: the groups lie in memory as NatA says; at most 100 groups each.
-/
import Derived.Test.YtbbffhpppacihaaDoorPart8
import Derived.Test.YtbbffhpppacihaaDoorPart12
import Derived.Test.YtbbffhpppacihaaDoorPart9
namespace Go.Proofs.YtbbffhpppacihaaDoor
open Go.RowKit Go.Siskin

set_option maxRecDepth 20000 in
set_option maxHeartbeats 800000 in
theorem lowest_any (neg : Bool) (u d : Nat) (vu vd : Value) (w : World) (hu : NatA w vu (grp u)) (hd : NatA w vd (grp d)) (hnu : nG u ≤ 1000) (hnd : nG d ≤ 1000) (hd0 : 0 < d) :
    Calls Tryd.prog 93 #[.agg #[.bool neg, vu, vd]] w fun e w' => ∃ qu qd, e = .returned (.agg #[.bool (neg && !(u / Nat.gcd u d == 0)), qu, qd]) ∧ NatA w' qu (grp (u / Nat.gcd u d)) ∧ NatA w' qd (grp (d / Nat.gcd u d)) ∧ Below w.heap.size w w' := by
  obtain ⟨ua, uc, rfl⟩ := natA_form hu
  obtain ⟨da, dc, rfl⟩ := natA_form hd
  obtain ⟨G, HG⟩ : ∃ G : Nat, Hid (Nat.gcd u d = G) := ⟨_, rfl⟩
  have HG0 : Hid (0 < G) := by show _ < _; rw [← HG.out]; exact Nat.gcd_pos_of_pos_right _ hd0
  rw [HG.out]
  have HCo : Hid (∀ W, NatA W (.slice ua (grp u).length uc) (grp u) → NatA W (.slice da (grp d).length dc) (grp d) → Calls Tryd.prog 61 #[.slice ua (grp u).length uc, .slice da (grp d).length dc] W fun e w' => ∃ g, e = .returned g ∧ NatA w' g (grp G) ∧ Below W.heap.size W w') := fun W h1 h2 => by
    have h := commonOf_any u d _ _ W h1 h2 hnu hnd
    rw [HG.out] at h
    exact h
  have HDu : Hid (∀ W y, NatA W (.slice ua (grp u).length uc) (grp u) → NatA W y (grp G) → Calls Tryd.prog 85 #[.slice ua (grp u).length uc, y] W fun e w' => ∃ q r, e = .returned (.tuple #[q, r]) ∧ NatA w' q (grp (u / G)) ∧ NatA w' r (grp (u % G)) ∧ Below W.heap.size W w') := fun W y h1 h2 => dividedBy_any u G _ y W h1 h2 HG0.out hnu
  have HDd : Hid (∀ W y, NatA W (.slice da (grp d).length dc) (grp d) → NatA W y (grp G) → Calls Tryd.prog 85 #[.slice da (grp d).length dc, y] W fun e w' => ∃ q r, e = .returned (.tuple #[q, r]) ∧ NatA w' q (grp (d / G)) ∧ NatA w' r (grp (d % G)) ∧ Below W.heap.size W w') := fun W y h1 h2 => dividedBy_any d G _ y W h1 h2 HG0.out hnd
  have HX : Hid (∀ W, Below (w.heap.size + 2) ((w.alloc (.cells #[.bool neg, .slice ua (grp u).length uc, .slice da (grp d).length dc] 71)).alloc boxF) W → Own W w.heap.size 71 #[.bool neg, .slice ua (grp u).length uc, .slice da (grp d).length dc] ∧ Own W (w.heap.size + 1) 71 #[.bool false, .slice none 0 0, .slice none 0 0] ∧ NatA W (.slice ua (grp u).length uc) (grp u) ∧ NatA W (.slice da (grp d).length dc) (grp d) ∧ Below w.heap.size w W) := fun W h => by
    have h1 : Own ((w.alloc (.cells #[.bool neg, .slice ua (grp u).length uc, .slice da (grp d).length dc] 71)).alloc boxF) w.heap.size 71 #[.bool neg, .slice ua (grp u).length uc, .slice da (grp d).length dc] := (Below.heap_alloc _ _ _ (by simp)).trans (own_new w _ _)
    have h2 := own_new (w.alloc (.cells #[.bool neg, .slice ua (grp u).length uc, .slice da (grp d).length dc] 71)) #[.bool false, .slice none 0 0, .slice none 0 0] 71
    rw [World.size_alloc] at h2
    exact ⟨h1.keep h (by omega), h2.keep h (by omega), ((hu.alloc _).alloc _).below h (by simp), ((hd.alloc _).alloc _).below h (by simp), (((Below.refl _ _).alloc (Nat.le_refl _) _).alloc (by simp) _).trans (h.mono (by omega))⟩
  have HB : Hid (Below (w.heap.size + 2) ((w.alloc (.cells #[.bool neg, .slice ua (grp u).length uc, .slice da (grp d).length dc] 71)).alloc boxF) ((w.alloc (.cells #[.bool neg, .slice ua (grp u).length uc, .slice da (grp d).length dc] 71)).alloc boxF)) := Below.refl _ _
  obtain ⟨⟨n0, n1, n2⟩, -⟩ := own3V (HX.out _ HB.out).1
  have hy : w.heap.size + 2 ≤ ((w.alloc (.cells #[.bool neg, .slice ua (grp u).length uc, .slice da (grp d).length dc] 71)).alloc boxF).heap.size := by simp
  clear hu hd hnu hnd hd0
  go_enter Tryd.func93, Tryd.ntmps93
  go_wp2_with fail
  refine (HCo.out _ (HX.out _ HB.out).2.2.1 (HX.out _ HB.out).2.2.2.1).mono ?_
  rintro e w1 ⟨g, rfl, hg, hw1⟩
  have HB1 := hid (HB.out.trans (hw1.mono hy))
  have HGn := hid hg
  obtain ⟨ga', gc, rfl⟩ := natA_formR hg
  have y1 := Nat.le_trans hy hw1.size
  clear hg hw1 hy n0 n1 n2
  obtain ⟨⟨n0, n1, n2⟩, -⟩ := own3V (HX.out _ HB1.out).1
  go_wp2_with fail
  refine (HDu.out _ _ (HX.out _ HB1.out).2.2.1 HGn.out).mono ?_
  rintro e w2 ⟨q, r, rfl, hq, hr, hw2⟩
  have HB2 := hid (HB1.out.trans (hw2.mono y1))
  have HG2 := hid (HGn.out.below hw2 (Nat.le_refl _))
  have HQ := hid hq
  obtain ⟨qa, qc, rfl⟩ := natA_formR hq
  obtain ⟨ra, rc, rfl⟩ := natA_formR hr
  have y2 := Nat.le_trans y1 hw2.size
  clear hq hr hw2 n0 n1 n2
  obtain ⟨⟨n0, n1, n2⟩, -⟩ := own3V (HX.out _ HB2.out).1
  go_wp2_with fail
  refine (HDd.out _ _ (HX.out _ HB2.out).2.2.2.1 HG2.out).mono ?_
  rintro e w3 ⟨p, r, rfl, hp, hr, hw3⟩
  have HB3 := hid (HB2.out.trans (hw3.mono y2))
  have HQ3 := hid (HQ.out.below hw3 (Nat.le_refl _))
  have HPp := hid hp
  obtain ⟨pa, pc, rfl⟩ := natA_formR hp
  obtain ⟨sa, sc, rfl⟩ := natA_formR hr
  clear hp hr hw3 n0 n1 n2
  obtain ⟨⟨n0, n1, n2⟩, -⟩ := own3V (HX.out _ HB3.out).1
  obtain ⟨⟨r0, r1, r2⟩, q0, q1, q2⟩ := own3V (HX.out _ HB3.out).2.1
  have HO3 := hid (HX.out _ HB3.out).2.1
  have HW3 := hid (HX.out _ HB3.out).2.2.2.2
  have HNo := hid (isNought_any (u / G) _ w3 HQ3.out)
  generalize hb : (u / G == 0) = b at *
  cases neg with
  | false =>
    clear hb
    go_wp2_with fail
    refine bodyPost_ret (v := .agg #[.bool false, .slice qa (grp (u / G)).length qc, .slice pa (grp (d / G)).length pc]) (by simp [results, Tryd.results93, go_sem, r0, r1, r2]) rfl ⟨_, _, rfl, natA_box HQ3.out HO3.out _ _ _, natA_box HPp.out HO3.out _ _ _, ?_⟩
    exact ((HW3.out.setCell (p := ⟨w.heap.size + 1, 0, none⟩) (Nat.le_succ _) _).setCell (p := ⟨w.heap.size + 1, 1, none⟩) (Nat.le_succ _) _).setCell (p := ⟨w.heap.size + 1, 2, none⟩) (Nat.le_succ _) _
  | true =>
    cases b
    all_goals
      have HV := hid hb
      clear hb
      go_wp2_with fail
      refine HNo.out.mono ?_
      rintro e w' ⟨rfl, hw⟩
      obtain rfl := hw.symm
      go_wp2_with fail
    · refine bodyPost_ret (v := .agg #[.bool true, .slice qa (grp (u / G)).length qc, .slice pa (grp (d / G)).length pc]) (by simp [results, Tryd.results93, go_sem, r0, r1, r2]) rfl ⟨_, _, by rw [HV.out]; rfl, natA_box HQ3.out HO3.out _ _ _, natA_box HPp.out HO3.out _ _ _, ?_⟩
      exact ((HW3.out.setCell (p := ⟨w.heap.size + 1, 0, none⟩) (Nat.le_succ _) _).setCell (p := ⟨w.heap.size + 1, 1, none⟩) (Nat.le_succ _) _).setCell (p := ⟨w.heap.size + 1, 2, none⟩) (Nat.le_succ _) _
    · refine bodyPost_ret (v := .agg #[.bool false, .slice qa (grp (u / G)).length qc, .slice pa (grp (d / G)).length pc]) (by simp [results, Tryd.results93, go_sem, r0, r1, r2]) rfl ⟨_, _, by rw [HV.out]; rfl, natA_box HQ3.out HO3.out _ _ _, natA_box HPp.out HO3.out _ _ _, ?_⟩
      exact ((HW3.out.setCell (p := ⟨w.heap.size + 1, 0, none⟩) (Nat.le_succ _) _).setCell (p := ⟨w.heap.size + 1, 1, none⟩) (Nat.le_succ _) _).setCell (p := ⟨w.heap.size + 1, 2, none⟩) (Nat.le_succ _) _
end Go.Proofs.YtbbffhpppacihaaDoor

namespace Go.Proofs.YtbbffhpppacihaaDoor
open Go.RowKit Go.Siskin

/-- A fraction's box is no row of groups. -/
theorem natA_box2 {w : World} {v : Value} {gs : List Nat} {fb : Nat} {e : TypeId} {n : Bool} {a1 a2 : Option Addr} {l1 l2 c1 c2 : Nat} (h : NatA w v gs) (ho : Own w fb e #[.bool n, .slice a1 l1 c1, .slice a2 l2 c2]) (x y z : Value) :
    NatA (((w.setCell ⟨fb, 0, none⟩ x).setCell ⟨fb, 1, none⟩ y).setCell ⟨fb, 2, none⟩ z) v gs := by
  obtain ⟨a, cap, e1, h1, h2, h3⟩ := h
  refine ⟨a, cap, e1, h1, h2, ?_⟩
  rcases h3 with h3 | ⟨b, o, e2, hb, hc⟩
  · exact Or.inl h3
  · by_cases hg : gs = []
    · exact Or.inl hg
    · have hne : b ≠ fb := by
        rintro rfl
        have hl : 0 < gs.length := List.length_pos_iff.2 hg
        have h := hc 0 hl
        rw [Own.cell ho (o + 0)] at h
        rcases o with _ | _ | _ | o
        · simp at h
        · simp at h
        · simp at h
        · simp at h
      refine Or.inr ⟨b, o, e2, by simpa [World.setCell] using hb, fun i hi => ?_⟩
      rw [← hc i hi]
      refine World.cell?_of_block (w := w) ?_
      rw [Below.heap_setCell _ _ _ _ hne, Below.heap_setCell _ _ _ _ hne, Below.heap_setCell _ _ _ _ hne]
theorem own_other {w : World} {g b : Nat} {e : TypeId} {cs : Array Value} (h : Own w g e cs) (hne : g ≠ b) (x y z : Value) : Own (((w.setCell ⟨b, 0, none⟩ x).setCell ⟨b, 1, none⟩ y).setCell ⟨b, 2, none⟩ z) g e cs :=
  (Below.heap_setCell _ ⟨b, 2, none⟩ z g hne).trans ((Below.heap_setCell _ ⟨b, 1, none⟩ y g hne).trans ((Below.heap_setCell _ ⟨b, 0, none⟩ x g hne).trans h))

/-- The number of a fraction in lowest terms. -/
def closedV (neg : Bool) (a b : Nat) : Value :=
  if Lib.nDigits a ≤ 60 ∧ Lib.nDigits b ≤ 60 then .tuple #[.agg #[.bool (neg && !(a == 0)), .string (dec a), .string (dec b)], .bool true] else .tuple #[.agg #[.bool false, .string ⟨#[]⟩, .string ⟨#[]⟩], .bool false]

set_option maxRecDepth 20000 in
set_option maxHeartbeats 1000000 in
theorem isTooLong_any (x : Nat) (v : Value) (w : World) (h : NatA w v (grp x)) (hn : nG x ≤ 100000) (hP : Pow9 w) (b : Bool) (hb : decide (60 < Lib.nDigits x) = b) :
    Calls Tryd.prog 73 #[v] w fun e w' => e = .returned (.bool b) ∧ w' = w := by
  obtain ⟨l, HL⟩ : ∃ l : Nat, Hid (Lib.nDigits x = l) := ⟨_, rfl⟩
  have HD := hid (digits_any x v w h (by omega) hP)
  rw [HL.out] at HD hb
  have hl : l ≤ 1000000 := by
    rw [← HL.out]
    rcases Nat.eq_zero_or_pos x with h0 | h0
    · rw [h0, Lib.nDigits_small (by decide)]; decide
    · have h1 := nDigits_top h0
      have h2 := top_pos h0
      have h3 : Lib.nDigits (x / 1000000000 ^ (nG x - 1)) ≤ 9 := nDigits_le h2.2 (by decide)
      omega
  have hli : (l : Int) ≤ 1000000 := by omega
  obtain ⟨a, c, rfl⟩ := natA_form h
  have HB : Hid (decide ((60 : Int) < (l : Int)) = b) := by
    show _ = b
    rw [← hb]
    exact decide_eq_decide.2 (by omega)
  clear h hP hn hb
  go_enter Tryd.func73, Tryd.ntmps73
  go_wp2_with fail
  refine HD.out.mono ?_
  rintro e w' ⟨rfl, hw⟩
  obtain rfl := hw.symm
  go_wp2_with fail
  go_ret
  exact ⟨by first | rfl | (rw [HB.out]; rfl), rfl⟩


set_option maxRecDepth 20000 in
set_option maxHeartbeats 800000 in
theorem closed_any (neg : Bool) (u d : Nat) (vu vd : Value) (w : World) (hu : NatA w vu (grp u)) (hd : NatA w vd (grp d)) (hnu : nG u ≤ 1000) (hnd : nG d ≤ 1000) (hd0 : 0 < d) (hP : Pow9 w) :
    Calls Tryd.prog 70 #[.agg #[.bool neg, vu, vd]] w fun e w' => e = .returned (closedV neg (u / Nat.gcd u d) (d / Nat.gcd u d)) ∧ Below w.heap.size w w' := by
  obtain ⟨ua, uc, rfl⟩ := natA_form hu
  obtain ⟨va, vc, rfl⟩ := natA_form hd
  have HLo := hid (fun W h1 h2 => lowest_any neg u d (.slice ua (grp u).length uc) (.slice va (grp d).length vc) W h1 h2 hnu hnd hd0)
  have hnA : nG (u / Nat.gcd u d) ≤ 1000 := Nat.le_trans (nG_mono (Nat.div_le_self _ _)) hnu
  have hnB : nG (d / Nat.gcd u d) ≤ 1000 := Nat.le_trans (nG_mono (Nat.div_le_self _ _)) hnd
  generalize u / Nat.gcd u d = A at *
  generalize d / Nat.gcd u d = B at *
  have HDg := hid (fun W v b (hb : decide (60 < Lib.nDigits A) = b) (h : NatA W v (grp A)) (hp : Pow9 W) => isTooLong_any A v W h (by omega) hp b hb)
  have HDh := hid (fun W v b (hb : decide (60 < Lib.nDigits B) = b) (h : NatA W v (grp B)) (hp : Pow9 W) => isTooLong_any B v W h (by omega) hp b hb)
  have HPl := hid (fun W n va vb (h1 : NatA W va (grp A)) (h2 : NatA W vb (grp B)) (hp : Pow9 W) => plain_any n A B va vb W h1 h2 (by omega) (by omega) hp)
  obtain ⟨la, HLa⟩ : ∃ l : Nat, Hid (Lib.nDigits A = l) := ⟨_, rfl⟩
  obtain ⟨lb, HLb⟩ : ∃ l : Nat, Hid (Lib.nDigits B = l) := ⟨_, rfl⟩
  have HCV := hid (show closedV neg A B = if la ≤ 60 ∧ lb ≤ 60 then _ else _ by unfold closedV; rw [HLa.out, HLb.out])
  rw [HCV.out]
  rw [HLa.out] at HDg
  rw [HLb.out] at HDh
  have hll : la ≤ 1000000 := by
    rw [← HLa.out]
    rcases Nat.eq_zero_or_pos A with h0 | h0
    · rw [h0, Lib.nDigits_small (by decide)]; decide
    · have h1 := nDigits_top h0
      have h2 := top_pos h0
      have h3 : Lib.nDigits (A / 1000000000 ^ (nG A - 1)) ≤ 9 := nDigits_le h2.2 (by decide)
      omega
  have hlb : lb ≤ 1000000 := by
    rw [← HLb.out]
    rcases Nat.eq_zero_or_pos B with h0 | h0
    · rw [h0, Lib.nDigits_small (by decide)]; decide
    · have h1 := nDigits_top h0
      have h2 := top_pos h0
      have h3 : Lib.nDigits (B / 1000000000 ^ (nG B - 1)) ≤ 9 := nDigits_le h2.2 (by decide)
      omega
  obtain ⟨ng, HNg⟩ : ∃ b : Bool, Hid ((neg && !(A == 0)) = b) := ⟨_, rfl⟩
  rw [HNg.out] at HLo ⊢
  obtain ⟨da, HDa⟩ : ∃ x, Hid (dec A = x) := ⟨_, rfl⟩
  obtain ⟨db, HDb⟩ : ∃ x, Hid (dec B = x) := ⟨_, rfl⟩
  rw [HDa.out, HDb.out] at HPl ⊢
  obtain ⟨gA, HGA⟩ : ∃ g, Hid (grp A = g) := ⟨_, rfl⟩
  obtain ⟨gB, HGB⟩ : ∃ g, Hid (grp B = g) := ⟨_, rfl⟩
  rw [HGA.out] at HDg
  rw [HGB.out] at HDh
  rw [HGA.out, HGB.out] at HLo HPl
  have HX : Hid (∀ W, Below (w.heap.size + 2) ((w.alloc (.cells #[.bool neg, .slice ua (grp u).length uc, .slice va (grp d).length vc] 71)).alloc (.cells #[.bool false, .string ⟨#[]⟩, .string ⟨#[]⟩] 25)) W → Own W w.heap.size 71 #[.bool neg, .slice ua (grp u).length uc, .slice va (grp d).length vc] ∧ Own W (w.heap.size + 1) 25 #[.bool false, .string ⟨#[]⟩, .string ⟨#[]⟩] ∧ NatA W (.slice ua (grp u).length uc) (grp u) ∧ NatA W (.slice va (grp d).length vc) (grp d) ∧ Below w.heap.size w W ∧ Pow9 W) := fun W h => by
    have h1 : Own ((w.alloc (.cells #[.bool neg, .slice ua (grp u).length uc, .slice va (grp d).length vc] 71)).alloc (.cells #[.bool false, .string ⟨#[]⟩, .string ⟨#[]⟩] 25)) w.heap.size 71 #[.bool neg, .slice ua (grp u).length uc, .slice va (grp d).length vc] := (Below.heap_alloc _ _ _ (by simp)).trans (own_new w _ _)
    have h2 := own_new (w.alloc (.cells #[.bool neg, .slice ua (grp u).length uc, .slice va (grp d).length vc] 71)) #[.bool false, .string ⟨#[]⟩, .string ⟨#[]⟩] 25
    rw [World.size_alloc] at h2
    have hb := (((Below.refl w.heap.size w).alloc (Nat.le_refl _) (.cells #[.bool neg, .slice ua (grp u).length uc, .slice va (grp d).length vc] 71)).alloc (by simp) (.cells #[.bool false, .string ⟨#[]⟩, .string ⟨#[]⟩] 25)).trans (h.mono (by omega))
    exact ⟨h1.keep h (by omega), h2.keep h (by omega), ((hu.alloc _).alloc _).below h (by simp), ((hd.alloc _).alloc _).below h (by simp), hb, hP.below hb (Nat.le_refl _)⟩
  have HB : Hid (Below (w.heap.size + 2) ((w.alloc (.cells #[.bool neg, .slice ua (grp u).length uc, .slice va (grp d).length vc] 71)).alloc (.cells #[.bool false, .string ⟨#[]⟩, .string ⟨#[]⟩] 25)) ((w.alloc (.cells #[.bool neg, .slice ua (grp u).length uc, .slice va (grp d).length vc] 71)).alloc (.cells #[.bool false, .string ⟨#[]⟩, .string ⟨#[]⟩] 25))) := Below.refl _ _
  obtain ⟨⟨n0, n1, n2⟩, -⟩ := own3V (HX.out _ HB.out).1
  have hy : w.heap.size + 2 ≤ ((w.alloc (.cells #[.bool neg, .slice ua (grp u).length uc, .slice va (grp d).length vc] 71)).alloc (.cells #[.bool false, .string ⟨#[]⟩, .string ⟨#[]⟩] 25)).heap.size := by simp
  have HP0 := hid hP
  clear hu hd hnu hnd hd0 hP hnA hnB
  go_enter Tryd.func70, Tryd.ntmps70
  go_wp2_with fail
  refine (HLo.out _ (HX.out _ HB.out).2.2.1 (HX.out _ HB.out).2.2.2.1).mono ?_
  rintro e w1 ⟨qu, qd, rfl, hq, hp, hw1⟩
  have HB1 := hid (HB.out.trans (hw1.mono hy))
  obtain ⟨qa, qc, rfl⟩ := natA_formR hq
  obtain ⟨pa, pc, rfl⟩ := natA_formR hp
  have hOb := (HX.out _ HB1.out).1
  have hOr := (HX.out _ HB1.out).2.1
  have hbw := (HX.out _ HB1.out).2.2.2.2.1
  have hpw := (HX.out _ HB1.out).2.2.2.2.2
  clear n0 n1 n2
  obtain ⟨⟨n0, n1, n2⟩, f0, f1, f2⟩ := own3V hOb
  obtain ⟨W4, HW4⟩ : ∃ W, Hid ((((w1.setCell ⟨w.heap.size, 0, none⟩ (.bool ng)).setCell ⟨w.heap.size, 1, none⟩ (.slice qa gA.length qc)).setCell ⟨w.heap.size, 2, none⟩ (.slice pa gB.length pc)) = W) := ⟨_, rfl⟩
  have hB4 : Below w.heap.size w W4 := by
    rw [← HW4.out]
    exact ((hbw.setCell (p := ⟨w.heap.size, 0, none⟩) (Nat.le_refl _) _).setCell (p := ⟨w.heap.size, 1, none⟩) (Nat.le_refl _) _).setCell (p := ⟨w.heap.size, 2, none⟩) (Nat.le_refl _) _
  have HQ4 : Hid (NatA W4 (.slice qa gA.length qc) gA) := by rw [← HW4.out]; exact natA_box2 hq hOb _ _ _
  have HP4 : Hid (NatA W4 (.slice pa gB.length pc) gB) := by rw [← HW4.out]; exact natA_box2 hp hOb _ _ _
  have HOr : Hid (Own W4 (w.heap.size + 1) 25 #[.bool false, .string ⟨#[]⟩, .string ⟨#[]⟩]) := by rw [← HW4.out]; exact own_other hOr (by omega) _ _ _
  have hOb4 : Own W4 w.heap.size 71 #[.bool ng, .slice qa gA.length qc, .slice pa gB.length pc] := by rw [← HW4.out]; exact ((hOb.set 0 _).set 1 _).set 2 _
  have HPw : Hid (Pow9 W4) := HP0.out.below hB4 (Nat.le_refl _)
  have HB4 := hid hB4
  have hz4 : w.heap.size + 2 ≤ W4.heap.size := by
    rw [← HW4.out]
    have := HB1.out.size
    rw [World.size_alloc, World.size_alloc] at this
    simpa [World.setCell] using this
  clear hq hp hw1 hOb hbw hpw hB4
  go_wp2_with fail
  rw [HW4.out]
  clear n0 n1 n2 f0 f1 f2
  obtain ⟨⟨n0, n1, n2⟩, -⟩ := own3V hOb4
  obtain ⟨⟨r0, r1, r2⟩, q0, q1, q2⟩ := own3V HOr.out
  have hl1 : (la : Int) ≤ 1000000 := by omega
  have hl2 : (lb : Int) ≤ 1000000 := by omega
  by_cases h1 : 60 < la
  · have HV : Hid ((if la ≤ 60 ∧ lb ≤ 60 then Value.tuple #[.agg #[.bool ng, .string da, .string db], .bool true] else .tuple #[.agg #[.bool false, .string ⟨#[]⟩, .string ⟨#[]⟩], .bool false]) = .tuple #[.agg #[.bool false, .string ⟨#[]⟩, .string ⟨#[]⟩], .bool false]) := if_neg (by omega)
    refine (HDg.out _ _ true (decide_eq_true h1) HQ4.out HPw.out).mono ?_
    rintro e w' ⟨rfl, hw⟩
    obtain rfl := hw.symm
    go_wp2_with fail
    refine bodyPost_ret (v := .tuple #[.agg #[.bool false, .string ⟨#[]⟩, .string ⟨#[]⟩], .bool false]) (by simp [results, Tryd.results70, go_sem, r0, r1, r2]) rfl ⟨by first | rw [HV.out] | rfl, ?_⟩
    exact ((HB4.out.setCell (p := ⟨w.heap.size + 1, 0, none⟩) (Nat.le_succ _) _).setCell (p := ⟨w.heap.size + 1, 1, none⟩) (Nat.le_succ _) _).setCell (p := ⟨w.heap.size + 1, 2, none⟩) (Nat.le_succ _) _
  · refine (HDg.out _ _ false (decide_eq_false h1) HQ4.out HPw.out).mono ?_
    rintro e w' ⟨rfl, hw⟩
    obtain rfl := hw.symm
    go_wp2_with fail
    by_cases h2 : 60 < lb
    · have HV : Hid ((if la ≤ 60 ∧ lb ≤ 60 then Value.tuple #[.agg #[.bool ng, .string da, .string db], .bool true] else .tuple #[.agg #[.bool false, .string ⟨#[]⟩, .string ⟨#[]⟩], .bool false]) = .tuple #[.agg #[.bool false, .string ⟨#[]⟩, .string ⟨#[]⟩], .bool false]) := if_neg (by omega)
      refine (HDh.out _ _ true (decide_eq_true h2) HP4.out HPw.out).mono ?_
      rintro e w' ⟨rfl, hw⟩
      obtain rfl := hw.symm
      go_wp2_with fail
      refine bodyPost_ret (v := .tuple #[.agg #[.bool false, .string ⟨#[]⟩, .string ⟨#[]⟩], .bool false]) (by simp [results, Tryd.results70, go_sem, r0, r1, r2]) rfl ⟨by first | rw [HV.out] | rfl, ?_⟩
      exact ((HB4.out.setCell (p := ⟨w.heap.size + 1, 0, none⟩) (Nat.le_succ _) _).setCell (p := ⟨w.heap.size + 1, 1, none⟩) (Nat.le_succ _) _).setCell (p := ⟨w.heap.size + 1, 2, none⟩) (Nat.le_succ _) _
    · have HV : Hid ((if la ≤ 60 ∧ lb ≤ 60 then Value.tuple #[.agg #[.bool ng, .string da, .string db], .bool true] else .tuple #[.agg #[.bool false, .string ⟨#[]⟩, .string ⟨#[]⟩], .bool false]) = .tuple #[.agg #[.bool ng, .string da, .string db], .bool true]) := if_pos (by omega)
      refine (HDh.out _ _ false (decide_eq_false h2) HP4.out HPw.out).mono ?_
      rintro e w' ⟨rfl, hw⟩
      obtain rfl := hw.symm
      go_wp2_with fail
      refine (HPl.out _ _ _ _ HQ4.out HP4.out HPw.out).mono ?_
      rintro e w5 ⟨rfl, hw5⟩
      have HB5 := hid (HB4.out.trans (hw5.mono (by omega)))
      have hO5 : Own w5 (w.heap.size + 1) 25 #[.bool false, .string ⟨#[]⟩, .string ⟨#[]⟩] := HOr.out.keep hw5 (by omega)
      clear r0 r1 r2 q0 q1 q2 hw5
      obtain ⟨⟨r0, r1, r2⟩, q0, q1, q2⟩ := own3V hO5
      clear hO5
      go_wp2_with fail
      refine bodyPost_ret (v := .tuple #[.agg #[.bool ng, .string da, .string db], .bool true]) (by simp [results, Tryd.results70, go_sem, r0, r1, r2]) rfl ⟨by first | rw [HV.out] | rfl, ?_⟩
      exact ((HB5.out.setCell (p := ⟨w.heap.size + 1, 0, none⟩) (Nat.le_succ _) _).setCell (p := ⟨w.heap.size + 1, 1, none⟩) (Nat.le_succ _) _).setCell (p := ⟨w.heap.size + 1, 2, none⟩) (Nat.le_succ _) _
end Go.Proofs.YtbbffhpppacihaaDoor

namespace Go.Proofs.YtbbffhpppacihaaDoor
open Go.RowKit Go.Siskin

theorem ratBox_no (n m : Bool) (a b : Option Addr) (l c k d : Nat) : ∀ (i : Nat) (z : Int), (#[Value.bool n, .slice a l c, .bool m, .slice b k d] : Array Value)[i]? ≠ some (.int .u64 z) := by
  intro i z
  rcases i with _ | _ | _ | _ | i <;> simp
theorem natA_set4 {w : World} {v : Value} {gs : List Nat} {fb : Nat} {e : TypeId} {n m : Bool} {a b : Option Addr} {l c k d : Nat} (h : NatA w v gs) (ho : Own w fb e #[.bool n, .slice a l c, .bool m, .slice b k d]) (x y z t : Value) : NatA ((((w.setCell ⟨fb, 0, none⟩ x).setCell ⟨fb, 1, none⟩ y).setCell ⟨fb, 2, none⟩ z).setCell ⟨fb, 3, none⟩ t) v gs :=
  natA_boxG h ho (ratBox_no n m a b l c k d) (fun b hb => by rw [Below.heap_setCell _ _ _ _ hb, Below.heap_setCell _ _ _ _ hb, Below.heap_setCell _ _ _ _ hb, Below.heap_setCell _ _ _ _ hb]) (by simp [World.setCell])

set_option maxRecDepth 20000 in
set_option maxHeartbeats 4000000 in
theorem overSum_any (n1 n2 : Bool) (x1 y1 x2 y2 : Nat) (a1 b1 a2 b2 : Option Addr) (l1 c1 k1 d1 l2 c2 k2 d2 : Nat) (w : World) (hx1 : NatA w (.slice a1 l1 c1) (grp x1)) (hy1 : NatA w (.slice b1 k1 d1) (grp y1)) (hx2 : NatA w (.slice a2 l2 c2) (grp x2)) (hy2 : NatA w (.slice b2 k2 d2) (grp y2))
    (g1 : nG x1 ≤ 100) (g2 : nG y1 ≤ 100) (g3 : nG x2 ≤ 100) (g4 : nG y2 ≤ 100) :
    Calls Tryd.prog 45 #[.agg #[.bool n1, .slice a1 l1 c1, .bool false, .slice b1 k1 d1], .agg #[.bool n2, .slice a2 l2 c2, .bool false, .slice b2 k2 d2], .func (.func 46) #[] #[]] w fun e w' => ∃ a c b d, e = .returned (.agg #[.bool (sumN n1 (x1 * y2) n2 (x2 * y1)), .slice a (grp (sumZ n1 (x1 * y2) n2 (x2 * y1))).length c, .bool (false), .slice b (grp (y1 * y2)).length d]) ∧ NatA w' (.slice a (grp (sumZ n1 (x1 * y2) n2 (x2 * y1))).length c) (grp (sumZ n1 (x1 * y2) n2 (x2 * y1))) ∧ NatA w' (.slice b (grp (y1 * y2)).length d) (grp (y1 * y2)) ∧ Below w.heap.size w w' := by
  have mt := meth_times
  have HF := hid (fun W (hb : Below w.heap.size w W) => sumAbove_any n1 n2 x1 y1 x2 y2 a1 b1 a2 b2 l1 c1 k1 d1 l2 c2 k2 d2 W (hx1.below hb (Nat.le_refl _)) (hy1.below hb (Nat.le_refl _)) (hx2.below hb (Nat.le_refl _)) (hy2.below hb (Nat.le_refl _)) g1 g2 g3 g4)
  have HTd := hid (fun W (hb : Below w.heap.size w W) => intTimes_slice false false false y1 y2 _ _ W rfl (hy1.below hb (Nat.le_refl _)) (hy2.below hb (Nat.le_refl _)) (by omega) (by omega))
  generalize sumN n1 (x1 * y2) n2 (x2 * y1) = S at *
  generalize sumZ n1 (x1 * y2) n2 (x2 * y1) = Z at *
  generalize y1 * y2 = D at *
  obtain ⟨W0, HW0⟩ : ∃ W, Hid (((w.alloc (boxR n1 (.slice a1 l1 c1) false (.slice b1 k1 d1))).alloc (boxR n2 (.slice a2 l2 c2) false (.slice b2 k2 d2))).alloc (boxR false (.slice none 0 0) false (.slice none 0 0)) = W) := ⟨_, rfl⟩
  have HX : Hid (∀ W, Below (w.heap.size + 3) W0 W → Own W w.heap.size 61 #[.bool n1, .slice a1 l1 c1, .bool false, .slice b1 k1 d1] ∧ Own W (w.heap.size + 1) 61 #[.bool n2, .slice a2 l2 c2, .bool false, .slice b2 k2 d2] ∧ Own W (w.heap.size + 1 + 1) 61 #[.bool false, .slice none 0 0, .bool false, .slice none 0 0] ∧ Below w.heap.size w W) := fun W h => by
    rw [← HW0.out] at h
    exact boxes3 w _ _ _ _ _ _ h
  have HSt : Hid (∀ W, Below (w.heap.size + 3) W0 W → ∀ x' y' z' t' : Value, (((((W.setCell ⟨w.heap.size + 1 + 1, 0, none⟩ x').setCell ⟨w.heap.size + 1 + 1, 1, none⟩ y').setCell ⟨w.heap.size + 1 + 1, 2, none⟩ z').setCell ⟨w.heap.size + 1 + 1, 3, none⟩ t').cell? ⟨w.heap.size, 0, none⟩ = some (.bool n1) ∧ ((((W.setCell ⟨w.heap.size + 1 + 1, 0, none⟩ x').setCell ⟨w.heap.size + 1 + 1, 1, none⟩ y').setCell ⟨w.heap.size + 1 + 1, 2, none⟩ z').setCell ⟨w.heap.size + 1 + 1, 3, none⟩ t').cell? ⟨w.heap.size, 1, none⟩ = some (.slice a1 l1 c1) ∧ ((((W.setCell ⟨w.heap.size + 1 + 1, 0, none⟩ x').setCell ⟨w.heap.size + 1 + 1, 1, none⟩ y').setCell ⟨w.heap.size + 1 + 1, 2, none⟩ z').setCell ⟨w.heap.size + 1 + 1, 3, none⟩ t').cell? ⟨w.heap.size, 2, none⟩ = some (.bool false) ∧ ((((W.setCell ⟨w.heap.size + 1 + 1, 0, none⟩ x').setCell ⟨w.heap.size + 1 + 1, 1, none⟩ y').setCell ⟨w.heap.size + 1 + 1, 2, none⟩ z').setCell ⟨w.heap.size + 1 + 1, 3, none⟩ t').cell? ⟨w.heap.size, 3, none⟩ = some (.slice b1 k1 d1)) ∧ ((((W.setCell ⟨w.heap.size + 1 + 1, 0, none⟩ x').setCell ⟨w.heap.size + 1 + 1, 1, none⟩ y').setCell ⟨w.heap.size + 1 + 1, 2, none⟩ z').setCell ⟨w.heap.size + 1 + 1, 3, none⟩ t').cell? ⟨w.heap.size + 1, 0, none⟩ = some (.bool n2) ∧ ((((W.setCell ⟨w.heap.size + 1 + 1, 0, none⟩ x').setCell ⟨w.heap.size + 1 + 1, 1, none⟩ y').setCell ⟨w.heap.size + 1 + 1, 2, none⟩ z').setCell ⟨w.heap.size + 1 + 1, 3, none⟩ t').cell? ⟨w.heap.size + 1, 1, none⟩ = some (.slice a2 l2 c2) ∧ ((((W.setCell ⟨w.heap.size + 1 + 1, 0, none⟩ x').setCell ⟨w.heap.size + 1 + 1, 1, none⟩ y').setCell ⟨w.heap.size + 1 + 1, 2, none⟩ z').setCell ⟨w.heap.size + 1 + 1, 3, none⟩ t').cell? ⟨w.heap.size + 1, 2, none⟩ = some (.bool false) ∧ ((((W.setCell ⟨w.heap.size + 1 + 1, 0, none⟩ x').setCell ⟨w.heap.size + 1 + 1, 1, none⟩ y').setCell ⟨w.heap.size + 1 + 1, 2, none⟩ z').setCell ⟨w.heap.size + 1 + 1, 3, none⟩ t').cell? ⟨w.heap.size + 1, 3, none⟩ = some (.slice b2 k2 d2)) := fun W h x' y' z' t' => by
    have h0 := HX.out W h
    exact ⟨(own4V (own_set4 h0.1 (by omega) x' y' z' t')).1, (own4V (own_set4 h0.2.1 (by omega) x' y' z' t')).1⟩
  have HS0 : Hid (w.heap.size + 3 ≤ W0.heap.size) := by show _ ≤ _; rw [← HW0.out]; simp
  clear hx1 hy1 hx2 hy2 g1 g2 g3 g4
  go_enter Tryd.func45, Tryd.ntmps45
  go_wp2_with fail
  rw [HW0.out]
  have HB : Hid (Below (w.heap.size + 3) W0 W0.drew) := (Below.refl _ _).drew
  obtain ⟨⟨r0, r1, r2, r3⟩, q0, q1, q2, q3⟩ := own4V (HX.out _ HB.out).2.2.1
  go_region_held3 (fun W => (W.cell? ⟨w.heap.size, 0, none⟩ = some (.bool n1) ∧ W.cell? ⟨w.heap.size, 1, none⟩ = some (.slice a1 l1 c1) ∧ W.cell? ⟨w.heap.size, 2, none⟩ = some (.bool false) ∧ W.cell? ⟨w.heap.size, 3, none⟩ = some (.slice b1 k1 d1)) ∧ W.cell? ⟨w.heap.size + 1, 0, none⟩ = some (.bool n2) ∧ W.cell? ⟨w.heap.size + 1, 1, none⟩ = some (.slice a2 l2 c2) ∧ W.cell? ⟨w.heap.size + 1, 2, none⟩ = some (.bool false) ∧ W.cell? ⟨w.heap.size + 1, 3, none⟩ = some (.slice b2 k2 d2))
    (first
      | exact ⟨(own4V (HX.out _ HB.out).1).1, (own4V (HX.out _ HB.out).2.1).1⟩
      | exact HSt.out _ HB.out _ _ _ _)
    (first
      | (go_at_call 46
         go_loud (
         refine (HF.out _ (HX.out _ HB.out).2.2.2).mono ?_
         rintro e w3 ⟨ta, tc, rfl, hu, hw3⟩
         have HTa := hid hu
         first
           | (have HTb := hid (HTb.out.below hw3 (Nat.le_refl _)))
           | skip
         have HB := hid (HB.out.trans (hw3.mono (Nat.le_trans HS0.out HB.out.size)))
         clear hu hw3 r0 r1 r2 r3 q0 q1 q2 q3
         obtain ⟨⟨r0, r1, r2, r3⟩, q0, q1, q2, q3⟩ := own4V (HX.out _ HB.out).2.2.1))
      | (go_at_call 141
         go_loud (
         refine (HTd.out _ (HX.out _ HB.out).2.2.2).mono ?_
         rintro e w4 ⟨sa, sc, rfl, hu, hw3⟩
         have HTb := hid hu
         first
           | (have HTa := hid (HTa.out.below hw3 (Nat.le_refl _)))
           | skip
         have HB := hid (HB.out.trans (hw3.mono (Nat.le_trans HS0.out HB.out.size)))
         clear hu hw3 r0 r1 r2 r3 q0 q1 q2 q3
         obtain ⟨⟨r0, r1, r2, r3⟩, q0, q1, q2, q3⟩ := own4V (HX.out _ HB.out).2.2.1)))
  all_goals
    go_wp2_with fail
    refine bodyPost_ret (v := .agg #[.bool S, .slice ta (grp Z).length tc, .bool false, .slice sa (grp D).length sc]) (by simp [results, Tryd.results45, go_sem, r0, r1, r2, r3]) rfl ⟨ta, tc, sa, sc, rfl, ?_, ?_, ?_⟩
    · exact natA_set4 HTa.out (HX.out _ HB.out).2.2.1 _ _ _ _
    · exact natA_set4 HTb.out (HX.out _ HB.out).2.2.1 _ _ _ _
    · exact below_set4 (HX.out _ HB.out).2.2.2 (by omega) _ _ _ _

set_option maxRecDepth 20000 in
set_option maxHeartbeats 4000000 in
theorem overProduct_any (n1 m1 m2 n2 : Bool) (x1 y1 x2 y2 : Nat) (a1 b1 a2 b2 : Option Addr) (l1 c1 k1 d1 l2 c2 k2 d2 : Nat) (w : World) (hx1 : NatA w (.slice a1 l1 c1) (grp x1)) (hy1 : NatA w (.slice b1 k1 d1) (grp y1)) (hx2 : NatA w (.slice a2 l2 c2) (grp x2)) (hy2 : NatA w (.slice b2 k2 d2) (grp y2))
    (g1 : nG x1 ≤ 100) (g2 : nG y1 ≤ 100) (g3 : nG x2 ≤ 100) (g4 : nG y2 ≤ 100) :
    Calls Tryd.prog 45 #[.agg #[.bool n1, .slice a1 l1 c1, .bool m1, .slice b1 k1 d1], .agg #[.bool n2, .slice a2 l2 c2, .bool m2, .slice b2 k2 d2], .func (.func 48) #[] #[]] w fun e w' => ∃ a c b d, e = .returned (.agg #[.bool (n1 != n2), .slice a (grp (x1 * x2)).length c, .bool (m1 != m2), .slice b (grp (y1 * y2)).length d]) ∧ NatA w' (.slice a (grp (x1 * x2)).length c) (grp (x1 * x2)) ∧ NatA w' (.slice b (grp (y1 * y2)).length d) (grp (y1 * y2)) ∧ Below w.heap.size w w' := by
  have mt := meth_times
  have HF := hid (fun W (hb : Below w.heap.size w W) => productAbove_any n1 m1 n2 m2 x1 x2 a1 b1 a2 b2 l1 c1 k1 d1 l2 c2 k2 d2 W (hx1.below hb (Nat.le_refl _)) (hx2.below hb (Nat.le_refl _)) g1 g3)
  have HTd := hid (fun W (hb : Below w.heap.size w W) => intTimes_slice m1 m2 _ y1 y2 _ _ W rfl (hy1.below hb (Nat.le_refl _)) (hy2.below hb (Nat.le_refl _)) (by omega) (by omega))
  generalize (n1 != n2) = S at *
  generalize x1 * x2 = Z at *
  generalize y1 * y2 = D at *
  generalize (m1 != m2) = M at *
  obtain ⟨W0, HW0⟩ : ∃ W, Hid (((w.alloc (boxR n1 (.slice a1 l1 c1) m1 (.slice b1 k1 d1))).alloc (boxR n2 (.slice a2 l2 c2) m2 (.slice b2 k2 d2))).alloc (boxR false (.slice none 0 0) false (.slice none 0 0)) = W) := ⟨_, rfl⟩
  have HX : Hid (∀ W, Below (w.heap.size + 3) W0 W → Own W w.heap.size 61 #[.bool n1, .slice a1 l1 c1, .bool m1, .slice b1 k1 d1] ∧ Own W (w.heap.size + 1) 61 #[.bool n2, .slice a2 l2 c2, .bool m2, .slice b2 k2 d2] ∧ Own W (w.heap.size + 1 + 1) 61 #[.bool false, .slice none 0 0, .bool false, .slice none 0 0] ∧ Below w.heap.size w W) := fun W h => by
    rw [← HW0.out] at h
    exact boxes3 w _ _ _ _ _ _ h
  have HSt : Hid (∀ W, Below (w.heap.size + 3) W0 W → ∀ x' y' z' t' : Value, (((((W.setCell ⟨w.heap.size + 1 + 1, 0, none⟩ x').setCell ⟨w.heap.size + 1 + 1, 1, none⟩ y').setCell ⟨w.heap.size + 1 + 1, 2, none⟩ z').setCell ⟨w.heap.size + 1 + 1, 3, none⟩ t').cell? ⟨w.heap.size, 0, none⟩ = some (.bool n1) ∧ ((((W.setCell ⟨w.heap.size + 1 + 1, 0, none⟩ x').setCell ⟨w.heap.size + 1 + 1, 1, none⟩ y').setCell ⟨w.heap.size + 1 + 1, 2, none⟩ z').setCell ⟨w.heap.size + 1 + 1, 3, none⟩ t').cell? ⟨w.heap.size, 1, none⟩ = some (.slice a1 l1 c1) ∧ ((((W.setCell ⟨w.heap.size + 1 + 1, 0, none⟩ x').setCell ⟨w.heap.size + 1 + 1, 1, none⟩ y').setCell ⟨w.heap.size + 1 + 1, 2, none⟩ z').setCell ⟨w.heap.size + 1 + 1, 3, none⟩ t').cell? ⟨w.heap.size, 2, none⟩ = some (.bool m1) ∧ ((((W.setCell ⟨w.heap.size + 1 + 1, 0, none⟩ x').setCell ⟨w.heap.size + 1 + 1, 1, none⟩ y').setCell ⟨w.heap.size + 1 + 1, 2, none⟩ z').setCell ⟨w.heap.size + 1 + 1, 3, none⟩ t').cell? ⟨w.heap.size, 3, none⟩ = some (.slice b1 k1 d1)) ∧ ((((W.setCell ⟨w.heap.size + 1 + 1, 0, none⟩ x').setCell ⟨w.heap.size + 1 + 1, 1, none⟩ y').setCell ⟨w.heap.size + 1 + 1, 2, none⟩ z').setCell ⟨w.heap.size + 1 + 1, 3, none⟩ t').cell? ⟨w.heap.size + 1, 0, none⟩ = some (.bool n2) ∧ ((((W.setCell ⟨w.heap.size + 1 + 1, 0, none⟩ x').setCell ⟨w.heap.size + 1 + 1, 1, none⟩ y').setCell ⟨w.heap.size + 1 + 1, 2, none⟩ z').setCell ⟨w.heap.size + 1 + 1, 3, none⟩ t').cell? ⟨w.heap.size + 1, 1, none⟩ = some (.slice a2 l2 c2) ∧ ((((W.setCell ⟨w.heap.size + 1 + 1, 0, none⟩ x').setCell ⟨w.heap.size + 1 + 1, 1, none⟩ y').setCell ⟨w.heap.size + 1 + 1, 2, none⟩ z').setCell ⟨w.heap.size + 1 + 1, 3, none⟩ t').cell? ⟨w.heap.size + 1, 2, none⟩ = some (.bool m2) ∧ ((((W.setCell ⟨w.heap.size + 1 + 1, 0, none⟩ x').setCell ⟨w.heap.size + 1 + 1, 1, none⟩ y').setCell ⟨w.heap.size + 1 + 1, 2, none⟩ z').setCell ⟨w.heap.size + 1 + 1, 3, none⟩ t').cell? ⟨w.heap.size + 1, 3, none⟩ = some (.slice b2 k2 d2)) := fun W h x' y' z' t' => by
    have h0 := HX.out W h
    exact ⟨(own4V (own_set4 h0.1 (by omega) x' y' z' t')).1, (own4V (own_set4 h0.2.1 (by omega) x' y' z' t')).1⟩
  have HS0 : Hid (w.heap.size + 3 ≤ W0.heap.size) := by show _ ≤ _; rw [← HW0.out]; simp
  clear hx1 hy1 hx2 hy2 g1 g2 g3 g4
  go_enter Tryd.func45, Tryd.ntmps45
  go_wp2_with fail
  rw [HW0.out]
  have HB : Hid (Below (w.heap.size + 3) W0 W0.drew) := (Below.refl _ _).drew
  obtain ⟨⟨r0, r1, r2, r3⟩, q0, q1, q2, q3⟩ := own4V (HX.out _ HB.out).2.2.1
  go_region_held3 (fun W => (W.cell? ⟨w.heap.size, 0, none⟩ = some (.bool n1) ∧ W.cell? ⟨w.heap.size, 1, none⟩ = some (.slice a1 l1 c1) ∧ W.cell? ⟨w.heap.size, 2, none⟩ = some (.bool m1) ∧ W.cell? ⟨w.heap.size, 3, none⟩ = some (.slice b1 k1 d1)) ∧ W.cell? ⟨w.heap.size + 1, 0, none⟩ = some (.bool n2) ∧ W.cell? ⟨w.heap.size + 1, 1, none⟩ = some (.slice a2 l2 c2) ∧ W.cell? ⟨w.heap.size + 1, 2, none⟩ = some (.bool m2) ∧ W.cell? ⟨w.heap.size + 1, 3, none⟩ = some (.slice b2 k2 d2))
    (first
      | exact ⟨(own4V (HX.out _ HB.out).1).1, (own4V (HX.out _ HB.out).2.1).1⟩
      | exact HSt.out _ HB.out _ _ _ _)
    (first
      | (go_at_call 48
         go_loud (
         refine (HF.out _ (HX.out _ HB.out).2.2.2).mono ?_
         rintro e w3 ⟨ta, tc, rfl, hu, hw3⟩
         have HTa := hid hu
         first
           | (have HTb := hid (HTb.out.below hw3 (Nat.le_refl _)))
           | skip
         have HB := hid (HB.out.trans (hw3.mono (Nat.le_trans HS0.out HB.out.size)))
         clear hu hw3 r0 r1 r2 r3 q0 q1 q2 q3
         obtain ⟨⟨r0, r1, r2, r3⟩, q0, q1, q2, q3⟩ := own4V (HX.out _ HB.out).2.2.1))
      | (go_at_call 141
         go_loud (
         refine (HTd.out _ (HX.out _ HB.out).2.2.2).mono ?_
         rintro e w4 ⟨sa, sc, rfl, hu, hw3⟩
         have HTb := hid hu
         first
           | (have HTa := hid (HTa.out.below hw3 (Nat.le_refl _)))
           | skip
         have HB := hid (HB.out.trans (hw3.mono (Nat.le_trans HS0.out HB.out.size)))
         clear hu hw3 r0 r1 r2 r3 q0 q1 q2 q3
         obtain ⟨⟨r0, r1, r2, r3⟩, q0, q1, q2, q3⟩ := own4V (HX.out _ HB.out).2.2.1)))
  all_goals
    go_wp2_with fail
    refine bodyPost_ret (v := .agg #[.bool S, .slice ta (grp Z).length tc, .bool M, .slice sa (grp D).length sc]) (by simp [results, Tryd.results45, go_sem, r0, r1, r2, r3]) rfl ⟨ta, tc, sa, sc, rfl, ?_, ?_, ?_⟩
    · exact natA_set4 HTa.out (HX.out _ HB.out).2.2.1 _ _ _ _
    · exact natA_set4 HTb.out (HX.out _ HB.out).2.2.1 _ _ _ _
    · exact below_set4 (HX.out _ HB.out).2.2.2 (by omega) _ _ _ _
end Go.Proofs.YtbbffhpppacihaaDoor
