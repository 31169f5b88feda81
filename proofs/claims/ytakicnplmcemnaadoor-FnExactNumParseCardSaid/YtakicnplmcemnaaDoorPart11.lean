/-
  The program's lowest and closed: a fraction in lowest terms, as a number. Condition: what is below is not nought; the table of powers stands.
  The program's closed: the number of a fraction. Condition: what is below is not nought; the table of powers stands.
  NumOk: the model's and the program's, and the law's szNum and toNum. Condition: the table of powers stands.
-/
import Derived.Test.YtakicnplmcemnaaDoorPart8
import Derived.Test.YtakicnplmcemnaaDoorPart10
import Derived.Test.YtakicnplmcemnaaDoorPart4
namespace Go.Proofs.YtakicnplmcemnaaDoor
open Go.RowKit Go.Siskin

set_option maxRecDepth 20000 in
set_option maxHeartbeats 800000 in
theorem lowest_any (neg : Bool) (u d : Nat) (vu vd : Value) (w : World) (hu : NatA w vu (grp u)) (hd : NatA w vd (grp d)) (hnu : nG u ≤ 1000) (hnd : nG d ≤ 1000) (hd0 : 0 < d) :
    Calls Tryd.prog 85 #[.agg #[.bool neg, vu, vd]] w fun e w' => ∃ qu qd, e = .returned (.agg #[.bool (neg && !(u / Nat.gcd u d == 0)), qu, qd]) ∧ NatA w' qu (grp (u / Nat.gcd u d)) ∧ NatA w' qd (grp (d / Nat.gcd u d)) ∧ Below w.heap.size w w' := by
  obtain ⟨ua, uc, rfl⟩ := natA_form hu
  obtain ⟨da, dc, rfl⟩ := natA_form hd
  obtain ⟨G, HG⟩ : ∃ G : Nat, Hid (Nat.gcd u d = G) := ⟨_, rfl⟩
  have HG0 : Hid (0 < G) := by show _ < _; rw [← HG.out]; exact Nat.gcd_pos_of_pos_right _ hd0
  rw [HG.out]
  have HCo : Hid (∀ W, NatA W (.slice ua (grp u).length uc) (grp u) → NatA W (.slice da (grp d).length dc) (grp d) → Calls Tryd.prog 74 #[.slice ua (grp u).length uc, .slice da (grp d).length dc] W fun e w' => ∃ g, e = .returned g ∧ NatA w' g (grp G) ∧ Below W.heap.size W w') := fun W h1 h2 => by
    have h := commonOf_any u d _ _ W h1 h2 hnu hnd
    rw [HG.out] at h
    exact h
  have HDu : Hid (∀ W y, NatA W (.slice ua (grp u).length uc) (grp u) → NatA W y (grp G) → Calls Tryd.prog 95 #[.slice ua (grp u).length uc, y] W fun e w' => ∃ q r, e = .returned (.tuple #[q, r]) ∧ NatA w' q (grp (u / G)) ∧ NatA w' r (grp (u % G)) ∧ Below W.heap.size W w') := fun W y h1 h2 => dividedBy_any u G _ y W h1 h2 HG0.out hnu
  have HDd : Hid (∀ W y, NatA W (.slice da (grp d).length dc) (grp d) → NatA W y (grp G) → Calls Tryd.prog 95 #[.slice da (grp d).length dc, y] W fun e w' => ∃ q r, e = .returned (.tuple #[q, r]) ∧ NatA w' q (grp (d / G)) ∧ NatA w' r (grp (d % G)) ∧ Below W.heap.size W w') := fun W y h1 h2 => dividedBy_any d G _ y W h1 h2 HG0.out hnd
  have HX : Hid (∀ W, Below (w.heap.size + 2) ((w.alloc (.cells #[.bool neg, .slice ua (grp u).length uc, .slice da (grp d).length dc] 46)).alloc boxF) W → Own W w.heap.size 46 #[.bool neg, .slice ua (grp u).length uc, .slice da (grp d).length dc] ∧ Own W (w.heap.size + 1) 46 #[.bool false, .slice none 0 0, .slice none 0 0] ∧ NatA W (.slice ua (grp u).length uc) (grp u) ∧ NatA W (.slice da (grp d).length dc) (grp d) ∧ Below w.heap.size w W) := fun W h => by
    have h1 : Own ((w.alloc (.cells #[.bool neg, .slice ua (grp u).length uc, .slice da (grp d).length dc] 46)).alloc boxF) w.heap.size 46 #[.bool neg, .slice ua (grp u).length uc, .slice da (grp d).length dc] := (Below.heap_alloc _ _ _ (by simp)).trans (own_new w _ _)
    have h2 := own_new (w.alloc (.cells #[.bool neg, .slice ua (grp u).length uc, .slice da (grp d).length dc] 46)) #[.bool false, .slice none 0 0, .slice none 0 0] 46
    rw [World.size_alloc] at h2
    exact ⟨h1.keep h (by omega), h2.keep h (by omega), ((hu.alloc _).alloc _).below h (by simp), ((hd.alloc _).alloc _).below h (by simp), (((Below.refl _ _).alloc (Nat.le_refl _) _).alloc (by simp) _).trans (h.mono (by omega))⟩
  have HB : Hid (Below (w.heap.size + 2) ((w.alloc (.cells #[.bool neg, .slice ua (grp u).length uc, .slice da (grp d).length dc] 46)).alloc boxF) ((w.alloc (.cells #[.bool neg, .slice ua (grp u).length uc, .slice da (grp d).length dc] 46)).alloc boxF)) := Below.refl _ _
  obtain ⟨⟨n0, n1, n2⟩, -⟩ := own3V (HX.out _ HB.out).1
  have hy : w.heap.size + 2 ≤ ((w.alloc (.cells #[.bool neg, .slice ua (grp u).length uc, .slice da (grp d).length dc] 46)).alloc boxF).heap.size := by simp
  clear hu hd hnu hnd hd0
  go_enter Tryd.func85, Tryd.ntmps85
  go_wp2_with fail
  refine (HCo.out _ (HX.out _ HB.out).2.2.1 (HX.out _ HB.out).2.2.2.1).mono ?_
  rintro e w1 ⟨g, rfl, hg, hw1⟩
  have HB1 := hid (HB.out.trans (hw1.mono hy))
  have HGn := hid hg
  obtain ⟨ga', gc, rfl⟩ := natA_formR hg
  have y1 := Nat.le_trans hy hw1.size
  clear hg hw1 hy n0 n1 n2
  obtain ⟨⟨n0, n1, n2⟩, -⟩ := own3V (HX.out _ HB1.out).1
  go_wp2_with fail
  refine (HDu.out _ _ (HX.out _ HB1.out).2.2.1 HGn.out).mono ?_
  rintro e w2 ⟨q, r, rfl, hq, hr, hw2⟩
  have HB2 := hid (HB1.out.trans (hw2.mono y1))
  have HG2 := hid (HGn.out.below hw2 (Nat.le_refl _))
  have HQ := hid hq
  obtain ⟨qa, qc, rfl⟩ := natA_formR hq
  obtain ⟨ra, rc, rfl⟩ := natA_formR hr
  have y2 := Nat.le_trans y1 hw2.size
  clear hq hr hw2 n0 n1 n2
  obtain ⟨⟨n0, n1, n2⟩, -⟩ := own3V (HX.out _ HB2.out).1
  go_wp2_with fail
  refine (HDd.out _ _ (HX.out _ HB2.out).2.2.2.1 HG2.out).mono ?_
  rintro e w3 ⟨p, r, rfl, hp, hr, hw3⟩
  have HB3 := hid (HB2.out.trans (hw3.mono y2))
  have HQ3 := hid (HQ.out.below hw3 (Nat.le_refl _))
  have HPp := hid hp
  obtain ⟨pa, pc, rfl⟩ := natA_formR hp
  obtain ⟨sa, sc, rfl⟩ := natA_formR hr
  clear hp hr hw3 n0 n1 n2
  obtain ⟨⟨n0, n1, n2⟩, -⟩ := own3V (HX.out _ HB3.out).1
  obtain ⟨⟨r0, r1, r2⟩, q0, q1, q2⟩ := own3V (HX.out _ HB3.out).2.1
  have HO3 := hid (HX.out _ HB3.out).2.1
  have HW3 := hid (HX.out _ HB3.out).2.2.2.2
  have HNo := hid (isNought_any (u / G) _ w3 HQ3.out)
  generalize hb : (u / G == 0) = b at *
  cases neg with
  | false =>
    clear hb
    go_wp2_with fail
    refine bodyPost_ret (v := .agg #[.bool false, .slice qa (grp (u / G)).length qc, .slice pa (grp (d / G)).length pc]) (by simp [results, Tryd.results85, go_sem, r0, r1, r2]) rfl ⟨_, _, rfl, natA_box HQ3.out HO3.out _ _ _, natA_box HPp.out HO3.out _ _ _, ?_⟩
    exact ((HW3.out.setCell (p := ⟨w.heap.size + 1, 0, none⟩) (Nat.le_succ _) _).setCell (p := ⟨w.heap.size + 1, 1, none⟩) (Nat.le_succ _) _).setCell (p := ⟨w.heap.size + 1, 2, none⟩) (Nat.le_succ _) _
  | true =>
    cases b
    all_goals
      have HV := hid hb
      clear hb
      go_wp2_with fail
      refine HNo.out.mono ?_
      rintro e w' ⟨rfl, hw⟩
      obtain rfl := hw.symm
      go_wp2_with fail
    · refine bodyPost_ret (v := .agg #[.bool true, .slice qa (grp (u / G)).length qc, .slice pa (grp (d / G)).length pc]) (by simp [results, Tryd.results85, go_sem, r0, r1, r2]) rfl ⟨_, _, by rw [HV.out]; rfl, natA_box HQ3.out HO3.out _ _ _, natA_box HPp.out HO3.out _ _ _, ?_⟩
      exact ((HW3.out.setCell (p := ⟨w.heap.size + 1, 0, none⟩) (Nat.le_succ _) _).setCell (p := ⟨w.heap.size + 1, 1, none⟩) (Nat.le_succ _) _).setCell (p := ⟨w.heap.size + 1, 2, none⟩) (Nat.le_succ _) _
    · refine bodyPost_ret (v := .agg #[.bool false, .slice qa (grp (u / G)).length qc, .slice pa (grp (d / G)).length pc]) (by simp [results, Tryd.results85, go_sem, r0, r1, r2]) rfl ⟨_, _, by rw [HV.out]; rfl, natA_box HQ3.out HO3.out _ _ _, natA_box HPp.out HO3.out _ _ _, ?_⟩
      exact ((HW3.out.setCell (p := ⟨w.heap.size + 1, 0, none⟩) (Nat.le_succ _) _).setCell (p := ⟨w.heap.size + 1, 1, none⟩) (Nat.le_succ _) _).setCell (p := ⟨w.heap.size + 1, 2, none⟩) (Nat.le_succ _) _
end Go.Proofs.YtakicnplmcemnaaDoor

namespace Go.Proofs.YtakicnplmcemnaaDoor
open Go.RowKit Go.Siskin

/-- A fraction's box is no row of groups. -/
theorem natA_box2 {w : World} {v : Value} {gs : List Nat} {fb : Nat} {e : TypeId} {n : Bool} {a1 a2 : Option Addr} {l1 l2 c1 c2 : Nat} (h : NatA w v gs) (ho : Own w fb e #[.bool n, .slice a1 l1 c1, .slice a2 l2 c2]) (x y z : Value) :
    NatA (((w.setCell ⟨fb, 0, none⟩ x).setCell ⟨fb, 1, none⟩ y).setCell ⟨fb, 2, none⟩ z) v gs := by
  obtain ⟨a, cap, e1, h1, h2, h3⟩ := h
  refine ⟨a, cap, e1, h1, h2, ?_⟩
  rcases h3 with h3 | ⟨b, o, e2, hb, hc⟩
  · exact Or.inl h3
  · by_cases hg : gs = []
    · exact Or.inl hg
    · have hne : b ≠ fb := by
        rintro rfl
        have hl : 0 < gs.length := List.length_pos_iff.2 hg
        have h := hc 0 hl
        rw [Own.cell ho (o + 0)] at h
        rcases o with _ | _ | _ | o
        · simp at h
        · simp at h
        · simp at h
        · simp at h
      refine Or.inr ⟨b, o, e2, by simpa [World.setCell] using hb, fun i hi => ?_⟩
      rw [← hc i hi]
      refine World.cell?_of_block (w := w) ?_
      rw [Below.heap_setCell _ _ _ _ hne, Below.heap_setCell _ _ _ _ hne, Below.heap_setCell _ _ _ _ hne]
theorem own_other {w : World} {g b : Nat} {e : TypeId} {cs : Array Value} (h : Own w g e cs) (hne : g ≠ b) (x y z : Value) : Own (((w.setCell ⟨b, 0, none⟩ x).setCell ⟨b, 1, none⟩ y).setCell ⟨b, 2, none⟩ z) g e cs :=
  (Below.heap_setCell _ ⟨b, 2, none⟩ z g hne).trans ((Below.heap_setCell _ ⟨b, 1, none⟩ y g hne).trans ((Below.heap_setCell _ ⟨b, 0, none⟩ x g hne).trans h))

/-- The number of a fraction in lowest terms. -/
def closedV (neg : Bool) (a b : Nat) : Value :=
  if Lib.nDigits a ≤ 60 ∧ Lib.nDigits b ≤ 60 then .tuple #[.agg #[.bool (neg && !(a == 0)), .string (dec a), .string (dec b)], .bool true] else .tuple #[.agg #[.bool false, .string ⟨#[]⟩, .string ⟨#[]⟩], .bool false]

set_option maxRecDepth 20000 in
set_option maxHeartbeats 1000000 in
theorem isTooLong_any (x : Nat) (v : Value) (w : World) (h : NatA w v (grp x)) (hn : nG x ≤ 100000) (hP : Pow9 w) (b : Bool) (hb : decide (60 < Lib.nDigits x) = b) :
    Calls Tryd.prog 86 #[v] w fun e w' => e = .returned (.bool b) ∧ w' = w := by
  obtain ⟨l, HL⟩ : ∃ l : Nat, Hid (Lib.nDigits x = l) := ⟨_, rfl⟩
  have HD := hid (digits_any x v w h (by omega) hP)
  rw [HL.out] at HD hb
  have hl : l ≤ 1000000 := by
    rw [← HL.out]
    rcases Nat.eq_zero_or_pos x with h0 | h0
    · rw [h0, Lib.nDigits_small (by decide)]; decide
    · have h1 := nDigits_top h0
      have h2 := top_pos h0
      have h3 : Lib.nDigits (x / 1000000000 ^ (nG x - 1)) ≤ 9 := nDigits_le h2.2 (by decide)
      omega
  have hli : (l : Int) ≤ 1000000 := by omega
  obtain ⟨a, c, rfl⟩ := natA_form h
  have HB : Hid (decide ((60 : Int) < (l : Int)) = b) := by
    show _ = b
    rw [← hb]
    exact decide_eq_decide.2 (by omega)
  clear h hP hn hb
  go_enter Tryd.func86, Tryd.ntmps86
  go_wp2_with fail
  refine HD.out.mono ?_
  rintro e w' ⟨rfl, hw⟩
  obtain rfl := hw.symm
  go_wp2_with fail
  go_ret
  exact ⟨by first | rfl | (rw [HB.out]; rfl), rfl⟩


set_option maxRecDepth 20000 in
set_option maxHeartbeats 800000 in
theorem closed_any (neg : Bool) (u d : Nat) (vu vd : Value) (w : World) (hu : NatA w vu (grp u)) (hd : NatA w vd (grp d)) (hnu : nG u ≤ 1000) (hnd : nG d ≤ 1000) (hd0 : 0 < d) (hP : Pow9 w) :
    Calls Tryd.prog 51 #[.agg #[.bool neg, vu, vd]] w fun e w' => e = .returned (closedV neg (u / Nat.gcd u d) (d / Nat.gcd u d)) ∧ Below w.heap.size w w' := by
  obtain ⟨ua, uc, rfl⟩ := natA_form hu
  obtain ⟨va, vc, rfl⟩ := natA_form hd
  have HLo := hid (fun W h1 h2 => lowest_any neg u d (.slice ua (grp u).length uc) (.slice va (grp d).length vc) W h1 h2 hnu hnd hd0)
  have hnA : nG (u / Nat.gcd u d) ≤ 1000 := Nat.le_trans (nG_mono (Nat.div_le_self _ _)) hnu
  have hnB : nG (d / Nat.gcd u d) ≤ 1000 := Nat.le_trans (nG_mono (Nat.div_le_self _ _)) hnd
  generalize u / Nat.gcd u d = A at *
  generalize d / Nat.gcd u d = B at *
  have HDg := hid (fun W v b (hb : decide (60 < Lib.nDigits A) = b) (h : NatA W v (grp A)) (hp : Pow9 W) => isTooLong_any A v W h (by omega) hp b hb)
  have HDh := hid (fun W v b (hb : decide (60 < Lib.nDigits B) = b) (h : NatA W v (grp B)) (hp : Pow9 W) => isTooLong_any B v W h (by omega) hp b hb)
  have HPl := hid (fun W n va vb (h1 : NatA W va (grp A)) (h2 : NatA W vb (grp B)) (hp : Pow9 W) => plain_any n A B va vb W h1 h2 (by omega) (by omega) hp)
  obtain ⟨la, HLa⟩ : ∃ l : Nat, Hid (Lib.nDigits A = l) := ⟨_, rfl⟩
  obtain ⟨lb, HLb⟩ : ∃ l : Nat, Hid (Lib.nDigits B = l) := ⟨_, rfl⟩
  have HCV := hid (show closedV neg A B = if la ≤ 60 ∧ lb ≤ 60 then _ else _ by unfold closedV; rw [HLa.out, HLb.out])
  rw [HCV.out]
  rw [HLa.out] at HDg
  rw [HLb.out] at HDh
  have hll : la ≤ 1000000 := by
    rw [← HLa.out]
    rcases Nat.eq_zero_or_pos A with h0 | h0
    · rw [h0, Lib.nDigits_small (by decide)]; decide
    · have h1 := nDigits_top h0
      have h2 := top_pos h0
      have h3 : Lib.nDigits (A / 1000000000 ^ (nG A - 1)) ≤ 9 := nDigits_le h2.2 (by decide)
      omega
  have hlb : lb ≤ 1000000 := by
    rw [← HLb.out]
    rcases Nat.eq_zero_or_pos B with h0 | h0
    · rw [h0, Lib.nDigits_small (by decide)]; decide
    · have h1 := nDigits_top h0
      have h2 := top_pos h0
      have h3 : Lib.nDigits (B / 1000000000 ^ (nG B - 1)) ≤ 9 := nDigits_le h2.2 (by decide)
      omega
  obtain ⟨ng, HNg⟩ : ∃ b : Bool, Hid ((neg && !(A == 0)) = b) := ⟨_, rfl⟩
  rw [HNg.out] at HLo ⊢
  obtain ⟨da, HDa⟩ : ∃ x, Hid (dec A = x) := ⟨_, rfl⟩
  obtain ⟨db, HDb⟩ : ∃ x, Hid (dec B = x) := ⟨_, rfl⟩
  rw [HDa.out, HDb.out] at HPl ⊢
  obtain ⟨gA, HGA⟩ : ∃ g, Hid (grp A = g) := ⟨_, rfl⟩
  obtain ⟨gB, HGB⟩ : ∃ g, Hid (grp B = g) := ⟨_, rfl⟩
  rw [HGA.out] at HDg
  rw [HGB.out] at HDh
  rw [HGA.out, HGB.out] at HLo HPl
  have HX : Hid (∀ W, Below (w.heap.size + 2) ((w.alloc (.cells #[.bool neg, .slice ua (grp u).length uc, .slice va (grp d).length vc] 46)).alloc (.cells #[.bool false, .string ⟨#[]⟩, .string ⟨#[]⟩] 26)) W → Own W w.heap.size 46 #[.bool neg, .slice ua (grp u).length uc, .slice va (grp d).length vc] ∧ Own W (w.heap.size + 1) 26 #[.bool false, .string ⟨#[]⟩, .string ⟨#[]⟩] ∧ NatA W (.slice ua (grp u).length uc) (grp u) ∧ NatA W (.slice va (grp d).length vc) (grp d) ∧ Below w.heap.size w W ∧ Pow9 W) := fun W h => by
    have h1 : Own ((w.alloc (.cells #[.bool neg, .slice ua (grp u).length uc, .slice va (grp d).length vc] 46)).alloc (.cells #[.bool false, .string ⟨#[]⟩, .string ⟨#[]⟩] 26)) w.heap.size 46 #[.bool neg, .slice ua (grp u).length uc, .slice va (grp d).length vc] := (Below.heap_alloc _ _ _ (by simp)).trans (own_new w _ _)
    have h2 := own_new (w.alloc (.cells #[.bool neg, .slice ua (grp u).length uc, .slice va (grp d).length vc] 46)) #[.bool false, .string ⟨#[]⟩, .string ⟨#[]⟩] 26
    rw [World.size_alloc] at h2
    have hb := (((Below.refl w.heap.size w).alloc (Nat.le_refl _) (.cells #[.bool neg, .slice ua (grp u).length uc, .slice va (grp d).length vc] 46)).alloc (by simp) (.cells #[.bool false, .string ⟨#[]⟩, .string ⟨#[]⟩] 26)).trans (h.mono (by omega))
    exact ⟨h1.keep h (by omega), h2.keep h (by omega), ((hu.alloc _).alloc _).below h (by simp), ((hd.alloc _).alloc _).below h (by simp), hb, hP.below hb (Nat.le_refl _)⟩
  have HB : Hid (Below (w.heap.size + 2) ((w.alloc (.cells #[.bool neg, .slice ua (grp u).length uc, .slice va (grp d).length vc] 46)).alloc (.cells #[.bool false, .string ⟨#[]⟩, .string ⟨#[]⟩] 26)) ((w.alloc (.cells #[.bool neg, .slice ua (grp u).length uc, .slice va (grp d).length vc] 46)).alloc (.cells #[.bool false, .string ⟨#[]⟩, .string ⟨#[]⟩] 26))) := Below.refl _ _
  obtain ⟨⟨n0, n1, n2⟩, -⟩ := own3V (HX.out _ HB.out).1
  have hy : w.heap.size + 2 ≤ ((w.alloc (.cells #[.bool neg, .slice ua (grp u).length uc, .slice va (grp d).length vc] 46)).alloc (.cells #[.bool false, .string ⟨#[]⟩, .string ⟨#[]⟩] 26)).heap.size := by simp
  have HP0 := hid hP
  clear hu hd hnu hnd hd0 hP hnA hnB
  go_enter Tryd.func51, Tryd.ntmps51
  go_wp2_with fail
  refine (HLo.out _ (HX.out _ HB.out).2.2.1 (HX.out _ HB.out).2.2.2.1).mono ?_
  rintro e w1 ⟨qu, qd, rfl, hq, hp, hw1⟩
  have HB1 := hid (HB.out.trans (hw1.mono hy))
  obtain ⟨qa, qc, rfl⟩ := natA_formR hq
  obtain ⟨pa, pc, rfl⟩ := natA_formR hp
  have hOb := (HX.out _ HB1.out).1
  have hOr := (HX.out _ HB1.out).2.1
  have hbw := (HX.out _ HB1.out).2.2.2.2.1
  have hpw := (HX.out _ HB1.out).2.2.2.2.2
  clear n0 n1 n2
  obtain ⟨⟨n0, n1, n2⟩, f0, f1, f2⟩ := own3V hOb
  obtain ⟨W4, HW4⟩ : ∃ W, Hid ((((w1.setCell ⟨w.heap.size, 0, none⟩ (.bool ng)).setCell ⟨w.heap.size, 1, none⟩ (.slice qa gA.length qc)).setCell ⟨w.heap.size, 2, none⟩ (.slice pa gB.length pc)) = W) := ⟨_, rfl⟩
  have hB4 : Below w.heap.size w W4 := by
    rw [← HW4.out]
    exact ((hbw.setCell (p := ⟨w.heap.size, 0, none⟩) (Nat.le_refl _) _).setCell (p := ⟨w.heap.size, 1, none⟩) (Nat.le_refl _) _).setCell (p := ⟨w.heap.size, 2, none⟩) (Nat.le_refl _) _
  have HQ4 : Hid (NatA W4 (.slice qa gA.length qc) gA) := by rw [← HW4.out]; exact natA_box2 hq hOb _ _ _
  have HP4 : Hid (NatA W4 (.slice pa gB.length pc) gB) := by rw [← HW4.out]; exact natA_box2 hp hOb _ _ _
  have HOr : Hid (Own W4 (w.heap.size + 1) 26 #[.bool false, .string ⟨#[]⟩, .string ⟨#[]⟩]) := by rw [← HW4.out]; exact own_other hOr (by omega) _ _ _
  have hOb4 : Own W4 w.heap.size 46 #[.bool ng, .slice qa gA.length qc, .slice pa gB.length pc] := by rw [← HW4.out]; exact ((hOb.set 0 _).set 1 _).set 2 _
  have HPw : Hid (Pow9 W4) := HP0.out.below hB4 (Nat.le_refl _)
  have HB4 := hid hB4
  have hz4 : w.heap.size + 2 ≤ W4.heap.size := by
    rw [← HW4.out]
    have := HB1.out.size
    rw [World.size_alloc, World.size_alloc] at this
    simpa [World.setCell] using this
  clear hq hp hw1 hOb hbw hpw hB4
  go_wp2_with fail
  rw [HW4.out]
  clear n0 n1 n2 f0 f1 f2
  obtain ⟨⟨n0, n1, n2⟩, -⟩ := own3V hOb4
  obtain ⟨⟨r0, r1, r2⟩, q0, q1, q2⟩ := own3V HOr.out
  have hl1 : (la : Int) ≤ 1000000 := by omega
  have hl2 : (lb : Int) ≤ 1000000 := by omega
  by_cases h1 : 60 < la
  · have HV : Hid ((if la ≤ 60 ∧ lb ≤ 60 then Value.tuple #[.agg #[.bool ng, .string da, .string db], .bool true] else .tuple #[.agg #[.bool false, .string ⟨#[]⟩, .string ⟨#[]⟩], .bool false]) = .tuple #[.agg #[.bool false, .string ⟨#[]⟩, .string ⟨#[]⟩], .bool false]) := if_neg (by omega)
    refine (HDg.out _ _ true (decide_eq_true h1) HQ4.out HPw.out).mono ?_
    rintro e w' ⟨rfl, hw⟩
    obtain rfl := hw.symm
    go_wp2_with fail
    refine bodyPost_ret (v := .tuple #[.agg #[.bool false, .string ⟨#[]⟩, .string ⟨#[]⟩], .bool false]) (by simp [results, Tryd.results51, go_sem, r0, r1, r2]) rfl ⟨by first | rw [HV.out] | rfl, ?_⟩
    exact ((HB4.out.setCell (p := ⟨w.heap.size + 1, 0, none⟩) (Nat.le_succ _) _).setCell (p := ⟨w.heap.size + 1, 1, none⟩) (Nat.le_succ _) _).setCell (p := ⟨w.heap.size + 1, 2, none⟩) (Nat.le_succ _) _
  · refine (HDg.out _ _ false (decide_eq_false h1) HQ4.out HPw.out).mono ?_
    rintro e w' ⟨rfl, hw⟩
    obtain rfl := hw.symm
    go_wp2_with fail
    by_cases h2 : 60 < lb
    · have HV : Hid ((if la ≤ 60 ∧ lb ≤ 60 then Value.tuple #[.agg #[.bool ng, .string da, .string db], .bool true] else .tuple #[.agg #[.bool false, .string ⟨#[]⟩, .string ⟨#[]⟩], .bool false]) = .tuple #[.agg #[.bool false, .string ⟨#[]⟩, .string ⟨#[]⟩], .bool false]) := if_neg (by omega)
      refine (HDh.out _ _ true (decide_eq_true h2) HP4.out HPw.out).mono ?_
      rintro e w' ⟨rfl, hw⟩
      obtain rfl := hw.symm
      go_wp2_with fail
      refine bodyPost_ret (v := .tuple #[.agg #[.bool false, .string ⟨#[]⟩, .string ⟨#[]⟩], .bool false]) (by simp [results, Tryd.results51, go_sem, r0, r1, r2]) rfl ⟨by first | rw [HV.out] | rfl, ?_⟩
      exact ((HB4.out.setCell (p := ⟨w.heap.size + 1, 0, none⟩) (Nat.le_succ _) _).setCell (p := ⟨w.heap.size + 1, 1, none⟩) (Nat.le_succ _) _).setCell (p := ⟨w.heap.size + 1, 2, none⟩) (Nat.le_succ _) _
    · have HV : Hid ((if la ≤ 60 ∧ lb ≤ 60 then Value.tuple #[.agg #[.bool ng, .string da, .string db], .bool true] else .tuple #[.agg #[.bool false, .string ⟨#[]⟩, .string ⟨#[]⟩], .bool false]) = .tuple #[.agg #[.bool ng, .string da, .string db], .bool true]) := if_pos (by omega)
      refine (HDh.out _ _ false (decide_eq_false h2) HP4.out HPw.out).mono ?_
      rintro e w' ⟨rfl, hw⟩
      obtain rfl := hw.symm
      go_wp2_with fail
      refine (HPl.out _ _ _ _ HQ4.out HP4.out HPw.out).mono ?_
      rintro e w5 ⟨rfl, hw5⟩
      have HB5 := hid (HB4.out.trans (hw5.mono (by omega)))
      have hO5 : Own w5 (w.heap.size + 1) 26 #[.bool false, .string ⟨#[]⟩, .string ⟨#[]⟩] := HOr.out.keep hw5 (by omega)
      clear r0 r1 r2 q0 q1 q2 hw5
      obtain ⟨⟨r0, r1, r2⟩, q0, q1, q2⟩ := own3V hO5
      clear hO5
      go_wp2_with fail
      refine bodyPost_ret (v := .tuple #[.agg #[.bool ng, .string da, .string db], .bool true]) (by simp [results, Tryd.results51, go_sem, r0, r1, r2]) rfl ⟨by first | rw [HV.out] | rfl, ?_⟩
      exact ((HB5.out.setCell (p := ⟨w.heap.size + 1, 0, none⟩) (Nat.le_succ _) _).setCell (p := ⟨w.heap.size + 1, 1, none⟩) (Nat.le_succ _) _).setCell (p := ⟨w.heap.size + 1, 2, none⟩) (Nat.le_succ _) _
end Go.Proofs.YtakicnplmcemnaaDoor

namespace Go.Proofs.YtakicnplmcemnaaDoor
open Go.RowKit Go.Siskin

/-- What the law's own count leaves. -/
def szN (a b : Nat) (left : Int) : Int := if left - a < 0 then -1 else if left - a - b < 0 then -1 else left - a - b

set_option maxRecDepth 20000 in
set_option maxHeartbeats 1000000 in
theorem szNum_any (neg : Bool) (up down : ByteArray) (left : Int) (w : World) (h0 : 0 ≤ left) (h1 : left ≤ 1048576) (hu : up.size ≤ maxLen) (hd : down.size ≤ maxLen) :
    Calls Tryd.prog 12 #[.agg #[.bool neg, .string up, .string down], .int .i64 left] w fun e w' => e = .returned (.int .i64 (szN up.size down.size left)) ∧ Below w.heap.size w w' := by
  unfold maxLen at hu hd
  obtain ⟨a, HA⟩ : ∃ a : Nat, Hid (up.size = a) := ⟨_, rfl⟩
  obtain ⟨b, HB⟩ : ∃ b : Nat, Hid (down.size = b) := ⟨_, rfl⟩
  have ha : (up.size : Int) = (a : Int) := by rw [HA.out]
  have hb : (down.size : Int) = (b : Int) := by rw [HB.out]
  rw [HA.out] at hu ⊢
  rw [HB.out] at hd ⊢
  have HBw : Hid (Below w.heap.size w (w.alloc (.cells #[.bool neg, .string up, .string down] 23))) := (Below.refl _ _).alloc (Nat.le_refl _) _
  by_cases h2 : left - a < 0
  · have HV : Hid (szN a b left = -1) := by show _ = _; unfold szN; rw [if_pos h2]
    rw [HV.out]
    go_enter Tryd.func12, Tryd.ntmps12
    go_wp2_with fail
    go_ret
    exact ⟨rfl, HBw.out⟩
  · by_cases h3 : left - a - b < 0
    · have HV : Hid (szN a b left = -1) := by show _ = _; unfold szN; rw [if_neg h2, if_pos h3]
      rw [HV.out]
      go_enter Tryd.func12, Tryd.ntmps12
      go_wp2_with fail
      go_ret
      exact ⟨rfl, HBw.out⟩
    · have HV : Hid (szN a b left = left - a - b) := by show _ = _; unfold szN; rw [if_neg h2, if_neg h3]
      rw [HV.out]
      go_enter Tryd.func12, Tryd.ntmps12
      go_wp2_with fail
      go_ret
      exact ⟨rfl, HBw.out⟩

set_option maxRecDepth 20000 in
set_option maxHeartbeats 1000000 in
theorem toNum_any (neg : Bool) (up down : ByteArray) (w : World) :
    Calls Tryd.prog 14 #[.agg #[.bool neg, .string up, .string down]] w fun e w' => e = .returned (.agg #[.bool neg, .string up, .string down]) ∧ Below w.heap.size w w' := by
  go_enter Tryd.func14, Tryd.ntmps14
  go_wp2_with fail
  refine bodyPost_ret (v := .agg #[.bool neg, .string up, .string down]) ?_ rfl ⟨rfl, ?_⟩
  · simp [results, Tryd.results14, go_sem]
  · exact (((Below.refl _ _).alloc (Nat.le_refl _) _).alloc (by simp) _).alloc (by simp <;> omega) _

/-- What is a number. -/
def NumP (neg : Bool) (up down : ByteArray) : Prop := ∃ u d, up = dec u ∧ down = dec d ∧ up.size ≤ 60 ∧ down.size ≤ 60 ∧ OkUD neg u d

set_option maxRecDepth 20000 in
set_option maxHeartbeats 2000000 in
theorem implNumOk_any (neg : Bool) (up down : ByteArray) (w : World) (hu : up.size ≤ maxLen) (hd : down.size ≤ maxLen) (hP : Pow9 w) (b : Bool) (hb : b = true ↔ NumP neg up down) :
    Calls Tryd.prog 15 #[.agg #[.bool neg, .string up, .string down]] w fun e w' => e = .returned (.bool b) ∧ Below w.heap.size w w' := by
  have HBw : Hid (Below (w.heap.size + 1) (w.alloc (.cells #[.bool neg, .string up, .string down] 26)) (w.alloc (.cells #[.bool neg, .string up, .string down] 26))) := Below.refl _ _
  obtain ⟨n0, n1, n2⟩ := res3 HBw.out
  by_cases ht : (DecP up ∧ up.size ≤ 60) ∧ (DecP down ∧ down.size ≤ 60)
  · obtain ⟨⟨du, su⟩, ⟨dd, sd⟩⟩ := ht
    obtain ⟨u, rfl⟩ := (decP_iff up).1 du
    obtain ⟨d, rfl⟩ := (decP_iff down).1 dd
    have su' := su
    have sd' := sd
    rw [dec_size] at su' sd'
    have hOK : OkUD neg u d ↔ NumP neg (dec u) (dec d) := ⟨fun h => ⟨u, d, rfl, rfl, su, sd, h⟩, fun ⟨u', d', e1, e2, _, _, h⟩ => by rw [dec_inj e1, dec_inj e2]; exact h⟩
    have HO := hid (fun w (h : Pow9 w) => openNum_dec neg u d w su' sd' h)
    have HP := hid hP
    have HOK := hid hOK
    have HBb := hid hb
    clear hOK hb du dd su sd su' sd' hP
    generalize dec u = up at *
    generalize dec d = down at *
    go_enter Tryd.func15, Tryd.ntmps15
    go_wp2_with fail
    refine (HO.out _ (HP.out.alloc _)).mono ?_
    rintro e w1 ⟨F, bb, rfl, hw, hcase⟩
    have HW := hid (((Below.refl w.heap.size w).alloc (Nat.le_refl _) _).trans (hw.mono (by simp)))
    have hs1 : w.heap.size ≤ w1.heap.size := HW.out.size
    rcases hcase with ⟨rfl, hok, vu, vd, rfl, hvu, hvd⟩ | ⟨rfl, hno, rfl⟩
    · have HV : Hid (true = b) := (HBb.out.2 (HOK.out.1 hok)).symm
      obtain ⟨ua, uc, rfl⟩ := natA_form hvu
      obtain ⟨da, dc, rfl⟩ := natA_form hvd
      clear hvu hvd hw hok
      go_wp2_with fail
      go_ret
      exact ⟨ret_boolz HV.out, HW.out.alloc hs1 _⟩
    · have HV : Hid (false = b) := by
        show _ = _
        cases hbb : b with
        | false => rfl
        | true => exact absurd (HOK.out.2 (HBb.out.1 hbb)) hno
      clear hw hno
      go_wp2_with fail
      go_ret
      exact ⟨ret_boolz HV.out, HW.out.alloc hs1 _⟩
  · have HV : Hid (false = b) := by
      show _ = _
      cases hbb : b with
      | false => rfl
      | true =>
        obtain ⟨u, d, e1, e2, h1, h2, -⟩ := hb.1 hbb
        exact absurd ⟨⟨(decP_iff up).2 ⟨u, e1⟩, h1⟩, ⟨(decP_iff down).2 ⟨d, e2⟩, h2⟩⟩ ht
    have HO := hid (fun w => openNum_text neg up down w hu hd ht)
    clear ht hb
    go_enter Tryd.func15, Tryd.ntmps15
    go_wp2_with fail
    refine (HO.out _).mono ?_
    rintro e w1 ⟨rfl, hw⟩
    have HW := hid (((Below.refl w.heap.size w).alloc (Nat.le_refl _) _).trans (hw.mono (by simp)))
    have hs1 : w.heap.size ≤ w1.heap.size := HW.out.size
    clear hw
    go_wp2_with fail
    go_ret
    exact ⟨ret_boolz HV.out, HW.out.alloc hs1 _⟩
theorem nought_text (v : Nat) : ((dec v).toList == [48]) = decide (v = 0) := by
  rw [Bool.eq_iff_iff, decide_eq_true_eq, beq_iff_eq, Go.ByteArray.toList_eq]
  have hz : dec 0 = ⟨#[48]⟩ := by rw [dec_small (by decide)]; rfl
  constructor
  · intro e
    have h2 : dec v = dec 0 := by rw [hz]; exact ba_ext e
    exact dec_inj h2
  · rintro rfl; rw [hz]
theorem one_text (v : Nat) : ((dec v).toList == [49]) = decide (v = 1) := by
  rw [Bool.eq_iff_iff, decide_eq_true_eq, beq_iff_eq, Go.ByteArray.toList_eq]
  have hz : dec 1 = ⟨#[49]⟩ := dec_one
  constructor
  · intro e
    have h2 : dec v = dec 1 := by rw [hz]; exact ba_ext e
    exact dec_inj h2
  · rintro rfl; rw [hz]

set_option maxRecDepth 20000 in
set_option maxHeartbeats 4000000 in
theorem specNumOk_any (neg : Bool) (up down : ByteArray) (w : World) (hu : up.size ≤ maxLen) (hd : down.size ≤ maxLen) (b : Bool) (hb : b = true ↔ NumP neg up down) :
    Calls Tryd.prog 13 #[.agg #[.bool neg, .string up, .string down]] w fun e w' => e = .returned (.bool b) ∧ Below w.heap.size w w' := by
  have HBw : Hid (Below (w.heap.size + 1) (w.alloc (.cells #[.bool neg, .string up, .string down] 26)) (w.alloc (.cells #[.bool neg, .string up, .string down] 26))) := Below.refl _ _
  have HBd : Hid (Below w.heap.size w (w.alloc (.cells #[.bool neg, .string up, .string down] 26))) := (Below.refl _ _).alloc (Nat.le_refl _) _
  obtain ⟨n0, n1, n2⟩ := res3 HBw.out
  have HBb := hid hb
  have HUl := hid hu
  have HDl := hid hd
  unfold maxLen at hu hd
  clear hb
  by_cases h1 : 60 < up.size
  · have HV : Hid (false = b) := by
      show _ = _
      cases hbb : b with
      | false => rfl
      | true =>
        obtain ⟨u', d', e1, e2, s1, s2, ok⟩ := HBb.out.1 hbb
        omega
    go_enter Tryd.func13, Tryd.ntmps13
    go_wp2_with fail
    go_ret
    exact ⟨ret_boolz HV.out, HBd.out⟩
  by_cases h2 : 60 < down.size
  · have HV : Hid (false = b) := by
      show _ = _
      cases hbb : b with
      | false => rfl
      | true =>
        obtain ⟨u', d', e1, e2, s1, s2, ok⟩ := HBb.out.1 hbb
        omega
    go_enter Tryd.func13, Tryd.ntmps13
    go_wp2_with fail
    go_ret
    exact ⟨ret_boolz HV.out, HBd.out⟩
  by_cases h3 : DecP up
  rotate_left
  · have HV : Hid (false = b) := by
      show _ = _
      cases hbb : b with
      | false => rfl
      | true =>
        obtain ⟨u', d', e1, e2, s1, s2, ok⟩ := HBb.out.1 hbb
        exact absurd ((decP_iff up).2 ⟨u', e1⟩) h3
    have HU := hid (fun w => l11DigitsOk_any up w HUl.out false ⟨fun h => (by cases h), fun h => absurd h h3⟩)
    clear h3
    go_enter Tryd.func13, Tryd.ntmps13
    go_wp2_with fail
    refine (HU.out _).mono ?_
    rintro e w' ⟨rfl, hw⟩
    subst hw
    go_wp2_with fail
    go_ret
    exact ⟨ret_boolz HV.out, HBd.out⟩
  have HU := hid (fun w => l11DigitsOk_any up w HUl.out true ⟨fun _ => h3, fun _ => rfl⟩)
  by_cases h4 : DecP down
  rotate_left
  · have HV : Hid (false = b) := by
      show _ = _
      cases hbb : b with
      | false => rfl
      | true =>
        obtain ⟨u', d', e1, e2, s1, s2, ok⟩ := HBb.out.1 hbb
        exact absurd ((decP_iff down).2 ⟨d', e2⟩) h4
    have HD := hid (fun w => l11DigitsOk_any down w HDl.out false ⟨fun h => (by cases h), fun h => absurd h h4⟩)
    clear h3 h4
    go_enter Tryd.func13, Tryd.ntmps13
    go_wp2_with fail
    refine (HU.out _).mono ?_
    rintro e w' ⟨rfl, hw⟩
    subst hw
    go_wp2_with fail
    refine (HD.out _).mono ?_
    rintro e w' ⟨rfl, hw⟩
    subst hw
    go_wp2_with fail
    go_ret
    exact ⟨ret_boolz HV.out, HBd.out⟩
  have HD := hid (fun w => l11DigitsOk_any down w HDl.out true ⟨fun _ => h4, fun _ => rfl⟩)
  obtain ⟨u, rfl⟩ := (decP_iff up).1 h3
  obtain ⟨d, rfl⟩ := (decP_iff down).1 h4
  have HSu : Hid ((dec u).size ≤ 60) := by show _ ≤ _; omega
  have HSd : Hid ((dec d).size ≤ 60) := by show _ ≤ _; omega
  have hzd := nought_text d
  have hzu := nought_text u
  have HGc := hid (fun w => l11Gcd_any u d w (by have := HSu.out; rw [dec_size] at this; omega) (by have := HSd.out; rw [dec_size] at this; omega))
  have hno : ¬ OkUD neg u d → Hid (false = b) := fun h => by
    show _ = _
    cases hbb : b with
    | false => rfl
    | true =>
      obtain ⟨u', d', e1, e2, s1, s2, ok⟩ := HBb.out.1 hbb
      rw [← dec_inj e1, ← dec_inj e2] at ok
      exact absurd ok h
  have HNo := hid hno
  clear hno h3 h4
  by_cases hd0 : d = 0
  · rw [decide_eq_true hd0] at hzd
    have HV := HNo.out (fun h => h.1 hd0)
    clear hd0 hzu HNo
    generalize dec u = up at *
    generalize dec d = down at *
    go_enter Tryd.func13, Tryd.ntmps13
    go_wp2_with fail
    refine (HU.out _).mono ?_
    rintro e w' ⟨rfl, hw⟩
    subst hw
    go_wp2_with fail
    refine (HD.out _).mono ?_
    rintro e w' ⟨rfl, hw⟩
    subst hw
    go_wp2_with fail
    go_ret
    exact ⟨ret_boolz HV.out, HBd.out⟩
  · rw [decide_eq_false hd0] at hzd
    by_cases hnu : neg = true ∧ u = 0
    · rw [decide_eq_true hnu.2] at hzu
      have HV := HNo.out (fun h => h.2.1 hnu)
      obtain ⟨rfl, -⟩ := hnu
      clear hd0 HNo
      generalize dec u = up at *
      generalize dec d = down at *
      go_enter Tryd.func13, Tryd.ntmps13
      go_wp2_with fail
      refine (HU.out _).mono ?_
      rintro e w' ⟨rfl, hw⟩
      subst hw
      go_wp2_with fail
      refine (HD.out _).mono ?_
      rintro e w' ⟨rfl, hw⟩
      subst hw
      go_wp2_with fail
      go_ret
      exact ⟨ret_boolz HV.out, HBd.out⟩
    · obtain ⟨G, HG⟩ : ∃ G : Nat, Hid (Nat.gcd u d = G) := ⟨_, rfl⟩
      have HV : Hid (decide (G = 1) = b) := by
        show _ = _
        by_cases h1 : G = 1
        · rw [decide_eq_true h1]
          exact (HBb.out.2 ⟨u, d, rfl, rfl, HSu.out, HSd.out, hd0, hnu, by rw [HG.out, h1]⟩).symm
        · rw [decide_eq_false h1]
          exact HNo.out (fun h => h1 (by rw [← HG.out]; exact h.2.2))
      have hzg := one_text G
      rw [HG.out] at HGc
      clear HNo hd0
      cases neg with
      | false =>
        clear hnu hzu
        generalize dec u = up at *
        generalize dec d = down at *
        generalize dec G = gt at *
        go_enter Tryd.func13, Tryd.ntmps13
        go_wp2_with fail
        refine (HU.out _).mono ?_
        rintro e w' ⟨rfl, hw⟩
        subst hw
        go_wp2_with fail
        refine (HD.out _).mono ?_
        rintro e w' ⟨rfl, hw⟩
        subst hw
        go_wp2_with fail
        refine (HGc.out _).mono ?_
        rintro e w2 ⟨rfl, hw2⟩
        have HW2 := hid (HBd.out.trans (hw2.mono (by simp)))
        clear hw2
        go_wp2_with fail
        go_ret
        exact ⟨ret_boolz HV.out, HW2.out⟩
      | true =>
        have hu0 : ¬ u = 0 := fun h => hnu ⟨rfl, h⟩
        rw [decide_eq_false hu0] at hzu
        clear hnu hu0
        generalize dec u = up at *
        generalize dec d = down at *
        generalize dec G = gt at *
        go_enter Tryd.func13, Tryd.ntmps13
        go_wp2_with fail
        refine (HU.out _).mono ?_
        rintro e w' ⟨rfl, hw⟩
        subst hw
        go_wp2_with fail
        refine (HD.out _).mono ?_
        rintro e w' ⟨rfl, hw⟩
        subst hw
        go_wp2_with fail
        refine (HGc.out _).mono ?_
        rintro e w2 ⟨rfl, hw2⟩
        have HW2 := hid (HBd.out.trans (hw2.mono (by simp)))
        clear hw2
        go_wp2_with fail
        go_ret
        exact ⟨ret_boolz HV.out, HW2.out⟩

set_option maxRecDepth 20000 in
set_option maxHeartbeats 4000000 in
theorem lawNumOk_any (neg : Bool) (up down : ByteArray) (w : World) (hu : up.size ≤ maxLen) (hd : down.size ≤ maxLen) (hP : Pow9 w) :
    Calls Tryd.prog 3 #[.agg #[.bool neg, .string up, .string down]] w fun e w' => e = .returned (.bool true) ∧ Below w.heap.size w w' := by
  obtain ⟨b, hb⟩ : ∃ b : Bool, b = true ↔ NumP neg up down := by
    by_cases h : NumP neg up down
    · exact ⟨true, fun _ => h, fun _ => rfl⟩
    · exact ⟨false, fun e => (by cases e), fun e => absurd e h⟩
  have HS := hid (fun w => szNum_any neg up down 1048576 w (by decide) (by decide) hu hd)
  have HT := hid (fun w => toNum_any neg up down w)
  have HSp := hid (fun w => specNumOk_any neg up down w hu hd b hb)
  have HI := hid (fun w (h : Pow9 w) => implNumOk_any neg up down w hu hd h b hb)
  have HP := hid hP
  clear hu hd hP hb
  obtain ⟨sz, HSz⟩ : ∃ sz : Int, Hid (szN up.size down.size 1048576 = sz) := ⟨_, rfl⟩
  rw [HSz.out] at HS
  go_enter Tryd.func3, Tryd.ntmps3
  go_wp2_with fail
  refine (HS.out _).mono ?_
  rintro e w1 ⟨rfl, hw1⟩
  rw [World.size_alloc] at hw1
  have HW1 := hid hw1
  obtain ⟨r0, r1, r2⟩ := res3 hw1
  clear hw1
  by_cases hneg : sz < 0
  · go_wp2_with fail
    go_ret
    exact ⟨rfl, res_done HW1.out⟩
  · go_wp2_with fail
    refine (HT.out _).mono ?_
    rintro e w2 ⟨rfl, hw2⟩
    have HW2 := hid (res_step HW1.out hw2)
    clear hw2
    go_wp2_with fail
    refine (HSp.out _).mono ?_
    rintro e w3 ⟨rfl, hw3⟩
    have HW3 := hid (res_step HW2.out hw3)
    clear hw3 r0 r1 r2
    obtain ⟨r0, r1, r2⟩ := res3 HW3.out
    go_wp2_with fail
    refine (HT.out _).mono ?_
    rintro e w4 ⟨rfl, hw4⟩
    have HW4 := hid (res_step HW3.out hw4)
    clear hw4
    go_wp2_with fail
    refine (HI.out _ (HP.out.below (res_done HW4.out) (Nat.le_refl _))).mono ?_
    rintro e w5 ⟨rfl, hw5⟩
    have HW5 := hid (res_step HW4.out hw5)
    clear hw5
    have hbb : (b != b) = false := by simp
    go_wp2_with fail
    go_ret
    exact ⟨rfl, res_done HW5.out⟩
end Go.Proofs.YtakicnplmcemnaaDoor
