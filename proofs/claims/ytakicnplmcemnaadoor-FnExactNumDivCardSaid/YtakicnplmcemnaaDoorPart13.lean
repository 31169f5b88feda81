/-
  NumInt: the model's and the program's, and the law's eqNum. Condition: the table of powers stands.
  The program's lowest and closed: a fraction in lowest terms, as a number. Condition: what is below is not nought; the table of powers stands.
  The program's closed: the number of a fraction. Condition: what is below is not nought; the table of powers stands.
-/
import Derived.Test.YtakicnplmcemnaaDoorPart12
import Derived.Test.YtakicnplmcemnaaDoorPart6
import Derived.Test.YtakicnplmcemnaaDoorPart8
namespace Go.Proofs.YtakicnplmcemnaaDoor
open Go.RowKit Go.Siskin

def oneT : ByteArray := ⟨#[49]⟩
theorem dec_one : dec 1 = ⟨#[49]⟩ := by rw [dec_small (by decide)]; rfl
theorem nDigits_int {n : Nat} (h : n ≤ 18446744073709551615) : Lib.nDigits n ≤ 20 := nDigits_le (by omega) (by omega)
theorem nG_int {n : Nat} (h : n ≤ 18446744073709551615) : nG n ≤ 3 := nG_le (by omega)

theorem below3 {B : Nat} {w W : World} (h : Below B w W) (x y z : Value) : Below B w (((W.setCell ⟨B, 0, none⟩ x).setCell ⟨B, 1, none⟩ y).setCell ⟨B, 2, none⟩ z) :=
  ((h.setCell (p := ⟨B, 0, none⟩) (Nat.le_refl _) _).setCell (p := ⟨B, 1, none⟩) (Nat.le_refl _) _).setCell (p := ⟨B, 2, none⟩) (Nat.le_refl _) _

/-- A result's three cells, behind calls. -/
theorem res3 {w W : World} {a b c : Value} {t : TypeId} (h : Below (w.heap.size + 1) (w.alloc (.cells #[a, b, c] t)) W) : W.cell? ⟨w.heap.size, 0, none⟩ = some a ∧ W.cell? ⟨w.heap.size, 1, none⟩ = some b ∧ W.cell? ⟨w.heap.size, 2, none⟩ = some c :=
  own3 ((own_new w #[a, b, c] t).keep h (Nat.lt_succ_self _))
theorem res3f {w W : World} {a b c : Value} {t : TypeId} (h : Below (w.heap.size + 1) (w.alloc (.cells #[a, b, c] t)) W) : W.frozen? ⟨w.heap.size, 0, none⟩ = false ∧ W.frozen? ⟨w.heap.size, 1, none⟩ = false ∧ W.frozen? ⟨w.heap.size, 2, none⟩ = false := by
  have k := (own_new w #[a, b, c] t).keep h (Nat.lt_succ_self _)
  exact ⟨k.frozen 0, k.frozen 1, k.frozen 2⟩
theorem res_done {w W : World} {o : Obj} (h : Below (w.heap.size + 1) (w.alloc o) W) : Below w.heap.size w W := ((Below.refl _ _).alloc (Nat.le_refl _) _).trans (h.mono (Nat.le_succ _))
theorem res_step {w W W2 : World} {o : Obj} (h : Below (w.heap.size + 1) (w.alloc o) W) (h2 : Below W.heap.size W W2) : Below (w.heap.size + 1) (w.alloc o) W2 := h.trans (h2.mono (by have := h.size; simpa using this))

set_option maxRecDepth 20000 in
set_option maxHeartbeats 2000000 in
theorem specNumInt_any (i : Int) (w : World) (h1 : -9223372036854775808 ≤ i) (h2 : i ≤ 9223372036854775807) :
    Calls Tryd.prog 16 #[.int .i64 i] w fun e w' => e = .returned (.agg #[.bool (decide (i < 0)), .string (dec i.natAbs), .string (dec 1)]) ∧ Below w.heap.size w w' := by
  rw [dec_one]
  by_cases h : 0 ≤ i
  · obtain ⟨n, rfl⟩ := Int.eq_ofNat_of_zero_le h
    have HN : Hid (decide ((n : Int) < 0) = false) := by show _ = _; simp
    have HS := hid (fun w => l11Small_any n w (by omega))
    rw [HN.out, Int.natAbs_natCast]
    clear HN h
    go_enter Tryd.func16, Tryd.ntmps16
    go_wp2_with fail
    refine (HS.out _).mono ?_
    rintro e w1 ⟨rfl, hw⟩
    rw [World.size_alloc] at hw
    obtain ⟨r0, r1, r2⟩ := res3 hw
    obtain ⟨f0, f1, f2⟩ := res3f hw
    have HW := hid hw
    clear hw
    go_wp2_with fail
    refine bodyPost_ret (v := .agg #[.bool false, .string (dec n), .string ⟨#[49]⟩]) ?_ rfl ⟨rfl, below3 (res_done HW.out) _ _ _⟩
    simp [results, Tryd.results16, go_sem, r0, r1, r2]
  · obtain ⟨n, hn⟩ : ∃ n : Nat, -(i + 1) = (n : Int) := ⟨(-(i + 1)).toNat, by omega⟩
    have HN : Hid (decide (i < 0) = true) := by show _ = _; simp; omega
    have HS := hid (fun w => l11Small_any n w (by omega))
    have HA := hid (fun w => l11Add_any n 1 w (Nat.le_trans (nDigits_int (n := n) (by omega)) (by decide)) (by rw [Lib.nDigits_small (by decide)]; decide))
    have HE : Hid (dec (n + 1) = dec i.natAbs) := by show _ = _; congr 1; omega
    rw [HN.out, ← HE.out]
    rw [dec_one] at HA
    have hi1 : i + 1 ≤ 0 := by omega
    have hi2 : -9223372036854775807 ≤ i + 1 := by omega
    clear HN HE
    go_enter Tryd.func16, Tryd.ntmps16
    go_wp2_with fail
    refine (HS.out _).mono ?_
    rintro e w1 ⟨rfl, hw⟩
    rw [World.size_alloc] at hw
    have HW := hid hw
    clear hw
    go_wp2_with fail
    refine (HA.out _).mono ?_
    rintro e w2 ⟨rfl, hw2⟩
    have hw3 := res_step HW.out hw2
    obtain ⟨r0, r1, r2⟩ := res3 hw3
    obtain ⟨f0, f1, f2⟩ := res3f hw3
    have HW2 := hid hw3
    clear hw2 hw3
    go_wp2_with fail
    refine bodyPost_ret (v := .agg #[.bool true, .string (dec (n + 1)), .string ⟨#[49]⟩]) ?_ rfl ⟨rfl, below3 (res_done HW2.out) _ _ _⟩
    simp [results, Tryd.results16, go_sem, r0, r1, r2]

set_option maxRecDepth 20000 in
set_option maxHeartbeats 1000000 in
theorem sizeOf_any (i : Int) (w : World) (h1 : -9223372036854775808 ≤ i) (h2 : i ≤ 9223372036854775807) :
    Calls Tryd.prog 38 #[.int .i64 i] w fun e w' => ∃ u, e = .returned u ∧ NatA w' u (grp i.natAbs) ∧ Below w.heap.size w w' := by
  obtain ⟨n, hn⟩ : ∃ n : Nat, i.natAbs = n := ⟨_, rfl⟩
  rw [hn]
  have HNl : Hid (n ≤ 18446744073709551615) := by show _ ≤ _; omega
  have HO := hid (fun w => naturalOf_any n w HNl.out)
  have c1 : 0 ≤ i → IntKind.u64.wrap i = (n : Int) := by intro h; simp [IntKind.wrap, IntKind.bits, IntKind.signed]; omega
  have c2 : i < 0 → IntKind.u64.wrap (-IntKind.u64.wrap i) = (n : Int) := by intro h; simp [IntKind.wrap, IntKind.bits, IntKind.signed]; omega
  by_cases h : 0 ≤ i
  · have hc := c1 h
    clear c1 c2 hn
    go_enter Tryd.func38, Tryd.ntmps38
    go_wp2_with fail
    refine (HO.out _).mono ?_
    rintro e w1 ⟨vu, rfl, hu, hw⟩
    have HU := hid hu
    have HW := hid hw
    clear hw hu
    go_wp2_with fail
    go_ret
    exact ⟨_, rfl, HU.out, HW.out⟩
  · have hlt : i < 0 := by omega
    have hc := c2 hlt
    clear c1 c2 hn
    go_enter Tryd.func38, Tryd.ntmps38
    go_wp2_with fail
    refine (HO.out _).mono ?_
    rintro e w1 ⟨vu, rfl, hu, hw⟩
    have HU := hid hu
    have HW := hid hw
    clear hw hu
    go_wp2_with fail
    go_ret
    exact ⟨_, rfl, HU.out, HW.out⟩

set_option maxRecDepth 20000 in
set_option maxHeartbeats 1000000 in
theorem implNumInt_any (i : Int) (w : World) (h1 : -9223372036854775808 ≤ i) (h2 : i ≤ 9223372036854775807) (hP : Pow9 w) :
    Calls Tryd.prog 17 #[.int .i64 i] w fun e w' => e = .returned (.agg #[.bool (decide (i < 0)), .string (dec i.natAbs), .string (dec 1)]) ∧ Below w.heap.size w w' := by
  obtain ⟨n, hn⟩ : ∃ n : Nat, i.natAbs = n := ⟨_, rfl⟩
  have HO := hid (fun w => sizeOf_any i w h1 h2)
  rw [hn] at HO
  rw [hn]
  have HNl : Hid (n ≤ 18446744073709551615) := by show _ ≤ _; omega
  have HO1 := hid (fun w => naturalOf_any 1 w (by decide))
  have HP := hid hP
  have HPl := hid (fun neg vu vd w => plain_any neg n 1 vu vd w)
  have HG := hid (nG_int HNl.out)
  obtain ⟨b, hb⟩ : ∃ b : Bool, decide (i < 0) = b := ⟨_, rfl⟩
  rw [hb]
  clear hP hn
  go_enter Tryd.func17, Tryd.ntmps17
  go_wp2_with fail
  refine (HO.out _).mono ?_
  rintro e w1 ⟨vu, rfl, hu, hw⟩
  rw [World.size_alloc] at hw
  have HU := hid hu
  have HW := hid hw
  obtain ⟨ua, uc, rfl⟩ := natA_form hu
  clear hw hu
  go_wp2_with fail
  refine (HO1.out _).mono ?_
  rintro e w2 ⟨vd, rfl, hd1, hw2⟩
  have HD := hid hd1
  have HW2 := hid (res_step HW.out hw2)
  have HU2 := hid (HU.out.below hw2 (Nat.le_refl _))
  obtain ⟨da, dc, rfl⟩ := natA_form hd1
  clear hw2 hd1
  have HP2 := hid (HP.out.below (res_done HW2.out) (Nat.le_refl _))
  go_wp2_with fail
  refine (HPl.out _ _ _ _ HU2.out HD.out (Nat.le_trans HG.out (by decide)) (Nat.le_trans (nG_int (n := 1) (by decide)) (by decide)) HP2.out).mono ?_
  rintro e w3 ⟨rfl, hw3⟩
  have hw4 := res_step HW2.out hw3
  obtain ⟨r0, r1, r2⟩ := res3 hw4
  obtain ⟨f0, f1, f2⟩ := res3f hw4
  have HW4 := hid hw4
  clear hw3 hw4
  go_wp2_with fail
  refine bodyPost_ret (v := .agg #[.bool b, .string (dec n), .string (dec 1)]) ?_ rfl ⟨rfl, below3 (res_done HW4.out) _ _ _⟩
  simp [results, Tryd.results17, go_sem, r0, r1, r2]

/-- The law's eqNum. -/
def eqN (n1 : Bool) (u1 d1 : ByteArray) (n2 : Bool) (u2 d2 : ByteArray) : Bool := n1 == n2 && u1 == u2 && d1 == d2

set_option maxRecDepth 20000 in
set_option maxHeartbeats 2000000 in
theorem eqNum_same (n : Bool) (u d : ByteArray) (w : World) :
    Calls Tryd.prog 18 #[.agg #[.bool n, .string u, .string d], .agg #[.bool n, .string u, .string d]] w fun e w' => e = .returned (.bool true) ∧ Below w.heap.size w w' := by
  have h1 : (n != n) = false := by simp
  go_enter Tryd.func18, Tryd.ntmps18
  go_wp2_with fail
  go_ret
  exact ⟨rfl, ((Below.refl _ _).alloc (Nat.le_refl _) _).alloc (by simp) _⟩

set_option maxRecDepth 20000 in
set_option maxHeartbeats 2000000 in
theorem lawNumInt_any (i : Int) (w : World) (h1 : -9223372036854775808 ≤ i) (h2 : i ≤ 9223372036854775807) (hP : Pow9 w) :
    Calls Tryd.prog 4 #[.int .i64 i] w fun e w' => e = .returned (.bool true) ∧ Below w.heap.size w w' := by
  have HS := hid (fun w => specNumInt_any i w h1 h2)
  have HI := hid (fun w => implNumInt_any i w h1 h2)
  have HE := hid (eqNum_same (decide (i < 0)) (dec i.natAbs) (dec 1))
  have HP := hid hP
  clear hP
  generalize decide (i < 0) = b at *
  generalize dec i.natAbs = u at *
  generalize dec 1 = d at *
  go_enter Tryd.func4, Tryd.ntmps4
  go_wp2_with fail
  refine (HS.out _).mono ?_
  rintro e w1 ⟨rfl, hw1⟩
  have HW1 := hid hw1
  clear hw1
  go_wp2_with fail
  refine (HI.out _ ((HP.out.below HW1.out (Nat.le_refl _)).alloc _)).mono ?_
  rintro e w2 ⟨rfl, hw2⟩
  rw [World.size_alloc] at hw2
  obtain ⟨r0, r1, r2⟩ := res3 hw2
  have hs2 := hw2.size
  rw [World.size_alloc] at hs2
  have hlt : w1.heap.size < w2.heap.size := by omega
  have HW2 := hid (HW1.out.trans ((res_done hw2).mono HW1.out.size))
  clear hw2
  go_wp2_with fail
  refine (HE.out _).mono ?_
  rintro e w3 ⟨rfl, hw3⟩
  have HW3 := hid hw3
  clear hw3
  go_wp2_with fail
  go_ret
  exact ⟨rfl, (HW2.out.alloc (by have := HW2.out.size; omega) _).trans (HW3.out.mono (by have := HW2.out.size; simp; omega))⟩
end Go.Proofs.YtakicnplmcemnaaDoor

namespace Go.Proofs.YtakicnplmcemnaaDoor
open Go.RowKit Go.Siskin

set_option maxRecDepth 20000 in
set_option maxHeartbeats 800000 in
theorem lowest_any (neg : Bool) (u d : Nat) (vu vd : Value) (w : World) (hu : NatA w vu (grp u)) (hd : NatA w vd (grp d)) (hnu : nG u ≤ 1000) (hnd : nG d ≤ 1000) (hd0 : 0 < d) :
    Calls Tryd.prog 85 #[.agg #[.bool neg, vu, vd]] w fun e w' => ∃ qu qd, e = .returned (.agg #[.bool (neg && !(u / Nat.gcd u d == 0)), qu, qd]) ∧ NatA w' qu (grp (u / Nat.gcd u d)) ∧ NatA w' qd (grp (d / Nat.gcd u d)) ∧ Below w.heap.size w w' := by
  obtain ⟨ua, uc, rfl⟩ := natA_form hu
  obtain ⟨da, dc, rfl⟩ := natA_form hd
  obtain ⟨G, HG⟩ : ∃ G : Nat, Hid (Nat.gcd u d = G) := ⟨_, rfl⟩
  have HG0 : Hid (0 < G) := by show _ < _; rw [← HG.out]; exact Nat.gcd_pos_of_pos_right _ hd0
  rw [HG.out]
  have HCo : Hid (∀ W, NatA W (.slice ua (grp u).length uc) (grp u) → NatA W (.slice da (grp d).length dc) (grp d) → Calls Tryd.prog 74 #[.slice ua (grp u).length uc, .slice da (grp d).length dc] W fun e w' => ∃ g, e = .returned g ∧ NatA w' g (grp G) ∧ Below W.heap.size W w') := fun W h1 h2 => by
    have h := commonOf_any u d _ _ W h1 h2 hnu hnd
    rw [HG.out] at h
    exact h
  have HDu : Hid (∀ W y, NatA W (.slice ua (grp u).length uc) (grp u) → NatA W y (grp G) → Calls Tryd.prog 95 #[.slice ua (grp u).length uc, y] W fun e w' => ∃ q r, e = .returned (.tuple #[q, r]) ∧ NatA w' q (grp (u / G)) ∧ NatA w' r (grp (u % G)) ∧ Below W.heap.size W w') := fun W y h1 h2 => dividedBy_any u G _ y W h1 h2 HG0.out hnu
  have HDd : Hid (∀ W y, NatA W (.slice da (grp d).length dc) (grp d) → NatA W y (grp G) → Calls Tryd.prog 95 #[.slice da (grp d).length dc, y] W fun e w' => ∃ q r, e = .returned (.tuple #[q, r]) ∧ NatA w' q (grp (d / G)) ∧ NatA w' r (grp (d % G)) ∧ Below W.heap.size W w') := fun W y h1 h2 => dividedBy_any d G _ y W h1 h2 HG0.out hnd
  have HX : Hid (∀ W, Below (w.heap.size + 2) ((w.alloc (.cells #[.bool neg, .slice ua (grp u).length uc, .slice da (grp d).length dc] 46)).alloc boxF) W → Own W w.heap.size 46 #[.bool neg, .slice ua (grp u).length uc, .slice da (grp d).length dc] ∧ Own W (w.heap.size + 1) 46 #[.bool false, .slice none 0 0, .slice none 0 0] ∧ NatA W (.slice ua (grp u).length uc) (grp u) ∧ NatA W (.slice da (grp d).length dc) (grp d) ∧ Below w.heap.size w W) := fun W h => by
    have h1 : Own ((w.alloc (.cells #[.bool neg, .slice ua (grp u).length uc, .slice da (grp d).length dc] 46)).alloc boxF) w.heap.size 46 #[.bool neg, .slice ua (grp u).length uc, .slice da (grp d).length dc] := (Below.heap_alloc _ _ _ (by simp)).trans (own_new w _ _)
    have h2 := own_new (w.alloc (.cells #[.bool neg, .slice ua (grp u).length uc, .slice da (grp d).length dc] 46)) #[.bool false, .slice none 0 0, .slice none 0 0] 46
    rw [World.size_alloc] at h2
    exact ⟨h1.keep h (by omega), h2.keep h (by omega), ((hu.alloc _).alloc _).below h (by simp), ((hd.alloc _).alloc _).below h (by simp), (((Below.refl _ _).alloc (Nat.le_refl _) _).alloc (by simp) _).trans (h.mono (by omega))⟩
  have HB : Hid (Below (w.heap.size + 2) ((w.alloc (.cells #[.bool neg, .slice ua (grp u).length uc, .slice da (grp d).length dc] 46)).alloc boxF) ((w.alloc (.cells #[.bool neg, .slice ua (grp u).length uc, .slice da (grp d).length dc] 46)).alloc boxF)) := Below.refl _ _
  obtain ⟨⟨n0, n1, n2⟩, -⟩ := own3V (HX.out _ HB.out).1
  have hy : w.heap.size + 2 ≤ ((w.alloc (.cells #[.bool neg, .slice ua (grp u).length uc, .slice da (grp d).length dc] 46)).alloc boxF).heap.size := by simp
  clear hu hd hnu hnd hd0
  go_enter Tryd.func85, Tryd.ntmps85
  go_wp2_with fail
  refine (HCo.out _ (HX.out _ HB.out).2.2.1 (HX.out _ HB.out).2.2.2.1).mono ?_
  rintro e w1 ⟨g, rfl, hg, hw1⟩
  have HB1 := hid (HB.out.trans (hw1.mono hy))
  have HGn := hid hg
  obtain ⟨ga', gc, rfl⟩ := natA_formR hg
  have y1 := Nat.le_trans hy hw1.size
  clear hg hw1 hy n0 n1 n2
  obtain ⟨⟨n0, n1, n2⟩, -⟩ := own3V (HX.out _ HB1.out).1
  go_wp2_with fail
  refine (HDu.out _ _ (HX.out _ HB1.out).2.2.1 HGn.out).mono ?_
  rintro e w2 ⟨q, r, rfl, hq, hr, hw2⟩
  have HB2 := hid (HB1.out.trans (hw2.mono y1))
  have HG2 := hid (HGn.out.below hw2 (Nat.le_refl _))
  have HQ := hid hq
  obtain ⟨qa, qc, rfl⟩ := natA_formR hq
  obtain ⟨ra, rc, rfl⟩ := natA_formR hr
  have y2 := Nat.le_trans y1 hw2.size
  clear hq hr hw2 n0 n1 n2
  obtain ⟨⟨n0, n1, n2⟩, -⟩ := own3V (HX.out _ HB2.out).1
  go_wp2_with fail
  refine (HDd.out _ _ (HX.out _ HB2.out).2.2.2.1 HG2.out).mono ?_
  rintro e w3 ⟨p, r, rfl, hp, hr, hw3⟩
  have HB3 := hid (HB2.out.trans (hw3.mono y2))
  have HQ3 := hid (HQ.out.below hw3 (Nat.le_refl _))
  have HPp := hid hp
  obtain ⟨pa, pc, rfl⟩ := natA_formR hp
  obtain ⟨sa, sc, rfl⟩ := natA_formR hr
  clear hp hr hw3 n0 n1 n2
  obtain ⟨⟨n0, n1, n2⟩, -⟩ := own3V (HX.out _ HB3.out).1
  obtain ⟨⟨r0, r1, r2⟩, q0, q1, q2⟩ := own3V (HX.out _ HB3.out).2.1
  have HO3 := hid (HX.out _ HB3.out).2.1
  have HW3 := hid (HX.out _ HB3.out).2.2.2.2
  have HNo := hid (isNought_any (u / G) _ w3 HQ3.out)
  generalize hb : (u / G == 0) = b at *
  cases neg with
  | false =>
    clear hb
    go_wp2_with fail
    refine bodyPost_ret (v := .agg #[.bool false, .slice qa (grp (u / G)).length qc, .slice pa (grp (d / G)).length pc]) (by simp [results, Tryd.results85, go_sem, r0, r1, r2]) rfl ⟨_, _, rfl, natA_box HQ3.out HO3.out _ _ _, natA_box HPp.out HO3.out _ _ _, ?_⟩
    exact ((HW3.out.setCell (p := ⟨w.heap.size + 1, 0, none⟩) (Nat.le_succ _) _).setCell (p := ⟨w.heap.size + 1, 1, none⟩) (Nat.le_succ _) _).setCell (p := ⟨w.heap.size + 1, 2, none⟩) (Nat.le_succ _) _
  | true =>
    cases b
    all_goals
      have HV := hid hb
      clear hb
      go_wp2_with fail
      refine HNo.out.mono ?_
      rintro e w' ⟨rfl, hw⟩
      obtain rfl := hw.symm
      go_wp2_with fail
    · refine bodyPost_ret (v := .agg #[.bool true, .slice qa (grp (u / G)).length qc, .slice pa (grp (d / G)).length pc]) (by simp [results, Tryd.results85, go_sem, r0, r1, r2]) rfl ⟨_, _, by rw [HV.out]; rfl, natA_box HQ3.out HO3.out _ _ _, natA_box HPp.out HO3.out _ _ _, ?_⟩
      exact ((HW3.out.setCell (p := ⟨w.heap.size + 1, 0, none⟩) (Nat.le_succ _) _).setCell (p := ⟨w.heap.size + 1, 1, none⟩) (Nat.le_succ _) _).setCell (p := ⟨w.heap.size + 1, 2, none⟩) (Nat.le_succ _) _
    · refine bodyPost_ret (v := .agg #[.bool false, .slice qa (grp (u / G)).length qc, .slice pa (grp (d / G)).length pc]) (by simp [results, Tryd.results85, go_sem, r0, r1, r2]) rfl ⟨_, _, by rw [HV.out]; rfl, natA_box HQ3.out HO3.out _ _ _, natA_box HPp.out HO3.out _ _ _, ?_⟩
      exact ((HW3.out.setCell (p := ⟨w.heap.size + 1, 0, none⟩) (Nat.le_succ _) _).setCell (p := ⟨w.heap.size + 1, 1, none⟩) (Nat.le_succ _) _).setCell (p := ⟨w.heap.size + 1, 2, none⟩) (Nat.le_succ _) _
end Go.Proofs.YtakicnplmcemnaaDoor

namespace Go.Proofs.YtakicnplmcemnaaDoor
open Go.RowKit Go.Siskin

/-- A fraction's box is no row of groups. -/
theorem natA_box2 {w : World} {v : Value} {gs : List Nat} {fb : Nat} {e : TypeId} {n : Bool} {a1 a2 : Option Addr} {l1 l2 c1 c2 : Nat} (h : NatA w v gs) (ho : Own w fb e #[.bool n, .slice a1 l1 c1, .slice a2 l2 c2]) (x y z : Value) :
    NatA (((w.setCell ⟨fb, 0, none⟩ x).setCell ⟨fb, 1, none⟩ y).setCell ⟨fb, 2, none⟩ z) v gs := by
  obtain ⟨a, cap, e1, h1, h2, h3⟩ := h
  refine ⟨a, cap, e1, h1, h2, ?_⟩
  rcases h3 with h3 | ⟨b, o, e2, hb, hc⟩
  · exact Or.inl h3
  · by_cases hg : gs = []
    · exact Or.inl hg
    · have hne : b ≠ fb := by
        rintro rfl
        have hl : 0 < gs.length := List.length_pos_iff.2 hg
        have h := hc 0 hl
        rw [Own.cell ho (o + 0)] at h
        rcases o with _ | _ | _ | o
        · simp at h
        · simp at h
        · simp at h
        · simp at h
      refine Or.inr ⟨b, o, e2, by simpa [World.setCell] using hb, fun i hi => ?_⟩
      rw [← hc i hi]
      refine World.cell?_of_block (w := w) ?_
      rw [Below.heap_setCell _ _ _ _ hne, Below.heap_setCell _ _ _ _ hne, Below.heap_setCell _ _ _ _ hne]
theorem own_other {w : World} {g b : Nat} {e : TypeId} {cs : Array Value} (h : Own w g e cs) (hne : g ≠ b) (x y z : Value) : Own (((w.setCell ⟨b, 0, none⟩ x).setCell ⟨b, 1, none⟩ y).setCell ⟨b, 2, none⟩ z) g e cs :=
  (Below.heap_setCell _ ⟨b, 2, none⟩ z g hne).trans ((Below.heap_setCell _ ⟨b, 1, none⟩ y g hne).trans ((Below.heap_setCell _ ⟨b, 0, none⟩ x g hne).trans h))

/-- The number of a fraction in lowest terms. -/
def closedV (neg : Bool) (a b : Nat) : Value :=
  if Lib.nDigits a ≤ 60 ∧ Lib.nDigits b ≤ 60 then .tuple #[.agg #[.bool (neg && !(a == 0)), .string (dec a), .string (dec b)], .bool true] else .tuple #[.agg #[.bool false, .string ⟨#[]⟩, .string ⟨#[]⟩], .bool false]

set_option maxRecDepth 20000 in
set_option maxHeartbeats 1000000 in
theorem isTooLong_any (x : Nat) (v : Value) (w : World) (h : NatA w v (grp x)) (hn : nG x ≤ 100000) (hP : Pow9 w) (b : Bool) (hb : decide (60 < Lib.nDigits x) = b) :
    Calls Tryd.prog 86 #[v] w fun e w' => e = .returned (.bool b) ∧ w' = w := by
  obtain ⟨l, HL⟩ : ∃ l : Nat, Hid (Lib.nDigits x = l) := ⟨_, rfl⟩
  have HD := hid (digits_any x v w h (by omega) hP)
  rw [HL.out] at HD hb
  have hl : l ≤ 1000000 := by
    rw [← HL.out]
    rcases Nat.eq_zero_or_pos x with h0 | h0
    · rw [h0, Lib.nDigits_small (by decide)]; decide
    · have h1 := nDigits_top h0
      have h2 := top_pos h0
      have h3 : Lib.nDigits (x / 1000000000 ^ (nG x - 1)) ≤ 9 := nDigits_le h2.2 (by decide)
      omega
  have hli : (l : Int) ≤ 1000000 := by omega
  obtain ⟨a, c, rfl⟩ := natA_form h
  have HB : Hid (decide ((60 : Int) < (l : Int)) = b) := by
    show _ = b
    rw [← hb]
    exact decide_eq_decide.2 (by omega)
  clear h hP hn hb
  go_enter Tryd.func86, Tryd.ntmps86
  go_wp2_with fail
  refine HD.out.mono ?_
  rintro e w' ⟨rfl, hw⟩
  obtain rfl := hw.symm
  go_wp2_with fail
  go_ret
  exact ⟨by first | rfl | (rw [HB.out]; rfl), rfl⟩


set_option maxRecDepth 20000 in
set_option maxHeartbeats 800000 in
theorem closed_any (neg : Bool) (u d : Nat) (vu vd : Value) (w : World) (hu : NatA w vu (grp u)) (hd : NatA w vd (grp d)) (hnu : nG u ≤ 1000) (hnd : nG d ≤ 1000) (hd0 : 0 < d) (hP : Pow9 w) :
    Calls Tryd.prog 51 #[.agg #[.bool neg, vu, vd]] w fun e w' => e = .returned (closedV neg (u / Nat.gcd u d) (d / Nat.gcd u d)) ∧ Below w.heap.size w w' := by
  obtain ⟨ua, uc, rfl⟩ := natA_form hu
  obtain ⟨va, vc, rfl⟩ := natA_form hd
  have HLo := hid (fun W h1 h2 => lowest_any neg u d (.slice ua (grp u).length uc) (.slice va (grp d).length vc) W h1 h2 hnu hnd hd0)
  have hnA : nG (u / Nat.gcd u d) ≤ 1000 := Nat.le_trans (nG_mono (Nat.div_le_self _ _)) hnu
  have hnB : nG (d / Nat.gcd u d) ≤ 1000 := Nat.le_trans (nG_mono (Nat.div_le_self _ _)) hnd
  generalize u / Nat.gcd u d = A at *
  generalize d / Nat.gcd u d = B at *
  have HDg := hid (fun W v b (hb : decide (60 < Lib.nDigits A) = b) (h : NatA W v (grp A)) (hp : Pow9 W) => isTooLong_any A v W h (by omega) hp b hb)
  have HDh := hid (fun W v b (hb : decide (60 < Lib.nDigits B) = b) (h : NatA W v (grp B)) (hp : Pow9 W) => isTooLong_any B v W h (by omega) hp b hb)
  have HPl := hid (fun W n va vb (h1 : NatA W va (grp A)) (h2 : NatA W vb (grp B)) (hp : Pow9 W) => plain_any n A B va vb W h1 h2 (by omega) (by omega) hp)
  obtain ⟨la, HLa⟩ : ∃ l : Nat, Hid (Lib.nDigits A = l) := ⟨_, rfl⟩
  obtain ⟨lb, HLb⟩ : ∃ l : Nat, Hid (Lib.nDigits B = l) := ⟨_, rfl⟩
  have HCV := hid (show closedV neg A B = if la ≤ 60 ∧ lb ≤ 60 then _ else _ by unfold closedV; rw [HLa.out, HLb.out])
  rw [HCV.out]
  rw [HLa.out] at HDg
  rw [HLb.out] at HDh
  have hll : la ≤ 1000000 := by
    rw [← HLa.out]
    rcases Nat.eq_zero_or_pos A with h0 | h0
    · rw [h0, Lib.nDigits_small (by decide)]; decide
    · have h1 := nDigits_top h0
      have h2 := top_pos h0
      have h3 : Lib.nDigits (A / 1000000000 ^ (nG A - 1)) ≤ 9 := nDigits_le h2.2 (by decide)
      omega
  have hlb : lb ≤ 1000000 := by
    rw [← HLb.out]
    rcases Nat.eq_zero_or_pos B with h0 | h0
    · rw [h0, Lib.nDigits_small (by decide)]; decide
    · have h1 := nDigits_top h0
      have h2 := top_pos h0
      have h3 : Lib.nDigits (B / 1000000000 ^ (nG B - 1)) ≤ 9 := nDigits_le h2.2 (by decide)
      omega
  obtain ⟨ng, HNg⟩ : ∃ b : Bool, Hid ((neg && !(A == 0)) = b) := ⟨_, rfl⟩
  rw [HNg.out] at HLo ⊢
  obtain ⟨da, HDa⟩ : ∃ x, Hid (dec A = x) := ⟨_, rfl⟩
  obtain ⟨db, HDb⟩ : ∃ x, Hid (dec B = x) := ⟨_, rfl⟩
  rw [HDa.out, HDb.out] at HPl ⊢
  obtain ⟨gA, HGA⟩ : ∃ g, Hid (grp A = g) := ⟨_, rfl⟩
  obtain ⟨gB, HGB⟩ : ∃ g, Hid (grp B = g) := ⟨_, rfl⟩
  rw [HGA.out] at HDg
  rw [HGB.out] at HDh
  rw [HGA.out, HGB.out] at HLo HPl
  have HX : Hid (∀ W, Below (w.heap.size + 2) ((w.alloc (.cells #[.bool neg, .slice ua (grp u).length uc, .slice va (grp d).length vc] 46)).alloc (.cells #[.bool false, .string ⟨#[]⟩, .string ⟨#[]⟩] 26)) W → Own W w.heap.size 46 #[.bool neg, .slice ua (grp u).length uc, .slice va (grp d).length vc] ∧ Own W (w.heap.size + 1) 26 #[.bool false, .string ⟨#[]⟩, .string ⟨#[]⟩] ∧ NatA W (.slice ua (grp u).length uc) (grp u) ∧ NatA W (.slice va (grp d).length vc) (grp d) ∧ Below w.heap.size w W ∧ Pow9 W) := fun W h => by
    have h1 : Own ((w.alloc (.cells #[.bool neg, .slice ua (grp u).length uc, .slice va (grp d).length vc] 46)).alloc (.cells #[.bool false, .string ⟨#[]⟩, .string ⟨#[]⟩] 26)) w.heap.size 46 #[.bool neg, .slice ua (grp u).length uc, .slice va (grp d).length vc] := (Below.heap_alloc _ _ _ (by simp)).trans (own_new w _ _)
    have h2 := own_new (w.alloc (.cells #[.bool neg, .slice ua (grp u).length uc, .slice va (grp d).length vc] 46)) #[.bool false, .string ⟨#[]⟩, .string ⟨#[]⟩] 26
    rw [World.size_alloc] at h2
    have hb := (((Below.refl w.heap.size w).alloc (Nat.le_refl _) (.cells #[.bool neg, .slice ua (grp u).length uc, .slice va (grp d).length vc] 46)).alloc (by simp) (.cells #[.bool false, .string ⟨#[]⟩, .string ⟨#[]⟩] 26)).trans (h.mono (by omega))
    exact ⟨h1.keep h (by omega), h2.keep h (by omega), ((hu.alloc _).alloc _).below h (by simp), ((hd.alloc _).alloc _).below h (by simp), hb, hP.below hb (Nat.le_refl _)⟩
  have HB : Hid (Below (w.heap.size + 2) ((w.alloc (.cells #[.bool neg, .slice ua (grp u).length uc, .slice va (grp d).length vc] 46)).alloc (.cells #[.bool false, .string ⟨#[]⟩, .string ⟨#[]⟩] 26)) ((w.alloc (.cells #[.bool neg, .slice ua (grp u).length uc, .slice va (grp d).length vc] 46)).alloc (.cells #[.bool false, .string ⟨#[]⟩, .string ⟨#[]⟩] 26))) := Below.refl _ _
  obtain ⟨⟨n0, n1, n2⟩, -⟩ := own3V (HX.out _ HB.out).1
  have hy : w.heap.size + 2 ≤ ((w.alloc (.cells #[.bool neg, .slice ua (grp u).length uc, .slice va (grp d).length vc] 46)).alloc (.cells #[.bool false, .string ⟨#[]⟩, .string ⟨#[]⟩] 26)).heap.size := by simp
  have HP0 := hid hP
  clear hu hd hnu hnd hd0 hP hnA hnB
  go_enter Tryd.func51, Tryd.ntmps51
  go_wp2_with fail
  refine (HLo.out _ (HX.out _ HB.out).2.2.1 (HX.out _ HB.out).2.2.2.1).mono ?_
  rintro e w1 ⟨qu, qd, rfl, hq, hp, hw1⟩
  have HB1 := hid (HB.out.trans (hw1.mono hy))
  obtain ⟨qa, qc, rfl⟩ := natA_formR hq
  obtain ⟨pa, pc, rfl⟩ := natA_formR hp
  have hOb := (HX.out _ HB1.out).1
  have hOr := (HX.out _ HB1.out).2.1
  have hbw := (HX.out _ HB1.out).2.2.2.2.1
  have hpw := (HX.out _ HB1.out).2.2.2.2.2
  clear n0 n1 n2
  obtain ⟨⟨n0, n1, n2⟩, f0, f1, f2⟩ := own3V hOb
  obtain ⟨W4, HW4⟩ : ∃ W, Hid ((((w1.setCell ⟨w.heap.size, 0, none⟩ (.bool ng)).setCell ⟨w.heap.size, 1, none⟩ (.slice qa gA.length qc)).setCell ⟨w.heap.size, 2, none⟩ (.slice pa gB.length pc)) = W) := ⟨_, rfl⟩
  have hB4 : Below w.heap.size w W4 := by
    rw [← HW4.out]
    exact ((hbw.setCell (p := ⟨w.heap.size, 0, none⟩) (Nat.le_refl _) _).setCell (p := ⟨w.heap.size, 1, none⟩) (Nat.le_refl _) _).setCell (p := ⟨w.heap.size, 2, none⟩) (Nat.le_refl _) _
  have HQ4 : Hid (NatA W4 (.slice qa gA.length qc) gA) := by rw [← HW4.out]; exact natA_box2 hq hOb _ _ _
  have HP4 : Hid (NatA W4 (.slice pa gB.length pc) gB) := by rw [← HW4.out]; exact natA_box2 hp hOb _ _ _
  have HOr : Hid (Own W4 (w.heap.size + 1) 26 #[.bool false, .string ⟨#[]⟩, .string ⟨#[]⟩]) := by rw [← HW4.out]; exact own_other hOr (by omega) _ _ _
  have hOb4 : Own W4 w.heap.size 46 #[.bool ng, .slice qa gA.length qc, .slice pa gB.length pc] := by rw [← HW4.out]; exact ((hOb.set 0 _).set 1 _).set 2 _
  have HPw : Hid (Pow9 W4) := HP0.out.below hB4 (Nat.le_refl _)
  have HB4 := hid hB4
  have hz4 : w.heap.size + 2 ≤ W4.heap.size := by
    rw [← HW4.out]
    have := HB1.out.size
    rw [World.size_alloc, World.size_alloc] at this
    simpa [World.setCell] using this
  clear hq hp hw1 hOb hbw hpw hB4
  go_wp2_with fail
  rw [HW4.out]
  clear n0 n1 n2 f0 f1 f2
  obtain ⟨⟨n0, n1, n2⟩, -⟩ := own3V hOb4
  obtain ⟨⟨r0, r1, r2⟩, q0, q1, q2⟩ := own3V HOr.out
  have hl1 : (la : Int) ≤ 1000000 := by omega
  have hl2 : (lb : Int) ≤ 1000000 := by omega
  by_cases h1 : 60 < la
  · have HV : Hid ((if la ≤ 60 ∧ lb ≤ 60 then Value.tuple #[.agg #[.bool ng, .string da, .string db], .bool true] else .tuple #[.agg #[.bool false, .string ⟨#[]⟩, .string ⟨#[]⟩], .bool false]) = .tuple #[.agg #[.bool false, .string ⟨#[]⟩, .string ⟨#[]⟩], .bool false]) := if_neg (by omega)
    refine (HDg.out _ _ true (decide_eq_true h1) HQ4.out HPw.out).mono ?_
    rintro e w' ⟨rfl, hw⟩
    obtain rfl := hw.symm
    go_wp2_with fail
    refine bodyPost_ret (v := .tuple #[.agg #[.bool false, .string ⟨#[]⟩, .string ⟨#[]⟩], .bool false]) (by simp [results, Tryd.results51, go_sem, r0, r1, r2]) rfl ⟨by first | rw [HV.out] | rfl, ?_⟩
    exact ((HB4.out.setCell (p := ⟨w.heap.size + 1, 0, none⟩) (Nat.le_succ _) _).setCell (p := ⟨w.heap.size + 1, 1, none⟩) (Nat.le_succ _) _).setCell (p := ⟨w.heap.size + 1, 2, none⟩) (Nat.le_succ _) _
  · refine (HDg.out _ _ false (decide_eq_false h1) HQ4.out HPw.out).mono ?_
    rintro e w' ⟨rfl, hw⟩
    obtain rfl := hw.symm
    go_wp2_with fail
    by_cases h2 : 60 < lb
    · have HV : Hid ((if la ≤ 60 ∧ lb ≤ 60 then Value.tuple #[.agg #[.bool ng, .string da, .string db], .bool true] else .tuple #[.agg #[.bool false, .string ⟨#[]⟩, .string ⟨#[]⟩], .bool false]) = .tuple #[.agg #[.bool false, .string ⟨#[]⟩, .string ⟨#[]⟩], .bool false]) := if_neg (by omega)
      refine (HDh.out _ _ true (decide_eq_true h2) HP4.out HPw.out).mono ?_
      rintro e w' ⟨rfl, hw⟩
      obtain rfl := hw.symm
      go_wp2_with fail
      refine bodyPost_ret (v := .tuple #[.agg #[.bool false, .string ⟨#[]⟩, .string ⟨#[]⟩], .bool false]) (by simp [results, Tryd.results51, go_sem, r0, r1, r2]) rfl ⟨by first | rw [HV.out] | rfl, ?_⟩
      exact ((HB4.out.setCell (p := ⟨w.heap.size + 1, 0, none⟩) (Nat.le_succ _) _).setCell (p := ⟨w.heap.size + 1, 1, none⟩) (Nat.le_succ _) _).setCell (p := ⟨w.heap.size + 1, 2, none⟩) (Nat.le_succ _) _
    · have HV : Hid ((if la ≤ 60 ∧ lb ≤ 60 then Value.tuple #[.agg #[.bool ng, .string da, .string db], .bool true] else .tuple #[.agg #[.bool false, .string ⟨#[]⟩, .string ⟨#[]⟩], .bool false]) = .tuple #[.agg #[.bool ng, .string da, .string db], .bool true]) := if_pos (by omega)
      refine (HDh.out _ _ false (decide_eq_false h2) HP4.out HPw.out).mono ?_
      rintro e w' ⟨rfl, hw⟩
      obtain rfl := hw.symm
      go_wp2_with fail
      refine (HPl.out _ _ _ _ HQ4.out HP4.out HPw.out).mono ?_
      rintro e w5 ⟨rfl, hw5⟩
      have HB5 := hid (HB4.out.trans (hw5.mono (by omega)))
      have hO5 : Own w5 (w.heap.size + 1) 26 #[.bool false, .string ⟨#[]⟩, .string ⟨#[]⟩] := HOr.out.keep hw5 (by omega)
      clear r0 r1 r2 q0 q1 q2 hw5
      obtain ⟨⟨r0, r1, r2⟩, q0, q1, q2⟩ := own3V hO5
      clear hO5
      go_wp2_with fail
      refine bodyPost_ret (v := .tuple #[.agg #[.bool ng, .string da, .string db], .bool true]) (by simp [results, Tryd.results51, go_sem, r0, r1, r2]) rfl ⟨by first | rw [HV.out] | rfl, ?_⟩
      exact ((HB5.out.setCell (p := ⟨w.heap.size + 1, 0, none⟩) (Nat.le_succ _) _).setCell (p := ⟨w.heap.size + 1, 1, none⟩) (Nat.le_succ _) _).setCell (p := ⟨w.heap.size + 1, 2, none⟩) (Nat.le_succ _) _
end Go.Proofs.YtakicnplmcemnaaDoor
