/-
  The model's l12Make: a number of a sign, above and below. Condition: numerals of at most 1,000 digits.
  The drawing of a number, l16Num. Condition: the reader and its bytes lie in memory apart, and it has not picked too often.
  The model's l11Many: a text so many times; only how long it is. Condition: a short text, at most 100 times.
  The program's sums and differences of naturals, and which of two is more. Condition: the groups lie in memory as NatA says; at most 2,000 groups; what is taken away is not more.
  The program's order of two naturals. Condition: the groups lie in memory as NatA says; at most 5,000 groups.
-/
import Derived.Test.YtbbffhpppacihaaDoorPart11
import Derived.Test.YtbbffhpppacihaaDoorPart3
import Derived.Test.YtbbffhpppacihaaDoorPart4
import Derived.Test.YtbbffhpppacihaaDoorPart5
import Derived.Deep.RegionHeld3
namespace Go.Proofs.YtbbffhpppacihaaDoor
open Go.RowKit Go.Siskin

abbrev noNum : Value := .tuple #[.agg #[.bool false, .string ⟨#[]⟩, .string ⟨#[]⟩], .bool false]
def makeV (neg : Bool) (u d : Nat) : Value := if d = 0 then noNum else closedV neg (u / Nat.gcd u d) (d / Nat.gcd u d)

set_option maxRecDepth 20000 in
set_option maxHeartbeats 1000000 in
theorem l12Make_any (neg : Bool) (u d : Nat) (w : World) (hu : Lib.nDigits u ≤ 1000) (hd : Lib.nDigits d ≤ 1000) :
    Calls Tryd.prog 92 #[.bool neg, .string (dec u), .string (dec d)] w fun e w' => e = .returned (makeV neg u d) ∧ Below w.heap.size w w' := by
  have HBw : Hid (Below (w.heap.size + 1) (w.alloc (.cells #[.bool false, .string ⟨#[]⟩, .string ⟨#[]⟩] 25)) (w.alloc (.cells #[.bool false, .string ⟨#[]⟩, .string ⟨#[]⟩] 25))) := Below.refl _ _
  obtain ⟨n0, n1, n2⟩ := res3 HBw.out
  obtain ⟨f0, f1, f2⟩ := res3f HBw.out
  have hzd := nought_text d
  by_cases hd0 : d = 0
  · rw [decide_eq_true hd0] at hzd
    have HV : Hid (makeV neg u d = noNum) := by show _ = _; unfold makeV; rw [if_pos hd0]
    rw [HV.out]
    clear hd0 hu hd
    generalize dec u = ut at *
    generalize dec d = dt at *
    go_enter Tryd.func92, Tryd.ntmps92
    go_wp2_with fail
    refine bodyPost_ret (v := noNum) (by simp [results, Tryd.results92, go_sem, n0, n1, n2]) rfl ⟨rfl, ?_⟩
    first | exact res_done HBw.out | exact below3 (res_done HBw.out) _ _ _
  · rw [decide_eq_false hd0] at hzd
    obtain ⟨G, HG⟩ : ∃ G : Nat, Hid (Nat.gcd u d = G) := ⟨_, rfl⟩
    have HGc := hid (fun w => l11Gcd_any u d w (by omega) (by omega))
    have hG0 : 0 < G := by rw [← HG.out]; exact Nat.gcd_pos_of_pos_right _ (by omega)
    have hGd : Lib.nDigits G ≤ 1000 := Nat.le_trans (nDigits_mono (by rw [← HG.out]; exact Nat.gcd_le_right _ (by omega))) hd
    rw [HG.out] at HGc
    have HDu := hid (fun w => l11Div_any u G w (by omega) (by omega) hG0)
    have HDd := hid (fun w => l11Div_any d G w (by omega) (by omega) hG0)
    obtain ⟨A, HA⟩ : ∃ A : Nat, Hid (u / G = A) := ⟨_, rfl⟩
    obtain ⟨B, HB⟩ : ∃ B : Nat, Hid (d / G = B) := ⟨_, rfl⟩
    have HV : Hid (makeV neg u d = if (dec A).size ≤ 60 ∧ (dec B).size ≤ 60 then .tuple #[.agg #[.bool (neg && !(A == 0)), .string (dec A), .string (dec B)], .bool true] else noNum) := by
      show _ = _
      unfold makeV
      rw [if_neg hd0, HG.out, HA.out, HB.out, dec_size, dec_size]
      rfl
    have hza := nought_text A
    have hqa : (A == 0) = decide (A = 0) := by rw [Bool.eq_iff_iff]; simp
    rw [hqa] at HV
    rw [HV.out]
    rw [HA.out] at HDu
    rw [HB.out] at HDd
    generalize decide (A = 0) = az at *
    generalize dec A = aT at *
    generalize dec B = bT at *
    generalize dec (u % G) = um at *
    generalize dec (d % G) = dm at *
    generalize dec G = gt at *
    generalize dec u = ut at *
    generalize dec d = dt at *
    obtain ⟨ZV, HZV⟩ : ∃ Z, Hid ((if aT.size ≤ 60 ∧ bT.size ≤ 60 then Value.tuple #[.agg #[.bool (neg && !az), .string aT, .string bT], .bool true] else noNum) = Z) := ⟨_, rfl⟩
    rw [HZV.out]
    clear hd0 hu hd hG0 hGd hqa
    have hzn : (aT.toList != [48]) = !az := by rw [bne, hza]
    have hparts : 60 < aT.size ∨ (¬ 60 < aT.size ∧ 60 < bT.size) ∨ (¬ 60 < aT.size ∧ ¬ 60 < bT.size) := by omega
    rcases hparts with h1 | ⟨h1, h2⟩ | ⟨h1, h2⟩
    · have HE : Hid (ZV = noNum) := by show _ = _; rw [← HZV.out, if_neg (by omega)]
      go_enter Tryd.func92, Tryd.ntmps92
      go_wp2_with fail
      refine (HGc.out _).mono ?_
      rintro e w1 ⟨rfl, hw1⟩
      have HB1 := hid (res_step HBw.out hw1)
      clear hw1
      go_wp2_with fail
      refine (HDu.out _).mono ?_
      rintro e w2 ⟨rfl, hw2⟩
      have HB2 := hid (res_step HB1.out hw2)
      clear hw2
      go_wp2_with fail
      refine (HDd.out _).mono ?_
      rintro e w3 ⟨rfl, hw3⟩
      have HB3 := hid (res_step HB2.out hw3)
      clear hw3 n0 n1 n2 f0 f1 f2
      obtain ⟨n0, n1, n2⟩ := res3 HB3.out
      obtain ⟨f0, f1, f2⟩ := res3f HB3.out
      go_wp2_with fail
      refine bodyPost_ret (v := noNum) (by simp [results, Tryd.results92, go_sem, n0, n1, n2]) rfl ⟨by rw [HE.out], ?_⟩
      first | exact res_done HB3.out | exact below3 (res_done HB3.out) _ _ _
    · have HE : Hid (ZV = noNum) := by show _ = _; rw [← HZV.out, if_neg (by omega)]
      go_enter Tryd.func92, Tryd.ntmps92
      go_wp2_with fail
      refine (HGc.out _).mono ?_
      rintro e w1 ⟨rfl, hw1⟩
      have HB1 := hid (res_step HBw.out hw1)
      clear hw1
      go_wp2_with fail
      refine (HDu.out _).mono ?_
      rintro e w2 ⟨rfl, hw2⟩
      have HB2 := hid (res_step HB1.out hw2)
      clear hw2
      go_wp2_with fail
      refine (HDd.out _).mono ?_
      rintro e w3 ⟨rfl, hw3⟩
      have HB3 := hid (res_step HB2.out hw3)
      clear hw3 n0 n1 n2 f0 f1 f2
      obtain ⟨n0, n1, n2⟩ := res3 HB3.out
      obtain ⟨f0, f1, f2⟩ := res3f HB3.out
      go_wp2_with fail
      refine bodyPost_ret (v := noNum) (by simp [results, Tryd.results92, go_sem, n0, n1, n2]) rfl ⟨by rw [HE.out], ?_⟩
      first | exact res_done HB3.out | exact below3 (res_done HB3.out) _ _ _
    · have HE : Hid (ZV = .tuple #[.agg #[.bool (neg && !az), .string aT, .string bT], .bool true]) := by show _ = _; rw [← HZV.out, if_pos (by omega)]
      cases neg <;> cases az
      all_goals
        go_enter Tryd.func92, Tryd.ntmps92
        go_wp2_with fail
        refine (HGc.out _).mono ?_
        rintro e w1 ⟨rfl, hw1⟩
        have HB1 := hid (res_step HBw.out hw1)
        clear hw1
        go_wp2_with fail
        refine (HDu.out _).mono ?_
        rintro e w2 ⟨rfl, hw2⟩
        have HB2 := hid (res_step HB1.out hw2)
        clear hw2
        go_wp2_with fail
        refine (HDd.out _).mono ?_
        rintro e w3 ⟨rfl, hw3⟩
        have HB3 := hid (res_step HB2.out hw3)
        clear hw3 n0 n1 n2 f0 f1 f2
        obtain ⟨n0, n1, n2⟩ := res3 HB3.out
        obtain ⟨f0, f1, f2⟩ := res3f HB3.out
        go_wp2_with fail
        refine bodyPost_ret (v := .tuple #[.agg #[.bool _, .string aT, .string bT], .bool true]) (by simp [results, Tryd.results92, go_sem, n0, n1, n2]; rfl) rfl ⟨by rw [HE.out]; rfl, ?_⟩
        first | exact res_done HB3.out | exact below3 (res_done HB3.out) _ _ _
end Go.Proofs.YtbbffhpppacihaaDoor

namespace Go.Proofs.YtbbffhpppacihaaDoor
open Go.RowKit Go.Siskin

theorem make_parts (neg : Bool) (u d : Nat) : (∃ n A B, makeV neg u d = .tuple #[.agg #[.bool n, .string (dec A), .string (dec B)], .bool true] ∧ Lib.nDigits A ≤ 60 ∧ Lib.nDigits B ≤ 60) ∨ makeV neg u d = noNum := by
  unfold makeV
  split
  · exact Or.inr rfl
  · unfold closedV
    split
    · rename_i h; exact Or.inl ⟨_, _, _, rfl, h.1, h.2⟩
    · exact Or.inr rfl

/-- Behind stores into what is new, and a box. -/
theorem num_picked {rb q : Nat} {v : Value} {w W : World} (h : Picked rb v w W q) (hrb : rb < w.heap.size) (x y z : Value) (o : Obj) : Picked rb v w ((((W.setCell ⟨w.heap.size, 0, none⟩ x).setCell ⟨w.heap.size, 1, none⟩ y).setCell ⟨w.heap.size, 2, none⟩ z).alloc o) q := by
  have h1 := h.far (row := some w.heap.size) (((grown_set W w.heap.size 0 x).trans (grown_set _ w.heap.size 1 y)).trans (grown_set _ w.heap.size 2 z)) (fun g e => by cases e; exact Nat.le_refl _) hrb
  exact h1.below ((Below.refl _ _).alloc (Nat.le_refl _) o) h1.1.size hrb

set_option maxRecDepth 20000 in
set_option maxHeartbeats 2000000 in
theorem l16Num_rd {R : Nat → Prop} {w : World} {rb n p : Nat} {v : Value} (h : RdAt R w rb n p v) (hp : p ≤ 800000) :
    Calls Tryd.prog 97 #[.pointer (some ⟨rb, 0, none⟩)] w fun e w' => ∃ (neg : Bool) (A B q : Nat), Lib.nDigits A ≤ 60 ∧ Lib.nDigits B ≤ 60 ∧ e = .returned (.agg #[.bool neg, .string (dec A), .string (dec B)]) ∧ q ≤ p + 150 ∧ Picked rb v w w' q := by
  have hrb := h.own.lt
  have hne : w.heap.size ≠ rb := by omega
  have HR0 := hid (h.alloc (.cells #[.bool false, .string ⟨#[]⟩, .string ⟨#[]⟩] 25))
  have HP0 := hid (h.now.below ((Below.refl w.heap.size w).alloc (Nat.le_refl _) (.cells #[.bool false, .string ⟨#[]⟩, .string ⟨#[]⟩] 25)) (Nat.le_refl _) hrb)
  have HO0 := hid (own_new w #[.bool false, .string ⟨#[]⟩, .string ⟨#[]⟩] 25)
  have H1 := hid dec_one
  have e7 : dec 7 = ⟨#[55]⟩ := dec_small (by decide)
  have H7 := hid e7
  clear h e7
  go_enter Tryd.func97, Tryd.ntmps97
  go_wp2_with fail
  refine (pick_rd HR0.out 2 (by omega) (by omega)).mono ?_
  rintro e w1 ⟨m, hm, rfl, hp1, -⟩
  have HR1 := hid (HR0.out.picked hp1 (by omega))
  have HP1 := hid (HP0.out.trans hp1)
  have HO1 := hid (HO0.out.picked hp1 hne)
  clear hp1
  have hm2 : m = 0 ∨ m = 1 := by omega
  clear hm
  rcases hm2 with rfl | rfl
  · go_wp2_with fail
    refine (l16Digits_rd HR1.out (by omega)).mono ?_
    rintro e w2 ⟨D, q, hD, rfl, hq, hp2⟩
    have HR2 := hid (HR1.out.picked hp2 (by omega))
    have HP2 := hid (HP1.out.trans hp2)
    have HO2 := hid (HO1.out.picked hp2 hne)
    have hq1 : q ≤ p + 71 := by omega
    clear hp2 hq
    go_wp2_with fail
    refine (pick_rd HR2.out 2 (by omega) (by omega)).mono ?_
    rintro e w3 ⟨m2, hm2, rfl, hp3, -⟩
    have HR3 := hid (HR2.out.picked hp3 (by omega))
    have HP3 := hid (HP2.out.trans hp3)
    have HO3 := hid (HO2.out.picked hp3 hne)
    clear hp3 hm2
    obtain ⟨sg, hsg⟩ : ∃ b, ((m2 : Int) == 0) = b := ⟨_, rfl⟩
    go_wp2_with fail
    refine (l16Digits_rd HR3.out (by omega)).mono ?_
    rintro e w4 ⟨U, q4, hU, rfl, hq4, hp4⟩
    have HR4 := hid (HR3.out.picked hp4 (by omega))
    have HP4 := hid (HP3.out.trans hp4)
    have HO4 := hid (HO3.out.picked hp4 hne)
    have hq5 : q4 ≤ p + 150 := by omega
    clear hp4 hq4
    have HMk := hid (fun w => l12Make_any sg U D w (by omega) (by omega))
    rcases make_parts sg U D with ⟨ng, A, B, hmk, hA, hB⟩ | hmk
    all_goals
      rw [hmk] at HMk
      clear hmk
      go_wp2_with fail
      refine (HMk.out _).mono ?_
      rintro e w5 ⟨rfl, hw5⟩
      have HP5 := hid (HP4.out.below hw5 HP4.out.1.size hrb)
      have hO5 := HO4.out.keep hw5 HO4.out.lt
      have hlt := hO5.lt
      obtain ⟨r0, r1, r2⟩ := own3 hO5
      have f0 := hO5.frozen 0
      have f1 := hO5.frozen 1
      have f2 := hO5.frozen 2
      clear hw5
      go_wp2_with fail
    · refine bodyPost_ret (v := .agg #[.bool ng, .string (dec A), .string (dec B)]) (by simp [results, Tryd.results97, go_sem, r0, r1, r2, hlt]) rfl ⟨ng, A, B, q4, hA, hB, rfl, hq5, ?_⟩
      exact num_picked HP5.out hrb _ _ _ _
    · have h7 := H7.out
      refine bodyPost_ret (v := .agg #[.bool false, .string ⟨#[55]⟩, .string ⟨#[49]⟩]) (by simp [results, Tryd.results97, go_sem, r0, r1, r2, hlt]) rfl ⟨false, 7, 1, q4, by rw [Lib.nDigits_small (by decide)]; decide, by rw [Lib.nDigits_small (by decide)]; decide, by rw [h7, H1.out], hq5, ?_⟩
      exact num_picked HP5.out hrb _ _ _ _
  · have hD : Lib.nDigits 1 ≤ 60 := by rw [Lib.nDigits_small (by decide)]; decide
    have HR2 := HR1
    have HP2 := HP1
    have HO2 := HO1
    go_wp2_with fail
    refine (pick_rd HR2.out 2 (by omega) (by omega)).mono ?_
    rintro e w3 ⟨m2, hm2, rfl, hp3, -⟩
    have HR3 := hid (HR2.out.picked hp3 (by omega))
    have HP3 := hid (HP2.out.trans hp3)
    have HO3 := hid (HO2.out.picked hp3 hne)
    clear hp3 hm2
    obtain ⟨sg, hsg⟩ : ∃ b, ((m2 : Int) == 0) = b := ⟨_, rfl⟩
    go_wp2_with fail
    refine (l16Digits_rd HR3.out (by omega)).mono ?_
    rintro e w4 ⟨U, q4, hU, rfl, hq4, hp4⟩
    have HR4 := hid (HR3.out.picked hp4 (by omega))
    have HP4 := hid (HP3.out.trans hp4)
    have HO4 := hid (HO3.out.picked hp4 hne)
    have hq5 : q4 ≤ p + 150 := by omega
    clear hp4 hq4
    have HMk := hid (fun w => l12Make_any sg U 1 w (by omega) (by omega))
    rw [H1.out] at HMk
    rcases make_parts sg U 1 with ⟨ng, A, B, hmk, hA, hB⟩ | hmk
    all_goals
      rw [hmk] at HMk
      clear hmk
      go_wp2_with fail
      refine (HMk.out _).mono ?_
      rintro e w5 ⟨rfl, hw5⟩
      have HP5 := hid (HP4.out.below hw5 HP4.out.1.size hrb)
      have hO5 := HO4.out.keep hw5 HO4.out.lt
      have hlt := hO5.lt
      obtain ⟨r0, r1, r2⟩ := own3 hO5
      have f0 := hO5.frozen 0
      have f1 := hO5.frozen 1
      have f2 := hO5.frozen 2
      clear hw5
      go_wp2_with fail
    · refine bodyPost_ret (v := .agg #[.bool ng, .string (dec A), .string (dec B)]) (by simp [results, Tryd.results97, go_sem, r0, r1, r2, hlt]) rfl ⟨ng, A, B, q4, hA, hB, rfl, hq5, ?_⟩
      exact num_picked HP5.out hrb _ _ _ _
    · have h7 := H7.out
      refine bodyPost_ret (v := .agg #[.bool false, .string ⟨#[55]⟩, .string ⟨#[49]⟩]) (by simp [results, Tryd.results97, go_sem, r0, r1, r2, hlt]) rfl ⟨false, 7, 1, q4, by rw [Lib.nDigits_small (by decide)]; decide, by rw [Lib.nDigits_small (by decide)]; decide, by rw [h7, H1.out], hq5, ?_⟩
      exact num_picked HP5.out hrb _ _ _ _
end Go.Proofs.YtbbffhpppacihaaDoor

namespace Go.Proofs.YtbbffhpppacihaaDoor
open Go.RowKit Go.Siskin

set_option maxRecDepth 20000 in
set_option maxHeartbeats 1000000 in
theorem l11Many_any (s : ByteArray) (n : Nat) (w : World) (hs : s.size ≤ 10) (hn : n ≤ 100) :
    Calls Tryd.prog 112 #[.string s, .int .i64 (n : Int)] w fun e w' => ∃ t : ByteArray, e = .returned (.string t) ∧ t.size ≤ 1000 ∧ w' = w := by
  have h0 : s.size * n + 0 ≤ 1000 := by
    have := Nat.mul_le_mul hs hn
    omega
  go_enter Tryd.func112, Tryd.ntmps112
  go_wp2_with fail
  go_loopw [0, 1, 5] (fun a b o wr => ∃ (S O : ByteArray) (k : Nat), a = .string S ∧ b = .int .i64 (k : Int) ∧ o = .string O ∧ Hid (S.size * k + O.size ≤ 1000) ∧ k ≤ 100 ∧ wr = w) (fun _ b _ _ => (intOf b).toNat)
  case atStart => exact ⟨s, ⟨#[]⟩, n, rfl, rfl, rfl, h0, hn, rfl⟩
  case round =>
    obtain ⟨S, O, k, rfl, rfl, rfl, HS, hk, rfl⟩ := hrel
    rcases Nat.eq_zero_or_pos k with rfl | hk0
    · go_wp2_with fail
      go_ret
      exact ⟨O, rfl, by have := HS.out; omega, rfl⟩
    · have hS : S.size ≤ 1000 := by
        have h1 := HS.out
        have h2 := Nat.mul_le_mul_left S.size hk0
        omega
      have hO : O.size ≤ 1000 := by have h1 := HS.out; omega
      have c1 : ¬ ((9223372036854775807 : Nat) < O.size + S.size) := by omega
      have c2 : ¬ ((9223372036854775807 : Nat) < S.size + S.size) := by omega
      have hq : (k : Int) / 2 = ((k / 2 : Nat) : Int) := by omega
      have hd := Nat.div_add_mod k 2
      have hpar := Nat.mod_two_eq_zero_or_one k
      have hkk : (k : Int) % 2 = ((k % 2 : Nat) : Int) := by omega
      rcases hpar with h2 | h2
      · rw [h2] at hkk hd
        obtain ⟨j, hj⟩ : ∃ j, k / 2 = j := ⟨_, rfl⟩
        rw [hj] at hq hd
        go_wp2_with fail
        go_roundw
        case rel =>
          refine ⟨S ++ S, O, j, rfl, rfl, rfl, ?_, by omega, trivial⟩
          have h1 := HS.out
          have e : k = j + j := by omega
          show _ ≤ _
          rw [e, Nat.mul_add] at h1
          rw [ByteArray.size_append, Nat.add_mul]
          exact h1
        case measure => simp [intOf]; omega
      · rw [h2] at hkk hd
        obtain ⟨j, hj⟩ : ∃ j, k / 2 = j := ⟨_, rfl⟩
        rw [hj] at hq hd
        go_wp2_with fail
        go_roundw
        case rel =>
          refine ⟨S ++ S, O ++ S, j, rfl, rfl, rfl, ?_, by omega, trivial⟩
          have h1 := HS.out
          have e : k = j + j + 1 := by omega
          show _ ≤ _
          rw [e, Nat.mul_add, Nat.mul_add, Nat.mul_one] at h1
          rw [ByteArray.size_append, ByteArray.size_append, Nat.add_mul]
          omega
        case measure => simp [intOf]; omega
end Go.Proofs.YtbbffhpppacihaaDoor

namespace Go.Proofs.YtbbffhpppacihaaDoor
open Go.RowKit Go.Siskin

theorem grA_rowNe {w : World} {b b1 M x : Nat} (h : GrA w b (grpN M x)) (hne : b ≠ b1) (hM : M ≤ 200000) : RowOf .u64 (fun k => k ≠ b1) w (.slice (some ⟨b, 0, none⟩) M M) (grpN M x) := by
  have hr := h.rowEq (cap := M) (by rw [grpN_length]; omega) (by unfold maxLen; omega)
  rw [grpN_length] at hr
  exact hr.mono (fun k e => by subst e; exact hne)
theorem grA_natN {w : World} {b M x : Nat} (h : GrA w b (grpN M x)) (hM : M ≤ 200000) : NatA w (.slice (some ⟨b, 0, none⟩) M M) (grpN M x) := by
  have hr := h.natA (cap := M) (by rw [grpN_length]; omega) (by unfold maxLen; omega)
  rw [grpN_length] at hr
  exact hr
theorem sum_lim {x y M : Nat} (hx : nG x ≤ M) (hy : nG y ≤ M) : x + y < 1000000000 ^ (M + 1) := by
  have h1 := Nat.lt_of_lt_of_le (lt_pow_nG x) (Nat.pow_le_pow_right (by decide) hx)
  have h2 := Nat.lt_of_lt_of_le (lt_pow_nG y) (Nat.pow_le_pow_right (by decide) hy)
  rw [Nat.pow_succ]; omega
theorem give_sum {Y ca P x y : Nat} (h : Y + ca * P = x + y) (hs : x + y < P) : Y = x + y := by
  rcases Nat.eq_zero_or_pos ca with h0 | h0
  · subst h0; omega
  · have := Nat.mul_le_mul_right P h0
    omega
theorem take_rest {Y ow P x y : Nat} (h : Y + 1 * y = x + ow * P) (hY : Y < P) (hle : y ≤ x) : Y = x - y := by
  rcases Nat.eq_zero_or_pos ow with h0 | h0
  · subst h0; omega
  · have := Nat.mul_le_mul_right P h0
    omega

set_option maxRecDepth 20000 in
set_option maxHeartbeats 2000000 in
theorem plus_any (x y : Nat) (vx vy : Value) (w : World) (hx : NatA w vx (grp x)) (hy : NatA w vy (grp y)) (hnx : nG x ≤ 5000) (hny : nG y ≤ 5000) :
    Calls Tryd.prog 137 #[vx, vy] w fun e w' => ∃ u, e = .returned u ∧ NatA w' u (grp (x + y)) ∧ Below w.heap.size w w' := by
  have HX := hid hx
  have HY := hid hy
  obtain ⟨xa, xc, rfl⟩ := natA_formR hx
  obtain ⟨ya, yc, rfl⟩ := natA_formR hy
  obtain ⟨M, hM⟩ : ∃ M : Nat, (nG x < nG y ∧ M = nG y) ∨ (¬ nG x < nG y ∧ M = nG x) := by
    by_cases h : nG x < nG y
    · exact ⟨_, Or.inl ⟨h, rfl⟩⟩
    · exact ⟨_, Or.inr ⟨h, rfl⟩⟩
  have hMx : nG x ≤ M := by omega
  have hMy : nG y ≤ M := by omega
  have hMl : M ≤ 5000 := by omega
  have HWx : Hid (∀ w v, NatA w v (grp x) → Calls Tryd.prog 116 #[v, .int .i64 ((M : Int) + 1)] w fun e w' => e = .returned (.slice (some ⟨w.heap.size, 0, none⟩) (M + 1) (M + 1)) ∧ GrA w' w.heap.size (grpN (M + 1) x) ∧ Below w.heap.size w w') := fun w v h => widened_any x (M + 1) v w h (by omega) (by omega)
  have HWy : Hid (∀ w v, NatA w v (grp y) → Calls Tryd.prog 116 #[v, .int .i64 ((M : Int) + 1)] w fun e w' => e = .returned (.slice (some ⟨w.heap.size, 0, none⟩) (M + 1) (M + 1)) ∧ GrA w' w.heap.size (grpN (M + 1) y) ∧ Below w.heap.size w w') := fun w v h => widened_any y (M + 1) v w h (by omega) (by omega)
  have HSum := hid (sum_lim hMx hMy)
  have HGv := hid (fun b vs w h1 h2 => give_any (M + 1) x y b 0 (M + 1) (M + 1) (M + 1) vs w h1 h2 (by omega) (Nat.le_refl _) (Nat.le_refl _) (by omega) (by have := HSum.out; rw [Nat.zero_add]; omega) (by have := HSum.out; omega))
  have HTr := hid (fun v w h => trimmed_any (M + 1) (x + y) v w h HSum.out)
  simp only [grp_length] at *
  clear hx hy
  rcases hM with ⟨h, rfl⟩ | ⟨h, rfl⟩
  all_goals
    go_enter Tryd.func137, Tryd.ntmps137
    go_wp2_with fail
    refine (HWx.out _ _ HX.out).mono ?_
    rintro e w1 ⟨rfl, hg1, hw1⟩
    have HG1 := hid hg1
    have HB1 := hid hw1
    have hlt1 := hg1.lt
    clear hg1 hw1
    go_wp2_with fail
    refine (HWy.out _ _ (HY.out.below HB1.out (Nat.le_refl _))).mono ?_
    rintro e w2 ⟨rfl, hg2, hw2⟩
    have HG2 := hid hg2
    have HG1b := hid (HG1.out.keep hw2 hlt1)
    have HB2 := hid (HB1.out.trans (hw2.mono (by omega)))
    clear hg2 hw2
    go_wp2_with fail
    refine (HGv.out w.heap.size _ w2 HG1b.out (grA_rowNe HG2.out (by omega) (by omega))).mono ?_
    rintro e w3 ⟨Y, ca, rfl, hg3, hY, hE, hW⟩
    rw [Nat.pow_zero, Nat.mod_one, Nat.zero_add, Nat.one_mul] at hg3
    rw [Nat.pow_zero, Nat.div_one] at hE
    have hYe := give_sum hE HSum.out
    subst hYe
    have HG3 := hid hg3
    have HB3 := hid (HB2.out.trans hW.1)
    clear hg3 hY hE hW
    go_wp2_with fail
    refine (HTr.out _ _ (grA_natN HG3.out (by omega))).mono ?_
    rintro e w4 ⟨u, rfl, hu, hw⟩
    obtain rfl := hw.symm
    obtain ⟨ua, uc, rfl⟩ := natA_formR hu
    have HU := hid hu
    clear hu
    go_wp2_with fail
    go_ret
    refine ⟨.slice ua (grp (x + y)).length uc, rfl, ?_, ?_⟩
    · exact HU.out
    · exact HB3.out

set_option maxRecDepth 20000 in
set_option maxHeartbeats 2000000 in
theorem minus_any (x y : Nat) (vx vy : Value) (w : World) (hx : NatA w vx (grp x)) (hy : NatA w vy (grp y)) (hnx : nG x ≤ 5000) (hle : y ≤ x) :
    Calls Tryd.prog 143 #[vx, vy] w fun e w' => ∃ u, e = .returned u ∧ NatA w' u (grp (x - y)) ∧ Below w.heap.size w w' := by
  have HX := hid hx
  have HY := hid hy
  obtain ⟨xa, xc, rfl⟩ := natA_formR hx
  obtain ⟨ya, yc, rfl⟩ := natA_formR hy
  have hMy := nG_mono hle
  have hx9 := lt_pow_nG x
  obtain ⟨M, HM⟩ : ∃ M : Nat, Hid (nG x = M) := ⟨_, rfl⟩
  have HWx : Hid (∀ w v, NatA w v (grp x) → Calls Tryd.prog 116 #[v, .int .i64 (M : Int)] w fun e w' => e = .returned (.slice (some ⟨w.heap.size, 0, none⟩) M M) ∧ GrA w' w.heap.size (grpN M x) ∧ Below w.heap.size w w') := fun w v h => widened_any x M v w h (by rw [HM.out]; omega) (by rw [← HM.out]; omega)
  have HWy : Hid (∀ w v, NatA w v (grp y) → Calls Tryd.prog 116 #[v, .int .i64 (M : Int)] w fun e w' => e = .returned (.slice (some ⟨w.heap.size, 0, none⟩) M M) ∧ GrA w' w.heap.size (grpN M y) ∧ Below w.heap.size w w') := fun w v h => widened_any y M v w h (by rw [← HM.out]; exact hMy) (by rw [← HM.out]; omega)
  rw [HM.out] at hx9 hnx
  have HX9 := hid hx9
  have HLe := hid hle
  have HTk : Hid (∀ (b : Nat) (vs : Value) (w : World), GrA w b (grpN M x) → RowOf .u64 (fun k => k ≠ b) w vs (grpN M y) → Calls Tryd.prog 117 #[.slice (some ⟨b, 0, none⟩) M M, vs, .int .u64 1] w fun e w' => ∃ (Y ow : Nat), e = .returned (.bool (decide (0 < ow))) ∧ GrA w' b (grpN M (x % 1000000000 ^ 0 + 1000000000 ^ 0 * Y)) ∧ Y < 1000000000 ^ M ∧ Y + 1 * y = x / 1000000000 ^ 0 + ow * 1000000000 ^ M ∧ Wr b w w') :=
    fun b vs w h1 h2 => take_any M x y b 0 M M M 1 vs w h1 h2 (by omega) (Nat.le_refl _) (Nat.le_refl _) (by omega) (by decide) (by have := HX9.out; rw [Nat.zero_add]; omega) (by have := HX9.out; have := HLe.out; omega)
  have HTr := hid (fun v w h => trimmed_any M (x - y) v w h (by have := HX9.out; omega))
  simp only [grp_length] at *
  rw [HM.out] at HX ⊢
  clear hx hy hx9 hle hMy
  go_enter Tryd.func143, Tryd.ntmps143
  go_wp2_with fail
  refine (HWx.out _ _ HX.out).mono ?_
  rintro e w1 ⟨rfl, hg1, hw1⟩
  have HG1 := hid hg1
  have HB1 := hid hw1
  have hlt1 := hg1.lt
  clear hg1 hw1
  go_wp2_with fail
  refine (HWy.out _ _ (HY.out.below HB1.out (Nat.le_refl _))).mono ?_
  rintro e w2 ⟨rfl, hg2, hw2⟩
  have HG2 := hid hg2
  have HG1b := hid (HG1.out.keep hw2 hlt1)
  have HB2 := hid (HB1.out.trans (hw2.mono (by omega)))
  clear hg2 hw2
  go_wp2_with fail
  refine (HTk.out w.heap.size (.slice (some ⟨w1.heap.size, 0, none⟩) M M) w2 HG1b.out (grA_rowNe HG2.out (by omega) (by omega))).mono ?_
  rintro e w3 ⟨Y, ow, rfl, hg3, hY, hE, hW⟩
  rw [Nat.pow_zero, Nat.mod_one, Nat.zero_add, Nat.one_mul] at hg3
  rw [Nat.pow_zero, Nat.div_one] at hE
  have hYe := take_rest hE hY HLe.out
  subst hYe
  have HG3 := hid hg3
  have HB3 := hid (HB2.out.trans hW.1)
  clear hg3 hY hE hW
  go_wp2_with fail
  refine (HTr.out _ _ (grA_natN HG3.out (by omega))).mono ?_
  rintro e w4 ⟨u, rfl, hu, hw⟩
  obtain rfl := hw.symm
  obtain ⟨ua, uc, rfl⟩ := natA_formR hu
  have HU := hid hu
  clear hu
  go_wp2_with fail
  go_ret
  refine ⟨.slice ua (grp (x - y)).length uc, rfl, ?_, ?_⟩
  · exact HU.out
  · exact HB3.out
end Go.Proofs.YtbbffhpppacihaaDoor

namespace Go.Proofs.YtbbffhpppacihaaDoor
open Go.RowKit Go.Siskin

def ordN (a b : Nat) : Int := if a < b then -1 else if b < a then 1 else 0

set_option maxRecDepth 20000 in
set_option maxHeartbeats 1000000 in
theorem cmpInt_any (a b : Nat) (w : World) :
    Calls Tryd.prog 144 #[.int .i64 a, .int .i64 b] w fun e w' => e = .returned (.int .i64 (ordN a b)) ∧ w' = w := by
  have HN : Hid (∀ (x : Nat) w, Calls Tryd.prog 146 #[.int .i64 x] w fun e w' => e = .returned (.bool false) ∧ w' = w) := fun x w => by
    have h1 : ((x : Int) != (x : Int)) = false := by simp
    go_enter Tryd.func146, Tryd.ntmps146
    go_wp2_with fail
    go_ret
    exact ⟨rfl, rfl⟩
  obtain ⟨o, HO⟩ : ∃ o, Hid (ordN a b = o) := ⟨_, rfl⟩
  rw [HO.out]
  have hc : (a < b ∧ o = -1) ∨ (b < a ∧ o = 1) ∨ (a = b ∧ o = 0) := by
    rw [← HO.out]; unfold ordN
    rcases Nat.lt_trichotomy a b with h | h | h
    · exact Or.inl ⟨h, if_pos h⟩
    · exact Or.inr (Or.inr ⟨h, by rw [if_neg (by omega), if_neg (by omega)]⟩)
    · exact Or.inr (Or.inl ⟨h, by rw [if_neg (by omega), if_pos h]⟩)
  clear HO
  rcases hc with ⟨h, rfl⟩ | ⟨h, rfl⟩ | ⟨rfl, rfl⟩
  all_goals
    go_enter Tryd.func144, Tryd.ntmps144
    go_wp2_with fail
    refine (HN.out _ _).mono ?_
    rintro e w' ⟨rfl, hw⟩
    obtain rfl := hw.symm
    go_wp2_with fail
    refine (HN.out _ _).mono ?_
    rintro e w' ⟨rfl, hw⟩
    obtain rfl := hw.symm
    go_wp2_with fail
    go_ret
    exact ⟨rfl, rfl⟩

set_option maxRecDepth 20000 in
set_option maxHeartbeats 1000000 in
theorem cmpWord_any (a b : Nat) (w : World) :
    Calls Tryd.prog 145 #[.int .u64 a, .int .u64 b] w fun e w' => e = .returned (.int .i64 (ordN a b)) ∧ w' = w := by
  have HN : Hid (∀ (x : Nat) w, Calls Tryd.prog 147 #[.int .u64 x] w fun e w' => e = .returned (.bool false) ∧ w' = w) := fun x w => by
    have h1 : ((x : Int) != (x : Int)) = false := by simp
    go_enter Tryd.func147, Tryd.ntmps147
    go_wp2_with fail
    go_ret
    exact ⟨rfl, rfl⟩
  obtain ⟨o, HO⟩ : ∃ o, Hid (ordN a b = o) := ⟨_, rfl⟩
  rw [HO.out]
  have hc : (a < b ∧ o = -1) ∨ (b < a ∧ o = 1) ∨ (a = b ∧ o = 0) := by
    rw [← HO.out]; unfold ordN
    rcases Nat.lt_trichotomy a b with h | h | h
    · exact Or.inl ⟨h, if_pos h⟩
    · exact Or.inr (Or.inr ⟨h, by rw [if_neg (by omega), if_neg (by omega)]⟩)
    · exact Or.inr (Or.inl ⟨h, by rw [if_neg (by omega), if_pos h]⟩)
  clear HO
  rcases hc with ⟨h, rfl⟩ | ⟨h, rfl⟩ | ⟨rfl, rfl⟩
  all_goals
    go_enter Tryd.func145, Tryd.ntmps145
    go_wp2_with fail
    refine (HN.out _ _).mono ?_
    rintro e w' ⟨rfl, hw⟩
    obtain rfl := hw.symm
    go_wp2_with fail
    refine (HN.out _ _).mono ?_
    rintro e w' ⟨rfl, hw⟩
    obtain rfl := hw.symm
    go_wp2_with fail
    go_ret
    exact ⟨rfl, rfl⟩

theorem ordN_zero {a b : Nat} : ordN a b = 0 ↔ a = b := by
  unfold ordN
  split
  · constructor
    · intro h; cases h
    · intro h; omega
  · split
    · constructor
      · intro h; cases h
      · intro h; omega
    · constructor
      · intro _; omega
      · intro _; rfl
/-- One group further down. -/
theorem ordN_step {x y j : Nat} (h : x / 1000000000 ^ (j + 1) = y / 1000000000 ^ (j + 1)) : ordN (x / 1000000000 ^ j % 1000000000) (y / 1000000000 ^ j % 1000000000) = ordN (x / 1000000000 ^ j) (y / 1000000000 ^ j) := by
  rw [Nat.pow_succ, ← Nat.div_div_eq_div_mul, ← Nat.div_div_eq_div_mul] at h
  generalize x / 1000000000 ^ j = a at *
  generalize y / 1000000000 ^ j = b at *
  have h1 := Nat.div_add_mod a 1000000000
  have h2 := Nat.div_add_mod b 1000000000
  unfold ordN
  rcases Nat.lt_trichotomy a b with h3 | h3 | h3
  · rw [if_pos h3, if_pos (by omega)]
  · subst h3; rw [if_neg (by omega), if_neg (by omega), if_neg (by omega), if_neg (by omega)]
  · rw [if_neg (by omega), if_pos (by omega), if_neg (by omega), if_pos h3]
/-- What is told by the groups from j on. -/
theorem ordN_end {x y j : Nat} (h : ordN (x / 1000000000 ^ j) (y / 1000000000 ^ j) ≠ 0) : ordN x y = ordN (x / 1000000000 ^ j) (y / 1000000000 ^ j) := by
  unfold ordN at *
  rcases Nat.lt_trichotomy (x / 1000000000 ^ j) (y / 1000000000 ^ j) with h3 | h3 | h3
  · have : x < y := by
      rcases Nat.lt_or_ge x y with h4 | h4
      · exact h4
      · have := Nat.div_le_div_right (c := 1000000000 ^ j) h4; omega
    rw [if_pos h3, if_pos this]
  · exact absurd (by rw [if_neg (by omega), if_neg (by omega)]) h
  · have : y < x := by
      rcases Nat.lt_or_ge y x with h4 | h4
      · exact h4
      · have := Nat.div_le_div_right (c := 1000000000 ^ j) h4; omega
    rw [if_neg (by omega), if_pos this, if_neg (by omega), if_pos h3]
theorem ordN_groups {x y : Nat} (h : ordN (nG x) (nG y) ≠ 0) : ordN x y = ordN (nG x) (nG y) := by
  unfold ordN at *
  rcases Nat.lt_trichotomy (nG x) (nG y) with h3 | h3 | h3
  · rw [if_pos h3, if_pos (nG_lt h3)]
  · exact absurd (by rw [if_neg (by omega), if_neg (by omega)]) h
  · have := nG_lt h3
    rw [if_neg (by omega), if_pos this, if_neg (by omega), if_pos h3]

set_option maxRecDepth 20000 in
set_option maxHeartbeats 2000000 in
theorem compare_any (x y : Nat) (vx vy : Value) (w : World) (hx : NatA w vx (grp x)) (hy : NatA w vy (grp y)) (hnx : nG x ≤ 5000) (hny : nG y ≤ 5000) :
    Calls Tryd.prog 142 #[vx, vy] w fun e w' => e = .returned (.int .i64 (ordN x y)) ∧ Below w.heap.size w w' := by
  have HX := hid hx
  have HY := hid hy
  obtain ⟨xa, xc, rfl⟩ := natA_formR hx
  obtain ⟨ya, yc, rfl⟩ := natA_formR hy
  obtain ⟨G, HG⟩ : ∃ G : Nat, Hid (nG x = G) := ⟨_, rfl⟩
  obtain ⟨K, HK⟩ : ∃ K : Nat, Hid (nG y = K) := ⟨_, rfl⟩
  have HCi := hid (fun w => cmpInt_any G K w)
  have HCw := hid (fun (a b : Nat) w => cmpWord_any a b w)
  simp only [grp_length] at *
  rw [HG.out] at HX hnx ⊢
  rw [HK.out] at HY hny ⊢
  have HGx : Hid (∀ wr, Below w.heap.size w wr → ∀ i, i < G → ∃ b o, xa = some ⟨b, o, none⟩ ∧ wr.cell? ⟨b, o + i, none⟩ = some (.int .u64 ((x / 1000000000 ^ i % 1000000000 : Nat) : Int))) := by
    intro wr hb i hi
    have h := HX.out.below hb (Nat.le_refl _)
    rw [← HG.out] at h hi
    obtain ⟨b, o, cap, e, hc⟩ := natA_get h i hi
    simp only [Value.slice.injEq] at e
    exact ⟨b, o, e.1, hc⟩
  have HGy : Hid (∀ wr, Below w.heap.size w wr → ∀ i, i < K → ∃ b o, ya = some ⟨b, o, none⟩ ∧ wr.cell? ⟨b, o + i, none⟩ = some (.int .u64 ((y / 1000000000 ^ i % 1000000000 : Nat) : Int))) := by
    intro wr hb i hi
    have h := HY.out.below hb (Nat.le_refl _)
    rw [← HK.out] at h hi
    obtain ⟨b, o, cap, e, hc⟩ := natA_get h i hi
    simp only [Value.slice.injEq] at e
    exact ⟨b, o, e.1, hc⟩
  clear hx hy
  by_cases hne : ordN G K = 0
  · have hGK := ordN_zero.1 hne
    subst hGK
    have HXl : Hid (x / 1000000000 ^ G = 0 ∧ y / 1000000000 ^ G = 0) := ⟨Nat.div_eq_of_lt (by rw [← HG.out]; exact lt_pow_nG x), Nat.div_eq_of_lt (by rw [← HK.out]; exact lt_pow_nG y)⟩
    rw [hne] at HCi
    clear hne
    go_enter Tryd.func142, Tryd.ntmps142
    go_wp2_with fail
    refine (HCi.out _).mono ?_
    rintro e w' ⟨rfl, hw⟩
    obtain rfl := hw.symm
    go_wp2_with fail
    go_loopw [5, 6] (fun o i wr => ∃ (j : Nat) (c : Int), j ≤ G ∧ o = .int .i64 c ∧ i = .int .i64 ((j : Int) - 1) ∧ Hid (ordN (x / 1000000000 ^ j) (y / 1000000000 ^ j) = c) ∧ Hid (Below w.heap.size w wr)) (fun _ i _ => (intOf i + 1).toNat)
    case atStart => exact ⟨G, 0, Nat.le_refl _, rfl, rfl, by show _ = _; rw [HXl.out.1, HXl.out.2]; rfl, Below.refl _ _⟩
    case round =>
      obtain ⟨j, c, hj, rfl, rfl, HC, HB⟩ := hrel
      by_cases hc : c = 0
      · subst hc
        have hcb : ((0 : Int) == 0) = true := rfl
        by_cases hj0 : j = 0
        · subst hj0
          have HE : Hid (ordN x y = 0) := by
            have h := HC.out
            rw [Nat.pow_zero, Nat.div_one, Nat.div_one] at h
            exact h
          go_wp2_with fail
          go_ret
          exact ⟨ret_intz (by rw [HE.out]), HB.out⟩
        · obtain ⟨i, rfl⟩ : ∃ i, j = i + 1 := ⟨j - 1, by omega⟩
          have hi1 : ((i + 1 : Nat) : Int) - 1 = (i : Int) := by omega
          rw [hi1]
          obtain ⟨b1, o1, rfl, c1⟩ := HGx.out wr HB.out i (by omega)
          obtain ⟨b2, o2, rfl, c2⟩ := HGy.out wr HB.out i (by omega)
          have HSt := hid (ordN_step (ordN_zero.1 HC.out))
          obtain ⟨g1, hg1⟩ : ∃ g, x / 1000000000 ^ i % 1000000000 = g := ⟨_, rfl⟩
          obtain ⟨g2, hg2⟩ : ∃ g, y / 1000000000 ^ i % 1000000000 = g := ⟨_, rfl⟩
          rw [hg1] at c1 HSt
          rw [hg2] at c2 HSt
          clear hg1 hg2
          have h1 : (0 : Int) ≤ (i : Int) := by omega
          have h2 : (i : Int) < (G : Int) := by omega
          have h3 : (-1 : Int) ≤ (i : Int) - 1 := by omega
          go_wp2_with fail
          go_region_held3 (fun W => W.cell? ⟨b1, o1 + i, none⟩ = some (.int .u64 (g1 : Int)) ∧ W.cell? ⟨b2, o2 + i, none⟩ = some (.int .u64 (g2 : Int)))
            (exact ⟨c1, c2⟩)
            (first
              | (go_at_call 145
                 go_loud (
                 refine (HCw.out _ _ _).mono ?_
                 rintro e w3 ⟨rfl, hw⟩
                 obtain rfl := hw.symm)))
          all_goals
            go_wp2_with fail
            go_roundw
            case rel => exact ⟨i, _, by omega, rfl, rfl, HSt.out.symm, HB.out.drew⟩
            case measure => simp [intOf] <;> omega
      · have hcb : (c == 0) = false := by rw [beq_eq_false_iff_ne]; exact hc
        have HE : Hid (ordN x y = c) := by
          have h := HC.out
          show _ = _
          rw [← h]
          exact ordN_end (by rw [h]; exact hc)
        clear hc
        go_wp2_with fail
        go_ret
        exact ⟨ret_intz (by rw [HE.out]), HB.out⟩
  · have HE := hid (ordN_groups (x := x) (y := y) (by rw [HG.out, HK.out]; exact hne))
    rw [HG.out, HK.out] at HE
    obtain ⟨c, hc⟩ : ∃ c, ordN G K = c := ⟨_, rfl⟩
    rw [hc] at HE HCi hne
    have hcb : (c == 0) = false := by rw [beq_eq_false_iff_ne]; exact hne
    clear hc hne
    go_enter Tryd.func142, Tryd.ntmps142
    go_wp2_with fail
    refine (HCi.out _).mono ?_
    rintro e w' ⟨rfl, hw⟩
    obtain rfl := hw.symm
    go_wp2_with fail
    go_loopw [5, 6] (fun o i wr => o = .int .i64 c ∧ wr = w) (fun _ _ _ => 0)
    case atStart => exact ⟨rfl, rfl⟩
    case round =>
      obtain ⟨rfl, rfl⟩ := hrel
      go_wp2_with fail
      go_ret
      exact ⟨ret_intz (by rw [HE.out]), Below.refl _ _⟩
end Go.Proofs.YtbbffhpppacihaaDoor
