/-
  The model's l12Make: a number of a sign, above and below. Condition: numerals of at most 1,000 digits.
  Digits with room above: setting one, adding a row of a product, carrying on. Condition: none.
  The model's l11Mul: the product of two numbers in decimal digits. Condition: the two are numerals of at most 10,000 digits.
  The model's l13Answer, NumMul, NumDiv; where the model's functions of two numbers say 1. Condition: none. Made by wip/tools/genus.py.
-/
import Derived.Test.YtbbffhpppacihaaDoorPart13
import Derived.Test.YtbbffhpppacihaaDoorPart14
import Derived.Test.YtbbffhpppacihaaDoorPart7
import Derived.Test.YtbbffhpppacihaaDoorPart3
import Derived.Deep.RegionHeld3
import Derived.Test.YtbbffhpppacihaaDoorUO
namespace Go.Proofs.YtbbffhpppacihaaDoor
open Go.RowKit Go.Siskin

abbrev noNum : Value := .tuple #[.agg #[.bool false, .string ⟨#[]⟩, .string ⟨#[]⟩], .bool false]
def makeV (neg : Bool) (u d : Nat) : Value := if d = 0 then noNum else closedV neg (u / Nat.gcd u d) (d / Nat.gcd u d)

set_option maxRecDepth 20000 in
set_option maxHeartbeats 1000000 in
theorem l12Make_any (neg : Bool) (u d : Nat) (w : World) (hu : Lib.nDigits u ≤ 1000) (hd : Lib.nDigits d ≤ 1000) :
    Calls Tryd.prog 92 #[.bool neg, .string (dec u), .string (dec d)] w fun e w' => e = .returned (makeV neg u d) ∧ Below w.heap.size w w' := by
  have HBw : Hid (Below (w.heap.size + 1) (w.alloc (.cells #[.bool false, .string ⟨#[]⟩, .string ⟨#[]⟩] 25)) (w.alloc (.cells #[.bool false, .string ⟨#[]⟩, .string ⟨#[]⟩] 25))) := Below.refl _ _
  obtain ⟨n0, n1, n2⟩ := res3 HBw.out
  obtain ⟨f0, f1, f2⟩ := res3f HBw.out
  have hzd := nought_text d
  by_cases hd0 : d = 0
  · rw [decide_eq_true hd0] at hzd
    have HV : Hid (makeV neg u d = noNum) := by show _ = _; unfold makeV; rw [if_pos hd0]
    rw [HV.out]
    clear hd0 hu hd
    generalize dec u = ut at *
    generalize dec d = dt at *
    go_enter Tryd.func92, Tryd.ntmps92
    go_wp2_with fail
    refine bodyPost_ret (v := noNum) (by simp [results, Tryd.results92, go_sem, n0, n1, n2]) rfl ⟨rfl, ?_⟩
    first | exact res_done HBw.out | exact below3 (res_done HBw.out) _ _ _
  · rw [decide_eq_false hd0] at hzd
    obtain ⟨G, HG⟩ : ∃ G : Nat, Hid (Nat.gcd u d = G) := ⟨_, rfl⟩
    have HGc := hid (fun w => l11Gcd_any u d w (by omega) (by omega))
    have hG0 : 0 < G := by rw [← HG.out]; exact Nat.gcd_pos_of_pos_right _ (by omega)
    have hGd : Lib.nDigits G ≤ 1000 := Nat.le_trans (nDigits_mono (by rw [← HG.out]; exact Nat.gcd_le_right _ (by omega))) hd
    rw [HG.out] at HGc
    have HDu := hid (fun w => l11Div_any u G w (by omega) (by omega) hG0)
    have HDd := hid (fun w => l11Div_any d G w (by omega) (by omega) hG0)
    obtain ⟨A, HA⟩ : ∃ A : Nat, Hid (u / G = A) := ⟨_, rfl⟩
    obtain ⟨B, HB⟩ : ∃ B : Nat, Hid (d / G = B) := ⟨_, rfl⟩
    have HV : Hid (makeV neg u d = if (dec A).size ≤ 60 ∧ (dec B).size ≤ 60 then .tuple #[.agg #[.bool (neg && !(A == 0)), .string (dec A), .string (dec B)], .bool true] else noNum) := by
      show _ = _
      unfold makeV
      rw [if_neg hd0, HG.out, HA.out, HB.out, dec_size, dec_size]
      rfl
    have hza := nought_text A
    have hqa : (A == 0) = decide (A = 0) := by rw [Bool.eq_iff_iff]; simp
    rw [hqa] at HV
    rw [HV.out]
    rw [HA.out] at HDu
    rw [HB.out] at HDd
    generalize decide (A = 0) = az at *
    generalize dec A = aT at *
    generalize dec B = bT at *
    generalize dec (u % G) = um at *
    generalize dec (d % G) = dm at *
    generalize dec G = gt at *
    generalize dec u = ut at *
    generalize dec d = dt at *
    obtain ⟨ZV, HZV⟩ : ∃ Z, Hid ((if aT.size ≤ 60 ∧ bT.size ≤ 60 then Value.tuple #[.agg #[.bool (neg && !az), .string aT, .string bT], .bool true] else noNum) = Z) := ⟨_, rfl⟩
    rw [HZV.out]
    clear hd0 hu hd hG0 hGd hqa
    have hzn : (aT.toList != [48]) = !az := by rw [bne, hza]
    have hparts : 60 < aT.size ∨ (¬ 60 < aT.size ∧ 60 < bT.size) ∨ (¬ 60 < aT.size ∧ ¬ 60 < bT.size) := by omega
    rcases hparts with h1 | ⟨h1, h2⟩ | ⟨h1, h2⟩
    · have HE : Hid (ZV = noNum) := by show _ = _; rw [← HZV.out, if_neg (by omega)]
      go_enter Tryd.func92, Tryd.ntmps92
      go_wp2_with fail
      refine (HGc.out _).mono ?_
      rintro e w1 ⟨rfl, hw1⟩
      have HB1 := hid (res_step HBw.out hw1)
      clear hw1
      go_wp2_with fail
      refine (HDu.out _).mono ?_
      rintro e w2 ⟨rfl, hw2⟩
      have HB2 := hid (res_step HB1.out hw2)
      clear hw2
      go_wp2_with fail
      refine (HDd.out _).mono ?_
      rintro e w3 ⟨rfl, hw3⟩
      have HB3 := hid (res_step HB2.out hw3)
      clear hw3 n0 n1 n2 f0 f1 f2
      obtain ⟨n0, n1, n2⟩ := res3 HB3.out
      obtain ⟨f0, f1, f2⟩ := res3f HB3.out
      go_wp2_with fail
      refine bodyPost_ret (v := noNum) (by simp [results, Tryd.results92, go_sem, n0, n1, n2]) rfl ⟨by rw [HE.out], ?_⟩
      first | exact res_done HB3.out | exact below3 (res_done HB3.out) _ _ _
    · have HE : Hid (ZV = noNum) := by show _ = _; rw [← HZV.out, if_neg (by omega)]
      go_enter Tryd.func92, Tryd.ntmps92
      go_wp2_with fail
      refine (HGc.out _).mono ?_
      rintro e w1 ⟨rfl, hw1⟩
      have HB1 := hid (res_step HBw.out hw1)
      clear hw1
      go_wp2_with fail
      refine (HDu.out _).mono ?_
      rintro e w2 ⟨rfl, hw2⟩
      have HB2 := hid (res_step HB1.out hw2)
      clear hw2
      go_wp2_with fail
      refine (HDd.out _).mono ?_
      rintro e w3 ⟨rfl, hw3⟩
      have HB3 := hid (res_step HB2.out hw3)
      clear hw3 n0 n1 n2 f0 f1 f2
      obtain ⟨n0, n1, n2⟩ := res3 HB3.out
      obtain ⟨f0, f1, f2⟩ := res3f HB3.out
      go_wp2_with fail
      refine bodyPost_ret (v := noNum) (by simp [results, Tryd.results92, go_sem, n0, n1, n2]) rfl ⟨by rw [HE.out], ?_⟩
      first | exact res_done HB3.out | exact below3 (res_done HB3.out) _ _ _
    · have HE : Hid (ZV = .tuple #[.agg #[.bool (neg && !az), .string aT, .string bT], .bool true]) := by show _ = _; rw [← HZV.out, if_pos (by omega)]
      cases neg <;> cases az
      all_goals
        go_enter Tryd.func92, Tryd.ntmps92
        go_wp2_with fail
        refine (HGc.out _).mono ?_
        rintro e w1 ⟨rfl, hw1⟩
        have HB1 := hid (res_step HBw.out hw1)
        clear hw1
        go_wp2_with fail
        refine (HDu.out _).mono ?_
        rintro e w2 ⟨rfl, hw2⟩
        have HB2 := hid (res_step HB1.out hw2)
        clear hw2
        go_wp2_with fail
        refine (HDd.out _).mono ?_
        rintro e w3 ⟨rfl, hw3⟩
        have HB3 := hid (res_step HB2.out hw3)
        clear hw3 n0 n1 n2 f0 f1 f2
        obtain ⟨n0, n1, n2⟩ := res3 HB3.out
        obtain ⟨f0, f1, f2⟩ := res3f HB3.out
        go_wp2_with fail
        refine bodyPost_ret (v := .tuple #[.agg #[.bool _, .string aT, .string bT], .bool true]) (by simp [results, Tryd.results92, go_sem, n0, n1, n2]; rfl) rfl ⟨by rw [HE.out]; rfl, ?_⟩
        first | exact res_done HB3.out | exact below3 (res_done HB3.out) _ _ _
end Go.Proofs.YtbbffhpppacihaaDoor

namespace Go.Proofs.YtbbffhpppacihaaDoor
open Go.RowKit Go.Siskin

theorem lowD_set : ∀ (ds : List Nat) (i x : Nat) (h : i < ds.length), lowD (ds.set i x) + ds[i] * 10 ^ i = lowD ds + x * 10 ^ i
  | d :: r, 0, x, _ => by simp [lowD]; omega
  | d :: r, i + 1, x, h => by
    have h1 := lowD_set r i x (by simpa using h)
    rw [List.set_cons_succ, lowD, lowD, List.getElem_cons_succ, Nat.pow_succ, ← Nat.mul_assoc, ← Nat.mul_assoc]
    omega
theorem lowD_one : ∀ (ds : List Nat) (i : Nat) (h : i < ds.length), ds[i] * 10 ^ i ≤ lowD ds
  | d :: r, 0, _ => by simp [lowD]
  | d :: r, i + 1, h => by
    have h1 := lowD_one r i (by simpa using h)
    rw [lowD, List.getElem_cons_succ, Nat.pow_succ, ← Nat.mul_assoc]
    omega
theorem mod_step (v i : Nat) : v % 10 ^ (i + 1) = v % 10 ^ i + v / 10 ^ i % 10 * 10 ^ i := by
  rw [Nat.pow_succ, Nat.mod_mul, Nat.mul_comm (10 ^ i)]

/-- Behind k digits of b in row i of a. -/
def MulIn (a b i k L : Nat) (ds : List Nat) : Prop :=
  ds.length = L ∧ (∀ t, ds.getD t 0 ≤ 90) ∧ (∀ t, i + k ≤ t → ds.getD t 0 ≤ 9) ∧ lowD ds = a % 10 ^ i * b + a / 10 ^ i % 10 * 10 ^ i * (b % 10 ^ k)
theorem getD_setV (ds : List Nat) (i x t : Nat) : (ds.set i x).getD t 0 = if t = i ∧ i < ds.length then x else ds.getD t 0 := by
  rw [List.getD_eq_getElem?_getD, List.getD_eq_getElem?_getD, List.getElem?_set]
  by_cases h : i = t
  · subst h
    by_cases h2 : i < ds.length
    · simp [h2]
    · simp [h2]
  · rw [if_neg h, if_neg (fun e => h e.1.symm)]
theorem getD_atV {ds : List Nat} {t : Nat} (h : t < ds.length) : ds.getD t 0 = ds[t] := by rw [List.getD_eq_getElem?_getD, List.getElem?_eq_getElem h]; rfl
theorem mulIn_step {a b i k L x y : Nat} {ds : List Nat} (h : MulIn a b i k L ds) (hp : i + k < L) (hx : a / 10 ^ i % 10 = x) (hy : b / 10 ^ k % 10 = y) :
    MulIn a b i (k + 1) L (ds.set (i + k) (ds.getD (i + k) 0 + x * y)) := by
  obtain ⟨h1, h2, h3, h4⟩ := h
  have hxl : x ≤ 9 := by rw [← hx]; omega
  have hyl : y ≤ 9 := by rw [← hy]; omega
  have hxy : x * y ≤ 9 * 9 := Nat.mul_le_mul hxl hyl
  have h9 := h3 (i + k) (Nat.le_refl _)
  refine ⟨by rw [List.length_set]; exact h1, fun t => ?_, fun t ht => ?_, ?_⟩
  · rw [getD_setV]; split
    · omega
    · exact h2 t
  · rw [getD_setV, if_neg (by omega)]; exact h3 t (by omega)
  · have hs := lowD_set ds (i + k) (ds.getD (i + k) 0 + x * y) (by omega)
    rw [← getD_atV (by omega), Nat.add_mul, h4] at hs
    rw [mod_step b k, hx, hy, Nat.mul_add]
    rw [hx] at hs
    have e : x * 10 ^ i * (y * 10 ^ k) = x * y * 10 ^ (i + k) := by rw [Nat.pow_add, Nat.mul_mul_mul_comm]
    omega

/-- Behind j digits of the carrying. -/
def MulOut (V j L : Nat) (ds : List Nat) : Prop :=
  ds.length = L ∧ (∀ t, ds.getD t 0 ≤ 100) ∧ (∀ t, j < t → ds.getD t 0 ≤ 90) ∧ (∀ t, t < j → ds.getD t 0 ≤ 9) ∧ lowD ds = V
theorem mulOut_step {V j L : Nat} {ds : List Nat} (h : MulOut V j L ds) (hp : j + 1 < L) :
    MulOut V (j + 1) L ((ds.set (j + 1) (ds.getD (j + 1) 0 + ds.getD j 0 / 10)).set j (ds.getD j 0 % 10)) := by
  obtain ⟨h1, h2, h3, h4, h5⟩ := h
  have a1 := h2 j
  have a2 := h3 (j + 1) (Nat.lt_succ_self _)
  refine ⟨by rw [List.length_set, List.length_set]; exact h1, fun t => ?_, fun t ht => ?_, fun t ht => ?_, ?_⟩
  · rw [getD_setV, getD_setV]; split
    · omega
    · split
      · omega
      · exact h2 t
  · rw [getD_setV, getD_setV, if_neg (by omega), if_neg (by omega)]; exact h3 t (by omega)
  · rw [getD_setV, getD_setV]; split
    · omega
    · rename_i hne
      rw [List.length_set] at hne
      rw [if_neg (by omega)]
      exact h4 t (by omega)
  · have s1 := lowD_set ds (j + 1) (ds.getD (j + 1) 0 + ds.getD j 0 / 10) (by omega)
    have s2 := lowD_set (ds.set (j + 1) (ds.getD (j + 1) 0 + ds.getD j 0 / 10)) j (ds.getD j 0 % 10) (by rw [List.length_set]; omega)
    rw [← getD_atV (by omega)] at s1
    rw [← getD_atV (by rw [List.length_set]; omega), getD_setV, if_neg (by omega)] at s2
    rw [Nat.add_mul, Nat.pow_succ, ← Nat.mul_assoc, ← Nat.mul_assoc] at s1
    have e : ds.getD j 0 * 10 ^ j = (ds.getD j 0 / 10) * 10 ^ j * 10 + (ds.getD j 0 % 10) * 10 ^ j := by
      have := Nat.div_add_mod (ds.getD j 0) 10
      rw [Nat.mul_right_comm, ← Nat.add_mul]; congr 1; omega
    have e2 : ds.getD j 0 / 10 * (10 ^ j * 10) = ds.getD j 0 / 10 * 10 ^ j * 10 := by rw [Nat.mul_assoc]
    omega
theorem mulOut_end {V j L : Nat} {ds : List Nat} (h : MulOut V j L ds) (hj : j + 1 = L) (hV : V < 10 ^ L) : OkD ds := by
  obtain ⟨h1, h2, h3, h4, h5⟩ := h
  intro d hd
  obtain ⟨t, ht, rfl⟩ := List.getElem_of_mem hd
  rcases Nat.lt_or_ge t j with h | h
  · have := h4 t h; rw [getD_atV ht] at this; omega
  · have e : t = j := by omega
    subst e
    have h6 := lowD_one ds t ht
    rw [h5] at h6
    rw [← hj, Nat.pow_succ] at hV
    have h7 : ds[t] * 10 ^ t < 10 * 10 ^ t := by omega
    exact Nat.lt_of_mul_lt_mul_right h7
theorem mul_lt {a b i la lb : Nat} (hb : Lib.nDigits b = lb) (hi : i ≤ la) : a % 10 ^ i * b < 10 ^ (la + lb) := by
  have h1 : a % 10 ^ i < 10 ^ la := Nat.lt_of_lt_of_le (Nat.mod_lt _ (Nat.pow_pos (by decide))) (Nat.pow_le_pow_right (by decide) hi)
  have h2 : b < 10 ^ lb := by rw [← hb]; exact Lib.lt_pow_nDigits b
  rw [Nat.pow_add]
  exact Nat.lt_of_le_of_lt (Nat.mul_le_mul_left _ (Nat.le_of_lt h2)) (Nat.mul_lt_mul_of_pos_right h1 (Nat.pow_pos (by decide)))
theorem mulIn_start {a b i L : Nat} {ds : List Nat} (h1 : ds.length = L) (h2 : OkD ds) (h3 : lowD ds = a % 10 ^ i * b) : MulIn a b i 0 L ds := by
  have h9 : ∀ t, ds.getD t 0 ≤ 9 := fun t => by
    rcases Nat.lt_or_ge t ds.length with h | h
    · rw [getD_atV h]; have := h2 _ (List.getElem_mem h); omega
    · rw [List.getD_eq_getElem?_getD, List.getElem?_eq_none h]; simp
  exact ⟨h1, fun t => by have := h9 t; omega, fun t _ => h9 t, by rw [h3, Nat.pow_zero, Nat.mod_one, Nat.mul_zero, Nat.add_zero]⟩
theorem mulIn_out {a b i lb L : Nat} {ds : List Nat} (hb : Lib.nDigits b = lb) (h : MulIn a b i lb L ds) : MulOut (a % 10 ^ (i + 1) * b) 0 L ds := by
  obtain ⟨h1, h2, h3, h4⟩ := h
  refine ⟨h1, fun t => by have := h2 t; omega, fun t _ => h2 t, fun t ht => by omega, ?_⟩
  have e : b % 10 ^ lb = b := Nat.mod_eq_of_lt (by rw [← hb]; exact Lib.lt_pow_nDigits b)
  rw [h4, e, mod_step, Nat.add_mul]

/-- Ints that lie in a block of their own. -/
def GrI (w : World) (b : Nat) (ls : List Nat) : Prop := Own w b 3 (numL .i64 ls).toArray
theorem GrI.get {w : World} {b : Nat} {ls : List Nat} (h : GrI w b ls) (i : Nat) (hi : i < ls.length) : w.cell? ⟨b, i, none⟩ = some (.int .i64 ((ls.getD i 0 : Nat) : Int)) := by
  rw [Own.cell h i, List.getElem?_toArray, getD_atV hi]
  exact numL_get .i64 ls i hi
theorem GrI.set {w : World} {b : Nat} {ls : List Nat} (h : GrI w b ls) (i x : Nat) : GrI (w.setCell ⟨b, i, none⟩ (.int .i64 (x : Int))) b (ls.set i x) := by
  have := Own.set h i (.int .i64 (x : Int))
  unfold GrI
  rw [numL_set]
  simpa using this
theorem GrI.frozen {w : World} {b : Nat} {ls : List Nat} (h : GrI w b ls) (i : Nat) : w.frozen? ⟨b, i, none⟩ = false := Own.frozen h i
theorem GrI.ints {w : World} {b cap : Nat} {ls : List Nat} (h : GrI w b ls) (h1 : ls.length ≤ cap) (h2 : cap ≤ maxLen) : IntsAt (fun b => b < w.heap.size) w (.slice (some ⟨b, 0, none⟩) ls.length cap) (ls.map fun d : Nat => (d : Int)) := by
  refine ⟨some ⟨b, 0, none⟩, cap, by rw [List.length_map], ⟨by rw [List.length_map]; omega, by rw [List.length_map]; omega⟩, ?_⟩
  refine Or.inr ⟨b, 0, rfl, Own.lt h, fun i hi => ?_⟩
  rw [List.length_map] at hi
  rw [Nat.zero_add, h.get i hi, getD_atV hi]
  simp [List.getD_eq_getElem?_getD, hi]
theorem GrI.made (w : World) (n : Nat) : GrI (w.alloc (.cells (madeCells #[Value.int .i64 0] n) 3)) w.heap.size (List.replicate n 0) := by
  have h := own_new w (madeCells #[Value.int .i64 0] n) 3
  unfold GrI
  have e : (numL .i64 (List.replicate n 0)).toArray = madeCells #[Value.int .i64 0] n := by
    apply Array.ext
    · simp [numL, size_madeCells]
    · intro i h1 h2
      simp [numL, madeCells, Nat.mod_one]
  rw [e]; exact h
theorem lowD_zeros : ∀ n, lowD (List.replicate n 0) = 0
  | 0 => rfl
  | n + 1 => by rw [List.replicate_succ, lowD, lowD_zeros n]
end Go.Proofs.YtbbffhpppacihaaDoor

namespace Go.Proofs.YtbbffhpppacihaaDoor
open Go.RowKit Go.Siskin

set_option maxRecDepth 20000 in
set_option maxHeartbeats 800000 in
theorem l11Mul_of (a b la lb : Nat) (w : World) (HLa : Hid (Lib.nDigits a = la)) (HLb : Hid (Lib.nDigits b = lb)) (ha : la ≤ 10000) (hb : lb ≤ 10000) :
    Calls Tryd.prog 68 #[.string (dec a), .string (dec b)] w fun e w' => e = .returned (.string (dec (a * b))) ∧ Below w.heap.size w w' := by
  have Hna := hid (fun (k : Nat) (w : World) (hk : k ≤ 1000000) => atD a k w (by rw [HLa.out]; omega) hk)
  have Hnb := hid (fun (k : Nat) (w : World) (hk : k ≤ 1000000) => atD b k w (by rw [HLb.out]; omega) hk)
  have hla : ((dec a).size : Int) = (la : Int) := by rw [dec_size, HLa.out]
  have hlb : ((dec b).size : Int) = (lb : Int) := by rw [dec_size, HLb.out]
  have ha1 : 1 ≤ la := by rw [← HLa.out]; exact Lib.nDigits_pos _
  have hb1 : 1 ≤ lb := by rw [← HLb.out]; exact Lib.nDigits_pos _
  obtain ⟨i0, hi, hz0, hz1, hz2⟩ := info_partsZ Tryd.infoIntZ
  have Hi := hid hi
  have Hz0 := hid hz0
  have Hz1 := hid hz1
  have Hz2 := hid hz2
  clear hi hz0 hz1 hz2
  obtain ⟨L, HL⟩ : ∃ L : Nat, Hid (la + lb = L) := ⟨_, rfl⟩
  have hLi : (la : Int) + (lb : Int) = (L : Int) := by have := HL.out; omega
  have hL2 : L ≤ 20000 := by have := HL.out; omega
  have hL1 : 2 ≤ L := by have := HL.out; omega
  go_enter Tryd.func68, Tryd.ntmps68
  go_wp2_with (at_make; go_loud (refine wpList_make_new _ rfl _ _ 112 rfl 3 i0 (.int .i64 0) 1 Tryd.underlying112 Hi.out Hz0.out Hz1.out .i64 .i64 L rfl rfl (by rw [Hz2.out]; omega) (by unfold maxLen; omega) ?_))
  go_loopw [6] (fun i wr => ∃ (p : Nat) (ds : List Nat), i = .int .i64 p ∧ p ≤ la ∧ Hid (ds.length = L) ∧ Hid (OkD ds) ∧ Hid (lowD ds = a % 10 ^ p * b) ∧ Hid (GrI wr w.heap.size ds) ∧ Hid (Below w.heap.size w wr)) (fun i _ => la - (intOf i).toNat)
  case atStart =>
    refine ⟨0, List.replicate L 0, rfl, Nat.zero_le _, List.length_replicate, fun d hd => ?_, ?_, GrI.made w L, (Below.refl _ _).alloc (Nat.le_refl _) _⟩
    · rw [List.eq_of_mem_replicate hd]; decide
    · show _ = _
      rw [lowD_zeros, Nat.pow_zero, Nat.mod_one, Nat.zero_mul]
  case round =>
    obtain ⟨p, ds, rfl, hp, HDl, HOk, HLow, HG, HB⟩ := hrel
    by_cases hlt : p < la
    · go_wp2_with fail
      rename World => w1
      have HIn0 : Hid (MulIn a b p 0 L ds) := mulIn_start HDl.out HOk.out HLow.out
      go_loopw [7] (fun k wr => ∃ (q : Nat) (es : List Nat), k = .int .i64 q ∧ q ≤ lb ∧ Hid (MulIn a b p q L es) ∧ Hid (GrI wr w.heap.size es) ∧ Hid (Below w.heap.size w wr)) (fun k _ => lb - (intOf k).toNat)
      case atStart => exact ⟨0, ds, rfl, Nat.zero_le _, HIn0.out, HG.out, HB.out⟩
      case round =>
        obtain ⟨q, es, rfl, hq, HIn, HG2, HB2⟩ := hrel
        by_cases hlt2 : q < lb
        · obtain ⟨x, HX⟩ : ∃ x, Hid (a / 10 ^ p % 10 = x) := ⟨_, rfl⟩
          obtain ⟨y, HY⟩ : ∃ y, Hid (b / 10 ^ q % 10 = y) := ⟨_, rfl⟩
          have HCA := hid (fun w => Hna.out p w (by omega))
          have HCB := hid (fun w => Hnb.out q w (by omega))
          rw [HX.out] at HCA
          rw [HY.out] at HCB
          obtain ⟨r, HR⟩ : ∃ r : Nat, Hid (p + q = r) := ⟨_, rfl⟩
          have hri : (p : Int) + (q : Int) = (r : Int) := by have := HR.out; omega
          have hrl : r < L := by have := HR.out; have := HL.out; omega
          have HStep := hid (mulIn_step HIn.out (by rw [HR.out]; exact hrl) HX.out HY.out)
          rw [HR.out] at HStep
          have hrs : r < es.length := by rw [HIn.out.1]; exact hrl
          have g0 := HG2.out.get r hrs
          have f0 := HG2.out.frozen r
          obtain ⟨z, HZ⟩ : ∃ z : Nat, Hid (es.getD r 0 = z) := ⟨_, rfl⟩
          have hz90 : z ≤ 90 := by rw [← HZ.out]; exact HIn.out.2.1 r
          rw [HZ.out] at g0 HStep
          obtain ⟨m, HM⟩ : ∃ m : Nat, Hid (x * y = m) := ⟨_, rfl⟩
          have hmi : (x : Int) * (y : Int) = (m : Int) := by rw [← HM.out]; simp
          have hm81 : m ≤ 81 := by
            rw [← HM.out]
            exact Nat.mul_le_mul (by rw [← HX.out]; omega : x ≤ 9) (by rw [← HY.out]; omega : y ≤ 9)
          rw [HM.out] at HStep
          have hw1 : IntKind.i64.wrap ((p : Int) + (q : Int)) = (r : Int) := by rw [hri]; simp [IntKind.wrap, IntKind.bits, IntKind.signed]; omega
          have hw2 : IntKind.i64.wrap ((x : Int) * (y : Int)) = (m : Int) := by rw [hmi]; simp [IntKind.wrap, IntKind.bits, IntKind.signed]; omega
          have hw3 : IntKind.i64.wrap ((z : Int) + (m : Int)) = ((z + m : Nat) : Int) := by simp [IntKind.wrap, IntKind.bits, IntKind.signed]; omega
          have hr0 : (0 : Int) ≤ (r : Int) := by omega
          have hrL : (r : Int) < (L : Int) := by omega
          clear hri hmi
          have hwr : IntKind.i64.wrap (r : Int) = (r : Int) := by simp [IntKind.wrap, IntKind.bits, IntKind.signed]; omega
          rename World => w2
          go_wp2_with fail
          go_region_with (first
              | (go_at_call_of 86 (Value.string (dec a))
                 go_loud (
                  refine (HCA.out _).mono ?_
                  rintro e w' ⟨rfl, hw⟩
                  obtain rfl := hw.symm))
              | (go_at_call_of 86 (Value.string (dec b))
                 go_loud (
                  refine (HCB.out _).mono ?_
                  rintro e w' ⟨rfl, hw⟩
                  obtain rfl := hw.symm)))
          all_goals
            go_wp2_with fail
            refine ⟨⟨q + 1, es.set r (z + m), by go_num, by omega, HStep.out, ?_, (HB2.out.setCell (p := ⟨w.heap.size, r, none⟩) (Nat.le_refl _) _).drew⟩, by simp [intOf]; omega⟩
            show GrI (w2.setCell _ _) _ _
            have h := HG2.out.set r (z + m)
            rw [Int.natCast_add] at h
            exact h
        · obtain rfl : q = lb := by omega
          have HOut0 := hid (mulIn_out HLb.out HIn.out)
          obtain ⟨V, HV⟩ : ∃ V : Nat, Hid (a % 10 ^ (p + 1) * b = V) := ⟨_, rfl⟩
          have HVl : Hid (V < 10 ^ L) := by show _ < _; rw [← HV.out, ← HL.out]; exact mul_lt HLb.out (by omega)
          rw [HV.out] at HOut0
          rename World => w2
          go_wp2_with fail
          go_loopw [8] (fun j wr => ∃ (t : Nat) (fs : List Nat), j = .int .i64 t ∧ t + 1 ≤ L ∧ Hid (MulOut V t L fs) ∧ Hid (GrI wr w.heap.size fs) ∧ Hid (Below w.heap.size w wr)) (fun j _ => L - (intOf j).toNat)
          case atStart => exact ⟨0, es, rfl, by omega, HOut0.out, HG2.out, HB2.out⟩
          case round =>
            obtain ⟨t, fs, rfl, ht, HO, HG3, HB3⟩ := hrel
            by_cases hlt3 : t + 1 < L
            · have HStep := hid (mulOut_step HO.out hlt3)
              have l0 : t < fs.length := by rw [HO.out.1]; omega
              have l1 : t + 1 < fs.length := by rw [HO.out.1]; exact hlt3
              have g0 := HG3.out.get t l0
              have g1 := HG3.out.get (t + 1) l1
              have f0 := HG3.out.frozen t
              have f1 := HG3.out.frozen (t + 1)
              obtain ⟨x, HX⟩ : ∃ x : Nat, Hid (fs.getD t 0 = x) := ⟨_, rfl⟩
              obtain ⟨y, HY⟩ : ∃ y : Nat, Hid (fs.getD (t + 1) 0 = y) := ⟨_, rfl⟩
              have hx : x ≤ 100 := by rw [← HX.out]; exact HO.out.2.1 t
              have hy : y ≤ 100 := by rw [← HY.out]; exact HO.out.2.1 (t + 1)
              rw [HX.out] at g0 HStep
              rw [HY.out] at g1 HStep
              obtain ⟨c, HC⟩ : ∃ c : Nat, Hid (x / 10 = c) := ⟨_, rfl⟩
              obtain ⟨d, HD⟩ : ∃ d : Nat, Hid (x % 10 = d) := ⟨_, rfl⟩
              rw [HC.out, HD.out] at HStep
              have hc1 : (x : Int).tdiv 10 = (c : Int) := by rw [Int.tdiv_eq_ediv_of_nonneg (by omega), ← HC.out]; omega
              have hc2 : (x : Int) / 10 = (c : Int) := by rw [← HC.out]; omega
              have hd1 : (x : Int).tmod 10 = (d : Int) := by rw [Int.tmod_eq_emod_of_nonneg (by omega), ← HD.out]; omega
              have hd2 : (x : Int) % 10 = (d : Int) := by rw [← HD.out]; omega
              have hcl : c ≤ 10 := by rw [← HC.out]; omega
              have hw1 : IntKind.i64.wrap (c : Int) = (c : Int) := by simp [IntKind.wrap, IntKind.bits, IntKind.signed]; omega
              have hw2 : IntKind.i64.wrap ((y : Int) + (c : Int)) = (y : Int) + (c : Int) := by simp [IntKind.wrap, IntKind.bits, IntKind.signed]; omega
              have hw3 : IntKind.i64.wrap ((t : Int) + 1) = (t : Int) + 1 := by simp [IntKind.wrap, IntKind.bits, IntKind.signed]; omega
              have ht0 : (0 : Int) ≤ (t : Int) := by omega
              have ht1 : (t : Int) + 1 < (L : Int) := by omega
              have ht2 : (0 : Int) ≤ (t : Int) + 1 := by omega
              have ht3 : (t : Int) < (L : Int) := by omega
              rename World => w3
              go_wp2_with fail
              go_region
              all_goals
                go_wp2_with fail
                refine ⟨⟨t + 1, (fs.set (t + 1) (y + c)).set t d, by go_num, by omega, HStep.out, ?_, ((HB3.out.setCell (p := ⟨w.heap.size, t + 1, none⟩) (Nat.le_refl _) _).setCell (p := ⟨w.heap.size, t, none⟩) (Nat.le_refl _) _).drew⟩, by simp [intOf]; omega⟩
                show GrI ((w3.setCell _ _).setCell _ _) _ _
                have h := (HG3.out.set (t + 1) (y + c)).set t d
                rw [Int.natCast_add] at h
                exact h
            · obtain rfl : t + 1 = L := by omega
              have HOk2 := hid (mulOut_end HO.out rfl HVl.out)
              have HLw := hid (HO.out.2.2.2.2.trans HV.out.symm)
              go_wp2_with fail
              exact ⟨⟨p + 1, fs, by go_num, by omega, HO.out.1, HOk2.out, HLw.out, HG3.out, HB3.out⟩, by simp [intOf]; omega⟩
    · obtain rfl : p = la := by omega
      have HT := hid (l11Text_any ds (fun b => b < wr.heap.size) (.slice (some ⟨w.heap.size, 0, none⟩) L L) wr (by have h := HG.out.ints (cap := L) (by rw [HDl.out]; exact Nat.le_refl _) (by unfold maxLen; omega); rw [HDl.out] at h; exact h) (fun b h => h) (by rw [HDl.out]; omega) HOk.out)
      have HV : Hid (lowD ds = a * b) := by show _ = _; rw [HLow.out, Nat.mod_eq_of_lt (by rw [← HLa.out]; exact Lib.lt_pow_nDigits a)]
      have hsz := HB.out.size
      rw [HV.out] at HT
      go_wp2_with fail
      refine HT.out.mono ?_
      rintro e w2 ⟨rfl, hw⟩
      have HW := hid hw
      clear hw
      go_wp2_with fail
      go_ret
      exact ⟨rfl, HB.out.trans (HW.out.mono (by omega))⟩
theorem l11Mul_any (a b : Nat) (w : World) (ha : Lib.nDigits a ≤ 10000) (hb : Lib.nDigits b ≤ 10000) :
    Calls Tryd.prog 68 #[.string (dec a), .string (dec b)] w fun e w' => e = .returned (.string (dec (a * b))) ∧ Below w.heap.size w w' :=
  l11Mul_of a b _ _ w rfl rfl ha hb
end Go.Proofs.YtbbffhpppacihaaDoor

namespace Go.Proofs.YtbbffhpppacihaaDoor
open Go.RowKit Go.Siskin

set_option maxRecDepth 20000 in
set_option maxHeartbeats 1000000 in
theorem l13Answer_any (neg : Bool) (u d : Nat) (w : World) (hu : Lib.nDigits u ≤ 1000) (hd : Lib.nDigits d ≤ 1000) (hd0 : d ≠ 0) :
    Calls Tryd.prog 67 #[.bool neg, .string (dec u), .string (dec d)] w fun e w' => e = .returned (ansQ neg u d) ∧ Below w.heap.size w w' := by
  have HMk := hid (fun w => l12Make_any neg u d w hu hd)
  have hm : makeV neg u d = closedV neg (u / Nat.gcd u d) (d / Nat.gcd u d) := if_neg hd0
  rw [hm] at HMk
  have HB0 : Hid (Below (w.heap.size + 1) (w.alloc box0) (w.alloc box0)) := Below.refl _ _
  rcases ansQ_parts neg u d with ⟨ma, mx, my, h1, h2⟩ | ⟨h1, h2⟩
  all_goals
    rw [h1] at HMk
    rw [h2]
    clear h1 h2 hm hu hd hd0
    generalize dec u = T at *
    generalize dec d = R at *
    go_enter Tryd.func67, Tryd.ntmps67
    go_wp2_with fail
    refine (HMk.out _).mono ?_
    rintro e w1 ⟨rfl, hw1⟩
    have HB1 := hid (res_step HB0.out hw1)
    have hs1 : w.heap.size + 1 ≤ w1.heap.size := by have := hw1.size; simpa using this
    have hlt : w.heap.size < w1.heap.size := by omega
    clear hw1
    obtain ⟨r0, r1, r2⟩ := res3 HB1.out
    obtain ⟨f0, f1, f2⟩ := res3f HB1.out
    go_wp2_with fail
    first
      | (refine bodyPost_ret (v := .tuple #[.agg #[.bool ma, .string mx, .string my], .int .i64 0]) (by simp [results, Tryd.results67, go_sem, r0, r1, r2, hlt]) rfl ⟨rfl, ?_⟩
         exact (below_set3 (res_done HB1.out) (Nat.le_refl _) _ _ _).alloc (by rw [size_set3]; omega) _)
      | (refine bodyPost_ret (v := noAns 3) (by simp [results, Tryd.results67, go_sem, r0, r1, r2, hlt]) rfl ⟨rfl, ?_⟩
         exact (below_set3 (res_done HB1.out) (Nat.le_refl _) _ _ _).alloc (by rw [size_set3]; omega) _)
theorem nDigits_mul {a b m k : Nat} (ha : Lib.nDigits a ≤ m) (hb : Lib.nDigits b ≤ k) (hm : 0 < m) : Lib.nDigits (a * b) ≤ m + k := by
  refine nDigits_le ?_ (by omega)
  rw [Nat.pow_add]
  exact Nat.mul_lt_mul'' (Nat.lt_of_lt_of_le (Lib.lt_pow_nDigits a) (Nat.pow_le_pow_right (by decide) ha)) (Nat.lt_of_lt_of_le (Lib.lt_pow_nDigits b) (Nat.pow_le_pow_right (by decide) hb))

set_option maxRecDepth 20000 in
set_option maxHeartbeats 1000000 in
theorem specNumMul_no (n1 n2 : Bool) (T1 R1 T2 R2 : ByteArray) (w : World) (h1 : T1.size ≤ maxLen) (h2 : R1.size ≤ maxLen) (h3 : T2.size ≤ maxLen) (h4 : R2.size ≤ maxLen) (hno : ¬ (NumP n1 T1 R1 ∧ NumP n2 T2 R2)) :
    Calls Tryd.prog 39 #[.agg #[.bool n1, .string T1, .string R1], .agg #[.bool n2, .string T2, .string R2]] w fun e w' => e = .returned (noAns 1) ∧ Below w.heap.size w w' := by
  have HB0 : Hid (Below (w.heap.size + 3) (((w.alloc (boxN n1 T1 R1)).alloc (boxN n2 T2 R2)).alloc box0) (((w.alloc (boxN n1 T1 R1)).alloc (boxN n2 T2 R2)).alloc box0)) := Below.refl _ _
  have HX : Hid (∀ W, Below (w.heap.size + 3) (((w.alloc (boxN n1 T1 R1)).alloc (boxN n2 T2 R2)).alloc box0) W → Own W (w.heap.size + 1) 25 #[.bool n2, .string T2, .string R2] ∧ Own W (w.heap.size + 1 + 1) 25 #[.bool false, .string ⟨#[]⟩, .string ⟨#[]⟩] ∧ Below w.heap.size w W) := fun W h => (boxes3 w _ _ _ _ _ _ h).2
  by_cases hp : NumP n1 T1 R1
  · have HO1 := hid (fun w => specNumOk_any n1 T1 R1 w h1 h2 true ⟨fun _ => hp, fun _ => rfl⟩)
    have HO2 := hid (fun w => specNumOk_any n2 T2 R2 w h3 h4 false ⟨fun h => (by cases h), fun h => absurd ⟨hp, h⟩ hno⟩)
    clear h1 h2 h3 h4 hno hp
    go_enter Tryd.func39, Tryd.ntmps39
    go_wp2_with fail
    refine (HO1.out _).mono ?_
    rintro e wa ⟨rfl, hwa⟩
    have HBa := hid (HB0.out.trans (hwa.mono (by simp)))
    clear hwa
    obtain ⟨⟨y0, y1, y2⟩, -⟩ := own3V (HX.out _ HBa.out).1
    go_wp2_with fail
    refine (HO2.out _).mono ?_
    rintro e wb ⟨rfl, hwb⟩
    have HBb := hid (HBa.out.trans (hwb.mono (by have := HBa.out.size; simp at this; omega)))
    clear hwb y0 y1 y2
    obtain ⟨⟨r0, r1, r2⟩, q0, q1, q2⟩ := own3V (HX.out _ HBb.out).2.1
    go_wp2_with fail
    refine bodyPost_ret (v := noAns 1) (by simp [results, Tryd.results39, go_sem, r0, r1, r2]) rfl ⟨rfl, ?_⟩
    exact below_set3 (HX.out _ HBb.out).2.2 (by omega) _ _ _
  · have HO1 := hid (fun w => specNumOk_any n1 T1 R1 w h1 h2 false ⟨fun h => (by cases h), fun h => absurd h hp⟩)
    clear h1 h2 h3 h4 hno hp
    go_enter Tryd.func39, Tryd.ntmps39
    go_wp2_with fail
    refine (HO1.out _).mono ?_
    rintro e wb ⟨rfl, hwb⟩
    have HBb := hid (HB0.out.trans (hwb.mono (by simp)))
    clear hwb
    obtain ⟨⟨r0, r1, r2⟩, q0, q1, q2⟩ := own3V (HX.out _ HBb.out).2.1
    go_wp2_with fail
    refine bodyPost_ret (v := noAns 1) (by simp [results, Tryd.results39, go_sem, r0, r1, r2]) rfl ⟨rfl, ?_⟩
    exact below_set3 (HX.out _ HBb.out).2.2 (by omega) _ _ _

set_option maxRecDepth 20000 in
set_option maxHeartbeats 4000000 in
theorem specNumMul_yes (n1 n2 : Bool) (u1 d1 u2 d2 : Nat) (w : World) (h1 : (dec u1).size ≤ 60) (h2 : (dec d1).size ≤ 60) (h3 : (dec u2).size ≤ 60) (h4 : (dec d2).size ≤ 60) (ok1 : OkUD n1 u1 d1) (ok2 : OkUD n2 u2 d2) :
    Calls Tryd.prog 39 #[.agg #[.bool n1, .string (dec u1), .string (dec d1)], .agg #[.bool n2, .string (dec u2), .string (dec d2)]] w fun e w' => e = .returned (ansQ (n1 != n2) (u1 * u2) (d1 * d2)) ∧ Below w.heap.size w w' := by
  have HO1 := hid (fun w => specNumOk_any n1 (dec u1) (dec d1) w (Nat.le_trans h1 (by decide)) (Nat.le_trans h2 (by decide)) true ⟨fun _ => ⟨u1, d1, rfl, rfl, h1, h2, ok1⟩, fun _ => rfl⟩)
  have HO2 := hid (fun w => specNumOk_any n2 (dec u2) (dec d2) w (Nat.le_trans h3 (by decide)) (Nat.le_trans h4 (by decide)) true ⟨fun _ => ⟨u2, d2, rfl, rfl, h3, h4, ok2⟩, fun _ => rfl⟩)
  rw [dec_size] at h1 h2 h3 h4
  have HM1 := hid (fun w => l11Mul_any u1 u2 w (by omega) (by omega))
  have HM2 := hid (fun w => l11Mul_any d1 d2 w (by omega) (by omega))
  have HA := hid (fun w => l13Answer_any (n1 != n2) (u1 * u2) (d1 * d2) w (Nat.le_trans (nDigits_mul (m := 60) (k := 60) (by omega) (by omega) (by decide)) (by decide)) (Nat.le_trans (nDigits_mul (m := 60) (k := 60) (by omega) (by omega) (by decide)) (by decide)) (Nat.mul_ne_zero ok1.1 ok2.1))
  obtain ⟨ma, mx, my, mc, hmf⟩ := ansQ_form (n1 != n2) (u1 * u2) (d1 * d2)
  rw [hmf] at HA ⊢
  clear hmf h1 h2 h3 h4 ok1 ok2
  obtain ⟨s, hs⟩ : ∃ s, (n1 != n2) = s := ⟨_, rfl⟩
  have hs2 : (!n1 == n2) = s := hs
  rw [hs] at HA
  clear hs
  generalize dec (u1 * u2) = PX at *
  generalize dec (d1 * d2) = PY at *
  generalize dec u1 = T1 at *
  generalize dec d1 = R1 at *
  generalize dec u2 = T2 at *
  generalize dec d2 = R2 at *
  have HB0 : Hid (Below (w.heap.size + 3) (((w.alloc (boxN n1 T1 R1)).alloc (boxN n2 T2 R2)).alloc box0) (((w.alloc (boxN n1 T1 R1)).alloc (boxN n2 T2 R2)).alloc box0)) := Below.refl _ _
  have HX : Hid (∀ W, Below (w.heap.size + 3) (((w.alloc (boxN n1 T1 R1)).alloc (boxN n2 T2 R2)).alloc box0) W → Own W w.heap.size 25 #[.bool n1, .string T1, .string R1] ∧ Own W (w.heap.size + 1) 25 #[.bool n2, .string T2, .string R2] ∧ Own W (w.heap.size + 1 + 1) 25 #[.bool false, .string ⟨#[]⟩, .string ⟨#[]⟩] ∧ Below w.heap.size w W) := fun W h => boxes3 w _ _ _ _ _ _ h
  have HSz : Hid (w.heap.size + 3 ≤ (((w.alloc (boxN n1 T1 R1)).alloc (boxN n2 T2 R2)).alloc box0).heap.size) := by show _ ≤ _; simp
  have HSt : Hid (∀ W, Below (w.heap.size + 3) (((w.alloc (boxN n1 T1 R1)).alloc (boxN n2 T2 R2)).alloc box0) W → ∀ x y z : Value, ((((W.setCell ⟨w.heap.size + 1 + 1, 0, none⟩ x).setCell ⟨w.heap.size + 1 + 1, 1, none⟩ y).setCell ⟨w.heap.size + 1 + 1, 2, none⟩ z).cell? ⟨w.heap.size, 0, none⟩ = some (.bool n1) ∧ (((W.setCell ⟨w.heap.size + 1 + 1, 0, none⟩ x).setCell ⟨w.heap.size + 1 + 1, 1, none⟩ y).setCell ⟨w.heap.size + 1 + 1, 2, none⟩ z).cell? ⟨w.heap.size, 1, none⟩ = some (.string T1) ∧ (((W.setCell ⟨w.heap.size + 1 + 1, 0, none⟩ x).setCell ⟨w.heap.size + 1 + 1, 1, none⟩ y).setCell ⟨w.heap.size + 1 + 1, 2, none⟩ z).cell? ⟨w.heap.size, 2, none⟩ = some (.string R1)) ∧ (((W.setCell ⟨w.heap.size + 1 + 1, 0, none⟩ x).setCell ⟨w.heap.size + 1 + 1, 1, none⟩ y).setCell ⟨w.heap.size + 1 + 1, 2, none⟩ z).cell? ⟨w.heap.size + 1, 0, none⟩ = some (.bool n2) ∧ (((W.setCell ⟨w.heap.size + 1 + 1, 0, none⟩ x).setCell ⟨w.heap.size + 1 + 1, 1, none⟩ y).setCell ⟨w.heap.size + 1 + 1, 2, none⟩ z).cell? ⟨w.heap.size + 1, 1, none⟩ = some (.string T2) ∧ (((W.setCell ⟨w.heap.size + 1 + 1, 0, none⟩ x).setCell ⟨w.heap.size + 1 + 1, 1, none⟩ y).setCell ⟨w.heap.size + 1 + 1, 2, none⟩ z).cell? ⟨w.heap.size + 1, 2, none⟩ = some (.string R2)) := fun W h x y z => by
    have h0 := HX.out W h
    exact ⟨(own3V (own_set3 h0.1 (by omega) x y z)).1, (own3V (own_set3 h0.2.1 (by omega) x y z)).1⟩
  go_enter Tryd.func39, Tryd.ntmps39
  go_wp2_with fail
  refine (HO1.out _).mono ?_
  rintro e wa ⟨rfl, hwa⟩
  have HBa := hid (HB0.out.trans (hwa.mono (by simp)))
  clear hwa
  obtain ⟨⟨y0, y1, y2⟩, -⟩ := own3V (HX.out _ HBa.out).2.1
  go_wp2_with fail
  refine (HO2.out _).mono ?_
  rintro e wb ⟨rfl, hwb⟩
  have HBb := hid (HBa.out.trans (hwb.mono (Nat.le_trans HSz.out HBa.out.size)))
  clear hwb y0 y1 y2
  go_wp2_with fail
  have HB := hid HBb.out.drew
  obtain ⟨⟨r0, r1, r2⟩, q0, q1, q2⟩ := own3V (HX.out _ HB.out).2.2.1
  go_region_held3 (fun W => (W.cell? ⟨w.heap.size, 0, none⟩ = some (.bool n1) ∧ W.cell? ⟨w.heap.size, 1, none⟩ = some (.string T1) ∧ W.cell? ⟨w.heap.size, 2, none⟩ = some (.string R1)) ∧ W.cell? ⟨w.heap.size + 1, 0, none⟩ = some (.bool n2) ∧ W.cell? ⟨w.heap.size + 1, 1, none⟩ = some (.string T2) ∧ W.cell? ⟨w.heap.size + 1, 2, none⟩ = some (.string R2))
    (first
      | exact ⟨(own3V (HX.out _ HB.out).1).1, (own3V (HX.out _ HB.out).2.1).1⟩
      | exact HSt.out _ HB.out _ _ _)
    (first
      | (go_at_call_of 68 (Value.string T1)
         go_loud (
           refine (HM1.out _).mono ?_
           rintro e w5 ⟨rfl, hw5⟩
           have HB := hid (HB.out.trans (hw5.mono (Nat.le_trans HSz.out HB.out.size)))
           clear hw5 r0 r1 r2 q0 q1 q2
           obtain ⟨⟨r0, r1, r2⟩, q0, q1, q2⟩ := own3V (HX.out _ HB.out).2.2.1))
      | (go_at_call_of 68 (Value.string R1)
         go_loud (
           refine (HM2.out _).mono ?_
           rintro e w6 ⟨rfl, hw5⟩
           have HB := hid (HB.out.trans (hw5.mono (Nat.le_trans HSz.out HB.out.size)))
           clear hw5 r0 r1 r2 q0 q1 q2
           obtain ⟨⟨r0, r1, r2⟩, q0, q1, q2⟩ := own3V (HX.out _ HB.out).2.2.1))
      | (go_at_call 67
         go_loud (
           refine (HA.out _).mono ?_
           rintro e w7 ⟨rfl, hw5⟩
           have HB := hid (HB.out.trans (hw5.mono (Nat.le_trans HSz.out HB.out.size)))
           clear hw5 r0 r1 r2 q0 q1 q2
           obtain ⟨⟨r0, r1, r2⟩, q0, q1, q2⟩ := own3V (HX.out _ HB.out).2.2.1)))
  all_goals
    go_wp2_with fail
    refine bodyPost_ret (v := .tuple #[.agg #[.bool ma, .string mx, .string my], .int .i64 mc]) (by simp [results, Tryd.results39, go_sem, r0, r1, r2]) rfl ⟨rfl, ?_⟩
    exact below_set3 (HX.out _ HB.out).2.2.2 (by omega) _ _ _

set_option maxRecDepth 20000 in
set_option maxHeartbeats 1000000 in
theorem specNumAdd_no (n1 n2 : Bool) (T1 R1 T2 R2 : ByteArray) (w : World) (h1 : T1.size ≤ maxLen) (h2 : R1.size ≤ maxLen) (h3 : T2.size ≤ maxLen) (h4 : R2.size ≤ maxLen) (hno : ¬ (NumP n1 T1 R1 ∧ NumP n2 T2 R2)) :
    Calls Tryd.prog 18 #[.agg #[.bool n1, .string T1, .string R1], .agg #[.bool n2, .string T2, .string R2]] w fun e w' => e = .returned (noAns 1) ∧ Below w.heap.size w w' := by
  have HB0 : Hid (Below (w.heap.size + 3) (((w.alloc (boxN n1 T1 R1)).alloc (boxN n2 T2 R2)).alloc box0) (((w.alloc (boxN n1 T1 R1)).alloc (boxN n2 T2 R2)).alloc box0)) := Below.refl _ _
  have HX : Hid (∀ W, Below (w.heap.size + 3) (((w.alloc (boxN n1 T1 R1)).alloc (boxN n2 T2 R2)).alloc box0) W → Own W (w.heap.size + 1) 25 #[.bool n2, .string T2, .string R2] ∧ Own W (w.heap.size + 1 + 1) 25 #[.bool false, .string ⟨#[]⟩, .string ⟨#[]⟩] ∧ Below w.heap.size w W) := fun W h => (boxes3 w _ _ _ _ _ _ h).2
  by_cases hp : NumP n1 T1 R1
  · have HO1 := hid (fun w => specNumOk_any n1 T1 R1 w h1 h2 true ⟨fun _ => hp, fun _ => rfl⟩)
    have HO2 := hid (fun w => specNumOk_any n2 T2 R2 w h3 h4 false ⟨fun h => (by cases h), fun h => absurd ⟨hp, h⟩ hno⟩)
    clear h1 h2 h3 h4 hno hp
    go_enter Tryd.func18, Tryd.ntmps18
    go_wp2_with fail
    refine (HO1.out _).mono ?_
    rintro e wa ⟨rfl, hwa⟩
    have HBa := hid (HB0.out.trans (hwa.mono (by simp)))
    clear hwa
    obtain ⟨⟨y0, y1, y2⟩, -⟩ := own3V (HX.out _ HBa.out).1
    go_wp2_with fail
    refine (HO2.out _).mono ?_
    rintro e wb ⟨rfl, hwb⟩
    have HBb := hid (HBa.out.trans (hwb.mono (by have := HBa.out.size; simp at this; omega)))
    clear hwb y0 y1 y2
    obtain ⟨⟨r0, r1, r2⟩, q0, q1, q2⟩ := own3V (HX.out _ HBb.out).2.1
    go_wp2_with fail
    refine bodyPost_ret (v := noAns 1) (by simp [results, Tryd.results18, go_sem, r0, r1, r2]) rfl ⟨rfl, ?_⟩
    exact below_set3 (HX.out _ HBb.out).2.2 (by omega) _ _ _
  · have HO1 := hid (fun w => specNumOk_any n1 T1 R1 w h1 h2 false ⟨fun h => (by cases h), fun h => absurd h hp⟩)
    clear h1 h2 h3 h4 hno hp
    go_enter Tryd.func18, Tryd.ntmps18
    go_wp2_with fail
    refine (HO1.out _).mono ?_
    rintro e wb ⟨rfl, hwb⟩
    have HBb := hid (HB0.out.trans (hwb.mono (by simp)))
    clear hwb
    obtain ⟨⟨r0, r1, r2⟩, q0, q1, q2⟩ := own3V (HX.out _ HBb.out).2.1
    go_wp2_with fail
    refine bodyPost_ret (v := noAns 1) (by simp [results, Tryd.results18, go_sem, r0, r1, r2]) rfl ⟨rfl, ?_⟩
    exact below_set3 (HX.out _ HBb.out).2.2 (by omega) _ _ _
end Go.Proofs.YtbbffhpppacihaaDoor
