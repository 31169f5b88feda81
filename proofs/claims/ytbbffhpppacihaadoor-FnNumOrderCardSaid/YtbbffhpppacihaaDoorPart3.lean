/-
  The program's naturals: isNought, isOne, trimmed, naturalOf. Condition: the groups lie in memory as NatA says.
  Plain numbers: digits from the right under adding, taking away; what carrying comes to. No program is named.
  The program's naturalIn: what decimal digits tell, in groups. Condition: the text is a numeral of at most 100,000 digits, and the table of powers stands.
  Plain numbers: groups from a place on, and what they come to. No program is named.
  The program's take and giveBack: another natural taken away so many times from the groups at a place, and added to them. Condition: the groups lie in a block of the call's own, the other natural elsewhere.
-/
import Derived.Test.YtbbffhpppacihaaDoorPart1
import Derived.Test.YtbbffhpppacihaaDoorZ2
import Derived.Deep.QuietTactic
import Derived.BigQuiet
import Derived.Deep.Draws
namespace Go.Proofs.YtbbffhpppacihaaDoor
open Go.RowKit Go.Siskin

theorem nG_lim {x : Nat} (h : nG x ≤ 1000) : (nG x : Int) ≤ 1000 := by omega

set_option maxHeartbeats 400000 in
theorem isNought_any (x : Nat) (v : Value) (w : World) (h : NatA w v (grp x)) :
    Calls Tryd.prog 81 #[v] w fun e w' => e = .returned (.bool (x == 0)) ∧ w' = w := by
  obtain ⟨a, cap, rfl, h1, h2, h3⟩ := h
  rw [grp_length] at *
  have HE : Hid ((x == 0) = ((nG x : Int) == 0)) := by
    show _ = _
    rw [Bool.eq_iff_iff]
    have := @nG_is_zero x
    simp; omega
  unfold maxLen at h2
  clear h3
  go_enter Tryd.func81, Tryd.ntmps81
  go_wp2_with fail
  go_ret
  exact ⟨ret_boolz HE.out.symm, rfl⟩

set_option maxHeartbeats 400000 in
theorem isOne_any (x : Nat) (v : Value) (w : World) (h : NatA w v (grp x)) :
    Calls Tryd.prog 82 #[v] w fun e w' => e = .returned (.bool (x == 1)) ∧ w' = w := by
  obtain ⟨a, cap, rfl, h1, h2, h3⟩ := h
  have HG := hid (grpN_get (nG x) x)
  rw [grp_length] at *
  unfold maxLen at h2
  by_cases h1x : nG x = 1
  · have hb : ((nG x : Int) == 1) = true := by rw [h1x]; rfl
    rcases h3 with h3 | ⟨b, o, rfl, -, h3⟩
    · have := congrArg List.length h3; rw [grp_length, h1x] at this; simp at this
    have hx0 : 0 < x := by
      rcases Nat.eq_zero_or_pos x with h | h
      · subst h; simp [nG] at h1x
      · exact h
    have hxs := lt_pow_nG x
    rw [h1x, Nat.pow_one] at hxs
    have g : w.cell? ⟨b, o, none⟩ = some (.int .u64 (x : Int)) := by
      have h := h3 0 (by rw [grp_length]; omega)
      rw [Nat.add_zero] at h
      rw [h]
      unfold grp; rw [HG.out]; simp [Nat.mod_eq_of_lt hxs]
    have hpos : 0 < nG x := by omega
    clear h3 h1x HG
    go_enter Tryd.func82, Tryd.ntmps82
    go_wp2_with fail
    go_ret
    exact ⟨ret_boolz (by rw [Bool.eq_iff_iff]; simp; omega), rfl⟩
  · have hb : ((nG x : Int) == 1) = false := by rw [beq_eq_false_iff_ne]; omega
    have HE : Hid ((x == 1) = false) := by
      show _ = _
      rw [beq_eq_false_iff_ne]; rintro rfl; exact h1x (nG_one (by decide) (by decide))
    clear h3 HG
    go_enter Tryd.func82, Tryd.ntmps82
    go_wp2_with fail
    go_ret
    exact ⟨ret_boolz HE.out.symm, rfl⟩

set_option maxHeartbeats 1000000 in
theorem trimmed_row (B : Nat → Prop) (m x : Nat) (v : Value) (w : World) (h : RowOf .u64 B w v (grpN m x)) (hx : x < 1000000000 ^ m) :
    Calls Tryd.prog 99 #[v] w fun e w' => ∃ u, e = .returned u ∧ RowOf .u64 B w' u (grp x) ∧ w' = w := by
  obtain ⟨a, cap, rfl, h1, h2, h3⟩ := h
  have HG := hid (grpN_get m x)
  have HN := hid h3
  rw [grpN_length] at *
  unfold maxLen at h2
  have HX := hid hx
  clear h3 hx
  go_enter Tryd.func99, Tryd.ntmps99
  go_wp2_with fail
  go_loop [0] (fun n => ∃ j : Nat, j ≤ m ∧ n = .slice a j cap ∧ Hid (x < 1000000000 ^ j)) (fun n => match n with | .slice _ j _ => j | _ => 0)
  case atStart => exact ⟨m, Nat.le_refl _, rfl, HX.out⟩
  case round =>
    obtain ⟨j, hj, rfl, HJ⟩ := hrel
    have HEnd : Hid ((j = 0 ∨ 1000000000 ^ (j - 1) ≤ x) → RowOf .u64 B w (.slice a j cap) (grp x)) := fun hh => by
      have e := grpN_grp HJ.out hh
      rw [← e]
      refine ⟨a, cap, by rw [grpN_length], by rw [grpN_length]; omega, by unfold maxLen; omega, ?_⟩
      rcases HN.out with h | ⟨b, o, e1, hb, h⟩
      · left
        have := congrArg List.length h; rw [grpN_length] at this; simp at this
        have : j = 0 := by omega
        subst this; rfl
      · refine Or.inr ⟨b, o, e1, hb, fun i hi => ?_⟩
        rw [grpN_length] at hi
        rw [h i (by rw [grpN_length]; omega), grpN_get, grpN_get]
    by_cases h0 : j = 0
    · subst h0
      go_wp2_with fail
      go_ret
      exact ⟨_, rfl, HEnd.out (by simp), rfl⟩
    · have hj0 : 0 < j := by omega
      rcases HN.out with h | ⟨b, o, rfl, hb, h⟩
      · have := congrArg List.length h; rw [grpN_length] at this; simp at this; omega
      have g := h (j - 1) (by rw [grpN_length]; omega)
      rw [grpN_get, show o + (j - 1) = o + (j - 1) from rfl] at g
      clear h hb
      obtain ⟨i, rfl⟩ : ∃ i, j = i + 1 := ⟨j - 1, by omega⟩
      rw [Nat.add_sub_cancel] at g
      obtain ⟨y, HY⟩ : ∃ y, Hid (x / 1000000000 ^ i % 1000000000 = y) := ⟨_, rfl⟩
      rw [HY.out] at g
      by_cases hy : y = 0
      · subst hy
        have HJ2 : Hid (x < 1000000000 ^ i) := by
          have h1 := HJ.out
          rw [Nat.pow_succ] at h1
          have h2 : x / 1000000000 ^ i < 1000000000 := Nat.div_lt_of_lt_mul h1
          have h3 := HY.out
          rw [Nat.mod_eq_of_lt h2] at h3
          have hp := p9pos i
          rcases Nat.lt_or_ge x (1000000000 ^ i) with h | h
          · exact h
          · have := Nat.div_pos h hp; omega
        go_wp2_with fail
        go_round
        case rel => exact ⟨i, by omega, by congr 1, HJ2⟩
        case measure => simp
      · have hyb : ((y : Int) == 0) = false := by rw [beq_eq_false_iff_ne]; omega
        have HE2 : Hid (RowOf .u64 B w (.slice (some ⟨b, o, none⟩) (i + 1) cap) (grp x)) := HEnd.out (Or.inr (by
          rw [Nat.add_sub_cancel]
          rcases Nat.lt_or_ge x (1000000000 ^ i) with h | h
          · have := HY.out; rw [Nat.div_eq_of_lt h] at this; simp at this; omega
          · exact h))
        clear hy
        go_wp2_with fail
        go_ret
        exact ⟨_, rfl, HE2.out, rfl⟩
theorem trimmed_any (m x : Nat) (v : Value) (w : World) (h : NatA w v (grpN m x)) (hx : x < 1000000000 ^ m) :
    Calls Tryd.prog 99 #[v] w fun e w' => ∃ u, e = .returned u ∧ NatA w' u (grp x) ∧ w' = w := by
  refine (trimmed_row (fun b => b < w.heap.size) m x v w h hx).mono ?_
  rintro e w' ⟨u, rfl, h1, rfl⟩
  exact ⟨u, rfl, h1, rfl⟩

set_option maxRecDepth 20000 in
set_option maxHeartbeats 1000000 in
theorem naturalOf_any (x : Nat) (w : World) (hx : x ≤ 18446744073709551615) :
    Calls Tryd.prog 56 #[.int .u64 x] w fun e w' => ∃ u, e = .returned u ∧ NatA w' u (grp x) ∧ Below w.heap.size w w' := by
  obtain ⟨i0, hi, hz0, hz1, hz2⟩ := info_partsZ Tryd.infoWordZ
  have Hi := hid hi
  have Hz0 := hid hz0
  have Hz1 := hid hz1
  have Hz2 := hid hz2
  clear hi hz0 hz1 hz2
  have HX := hid hx
  clear hx
  go_enter Tryd.func56, Tryd.ntmps56
  go_wp2_with fail
  go_loopw [0, 3] (fun z n wr => ∃ (k y : Nat) (ua : Option Addr) (uc : Nat), z = .int .u64 y ∧ n = .slice ua k uc ∧ Hid (x / 1000000000 ^ k = y) ∧ k ≤ 3 ∧ Hid (k = 0 ∨ 1000000000 ^ (k - 1) ≤ x) ∧ Hid (wr.ownsRow w.heap.size 80 1 (.slice ua k uc) k (numL .u64 (grpN k x))) ∧ Hid (Below w.heap.size w wr)) (fun _ n _ => match n with | .slice _ j _ => 3 - j | _ => 0)
  case atStart => exact ⟨0, x, none, 0, rfl, rfl, by show _ = _; simp, by omega, Or.inl rfl, World.ownsRow_nil _ _ _ _, Below.refl _ _⟩
  case round =>
    obtain ⟨k, y, ua, uc, rfl, rfl, HY, hk3, HT, HU, HB⟩ := hrel
    have hsz := HB.out.size
    by_cases hy : 0 < y
    · have hk : k < 3 := by
        rcases Nat.lt_or_ge k 3 with h | h
        · exact h
        · exfalso
          have hk3 : k = 3 := by omega
          subst hk3
          have h1 := HY.out
          have h2 := HX.out
          rw [Nat.div_eq_of_lt (by simp; omega)] at h1
          omega
      have HT2 : Hid (1000000000 ^ k ≤ x) := by
        rcases Nat.lt_or_ge x (1000000000 ^ k) with h | h
        · have := HY.out; rw [Nat.div_eq_of_lt h] at this; omega
        · exact h
      have hyl : y ≤ 18446744073709551615 := by rw [← HY.out]; exact Nat.le_trans (Nat.div_le_self _ _) HX.out
      have hw1 : IntKind.u64.wrap ((y : Int).tmod 1000000000) = (y : Int) % 1000000000 := by
        rw [Int.tmod_eq_emod_of_nonneg (by omega)]; simp [IntKind.wrap, IntKind.bits, IntKind.signed]; omega
      have hw2 : IntKind.u64.wrap ((y : Int).tdiv 1000000000) = (y : Int) / 1000000000 := by
        rw [Int.tdiv_eq_ediv_of_nonneg (by omega)]; simp [IntKind.wrap, IntKind.bits, IntKind.signed]; omega
      have HYL := hid hyl
      clear hyl
      go_wp2_with (at_builtin; refine wpList_append_lies _ rfl _ _ _ rfl w.heap.size 80 i0 (.int .u64 0) 1 8 Tryd.underlying48 Hi.out Hz0.out Hz1.out Hz2.out rfl (by decide) _ k (numL .u64 (grpN k x)) rfl (HU.out.alloc _) ⟨wr.heap.size, 0, none⟩ 1 1 [.int .u64 ((y : Int) % 1000000000)] rfl rfl (cell_one_newZ _ _ _) (by simp [Value.oneCell']) (by omega) (by unfold maxLen; omega) (by omega) (by simp; omega) (wr.heap.size + 1) (by simp) ?_; intro gg cc w4 hown' hg hat hgl; have hall := (World.grownBy_alloc wr _ _).trans hg)
      have hlow : ∀ g, (Value.slice ua k uc).ownBlock = some g → w.heap.size ≤ g := fun g e => (HU.out.lt g e).1
      have e2 : ((x / 1000000000 ^ k % 1000000000 : Nat) : Int) = (y : Int) % 1000000000 := by rw [HY.out]; omega
      refine ⟨⟨k + 1, y / 1000000000, some ⟨gg, 0, none⟩, cc, by congr 1, rfl, by show _ = _; rw [Nat.pow_succ, ← Nat.div_div_eq_div_mul, HY.out], by omega, Or.inr (by rw [Nat.add_sub_cancel]; exact HT2.out), ?_, HB.out.grown hall hsz hlow⟩, by simp; omega⟩
      show World.ownsRow _ _ _ _ _ _ _
      rw [grpN_snoc, numL_snoc, e2]
      exact hown'
    · obtain rfl : y = 0 := by omega
      have HE := hid (grpN_grp (v := x) (m := k) (by
        have h := HY.out
        rcases Nat.lt_or_ge x (1000000000 ^ k) with h' | h'
        · exact h'
        · have := Nat.div_pos h' (p9pos k); omega) HT.out)
      go_wp2_with fail
      go_ret
      refine ⟨_, rfl, ?_, HB.out⟩
      have := natA_own HU.out
      rw [HE.out] at this
      exact this
end Go.Proofs.YtbbffhpppacihaaDoor

namespace Go.Proofs.YtbbffhpppacihaaDoor
open Go.RowKit Go.Siskin

theorem okD_snoc {ds : List Nat} {x : Nat} (h : OkD ds) (hx : x < 10) : OkD (ds ++ [x]) := by
  intro d hd
  rcases List.mem_append.1 hd with hd | hd
  · exact h d hd
  · simp at hd; omega
theorem add_step {ds : List Nat} {a b k x y c : Nat} (hl : ds.length = k) (h : lowD ds + c * 10 ^ k = a % 10 ^ k + b % 10 ^ k) (hx : a / 10 ^ k % 10 = x) (hy : b / 10 ^ k % 10 = y) :
    lowD (ds ++ [(x + y + c) % 10]) + (x + y + c) / 10 * 10 ^ (k + 1) = a % 10 ^ (k + 1) + b % 10 ^ (k + 1) := by
  rw [lowD_append, hl, Nat.mod_pow_succ, Nat.mod_pow_succ, hx, hy, Nat.pow_succ]
  have e : (x + y + c) % 10 * 10 ^ k + (x + y + c) / 10 * (10 ^ k * 10) = (x + y + c) * 10 ^ k := by
    rw [Nat.mul_comm (10 ^ k) 10, ← Nat.mul_assoc, ← Nat.add_mul]
    congr 1; omega
  have e2 : (x + y + c) * 10 ^ k = 10 ^ k * x + 10 ^ k * y + c * 10 ^ k := by
    rw [Nat.add_mul, Nat.add_mul, Nat.mul_comm x, Nat.mul_comm y]
  omega
theorem add_more {ds : List Nat} {a b k c M : Nat} (h : lowD ds + c * 10 ^ k = a % 10 ^ k + b % 10 ^ k) (hc : 0 < c) (hM1 : Lib.nDigits a ≤ M) (hM2 : Lib.nDigits b ≤ M) : k ≤ M := by
  rcases Nat.lt_or_ge M k with hk | hk
  · exfalso
    have h1 : a < 10 ^ M := Nat.lt_of_lt_of_le (Lib.lt_pow_nDigits a) (Nat.pow_le_pow_right (by decide) hM1)
    have h2 : b < 10 ^ M := Nat.lt_of_lt_of_le (Lib.lt_pow_nDigits b) (Nat.pow_le_pow_right (by decide) hM2)
    have h3 : 10 ^ (M + 1) ≤ 10 ^ k := Nat.pow_le_pow_right (by decide) hk
    rw [Nat.pow_succ] at h3
    have h4 := Nat.mod_le a (10 ^ k)
    have h5 := Nat.mod_le b (10 ^ k)
    have h6 : 10 ^ k ≤ c * 10 ^ k := Nat.le_mul_of_pos_left _ hc
    omega
  · exact hk
theorem add_end {ds : List Nat} {a b k c : Nat} (h : lowD ds + c * 10 ^ k = a % 10 ^ k + b % 10 ^ k) (ha : Lib.nDigits a ≤ k) (hb : Lib.nDigits b ≤ k) (hc : c = 0) : lowD ds = a + b := by
  have h1 : a < 10 ^ k := Nat.lt_of_lt_of_le (Lib.lt_pow_nDigits a) (Nat.pow_le_pow_right (by decide) ha)
  have h2 : b < 10 ^ k := Nat.lt_of_lt_of_le (Lib.lt_pow_nDigits b) (Nat.pow_le_pow_right (by decide) hb)
  rw [Nat.mod_eq_of_lt h1, Nat.mod_eq_of_lt h2, hc] at h
  omega
theorem sub_step0 {ds : List Nat} {a b k x y c : Nat} (hl : ds.length = k) (h : lowD ds + b % 10 ^ k = a % 10 ^ k + c * 10 ^ k) (hx : a / 10 ^ k % 10 = x) (hy : b / 10 ^ k % 10 = y) (hle : y + c ≤ x) :
    lowD (ds ++ [x - y - c]) + b % 10 ^ (k + 1) = a % 10 ^ (k + 1) + 0 * 10 ^ (k + 1) := by
  rw [lowD_append, hl, Nat.mod_pow_succ, Nat.mod_pow_succ, hx, hy]
  obtain ⟨z, rfl⟩ : ∃ z, x = z + y + c := ⟨x - y - c, by omega⟩
  rw [show z + y + c - y - c = z by omega]
  have : 10 ^ k * (z + y + c) = z * 10 ^ k + 10 ^ k * y + c * 10 ^ k := by rw [Nat.mul_add, Nat.mul_add, Nat.mul_comm _ z, Nat.mul_comm _ c]
  omega
theorem sub_step1 {ds : List Nat} {a b k x y c : Nat} (hl : ds.length = k) (h : lowD ds + b % 10 ^ k = a % 10 ^ k + c * 10 ^ k) (hx : a / 10 ^ k % 10 = x) (hy : b / 10 ^ k % 10 = y) (hle : x < y + c) (hc : c ≤ 1) :
    lowD (ds ++ [x + 10 - y - c]) + b % 10 ^ (k + 1) = a % 10 ^ (k + 1) + 1 * 10 ^ (k + 1) := by
  rw [lowD_append, hl, Nat.mod_pow_succ, Nat.mod_pow_succ, hx, hy, Nat.pow_succ]
  obtain ⟨z, hz⟩ : ∃ z, x + 10 = z + y + c := ⟨x + 10 - y - c, by omega⟩
  rw [show x + 10 - y - c = z by omega]
  have e : 10 ^ k * (x + 10) = 10 ^ k * (z + y + c) := by rw [hz]
  have e2 : 10 ^ k * (z + y + c) = z * 10 ^ k + 10 ^ k * y + c * 10 ^ k := by rw [Nat.mul_add, Nat.mul_add, Nat.mul_comm _ z, Nat.mul_comm _ c]
  rw [Nat.mul_add] at e
  omega
theorem sub_end {ds : List Nat} {a b k c : Nat} (hd : OkD ds) (hl : ds.length = k) (h : lowD ds + b % 10 ^ k = a % 10 ^ k + c * 10 ^ k) (ha : Lib.nDigits a = k) (hb : b ≤ a) : lowD ds = a - b := by
  have h1 : a < 10 ^ k := by rw [← ha]; exact Lib.lt_pow_nDigits a
  have h3 := lowD_lt ds hd
  rw [hl] at h3
  rw [Nat.mod_eq_of_lt h1, Nat.mod_eq_of_lt (Nat.lt_of_le_of_lt hb h1)] at h
  have : c = 0 := by
    rcases Nat.eq_zero_or_pos c with h0 | h0
    · exact h0
    · have h6 : 10 ^ k ≤ c * 10 ^ k := Nat.le_mul_of_pos_left _ h0
      omega
  subst this
  omega
end Go.Proofs.YtbbffhpppacihaaDoor

namespace Go.Proofs.YtbbffhpppacihaaDoor
open Go.RowKit Go.Siskin

/-- One digit more: its group alone turns. -/
theorem put_digit (M u p d : Nat) (hd : d < 10) : grpN M (10 ^ (p + 1) * u + d * 10 ^ p) = (grpN M (10 ^ (p + 1) * u)).set (p / 9) (10 ^ (p + 1) * u / 1000000000 ^ (p / 9) % 1000000000 + d * 10 ^ (p % 9)) := by
  obtain ⟨q, hq⟩ : ∃ q, p / 9 = q := ⟨_, rfl⟩
  obtain ⟨r, hr⟩ : ∃ r, p % 9 = r := ⟨_, rfl⟩
  have hp : p = 9 * q + r := by omega
  have hr9 : r < 9 := by omega
  rw [hq, hr]

  have e0 : 10 ^ (p + 1) * u + d * 10 ^ p = 10 ^ p * (10 * u + d) := by
    rw [Nat.pow_succ, Nat.mul_add, Nat.mul_comm d, Nat.mul_assoc]
  have e1 : 10 ^ (p + 1) * u = 10 ^ p * (10 * u) := by rw [Nat.pow_succ, Nat.mul_assoc]
  have key : ∀ y k, k < q → 10 ^ p * y / 1000000000 ^ k % 1000000000 = 0 := by
    intro y k hk
    rw [p9k]
    obtain ⟨s, hs⟩ : ∃ s, p = 9 * k + (9 + s) := ⟨p - 9 * k - 9, by omega⟩
    rw [hs, Nat.pow_add, Nat.mul_assoc, Nat.mul_div_cancel_left _ (Nat.pow_pos (by decide)), Nat.pow_add, Nat.mul_assoc, p9, Nat.mul_mod_right]
  have key2 : ∀ k, q < k → 10 ^ p * (10 * u + d) / 1000000000 ^ k = 10 ^ p * (10 * u) / 1000000000 ^ k := by
    intro k hk
    rw [p9k]
    obtain ⟨s, hs⟩ : ∃ s, 9 * k = p + (s + 1) := ⟨9 * k - p - 1, by omega⟩
    rw [hs, Nat.pow_add, ← Nat.div_div_eq_div_mul, ← Nat.div_div_eq_div_mul, Nat.mul_div_cancel_left _ (Nat.pow_pos (by decide)), Nat.mul_div_cancel_left _ (Nat.pow_pos (by decide)), Nat.pow_succ, Nat.mul_comm (10 ^ s), ← Nat.div_div_eq_div_mul, ← Nat.div_div_eq_div_mul]
    congr 1
    omega
  have key3 : 10 ^ p * (10 * u + d) / 1000000000 ^ q % 1000000000 = 10 ^ p * (10 * u) / 1000000000 ^ q % 1000000000 + d * 10 ^ r := by
    rw [p9k, hp, Nat.pow_add, Nat.mul_assoc, Nat.mul_assoc, Nat.mul_div_cancel_left _ (Nat.pow_pos (by decide)), Nat.mul_div_cancel_left _ (Nat.pow_pos (by decide))]
    obtain ⟨s, hs⟩ : ∃ s, 9 = r + (s + 1) := ⟨9 - r - 1, by omega⟩
    rw [p9, hs, Nat.pow_add, Nat.mul_mod_mul_left, Nat.mul_mod_mul_left, Nat.pow_succ, Nat.mul_comm (10 ^ s) 10, Nat.mul_mod_mul_left]
    have e : (10 * u + d) % (10 * 10 ^ s) = 10 * (u % 10 ^ s) + d := by
      rw [Nat.mod_mul]
      have a1 : (10 * u + d) % 10 = d := by omega
      have a2 : (10 * u + d) / 10 = u := by omega
      rw [a1, a2]; omega
    rw [e, Nat.mul_add, Nat.mul_comm (10 ^ r) d]
  rw [e0, e1]
  apply List.ext_getElem
  · simp [grpN]
  · intro k h1 h2
    rw [grpN_get, List.getElem_set]
    by_cases hk : q = k
    · subst hk
      rw [if_pos rfl]; exact key3
    · rw [if_neg hk, grpN_get]
      rcases Nat.lt_or_ge k q with h | h
      · rw [key _ k h, key _ k h]
      · rw [key2 k (by omega)]
/-- What the first digits tell. -/
theorem first_digits {v n i : Nat} (hi : i < n) : v / 10 ^ (n - (i + 1)) * 10 ^ (n - (i + 1)) = 10 ^ (n - 1 - i + 1) * (v / 10 ^ (n - i)) + v / 10 ^ (n - 1 - i) % 10 * 10 ^ (n - 1 - i) ∧ v / 10 ^ (n - i) * 10 ^ (n - i) = 10 ^ (n - 1 - i + 1) * (v / 10 ^ (n - i)) := by
  obtain ⟨k, hk⟩ : ∃ k, n - (i + 1) = k := ⟨_, rfl⟩
  rw [hk, show n - i = k + 1 by omega, show n - 1 - i = k by omega]
  refine ⟨?_, by rw [Nat.mul_comm]⟩
  rw [Nat.pow_succ, ← Nat.div_div_eq_div_mul]
  generalize v / 10 ^ k = y
  have h : y = 10 * (y / 10) + y % 10 := by omega
  have e : 10 ^ k * 10 * (y / 10) = 10 * (y / 10) * 10 ^ k := by rw [Nat.mul_assoc, Nat.mul_comm]
  rw [e, ← Nat.add_mul, ← h]

/-- A block of groups, all of it written by the call. -/
def GrA (w : World) (b : Nat) (ls : List Nat) : Prop := Own w b 80 (numL .u64 ls).toArray
theorem GrA.get {w : World} {b : Nat} {ls : List Nat} (h : GrA w b ls) (i : Nat) (hi : i < ls.length) : w.cell? ⟨b, i, none⟩ = some (.int .u64 (ls[i] : Int)) := by
  rw [Own.cell h i]
  rw [List.getElem?_toArray]
  exact numL_get .u64 ls i hi
theorem GrA.set {w : World} {b : Nat} {ls : List Nat} (h : GrA w b ls) (i x : Nat) : GrA (w.setCell ⟨b, i, none⟩ (.int .u64 (x : Int))) b (ls.set i x) := by
  have := Own.set h i (.int .u64 (x : Int))
  unfold GrA
  rw [numL_set]
  simpa using this
theorem GrA.keep {w w' : World} {b N : Nat} {ls : List Nat} (h : GrA w b ls) (hb : Below N w w') (hN : b < N) : GrA w' b ls := Own.keep h hb hN
theorem GrA.frozen {w : World} {b : Nat} {ls : List Nat} (h : GrA w b ls) (i : Nat) : w.frozen? ⟨b, i, none⟩ = false := Own.frozen h i
theorem GrA.natA {w : World} {b cap : Nat} {ls : List Nat} (h : GrA w b ls) (h1 : ls.length ≤ cap) (h2 : cap ≤ maxLen) : NatA w (.slice (some ⟨b, 0, none⟩) ls.length cap) ls :=
  ⟨some ⟨b, 0, none⟩, cap, rfl, h1, h2, Or.inr ⟨b, 0, rfl, Own.lt h, fun i hi => by rw [Nat.zero_add]; exact h.get i hi⟩⟩
theorem GrA.lt {w : World} {b : Nat} {ls : List Nat} (h : GrA w b ls) : b < w.heap.size := Own.lt h
theorem made_zero (w : World) (n : Nat) : GrA (w.alloc (.cells (madeCells #[Value.int .u64 0] n) 80)) w.heap.size (grpN n 0) := by
  have h := own_new w (madeCells #[Value.int .u64 0] n) 80
  unfold GrA
  have e : (numL .u64 (grpN n 0)).toArray = madeCells #[Value.int .u64 0] n := by
    apply Array.ext
    · simp [numL, grpN, size_madeCells]
    · intro i h1 h2
      simp [numL, grpN, madeCells, Nat.mod_one]
  rw [e]; exact h
end Go.Proofs.YtbbffhpppacihaaDoor

namespace Go.Siskin

/-- What j groups from place i on come to. -/
def ga (ls : List Nat) (i : Nat) : Nat → Nat
  | 0 => 0
  | j + 1 => ga ls i j + ls.getD (i + j) 0 * 1000000000 ^ j
theorem ga_congr {ls ls' : List Nat} {i : Nat} : ∀ {j : Nat}, (∀ k, k < j → ls.getD (i + k) 0 = ls'.getD (i + k) 0) → ga ls i j = ga ls' i j
  | 0, _ => rfl
  | j + 1, h => by rw [ga, ga, ga_congr (j := j) (fun k hk => h k (by omega)), h j (by omega)]
theorem ga_lt {ls : List Nat} {i : Nat} (h : ∀ k, ls.getD k 0 < 1000000000) : ∀ j, ga ls i j < 1000000000 ^ j
  | 0 => by simp [ga]
  | j + 1 => by
    have h1 := ga_lt h (i := i) j
    have h2 := h (i + j)
    rw [ga, Nat.pow_succ]
    generalize 1000000000 ^ j = P at *
    have h3 : ls.getD (i + j) 0 * P ≤ 999999999 * P := Nat.mul_le_mul_right _ (by omega)
    omega
theorem ga_zero {ls : List Nat} {i : Nat} : ∀ {j : Nat}, (∀ k, k < j → ls.getD (i + k) 0 = 0) → ga ls i j = 0
  | 0, _ => rfl
  | j + 1, h => by rw [ga, ga_zero (j := j) (fun k hk => h k (by omega)), h j (by omega)]; simp
theorem ga_split (ls : List Nat) (i j : Nat) : ∀ k, ga ls i (j + k) = ga ls i j + 1000000000 ^ j * ga ls (i + j) k
  | 0 => by simp [ga]
  | k + 1 => by
    rw [← Nat.add_assoc, ga, ga_split ls i j k, ga, Nat.pow_add, Nat.mul_add, Nat.add_assoc i j k]
    have : ls.getD (i + (j + k)) 0 * (1000000000 ^ j * 1000000000 ^ k) = 1000000000 ^ j * (ls.getD (i + (j + k)) 0 * 1000000000 ^ k) := by ac_rfl
    omega
theorem ga_get {ls : List Nat} {i : Nat} (h : ∀ k, ls.getD k 0 < 1000000000) : ∀ (j k : Nat), k < j → ga ls i j / 1000000000 ^ k % 1000000000 = ls.getD (i + k) 0
  | j + 1, k, hk => by
    have hlt := ga_lt h (i := i) j
    rw [ga]
    by_cases e : k = j
    · subst e
      rw [Nat.add_mul_div_right _ _ (p9pos k), Nat.div_eq_of_lt hlt, Nat.zero_add, Nat.mod_eq_of_lt (h (i + k))]
    · have hk' : k < j := by omega
      have ih := ga_get h (i := i) j k hk'
      obtain ⟨s, hs⟩ : ∃ s, j = k + (s + 1) := ⟨j - k - 1, by omega⟩
      rw [hs] at ih ⊢
      have e2 : ls.getD (i + (k + (s + 1))) 0 * 1000000000 ^ (k + (s + 1)) = (1000000000 * (ls.getD (i + (k + (s + 1))) 0 * 1000000000 ^ s)) * 1000000000 ^ k := by
        rw [Nat.pow_add, Nat.pow_succ]; ac_rfl
      rw [e2, Nat.add_mul_div_right _ _ (p9pos k), Nat.add_mul_mod_self_left]
      exact ih
theorem getD_grpN (M V k : Nat) : (grpN M V).getD k 0 = if k < M then V / 1000000000 ^ k % 1000000000 else 0 := by
  by_cases h : k < M
  · rw [if_pos h, List.getD_eq_getElem?_getD, List.getElem?_eq_getElem (by rw [grpN_length]; exact h), grpN_get]; rfl
  · rw [if_neg h, List.getD_eq_getElem?_getD, List.getElem?_eq_none (by rw [grpN_length]; omega)]; rfl
theorem grpN_small (M V k : Nat) : (grpN M V).getD k 0 < 1000000000 := by
  rw [getD_grpN]
  split
  · exact Nat.mod_lt _ (by decide)
  · decide
theorem ga_grpN (M V i : Nat) : ∀ j, i + j ≤ M → ga (grpN M V) i j = V / 1000000000 ^ i % 1000000000 ^ j
  | 0, _ => by simp [ga, Nat.mod_one]
  | j + 1, h => by
    rw [ga, ga_grpN M V i j (by omega), getD_grpN, if_pos (by omega), Nat.mod_pow_succ, Nat.pow_add, ← Nat.div_div_eq_div_mul, Nat.mul_comm]
theorem grpN_of {ls : List Nat} {M : Nat} (hl : ls.length = M) (h : ∀ k, ls.getD k 0 < 1000000000) : ls = grpN M (ga ls 0 M) := by
  apply List.ext_getElem
  · rw [grpN_length, hl]
  · intro k h1 h2
    rw [grpN_get, ga_get h M k (by omega), Nat.zero_add, List.getD_eq_getElem?_getD, List.getElem?_eq_getElem h1]; rfl
/-- A list of which only some groups have turned. -/
theorem grpN_turned {ls : List Nat} {M V i mm : Nat} (hl : ls.length = M) (h : ∀ k, ls.getD k 0 < 1000000000) (him : i + mm ≤ M) (hV : V < 1000000000 ^ (i + mm))
    (hout : ∀ k, k < i ∨ i + mm ≤ k → ls.getD k 0 = (grpN M V).getD k 0) : ls = grpN M (V % 1000000000 ^ i + 1000000000 ^ i * ga ls i mm) := by
  have e := grpN_of hl h
  have e1 : ga ls 0 M = V % 1000000000 ^ i + 1000000000 ^ i * ga ls i mm := by
    obtain ⟨r, hr⟩ : ∃ r, M = i + (mm + r) := ⟨M - i - mm, by omega⟩
    have hz : ga ls (i + mm) r = 0 := ga_zero fun k hk => by
      rw [hout _ (Or.inr (by omega)), getD_grpN]
      split
      · rw [Nat.div_eq_of_lt (Nat.lt_of_lt_of_le hV (Nat.pow_le_pow_right (by decide) (by omega)))]
      · rfl
    have h0 : ga ls 0 i = V % 1000000000 ^ i := by
      have h1 := ga_grpN M V 0 i (by omega)
      rw [Nat.pow_zero, Nat.div_one] at h1
      rw [← h1]
      exact ga_congr fun k hk => hout _ (Or.inl (by omega))
    rw [hr, ga_split, Nat.zero_add, ga_split, hz, h0, Nat.mul_zero, Nat.add_zero]
  rw [e1] at e
  exact e
theorem getD_set {ls : List Nat} {p x k : Nat} (hp : p < ls.length) : (ls.set p x).getD k 0 = if k = p then x else ls.getD k 0 := by
  rw [List.getD_eq_getElem?_getD, List.getElem?_set]
  by_cases h : k = p
  · subst h; rw [if_pos rfl, if_pos hp, if_pos rfl]; rfl
  · rw [if_neg (by omega), if_neg h, List.getD_eq_getElem?_getD]
theorem ga_set_past {ls : List Nat} {i k x : Nat} (hp : i + k < ls.length) : ga (ls.set (i + k) x) i (k + 1) = ga ls i k + x * 1000000000 ^ k := by
  rw [ga, getD_set hp, if_pos rfl]
  congr 1
  exact ga_congr fun t ht => by rw [getD_set hp, if_neg (by omega)]
theorem take_step {A S L ow g T x y z c P : Nat} (h : A + T * S = L + ow * P) (hz : ow + g * T = z) (hy : y + z % 1000000000 = x + c * 1000000000) :
    A + y * P + T * (S + g * P) = L + x * P + (z / 1000000000 + c) * (P * 1000000000) := by
  have h1 : y + z = x + (z / 1000000000 + c) * 1000000000 := by rw [Nat.add_mul]; omega
  have h2 : (y + z) * P = (x + (z / 1000000000 + c) * 1000000000) * P := by rw [h1]
  have h3 : (z / 1000000000 + c) * (P * 1000000000) = (z / 1000000000 + c) * 1000000000 * P := by ac_rfl
  have h4 : T * (g * P) = g * T * P := by ac_rfl
  rw [Nat.add_mul, Nat.add_mul x] at h2
  rw [h3, Nat.mul_add, h4]
  have h5 : z * P = ow * P + g * T * P := by rw [← hz, Nat.add_mul]
  omega
end Go.Siskin

namespace Go.Proofs.YtbbffhpppacihaaDoor
open Go.RowKit Go.Siskin

/-- Only block b has been written. -/
def Wr (b : Nat) (w w' : World) : Prop := Below b w w' ∧ SameOn (fun k => k ≠ b) w w' ∧ w'.heap.size = w.heap.size
theorem Wr.refl (b : Nat) (w : World) : Wr b w w := ⟨Below.refl _ _, SameOn.refl _ _, rfl⟩
theorem Wr.trans {b : Nat} {w w1 w2 : World} (h : Wr b w w1) (k : Wr b w1 w2) : Wr b w w2 := ⟨h.1.trans k.1, h.2.1.trans k.2.1, k.2.2.trans h.2.2⟩
theorem Wr.set {b : Nat} {w w1 : World} (h : Wr b w w1) (i : Nat) (u : Value) : Wr b w (w1.setCell ⟨b, i, none⟩ u) :=
  ⟨h.1.setCell (p := ⟨b, i, none⟩) (Nat.le_refl _) _, h.2.1.setCell (p := ⟨b, i, none⟩) (fun h => h rfl) _, by simp [World.setCell]; exact h.2.2⟩
theorem Wr.drew {b : Nat} {w w1 : World} (h : Wr b w w1) : Wr b w w1.drew := ⟨h.1.drew, h.2.1, h.2.2⟩
theorem GrA.small {ls : List Nat} (h : ∀ k, ls.getD k 0 < 1000000000) (i : Nat) (hi : i < ls.length) : ls[i] < 1000000000 := by
  have := h i
  rw [List.getD_eq_getElem?_getD, List.getElem?_eq_getElem hi] at this
  exact this
theorem getD_of {ls : List Nat} (i : Nat) (hi : i < ls.length) : ls[i] = ls.getD i 0 := by
  rw [List.getD_eq_getElem?_getD, List.getElem?_eq_getElem hi]; rfl

set_option maxRecDepth 20000 in
set_option maxHeartbeats 2000000 in
theorem take_list (M V s b i mm nl nc T : Nat) (vs : Value) (w : World) (hG : GrA w b (grpN M V)) (hs : RowOf .u64 (fun k => k ≠ b) w vs (grpN mm s)) (him : i + mm ≤ M) (hnl : mm ≤ nl) (hnc : nl ≤ nc) (hncm : nc ≤ 1000000) (hT : T < 1000000000) :
    Calls Tryd.prog 117 #[.slice (some ⟨b, i, none⟩) nl nc, vs, .int .u64 T] w fun e w' => ∃ (ls : List Nat) (ow : Nat), e = .returned (.bool (decide (0 < ow))) ∧ GrA w' b ls ∧ ls.length = M ∧ (∀ k, ls.getD k 0 < 1000000000) ∧
      (∀ k, k < i ∨ i + mm ≤ k → ls.getD k 0 = (grpN M V).getD k 0) ∧ ga ls i mm + T * ga (grpN mm s) 0 mm = ga (grpN M V) i mm + ow * 1000000000 ^ mm ∧ Wr b w w' := by
  obtain ⟨sa, sc, rfl, q1, q2, q3⟩ := hs
  rw [grpN_length] at *
  unfold maxLen at q2
  have HG := hid hG
  have HS : Hid (∀ wr, Wr b w wr → ∀ k, k < mm → ∃ b' o', sa = some ⟨b', o', none⟩ ∧ wr.cell? ⟨b', o' + k, none⟩ = some (.int .u64 (((grpN mm s).getD k 0 : Nat) : Int))) := by
    intro wr hb k hk
    rcases q3 with h | ⟨b', o', e, hne, hc⟩
    · have := congrArg List.length h; rw [grpN_length] at this; simp at this; omega
    · refine ⟨b', o', e, ?_⟩
      rw [SameOn.cell (R := fun k => k ≠ b) hb.2.1 hne (o' + k), hc k (by rw [grpN_length]; exact hk), getD_of k (by rw [grpN_length]; exact hk)]
  have HTT := hid hT
  clear hG q3
  go_enter Tryd.func117, Tryd.ntmps117
  go_wp2_with fail
  go_loopw [7, 13] (fun o j wr => ∃ (k ow : Nat) (ls : List Nat), j = .int .i64 k ∧ o = .int .u64 ow ∧ k ≤ mm ∧ ow ≤ 1000000000 ∧ Hid (GrA wr b ls) ∧ Hid (ls.length = M) ∧ Hid (∀ k, ls.getD k 0 < 1000000000) ∧
      Hid (∀ t, t < i ∨ i + k ≤ t → ls.getD t 0 = (grpN M V).getD t 0) ∧ Hid (ga ls i k + T * ga (grpN mm s) 0 k = ga (grpN M V) i k + ow * 1000000000 ^ k) ∧ Hid (Wr b w wr)) (fun _ j _ => mm - (intOf j).toNat)
  case atStart => exact ⟨0, 0, _, rfl, rfl, Nat.zero_le _, Nat.zero_le _, HG.out, grpN_length _ _, grpN_small M V, fun _ _ => rfl, by show _ = _; simp [ga], Wr.refl _ _⟩
  case round =>
    obtain ⟨k, ow, ls, rfl, rfl, hk, how, HL, HLen, HSm, HOut, HEq, HW⟩ := hrel
    by_cases hlt : k < mm
    · obtain ⟨b', o', hab, g0⟩ := HS.out wr HW.out k hlt
      subst hab
      obtain ⟨g, HGg⟩ : ∃ g : Nat, Hid ((grpN mm s).getD k 0 = g) := ⟨_, rfl⟩
      have hg9 : g < 1000000000 := by rw [← HGg.out]; exact grpN_small mm s k
      rw [HGg.out] at g0
      have hik : i + k < ls.length := by rw [HLen.out]; omega
      have g1 := HL.out.get (i + k) hik
      have f1 := HL.out.frozen (i + k)
      obtain ⟨x, HX⟩ : ∃ x : Nat, Hid (ls.getD (i + k) 0 = x) := ⟨_, rfl⟩
      have hx9 : x < 1000000000 := by rw [← HX.out]; exact HSm.out _
      have HXV : Hid ((grpN M V).getD (i + k) 0 = x) := by show _ = _; rw [← HX.out]; exact (HOut.out (i + k) (Or.inr (Nat.le_refl _))).symm
      rw [getD_of (i + k) hik, HX.out] at g1
      obtain ⟨z, HZ⟩ : ∃ z : Nat, Hid (ow + g * T = z) := ⟨_, rfl⟩
      have hgT : g * T ≤ 999999999 * 999999999 := Nat.mul_le_mul (by omega) (by have := HTT.out; omega)
      have hzl : z ≤ 1000000000000000000 := by rw [← HZ.out]; omega
      have hzo : z / 1000000000 + 1 ≤ 1000000000 := by rw [← HZ.out]; omega
      have hval : IntKind.u64.wrap ((ow : Int) + IntKind.u64.wrap ((g : Int) * (T : Int))) = (z : Int) := by
        have e4 : (g : Int) * (T : Int) = ((g * T : Nat) : Int) := by simp
        rw [e4]
        have hz := HZ.out
        generalize g * T = q at *
        have e5 : IntKind.u64.wrap (q : Int) = (q : Int) := by simp [IntKind.wrap, IntKind.bits, IntKind.signed]; omega
        rw [e5]
        simp [IntKind.wrap, IntKind.bits, IntKind.signed]; omega
      obtain ⟨low, HLow⟩ : ∃ low : Nat, Hid (z % 1000000000 = low) := ⟨_, rfl⟩
      obtain ⟨ov, HOv⟩ : ∃ ov : Nat, Hid (z / 1000000000 = ov) := ⟨_, rfl⟩
      have hl9 : low < 1000000000 := by rw [← HLow.out]; exact Nat.mod_lt _ (by decide)
      have hov : ov + 1 ≤ 1000000000 := by rw [← HOv.out]; exact hzo
      have hw1 : (z : Int) % 1000000000 = (low : Int) := by have := HLow.out; omega
      have hw2 : (z : Int) / 1000000000 = (ov : Int) := by have := HOv.out; omega
      have HStep := hid (fun (y c : Nat) (hy : y + z % 1000000000 = x + c * 1000000000) => take_step (y := y) (c := c) HEq.out HZ.out hy)
      rw [HLow.out, HOv.out] at HStep
      have hnlI : (k : Int) < (nl : Int) := by omega
      have HRest : Hid (∀ y c : Nat, y + low = x + c * 1000000000 → y < 1000000000 → (∀ t, (ls.set (i + k) y).getD t 0 < 1000000000) ∧ (∀ t, t < i ∨ i + (k + 1) ≤ t → (ls.set (i + k) y).getD t 0 = (grpN M V).getD t 0) ∧
          ga (ls.set (i + k) y) i (k + 1) + T * ga (grpN mm s) 0 (k + 1) = ga (grpN M V) i (k + 1) + (ov + c) * 1000000000 ^ (k + 1)) := by
        intro y c hy hy9
        refine ⟨fun t => ?_, fun t ht => ?_, ?_⟩
        · rw [getD_set hik]; split
          · exact hy9
          · exact HSm.out t
        · rw [getD_set hik, if_neg (by omega)]; exact HOut.out t (by omega)
        · rw [ga_set_past hik, ga, ga, Nat.zero_add, HGg.out, HXV.out, Nat.pow_succ]
          exact HStep.out y c hy
      clear hgT
      by_cases hless : x < low
      · obtain ⟨y, HYy⟩ : ∃ y : Nat, Hid (x + 1000000000 - low = y) := ⟨_, rfl⟩
        have hyI : (x : Int) + 1000000000 - (low : Int) = (y : Int) := by have := HYy.out; omega
        have hy9 : y < 1000000000 := by have := HYy.out; omega
        have HR := hid (HRest.out y 1 (by have := HYy.out; omega) hy9)
        go_wp2_with fail
        refine ⟨⟨k + 1, ov + 1, ls.set (i + k) y, by go_num, by go_num, by omega, by omega, ?_, by show _ = _; rw [List.length_set]; exact HLen.out, HR.out.1, HR.out.2.1, HR.out.2.2, (HW.out.set (i + k) _).set (i + k) _⟩, by simp [intOf]; omega⟩
        show GrA _ _ _
        have h := (HL.out.set (i + k) (x + 1000000000)).set (i + k) y
        rw [List.set_set] at h
        simpa using h
      · obtain ⟨y, HYy⟩ : ∃ y : Nat, Hid (x - low = y) := ⟨_, rfl⟩
        have hyI : (x : Int) - (low : Int) = (y : Int) := by have := HYy.out; omega
        have hy9 : y < 1000000000 := by have := HYy.out; omega
        have HR := hid (HRest.out y 0 (by have := HYy.out; omega) hy9)
        go_wp2_with fail
        refine ⟨⟨k + 1, ov, ls.set (i + k) y, by go_num, rfl, by omega, by omega, ?_, by show _ = _; rw [List.length_set]; exact HLen.out, HR.out.1, HR.out.2.1, HR.out.2.2, HW.out.set (i + k) _⟩, by simp [intOf]; omega⟩
        show GrA _ _ _
        exact HL.out.set (i + k) y
    · have hkm : k = mm := by omega
      subst hkm
      go_wp2_with fail
      go_ret
      exact ⟨ls, ow, ret_boolz (by simp), HL.out, HLen.out, HSm.out, HOut.out, HEq.out, HW.out⟩
end Go.Proofs.YtbbffhpppacihaaDoor
