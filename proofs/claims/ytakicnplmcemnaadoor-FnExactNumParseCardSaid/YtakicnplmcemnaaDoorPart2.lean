/-
  Plain numbers: digits from the right under adding, taking away; what carrying comes to. No program is named.
  The model's l11Add: the sum of two numbers in decimal digits. Condition: the two are numerals of at most 100,000 digits.
  Plain numbers: a number in groups of nine decimal digits, the lowest first. No program is named.
  The program's naturals: isNought, isOne, trimmed, naturalOf. Condition: the groups lie in memory as NatA says.
  The program's naturalIn: what decimal digits tell, in groups. Condition: the text is a numeral of at most 100,000 digits, and the table of powers stands.
-/
import Derived.Test.YtakicnplmcemnaaDoorPart1
import Derived.Deep.QuietTactic
import Derived.BigQuiet
import Derived.Deep.Draws
namespace Go.Proofs.YtakicnplmcemnaaDoor
open Go.RowKit Go.Siskin

theorem okD_snoc {ds : List Nat} {x : Nat} (h : OkD ds) (hx : x < 10) : OkD (ds ++ [x]) := by
  intro d hd
  rcases List.mem_append.1 hd with hd | hd
  · exact h d hd
  · simp at hd; omega
theorem add_step {ds : List Nat} {a b k x y c : Nat} (hl : ds.length = k) (h : lowD ds + c * 10 ^ k = a % 10 ^ k + b % 10 ^ k) (hx : a / 10 ^ k % 10 = x) (hy : b / 10 ^ k % 10 = y) :
    lowD (ds ++ [(x + y + c) % 10]) + (x + y + c) / 10 * 10 ^ (k + 1) = a % 10 ^ (k + 1) + b % 10 ^ (k + 1) := by
  rw [lowD_append, hl, Nat.mod_pow_succ, Nat.mod_pow_succ, hx, hy, Nat.pow_succ]
  have e : (x + y + c) % 10 * 10 ^ k + (x + y + c) / 10 * (10 ^ k * 10) = (x + y + c) * 10 ^ k := by
    rw [Nat.mul_comm (10 ^ k) 10, ← Nat.mul_assoc, ← Nat.add_mul]
    congr 1; omega
  have e2 : (x + y + c) * 10 ^ k = 10 ^ k * x + 10 ^ k * y + c * 10 ^ k := by
    rw [Nat.add_mul, Nat.add_mul, Nat.mul_comm x, Nat.mul_comm y]
  omega
theorem add_more {ds : List Nat} {a b k c M : Nat} (h : lowD ds + c * 10 ^ k = a % 10 ^ k + b % 10 ^ k) (hc : 0 < c) (hM1 : Lib.nDigits a ≤ M) (hM2 : Lib.nDigits b ≤ M) : k ≤ M := by
  rcases Nat.lt_or_ge M k with hk | hk
  · exfalso
    have h1 : a < 10 ^ M := Nat.lt_of_lt_of_le (Lib.lt_pow_nDigits a) (Nat.pow_le_pow_right (by decide) hM1)
    have h2 : b < 10 ^ M := Nat.lt_of_lt_of_le (Lib.lt_pow_nDigits b) (Nat.pow_le_pow_right (by decide) hM2)
    have h3 : 10 ^ (M + 1) ≤ 10 ^ k := Nat.pow_le_pow_right (by decide) hk
    rw [Nat.pow_succ] at h3
    have h4 := Nat.mod_le a (10 ^ k)
    have h5 := Nat.mod_le b (10 ^ k)
    have h6 : 10 ^ k ≤ c * 10 ^ k := Nat.le_mul_of_pos_left _ hc
    omega
  · exact hk
theorem add_end {ds : List Nat} {a b k c : Nat} (h : lowD ds + c * 10 ^ k = a % 10 ^ k + b % 10 ^ k) (ha : Lib.nDigits a ≤ k) (hb : Lib.nDigits b ≤ k) (hc : c = 0) : lowD ds = a + b := by
  have h1 : a < 10 ^ k := Nat.lt_of_lt_of_le (Lib.lt_pow_nDigits a) (Nat.pow_le_pow_right (by decide) ha)
  have h2 : b < 10 ^ k := Nat.lt_of_lt_of_le (Lib.lt_pow_nDigits b) (Nat.pow_le_pow_right (by decide) hb)
  rw [Nat.mod_eq_of_lt h1, Nat.mod_eq_of_lt h2, hc] at h
  omega
theorem sub_step0 {ds : List Nat} {a b k x y c : Nat} (hl : ds.length = k) (h : lowD ds + b % 10 ^ k = a % 10 ^ k + c * 10 ^ k) (hx : a / 10 ^ k % 10 = x) (hy : b / 10 ^ k % 10 = y) (hle : y + c ≤ x) :
    lowD (ds ++ [x - y - c]) + b % 10 ^ (k + 1) = a % 10 ^ (k + 1) + 0 * 10 ^ (k + 1) := by
  rw [lowD_append, hl, Nat.mod_pow_succ, Nat.mod_pow_succ, hx, hy]
  obtain ⟨z, rfl⟩ : ∃ z, x = z + y + c := ⟨x - y - c, by omega⟩
  rw [show z + y + c - y - c = z by omega]
  have : 10 ^ k * (z + y + c) = z * 10 ^ k + 10 ^ k * y + c * 10 ^ k := by rw [Nat.mul_add, Nat.mul_add, Nat.mul_comm _ z, Nat.mul_comm _ c]
  omega
theorem sub_step1 {ds : List Nat} {a b k x y c : Nat} (hl : ds.length = k) (h : lowD ds + b % 10 ^ k = a % 10 ^ k + c * 10 ^ k) (hx : a / 10 ^ k % 10 = x) (hy : b / 10 ^ k % 10 = y) (hle : x < y + c) (hc : c ≤ 1) :
    lowD (ds ++ [x + 10 - y - c]) + b % 10 ^ (k + 1) = a % 10 ^ (k + 1) + 1 * 10 ^ (k + 1) := by
  rw [lowD_append, hl, Nat.mod_pow_succ, Nat.mod_pow_succ, hx, hy, Nat.pow_succ]
  obtain ⟨z, hz⟩ : ∃ z, x + 10 = z + y + c := ⟨x + 10 - y - c, by omega⟩
  rw [show x + 10 - y - c = z by omega]
  have e : 10 ^ k * (x + 10) = 10 ^ k * (z + y + c) := by rw [hz]
  have e2 : 10 ^ k * (z + y + c) = z * 10 ^ k + 10 ^ k * y + c * 10 ^ k := by rw [Nat.mul_add, Nat.mul_add, Nat.mul_comm _ z, Nat.mul_comm _ c]
  rw [Nat.mul_add] at e
  omega
theorem sub_end {ds : List Nat} {a b k c : Nat} (hd : OkD ds) (hl : ds.length = k) (h : lowD ds + b % 10 ^ k = a % 10 ^ k + c * 10 ^ k) (ha : Lib.nDigits a = k) (hb : b ≤ a) : lowD ds = a - b := by
  have h1 : a < 10 ^ k := by rw [← ha]; exact Lib.lt_pow_nDigits a
  have h3 := lowD_lt ds hd
  rw [hl] at h3
  rw [Nat.mod_eq_of_lt h1, Nat.mod_eq_of_lt (Nat.lt_of_le_of_lt hb h1)] at h
  have : c = 0 := by
    rcases Nat.eq_zero_or_pos c with h0 | h0
    · exact h0
    · have h6 : 10 ^ k ≤ c * 10 ^ k := Nat.le_mul_of_pos_left _ h0
      omega
  subst this
  omega
end Go.Proofs.YtakicnplmcemnaaDoor

namespace Go.Proofs.YtakicnplmcemnaaDoor
open Go.RowKit Go.Siskin

theorem atD (v k : Nat) (w : World) (hm : Lib.nDigits v ≤ 100000) (hk : k ≤ 1000000) : Calls Tryd.prog 76 #[.string (dec v), .int .i64 k] w fun e w' => e = .returned (.int .i64 ((v / 10 ^ k % 10 : Nat) : Int)) ∧ w' = w :=
  l11At_any (Lib.nDigits v) v k w (by unfold maxLen; omega) (by unfold maxLen; omega) (Lib.lt_pow_nDigits v)

set_option maxRecDepth 20000 in
set_option maxHeartbeats 2000000 in
theorem l11Add_of (a b la lb : Nat) (w : World) (HLa : Hid (Lib.nDigits a = la)) (HLb : Hid (Lib.nDigits b = lb)) (ha : la ≤ 100000) (hb : lb ≤ 100000) :
    Calls Tryd.prog 37 #[.string (dec a), .string (dec b)] w fun e w' => e = .returned (.string (dec (a + b))) ∧ Below w.heap.size w w' := by
  have Hna := hid (fun (k : Nat) (w : World) (hk : k ≤ 1000000) => atD a k w (by rw [HLa.out]; exact ha) hk)
  have Hnb := hid (fun (k : Nat) (w : World) (hk : k ≤ 1000000) => atD b k w (by rw [HLb.out]; exact hb) hk)
  have hla : ((dec a).size : Int) = (la : Int) := by rw [dec_size, HLa.out]
  have hlb : ((dec b).size : Int) = (lb : Int) := by rw [dec_size, HLb.out]
  obtain ⟨i0, hi, hz0, hz1, hz2⟩ := info_partsZ Tryd.infoIntZ
  have Hi := hid hi
  have Hz0 := hid hz0
  have Hz1 := hid hz1
  have Hz2 := hid hz2
  clear hi hz0 hz1 hz2
  go_enter Tryd.func37, Tryd.ntmps37
  go_wp2_with fail
  go_loopw [5, 6, 7] (fun o c i wr => ∃ (k cy : Nat) (ds : List Nat) (ua : Option Addr) (uc : Nat), i = .int .i64 k ∧ c = .int .i64 cy ∧ o = .slice ua k uc ∧ Hid (ds.length = k) ∧ Hid (OkD ds) ∧ Hid (lowD ds + cy * 10 ^ k = a % 10 ^ k + b % 10 ^ k) ∧ cy ≤ 1 ∧ k ≤ la + lb + 1 ∧ Hid (wr.ownsRow w.heap.size 3 1 (.slice ua k uc) k (numL .i64 ds)) ∧ Hid (Below w.heap.size w wr)) (fun _ _ i _ => la + lb + 2 - (intOf i).toNat)
  case atStart => exact ⟨0, 0, [], _, 0, rfl, rfl, rfl, rfl, fun d h => by simp at h, by show _ = _; simp [lowD, Nat.mod_one], by omega, by omega, World.ownsRow_made w #[] 0 (Nat.le_refl _) (Nat.zero_le _) (by simp), (Below.refl _ _).alloc (Nat.le_refl _) _⟩
  case round =>
    obtain ⟨k, cy, ds, ua, uc, rfl, rfl, rfl, HKL, HOD, HS, hc1, hk, HU, HB⟩ := hrel
    have hsz := HB.out.size
    by_cases hgo : k < la ∨ k < lb ∨ 0 < cy
    · have hk2 : k ≤ la + lb := by
        rcases hgo with h | h | h
        · omega
        · omega
        · rcases Nat.lt_or_ge k la with h1 | h1
          · omega
          rcases Nat.lt_or_ge k lb with h2 | h2
          · omega
          exact add_more HS.out h (by rw [HLa.out]; omega) (by rw [HLb.out]; omega)
      have HCA := hid (Hna.out k)
      have HCB := hid (Hnb.out k)
      obtain ⟨x, HX⟩ : ∃ x, Hid (a / 10 ^ k % 10 = x) := ⟨_, rfl⟩
      obtain ⟨y, HY⟩ : ∃ y, Hid (b / 10 ^ k % 10 = y) := ⟨_, rfl⟩
      have hx10 : x < 10 := by rw [← HX.out]; exact Nat.mod_lt _ (by decide)
      have hy10 : y < 10 := by rw [← HY.out]; exact Nat.mod_lt _ (by decide)
      rw [HX.out] at HCA
      rw [HY.out] at HCB
      have hcase : (k < la) ∨ (¬ k < la ∧ k < lb) ∨ (¬ k < la ∧ ¬ k < lb ∧ 0 < cy) := by omega
      clear hgo
      rcases hcase with h1 | ⟨h1, h2⟩ | ⟨h1, h2, h3⟩
      all_goals
        go_wp2_with fail
        refine (HCA.out _ (by omega)).mono ?_
        rintro e w' ⟨rfl, rfl⟩
        go_wp2_with fail
        refine (HCB.out _ (by omega)).mono ?_
        rintro e w' ⟨rfl, rfl⟩
        go_wp2_with (at_builtin; refine wpList_append_lies _ rfl _ _ _ rfl w.heap.size 3 i0 (.int .i64 0) 1 8 Tryd.underlying94 Hi.out Hz0.out Hz1.out Hz2.out rfl (by decide) _ k (numL .i64 ds) rfl (HU.out.alloc _) ⟨w'.heap.size, 0, none⟩ 1 1 [.int .i64 (((x : Int) + (y : Int) + (cy : Int)) % 10)] rfl rfl (cell_one_newZ _ _ _) (by simp [Value.oneCell']) (by omega) (by unfold maxLen; omega) (by omega) (by simp; omega) (w'.heap.size + 1) (by simp) ?_; intro gg cc w4 hown' hg hat hgl; have hall := (World.grownBy_alloc w' _ _).trans hg)
        have hlow : ∀ g, (Value.slice ua k uc).ownBlock = some g → w.heap.size ≤ g := fun g e => (HU.out.lt g e).1
        refine ⟨⟨k + 1, (x + y + cy) / 10, ds ++ [(x + y + cy) % 10], some ⟨gg, 0, none⟩, cc, by go_num, by congr 1, rfl, by show _ = _; rw [List.length_append, HKL.out]; rfl, okD_snoc HOD.out (by omega), add_step HKL.out HS.out HX.out HY.out, by omega, by omega, ?_, HB.out.grown hall hsz hlow⟩, by simp [intOf]; omega⟩
        show World.ownsRow _ _ _ _ _ _ _
        rw [numL_snoc]
        simpa using hown'
    · have HT := hid (l11Text_any ds (fun b => b < wr.heap.size) (.slice ua k uc) wr (intsAt_own HU.out (by rw [HKL.out]; unfold maxLen; omega)) (fun b h => h) (by rw [HKL.out]; omega) HOD.out)
      have HV : Hid (lowD ds = a + b) := add_end HS.out (by rw [HLa.out]; omega) (by rw [HLb.out]; omega) (by omega)
      rw [HV.out] at HT
      go_wp2_with fail
      refine HT.out.mono ?_
      rintro e w2 ⟨rfl, hw⟩
      have HW := hid hw
      clear hw
      go_wp2_with fail
      go_ret
      exact ⟨rfl, HB.out.trans (HW.out.mono (by omega))⟩
theorem l11Add_any (a b : Nat) (w : World) (ha : Lib.nDigits a ≤ 100000) (hb : Lib.nDigits b ≤ 100000) :
    Calls Tryd.prog 37 #[.string (dec a), .string (dec b)] w fun e w' => e = .returned (.string (dec (a + b))) ∧ Below w.heap.size w w' :=
  l11Add_of a b _ _ w rfl rfl ha hb
end Go.Proofs.YtakicnplmcemnaaDoor

namespace Go.Siskin

theorem p9 : (1000000000 : Nat) = 10 ^ 9 := rfl
theorem p9k (k : Nat) : 1000000000 ^ k = 10 ^ (9 * k) := by rw [p9, Nat.pow_mul]
theorem p9pos (k : Nat) : 0 < 1000000000 ^ k := Nat.pow_pos (by decide)

/-- The lowest m groups of v. -/
def grpN (m v : Nat) : List Nat := (List.range m).map fun i => v / 1000000000 ^ i % 1000000000
/-- How many groups v has; nought has none. -/
def nG (v : Nat) : Nat := if v = 0 then 0 else (Lib.nDigits v - 1) / 9 + 1
/-- The groups of v. -/
def grp (v : Nat) : List Nat := grpN (nG v) v

theorem grpN_length (m v : Nat) : (grpN m v).length = m := by simp [grpN]
theorem grp_length (v : Nat) : (grp v).length = nG v := grpN_length _ _
theorem grpN_get (m v i : Nat) (h : i < (grpN m v).length) : (grpN m v)[i] = v / 1000000000 ^ i % 1000000000 := by simp [grpN]
theorem grpN_zero (v : Nat) : grpN 0 v = [] := rfl
theorem grpN_snoc (m v : Nat) : grpN (m + 1) v = grpN m v ++ [v / 1000000000 ^ m % 1000000000] := by
  unfold grpN; rw [List.range_succ, List.map_append]; rfl
theorem grpN_take (m j v : Nat) (h : j ≤ m) : (grpN m v).take j = grpN j v := by
  apply List.ext_getElem
  · simp [grpN]; omega
  · intro i h1 h2; simp [grpN]
theorem grpN_drop (m j v : Nat) : (grpN m v).drop j = grpN (m - j) (v / 1000000000 ^ j) := by
  apply List.ext_getElem
  · simp [grpN]
  · intro i h1 h2
    simp only [grpN, List.getElem_drop, List.getElem_map, List.getElem_range]
    rw [Nat.div_div_eq_div_mul, ← Nat.pow_add]

theorem nG_zero : nG 0 = 0 := rfl
theorem grp_zero : grp 0 = [] := rfl
theorem nG_pos {v : Nat} (h : 0 < v) : 0 < nG v := by unfold nG; rw [if_neg (by omega)]; omega
theorem lt_pow_nG (v : Nat) : v < 1000000000 ^ nG v := by
  by_cases h : v = 0
  · subst h; simp [nG]
  · rw [p9k]
    unfold nG; rw [if_neg h]
    refine Nat.lt_of_lt_of_le (Lib.lt_pow_nDigits v) (Nat.pow_le_pow_right (by decide) ?_)
    have := Lib.nDigits_pos v
    omega
theorem pow_le_nG {v : Nat} (h : 0 < v) : 1000000000 ^ (nG v - 1) ≤ v := by
  rw [p9k]
  unfold nG; rw [if_neg (by omega)]
  refine Nat.le_trans (Nat.pow_le_pow_right (by decide) ?_) (pow_le_dec h)
  omega
theorem nG_of {v m : Nat} (h1 : v < 1000000000 ^ m) (h2 : m = 0 ∨ 1000000000 ^ (m - 1) ≤ v) : nG v = m := by
  rcases Nat.eq_zero_or_pos v with h0 | h0
  · subst h0
    rcases h2 with h2 | h2
    · subst h2; rfl
    · have := p9pos (m - 1); omega
  · have a1 := lt_pow_nG v
    have a2 := pow_le_nG h0
    have a3 := nG_pos h0
    rcases h2 with h2 | h2
    · subst h2; simp at h1; omega
    · have b1 : 1000000000 ^ (nG v - 1) < 1000000000 ^ m := by omega
      have b2 := (Nat.pow_lt_pow_iff_right (by decide)).1 b1
      have b3 : 1000000000 ^ (m - 1) < 1000000000 ^ nG v := by omega
      have b4 := (Nat.pow_lt_pow_iff_right (by decide)).1 b3
      omega
theorem grpN_grp {v m : Nat} (h1 : v < 1000000000 ^ m) (h2 : m = 0 ∨ 1000000000 ^ (m - 1) ≤ v) : grpN m v = grp v := by unfold grp; rw [nG_of h1 h2]
theorem nG_le {v m : Nat} (h : v < 1000000000 ^ m) : nG v ≤ m := by
  rcases Nat.eq_zero_or_pos v with h0 | h0
  · subst h0; exact Nat.zero_le _
  · have a2 := pow_le_nG h0
    have a3 := nG_pos h0
    have b1 : 1000000000 ^ (nG v - 1) < 1000000000 ^ m := by omega
    have b2 := (Nat.pow_lt_pow_iff_right (by decide)).1 b1
    omega
theorem nG_mono {a b : Nat} (h : a ≤ b) : nG a ≤ nG b := nG_le (Nat.lt_of_le_of_lt h (lt_pow_nG b))
theorem nG_one {v : Nat} (h0 : 0 < v) (h : v < 1000000000) : nG v = 1 := nG_of (by simpa using h) (Or.inr (by simp; omega))
theorem grp_one {v : Nat} (h0 : 0 < v) (h : v < 1000000000) : grp v = [v] := by
  unfold grp; rw [nG_one h0 h]; simp [grpN, Nat.mod_eq_of_lt h]
theorem nG_is_zero {v : Nat} : nG v = 0 ↔ v = 0 := by
  constructor
  · intro h
    have := lt_pow_nG v
    rw [h] at this; simp at this; exact this
  · rintro rfl; rfl
/-- The greatest group is not nought. -/
theorem top_pos {v : Nat} (h : 0 < v) : 0 < v / 1000000000 ^ (nG v - 1) ∧ v / 1000000000 ^ (nG v - 1) < 1000000000 := by
  have a1 := lt_pow_nG v
  have a2 := pow_le_nG h
  have a3 := nG_pos h
  refine ⟨Nat.div_pos a2 (p9pos _), Nat.div_lt_of_lt_mul ?_⟩
  rw [← Nat.pow_succ, show (nG v - 1).succ = nG v by omega]
  exact a1
theorem top_get {v : Nat} (h : 0 < v) : v / 1000000000 ^ (nG v - 1) % 1000000000 = v / 1000000000 ^ (nG v - 1) := Nat.mod_eq_of_lt (top_pos h).2

/-- A digit out of its group. -/
theorem digit_group (v p : Nat) : v / 1000000000 ^ (p / 9) % 1000000000 / 10 ^ (p % 9) % 10 = v / 10 ^ p % 10 := by
  rw [p9k]
  obtain ⟨q, hq⟩ : ∃ q, q = p / 9 := ⟨_, rfl⟩
  obtain ⟨r, hr⟩ : ∃ r, r = p % 9 := ⟨_, rfl⟩
  rw [← hq, ← hr]
  have hp : p = 9 * q + r := by omega
  have hr9 : r < 9 := by omega
  rw [hp, Nat.pow_add, ← Nat.div_div_eq_div_mul]
  generalize v / 10 ^ (9 * q) = x
  obtain ⟨s, hs⟩ : ∃ s, 9 = r + (s + 1) := ⟨9 - r - 1, by omega⟩
  rw [p9, hs, Nat.pow_add, Nat.mod_mul_right_div_self, Nat.mod_mod_of_dvd]
  exact ⟨10 ^ s, by rw [Nat.pow_succ, Nat.mul_comm]⟩

/-- How many digits, by the greatest group. -/
theorem nDigits_top {v : Nat} (h : 0 < v) : Lib.nDigits v = 9 * (nG v - 1) + Lib.nDigits (v / 1000000000 ^ (nG v - 1)) := by
  obtain ⟨k, hk⟩ : ∃ k, k = nG v - 1 := ⟨_, rfl⟩
  have t := top_pos h
  rw [← hk] at t ⊢
  obtain ⟨x, hx⟩ : ∃ x, x = v / 1000000000 ^ k := ⟨_, rfl⟩
  rw [← hx] at t ⊢
  have hp := Lib.nDigits_pos x
  obtain ⟨d, hd⟩ : ∃ d, Lib.nDigits x = d + 1 := ⟨Lib.nDigits x - 1, by omega⟩
  have l1 := Lib.lt_pow_nDigits x
  have l2 := pow_le_dec t.1
  rw [hd] at l1 l2 ⊢
  rw [Nat.add_sub_cancel] at l2
  rw [← Nat.add_assoc]
  have hP := p9pos k
  refine Lib.nDigits_unique (9 * k + d) v ?_ ?_
  · rw [Nat.pow_add, ← p9k]
    refine Nat.le_trans (Nat.mul_le_mul_left _ l2) ?_
    rw [hx]; exact Nat.mul_div_le v _
  · rw [Nat.add_assoc, Nat.pow_add, ← p9k]
    refine Nat.lt_of_lt_of_le ?_ (Nat.mul_le_mul_left _ (Nat.succ_le_of_lt l1))
    rw [hx, Nat.mul_comm]
    have h1 := Nat.div_add_mod v (1000000000 ^ k)
    have h2 := Nat.mod_lt v hP
    rw [Nat.succ_mul, Nat.mul_comm (v / _)]; omega
/-- How many of the nine powers are not above x. -/
def nPow (x j : Nat) : Nat := ((List.range j).filter fun i => 10 ^ i ≤ x).length
theorem nPow_succ (x j : Nat) : nPow x (j + 1) = nPow x j + if 10 ^ j ≤ x then 1 else 0 := by
  unfold nPow
  rw [List.range_succ, List.filter_append, List.length_append]
  by_cases h : 10 ^ j ≤ x
  · rw [if_pos h, List.filter_cons_of_pos (by simpa using h)]; rfl
  · rw [if_neg h, List.filter_cons_of_neg (by simpa using h)]; rfl
theorem nPow_le (x : Nat) : ∀ j, nPow x j ≤ j
  | 0 => Nat.le_refl _
  | j + 1 => by
    rw [nPow_succ]
    have := nPow_le x j
    split <;> omega
theorem nPow_min {x : Nat} (h : 0 < x) : ∀ j, nPow x j = min j (Lib.nDigits x)
  | 0 => by simp [nPow]
  | j + 1 => by
    rw [nPow_succ, nPow_min h j]
    have l1 := Lib.lt_pow_nDigits x
    have l2 := pow_le_dec h
    have hp := Lib.nDigits_pos x
    by_cases hj : 10 ^ j ≤ x
    · rw [if_pos hj]
      have : 10 ^ j < 10 ^ Lib.nDigits x := by omega
      have := (Nat.pow_lt_pow_iff_right (by decide)).1 this
      omega
    · rw [if_neg hj]
      have : 10 ^ (Lib.nDigits x - 1) < 10 ^ j := by omega
      have := (Nat.pow_lt_pow_iff_right (by decide)).1 this
      omega
theorem nPow_nine {x : Nat} (h : 0 < x) (h9 : x < 1000000000) : nPow x 9 = Lib.nDigits x := by
  rw [nPow_min h]
  have := nDigits_le (v := x) (m := 9) (by rw [← p9]; exact h9) (by decide)
  omega
end Go.Siskin

namespace Go.Proofs.YtakicnplmcemnaaDoor
open Go.RowKit Go.Siskin

theorem nG_lim {x : Nat} (h : nG x ≤ 1000) : (nG x : Int) ≤ 1000 := by omega

set_option maxHeartbeats 400000 in
theorem isNought_any (x : Nat) (v : Value) (w : World) (h : NatA w v (grp x)) :
    Calls Tryd.prog 50 #[v] w fun e w' => e = .returned (.bool (x == 0)) ∧ w' = w := by
  obtain ⟨a, cap, rfl, h1, h2, h3⟩ := h
  rw [grp_length] at *
  have HE : Hid ((x == 0) = ((nG x : Int) == 0)) := by
    show _ = _
    rw [Bool.eq_iff_iff]
    have := @nG_is_zero x
    simp; omega
  unfold maxLen at h2
  clear h3
  go_enter Tryd.func50, Tryd.ntmps50
  go_wp2_with fail
  go_ret
  exact ⟨ret_boolz HE.out.symm, rfl⟩

set_option maxHeartbeats 400000 in
theorem isOne_any (x : Nat) (v : Value) (w : World) (h : NatA w v (grp x)) :
    Calls Tryd.prog 75 #[v] w fun e w' => e = .returned (.bool (x == 1)) ∧ w' = w := by
  obtain ⟨a, cap, rfl, h1, h2, h3⟩ := h
  have HG := hid (grpN_get (nG x) x)
  rw [grp_length] at *
  unfold maxLen at h2
  by_cases h1x : nG x = 1
  · have hb : ((nG x : Int) == 1) = true := by rw [h1x]; rfl
    rcases h3 with h3 | ⟨b, o, rfl, -, h3⟩
    · have := congrArg List.length h3; rw [grp_length, h1x] at this; simp at this
    have hx0 : 0 < x := by
      rcases Nat.eq_zero_or_pos x with h | h
      · subst h; simp [nG] at h1x
      · exact h
    have hxs := lt_pow_nG x
    rw [h1x, Nat.pow_one] at hxs
    have g : w.cell? ⟨b, o, none⟩ = some (.int .u64 (x : Int)) := by
      have h := h3 0 (by rw [grp_length]; omega)
      rw [Nat.add_zero] at h
      rw [h]
      unfold grp; rw [HG.out]; simp [Nat.mod_eq_of_lt hxs]
    have hpos : 0 < nG x := by omega
    clear h3 h1x HG
    go_enter Tryd.func75, Tryd.ntmps75
    go_wp2_with fail
    go_ret
    exact ⟨ret_boolz (by rw [Bool.eq_iff_iff]; simp; omega), rfl⟩
  · have hb : ((nG x : Int) == 1) = false := by rw [beq_eq_false_iff_ne]; omega
    have HE : Hid ((x == 1) = false) := by
      show _ = _
      rw [beq_eq_false_iff_ne]; rintro rfl; exact h1x (nG_one (by decide) (by decide))
    clear h3 HG
    go_enter Tryd.func75, Tryd.ntmps75
    go_wp2_with fail
    go_ret
    exact ⟨ret_boolz HE.out.symm, rfl⟩

set_option maxHeartbeats 1000000 in
theorem trimmed_row (B : Nat → Prop) (m x : Nat) (v : Value) (w : World) (h : RowOf .u64 B w v (grpN m x)) (hx : x < 1000000000 ^ m) :
    Calls Tryd.prog 94 #[v] w fun e w' => ∃ u, e = .returned u ∧ RowOf .u64 B w' u (grp x) ∧ w' = w := by
  obtain ⟨a, cap, rfl, h1, h2, h3⟩ := h
  have HG := hid (grpN_get m x)
  have HN := hid h3
  rw [grpN_length] at *
  unfold maxLen at h2
  have HX := hid hx
  clear h3 hx
  go_enter Tryd.func94, Tryd.ntmps94
  go_wp2_with fail
  go_loop [0] (fun n => ∃ j : Nat, j ≤ m ∧ n = .slice a j cap ∧ Hid (x < 1000000000 ^ j)) (fun n => match n with | .slice _ j _ => j | _ => 0)
  case atStart => exact ⟨m, Nat.le_refl _, rfl, HX.out⟩
  case round =>
    obtain ⟨j, hj, rfl, HJ⟩ := hrel
    have HEnd : Hid ((j = 0 ∨ 1000000000 ^ (j - 1) ≤ x) → RowOf .u64 B w (.slice a j cap) (grp x)) := fun hh => by
      have e := grpN_grp HJ.out hh
      rw [← e]
      refine ⟨a, cap, by rw [grpN_length], by rw [grpN_length]; omega, by unfold maxLen; omega, ?_⟩
      rcases HN.out with h | ⟨b, o, e1, hb, h⟩
      · left
        have := congrArg List.length h; rw [grpN_length] at this; simp at this
        have : j = 0 := by omega
        subst this; rfl
      · refine Or.inr ⟨b, o, e1, hb, fun i hi => ?_⟩
        rw [grpN_length] at hi
        rw [h i (by rw [grpN_length]; omega), grpN_get, grpN_get]
    by_cases h0 : j = 0
    · subst h0
      go_wp2_with fail
      go_ret
      exact ⟨_, rfl, HEnd.out (by simp), rfl⟩
    · have hj0 : 0 < j := by omega
      rcases HN.out with h | ⟨b, o, rfl, hb, h⟩
      · have := congrArg List.length h; rw [grpN_length] at this; simp at this; omega
      have g := h (j - 1) (by rw [grpN_length]; omega)
      rw [grpN_get, show o + (j - 1) = o + (j - 1) from rfl] at g
      clear h hb
      obtain ⟨i, rfl⟩ : ∃ i, j = i + 1 := ⟨j - 1, by omega⟩
      rw [Nat.add_sub_cancel] at g
      obtain ⟨y, HY⟩ : ∃ y, Hid (x / 1000000000 ^ i % 1000000000 = y) := ⟨_, rfl⟩
      rw [HY.out] at g
      by_cases hy : y = 0
      · subst hy
        have HJ2 : Hid (x < 1000000000 ^ i) := by
          have h1 := HJ.out
          rw [Nat.pow_succ] at h1
          have h2 : x / 1000000000 ^ i < 1000000000 := Nat.div_lt_of_lt_mul h1
          have h3 := HY.out
          rw [Nat.mod_eq_of_lt h2] at h3
          have hp := p9pos i
          rcases Nat.lt_or_ge x (1000000000 ^ i) with h | h
          · exact h
          · have := Nat.div_pos h hp; omega
        go_wp2_with fail
        go_round
        case rel => exact ⟨i, by omega, by congr 1, HJ2⟩
        case measure => simp
      · have hyb : ((y : Int) == 0) = false := by rw [beq_eq_false_iff_ne]; omega
        have HE2 : Hid (RowOf .u64 B w (.slice (some ⟨b, o, none⟩) (i + 1) cap) (grp x)) := HEnd.out (Or.inr (by
          rw [Nat.add_sub_cancel]
          rcases Nat.lt_or_ge x (1000000000 ^ i) with h | h
          · have := HY.out; rw [Nat.div_eq_of_lt h] at this; simp at this; omega
          · exact h))
        clear hy
        go_wp2_with fail
        go_ret
        exact ⟨_, rfl, HE2.out, rfl⟩
theorem trimmed_any (m x : Nat) (v : Value) (w : World) (h : NatA w v (grpN m x)) (hx : x < 1000000000 ^ m) :
    Calls Tryd.prog 94 #[v] w fun e w' => ∃ u, e = .returned u ∧ NatA w' u (grp x) ∧ w' = w := by
  refine (trimmed_row (fun b => b < w.heap.size) m x v w h hx).mono ?_
  rintro e w' ⟨u, rfl, h1, rfl⟩
  exact ⟨u, rfl, h1, rfl⟩

set_option maxRecDepth 20000 in
set_option maxHeartbeats 1000000 in
theorem naturalOf_any (x : Nat) (w : World) (hx : x ≤ 18446744073709551615) :
    Calls Tryd.prog 39 #[.int .u64 x] w fun e w' => ∃ u, e = .returned u ∧ NatA w' u (grp x) ∧ Below w.heap.size w w' := by
  obtain ⟨i0, hi, hz0, hz1, hz2⟩ := info_partsZ Tryd.infoWordZ
  have Hi := hid hi
  have Hz0 := hid hz0
  have Hz1 := hid hz1
  have Hz2 := hid hz2
  clear hi hz0 hz1 hz2
  have HX := hid hx
  clear hx
  go_enter Tryd.func39, Tryd.ntmps39
  go_wp2_with fail
  go_loopw [0, 3] (fun z n wr => ∃ (k y : Nat) (ua : Option Addr) (uc : Nat), z = .int .u64 y ∧ n = .slice ua k uc ∧ Hid (x / 1000000000 ^ k = y) ∧ k ≤ 3 ∧ Hid (k = 0 ∨ 1000000000 ^ (k - 1) ≤ x) ∧ Hid (wr.ownsRow w.heap.size 52 1 (.slice ua k uc) k (numL .u64 (grpN k x))) ∧ Hid (Below w.heap.size w wr)) (fun _ n _ => match n with | .slice _ j _ => 3 - j | _ => 0)
  case atStart => exact ⟨0, x, none, 0, rfl, rfl, by show _ = _; simp, by omega, Or.inl rfl, World.ownsRow_nil _ _ _ _, Below.refl _ _⟩
  case round =>
    obtain ⟨k, y, ua, uc, rfl, rfl, HY, hk3, HT, HU, HB⟩ := hrel
    have hsz := HB.out.size
    by_cases hy : 0 < y
    · have hk : k < 3 := by
        rcases Nat.lt_or_ge k 3 with h | h
        · exact h
        · exfalso
          have hk3 : k = 3 := by omega
          subst hk3
          have h1 := HY.out
          have h2 := HX.out
          rw [Nat.div_eq_of_lt (by simp; omega)] at h1
          omega
      have HT2 : Hid (1000000000 ^ k ≤ x) := by
        rcases Nat.lt_or_ge x (1000000000 ^ k) with h | h
        · have := HY.out; rw [Nat.div_eq_of_lt h] at this; omega
        · exact h
      have hyl : y ≤ 18446744073709551615 := by rw [← HY.out]; exact Nat.le_trans (Nat.div_le_self _ _) HX.out
      have hw1 : IntKind.u64.wrap ((y : Int).tmod 1000000000) = (y : Int) % 1000000000 := by
        rw [Int.tmod_eq_emod_of_nonneg (by omega)]; simp [IntKind.wrap, IntKind.bits, IntKind.signed]; omega
      have hw2 : IntKind.u64.wrap ((y : Int).tdiv 1000000000) = (y : Int) / 1000000000 := by
        rw [Int.tdiv_eq_ediv_of_nonneg (by omega)]; simp [IntKind.wrap, IntKind.bits, IntKind.signed]; omega
      have HYL := hid hyl
      clear hyl
      go_wp2_with (at_builtin; refine wpList_append_lies _ rfl _ _ _ rfl w.heap.size 52 i0 (.int .u64 0) 1 8 Tryd.underlying44 Hi.out Hz0.out Hz1.out Hz2.out rfl (by decide) _ k (numL .u64 (grpN k x)) rfl (HU.out.alloc _) ⟨wr.heap.size, 0, none⟩ 1 1 [.int .u64 ((y : Int) % 1000000000)] rfl rfl (cell_one_newZ _ _ _) (by simp [Value.oneCell']) (by omega) (by unfold maxLen; omega) (by omega) (by simp; omega) (wr.heap.size + 1) (by simp) ?_; intro gg cc w4 hown' hg hat hgl; have hall := (World.grownBy_alloc wr _ _).trans hg)
      have hlow : ∀ g, (Value.slice ua k uc).ownBlock = some g → w.heap.size ≤ g := fun g e => (HU.out.lt g e).1
      have e2 : ((x / 1000000000 ^ k % 1000000000 : Nat) : Int) = (y : Int) % 1000000000 := by rw [HY.out]; omega
      refine ⟨⟨k + 1, y / 1000000000, some ⟨gg, 0, none⟩, cc, by congr 1, rfl, by show _ = _; rw [Nat.pow_succ, ← Nat.div_div_eq_div_mul, HY.out], by omega, Or.inr (by rw [Nat.add_sub_cancel]; exact HT2.out), ?_, HB.out.grown hall hsz hlow⟩, by simp; omega⟩
      show World.ownsRow _ _ _ _ _ _ _
      rw [grpN_snoc, numL_snoc, e2]
      exact hown'
    · obtain rfl : y = 0 := by omega
      have HE := hid (grpN_grp (v := x) (m := k) (by
        have h := HY.out
        rcases Nat.lt_or_ge x (1000000000 ^ k) with h' | h'
        · exact h'
        · have := Nat.div_pos h' (p9pos k); omega) HT.out)
      go_wp2_with fail
      go_ret
      refine ⟨_, rfl, ?_, HB.out⟩
      have := natA_own HU.out
      rw [HE.out] at this
      exact this
end Go.Proofs.YtakicnplmcemnaaDoor

namespace Go.Proofs.YtakicnplmcemnaaDoor
open Go.RowKit Go.Siskin

/-- One digit more: its group alone turns. -/
theorem put_digit (M u p d : Nat) (hd : d < 10) : grpN M (10 ^ (p + 1) * u + d * 10 ^ p) = (grpN M (10 ^ (p + 1) * u)).set (p / 9) (10 ^ (p + 1) * u / 1000000000 ^ (p / 9) % 1000000000 + d * 10 ^ (p % 9)) := by
  obtain ⟨q, hq⟩ : ∃ q, p / 9 = q := ⟨_, rfl⟩
  obtain ⟨r, hr⟩ : ∃ r, p % 9 = r := ⟨_, rfl⟩
  have hp : p = 9 * q + r := by omega
  have hr9 : r < 9 := by omega
  rw [hq, hr]

  have e0 : 10 ^ (p + 1) * u + d * 10 ^ p = 10 ^ p * (10 * u + d) := by
    rw [Nat.pow_succ, Nat.mul_add, Nat.mul_comm d, Nat.mul_assoc]
  have e1 : 10 ^ (p + 1) * u = 10 ^ p * (10 * u) := by rw [Nat.pow_succ, Nat.mul_assoc]
  have key : ∀ y k, k < q → 10 ^ p * y / 1000000000 ^ k % 1000000000 = 0 := by
    intro y k hk
    rw [p9k]
    obtain ⟨s, hs⟩ : ∃ s, p = 9 * k + (9 + s) := ⟨p - 9 * k - 9, by omega⟩
    rw [hs, Nat.pow_add, Nat.mul_assoc, Nat.mul_div_cancel_left _ (Nat.pow_pos (by decide)), Nat.pow_add, Nat.mul_assoc, p9, Nat.mul_mod_right]
  have key2 : ∀ k, q < k → 10 ^ p * (10 * u + d) / 1000000000 ^ k = 10 ^ p * (10 * u) / 1000000000 ^ k := by
    intro k hk
    rw [p9k]
    obtain ⟨s, hs⟩ : ∃ s, 9 * k = p + (s + 1) := ⟨9 * k - p - 1, by omega⟩
    rw [hs, Nat.pow_add, ← Nat.div_div_eq_div_mul, ← Nat.div_div_eq_div_mul, Nat.mul_div_cancel_left _ (Nat.pow_pos (by decide)), Nat.mul_div_cancel_left _ (Nat.pow_pos (by decide)), Nat.pow_succ, Nat.mul_comm (10 ^ s), ← Nat.div_div_eq_div_mul, ← Nat.div_div_eq_div_mul]
    congr 1
    omega
  have key3 : 10 ^ p * (10 * u + d) / 1000000000 ^ q % 1000000000 = 10 ^ p * (10 * u) / 1000000000 ^ q % 1000000000 + d * 10 ^ r := by
    rw [p9k, hp, Nat.pow_add, Nat.mul_assoc, Nat.mul_assoc, Nat.mul_div_cancel_left _ (Nat.pow_pos (by decide)), Nat.mul_div_cancel_left _ (Nat.pow_pos (by decide))]
    obtain ⟨s, hs⟩ : ∃ s, 9 = r + (s + 1) := ⟨9 - r - 1, by omega⟩
    rw [p9, hs, Nat.pow_add, Nat.mul_mod_mul_left, Nat.mul_mod_mul_left, Nat.pow_succ, Nat.mul_comm (10 ^ s) 10, Nat.mul_mod_mul_left]
    have e : (10 * u + d) % (10 * 10 ^ s) = 10 * (u % 10 ^ s) + d := by
      rw [Nat.mod_mul]
      have a1 : (10 * u + d) % 10 = d := by omega
      have a2 : (10 * u + d) / 10 = u := by omega
      rw [a1, a2]; omega
    rw [e, Nat.mul_add, Nat.mul_comm (10 ^ r) d]
  rw [e0, e1]
  apply List.ext_getElem
  · simp [grpN]
  · intro k h1 h2
    rw [grpN_get, List.getElem_set]
    by_cases hk : q = k
    · subst hk
      rw [if_pos rfl]; exact key3
    · rw [if_neg hk, grpN_get]
      rcases Nat.lt_or_ge k q with h | h
      · rw [key _ k h, key _ k h]
      · rw [key2 k (by omega)]
/-- What the first digits tell. -/
theorem first_digits {v n i : Nat} (hi : i < n) : v / 10 ^ (n - (i + 1)) * 10 ^ (n - (i + 1)) = 10 ^ (n - 1 - i + 1) * (v / 10 ^ (n - i)) + v / 10 ^ (n - 1 - i) % 10 * 10 ^ (n - 1 - i) ∧ v / 10 ^ (n - i) * 10 ^ (n - i) = 10 ^ (n - 1 - i + 1) * (v / 10 ^ (n - i)) := by
  obtain ⟨k, hk⟩ : ∃ k, n - (i + 1) = k := ⟨_, rfl⟩
  rw [hk, show n - i = k + 1 by omega, show n - 1 - i = k by omega]
  refine ⟨?_, by rw [Nat.mul_comm]⟩
  rw [Nat.pow_succ, ← Nat.div_div_eq_div_mul]
  generalize v / 10 ^ k = y
  have h : y = 10 * (y / 10) + y % 10 := by omega
  have e : 10 ^ k * 10 * (y / 10) = 10 * (y / 10) * 10 ^ k := by rw [Nat.mul_assoc, Nat.mul_comm]
  rw [e, ← Nat.add_mul, ← h]

/-- A block of groups, all of it written by the call. -/
def GrA (w : World) (b : Nat) (ls : List Nat) : Prop := Own w b 52 (numL .u64 ls).toArray
theorem GrA.get {w : World} {b : Nat} {ls : List Nat} (h : GrA w b ls) (i : Nat) (hi : i < ls.length) : w.cell? ⟨b, i, none⟩ = some (.int .u64 (ls[i] : Int)) := by
  rw [Own.cell h i]
  rw [List.getElem?_toArray]
  exact numL_get .u64 ls i hi
theorem GrA.set {w : World} {b : Nat} {ls : List Nat} (h : GrA w b ls) (i x : Nat) : GrA (w.setCell ⟨b, i, none⟩ (.int .u64 (x : Int))) b (ls.set i x) := by
  have := Own.set h i (.int .u64 (x : Int))
  unfold GrA
  rw [numL_set]
  simpa using this
theorem GrA.keep {w w' : World} {b N : Nat} {ls : List Nat} (h : GrA w b ls) (hb : Below N w w') (hN : b < N) : GrA w' b ls := Own.keep h hb hN
theorem GrA.frozen {w : World} {b : Nat} {ls : List Nat} (h : GrA w b ls) (i : Nat) : w.frozen? ⟨b, i, none⟩ = false := Own.frozen h i
theorem GrA.natA {w : World} {b cap : Nat} {ls : List Nat} (h : GrA w b ls) (h1 : ls.length ≤ cap) (h2 : cap ≤ maxLen) : NatA w (.slice (some ⟨b, 0, none⟩) ls.length cap) ls :=
  ⟨some ⟨b, 0, none⟩, cap, rfl, h1, h2, Or.inr ⟨b, 0, rfl, Own.lt h, fun i hi => by rw [Nat.zero_add]; exact h.get i hi⟩⟩
theorem GrA.lt {w : World} {b : Nat} {ls : List Nat} (h : GrA w b ls) : b < w.heap.size := Own.lt h
theorem made_zero (w : World) (n : Nat) : GrA (w.alloc (.cells (madeCells #[Value.int .u64 0] n) 52)) w.heap.size (grpN n 0) := by
  have h := own_new w (madeCells #[Value.int .u64 0] n) 52
  unfold GrA
  have e : (numL .u64 (grpN n 0)).toArray = madeCells #[Value.int .u64 0] n := by
    apply Array.ext
    · simp [numL, grpN, size_madeCells]
    · intro i h1 h2
      simp [numL, grpN, madeCells, Nat.mod_one]
  rw [e]; exact h
end Go.Proofs.YtakicnplmcemnaaDoor
