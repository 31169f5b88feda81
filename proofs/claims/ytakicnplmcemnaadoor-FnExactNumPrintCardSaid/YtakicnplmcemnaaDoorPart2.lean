/-
  Plain numbers: digits from the right under adding, taking away; what carrying comes to. No program is named.
  The model's l11Add: the sum of two numbers in decimal digits. Condition: the two are numerals of at most 100,000 digits.
  The model's l11Sub: what is left when a number is taken from one that is not less. Condition: numerals of at most 100,000 digits.
  The model's l11Cmp over numerals: which number is less.
  The model's l11Div and l11Gcd: dividing numerals, and what divides both. Condition: numerals of at most 10,000 digits.
  The model's l11Div: what comes of dividing numerals, and what is left. Condition: numerals of at most 10,000 digits, the second above nought.
-/
import Derived.Test.YtakicnplmcemnaaDoorPart1
namespace Go.Proofs.YtakicnplmcemnaaDoor
open Go.RowKit Go.Siskin

theorem okD_snoc {ds : List Nat} {x : Nat} (h : OkD ds) (hx : x < 10) : OkD (ds ++ [x]) := by
  intro d hd
  rcases List.mem_append.1 hd with hd | hd
  · exact h d hd
  · simp at hd; omega
theorem add_step {ds : List Nat} {a b k x y c : Nat} (hl : ds.length = k) (h : lowD ds + c * 10 ^ k = a % 10 ^ k + b % 10 ^ k) (hx : a / 10 ^ k % 10 = x) (hy : b / 10 ^ k % 10 = y) :
    lowD (ds ++ [(x + y + c) % 10]) + (x + y + c) / 10 * 10 ^ (k + 1) = a % 10 ^ (k + 1) + b % 10 ^ (k + 1) := by
  rw [lowD_append, hl, Nat.mod_pow_succ, Nat.mod_pow_succ, hx, hy, Nat.pow_succ]
  have e : (x + y + c) % 10 * 10 ^ k + (x + y + c) / 10 * (10 ^ k * 10) = (x + y + c) * 10 ^ k := by
    rw [Nat.mul_comm (10 ^ k) 10, ← Nat.mul_assoc, ← Nat.add_mul]
    congr 1; omega
  have e2 : (x + y + c) * 10 ^ k = 10 ^ k * x + 10 ^ k * y + c * 10 ^ k := by
    rw [Nat.add_mul, Nat.add_mul, Nat.mul_comm x, Nat.mul_comm y]
  omega
theorem add_more {ds : List Nat} {a b k c M : Nat} (h : lowD ds + c * 10 ^ k = a % 10 ^ k + b % 10 ^ k) (hc : 0 < c) (hM1 : Lib.nDigits a ≤ M) (hM2 : Lib.nDigits b ≤ M) : k ≤ M := by
  rcases Nat.lt_or_ge M k with hk | hk
  · exfalso
    have h1 : a < 10 ^ M := Nat.lt_of_lt_of_le (Lib.lt_pow_nDigits a) (Nat.pow_le_pow_right (by decide) hM1)
    have h2 : b < 10 ^ M := Nat.lt_of_lt_of_le (Lib.lt_pow_nDigits b) (Nat.pow_le_pow_right (by decide) hM2)
    have h3 : 10 ^ (M + 1) ≤ 10 ^ k := Nat.pow_le_pow_right (by decide) hk
    rw [Nat.pow_succ] at h3
    have h4 := Nat.mod_le a (10 ^ k)
    have h5 := Nat.mod_le b (10 ^ k)
    have h6 : 10 ^ k ≤ c * 10 ^ k := Nat.le_mul_of_pos_left _ hc
    omega
  · exact hk
theorem add_end {ds : List Nat} {a b k c : Nat} (h : lowD ds + c * 10 ^ k = a % 10 ^ k + b % 10 ^ k) (ha : Lib.nDigits a ≤ k) (hb : Lib.nDigits b ≤ k) (hc : c = 0) : lowD ds = a + b := by
  have h1 : a < 10 ^ k := Nat.lt_of_lt_of_le (Lib.lt_pow_nDigits a) (Nat.pow_le_pow_right (by decide) ha)
  have h2 : b < 10 ^ k := Nat.lt_of_lt_of_le (Lib.lt_pow_nDigits b) (Nat.pow_le_pow_right (by decide) hb)
  rw [Nat.mod_eq_of_lt h1, Nat.mod_eq_of_lt h2, hc] at h
  omega
theorem sub_step0 {ds : List Nat} {a b k x y c : Nat} (hl : ds.length = k) (h : lowD ds + b % 10 ^ k = a % 10 ^ k + c * 10 ^ k) (hx : a / 10 ^ k % 10 = x) (hy : b / 10 ^ k % 10 = y) (hle : y + c ≤ x) :
    lowD (ds ++ [x - y - c]) + b % 10 ^ (k + 1) = a % 10 ^ (k + 1) + 0 * 10 ^ (k + 1) := by
  rw [lowD_append, hl, Nat.mod_pow_succ, Nat.mod_pow_succ, hx, hy]
  obtain ⟨z, rfl⟩ : ∃ z, x = z + y + c := ⟨x - y - c, by omega⟩
  rw [show z + y + c - y - c = z by omega]
  have : 10 ^ k * (z + y + c) = z * 10 ^ k + 10 ^ k * y + c * 10 ^ k := by rw [Nat.mul_add, Nat.mul_add, Nat.mul_comm _ z, Nat.mul_comm _ c]
  omega
theorem sub_step1 {ds : List Nat} {a b k x y c : Nat} (hl : ds.length = k) (h : lowD ds + b % 10 ^ k = a % 10 ^ k + c * 10 ^ k) (hx : a / 10 ^ k % 10 = x) (hy : b / 10 ^ k % 10 = y) (hle : x < y + c) (hc : c ≤ 1) :
    lowD (ds ++ [x + 10 - y - c]) + b % 10 ^ (k + 1) = a % 10 ^ (k + 1) + 1 * 10 ^ (k + 1) := by
  rw [lowD_append, hl, Nat.mod_pow_succ, Nat.mod_pow_succ, hx, hy, Nat.pow_succ]
  obtain ⟨z, hz⟩ : ∃ z, x + 10 = z + y + c := ⟨x + 10 - y - c, by omega⟩
  rw [show x + 10 - y - c = z by omega]
  have e : 10 ^ k * (x + 10) = 10 ^ k * (z + y + c) := by rw [hz]
  have e2 : 10 ^ k * (z + y + c) = z * 10 ^ k + 10 ^ k * y + c * 10 ^ k := by rw [Nat.mul_add, Nat.mul_add, Nat.mul_comm _ z, Nat.mul_comm _ c]
  rw [Nat.mul_add] at e
  omega
theorem sub_end {ds : List Nat} {a b k c : Nat} (hd : OkD ds) (hl : ds.length = k) (h : lowD ds + b % 10 ^ k = a % 10 ^ k + c * 10 ^ k) (ha : Lib.nDigits a = k) (hb : b ≤ a) : lowD ds = a - b := by
  have h1 : a < 10 ^ k := by rw [← ha]; exact Lib.lt_pow_nDigits a
  have h3 := lowD_lt ds hd
  rw [hl] at h3
  rw [Nat.mod_eq_of_lt h1, Nat.mod_eq_of_lt (Nat.lt_of_le_of_lt hb h1)] at h
  have : c = 0 := by
    rcases Nat.eq_zero_or_pos c with h0 | h0
    · exact h0
    · have h6 : 10 ^ k ≤ c * 10 ^ k := Nat.le_mul_of_pos_left _ h0
      omega
  subst this
  omega
end Go.Proofs.YtakicnplmcemnaaDoor

namespace Go.Proofs.YtakicnplmcemnaaDoor
open Go.RowKit Go.Siskin

theorem atD (v k : Nat) (w : World) (hm : Lib.nDigits v ≤ 100000) (hk : k ≤ 1000000) : Calls Tryd.prog 76 #[.string (dec v), .int .i64 k] w fun e w' => e = .returned (.int .i64 ((v / 10 ^ k % 10 : Nat) : Int)) ∧ w' = w :=
  l11At_any (Lib.nDigits v) v k w (by unfold maxLen; omega) (by unfold maxLen; omega) (Lib.lt_pow_nDigits v)

set_option maxRecDepth 20000 in
set_option maxHeartbeats 2000000 in
theorem l11Add_of (a b la lb : Nat) (w : World) (HLa : Hid (Lib.nDigits a = la)) (HLb : Hid (Lib.nDigits b = lb)) (ha : la ≤ 100000) (hb : lb ≤ 100000) :
    Calls Tryd.prog 37 #[.string (dec a), .string (dec b)] w fun e w' => e = .returned (.string (dec (a + b))) ∧ Below w.heap.size w w' := by
  have Hna := hid (fun (k : Nat) (w : World) (hk : k ≤ 1000000) => atD a k w (by rw [HLa.out]; exact ha) hk)
  have Hnb := hid (fun (k : Nat) (w : World) (hk : k ≤ 1000000) => atD b k w (by rw [HLb.out]; exact hb) hk)
  have hla : ((dec a).size : Int) = (la : Int) := by rw [dec_size, HLa.out]
  have hlb : ((dec b).size : Int) = (lb : Int) := by rw [dec_size, HLb.out]
  obtain ⟨i0, hi, hz0, hz1, hz2⟩ := info_partsZ Tryd.infoIntZ
  have Hi := hid hi
  have Hz0 := hid hz0
  have Hz1 := hid hz1
  have Hz2 := hid hz2
  clear hi hz0 hz1 hz2
  go_enter Tryd.func37, Tryd.ntmps37
  go_wp2_with fail
  go_loopw [5, 6, 7] (fun o c i wr => ∃ (k cy : Nat) (ds : List Nat) (ua : Option Addr) (uc : Nat), i = .int .i64 k ∧ c = .int .i64 cy ∧ o = .slice ua k uc ∧ Hid (ds.length = k) ∧ Hid (OkD ds) ∧ Hid (lowD ds + cy * 10 ^ k = a % 10 ^ k + b % 10 ^ k) ∧ cy ≤ 1 ∧ k ≤ la + lb + 1 ∧ Hid (wr.ownsRow w.heap.size 3 1 (.slice ua k uc) k (numL .i64 ds)) ∧ Hid (Below w.heap.size w wr)) (fun _ _ i _ => la + lb + 2 - (intOf i).toNat)
  case atStart => exact ⟨0, 0, [], _, 0, rfl, rfl, rfl, rfl, fun d h => by simp at h, by show _ = _; simp [lowD, Nat.mod_one], by omega, by omega, World.ownsRow_made w #[] 0 (Nat.le_refl _) (Nat.zero_le _) (by simp), (Below.refl _ _).alloc (Nat.le_refl _) _⟩
  case round =>
    obtain ⟨k, cy, ds, ua, uc, rfl, rfl, rfl, HKL, HOD, HS, hc1, hk, HU, HB⟩ := hrel
    have hsz := HB.out.size
    by_cases hgo : k < la ∨ k < lb ∨ 0 < cy
    · have hk2 : k ≤ la + lb := by
        rcases hgo with h | h | h
        · omega
        · omega
        · rcases Nat.lt_or_ge k la with h1 | h1
          · omega
          rcases Nat.lt_or_ge k lb with h2 | h2
          · omega
          exact add_more HS.out h (by rw [HLa.out]; omega) (by rw [HLb.out]; omega)
      have HCA := hid (Hna.out k)
      have HCB := hid (Hnb.out k)
      obtain ⟨x, HX⟩ : ∃ x, Hid (a / 10 ^ k % 10 = x) := ⟨_, rfl⟩
      obtain ⟨y, HY⟩ : ∃ y, Hid (b / 10 ^ k % 10 = y) := ⟨_, rfl⟩
      have hx10 : x < 10 := by rw [← HX.out]; exact Nat.mod_lt _ (by decide)
      have hy10 : y < 10 := by rw [← HY.out]; exact Nat.mod_lt _ (by decide)
      rw [HX.out] at HCA
      rw [HY.out] at HCB
      have hcase : (k < la) ∨ (¬ k < la ∧ k < lb) ∨ (¬ k < la ∧ ¬ k < lb ∧ 0 < cy) := by omega
      clear hgo
      rcases hcase with h1 | ⟨h1, h2⟩ | ⟨h1, h2, h3⟩
      all_goals
        go_wp2_with fail
        refine (HCA.out _ (by omega)).mono ?_
        rintro e w' ⟨rfl, rfl⟩
        go_wp2_with fail
        refine (HCB.out _ (by omega)).mono ?_
        rintro e w' ⟨rfl, rfl⟩
        go_wp2_with (at_builtin; refine wpList_append_lies _ rfl _ _ _ rfl w.heap.size 3 i0 (.int .i64 0) 1 8 Tryd.underlying94 Hi.out Hz0.out Hz1.out Hz2.out rfl (by decide) _ k (numL .i64 ds) rfl (HU.out.alloc _) ⟨w'.heap.size, 0, none⟩ 1 1 [.int .i64 (((x : Int) + (y : Int) + (cy : Int)) % 10)] rfl rfl (cell_one_newZ _ _ _) (by simp [Value.oneCell']) (by omega) (by unfold maxLen; omega) (by omega) (by simp; omega) (w'.heap.size + 1) (by simp) ?_; intro gg cc w4 hown' hg hat hgl; have hall := (World.grownBy_alloc w' _ _).trans hg)
        have hlow : ∀ g, (Value.slice ua k uc).ownBlock = some g → w.heap.size ≤ g := fun g e => (HU.out.lt g e).1
        refine ⟨⟨k + 1, (x + y + cy) / 10, ds ++ [(x + y + cy) % 10], some ⟨gg, 0, none⟩, cc, by go_num, by congr 1, rfl, by show _ = _; rw [List.length_append, HKL.out]; rfl, okD_snoc HOD.out (by omega), add_step HKL.out HS.out HX.out HY.out, by omega, by omega, ?_, HB.out.grown hall hsz hlow⟩, by simp [intOf]; omega⟩
        show World.ownsRow _ _ _ _ _ _ _
        rw [numL_snoc]
        simpa using hown'
    · have HT := hid (l11Text_any ds (fun b => b < wr.heap.size) (.slice ua k uc) wr (intsAt_own HU.out (by rw [HKL.out]; unfold maxLen; omega)) (fun b h => h) (by rw [HKL.out]; omega) HOD.out)
      have HV : Hid (lowD ds = a + b) := add_end HS.out (by rw [HLa.out]; omega) (by rw [HLb.out]; omega) (by omega)
      rw [HV.out] at HT
      go_wp2_with fail
      refine HT.out.mono ?_
      rintro e w2 ⟨rfl, hw⟩
      have HW := hid hw
      clear hw
      go_wp2_with fail
      go_ret
      exact ⟨rfl, HB.out.trans (HW.out.mono (by omega))⟩
theorem l11Add_any (a b : Nat) (w : World) (ha : Lib.nDigits a ≤ 100000) (hb : Lib.nDigits b ≤ 100000) :
    Calls Tryd.prog 37 #[.string (dec a), .string (dec b)] w fun e w' => e = .returned (.string (dec (a + b))) ∧ Below w.heap.size w w' :=
  l11Add_of a b _ _ w rfl rfl ha hb
end Go.Proofs.YtakicnplmcemnaaDoor

namespace Go.Proofs.YtakicnplmcemnaaDoor
open Go.RowKit Go.Siskin

set_option maxRecDepth 20000 in
set_option maxHeartbeats 2000000 in
theorem l11Sub_of (a b la : Nat) (w : World) (HLa : Hid (Lib.nDigits a = la)) (ha : la ≤ 100000) (hab : b ≤ a) :
    Calls Tryd.prog 92 #[.string (dec a), .string (dec b)] w fun e w' => e = .returned (.string (dec (a - b))) ∧ Below w.heap.size w w' := by
  have Hna := hid (fun (k : Nat) (w : World) (hk : k ≤ 1000000) => atD a k w (by rw [HLa.out]; exact ha) hk)
  have Hnb := hid (fun (k : Nat) (w : World) (hk : k ≤ 1000000) => atD b k w (Nat.le_trans (nDigits_mono hab) (by rw [HLa.out]; exact ha)) hk)
  have hla : ((dec a).size : Int) = (la : Int) := by rw [dec_size, HLa.out]
  have HAB := hid hab
  obtain ⟨i0, hi, hz0, hz1, hz2⟩ := info_partsZ Tryd.infoIntZ
  have Hi := hid hi
  have Hz0 := hid hz0
  have Hz1 := hid hz1
  have Hz2 := hid hz2
  clear hi hz0 hz1 hz2 hab
  go_enter Tryd.func92, Tryd.ntmps92
  go_wp2_with fail
  go_loopw [5, 6, 7] (fun o c i wr => ∃ (k cy : Nat) (ds : List Nat) (ua : Option Addr) (uc : Nat), i = .int .i64 k ∧ c = .int .i64 cy ∧ o = .slice ua k uc ∧ Hid (ds.length = k) ∧ Hid (OkD ds) ∧ Hid (lowD ds + b % 10 ^ k = a % 10 ^ k + cy * 10 ^ k) ∧ cy ≤ 1 ∧ k ≤ la ∧ Hid (wr.ownsRow w.heap.size 3 1 (.slice ua k uc) k (numL .i64 ds)) ∧ Hid (Below w.heap.size w wr)) (fun _ _ i _ => la - (intOf i).toNat)
  case atStart => exact ⟨0, 0, [], _, 0, rfl, rfl, rfl, rfl, fun d h => by simp at h, by show _ = _; simp [lowD, Nat.mod_one], by omega, by omega, World.ownsRow_made w #[] 0 (Nat.le_refl _) (Nat.zero_le _) (by simp), (Below.refl _ _).alloc (Nat.le_refl _) _⟩
  case round =>
    obtain ⟨k, cy, ds, ua, uc, rfl, rfl, rfl, HKL, HOD, HS, hc1, hk, HU, HB⟩ := hrel
    have hsz := HB.out.size
    by_cases hgo : k < la
    · have HCA := hid (Hna.out k)
      have HCB := hid (Hnb.out k)
      obtain ⟨x, HX⟩ : ∃ x, Hid (a / 10 ^ k % 10 = x) := ⟨_, rfl⟩
      obtain ⟨y, HY⟩ : ∃ y, Hid (b / 10 ^ k % 10 = y) := ⟨_, rfl⟩
      have hx10 : x < 10 := by rw [← HX.out]; exact Nat.mod_lt _ (by decide)
      have hy10 : y < 10 := by rw [← HY.out]; exact Nat.mod_lt _ (by decide)
      rw [HX.out] at HCA
      rw [HY.out] at HCB
      by_cases hneg : x < y + cy
      · have HSt := hid (sub_step1 HKL.out HS.out HX.out HY.out hneg hc1)
        obtain ⟨d, HD⟩ : ∃ d : Nat, Hid ((x : Int) - y - cy + 10 = (d : Int)) := ⟨(x + 10 - y - cy), by show _ = _; omega⟩
        have hd10 : d < 10 := by have := HD.out; omega
        have hde : x + 10 - y - cy = d := by have := HD.out; omega
        rw [hde] at HSt
        clear hde
        go_wp2_with fail
        refine (HCA.out _ (by omega)).mono ?_
        rintro e w' ⟨rfl, hw⟩
        obtain rfl := hw.symm
        go_wp2_with fail
        refine (HCB.out _ (by omega)).mono ?_
        rintro e w' ⟨rfl, hw⟩
        obtain rfl := hw.symm
        have hde := HD.out
        go_wp2_with (at_builtin; go_loud (refine wpList_append_lies _ rfl _ _ _ rfl w.heap.size 3 i0 (.int .i64 0) 1 8 Tryd.underlying94 Hi.out Hz0.out Hz1.out Hz2.out rfl (by decide) _ k (numL .i64 ds) rfl (HU.out.alloc _) ⟨wr.heap.size, 0, none⟩ 1 1 [.int .i64 (d : Int)] rfl rfl (cell_one_newZ _ _ _) (by simp [Value.oneCell']) (by omega) (by unfold maxLen; omega) (by omega) (by simp; omega) (wr.heap.size + 1) (by simp) ?_; intro gg cc w4 hown' hg hat hgl; have hall := (World.grownBy_alloc wr _ _).trans hg))
        have hlow : ∀ g, (Value.slice ua k uc).ownBlock = some g → w.heap.size ≤ g := fun g e => (HU.out.lt g e).1
        refine ⟨⟨k + 1, 1, ds ++ [d], some ⟨gg, 0, none⟩, cc, by go_num, rfl, rfl, by show _ = _; rw [List.length_append, HKL.out]; rfl, okD_snoc HOD.out hd10, HSt.out, by omega, by omega, ?_, HB.out.grown hall hsz hlow⟩, by simp [intOf]; omega⟩
        show World.ownsRow _ _ _ _ _ _ _
        rw [numL_snoc]
        exact hown'
      · have HSt := hid (sub_step0 HKL.out HS.out HX.out HY.out (by omega))
        obtain ⟨d, HD⟩ : ∃ d : Nat, Hid ((x : Int) - y - cy = (d : Int)) := ⟨(x - y - cy), by show _ = _; omega⟩
        have hd10 : d < 10 := by have := HD.out; omega
        have hde : x - y - cy = d := by have := HD.out; omega
        rw [hde] at HSt
        clear hde
        go_wp2_with fail
        refine (HCA.out _ (by omega)).mono ?_
        rintro e w' ⟨rfl, hw⟩
        obtain rfl := hw.symm
        go_wp2_with fail
        refine (HCB.out _ (by omega)).mono ?_
        rintro e w' ⟨rfl, hw⟩
        obtain rfl := hw.symm
        have hde := HD.out
        go_wp2_with (at_builtin; go_loud (refine wpList_append_lies _ rfl _ _ _ rfl w.heap.size 3 i0 (.int .i64 0) 1 8 Tryd.underlying94 Hi.out Hz0.out Hz1.out Hz2.out rfl (by decide) _ k (numL .i64 ds) rfl (HU.out.alloc _) ⟨wr.heap.size, 0, none⟩ 1 1 [.int .i64 (d : Int)] rfl rfl (cell_one_newZ _ _ _) (by simp [Value.oneCell']) (by omega) (by unfold maxLen; omega) (by omega) (by simp; omega) (wr.heap.size + 1) (by simp) ?_; intro gg cc w4 hown' hg hat hgl; have hall := (World.grownBy_alloc wr _ _).trans hg))
        have hlow : ∀ g, (Value.slice ua k uc).ownBlock = some g → w.heap.size ≤ g := fun g e => (HU.out.lt g e).1
        refine ⟨⟨k + 1, 0, ds ++ [d], some ⟨gg, 0, none⟩, cc, by go_num, rfl, rfl, by show _ = _; rw [List.length_append, HKL.out]; rfl, okD_snoc HOD.out hd10, HSt.out, by omega, by omega, ?_, HB.out.grown hall hsz hlow⟩, by simp [intOf]; omega⟩
        show World.ownsRow _ _ _ _ _ _ _
        rw [numL_snoc]
        exact hown'
    · have hkla : k = la := by omega
      have HT := hid (l11Text_any ds (fun b => b < wr.heap.size) (.slice ua k uc) wr (intsAt_own HU.out (by rw [HKL.out]; unfold maxLen; omega)) (fun b h => h) (by rw [HKL.out]; omega) HOD.out)
      have HV : Hid (lowD ds = a - b) := sub_end HOD.out HKL.out HS.out (by rw [HLa.out, hkla]) HAB.out
      rw [HV.out] at HT
      clear hkla
      go_wp2_with fail
      refine HT.out.mono ?_
      rintro e w2 ⟨rfl, hw⟩
      have HW := hid hw
      clear hw
      go_wp2_with fail
      go_ret
      exact ⟨rfl, HB.out.trans (HW.out.mono (by omega))⟩
theorem l11Sub_any (a b : Nat) (w : World) (ha : Lib.nDigits a ≤ 100000) (hab : b ≤ a) :
    Calls Tryd.prog 92 #[.string (dec a), .string (dec b)] w fun e w' => e = .returned (.string (dec (a - b))) ∧ Below w.heap.size w w' :=
  l11Sub_of a b _ w rfl ha hab
end Go.Proofs.YtakicnplmcemnaaDoor

namespace Go.Proofs.YtakicnplmcemnaaDoor
open Go.RowKit Go.Siskin

theorem bytes_irr : ∀ l : List UInt8, Op.bytesLess l l = false
  | [] => by simp [Op.bytesLess]
  | a :: r => by simp [Op.bytesLess, bytes_irr r]
/-- Of as many digits the bytes tell which number is less. -/
theorem bytes_dig : ∀ (m a b : Nat), a < 10 ^ m → b < 10 ^ m → Op.bytesLess (digL m a) (digL m b) = decide (a < b)
  | 0, a, b, h1, h2 => by
    simp at h1 h2; subst h1; subst h2
    simp [digL, Op.bytesLess]
  | m + 1, a, b, h1, h2 => by
    have e : ∀ v, digL (m + 1) v = Lib.dg v m :: digL m (v % 10 ^ m) := by
      intro v
      apply List.ext_getElem
      · simp [digL]
      · intro i g1 g2
        cases i with
        | zero => simp [digL]
        | succ i =>
          simp [digL] at g1 g2 ⊢
          unfold Lib.dg
          congr 2
          have hi : i < m := g1
          obtain ⟨q, hq⟩ : ∃ q, m - 1 - i = q := ⟨_, rfl⟩
          rw [show m - (i + 1) = q by omega, hq]
          obtain ⟨s, hs⟩ : ∃ s, m = q + (s + 1) := ⟨m - q - 1, by omega⟩
          rw [hs, Nat.pow_add, Nat.mod_mul_right_div_self, Nat.mod_mod_of_dvd]
          exact ⟨10 ^ s, by rw [Nat.pow_succ, Nat.mul_comm]⟩
    have ht : ∀ v, v < 10 ^ (m + 1) → v = 10 ^ m * (v / 10 ^ m) + v % 10 ^ m ∧ v / 10 ^ m < 10 := by
      intro v hv
      exact ⟨(Nat.div_add_mod v _).symm, Nat.div_lt_of_lt_mul (by rw [← Nat.pow_succ]; exact hv)⟩
    obtain ⟨ea, la⟩ := ht a h1
    obtain ⟨eb, lb⟩ := ht b h2
    have hp : 0 < 10 ^ m := Nat.pow_pos (by decide)
    have ra := Nat.mod_lt a hp
    have rb := Nat.mod_lt b hp
    have ih := bytes_dig m (a % 10 ^ m) (b % 10 ^ m) ra rb
    rw [e, e]
    have da := dg_nat a m
    have db := dg_nat b m
    rw [Nat.mod_eq_of_lt la] at da
    rw [Nat.mod_eq_of_lt lb] at db
    generalize a / 10 ^ m = x at *
    generalize b / 10 ^ m = y at *
    generalize a % 10 ^ m = u at *
    generalize b % 10 ^ m = v at *
    generalize Lib.dg a m = c at *
    generalize Lib.dg b m = d at *
    generalize 10 ^ m = P at *
    rcases Nat.lt_trichotomy x y with h | h | h
    · have hcd : c < d := by rw [UInt8.lt_iff_toNat_lt]; omega
      have hlt : a < b := by
        have : P * (x + 1) ≤ P * y := Nat.mul_le_mul_left _ h
        rw [Nat.mul_add, Nat.mul_one] at this; omega
      simp [Op.bytesLess, hcd, hlt]
    · subst h
      have hcd : c = d := by apply UInt8.toNat_inj.1; omega
      subst hcd
      have e3 : (a < b) = (u < v) := by rw [ea, eb]; simp
      simp only [e3]
      rw [← ih]
      simp [Op.bytesLess]
    · have hcd : d < c := by rw [UInt8.lt_iff_toNat_lt]; omega
      have hlt : ¬ a < b := by
        have : P * (y + 1) ≤ P * x := Nat.mul_le_mul_left _ h
        rw [Nat.mul_add, Nat.mul_one] at this; omega
      have hne : ¬ c < d := by rw [UInt8.lt_iff_toNat_lt] at *; omega
      have hne2 : ¬ c = d := by rintro rfl; rw [UInt8.lt_iff_toNat_lt] at hcd; omega
      simp [Op.bytesLess, hne, hne2, hlt]

def cmpI (a b : Nat) : Int := if a < b then -1 else if b < a then 1 else 0
theorem lt_of_digits {a b : Nat} (h : Lib.nDigits a < Lib.nDigits b) : a < b := by
  rcases Nat.lt_or_ge a b with h1 | h1
  · exact h1
  · have := nDigits_mono h1; omega

set_option maxHeartbeats 1000000 in
theorem l11Cmp_any (a b : Nat) (w : World) :
    Calls Tryd.prog 90 #[.string (dec a), .string (dec b)] w fun e w' => e = .returned (.int .i64 (cmpI a b)) ∧ w' = w := by
  obtain ⟨la, HLa⟩ : ∃ la, Hid (Lib.nDigits a = la) := ⟨_, rfl⟩
  obtain ⟨lb, HLb⟩ : ∃ lb, Hid (Lib.nDigits b = lb) := ⟨_, rfl⟩
  have hla : ((dec a).size : Int) = (la : Int) := by rw [dec_size, HLa.out]
  have hlb : ((dec b).size : Int) = (lb : Int) := by rw [dec_size, HLb.out]
  rcases Nat.lt_trichotomy la lb with h | h | h
  · have hne : ((la : Int) != (lb : Int)) = true := by rw [bne_iff_ne]; omega
    have HV : Hid (cmpI a b = -1) := by show _ = _; unfold cmpI; rw [if_pos (lt_of_digits (by rw [HLa.out, HLb.out]; exact h))]
    rw [HV.out]
    go_enter Tryd.func90, Tryd.ntmps90
    go_wp2_with fail
    go_ret
    exact ⟨rfl, rfl⟩
  · subst h
    have hne : ((la : Int) != (la : Int)) = false := by simp
    have h1 : Op.bytesLess (dec a).toList (dec b).toList = decide (a < b) := by
      have e1 : (dec a).toList = digL la a := by rw [Go.ByteArray.toList_eq]; unfold dec; rw [HLa.out]; simp [digT]
      have e2 : (dec b).toList = digL la b := by rw [Go.ByteArray.toList_eq]; unfold dec; rw [HLb.out]; simp [digT]
      rw [e1, e2]
      exact bytes_dig la a b (by rw [← HLa.out]; exact Lib.lt_pow_nDigits a) (by rw [← HLb.out]; exact Lib.lt_pow_nDigits b)
    have h2 : Op.bytesLess (dec b).toList (dec a).toList = decide (b < a) := by
      have e1 : (dec a).toList = digL la a := by rw [Go.ByteArray.toList_eq]; unfold dec; rw [HLa.out]; simp [digT]
      have e2 : (dec b).toList = digL la b := by rw [Go.ByteArray.toList_eq]; unfold dec; rw [HLb.out]; simp [digT]
      rw [e1, e2]
      exact bytes_dig la b a (by rw [← HLb.out]; exact Lib.lt_pow_nDigits b) (by rw [← HLa.out]; exact Lib.lt_pow_nDigits a)
    rcases Nat.lt_trichotomy a b with h | h | h
    · have HV : Hid (cmpI a b = -1) := by show _ = _; unfold cmpI; rw [if_pos h]
      rw [HV.out]
      rw [decide_eq_true h] at h1
      clear h2
      go_enter Tryd.func90, Tryd.ntmps90
      go_wp2_with fail
      go_ret
      exact ⟨rfl, rfl⟩
    · subst h
      have HV : Hid (cmpI a a = 0) := by show _ = _; unfold cmpI; rw [if_neg (by omega), if_neg (by omega)]
      rw [HV.out]
      have h3 : Op.bytesLess (dec a).toList (dec a).toList = false := bytes_irr _
      have h4 : ((dec a).toList == (dec a).toList) = true := by simp
      clear h1 h2
      go_enter Tryd.func90, Tryd.ntmps90
      go_wp2_with fail
      go_ret
      exact ⟨rfl, rfl⟩
    · have HV : Hid (cmpI a b = 1) := by show _ = _; unfold cmpI; rw [if_neg (by omega), if_pos h]
      rw [HV.out]
      rw [decide_eq_false (show ¬ a < b by omega)] at h1
      have h4 : ((dec a).toList == (dec b).toList) = false := by
        rw [beq_eq_false_iff_ne]
        intro e
        rw [Go.ByteArray.toList_eq, Go.ByteArray.toList_eq] at e
        have := dec_inj (ba_ext e); omega
      clear h2
      go_enter Tryd.func90, Tryd.ntmps90
      go_wp2_with fail
      go_ret
      exact ⟨rfl, rfl⟩
  · have hne : ((la : Int) != (lb : Int)) = true := by rw [bne_iff_ne]; omega
    have HV : Hid (cmpI a b = 1) := by
      have := lt_of_digits (a := b) (b := a) (by rw [HLa.out, HLb.out]; exact h)
      show _ = _; unfold cmpI; rw [if_neg (by omega), if_pos this]
    rw [HV.out]
    go_enter Tryd.func90, Tryd.ntmps90
    go_wp2_with fail
    go_ret
    exact ⟨rfl, rfl⟩
end Go.Proofs.YtakicnplmcemnaaDoor

namespace Go.Proofs.YtakicnplmcemnaaDoor
open Go.RowKit Go.Siskin

theorem Tryd.infoByteZ2 : (Tryd.prog.info? 5).map (fun i => (i.zero, i.size, i.bytes)) = some (some (.int .u8 0), 1, 1) := by kernel_rfl
/-- The bytes of a text as cells. -/
def byteL (t : ByteArray) : List Value := t.data.toList.map fun c : UInt8 => Value.int .u8 (c.toNat : Int)
theorem byteL_length (t : ByteArray) : (byteL t).length = t.size := by simp [byteL]
theorem byteL_snoc (m v d : Nat) (h : d < 10) : byteL (digT (m + 1) (v * 10 + d)) = byteL (digT m v) ++ [.int .u8 (((48 + d : Nat)) : Int)] := by
  rw [← digT_snoc m v d h]
  unfold byteL
  rw [ByteArray.data_append]
  have e : (UInt8.ofNat (48 + d)).toNat = 48 + d := by simp; omega
  simp only [Array.toList_append, List.map_append, List.map_cons, List.map_nil, e]

theorem conv_back (W : World) (base n g cap : Nat) (t : ByteArray) (h : W.ownsRow base 5 1 (.slice (some ⟨g, 0, none⟩) n cap) n (byteL t)) : (convert 67 9 (.slice (some ⟨g, 0, none⟩) n cap)).run Tryd.prog W = .ok (.string t) W := by
  have hl := h.1
  rw [byteL_length] at hl
  have hcells := h.cells (g := g) rfl
  have e := run_convert_bytes_back (P := Tryd.prog) W 67 9 5 ⟨g, 0, none⟩ cap t.data.toList Tryd.underlying67 Tryd.underlying5 Tryd.underlying9 (fun j hj => hcells j (.int .u8 (t.data.toList[j].toNat : Int)) (by rw [byteL, List.getElem?_map, List.getElem?_eq_getElem hj]; rfl))
  have hn : t.data.toList.length = n := by
    have : t.data.toList.length = t.size := by rw [Array.length_toList]; rfl
    omega
  rw [hn] at e
  simpa using e

/-- What a text of digits tells. -/
def valL (l : List UInt8) : Nat := l.foldl (fun v c => v * 10 + (c.toNat - 48)) 0
def valT (t : ByteArray) : Nat := valL t.data.toList
theorem valL_snoc (l : List UInt8) (c : UInt8) : valL (l ++ [c]) = valL l * 10 + (c.toNat - 48) := by simp [valL]
theorem valL_dig : ∀ (m v : Nat), v < 10 ^ m → valL (digL m v) = v
  | 0, v, h => by simp at h; subst h; rfl
  | m + 1, v, h => by
    rw [digL_succ, valL_snoc, valL_dig m (v / 10) (by rw [Nat.pow_succ] at h; omega)]
    have e : (UInt8.ofNat (48 + v % 10)).toNat = 48 + v % 10 := by simp; omega
    rw [e]; omega
theorem valT_dec (v : Nat) : valT (dec v) = v := by
  show valL (digL (Lib.nDigits v) v).toArray.toList = v
  rw [List.toList_toArray]
  exact valL_dig _ v (Lib.lt_pow_nDigits v)

/-- Dividing digit by digit. -/
theorem div_step {a b i n : Nat} (hb : 0 < b) (hi : i < n) : a / 10 ^ (n - (i + 1)) / b = a / 10 ^ (n - i) / b * 10 + (a / 10 ^ (n - i) % b * 10 + a / 10 ^ (n - 1 - i) % 10) / b ∧
    a / 10 ^ (n - (i + 1)) % b = (a / 10 ^ (n - i) % b * 10 + a / 10 ^ (n - 1 - i) % 10) % b ∧ a / 10 ^ (n - i) % b * 10 + a / 10 ^ (n - 1 - i) % 10 < b * 10 := by
  obtain ⟨k, hk⟩ : ∃ k, n - (i + 1) = k := ⟨_, rfl⟩
  rw [hk, show n - i = k + 1 by omega, show n - 1 - i = k by omega, Nat.pow_succ, ← Nat.div_div_eq_div_mul]
  generalize a / 10 ^ k = y
  have h1 := Nat.div_add_mod (y / 10) b
  have h2 := Nat.mod_lt (y / 10) hb
  generalize y / 10 / b = q at *
  generalize y / 10 % b = r at *
  have h3 : y = b * (q * 10) + (r * 10 + y % 10) := by
    have e : b * (q * 10) = b * q * 10 := by rw [Nat.mul_assoc]
    omega
  refine ⟨?_, ?_, by omega⟩
  · rw [h3]
    rw [Nat.mul_add_div hb]
    congr 2
    omega
  · have e : y % b = (b * (q * 10) + (r * 10 + y % 10)) % b := congrArg (· % b) h3
    rw [e, Nat.mul_add_mod]
end Go.Proofs.YtakicnplmcemnaaDoor

namespace Go.Proofs.YtakicnplmcemnaaDoor
open Go.RowKit Go.Siskin

theorem cut_one (m v i : Nat) (h : i < m) : (digT m v).extract i (i + 1) = ⟨#[UInt8.ofNat (48 + v / 10 ^ (m - 1 - i) % 10)]⟩ := by
  apply ba_ext
  rw [ByteArray.data_extract, Array.toList_extract]
  show ((digL m v).toArray.toList.drop i).take (i + 1 - i) = _
  rw [List.toList_toArray, Nat.add_sub_cancel_left]
  apply List.ext_getElem
  · simp [digL]; omega
  · intro j h1 h2
    simp at h2
    subst h2
    simp [digL, Lib.dg]

set_option maxRecDepth 20000 in
set_option maxHeartbeats 2000000 in
theorem l11Div_of (a b n : Nat) (w : World) (HNa : Hid (Lib.nDigits a = n)) (hn : n ≤ 10000) (hbn : Lib.nDigits b ≤ 10000) (hb : 0 < b) :
    Calls Tryd.prog 71 #[.string (dec a), .string (dec b)] w fun e w' => e = .returned (.tuple #[.string (dec (a / b)), .string (dec (a % b))]) ∧ Below w.heap.size w w' := by
  have hla : ((dec a).size : Int) = (n : Int) := by rw [dec_size, HNa.out]
  have HCut : Hid (∀ i, i < n → (dec a).extract i (i + 1) = ⟨#[UInt8.ofNat (48 + a / 10 ^ (n - 1 - i) % 10)]⟩) := fun i hi => by unfold dec; rw [HNa.out]; exact cut_one n a i hi
  have HBp := hid hb
  have HBn := hid hbn
  obtain ⟨i0, hi, hz0, hz1, hz2⟩ := info_partsZ Tryd.infoByteZ2
  have Hi := hid hi
  have Hz0 := hid hz0
  have Hz1 := hid hz1
  have Hz2 := hid hz2
  clear hi hz0 hz1 hz2 hb hbn
  go_enter Tryd.func71, Tryd.ntmps71
  go_wp2_with fail
  go_loopw [6, 7, 8] (fun q r i wr => ∃ (k g cap : Nat), q = .slice (some ⟨g, 0, none⟩) k cap ∧ r = .string (dec (a / 10 ^ (n - k) % b)) ∧ i = .int .i64 k ∧ k ≤ n ∧ Hid (wr.ownsRow w.heap.size 5 1 (.slice (some ⟨g, 0, none⟩) k cap) k (byteL (digT k (a / 10 ^ (n - k) / b)))) ∧ Hid (Below w.heap.size w wr)) (fun _ _ i _ => n - (intOf i).toNat)
  case atStart =>
    have h0 : a / 10 ^ (n - 0) = 0 := by rw [Nat.sub_zero, ← HNa.out]; exact Nat.div_eq_of_lt (Lib.lt_pow_nDigits a)
    refine ⟨0, _, 0, rfl, ?_, rfl, Nat.zero_le _, ?_, (Below.refl _ _).alloc (Nat.le_refl _) _⟩
    · rw [h0, Nat.zero_mod, dec_small (by decide)]; rfl
    · show World.ownsRow _ _ _ _ _ _ _
      rw [h0, Nat.zero_div]
      exact World.ownsRow_made w #[] 0 (Nat.le_refl _) (Nat.zero_le _) (by simp)
  case round =>
    obtain ⟨k, g, cap, rfl, rfl, rfl, hk, HU, HB⟩ := hrel
    have hsz := HB.out.size
    by_cases hlt : k < n
    · have hst := div_step (a := a) (n := n) HBp.out hlt
      obtain ⟨r, HR⟩ : ∃ r : Nat, Hid (a / 10 ^ (n - k) % b = r) := ⟨_, rfl⟩
      obtain ⟨q, HQ⟩ : ∃ q : Nat, Hid (a / 10 ^ (n - k) / b = q) := ⟨_, rfl⟩
      obtain ⟨d, HD⟩ : ∃ d : Nat, Hid (a / 10 ^ (n - 1 - k) % 10 = d) := ⟨_, rfl⟩
      have hd10 : d < 10 := by rw [← HD.out]; exact Nat.mod_lt _ (by decide)
      have hcut := HCut.out k hlt
      rw [HD.out] at hcut
      rw [HR.out, HQ.out, HD.out] at hst
      rw [HQ.out] at HU
      rw [HR.out]
      have hrb : r < b := by rw [← HR.out]; exact Nat.mod_lt _ HBp.out
      have HST := hid hst
      have hrs : (dec r).size ≤ 10000 := by rw [dec_size]; exact Nat.le_trans (nDigits_mono (Nat.le_of_lt hrb)) HBn.out
      have HCat := hid (digT_snoc (Lib.nDigits r) r d hd10)
      obtain ⟨c, HCc⟩ : ∃ c : UInt8, Hid (UInt8.ofNat (48 + d) = c) := ⟨_, rfl⟩
      rw [HCc.out] at hcut HCat
      have HTr := hid (fun w => l11Trim_any (Lib.nDigits r + 1) (r * 10 + d) w (by rw [dec_size] at hrs; unfold maxLen; omega) (by omega) (by rw [Nat.pow_succ]; have := Lib.lt_pow_nDigits r; omega))
      rw [← HCat.out] at HTr
      clear hst
      go_wp2_with fail
      refine (HTr.out _).mono ?_
      rintro e w' ⟨rfl, hw⟩
      obtain rfl := hw.symm
      obtain ⟨R, HRR⟩ : ∃ R : Nat, Hid (r * 10 + d = R) := ⟨_, rfl⟩
      rw [HRR.out] at HST ⊢
      clear HTr HCat hcut
      go_wp2_with fail
      rename World => w1
      go_loopw [7, 9] (fun rr nn wr => ∃ j : Nat, rr = .string (dec (R - j * b)) ∧ nn = .int .u8 ((48 + j : Nat) : Int) ∧ Hid (j * b ≤ R) ∧ j ≤ 9 ∧ Hid (Below w1.heap.size w1 wr)) (fun _ nn _ => (60 - intOf nn).toNat)
      case atStart => exact ⟨0, by rw [Nat.zero_mul]; rfl, rfl, by show _ ≤ _; omega, by omega, Below.refl _ _⟩
      case round =>
        obtain ⟨j, rfl, rfl, HJ, hj, HB2⟩ := hrel
        have hs2 := HB2.out.size
        have HCm := hid (l11Cmp_any (R - j * b) b)
        by_cases hge : b ≤ R - j * b
        · have HV : Hid (0 ≤ cmpI (R - j * b) b) := by
            show _ ≤ _; unfold cmpI; rw [if_neg (by omega)]; split <;> omega
          have hj9 : j < 9 := by
            rcases Nat.lt_or_ge j 9 with h | h
            · exact h
            · exfalso
              have e : j = 9 := by omega
              subst e
              have := HST.out.2.2; omega
          have HSb := hid (fun w => l11Sub_any (R - j * b) b w (by
            have h1 : Lib.nDigits (R - j * b) ≤ Lib.nDigits b + 1 := nDigits_le (by rw [Nat.pow_succ]; have := Lib.lt_pow_nDigits b; have := HST.out.2.2; omega) (by omega)
            have := HBn.out; omega) hge)
          have HE : Hid (R - j * b - b = R - (j + 1) * b) := by show _ = _; rw [Nat.succ_mul]; omega
          rw [HE.out] at HSb
          have HJ2 : Hid ((j + 1) * b ≤ R) := by
            have h := HJ.out
            show _ ≤ _; rw [Nat.succ_mul]; omega
          obtain ⟨cv, HCV⟩ : ∃ cv : Int, Hid (cmpI (R - j * b) b = cv) := ⟨_, rfl⟩
          rw [HCV.out] at HCm
          have hcv : 0 ≤ cv := by rw [← HCV.out]; exact HV.out
          clear hge HV
          go_wp2_with fail
          refine (HCm.out _).mono ?_
          rintro e w' ⟨rfl, hw⟩
          obtain rfl := hw.symm
          go_wp2_with fail
          refine (HSb.out _).mono ?_
          rintro e w3 ⟨rfl, hw3⟩
          have HW3 := hid hw3
          clear hw3
          go_wp2_with fail
          refine ⟨⟨j + 1, rfl, by congr 1, HJ2, by omega, HB2.out.trans (HW3.out.mono hs2)⟩, by simp [intOf]; omega⟩
        · have HV : Hid (cmpI (R - j * b) b < 0) := by
            show _ < _; unfold cmpI; rw [if_pos (by omega)]; omega
          obtain ⟨cv, HCV⟩ : ∃ cv : Int, Hid (cmpI (R - j * b) b = cv) := ⟨_, rfl⟩
          rw [HCV.out] at HCm
          have hcv : cv < 0 := by rw [← HCV.out]; exact HV.out
          have HJq : Hid (R / b = j ∧ R % b = R - j * b) := by
            have h := HJ.out
            have hb := HBp.out
            have e : R = b * j + (R - j * b) := by rw [Nat.mul_comm b j]; omega
            generalize R - j * b = z at *
            constructor
            · rw [e, Nat.mul_add_div hb, Nat.div_eq_of_lt (by omega), Nat.add_zero]
            · rw [e, Nat.mul_add_mod, Nat.mod_eq_of_lt (by omega)]
          have HU2 : Hid (wr.ownsRow w.heap.size 5 1 (.slice (some ⟨g, 0, none⟩) k cap) k (byteL (digT k q))) := World.ownsRow.kept (row := none) HU.out ⟨HB2.out.os, HB2.out.tape, HB2.out.output, HB2.out.size, fun i hi _ => HB2.out.block i hi⟩ (Or.inr (by simp [Value.ownBlock]))
          have hsz2 : w.heap.size ≤ wr.heap.size := by omega
          clear hge HV
          go_wp2_with fail
          refine (HCm.out _).mono ?_
          rintro e w' ⟨rfl, hw⟩
          obtain rfl := hw.symm
          go_wp2_with (at_builtin; go_loud (refine wpList_append_lies _ rfl _ _ _ rfl w.heap.size 5 i0 (.int .u8 0) 1 1 Tryd.underlying67 Hi.out Hz0.out Hz1.out Hz2.out rfl (by decide) _ k (byteL (digT k q)) rfl (HU2.out.alloc _) ⟨wr.heap.size, 0, none⟩ 1 1 [.int .u8 ((48 + j : Nat) : Int)] rfl rfl (cell_one_newZ _ _ _) (by simp [Value.oneCell']) (by omega) (by unfold maxLen; omega) (by omega) (by simp; omega) (wr.heap.size + 1) (by simp) ?_; intro gg cc w4 hown' hg hat hgl; have hall := (World.grownBy_alloc wr _ _).trans hg))
          have hlow : ∀ g', (Value.slice (some ⟨g, 0, none⟩) k cap).ownBlock = some g' → w.heap.size ≤ g' := fun g' e => (HU2.out.lt g' e).1
          refine ⟨⟨k + 1, gg, cc, rfl, ?_, by go_num, by omega, ?_, (HB.out.trans (HB2.out.mono hsz)).grown hall hsz2 hlow⟩, by simp [intOf]; omega⟩
          · rw [HST.out.2.1, HJq.out.2]
          · show World.ownsRow _ _ _ _ _ _ _
            rw [HST.out.1, HJq.out.1, byteL_snoc k q j (by omega)]
            exact hown'
    · have hkn : k = n := by omega
      subst hkn
      have he : a / 10 ^ (k - k) = a := by rw [Nat.sub_self, Nat.pow_zero, Nat.div_one]
      rw [he] at HU ⊢
      have HCv := hid (conv_back wr w.heap.size k g cap _ HU.out)
      have HTr := hid (fun w => l11Trim_any k (a / b) w (by unfold maxLen; omega) (by have := Lib.nDigits_pos a; have := HNa.out; omega) (Nat.lt_of_le_of_lt (Nat.div_le_self _ _) (by rw [← HNa.out]; exact Lib.lt_pow_nDigits a)))
      have hcv := HCv.out
      clear he
      go_wp2_with fail
      refine (HTr.out _).mono ?_
      rintro e w' ⟨rfl, hw⟩
      obtain rfl := hw.symm
      go_wp2_with fail
      go_ret2
      exact ⟨rfl, HB.out⟩
theorem l11Div_any (a b : Nat) (w : World) (hn : Lib.nDigits a ≤ 10000) (hbn : Lib.nDigits b ≤ 10000) (hb : 0 < b) :
    Calls Tryd.prog 71 #[.string (dec a), .string (dec b)] w fun e w' => e = .returned (.tuple #[.string (dec (a / b)), .string (dec (a % b))]) ∧ Below w.heap.size w w' := l11Div_of a b _ w rfl hn hbn hb

/-- The greatest number that divides both. -/
theorem gcd_step (a b : Nat) : Nat.gcd a b = Nat.gcd b (a % b) := by rw [Nat.gcd_comm a b, Nat.gcd_rec b a, Nat.gcd_comm]

set_option maxRecDepth 20000 in
set_option maxHeartbeats 2000000 in
theorem l11Gcd_any (a b : Nat) (w : World) (hn : Lib.nDigits a ≤ 10000) (hbn : Lib.nDigits b ≤ 10000) :
    Calls Tryd.prog 34 #[.string (dec a), .string (dec b)] w fun e w' => e = .returned (.string (dec (Nat.gcd a b))) ∧ Below w.heap.size w w' := by
  obtain ⟨G, HG⟩ : ∃ G : Nat, Hid (Nat.gcd a b = G) := ⟨_, rfl⟩
  rw [HG.out]
  have HN := hid hn
  have HBn := hid hbn
  have hz : dec 0 = ⟨#[48]⟩ := by rw [dec_small (by decide)]; rfl
  have HZ := hid hz
  clear hn hbn hz
  go_enter Tryd.func34, Tryd.ntmps34
  go_wp2_with fail
  go_loopw [0, 1] (fun x y wr => ∃ (u v : Nat), x = .string (dec u) ∧ y = .string (dec v) ∧ Hid (Nat.gcd u v = G) ∧ Hid (Lib.nDigits u ≤ 10000) ∧ Hid (Lib.nDigits v ≤ 10000) ∧ Hid (Below w.heap.size w wr)) (fun _ y _ => match y with | .string t => valT t | _ => 0)
  case atStart => exact ⟨a, b, rfl, rfl, HG.out, HN.out, HBn.out, Below.refl _ _⟩
  case round =>
    obtain ⟨u, v, rfl, rfl, HGu, HNu, HNv, HB⟩ := hrel
    have hsz := HB.out.size
    by_cases hv : v = 0
    · subst hv
      have hne : ((dec 0).toList == [48]) = true := by rw [HZ.out, Go.ByteArray.toList_eq]; rfl
      have HU : Hid (u = G) := by rw [← HGu.out]; exact (Nat.gcd_zero_right u).symm
      go_wp2_with fail
      go_ret
      exact ⟨ret_strz (by rw [HU.out]), HB.out⟩
    · have hne : ((dec v).toList == [48]) = false := by
        rw [beq_eq_false_iff_ne]
        intro e
        rw [Go.ByteArray.toList_eq] at e
        have h2 : dec v = dec 0 := by rw [HZ.out]; exact ba_ext e
        exact hv (dec_inj h2)
      have HD := hid (fun w => l11Div_any u v w HNu.out HNv.out (by omega))
      have HM : Hid (valT (dec (u % v)) < valT (dec v)) := by
        show _ < _
        rw [valT_dec, valT_dec]
        exact Nat.mod_lt _ (by omega)
      have HGs : Hid (Nat.gcd v (u % v) = G) := by show _ = _; rw [← gcd_step]; exact HGu.out
      have HN2 : Hid (Lib.nDigits (u % v) ≤ 10000) := by
        show _ ≤ _
        exact Nat.le_trans (nDigits_mono (Nat.le_of_lt (Nat.mod_lt _ (by omega)))) HNv.out
      clear hv
      go_wp2_with fail
      refine (HD.out _).mono ?_
      rintro e w2 ⟨rfl, hw⟩
      have HW := hid hw
      clear hw
      go_wp2_with fail
      refine ⟨⟨v, u % v, rfl, rfl, HGs, HNv, HN2, HB.out.trans (HW.out.mono hsz)⟩, ?_⟩
      exact HM.out
end Go.Proofs.YtakicnplmcemnaaDoor
