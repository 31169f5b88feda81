/-
  The model's l11Add: the sum of two numbers in decimal digits. Condition: the two are numerals of at most 100,000 digits.
  The model's l11Sub: what is left when a number is taken from one that is not less. Condition: numerals of at most 100,000 digits.
  The model's l11Cmp over numerals: which number is less.
  The model's l11Div and l11Gcd: dividing numerals, and what divides both. Condition: numerals of at most 10,000 digits.
  Plain texts: a numeral without noughts ahead. No program is named.
  The model's l11DigitsOk and the program's isDecimals: whether a text is a numeral.
-/
import Derived.Test.YtbbffhpppacihaaDoorPart1
import Derived.Test.YtbbffhpppacihaaDoorPart3
namespace Go.Proofs.YtbbffhpppacihaaDoor
open Go.RowKit Go.Siskin

theorem atD (v k : Nat) (w : World) (hm : Lib.nDigits v ≤ 100000) (hk : k ≤ 1000000) : Calls Tryd.prog 86 #[.string (dec v), .int .i64 k] w fun e w' => e = .returned (.int .i64 ((v / 10 ^ k % 10 : Nat) : Int)) ∧ w' = w :=
  l11At_any (Lib.nDigits v) v k w (by unfold maxLen; omega) (by unfold maxLen; omega) (Lib.lt_pow_nDigits v)

set_option maxRecDepth 20000 in
set_option maxHeartbeats 2000000 in
theorem l11Add_of (a b la lb : Nat) (w : World) (HLa : Hid (Lib.nDigits a = la)) (HLb : Hid (Lib.nDigits b = lb)) (ha : la ≤ 100000) (hb : lb ≤ 100000) :
    Calls Tryd.prog 78 #[.string (dec a), .string (dec b)] w fun e w' => e = .returned (.string (dec (a + b))) ∧ Below w.heap.size w w' := by
  have Hna := hid (fun (k : Nat) (w : World) (hk : k ≤ 1000000) => atD a k w (by rw [HLa.out]; exact ha) hk)
  have Hnb := hid (fun (k : Nat) (w : World) (hk : k ≤ 1000000) => atD b k w (by rw [HLb.out]; exact hb) hk)
  have hla : ((dec a).size : Int) = (la : Int) := by rw [dec_size, HLa.out]
  have hlb : ((dec b).size : Int) = (lb : Int) := by rw [dec_size, HLb.out]
  obtain ⟨i0, hi, hz0, hz1, hz2⟩ := info_partsZ Tryd.infoIntZ
  have Hi := hid hi
  have Hz0 := hid hz0
  have Hz1 := hid hz1
  have Hz2 := hid hz2
  clear hi hz0 hz1 hz2
  go_enter Tryd.func78, Tryd.ntmps78
  go_wp2_with fail
  go_loopw [5, 6, 7] (fun o c i wr => ∃ (k cy : Nat) (ds : List Nat) (ua : Option Addr) (uc : Nat), i = .int .i64 k ∧ c = .int .i64 cy ∧ o = .slice ua k uc ∧ Hid (ds.length = k) ∧ Hid (OkD ds) ∧ Hid (lowD ds + cy * 10 ^ k = a % 10 ^ k + b % 10 ^ k) ∧ cy ≤ 1 ∧ k ≤ la + lb + 1 ∧ Hid (wr.ownsRow w.heap.size 3 1 (.slice ua k uc) k (numL .i64 ds)) ∧ Hid (Below w.heap.size w wr)) (fun _ _ i _ => la + lb + 2 - (intOf i).toNat)
  case atStart => exact ⟨0, 0, [], _, 0, rfl, rfl, rfl, rfl, fun d h => by simp at h, by show _ = _; simp [lowD, Nat.mod_one], by omega, by omega, World.ownsRow_made w #[] 0 (Nat.le_refl _) (Nat.zero_le _) (by simp), (Below.refl _ _).alloc (Nat.le_refl _) _⟩
  case round =>
    obtain ⟨k, cy, ds, ua, uc, rfl, rfl, rfl, HKL, HOD, HS, hc1, hk, HU, HB⟩ := hrel
    have hsz := HB.out.size
    by_cases hgo : k < la ∨ k < lb ∨ 0 < cy
    · have hk2 : k ≤ la + lb := by
        rcases hgo with h | h | h
        · omega
        · omega
        · rcases Nat.lt_or_ge k la with h1 | h1
          · omega
          rcases Nat.lt_or_ge k lb with h2 | h2
          · omega
          exact add_more HS.out h (by rw [HLa.out]; omega) (by rw [HLb.out]; omega)
      have HCA := hid (Hna.out k)
      have HCB := hid (Hnb.out k)
      obtain ⟨x, HX⟩ : ∃ x, Hid (a / 10 ^ k % 10 = x) := ⟨_, rfl⟩
      obtain ⟨y, HY⟩ : ∃ y, Hid (b / 10 ^ k % 10 = y) := ⟨_, rfl⟩
      have hx10 : x < 10 := by rw [← HX.out]; exact Nat.mod_lt _ (by decide)
      have hy10 : y < 10 := by rw [← HY.out]; exact Nat.mod_lt _ (by decide)
      rw [HX.out] at HCA
      rw [HY.out] at HCB
      have hcase : (k < la) ∨ (¬ k < la ∧ k < lb) ∨ (¬ k < la ∧ ¬ k < lb ∧ 0 < cy) := by omega
      clear hgo
      rcases hcase with h1 | ⟨h1, h2⟩ | ⟨h1, h2, h3⟩
      all_goals
        go_wp2_with fail
        refine (HCA.out _ (by omega)).mono ?_
        rintro e w' ⟨rfl, rfl⟩
        go_wp2_with fail
        refine (HCB.out _ (by omega)).mono ?_
        rintro e w' ⟨rfl, rfl⟩
        go_wp2_with (at_builtin; refine wpList_append_lies _ rfl _ _ _ rfl w.heap.size 3 i0 (.int .i64 0) 1 8 Tryd.underlying112 Hi.out Hz0.out Hz1.out Hz2.out rfl (by decide) _ k (numL .i64 ds) rfl (HU.out.alloc _) ⟨w'.heap.size, 0, none⟩ 1 1 [.int .i64 (((x : Int) + (y : Int) + (cy : Int)) % 10)] rfl rfl (cell_one_newZ _ _ _) (by simp [Value.oneCell']) (by omega) (by unfold maxLen; omega) (by omega) (by simp; omega) (w'.heap.size + 1) (by simp) ?_; intro gg cc w4 hown' hg hat hgl; have hall := (World.grownBy_alloc w' _ _).trans hg)
        have hlow : ∀ g, (Value.slice ua k uc).ownBlock = some g → w.heap.size ≤ g := fun g e => (HU.out.lt g e).1
        refine ⟨⟨k + 1, (x + y + cy) / 10, ds ++ [(x + y + cy) % 10], some ⟨gg, 0, none⟩, cc, by go_num, by congr 1, rfl, by show _ = _; rw [List.length_append, HKL.out]; rfl, okD_snoc HOD.out (by omega), add_step HKL.out HS.out HX.out HY.out, by omega, by omega, ?_, HB.out.grown hall hsz hlow⟩, by simp [intOf]; omega⟩
        show World.ownsRow _ _ _ _ _ _ _
        rw [numL_snoc]
        simpa using hown'
    · have HT := hid (l11Text_any ds (fun b => b < wr.heap.size) (.slice ua k uc) wr (intsAt_own HU.out (by rw [HKL.out]; unfold maxLen; omega)) (fun b h => h) (by rw [HKL.out]; omega) HOD.out)
      have HV : Hid (lowD ds = a + b) := add_end HS.out (by rw [HLa.out]; omega) (by rw [HLb.out]; omega) (by omega)
      rw [HV.out] at HT
      go_wp2_with fail
      refine HT.out.mono ?_
      rintro e w2 ⟨rfl, hw⟩
      have HW := hid hw
      clear hw
      go_wp2_with fail
      go_ret
      exact ⟨rfl, HB.out.trans (HW.out.mono (by omega))⟩
theorem l11Add_any (a b : Nat) (w : World) (ha : Lib.nDigits a ≤ 100000) (hb : Lib.nDigits b ≤ 100000) :
    Calls Tryd.prog 78 #[.string (dec a), .string (dec b)] w fun e w' => e = .returned (.string (dec (a + b))) ∧ Below w.heap.size w w' :=
  l11Add_of a b _ _ w rfl rfl ha hb
end Go.Proofs.YtbbffhpppacihaaDoor

namespace Go.Proofs.YtbbffhpppacihaaDoor
open Go.RowKit Go.Siskin

set_option maxRecDepth 20000 in
set_option maxHeartbeats 2000000 in
theorem l11Sub_of (a b la : Nat) (w : World) (HLa : Hid (Lib.nDigits a = la)) (ha : la ≤ 100000) (hab : b ≤ a) :
    Calls Tryd.prog 64 #[.string (dec a), .string (dec b)] w fun e w' => e = .returned (.string (dec (a - b))) ∧ Below w.heap.size w w' := by
  have Hna := hid (fun (k : Nat) (w : World) (hk : k ≤ 1000000) => atD a k w (by rw [HLa.out]; exact ha) hk)
  have Hnb := hid (fun (k : Nat) (w : World) (hk : k ≤ 1000000) => atD b k w (Nat.le_trans (nDigits_mono hab) (by rw [HLa.out]; exact ha)) hk)
  have hla : ((dec a).size : Int) = (la : Int) := by rw [dec_size, HLa.out]
  have HAB := hid hab
  obtain ⟨i0, hi, hz0, hz1, hz2⟩ := info_partsZ Tryd.infoIntZ
  have Hi := hid hi
  have Hz0 := hid hz0
  have Hz1 := hid hz1
  have Hz2 := hid hz2
  clear hi hz0 hz1 hz2 hab
  go_enter Tryd.func64, Tryd.ntmps64
  go_wp2_with fail
  go_loopw [5, 6, 7] (fun o c i wr => ∃ (k cy : Nat) (ds : List Nat) (ua : Option Addr) (uc : Nat), i = .int .i64 k ∧ c = .int .i64 cy ∧ o = .slice ua k uc ∧ Hid (ds.length = k) ∧ Hid (OkD ds) ∧ Hid (lowD ds + b % 10 ^ k = a % 10 ^ k + cy * 10 ^ k) ∧ cy ≤ 1 ∧ k ≤ la ∧ Hid (wr.ownsRow w.heap.size 3 1 (.slice ua k uc) k (numL .i64 ds)) ∧ Hid (Below w.heap.size w wr)) (fun _ _ i _ => la - (intOf i).toNat)
  case atStart => exact ⟨0, 0, [], _, 0, rfl, rfl, rfl, rfl, fun d h => by simp at h, by show _ = _; simp [lowD, Nat.mod_one], by omega, by omega, World.ownsRow_made w #[] 0 (Nat.le_refl _) (Nat.zero_le _) (by simp), (Below.refl _ _).alloc (Nat.le_refl _) _⟩
  case round =>
    obtain ⟨k, cy, ds, ua, uc, rfl, rfl, rfl, HKL, HOD, HS, hc1, hk, HU, HB⟩ := hrel
    have hsz := HB.out.size
    by_cases hgo : k < la
    · have HCA := hid (Hna.out k)
      have HCB := hid (Hnb.out k)
      obtain ⟨x, HX⟩ : ∃ x, Hid (a / 10 ^ k % 10 = x) := ⟨_, rfl⟩
      obtain ⟨y, HY⟩ : ∃ y, Hid (b / 10 ^ k % 10 = y) := ⟨_, rfl⟩
      have hx10 : x < 10 := by rw [← HX.out]; exact Nat.mod_lt _ (by decide)
      have hy10 : y < 10 := by rw [← HY.out]; exact Nat.mod_lt _ (by decide)
      rw [HX.out] at HCA
      rw [HY.out] at HCB
      by_cases hneg : x < y + cy
      · have HSt := hid (sub_step1 HKL.out HS.out HX.out HY.out hneg hc1)
        obtain ⟨d, HD⟩ : ∃ d : Nat, Hid ((x : Int) - y - cy + 10 = (d : Int)) := ⟨(x + 10 - y - cy), by show _ = _; omega⟩
        have hd10 : d < 10 := by have := HD.out; omega
        have hde : x + 10 - y - cy = d := by have := HD.out; omega
        rw [hde] at HSt
        clear hde
        go_wp2_with fail
        refine (HCA.out _ (by omega)).mono ?_
        rintro e w' ⟨rfl, hw⟩
        obtain rfl := hw.symm
        go_wp2_with fail
        refine (HCB.out _ (by omega)).mono ?_
        rintro e w' ⟨rfl, hw⟩
        obtain rfl := hw.symm
        have hde := HD.out
        go_wp2_with (at_builtin; go_loud (refine wpList_append_lies _ rfl _ _ _ rfl w.heap.size 3 i0 (.int .i64 0) 1 8 Tryd.underlying112 Hi.out Hz0.out Hz1.out Hz2.out rfl (by decide) _ k (numL .i64 ds) rfl (HU.out.alloc _) ⟨wr.heap.size, 0, none⟩ 1 1 [.int .i64 (d : Int)] rfl rfl (cell_one_newZ _ _ _) (by simp [Value.oneCell']) (by omega) (by unfold maxLen; omega) (by omega) (by simp; omega) (wr.heap.size + 1) (by simp) ?_; intro gg cc w4 hown' hg hat hgl; have hall := (World.grownBy_alloc wr _ _).trans hg))
        have hlow : ∀ g, (Value.slice ua k uc).ownBlock = some g → w.heap.size ≤ g := fun g e => (HU.out.lt g e).1
        refine ⟨⟨k + 1, 1, ds ++ [d], some ⟨gg, 0, none⟩, cc, by go_num, rfl, rfl, by show _ = _; rw [List.length_append, HKL.out]; rfl, okD_snoc HOD.out hd10, HSt.out, by omega, by omega, ?_, HB.out.grown hall hsz hlow⟩, by simp [intOf]; omega⟩
        show World.ownsRow _ _ _ _ _ _ _
        rw [numL_snoc]
        exact hown'
      · have HSt := hid (sub_step0 HKL.out HS.out HX.out HY.out (by omega))
        obtain ⟨d, HD⟩ : ∃ d : Nat, Hid ((x : Int) - y - cy = (d : Int)) := ⟨(x - y - cy), by show _ = _; omega⟩
        have hd10 : d < 10 := by have := HD.out; omega
        have hde : x - y - cy = d := by have := HD.out; omega
        rw [hde] at HSt
        clear hde
        go_wp2_with fail
        refine (HCA.out _ (by omega)).mono ?_
        rintro e w' ⟨rfl, hw⟩
        obtain rfl := hw.symm
        go_wp2_with fail
        refine (HCB.out _ (by omega)).mono ?_
        rintro e w' ⟨rfl, hw⟩
        obtain rfl := hw.symm
        have hde := HD.out
        go_wp2_with (at_builtin; go_loud (refine wpList_append_lies _ rfl _ _ _ rfl w.heap.size 3 i0 (.int .i64 0) 1 8 Tryd.underlying112 Hi.out Hz0.out Hz1.out Hz2.out rfl (by decide) _ k (numL .i64 ds) rfl (HU.out.alloc _) ⟨wr.heap.size, 0, none⟩ 1 1 [.int .i64 (d : Int)] rfl rfl (cell_one_newZ _ _ _) (by simp [Value.oneCell']) (by omega) (by unfold maxLen; omega) (by omega) (by simp; omega) (wr.heap.size + 1) (by simp) ?_; intro gg cc w4 hown' hg hat hgl; have hall := (World.grownBy_alloc wr _ _).trans hg))
        have hlow : ∀ g, (Value.slice ua k uc).ownBlock = some g → w.heap.size ≤ g := fun g e => (HU.out.lt g e).1
        refine ⟨⟨k + 1, 0, ds ++ [d], some ⟨gg, 0, none⟩, cc, by go_num, rfl, rfl, by show _ = _; rw [List.length_append, HKL.out]; rfl, okD_snoc HOD.out hd10, HSt.out, by omega, by omega, ?_, HB.out.grown hall hsz hlow⟩, by simp [intOf]; omega⟩
        show World.ownsRow _ _ _ _ _ _ _
        rw [numL_snoc]
        exact hown'
    · have hkla : k = la := by omega
      have HT := hid (l11Text_any ds (fun b => b < wr.heap.size) (.slice ua k uc) wr (intsAt_own HU.out (by rw [HKL.out]; unfold maxLen; omega)) (fun b h => h) (by rw [HKL.out]; omega) HOD.out)
      have HV : Hid (lowD ds = a - b) := sub_end HOD.out HKL.out HS.out (by rw [HLa.out, hkla]) HAB.out
      rw [HV.out] at HT
      clear hkla
      go_wp2_with fail
      refine HT.out.mono ?_
      rintro e w2 ⟨rfl, hw⟩
      have HW := hid hw
      clear hw
      go_wp2_with fail
      go_ret
      exact ⟨rfl, HB.out.trans (HW.out.mono (by omega))⟩
theorem l11Sub_any (a b : Nat) (w : World) (ha : Lib.nDigits a ≤ 100000) (hab : b ≤ a) :
    Calls Tryd.prog 64 #[.string (dec a), .string (dec b)] w fun e w' => e = .returned (.string (dec (a - b))) ∧ Below w.heap.size w w' :=
  l11Sub_of a b _ w rfl ha hab
end Go.Proofs.YtbbffhpppacihaaDoor

namespace Go.Proofs.YtbbffhpppacihaaDoor
open Go.RowKit Go.Siskin

theorem bytes_irr : ∀ l : List UInt8, Op.bytesLess l l = false
  | [] => by simp [Op.bytesLess]
  | a :: r => by simp [Op.bytesLess, bytes_irr r]
/-- Of as many digits the bytes tell which number is less. -/
theorem bytes_dig : ∀ (m a b : Nat), a < 10 ^ m → b < 10 ^ m → Op.bytesLess (digL m a) (digL m b) = decide (a < b)
  | 0, a, b, h1, h2 => by
    simp at h1 h2; subst h1; subst h2
    simp [digL, Op.bytesLess]
  | m + 1, a, b, h1, h2 => by
    have e : ∀ v, digL (m + 1) v = Lib.dg v m :: digL m (v % 10 ^ m) := by
      intro v
      apply List.ext_getElem
      · simp [digL]
      · intro i g1 g2
        cases i with
        | zero => simp [digL]
        | succ i =>
          simp [digL] at g1 g2 ⊢
          unfold Lib.dg
          congr 2
          have hi : i < m := g1
          obtain ⟨q, hq⟩ : ∃ q, m - 1 - i = q := ⟨_, rfl⟩
          rw [show m - (i + 1) = q by omega, hq]
          obtain ⟨s, hs⟩ : ∃ s, m = q + (s + 1) := ⟨m - q - 1, by omega⟩
          rw [hs, Nat.pow_add, Nat.mod_mul_right_div_self, Nat.mod_mod_of_dvd]
          exact ⟨10 ^ s, by rw [Nat.pow_succ, Nat.mul_comm]⟩
    have ht : ∀ v, v < 10 ^ (m + 1) → v = 10 ^ m * (v / 10 ^ m) + v % 10 ^ m ∧ v / 10 ^ m < 10 := by
      intro v hv
      exact ⟨(Nat.div_add_mod v _).symm, Nat.div_lt_of_lt_mul (by rw [← Nat.pow_succ]; exact hv)⟩
    obtain ⟨ea, la⟩ := ht a h1
    obtain ⟨eb, lb⟩ := ht b h2
    have hp : 0 < 10 ^ m := Nat.pow_pos (by decide)
    have ra := Nat.mod_lt a hp
    have rb := Nat.mod_lt b hp
    have ih := bytes_dig m (a % 10 ^ m) (b % 10 ^ m) ra rb
    rw [e, e]
    have da := dg_nat a m
    have db := dg_nat b m
    rw [Nat.mod_eq_of_lt la] at da
    rw [Nat.mod_eq_of_lt lb] at db
    generalize a / 10 ^ m = x at *
    generalize b / 10 ^ m = y at *
    generalize a % 10 ^ m = u at *
    generalize b % 10 ^ m = v at *
    generalize Lib.dg a m = c at *
    generalize Lib.dg b m = d at *
    generalize 10 ^ m = P at *
    rcases Nat.lt_trichotomy x y with h | h | h
    · have hcd : c < d := by rw [UInt8.lt_iff_toNat_lt]; omega
      have hlt : a < b := by
        have : P * (x + 1) ≤ P * y := Nat.mul_le_mul_left _ h
        rw [Nat.mul_add, Nat.mul_one] at this; omega
      simp [Op.bytesLess, hcd, hlt]
    · subst h
      have hcd : c = d := by apply UInt8.toNat_inj.1; omega
      subst hcd
      have e3 : (a < b) = (u < v) := by rw [ea, eb]; simp
      simp only [e3]
      rw [← ih]
      simp [Op.bytesLess]
    · have hcd : d < c := by rw [UInt8.lt_iff_toNat_lt]; omega
      have hlt : ¬ a < b := by
        have : P * (y + 1) ≤ P * x := Nat.mul_le_mul_left _ h
        rw [Nat.mul_add, Nat.mul_one] at this; omega
      have hne : ¬ c < d := by rw [UInt8.lt_iff_toNat_lt] at *; omega
      have hne2 : ¬ c = d := by rintro rfl; rw [UInt8.lt_iff_toNat_lt] at hcd; omega
      simp [Op.bytesLess, hne, hne2, hlt]

def cmpI (a b : Nat) : Int := if a < b then -1 else if b < a then 1 else 0
theorem lt_of_digits {a b : Nat} (h : Lib.nDigits a < Lib.nDigits b) : a < b := by
  rcases Nat.lt_or_ge a b with h1 | h1
  · exact h1
  · have := nDigits_mono h1; omega

set_option maxHeartbeats 1000000 in
theorem l11Cmp_any (a b : Nat) (w : World) :
    Calls Tryd.prog 63 #[.string (dec a), .string (dec b)] w fun e w' => e = .returned (.int .i64 (cmpI a b)) ∧ w' = w := by
  obtain ⟨la, HLa⟩ : ∃ la, Hid (Lib.nDigits a = la) := ⟨_, rfl⟩
  obtain ⟨lb, HLb⟩ : ∃ lb, Hid (Lib.nDigits b = lb) := ⟨_, rfl⟩
  have hla : ((dec a).size : Int) = (la : Int) := by rw [dec_size, HLa.out]
  have hlb : ((dec b).size : Int) = (lb : Int) := by rw [dec_size, HLb.out]
  rcases Nat.lt_trichotomy la lb with h | h | h
  · have hne : ((la : Int) != (lb : Int)) = true := by rw [bne_iff_ne]; omega
    have HV : Hid (cmpI a b = -1) := by show _ = _; unfold cmpI; rw [if_pos (lt_of_digits (by rw [HLa.out, HLb.out]; exact h))]
    rw [HV.out]
    go_enter Tryd.func63, Tryd.ntmps63
    go_wp2_with fail
    go_ret
    exact ⟨rfl, rfl⟩
  · subst h
    have hne : ((la : Int) != (la : Int)) = false := by simp
    have h1 : Op.bytesLess (dec a).toList (dec b).toList = decide (a < b) := by
      have e1 : (dec a).toList = digL la a := by rw [Go.ByteArray.toList_eq]; unfold dec; rw [HLa.out]; simp [digT]
      have e2 : (dec b).toList = digL la b := by rw [Go.ByteArray.toList_eq]; unfold dec; rw [HLb.out]; simp [digT]
      rw [e1, e2]
      exact bytes_dig la a b (by rw [← HLa.out]; exact Lib.lt_pow_nDigits a) (by rw [← HLb.out]; exact Lib.lt_pow_nDigits b)
    have h2 : Op.bytesLess (dec b).toList (dec a).toList = decide (b < a) := by
      have e1 : (dec a).toList = digL la a := by rw [Go.ByteArray.toList_eq]; unfold dec; rw [HLa.out]; simp [digT]
      have e2 : (dec b).toList = digL la b := by rw [Go.ByteArray.toList_eq]; unfold dec; rw [HLb.out]; simp [digT]
      rw [e1, e2]
      exact bytes_dig la b a (by rw [← HLb.out]; exact Lib.lt_pow_nDigits b) (by rw [← HLa.out]; exact Lib.lt_pow_nDigits a)
    rcases Nat.lt_trichotomy a b with h | h | h
    · have HV : Hid (cmpI a b = -1) := by show _ = _; unfold cmpI; rw [if_pos h]
      rw [HV.out]
      rw [decide_eq_true h] at h1
      clear h2
      go_enter Tryd.func63, Tryd.ntmps63
      go_wp2_with fail
      go_ret
      exact ⟨rfl, rfl⟩
    · subst h
      have HV : Hid (cmpI a a = 0) := by show _ = _; unfold cmpI; rw [if_neg (by omega), if_neg (by omega)]
      rw [HV.out]
      have h3 : Op.bytesLess (dec a).toList (dec a).toList = false := bytes_irr _
      have h4 : ((dec a).toList == (dec a).toList) = true := by simp
      clear h1 h2
      go_enter Tryd.func63, Tryd.ntmps63
      go_wp2_with fail
      go_ret
      exact ⟨rfl, rfl⟩
    · have HV : Hid (cmpI a b = 1) := by show _ = _; unfold cmpI; rw [if_neg (by omega), if_pos h]
      rw [HV.out]
      rw [decide_eq_false (show ¬ a < b by omega)] at h1
      have h4 : ((dec a).toList == (dec b).toList) = false := by
        rw [beq_eq_false_iff_ne]
        intro e
        rw [Go.ByteArray.toList_eq, Go.ByteArray.toList_eq] at e
        have := dec_inj (ba_ext e); omega
      clear h2
      go_enter Tryd.func63, Tryd.ntmps63
      go_wp2_with fail
      go_ret
      exact ⟨rfl, rfl⟩
  · have hne : ((la : Int) != (lb : Int)) = true := by rw [bne_iff_ne]; omega
    have HV : Hid (cmpI a b = 1) := by
      have := lt_of_digits (a := b) (b := a) (by rw [HLa.out, HLb.out]; exact h)
      show _ = _; unfold cmpI; rw [if_neg (by omega), if_pos this]
    rw [HV.out]
    go_enter Tryd.func63, Tryd.ntmps63
    go_wp2_with fail
    go_ret
    exact ⟨rfl, rfl⟩
end Go.Proofs.YtbbffhpppacihaaDoor

namespace Go.Proofs.YtbbffhpppacihaaDoor
open Go.RowKit Go.Siskin

theorem Tryd.infoByteZ2 : (Tryd.prog.info? 5).map (fun i => (i.zero, i.size, i.bytes)) = some (some (.int .u8 0), 1, 1) := by kernel_rfl
/-- The bytes of a text as cells. -/
def byteL (t : ByteArray) : List Value := t.data.toList.map fun c : UInt8 => Value.int .u8 (c.toNat : Int)
theorem byteL_length (t : ByteArray) : (byteL t).length = t.size := by simp [byteL]
theorem byteL_snoc (m v d : Nat) (h : d < 10) : byteL (digT (m + 1) (v * 10 + d)) = byteL (digT m v) ++ [.int .u8 (((48 + d : Nat)) : Int)] := by
  rw [← digT_snoc m v d h]
  unfold byteL
  rw [ByteArray.data_append]
  have e : (UInt8.ofNat (48 + d)).toNat = 48 + d := by simp; omega
  simp only [Array.toList_append, List.map_append, List.map_cons, List.map_nil, e]

theorem conv_back (W : World) (base n g cap : Nat) (t : ByteArray) (h : W.ownsRow base 5 1 (.slice (some ⟨g, 0, none⟩) n cap) n (byteL t)) : (convert 34 9 (.slice (some ⟨g, 0, none⟩) n cap)).run Tryd.prog W = .ok (.string t) W := by
  have hl := h.1
  rw [byteL_length] at hl
  have hcells := h.cells (g := g) rfl
  have e := run_convert_bytes_back (P := Tryd.prog) W 34 9 5 ⟨g, 0, none⟩ cap t.data.toList Tryd.underlying34 Tryd.underlying5 Tryd.underlying9 (fun j hj => hcells j (.int .u8 (t.data.toList[j].toNat : Int)) (by rw [byteL, List.getElem?_map, List.getElem?_eq_getElem hj]; rfl))
  have hn : t.data.toList.length = n := by
    have : t.data.toList.length = t.size := by rw [Array.length_toList]; rfl
    omega
  rw [hn] at e
  simpa using e

/-- What a text of digits tells. -/
def valL (l : List UInt8) : Nat := l.foldl (fun v c => v * 10 + (c.toNat - 48)) 0
def valT (t : ByteArray) : Nat := valL t.data.toList
theorem valL_snoc (l : List UInt8) (c : UInt8) : valL (l ++ [c]) = valL l * 10 + (c.toNat - 48) := by simp [valL]
theorem valL_dig : ∀ (m v : Nat), v < 10 ^ m → valL (digL m v) = v
  | 0, v, h => by simp at h; subst h; rfl
  | m + 1, v, h => by
    rw [digL_succ, valL_snoc, valL_dig m (v / 10) (by rw [Nat.pow_succ] at h; omega)]
    have e : (UInt8.ofNat (48 + v % 10)).toNat = 48 + v % 10 := by simp; omega
    rw [e]; omega
theorem valT_dec (v : Nat) : valT (dec v) = v := by
  show valL (digL (Lib.nDigits v) v).toArray.toList = v
  rw [List.toList_toArray]
  exact valL_dig _ v (Lib.lt_pow_nDigits v)

/-- Dividing digit by digit. -/
theorem div_step {a b i n : Nat} (hb : 0 < b) (hi : i < n) : a / 10 ^ (n - (i + 1)) / b = a / 10 ^ (n - i) / b * 10 + (a / 10 ^ (n - i) % b * 10 + a / 10 ^ (n - 1 - i) % 10) / b ∧
    a / 10 ^ (n - (i + 1)) % b = (a / 10 ^ (n - i) % b * 10 + a / 10 ^ (n - 1 - i) % 10) % b ∧ a / 10 ^ (n - i) % b * 10 + a / 10 ^ (n - 1 - i) % 10 < b * 10 := by
  obtain ⟨k, hk⟩ : ∃ k, n - (i + 1) = k := ⟨_, rfl⟩
  rw [hk, show n - i = k + 1 by omega, show n - 1 - i = k by omega, Nat.pow_succ, ← Nat.div_div_eq_div_mul]
  generalize a / 10 ^ k = y
  have h1 := Nat.div_add_mod (y / 10) b
  have h2 := Nat.mod_lt (y / 10) hb
  generalize y / 10 / b = q at *
  generalize y / 10 % b = r at *
  have h3 : y = b * (q * 10) + (r * 10 + y % 10) := by
    have e : b * (q * 10) = b * q * 10 := by rw [Nat.mul_assoc]
    omega
  refine ⟨?_, ?_, by omega⟩
  · rw [h3]
    rw [Nat.mul_add_div hb]
    congr 2
    omega
  · have e : y % b = (b * (q * 10) + (r * 10 + y % 10)) % b := congrArg (· % b) h3
    rw [e, Nat.mul_add_mod]
end Go.Proofs.YtbbffhpppacihaaDoor

namespace Go.Proofs.YtbbffhpppacihaaDoor
open Go.RowKit Go.Siskin

/-- A text of decimal digits, one at least, without noughts ahead. -/
def DecP (t : ByteArray) : Prop := 0 < t.size ∧ (t.size = 1 ∨ ∀ h : 0 < t.size, t[0] ≠ 48) ∧ ∀ i (h : i < t.size), 48 ≤ t[i].toNat ∧ t[i].toNat ≤ 57

theorem valL_upto : ∀ (n : Nat) (l : List UInt8), l.length = n → (∀ c ∈ l, 48 ≤ c.toNat ∧ c.toNat ≤ 57) → digL l.length (valL l) = l ∧ valL l < 10 ^ l.length
  | 0, l, hn, _ => by
    have : l = [] := List.length_eq_zero_iff.1 hn
    subst this
    exact ⟨rfl, by simp [valL]⟩
  | n + 1, l, hn, h => by
    rcases List.eq_nil_or_concat l with rfl | ⟨l, c, rfl⟩
    · simp at hn
    · rw [List.concat_eq_append] at *
      rw [List.length_append, List.length_singleton] at hn
      obtain ⟨h1, h2⟩ := valL_upto n l (by omega) (fun x hx => h x (List.mem_append_left _ hx))
      have hc := h c (by simp)
      rw [List.length_append, List.length_singleton, valL_snoc, digL_succ, Nat.pow_succ]
      refine ⟨?_, by omega⟩
      have e1 : (valL l * 10 + (c.toNat - 48)) / 10 = valL l := by omega
      have e2 : 48 + (valL l * 10 + (c.toNat - 48)) % 10 = c.toNat := by omega
      rw [e1, e2, h1]
      congr 1
      simp
theorem valL_digL (l : List UInt8) (h : ∀ c ∈ l, 48 ≤ c.toNat ∧ c.toNat ≤ 57) : digL l.length (valL l) = l ∧ valL l < 10 ^ l.length := valL_upto _ l rfl h
theorem decP_iff (t : ByteArray) : DecP t ↔ ∃ v, t = dec v := by
  constructor
  · rintro ⟨h0, h1, h2⟩
    have hl : t.data.toList.length = t.size := by rw [Array.length_toList]; rfl
    have hall : ∀ c ∈ t.data.toList, 48 ≤ c.toNat ∧ c.toNat ≤ 57 := by
      intro c hc
      obtain ⟨i, hi, rfl⟩ := List.getElem_of_mem hc
      have := h2 i (by omega)
      rw [Array.getElem_toList]; exact this
    obtain ⟨e1, e2⟩ := valL_digL _ hall
    refine ⟨valL t.data.toList, ?_⟩
    apply ba_ext
    show _ = (digL (Lib.nDigits (valL t.data.toList)) (valL t.data.toList)).toArray.toList
    rw [List.toList_toArray]
    have hn : Lib.nDigits (valL t.data.toList) = t.data.toList.length := by
      refine nDigits_of e2 ?_
      rw [hl]
      rcases h1 with h1 | h1
      · exact Or.inl h1
      · refine Or.inr ⟨h0, ?_⟩
        intro hz
        have hd : (digL t.data.toList.length (valL t.data.toList))[0]? = t.data.toList[0]? := by rw [e1]
        have hlen : 0 < t.data.toList.length := by omega
        rw [List.getElem?_eq_getElem (by rw [digL_length]; exact hlen), List.getElem?_eq_getElem hlen] at hd
        have hd2 := Option.some.inj hd
        simp only [digL, List.getElem_map, List.getElem_range, Nat.sub_zero] at hd2
        have hg : t.data.toList[0] = t[0] := rfl
        have hh := h1 h0
        apply hh
        rw [← hg, ← hd2]
        apply UInt8.toNat_inj.1
        rw [dg_nat, hl, hz]
        rfl
    rw [hn, e1]
  · rintro ⟨v, rfl⟩
    have hs := dec_size v
    have hp := Lib.nDigits_pos v
    refine ⟨by omega, ?_, ?_⟩
    · by_cases h1 : Lib.nDigits v = 1
      · exact Or.inl (by omega)
      · refine Or.inr fun h hz => ?_
        have hv : 0 < v := by
          rcases Nat.eq_zero_or_pos v with h | h
          · subst h; rw [Lib.nDigits_small (by decide)] at h1; exact absurd rfl h1
          · exact h
        have ht := dec_top hv
        have hg := digT_nat (Lib.nDigits v) v 0 h
        rw [Nat.sub_zero] at hg
        have hz2 : ((digT (Lib.nDigits v) v)[0]'h).toNat = 48 := by
          have : (digT (Lib.nDigits v) v)[0]'h = 48 := hz
          rw [this]; rfl
        rw [hz2] at hg
        omega
    · intro i h
      have hg := digT_nat (Lib.nDigits v) v i h
      have h10 := Nat.mod_lt (v / 10 ^ (Lib.nDigits v - 1 - i)) (show 0 < 10 by decide)
      have he : (dec v)[i] = (digT (Lib.nDigits v) v)[i]'h := rfl
      rw [he]
      generalize v / 10 ^ (Lib.nDigits v - 1 - i) % 10 = x at *
      omega
end Go.Proofs.YtbbffhpppacihaaDoor

namespace Go.Proofs.YtbbffhpppacihaaDoor
open Go.RowKit Go.Siskin

set_option maxRecDepth 20000 in
set_option maxHeartbeats 1000000 in
theorem l11DigitsOk_any (t : ByteArray) (w : World) (ht : t.size ≤ maxLen) (b : Bool) (hb : b = true ↔ DecP t) :
    Calls Tryd.prog 50 #[.string t] w fun e w' => e = .returned (.bool b) ∧ w' = w := by
  have HB := hid hb
  unfold maxLen at ht
  clear hb
  by_cases h0 : t.size = 0
  · have h0b : ((t.size : Int) == 0) = true := by rw [beq_iff_eq]; omega
    have HV : Hid (false = b) := by
      show _ = _
      cases hbb : b with
      | false => rfl
      | true => have := (HB.out.1 hbb).1; omega
    have H0 := hid h0
    clear h0
    go_enter Tryd.func50, Tryd.ntmps50
    go_wp2_with fail
    go_ret
    exact ⟨ret_boolz HV.out, rfl⟩
  · have h0b : ((t.size : Int) == 0) = false := by rw [beq_eq_false_iff_ne]; omega
    have hpos : 0 < t.size := by omega
    by_cases h1 : 1 < t.size ∧ t[0] = 48
    · have HV : Hid (false = b) := by
        show _ = _
        cases hbb : b with
        | false => rfl
        | true =>
          have := (HB.out.1 hbb).2.1
          rcases this with h | h
          · omega
          · exact absurd h1.2 (h hpos)
      have h1a := h1.1
      have h1b : (((t[0]).toNat : Int) == 48) = true := by rw [h1.2]; rfl
      clear h1 h0
      go_enter Tryd.func50, Tryd.ntmps50
      go_wp2_with fail
      go_ret
      exact ⟨ret_boolz HV.out, rfl⟩
    · have HL : Hid (t.size = 1 ∨ ∀ h : 0 < t.size, t[0] ≠ 48) := by
        show _ ∨ _
        by_cases h : t.size = 1
        · exact Or.inl h
        · exact Or.inr fun _ e => h1 ⟨by omega, e⟩
      have hcase : (t.size = 1) ∨ (1 < t.size ∧ (((t[0]).toNat : Int) == 48) = false) := by
        by_cases h : t.size = 1
        · exact Or.inl h
        · refine Or.inr ⟨by omega, ?_⟩
          rw [beq_eq_false_iff_ne]
          intro e
          exact h1 ⟨by omega, by apply UInt8.toNat_inj.1; show t[0].toNat = 48; omega⟩
      clear h1 h0
      rcases hcase with h1 | ⟨h1, h2⟩
      · have h1c : ¬ 1 < t.size := by omega
        have H1 := hid h1
        clear h1
        go_enter Tryd.func50, Tryd.ntmps50
        go_wp2_with fail
        go_loop [3] (fun i => ∃ k : Nat, k ≤ t.size ∧ i = .int .i64 k ∧ Hid (∀ j (h : j < t.size), j < k → 48 ≤ t[j].toNat ∧ t[j].toNat ≤ 57)) (fun i => t.size - (intOf i).toNat)
        case atStart => exact ⟨0, Nat.zero_le _, rfl, fun j _ h => absurd h (by omega)⟩
        case round =>
          obtain ⟨k, hk, rfl, HD⟩ := hrel
          by_cases hlt : k < t.size
          · by_cases h48 : ((t[k]).toNat : Int) < 48
            · have HV : Hid (false = b) := by
                show _ = _
                cases hbb : b with
                | false => rfl
                | true =>
                  have := (HB.out.1 hbb).2.2 k hlt
                  omega
              go_wp2_with fail
              go_ret
              exact ⟨ret_boolz HV.out, rfl⟩
            · by_cases h57 : 57 < ((t[k]).toNat : Int)
              · have HV : Hid (false = b) := by
                  show _ = _
                  cases hbb : b with
                  | false => rfl
                  | true =>
                    have := (HB.out.1 hbb).2.2 k hlt
                    omega
                go_wp2_with fail
                go_ret
                exact ⟨ret_boolz HV.out, rfl⟩
              · have HD2 : Hid (∀ j (h : j < t.size), j < k + 1 → 48 ≤ t[j].toNat ∧ t[j].toNat ≤ 57) := by
                  intro j h hj
                  by_cases e : j = k
                  · subst e; omega
                  · exact HD.out j h (by omega)
                go_wp2_with fail
                go_round
                case rel => exact ⟨k + 1, by omega, by go_num, HD2⟩
                case measure => simp [intOf]; omega
          · have HV : Hid (true = b) := (HB.out.2 ⟨by have := hpos; omega, HL.out, fun j h => HD.out j h (by omega)⟩).symm
            go_wp2_with fail
            go_ret
            exact ⟨ret_boolz HV.out, rfl⟩
      · go_enter Tryd.func50, Tryd.ntmps50
        go_wp2_with fail
        go_loop [3] (fun i => ∃ k : Nat, k ≤ t.size ∧ i = .int .i64 k ∧ Hid (∀ j (h : j < t.size), j < k → 48 ≤ t[j].toNat ∧ t[j].toNat ≤ 57)) (fun i => t.size - (intOf i).toNat)
        case atStart => exact ⟨0, Nat.zero_le _, rfl, fun j _ h => absurd h (by omega)⟩
        case round =>
          obtain ⟨k, hk, rfl, HD⟩ := hrel
          by_cases hlt : k < t.size
          · by_cases h48 : ((t[k]).toNat : Int) < 48
            · have HV : Hid (false = b) := by
                show _ = _
                cases hbb : b with
                | false => rfl
                | true =>
                  have := (HB.out.1 hbb).2.2 k hlt
                  omega
              go_wp2_with fail
              go_ret
              exact ⟨ret_boolz HV.out, rfl⟩
            · by_cases h57 : 57 < ((t[k]).toNat : Int)
              · have HV : Hid (false = b) := by
                  show _ = _
                  cases hbb : b with
                  | false => rfl
                  | true =>
                    have := (HB.out.1 hbb).2.2 k hlt
                    omega
                go_wp2_with fail
                go_ret
                exact ⟨ret_boolz HV.out, rfl⟩
              · have HD2 : Hid (∀ j (h : j < t.size), j < k + 1 → 48 ≤ t[j].toNat ∧ t[j].toNat ≤ 57) := by
                  intro j h hj
                  by_cases e : j = k
                  · subst e; omega
                  · exact HD.out j h (by omega)
                go_wp2_with fail
                go_round
                case rel => exact ⟨k + 1, by omega, by go_num, HD2⟩
                case measure => simp [intOf]; omega
          · have HV : Hid (true = b) := (HB.out.2 ⟨by have := hpos; omega, HL.out, fun j h => HD.out j h (by omega)⟩).symm
            go_wp2_with fail
            go_ret
            exact ⟨ret_boolz HV.out, rfl⟩

set_option maxRecDepth 20000 in
set_option maxHeartbeats 1000000 in
theorem isDecimals_any (t : ByteArray) (w : World) (ht : t.size ≤ maxLen) (b : Bool) (hb : b = true ↔ DecP t ∧ t.size ≤ 60) :
    Calls Tryd.prog 79 #[.string t] w fun e w' => e = .returned (.bool b) ∧ w' = w := by
  have HB := hid hb
  unfold maxLen at ht
  have HnB : ¬ (DecP t ∧ t.size ≤ 60) → Hid (false = b) := fun hn => by
    show _ = _
    cases hbb : b with
    | false => rfl
    | true => exact absurd (HB.out.1 hbb) hn
  have HNB := hid HnB
  clear hb HnB
  by_cases h0 : t.size = 0
  · have h0b : (t.toList == []) = true := by
      rw [Go.ByteArray.toList_eq]
      have : t.data.toList.length = 0 := by have e : t.data.toList.length = t.size := by rw [Array.length_toList]; rfl
                                            omega
      rw [List.length_eq_zero_iff.1 this]; rfl
    have HV := HNB.out (fun h => by have := h.1.1; omega)
    clear h0 HNB
    go_enter Tryd.func79, Tryd.ntmps79
    go_wp2_with fail
    go_ret
    exact ⟨ret_boolz HV.out, rfl⟩
  · have hpos : 0 < t.size := by omega
    have h0b : (t.toList == []) = false := by
      rw [beq_eq_false_iff_ne, Go.ByteArray.toList_eq]
      intro e
      have e2 : t.data.toList.length = t.size := by rw [Array.length_toList]; rfl
      rw [e] at e2; simp at e2; omega
    by_cases h60 : 60 < t.size
    · have HV := HNB.out (fun h => by have := h.2; omega)
      clear h0 HNB
      go_enter Tryd.func79, Tryd.ntmps79
      go_wp2_with fail
      go_ret
      exact ⟨ret_boolz HV.out, rfl⟩
    · have h0z : (t.toList == [48]) = decide (t.size = 1 ∧ t[0] = 48) := by
        rw [Go.ByteArray.toList_eq, Bool.eq_iff_iff, decide_eq_true_eq, beq_iff_eq]
        have e2 : t.data.toList.length = t.size := by rw [Array.length_toList]; rfl
        constructor
        · intro e
          have h1 : t.size = 1 := by rw [e] at e2; simpa using e2.symm
          refine ⟨h1, ?_⟩
          have h2 : t.data.toList[0]? = some 48 := by rw [e]; rfl
          rw [List.getElem?_eq_getElem (by omega)] at h2
          have h3 := Option.some.inj h2
          rw [Array.getElem_toList] at h3
          exact h3
        · rintro ⟨h1, h2⟩
          apply List.ext_getElem
          · simpa using by omega
          · intro i g1 g2
            simp at g2; subst g2
            rw [Array.getElem_toList]
            exact h2
      by_cases h48 : (((t[0]).toNat : Int) == 48) = true
      · have h48' : t[0] = 48 := by
          apply UInt8.toNat_inj.1
          rw [beq_iff_eq] at h48
          show t[0].toNat = 48
          omega
        by_cases h1 : t.size = 1
        · have hz : (t.toList == [48]) = true := by rw [h0z, decide_eq_true_eq]; exact ⟨h1, h48'⟩
          have HL : Hid (t.size = 1 ∨ ∀ h : 0 < t.size, t[0] ≠ 48) := Or.inl h1
          clear h0z h1 h48' h0 HNB
          go_enter Tryd.func79, Tryd.ntmps79
          go_wp2_with fail
          go_loop [22] (fun i => ∃ k : Nat, k ≤ t.size ∧ i = .int .i64 k ∧ Hid (∀ j (h : j < t.size), j < k → 48 ≤ t[j].toNat ∧ t[j].toNat ≤ 57)) (fun i => t.size - (intOf i).toNat)
          case atStart => exact ⟨0, Nat.zero_le _, rfl, fun j _ h => absurd h (by omega)⟩
          case round =>
            obtain ⟨k, hk, rfl, HD⟩ := hrel
            by_cases hlt : k < t.size
            · by_cases h48 : ((t[k]).toNat : Int) < 48
              · have HV : Hid (false = b) := by
                  show _ = _
                  cases hbb : b with
                  | false => rfl
                  | true =>
                    have := (HB.out.1 hbb).1.2.2 k hlt
                    omega
                go_wp2_with fail
                go_ret
                exact ⟨ret_boolz HV.out, rfl⟩
              · by_cases h57 : 57 < ((t[k]).toNat : Int)
                · have HV : Hid (false = b) := by
                    show _ = _
                    cases hbb : b with
                    | false => rfl
                    | true =>
                      have := (HB.out.1 hbb).1.2.2 k hlt
                      omega
                  go_wp2_with fail
                  go_ret
                  exact ⟨ret_boolz HV.out, rfl⟩
                · have HD2 : Hid (∀ j (h : j < t.size), j < k + 1 → 48 ≤ t[j].toNat ∧ t[j].toNat ≤ 57) := by
                    intro j h hj
                    by_cases e : j = k
                    · subst e; omega
                    · exact HD.out j h (by omega)
                  go_wp2_with fail
                  go_round
                  case rel => exact ⟨k + 1, by omega, by go_num, HD2⟩
                  case measure => simp [intOf]; omega
            · have HV : Hid (true = b) := (HB.out.2 ⟨⟨by have := hpos; omega, HL.out, fun j h => HD.out j h (by omega)⟩, by omega⟩).symm
              go_wp2_with fail
              go_ret
              exact ⟨ret_boolz HV.out, rfl⟩
        · have hz : (t.toList == [48]) = false := by rw [h0z, decide_eq_false_iff_not]; exact fun h => h1 h.1
          have HV := HNB.out (fun h => by
            rcases h.1.2.1 with h | h
            · exact h1 h
            · exact h hpos h48')
          clear h0z h1 h48' h0 HNB
          go_enter Tryd.func79, Tryd.ntmps79
          go_wp2_with fail
          go_ret
          exact ⟨ret_boolz HV.out, rfl⟩
      · have h48' : (((t[0]).toNat : Int) == 48) = false := by simpa using h48
        have HL : Hid (t.size = 1 ∨ ∀ h : 0 < t.size, t[0] ≠ 48) := Or.inr fun _ e => h48 (by rw [e]; rfl)
        clear h0z h48 h0 HNB
        go_enter Tryd.func79, Tryd.ntmps79
        go_wp2_with fail
        go_loop [22] (fun i => ∃ k : Nat, k ≤ t.size ∧ i = .int .i64 k ∧ Hid (∀ j (h : j < t.size), j < k → 48 ≤ t[j].toNat ∧ t[j].toNat ≤ 57)) (fun i => t.size - (intOf i).toNat)
        case atStart => exact ⟨0, Nat.zero_le _, rfl, fun j _ h => absurd h (by omega)⟩
        case round =>
          obtain ⟨k, hk, rfl, HD⟩ := hrel
          by_cases hlt : k < t.size
          · by_cases h48 : ((t[k]).toNat : Int) < 48
            · have HV : Hid (false = b) := by
                show _ = _
                cases hbb : b with
                | false => rfl
                | true =>
                  have := (HB.out.1 hbb).1.2.2 k hlt
                  omega
              go_wp2_with fail
              go_ret
              exact ⟨ret_boolz HV.out, rfl⟩
            · by_cases h57 : 57 < ((t[k]).toNat : Int)
              · have HV : Hid (false = b) := by
                  show _ = _
                  cases hbb : b with
                  | false => rfl
                  | true =>
                    have := (HB.out.1 hbb).1.2.2 k hlt
                    omega
                go_wp2_with fail
                go_ret
                exact ⟨ret_boolz HV.out, rfl⟩
              · have HD2 : Hid (∀ j (h : j < t.size), j < k + 1 → 48 ≤ t[j].toNat ∧ t[j].toNat ≤ 57) := by
                  intro j h hj
                  by_cases e : j = k
                  · subst e; omega
                  · exact HD.out j h (by omega)
                go_wp2_with fail
                go_round
                case rel => exact ⟨k + 1, by omega, by go_num, HD2⟩
                case measure => simp [intOf]; omega
          · have HV : Hid (true = b) := (HB.out.2 ⟨⟨by have := hpos; omega, HL.out, fun j h => HD.out j h (by omega)⟩, by omega⟩).symm
            go_wp2_with fail
            go_ret
            exact ⟨ret_boolz HV.out, rfl⟩
end Go.Proofs.YtbbffhpppacihaaDoor
