/-
  The model's l11Small: the numeral of a number of the machine.
  The model's l12Out: a natural number in a radix. Condition: a numeral of at most 100 digits; the radix one of four.
  Plain numbers: a number in groups of nine decimal digits, the lowest first. No program is named.
  The program's naturals: isNought, isOne, trimmed, naturalOf. Condition: the groups lie in memory as NatA says.
  The program's digits of a natural. Condition: the groups lie in memory as NatA says, and the table of powers stands.
-/
import Derived.Test.YtakicnplmcemnaaDoorPart1
import Derived.Test.YtakicnplmcemnaaDoorPart2
import Derived.Deep.QuietTactic
import Derived.BigQuiet
import Derived.Deep.Draws
namespace Go.Proofs.YtakicnplmcemnaaDoor
open Go.RowKit Go.Siskin

theorem conv_one (W : World) (b : Nat) (x : Int) (c : UInt8) (hc : (c.toNat : Int) = x) (hg : W.cell? ⟨b, 0, none⟩ = some (.int .u8 x)) :
    (convert 67 9 (.slice (some ⟨b, 0, none⟩) 1 1)).run Tryd.prog W = .ok (.string ⟨#[c]⟩) W :=
  run_convert_bytes_back (P := Tryd.prog) W 67 9 5 ⟨b, 0, none⟩ 1 [c] Tryd.underlying67 Tryd.underlying5 Tryd.underlying9 (fun j hj => by
    simp at hj; subst hj
    rw [show (⟨b, 0, none⟩ : Addr).add 0 = ⟨b, 0, none⟩ by simp [Addr.add], hg]
    simp [hc])
theorem cell_newz (w : World) (v : Value) (e : TypeId) : (w.alloc (.cells #[v] e)).cell? ⟨w.heap.size, 0, none⟩ = some v := (own_new w #[v] e).cell 0

set_option maxRecDepth 20000 in
set_option maxHeartbeats 1000000 in
theorem l11Small_any (n : Nat) : ∀ (w : World) (_ : n ≤ 9223372036854775807),
    Calls Tryd.prog 36 #[.int .i64 n] w fun e w' => e = .returned (.string (dec n)) ∧ Below w.heap.size w w' := by
  induction n using Nat.strongRecOn with
  | _ n ih =>
    intro w hn
    by_cases h : n < 10
    · obtain ⟨c, hc⟩ : ∃ c : UInt8, c = UInt8.ofNat (48 + n) := ⟨_, rfl⟩
      have hcn : (c.toNat : Int) = 48 + (n : Int) := by rw [hc]; simp; omega
      have hcv := conv_one (w.alloc (.cells #[.int .u8 (48 + (n : Int))] 5)) w.heap.size (48 + n) c hcn (cell_newz w _ _)
      have HD : Hid ((⟨#[c]⟩ : ByteArray) = dec n) := by show _ = _; rw [hc, dec_small h]
      clear hc hcn
      go_enter Tryd.func36, Tryd.ntmps36
      go_wp2_with fail
      go_ret
      exact ⟨ret_strz HD.out, (Below.refl _ _).alloc (Nat.le_refl _) _⟩
    · have HI : Hid (∀ w, Calls Tryd.prog 36 #[.int .i64 ((n : Int) / 10)] w fun e w' => e = .returned (.string (dec (n / 10))) ∧ Below w.heap.size w w') := by
        show ∀ w, _
        intro w
        rw [show (n : Int) / 10 = ((n / 10 : Nat) : Int) by omega]
        exact ih (n / 10) (by omega) w (by omega)
      obtain ⟨c, hc⟩ : ∃ c : UInt8, c = UInt8.ofNat (48 + n % 10) := ⟨_, rfl⟩
      have HD : Hid (dec (n / 10) ++ (⟨#[c]⟩ : ByteArray) = dec n) := by show _ = _; rw [hc, dec_big h]
      have HC : Hid ((c.toNat : Int) = 48 + ((n % 10 : Nat) : Int)) := by show _ = _; rw [hc]; simp; omega
      have hwr : IntKind.i64.wrap ((n : Int) / 10) = (n : Int) / 10 := by simp [IntKind.wrap, IntKind.bits, IntKind.signed]; omega
      clear ih hc
      go_enter Tryd.func36, Tryd.ntmps36
      go_wp2_with fail
      have hcv : ∀ (W : World) (b : Nat), W.cell? ⟨b, 0, none⟩ = some (.int .u8 (48 + (n : Int) % 10)) → (convert 67 9 (.slice (some ⟨b, 0, none⟩) 1 1)).run Tryd.prog W = .ok (.string ⟨#[c]⟩) W := fun W b h => conv_one W b _ c (by rw [HC.out]; omega) h
      have hx : IntKind.u8.wrap (IntKind.i64.wrap (48 + (n : Int).tmod 10)) = 48 + (n : Int) % 10 := by
        rw [Int.tmod_eq_emod_of_nonneg (by omega)]
        simp [IntKind.wrap, IntKind.bits, IntKind.signed]; omega
      have hds : (dec (n / 10)).size ≤ 20 := by rw [dec_size]; exact nDigits_le (by omega) (by omega)
      go_region_with (first
        | (go_at_call 36
           go_loud (
            refine (HI.out _).mono ?_
            rintro e w1 ⟨rfl, hb⟩
            have q := bcell hb
            have s1 := hb.size
            have HB := hid hb
            clear hb)))
      all_goals go_wp2_with fail
      all_goals go_ret
      · exact ⟨ret_strz HD.out, ((Below.refl w.heap.size w).drew.trans HB.out).alloc (by have : w.heap.size ≤ w1.heap.size := s1; omega) _⟩
      all_goals exact ⟨ret_strz HD.out, (((Below.refl w.heap.size w).alloc (Nat.le_refl _) _).drew.trans (HB.out.mono (by simp)))⟩
end Go.Proofs.YtakicnplmcemnaaDoor

namespace Go.Proofs.YtakicnplmcemnaaDoor
open Go.RowKit Go.Siskin

/-- A digit of a radix. -/
def hexB (d : Nat) : UInt8 := if d < 10 then UInt8.ofNat (48 + d) else UInt8.ofNat (87 + d)
/-- The lowest K digits of n in a radix, the greatest first. -/
def outL (R n K : Nat) : List UInt8 := ((List.range K).map fun i => hexB (n / R ^ i % R)).reverse
def outT (R n K : Nat) : ByteArray := ⟨(outL R n K).toArray⟩
theorem outL_length (R n K : Nat) : (outL R n K).length = K := by simp [outL]
theorem outT_size (R n K : Nat) : (outT R n K).size = K := by
  show (outL R n K).toArray.size = K
  rw [List.size_toArray, outL_length]
theorem outL_succ (R n K : Nat) : outL R n (K + 1) = hexB (n / R ^ K % R) :: outL R n K := by
  unfold outL; rw [List.range_succ, List.map_append, List.reverse_append]; rfl
theorem outT_succ (R n K : Nat) : (⟨#[hexB (n / R ^ K % R)]⟩ : ByteArray) ++ outT R n K = outT R n (K + 1) := by
  apply ba_ext
  rw [ByteArray.data_append]
  show (#[hexB (n / R ^ K % R)] ++ (outL R n K).toArray).toList = (outL R n (K + 1)).toArray.toList
  rw [outL_succ]; simp
/-- So many digits it has. -/
def EndK (R n K : Nat) : Prop := 1 ≤ K ∧ n / R ^ K = 0 ∧ ∀ j, 1 ≤ j → j < K → n / R ^ j ≠ 0
theorem endK_one {R n K K' : Nat} (h : EndK R n K) (h' : EndK R n K') : K = K' := by
  rcases Nat.lt_trichotomy K K' with h1 | h1 | h1
  · exact absurd h.2.1 (h'.2.2 K h.1 h1)
  · exact h1
  · exact absurd h'.2.1 (h.2.2 K' h'.1 h1)
def RadP (R : Nat) : Prop := R = 2 ∨ R = 8 ∨ R = 10 ∨ R = 16
theorem rad_two {R : Nat} (h : RadP R) : 2 ≤ R ∧ R ≤ 16 := by rcases h with rfl | rfl | rfl | rfl <;> omega
theorem pow_upto (e k : Nat) (h : 10 * e ≤ k) : ((2 : Nat) ^ 10) ^ e ≤ 2 ^ k := by rw [← Nat.pow_mul]; exact Nat.pow_le_pow_right (by decide) h
/-- It has at most 400 digits. -/
theorem few_digits {R n k : Nat} (hR : 2 ≤ R) (hn : Lib.nDigits n ≤ 100) (h : n / R ^ k ≠ 0) : k < 400 := by
  rcases Nat.lt_or_ge k 400 with h1 | h1
  · exact h1
  · exfalso
    apply h
    apply Nat.div_eq_of_lt
    have h2 := Lib.lt_pow_nDigits n
    have h3 : 10 ^ Lib.nDigits n ≤ 10 ^ 100 := Nat.pow_le_pow_right (by decide) hn
    have h4 : (10 : Nat) ^ 100 ≤ (2 ^ 10) ^ 40 := by decide
    have h5 := pow_upto 40 k (by omega)
    have h6 : 2 ^ k ≤ R ^ k := Nat.pow_le_pow_left hR k
    omega

theorem hexS_at {d : Nat} (h : d < 16) (h2 : d < (⟨#[48, 49, 50, 51, 52, 53, 54, 55, 56, 57, 97, 98, 99, 100, 101, 102]⟩ : ByteArray).size) : (⟨#[48, 49, 50, 51, 52, 53, 54, 55, 56, 57, 97, 98, 99, 100, 101, 102]⟩ : ByteArray)[d]'h2 = hexB d := by
  have hcase : d = 0 ∨ d = 1 ∨ d = 2 ∨ d = 3 ∨ d = 4 ∨ d = 5 ∨ d = 6 ∨ d = 7 ∨ d = 8 ∨ d = 9 ∨ d = 10 ∨ d = 11 ∨ d = 12 ∨ d = 13 ∨ d = 14 ∨ d = 15 := by omega
  rcases hcase with rfl | rfl | rfl | rfl | rfl | rfl | rfl | rfl | rfl | rfl | rfl | rfl | rfl | rfl | rfl | rfl <;> rfl
theorem nought_textV (v : Nat) : ((dec v).toList == [48]) = decide (v = 0) := by
  rw [Bool.eq_iff_iff, decide_eq_true_eq, beq_iff_eq, Go.ByteArray.toList_eq]
  have hz : dec 0 = ⟨#[48]⟩ := by rw [dec_small (by decide)]; rfl
  constructor
  · intro e
    have h2 : dec v = dec 0 := by rw [hz]; exact ba_ext e
    exact dec_inj h2
  · rintro rfl; rw [hz]

set_option maxRecDepth 20000 in
set_option maxHeartbeats 2000000 in
theorem l12Out_any (n R : Nat) (w : World) (hR : RadP R) (hn : Lib.nDigits n ≤ 100) :
    Calls Tryd.prog 52 #[.string (dec n), .int .i64 R] w fun e w' => ∃ K, e = .returned (.string (outT R n K)) ∧ EndK R n K ∧ Below w.heap.size w w' := by
  have hR2 := rad_two hR
  have hzt : dec 0 = ⟨#[48]⟩ := by rw [dec_small (by decide)]; rfl
  have HZ := hid hzt
  have HN := hid hn
  have HSm := hid (fun w => l11Small_any R w (by omega))
  have HDv := hid (fun (k : Nat) w => l11Div_any (n / R ^ k) R w (Nat.le_trans (nDigits_mono (Nat.div_le_self _ _)) (by omega)) (Nat.le_trans (nDigits_le (m := 2) (by omega) (by decide)) (by decide)) (by omega))
  clear hn hzt hR
  go_enter Tryd.func52, Tryd.ntmps52
  go_wp2_with fail
  go_loopw [0, 5] (fun m o wr => ∃ k : Nat, m = .string (dec (n / R ^ k)) ∧ o = .string (outT R n k) ∧ k ≤ 400 ∧ Hid (∀ j, 1 ≤ j → j ≤ k → n / R ^ j ≠ 0) ∧ Hid (Below w.heap.size w wr)) (fun _ o _ => match o with | .string t => 402 - t.size | _ => 0)
  case atStart => exact ⟨0, by rw [Nat.pow_zero, Nat.div_one], rfl, by omega, fun j h1 h2 => by omega, Below.refl _ _⟩
  case round =>
    obtain ⟨k, rfl, rfl, hk, HNz, HB⟩ := hrel
    have hsz := HB.out.size
    have HDk := hid (HDv.out k)
    obtain ⟨r, HR⟩ : ∃ r : Nat, Hid (n / R ^ k % R = r) := ⟨_, rfl⟩
    have hr16 : r < 16 := by rw [← HR.out]; exact Nat.lt_of_lt_of_le (Nat.mod_lt _ (by omega)) hR2.2
    have HQ : Hid (n / R ^ k / R = n / R ^ (k + 1)) := by show _ = _; rw [Nat.div_div_eq_div_mul, ← Nat.pow_succ]
    rw [HR.out, HQ.out] at HDk
    go_wp2_with fail
    refine (HSm.out _).mono ?_
    rintro e w1 ⟨rfl, hw1⟩
    have HW1 := hid (HB.out.trans (hw1.mono hsz))
    have hs1 := HW1.out.size
    clear hw1
    go_wp2_with fail
    refine (HDk.out _).mono ?_
    rintro e w2 ⟨rfl, hw2⟩
    have HW2 := hid (HW1.out.trans (hw2.mono hs1))
    have hs2 := HW2.out.size
    clear hw2
    obtain ⟨l, HLl⟩ : ∃ l : Nat, Hid (Lib.nDigits r = l) := ⟨_, rfl⟩
    have hl2 : l ≤ 2 := by rw [← HLl.out]; exact nDigits_le (by omega) (by decide)
    have hrl : ((dec r).size : Int) = (l : Int) := by rw [dec_size, HLl.out]
    have HSz : Hid ((dec r).size = l) := by show _ = _; rw [dec_size, HLl.out]
    have HDg : Hid (∀ i (h : i < (dec r).size), (((dec r)[i]).toNat : Int) = 48 + ((r / 10 ^ (l - 1 - i) % 10 : Nat) : Int)) := by
      intro i h
      have h2 := digT_nat (Lib.nDigits r) r i h
      rw [← HLl.out]
      exact h2
    rename World => w2'
    go_wp2_with fail
    go_loop [8, 9] (fun d i => ∃ j : Nat, j ≤ l ∧ i = .int .i64 j ∧ d = .int .i64 ((r / 10 ^ (l - j) : Nat) : Int)) (fun _ i => l - (intOf i).toNat)
    case atStart => exact ⟨0, Nat.zero_le _, rfl, by rw [Nat.sub_zero, Nat.div_eq_of_lt (by rw [← HLl.out]; exact Lib.lt_pow_nDigits r)]; rfl⟩
    case round =>
      obtain ⟨j, hj, rfl, rfl⟩ := hrel
      by_cases hlt : j < l
      · have hjs : j < (dec r).size := by rw [HSz.out]; exact hlt
        have hdg := HDg.out j hjs
        obtain ⟨x, HX⟩ : ∃ x : Nat, Hid (r / 10 ^ (l - 1 - j) % 10 = x) := ⟨_, rfl⟩
        obtain ⟨y, HY⟩ : ∃ y : Nat, Hid (r / 10 ^ (l - j) = y) := ⟨_, rfl⟩
        have hx10 : x < 10 := by rw [← HX.out]; exact Nat.mod_lt _ (by decide)
        have hy16 : y < 16 := by rw [← HY.out]; exact Nat.lt_of_le_of_lt (Nat.div_le_self _ _) hr16
        have HN2 : Hid (r / 10 ^ (l - (j + 1)) = y * 10 + x) := by
          show _ = _
          have h1 : l - j = (l - 1 - j) + 1 := by omega
          rw [← HX.out, ← HY.out, show l - (j + 1) = l - 1 - j by omega, h1, Nat.pow_succ, ← Nat.div_div_eq_div_mul]
          omega
        rw [HX.out] at hdg
        rw [HY.out]
        go_wp2_with fail
        go_round
        case rel =>
          refine ⟨j + 1, by omega, by go_num, ?_⟩
          rw [HN2.out]
          congr 1; omega
        case measure => simp [intOf]; omega
      · have hjl : j = l := by omega
        subst hjl
        have he : r / 10 ^ (j - j) = r := by rw [Nat.sub_self, Nat.pow_zero, Nat.div_one]
        rw [he]
        clear he
        have hrs : r < (⟨#[48, 49, 50, 51, 52, 53, 54, 55, 56, 57, 97, 98, 99, 100, 101, 102]⟩ : ByteArray).size := hr16
        have HXh : Hid ((⟨#[48, 49, 50, 51, 52, 53, 54, 55, 56, 57, 97, 98, 99, 100, 101, 102]⟩ : ByteArray)[r]'hrs = hexB r) := hexS_at hr16 hrs
        have hcv := conv_one (w2'.alloc (.cells #[.int .u8 ((((⟨#[48, 49, 50, 51, 52, 53, 54, 55, 56, 57, 97, 98, 99, 100, 101, 102]⟩ : ByteArray)[r]'hrs).toNat : Nat) : Int)] 5)) w2'.heap.size _ ((⟨#[48, 49, 50, 51, 52, 53, 54, 55, 56, 57, 97, 98, 99, 100, 101, 102]⟩ : ByteArray)[r]'hrs) rfl (cell_newz _ _ _)
        have hot : (outT R n k).size = k := outT_size R n k
        have hotI : ((outT R n k).size : Int) = (k : Int) := by rw [hot]
        have HOut : Hid ((⟨#[(⟨#[48, 49, 50, 51, 52, 53, 54, 55, 56, 57, 97, 98, 99, 100, 101, 102]⟩ : ByteArray)[r]'hrs]⟩ : ByteArray) ++ outT R n k = outT R n (k + 1)) := by show _ = _; rw [HXh.out, ← HR.out]; exact outT_succ R n k
        have hnt : ((dec (n / R ^ (k + 1))).toList == [48]) = decide (n / R ^ (k + 1) = 0) := nought_textV _
        by_cases hz : n / R ^ (k + 1) = 0
        · rw [decide_eq_true hz] at hnt
          have HEnd : Hid (EndK R n (k + 1)) := ⟨by omega, hz, fun j h1 h2 => HNz.out j h1 (by omega)⟩
          clear hz
          go_wp2_with fail
          go_ret
          exact ⟨k + 1, ret_strz HOut.out, HEnd.out, HW2.out.alloc (by have := HW2.out.size; omega) _⟩
        · rw [decide_eq_false hz] at hnt
          have HNz2 : Hid (∀ j, 1 ≤ j → j ≤ k + 1 → n / R ^ j ≠ 0) := fun j h1 h2 => by
            by_cases e : j = k + 1
            · rw [e]; exact hz
            · exact HNz.out j h1 (by omega)
          have hk4 := few_digits hR2.1 HN.out hz
          clear hz
          go_wp2_with fail
          refine ⟨⟨k + 1, rfl, ?_, by omega, HNz2, HW2.out.alloc (by have := HW2.out.size; omega) _⟩, ?_⟩
          · rw [HOut.out]
          · rw [HOut.out]
            show 402 - (outT R n (k + 1)).size < 402 - (outT R n k).size
            rw [outT_size, outT_size]; omega
end Go.Proofs.YtakicnplmcemnaaDoor

namespace Go.Siskin

theorem p9 : (1000000000 : Nat) = 10 ^ 9 := rfl
theorem p9k (k : Nat) : 1000000000 ^ k = 10 ^ (9 * k) := by rw [p9, Nat.pow_mul]
theorem p9pos (k : Nat) : 0 < 1000000000 ^ k := Nat.pow_pos (by decide)

/-- The lowest m groups of v. -/
def grpN (m v : Nat) : List Nat := (List.range m).map fun i => v / 1000000000 ^ i % 1000000000
/-- How many groups v has; nought has none. -/
def nG (v : Nat) : Nat := if v = 0 then 0 else (Lib.nDigits v - 1) / 9 + 1
/-- The groups of v. -/
def grp (v : Nat) : List Nat := grpN (nG v) v

theorem grpN_length (m v : Nat) : (grpN m v).length = m := by simp [grpN]
theorem grp_length (v : Nat) : (grp v).length = nG v := grpN_length _ _
theorem grpN_get (m v i : Nat) (h : i < (grpN m v).length) : (grpN m v)[i] = v / 1000000000 ^ i % 1000000000 := by simp [grpN]
theorem grpN_zero (v : Nat) : grpN 0 v = [] := rfl
theorem grpN_snoc (m v : Nat) : grpN (m + 1) v = grpN m v ++ [v / 1000000000 ^ m % 1000000000] := by
  unfold grpN; rw [List.range_succ, List.map_append]; rfl
theorem grpN_take (m j v : Nat) (h : j ≤ m) : (grpN m v).take j = grpN j v := by
  apply List.ext_getElem
  · simp [grpN]; omega
  · intro i h1 h2; simp [grpN]
theorem grpN_drop (m j v : Nat) : (grpN m v).drop j = grpN (m - j) (v / 1000000000 ^ j) := by
  apply List.ext_getElem
  · simp [grpN]
  · intro i h1 h2
    simp only [grpN, List.getElem_drop, List.getElem_map, List.getElem_range]
    rw [Nat.div_div_eq_div_mul, ← Nat.pow_add]

theorem nG_zero : nG 0 = 0 := rfl
theorem grp_zero : grp 0 = [] := rfl
theorem nG_pos {v : Nat} (h : 0 < v) : 0 < nG v := by unfold nG; rw [if_neg (by omega)]; omega
theorem lt_pow_nG (v : Nat) : v < 1000000000 ^ nG v := by
  by_cases h : v = 0
  · subst h; simp [nG]
  · rw [p9k]
    unfold nG; rw [if_neg h]
    refine Nat.lt_of_lt_of_le (Lib.lt_pow_nDigits v) (Nat.pow_le_pow_right (by decide) ?_)
    have := Lib.nDigits_pos v
    omega
theorem pow_le_nG {v : Nat} (h : 0 < v) : 1000000000 ^ (nG v - 1) ≤ v := by
  rw [p9k]
  unfold nG; rw [if_neg (by omega)]
  refine Nat.le_trans (Nat.pow_le_pow_right (by decide) ?_) (pow_le_dec h)
  omega
theorem nG_of {v m : Nat} (h1 : v < 1000000000 ^ m) (h2 : m = 0 ∨ 1000000000 ^ (m - 1) ≤ v) : nG v = m := by
  rcases Nat.eq_zero_or_pos v with h0 | h0
  · subst h0
    rcases h2 with h2 | h2
    · subst h2; rfl
    · have := p9pos (m - 1); omega
  · have a1 := lt_pow_nG v
    have a2 := pow_le_nG h0
    have a3 := nG_pos h0
    rcases h2 with h2 | h2
    · subst h2; simp at h1; omega
    · have b1 : 1000000000 ^ (nG v - 1) < 1000000000 ^ m := by omega
      have b2 := (Nat.pow_lt_pow_iff_right (by decide)).1 b1
      have b3 : 1000000000 ^ (m - 1) < 1000000000 ^ nG v := by omega
      have b4 := (Nat.pow_lt_pow_iff_right (by decide)).1 b3
      omega
theorem grpN_grp {v m : Nat} (h1 : v < 1000000000 ^ m) (h2 : m = 0 ∨ 1000000000 ^ (m - 1) ≤ v) : grpN m v = grp v := by unfold grp; rw [nG_of h1 h2]
theorem nG_le {v m : Nat} (h : v < 1000000000 ^ m) : nG v ≤ m := by
  rcases Nat.eq_zero_or_pos v with h0 | h0
  · subst h0; exact Nat.zero_le _
  · have a2 := pow_le_nG h0
    have a3 := nG_pos h0
    have b1 : 1000000000 ^ (nG v - 1) < 1000000000 ^ m := by omega
    have b2 := (Nat.pow_lt_pow_iff_right (by decide)).1 b1
    omega
theorem nG_mono {a b : Nat} (h : a ≤ b) : nG a ≤ nG b := nG_le (Nat.lt_of_le_of_lt h (lt_pow_nG b))
theorem nG_one {v : Nat} (h0 : 0 < v) (h : v < 1000000000) : nG v = 1 := nG_of (by simpa using h) (Or.inr (by simp; omega))
theorem grp_one {v : Nat} (h0 : 0 < v) (h : v < 1000000000) : grp v = [v] := by
  unfold grp; rw [nG_one h0 h]; simp [grpN, Nat.mod_eq_of_lt h]
theorem nG_is_zero {v : Nat} : nG v = 0 ↔ v = 0 := by
  constructor
  · intro h
    have := lt_pow_nG v
    rw [h] at this; simp at this; exact this
  · rintro rfl; rfl
/-- The greatest group is not nought. -/
theorem top_pos {v : Nat} (h : 0 < v) : 0 < v / 1000000000 ^ (nG v - 1) ∧ v / 1000000000 ^ (nG v - 1) < 1000000000 := by
  have a1 := lt_pow_nG v
  have a2 := pow_le_nG h
  have a3 := nG_pos h
  refine ⟨Nat.div_pos a2 (p9pos _), Nat.div_lt_of_lt_mul ?_⟩
  rw [← Nat.pow_succ, show (nG v - 1).succ = nG v by omega]
  exact a1
theorem top_get {v : Nat} (h : 0 < v) : v / 1000000000 ^ (nG v - 1) % 1000000000 = v / 1000000000 ^ (nG v - 1) := Nat.mod_eq_of_lt (top_pos h).2

/-- A digit out of its group. -/
theorem digit_group (v p : Nat) : v / 1000000000 ^ (p / 9) % 1000000000 / 10 ^ (p % 9) % 10 = v / 10 ^ p % 10 := by
  rw [p9k]
  obtain ⟨q, hq⟩ : ∃ q, q = p / 9 := ⟨_, rfl⟩
  obtain ⟨r, hr⟩ : ∃ r, r = p % 9 := ⟨_, rfl⟩
  rw [← hq, ← hr]
  have hp : p = 9 * q + r := by omega
  have hr9 : r < 9 := by omega
  rw [hp, Nat.pow_add, ← Nat.div_div_eq_div_mul]
  generalize v / 10 ^ (9 * q) = x
  obtain ⟨s, hs⟩ : ∃ s, 9 = r + (s + 1) := ⟨9 - r - 1, by omega⟩
  rw [p9, hs, Nat.pow_add, Nat.mod_mul_right_div_self, Nat.mod_mod_of_dvd]
  exact ⟨10 ^ s, by rw [Nat.pow_succ, Nat.mul_comm]⟩

/-- How many digits, by the greatest group. -/
theorem nDigits_top {v : Nat} (h : 0 < v) : Lib.nDigits v = 9 * (nG v - 1) + Lib.nDigits (v / 1000000000 ^ (nG v - 1)) := by
  obtain ⟨k, hk⟩ : ∃ k, k = nG v - 1 := ⟨_, rfl⟩
  have t := top_pos h
  rw [← hk] at t ⊢
  obtain ⟨x, hx⟩ : ∃ x, x = v / 1000000000 ^ k := ⟨_, rfl⟩
  rw [← hx] at t ⊢
  have hp := Lib.nDigits_pos x
  obtain ⟨d, hd⟩ : ∃ d, Lib.nDigits x = d + 1 := ⟨Lib.nDigits x - 1, by omega⟩
  have l1 := Lib.lt_pow_nDigits x
  have l2 := pow_le_dec t.1
  rw [hd] at l1 l2 ⊢
  rw [Nat.add_sub_cancel] at l2
  rw [← Nat.add_assoc]
  have hP := p9pos k
  refine Lib.nDigits_unique (9 * k + d) v ?_ ?_
  · rw [Nat.pow_add, ← p9k]
    refine Nat.le_trans (Nat.mul_le_mul_left _ l2) ?_
    rw [hx]; exact Nat.mul_div_le v _
  · rw [Nat.add_assoc, Nat.pow_add, ← p9k]
    refine Nat.lt_of_lt_of_le ?_ (Nat.mul_le_mul_left _ (Nat.succ_le_of_lt l1))
    rw [hx, Nat.mul_comm]
    have h1 := Nat.div_add_mod v (1000000000 ^ k)
    have h2 := Nat.mod_lt v hP
    rw [Nat.succ_mul, Nat.mul_comm (v / _)]; omega
/-- How many of the nine powers are not above x. -/
def nPow (x j : Nat) : Nat := ((List.range j).filter fun i => 10 ^ i ≤ x).length
theorem nPow_succ (x j : Nat) : nPow x (j + 1) = nPow x j + if 10 ^ j ≤ x then 1 else 0 := by
  unfold nPow
  rw [List.range_succ, List.filter_append, List.length_append]
  by_cases h : 10 ^ j ≤ x
  · rw [if_pos h, List.filter_cons_of_pos (by simpa using h)]; rfl
  · rw [if_neg h, List.filter_cons_of_neg (by simpa using h)]; rfl
theorem nPow_le (x : Nat) : ∀ j, nPow x j ≤ j
  | 0 => Nat.le_refl _
  | j + 1 => by
    rw [nPow_succ]
    have := nPow_le x j
    split <;> omega
theorem nPow_min {x : Nat} (h : 0 < x) : ∀ j, nPow x j = min j (Lib.nDigits x)
  | 0 => by simp [nPow]
  | j + 1 => by
    rw [nPow_succ, nPow_min h j]
    have l1 := Lib.lt_pow_nDigits x
    have l2 := pow_le_dec h
    have hp := Lib.nDigits_pos x
    by_cases hj : 10 ^ j ≤ x
    · rw [if_pos hj]
      have : 10 ^ j < 10 ^ Lib.nDigits x := by omega
      have := (Nat.pow_lt_pow_iff_right (by decide)).1 this
      omega
    · rw [if_neg hj]
      have : 10 ^ (Lib.nDigits x - 1) < 10 ^ j := by omega
      have := (Nat.pow_lt_pow_iff_right (by decide)).1 this
      omega
theorem nPow_nine {x : Nat} (h : 0 < x) (h9 : x < 1000000000) : nPow x 9 = Lib.nDigits x := by
  rw [nPow_min h]
  have := nDigits_le (v := x) (m := 9) (by rw [← p9]; exact h9) (by decide)
  omega
end Go.Siskin

namespace Go.Proofs.YtakicnplmcemnaaDoor
open Go.RowKit Go.Siskin

theorem nG_lim {x : Nat} (h : nG x ≤ 1000) : (nG x : Int) ≤ 1000 := by omega

set_option maxHeartbeats 400000 in
theorem isNought_any (x : Nat) (v : Value) (w : World) (h : NatA w v (grp x)) :
    Calls Tryd.prog 50 #[v] w fun e w' => e = .returned (.bool (x == 0)) ∧ w' = w := by
  obtain ⟨a, cap, rfl, h1, h2, h3⟩ := h
  rw [grp_length] at *
  have HE : Hid ((x == 0) = ((nG x : Int) == 0)) := by
    show _ = _
    rw [Bool.eq_iff_iff]
    have := @nG_is_zero x
    simp; omega
  unfold maxLen at h2
  clear h3
  go_enter Tryd.func50, Tryd.ntmps50
  go_wp2_with fail
  go_ret
  exact ⟨ret_boolz HE.out.symm, rfl⟩

set_option maxHeartbeats 400000 in
theorem isOne_any (x : Nat) (v : Value) (w : World) (h : NatA w v (grp x)) :
    Calls Tryd.prog 75 #[v] w fun e w' => e = .returned (.bool (x == 1)) ∧ w' = w := by
  obtain ⟨a, cap, rfl, h1, h2, h3⟩ := h
  have HG := hid (grpN_get (nG x) x)
  rw [grp_length] at *
  unfold maxLen at h2
  by_cases h1x : nG x = 1
  · have hb : ((nG x : Int) == 1) = true := by rw [h1x]; rfl
    rcases h3 with h3 | ⟨b, o, rfl, -, h3⟩
    · have := congrArg List.length h3; rw [grp_length, h1x] at this; simp at this
    have hx0 : 0 < x := by
      rcases Nat.eq_zero_or_pos x with h | h
      · subst h; simp [nG] at h1x
      · exact h
    have hxs := lt_pow_nG x
    rw [h1x, Nat.pow_one] at hxs
    have g : w.cell? ⟨b, o, none⟩ = some (.int .u64 (x : Int)) := by
      have h := h3 0 (by rw [grp_length]; omega)
      rw [Nat.add_zero] at h
      rw [h]
      unfold grp; rw [HG.out]; simp [Nat.mod_eq_of_lt hxs]
    have hpos : 0 < nG x := by omega
    clear h3 h1x HG
    go_enter Tryd.func75, Tryd.ntmps75
    go_wp2_with fail
    go_ret
    exact ⟨ret_boolz (by rw [Bool.eq_iff_iff]; simp; omega), rfl⟩
  · have hb : ((nG x : Int) == 1) = false := by rw [beq_eq_false_iff_ne]; omega
    have HE : Hid ((x == 1) = false) := by
      show _ = _
      rw [beq_eq_false_iff_ne]; rintro rfl; exact h1x (nG_one (by decide) (by decide))
    clear h3 HG
    go_enter Tryd.func75, Tryd.ntmps75
    go_wp2_with fail
    go_ret
    exact ⟨ret_boolz HE.out.symm, rfl⟩

set_option maxHeartbeats 1000000 in
theorem trimmed_row (B : Nat → Prop) (m x : Nat) (v : Value) (w : World) (h : RowOf .u64 B w v (grpN m x)) (hx : x < 1000000000 ^ m) :
    Calls Tryd.prog 94 #[v] w fun e w' => ∃ u, e = .returned u ∧ RowOf .u64 B w' u (grp x) ∧ w' = w := by
  obtain ⟨a, cap, rfl, h1, h2, h3⟩ := h
  have HG := hid (grpN_get m x)
  have HN := hid h3
  rw [grpN_length] at *
  unfold maxLen at h2
  have HX := hid hx
  clear h3 hx
  go_enter Tryd.func94, Tryd.ntmps94
  go_wp2_with fail
  go_loop [0] (fun n => ∃ j : Nat, j ≤ m ∧ n = .slice a j cap ∧ Hid (x < 1000000000 ^ j)) (fun n => match n with | .slice _ j _ => j | _ => 0)
  case atStart => exact ⟨m, Nat.le_refl _, rfl, HX.out⟩
  case round =>
    obtain ⟨j, hj, rfl, HJ⟩ := hrel
    have HEnd : Hid ((j = 0 ∨ 1000000000 ^ (j - 1) ≤ x) → RowOf .u64 B w (.slice a j cap) (grp x)) := fun hh => by
      have e := grpN_grp HJ.out hh
      rw [← e]
      refine ⟨a, cap, by rw [grpN_length], by rw [grpN_length]; omega, by unfold maxLen; omega, ?_⟩
      rcases HN.out with h | ⟨b, o, e1, hb, h⟩
      · left
        have := congrArg List.length h; rw [grpN_length] at this; simp at this
        have : j = 0 := by omega
        subst this; rfl
      · refine Or.inr ⟨b, o, e1, hb, fun i hi => ?_⟩
        rw [grpN_length] at hi
        rw [h i (by rw [grpN_length]; omega), grpN_get, grpN_get]
    by_cases h0 : j = 0
    · subst h0
      go_wp2_with fail
      go_ret
      exact ⟨_, rfl, HEnd.out (by simp), rfl⟩
    · have hj0 : 0 < j := by omega
      rcases HN.out with h | ⟨b, o, rfl, hb, h⟩
      · have := congrArg List.length h; rw [grpN_length] at this; simp at this; omega
      have g := h (j - 1) (by rw [grpN_length]; omega)
      rw [grpN_get, show o + (j - 1) = o + (j - 1) from rfl] at g
      clear h hb
      obtain ⟨i, rfl⟩ : ∃ i, j = i + 1 := ⟨j - 1, by omega⟩
      rw [Nat.add_sub_cancel] at g
      obtain ⟨y, HY⟩ : ∃ y, Hid (x / 1000000000 ^ i % 1000000000 = y) := ⟨_, rfl⟩
      rw [HY.out] at g
      by_cases hy : y = 0
      · subst hy
        have HJ2 : Hid (x < 1000000000 ^ i) := by
          have h1 := HJ.out
          rw [Nat.pow_succ] at h1
          have h2 : x / 1000000000 ^ i < 1000000000 := Nat.div_lt_of_lt_mul h1
          have h3 := HY.out
          rw [Nat.mod_eq_of_lt h2] at h3
          have hp := p9pos i
          rcases Nat.lt_or_ge x (1000000000 ^ i) with h | h
          · exact h
          · have := Nat.div_pos h hp; omega
        go_wp2_with fail
        go_round
        case rel => exact ⟨i, by omega, by congr 1, HJ2⟩
        case measure => simp
      · have hyb : ((y : Int) == 0) = false := by rw [beq_eq_false_iff_ne]; omega
        have HE2 : Hid (RowOf .u64 B w (.slice (some ⟨b, o, none⟩) (i + 1) cap) (grp x)) := HEnd.out (Or.inr (by
          rw [Nat.add_sub_cancel]
          rcases Nat.lt_or_ge x (1000000000 ^ i) with h | h
          · have := HY.out; rw [Nat.div_eq_of_lt h] at this; simp at this; omega
          · exact h))
        clear hy
        go_wp2_with fail
        go_ret
        exact ⟨_, rfl, HE2.out, rfl⟩
theorem trimmed_any (m x : Nat) (v : Value) (w : World) (h : NatA w v (grpN m x)) (hx : x < 1000000000 ^ m) :
    Calls Tryd.prog 94 #[v] w fun e w' => ∃ u, e = .returned u ∧ NatA w' u (grp x) ∧ w' = w := by
  refine (trimmed_row (fun b => b < w.heap.size) m x v w h hx).mono ?_
  rintro e w' ⟨u, rfl, h1, rfl⟩
  exact ⟨u, rfl, h1, rfl⟩

set_option maxRecDepth 20000 in
set_option maxHeartbeats 1000000 in
theorem naturalOf_any (x : Nat) (w : World) (hx : x ≤ 18446744073709551615) :
    Calls Tryd.prog 39 #[.int .u64 x] w fun e w' => ∃ u, e = .returned u ∧ NatA w' u (grp x) ∧ Below w.heap.size w w' := by
  obtain ⟨i0, hi, hz0, hz1, hz2⟩ := info_partsZ Tryd.infoWordZ
  have Hi := hid hi
  have Hz0 := hid hz0
  have Hz1 := hid hz1
  have Hz2 := hid hz2
  clear hi hz0 hz1 hz2
  have HX := hid hx
  clear hx
  go_enter Tryd.func39, Tryd.ntmps39
  go_wp2_with fail
  go_loopw [0, 3] (fun z n wr => ∃ (k y : Nat) (ua : Option Addr) (uc : Nat), z = .int .u64 y ∧ n = .slice ua k uc ∧ Hid (x / 1000000000 ^ k = y) ∧ k ≤ 3 ∧ Hid (k = 0 ∨ 1000000000 ^ (k - 1) ≤ x) ∧ Hid (wr.ownsRow w.heap.size 52 1 (.slice ua k uc) k (numL .u64 (grpN k x))) ∧ Hid (Below w.heap.size w wr)) (fun _ n _ => match n with | .slice _ j _ => 3 - j | _ => 0)
  case atStart => exact ⟨0, x, none, 0, rfl, rfl, by show _ = _; simp, by omega, Or.inl rfl, World.ownsRow_nil _ _ _ _, Below.refl _ _⟩
  case round =>
    obtain ⟨k, y, ua, uc, rfl, rfl, HY, hk3, HT, HU, HB⟩ := hrel
    have hsz := HB.out.size
    by_cases hy : 0 < y
    · have hk : k < 3 := by
        rcases Nat.lt_or_ge k 3 with h | h
        · exact h
        · exfalso
          have hk3 : k = 3 := by omega
          subst hk3
          have h1 := HY.out
          have h2 := HX.out
          rw [Nat.div_eq_of_lt (by simp; omega)] at h1
          omega
      have HT2 : Hid (1000000000 ^ k ≤ x) := by
        rcases Nat.lt_or_ge x (1000000000 ^ k) with h | h
        · have := HY.out; rw [Nat.div_eq_of_lt h] at this; omega
        · exact h
      have hyl : y ≤ 18446744073709551615 := by rw [← HY.out]; exact Nat.le_trans (Nat.div_le_self _ _) HX.out
      have hw1 : IntKind.u64.wrap ((y : Int).tmod 1000000000) = (y : Int) % 1000000000 := by
        rw [Int.tmod_eq_emod_of_nonneg (by omega)]; simp [IntKind.wrap, IntKind.bits, IntKind.signed]; omega
      have hw2 : IntKind.u64.wrap ((y : Int).tdiv 1000000000) = (y : Int) / 1000000000 := by
        rw [Int.tdiv_eq_ediv_of_nonneg (by omega)]; simp [IntKind.wrap, IntKind.bits, IntKind.signed]; omega
      have HYL := hid hyl
      clear hyl
      go_wp2_with (at_builtin; refine wpList_append_lies _ rfl _ _ _ rfl w.heap.size 52 i0 (.int .u64 0) 1 8 Tryd.underlying44 Hi.out Hz0.out Hz1.out Hz2.out rfl (by decide) _ k (numL .u64 (grpN k x)) rfl (HU.out.alloc _) ⟨wr.heap.size, 0, none⟩ 1 1 [.int .u64 ((y : Int) % 1000000000)] rfl rfl (cell_one_newZ _ _ _) (by simp [Value.oneCell']) (by omega) (by unfold maxLen; omega) (by omega) (by simp; omega) (wr.heap.size + 1) (by simp) ?_; intro gg cc w4 hown' hg hat hgl; have hall := (World.grownBy_alloc wr _ _).trans hg)
      have hlow : ∀ g, (Value.slice ua k uc).ownBlock = some g → w.heap.size ≤ g := fun g e => (HU.out.lt g e).1
      have e2 : ((x / 1000000000 ^ k % 1000000000 : Nat) : Int) = (y : Int) % 1000000000 := by rw [HY.out]; omega
      refine ⟨⟨k + 1, y / 1000000000, some ⟨gg, 0, none⟩, cc, by congr 1, rfl, by show _ = _; rw [Nat.pow_succ, ← Nat.div_div_eq_div_mul, HY.out], by omega, Or.inr (by rw [Nat.add_sub_cancel]; exact HT2.out), ?_, HB.out.grown hall hsz hlow⟩, by simp; omega⟩
      show World.ownsRow _ _ _ _ _ _ _
      rw [grpN_snoc, numL_snoc, e2]
      exact hown'
    · obtain rfl : y = 0 := by omega
      have HE := hid (grpN_grp (v := x) (m := k) (by
        have h := HY.out
        rcases Nat.lt_or_ge x (1000000000 ^ k) with h' | h'
        · exact h'
        · have := Nat.div_pos h' (p9pos k); omega) HT.out)
      go_wp2_with fail
      go_ret
      refine ⟨_, rfl, ?_, HB.out⟩
      have := natA_own HU.out
      rw [HE.out] at this
      exact this
end Go.Proofs.YtakicnplmcemnaaDoor

namespace Go.Proofs.YtakicnplmcemnaaDoor
open Go.RowKit Go.Siskin

theorem run_index_nums {P : Program} {t e : TypeId} {n : Nat} (ht : P.underlying t = some (.array n e)) (he : P.plainKey e = true) {i : TypeInfo} (hi : P.info? e = some i) (h1 : P.cellsOf e = 1) {cs : Array Value} {k : Nat} {kk : IntKind} (hk : k < n) {v : Value} (hv : cs[k]? = some v) (w : World) :
    (Instr.index t (.agg cs) (.int kk k)).run P w = .ok v w := by
  have hk' : (0 : Int) ≤ k ∧ (k : Int) < n := ⟨by omega, by omega⟩
  unfold Instr.index
  simp only [asIntOf, Sem.run_bind, Sem.run_pure, Result.andThen_ok, run_underlying ht, if_pos hk', run_sizeOf w hi, h1, Nat.mul_one, Int.toNat_natCast]
  exact run_part_plain w he hv
/-- An element of an array that is held. -/
theorem wpList_index_nums {P : Program} (w : World) {ops : Array Oper} {rest : List Oper} {o : Oper} {a : Act} {Q : Exit → Act → World → Prop} (hgd : o.guard = none) (x i : Operand) (t : TypeId) (hop : o.op = Op.index t x i)
    {e : TypeId} {n : Nat} (ht : P.underlying t = some (.array n e)) (he : P.plainKey e = true) {inf : TypeInfo} (hi : P.info? e = some inf) (h1 : P.cellsOf e = 1) (cs : Array Value) (hx : a.eval x = .agg cs) (k : Nat) (kk : IntKind) (hk : a.eval i = .int kk k) (hkn : k < n) (v : Value) (hv : cs[k]? = some v)
    (hK : wpList P ops Q rest (a.put o.dst v) w) : wpList P ops Q (o :: rest) a w := by
  refine wpList_plain hgd fun K hK' => ?_
  unfold Oper.wp execOp
  simp only [hop, hx, hk, run_index_nums ht he hi h1 hkn hv w, Sem.run_bind, Result.andThen_ok, Sem.run_pure]
  exact hK' _ _ hK
theorem Tryd.plainWord : Tryd.prog.plainKey 52 = true := by kernel_rfl
theorem Tryd.cellsWord : Tryd.prog.cellsOf 52 = 1 := by kernel_rfl

set_option maxRecDepth 20000 in
set_option maxHeartbeats 1000000 in
theorem digits_any (x : Nat) (v : Value) (w : World) (h : NatA w v (grp x)) (hn : nG x ≤ 1000000) (hP : Pow9 w) :
    Calls Tryd.prog 96 #[v] w fun e w' => e = .returned (.int .i64 (Lib.nDigits x)) ∧ w' = w := by
  have HN := hid h
  have HC := hid (isNought_any x v w h)
  obtain ⟨a, cap, rfl, h1, h2, h3⟩ := h
  rw [grp_length] at *
  unfold maxLen at h2
  rcases Nat.eq_zero_or_pos x with h0 | h0
  · subst h0
    clear h3
    go_enter Tryd.func96, Tryd.ntmps96
    go_wp2_with (go_at_call 50; refine HC.out.mono ?_; rintro e w' ⟨rfl, rfl⟩)
    go_ret
    exact ⟨ret_intz (by rw [Lib.nDigits_small (by decide)]; rfl), rfl⟩
  · have hx0 : (x == 0) = false := by rw [beq_eq_false_iff_ne]; omega
    rw [hx0] at HC
    clear hx0
    have hg := nG_pos h0
    have HT := hid (top_pos h0)
    have HD := hid (nDigits_top h0)
    rcases h3 with h3 | ⟨b, o, rfl, -, h3⟩
    · have := congrArg List.length h3; rw [grp_length] at this; simp at this; omega
    obtain ⟨t, HTG⟩ : ∃ t, Hid (nG x = t + 1) := ⟨nG x - 1, by show _ = _; omega⟩
    rw [HTG.out] at h1 hn HC
    have g : w.cell? ⟨b, o + t, none⟩ = some (.int .u64 ((x / 1000000000 ^ t : Nat) : Int)) := by
      have h := h3 t (by rw [grp_length, HTG.out]; omega)
      rw [h]
      have e := top_get h0
      rw [HTG.out, Nat.add_sub_cancel] at e
      unfold grp; rw [grpN_get, e]
    have HT2 : Hid (0 < x / 1000000000 ^ t ∧ x / 1000000000 ^ t < 1000000000) := by
      have h := HT.out; rw [HTG.out, Nat.add_sub_cancel] at h; exact h
    have HD2 : Hid (Lib.nDigits x = 9 * t + Lib.nDigits (x / 1000000000 ^ t)) := by
      have h := HD.out; rw [HTG.out, Nat.add_sub_cancel] at h; exact h
    obtain ⟨z, HZ⟩ : ∃ z, Hid (x / 1000000000 ^ t = z) := ⟨_, rfl⟩
    rw [HZ.out] at g HT2 HD2
    rw [HTG.out]
    have P0 := hP.2 0 (by omega)
    have P1 := hP.2 1 (by omega)
    have P2 := hP.2 2 (by omega)
    have P3 := hP.2 3 (by omega)
    have P4 := hP.2 4 (by omega)
    have P5 := hP.2 5 (by omega)
    have P6 := hP.2 6 (by omega)
    have P7 := hP.2 7 (by omega)
    have P8 := hP.2 8 (by omega)
    obtain ⟨i0, hi, -, -, -⟩ := info_partsZ Tryd.infoWordZ
    have Hi := hid hi
    clear hi
    clear h3 hg hP HD HT HN
    go_enter Tryd.func96, Tryd.ntmps96
    go_wp2_with (go_at_call 50; refine HC.out.mono ?_; rintro e w' ⟨rfl, rfl⟩)
    go_loop [4, 15] (fun c i => ∃ k : Nat, k ≤ 9 ∧ i = .int .i64 k ∧ c = .int .i64 ((t : Int) * 9 + ((nPow z k : Nat) : Int))) (fun _ i => 9 - (intOf i).toNat)
    case atStart => exact ⟨0, by omega, rfl, by simp [nPow]⟩
    case round =>
      obtain ⟨k, hk, rfl, rfl⟩ := hrel
      have hle := nPow_le z k
      by_cases hlt : k < 9
      · have HS := hid (nPow_succ z k)
        obtain ⟨q, HQ⟩ : ∃ q, Hid (nPow z k = q) := ⟨_, rfl⟩
        rw [HQ.out] at hle ⊢
        have hzz : z < 1000000000 := HT2.out.2
        have HV : Hid ((#[.int .u64 1, .int .u64 10, .int .u64 100, .int .u64 1000, .int .u64 10000, .int .u64 100000, .int .u64 1000000, .int .u64 10000000, .int .u64 100000000] : Array Value)[k]? = some (.int .u64 ((10 ^ k : Nat) : Int))) := by
          have hcase : k = 0 ∨ k = 1 ∨ k = 2 ∨ k = 3 ∨ k = 4 ∨ k = 5 ∨ k = 6 ∨ k = 7 ∨ k = 8 := by omega
          show _ = _
          rcases hcase with rfl | rfl | rfl | rfl | rfl | rfl | rfl | rfl | rfl <;> rfl
        obtain ⟨p, HPk⟩ : ∃ p : Nat, Hid (10 ^ k = p) := ⟨_, rfl⟩
        rw [HPk.out] at HV HS
        by_cases hz : p ≤ z
        · have HS2 : Hid (nPow z (k + 1) = q + 1) := by show _ = _; rw [HS.out, if_pos hz, HQ.out]
          go_wp2_with (refine wpList_index_nums _ rfl (.tmp 14) (.tmp 15) _ rfl Tryd.underlying113 Tryd.plainWord Hi.out Tryd.cellsWord _ rfl k .i64 rfl hlt _ HV.out ?_)
          go_round
          case rel => exact ⟨k + 1, by omega, by congr 1, by rw [HS2.out]; congr 1⟩
          case measure => simp [intOf]; omega
        · have HS2 : Hid (nPow z (k + 1) = q) := by show _ = _; rw [HS.out, if_neg hz, HQ.out]; rfl
          go_wp2_with (refine wpList_index_nums _ rfl (.tmp 14) (.tmp 15) _ rfl Tryd.underlying113 Tryd.plainWord Hi.out Tryd.cellsWord _ rfl k .i64 rfl hlt _ HV.out ?_)
          go_round
          case rel => exact ⟨k + 1, by omega, by congr 1, by rw [HS2.out]⟩
          case measure => simp [intOf]; omega
      · obtain rfl : k = 9 := by omega
        have HF : Hid ((t : Int) * 9 + ((nPow z 9 : Nat) : Int) = (Lib.nDigits x : Int)) := by
          show _ = _
          rw [HD2.out, nPow_nine HT2.out.1 HT2.out.2]; omega
        go_wp2_with fail
        go_ret
        exact ⟨ret_intz HF.out, rfl⟩
end Go.Proofs.YtakicnplmcemnaaDoor
