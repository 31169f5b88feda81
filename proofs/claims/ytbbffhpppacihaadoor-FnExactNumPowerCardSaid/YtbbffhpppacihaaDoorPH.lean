/-
  Powers plainly: sign, above and below; what too big means. Pure.
-/
import Derived.Test.YtbbffhpppacihaaDoorPart17
namespace Go.Proofs.YtbbffhpppacihaaDoor
open Go.RowKit Go.Siskin

/-- The sign of a power. -/
def pwN (n : Bool) (j : Nat) : Bool := n && decide (j % 2 = 1)
theorem pwN_zero (n : Bool) : pwN n 0 = false := by unfold pwN; simp
theorem pwN_one (n : Bool) : pwN n 1 = n := by unfold pwN; simp
theorem pwN_false (j : Nat) : pwN false j = false := rfl
theorem pwN_add (n : Bool) (i j : Nat) : (pwN n i != pwN n j) = pwN n (i + j) := by
  unfold pwN
  cases n
  · rfl
  · rcases Nat.mod_two_eq_zero_or_one i with hi | hi <;> rcases Nat.mod_two_eq_zero_or_one j with hj | hj <;> simp [hi, hj] <;> omega
theorem pwN_succ (n : Bool) (i : Nat) : (pwN n i != n) = pwN n (i + 1) := by
  have := pwN_add n i 1
  rwa [pwN_one] at this

theorem okUD_pow {n : Bool} {u d : Nat} (h : OkUD n u d) (j : Nat) : OkUD (pwN n j) (u ^ j) (d ^ j) := by
  obtain ⟨h1, h2, h3⟩ := h
  refine ⟨Nat.pow_ne_zero_iff' h1, ?_, Nat.Coprime.pow j j h3⟩
  rintro ⟨ha, hb⟩
  unfold pwN at ha
  rw [Bool.and_eq_true] at ha
  exact h2 ⟨ha.1, (Nat.pow_eq_zero.1 hb).1⟩
where Nat.pow_ne_zero_iff' {d j : Nat} (h : d ≠ 0) : d ^ j ≠ 0 := fun h0 => h (Nat.pow_eq_zero.1 h0).1

/-- The answer of a number that is in lowest terms. -/
theorem ansQ_ok {n : Bool} {u d : Nat} (h : OkUD n u d) : ansQ n u d = if Lib.nDigits u ≤ 60 ∧ Lib.nDigits d ≤ 60 then .tuple #[.agg #[.bool n, .string (dec u), .string (dec d)], .int .i64 0] else noAns 3 := by
  obtain ⟨h1, h2, h3⟩ := h
  unfold ansQ
  rw [h3, Nat.div_one, Nat.div_one]
  have : (n && !(u == 0)) = n := by
    cases n
    · rfl
    · have : u ≠ 0 := fun h => h2 ⟨rfl, h⟩
      simp [this]
  rw [this]
/-- What a power tells. -/
def powV (n : Bool) (u d k : Nat) : Value :=
  if Lib.nDigits (u ^ k) ≤ 60 ∧ Lib.nDigits (d ^ k) ≤ 60 then .tuple #[.agg #[.bool (pwN n k), .string (dec (u ^ k)), .string (dec (d ^ k))], .int .i64 0] else noAns 3
theorem powV_ansQ {n : Bool} {u d : Nat} (h : OkUD n u d) (k : Nat) : ansQ (pwN n k) (u ^ k) (d ^ k) = powV n u d k := ansQ_ok (okUD_pow h k)

theorem nDigits_pow_mono {u i j : Nat} (h : i ≤ j) (h60 : Lib.nDigits (u ^ j) ≤ 60) : Lib.nDigits (u ^ i) ≤ 60 := by
  rcases Nat.eq_zero_or_pos u with rfl | hu
  · rcases Nat.eq_zero_or_pos i with rfl | hi
    · rw [Nat.pow_zero]; exact (by rw [Lib.nDigits_small (by decide)]; decide)
    · rw [Nat.zero_pow hi]; exact (by rw [Lib.nDigits_small (by decide)]; decide)
  · exact Nat.le_trans (nDigits_mono (Nat.pow_le_pow_right hu h)) h60
/-- A power that is too big makes all later ones so. -/
theorem powV_big {n : Bool} {u d i k : Nat} (hik : i ≤ k) (h : ¬ (Lib.nDigits (u ^ i) ≤ 60 ∧ Lib.nDigits (d ^ i) ≤ 60)) : powV n u d k = noAns 3 :=
  if_neg fun hk => h ⟨nDigits_pow_mono hik hk.1, nDigits_pow_mono hik hk.2⟩
theorem powV_form (n : Bool) (u d k : Nat) : ∃ (m : Bool) (x y : ByteArray) (c : Int), powV n u d k = .tuple #[.agg #[.bool m, .string x, .string y], .int .i64 c] := by
  unfold powV
  split
  · exact ⟨_, _, _, _, rfl⟩
  · exact ⟨_, _, _, _, rfl⟩
theorem nG_60 {v : Nat} (h : Lib.nDigits v ≤ 60) : nG v ≤ 7 := by
  unfold nG; split <;> omega
end Go.Proofs.YtbbffhpppacihaaDoor
