/-
  NumQuo, NumMod, NumGcd: the model's and the program's answer the same. Condition: the table of powers and errors.errorType stand.
  Powers plainly: sign, above and below; what too big means. Pure.
-/
import Derived.Test.YtbbffhpppacihaaDoorPart22
import Derived.Test.YtbbffhpppacihaaDoorUN
import Derived.Test.YtbbffhpppacihaaDoorPart19
namespace Go.Proofs.YtbbffhpppacihaaDoor
open Go.RowKit Go.Siskin

/-- Both variables stand. -/
def PowE (w : World) : Prop := Pow9 w ∧ ErrT w
theorem PowE.below {w w' : World} {n : Nat} (h : PowE w) (hb : Below n w w') (hn : w.heap.size ≤ n) : PowE w' := ⟨h.1.below hb hn, h.2.below hb hn⟩

/-- What integersOf tells of any two numbers. -/
theorem integersOf_all (n1 n2 : Bool) (T1 R1 T2 R2 : ByteArray) (h1 : T1.size ≤ maxLen) (h2 : R1.size ≤ maxLen) (h3 : T2.size ≤ maxLen) (h4 : R2.size ≤ maxLen) :
    (¬ (NumP n1 T1 R1 ∧ NumP n2 T2 R2) ∧ ∀ w, Pow9 w → Calls Tryd.prog 60 #[.agg #[.bool n1, .string T1, .string R1], .agg #[.bool n2, .string T2, .string R2]] w fun e w' => e = .returned (.tuple #[int0, int0, whyV 1]) ∧ Below w.heap.size w w') ∨
    (∃ U1 D1 U2 D2, T1 = dec U1 ∧ R1 = dec D1 ∧ T2 = dec U2 ∧ R2 = dec D2 ∧ T1.size ≤ 60 ∧ R1.size ≤ 60 ∧ T2.size ≤ 60 ∧ R2.size ≤ 60 ∧ OkUD n1 U1 D1 ∧ OkUD n2 U2 D2 ∧ nG U1 ≤ 60 ∧ nG U2 ≤ 60 ∧
      ((¬ (D1 = 1 ∧ D2 = 1) ∧ ∀ w, Pow9 w → Calls Tryd.prog 60 #[.agg #[.bool n1, .string T1, .string R1], .agg #[.bool n2, .string T2, .string R2]] w fun e w' => e = .returned (.tuple #[int0, int0, whyV 4]) ∧ Below w.heap.size w w') ∨
       ((D1 = 1 ∧ D2 = 1) ∧ ∀ w, Pow9 w → Calls Tryd.prog 60 #[.agg #[.bool n1, .string T1, .string R1], .agg #[.bool n2, .string T2, .string R2]] w (IntPost n1 n2 U1 U2 w)))) := by
  obtain ⟨b1, p1, U1, D1, o1, c1⟩ := openNum_all n1 T1 R1 h1 h2
  obtain ⟨b2, p2, U2, D2, o2, c2⟩ := openNum_all n2 T2 R2 h3 h4
  have g1 := o1.small
  have g2 := o2.small
  have hR := fun w hP => ratiosOf_any n1 n2 T1 R1 T2 R2 b1 b2 p1 p2 U1 D1 U2 D2 w c1 c2 hP
  rcases both_parts o1 o2 with ⟨rfl, rfl, rfl, rfl, e1, e2, e3, e4, s1, s2, s3, s4, k1, k2⟩ | ⟨hb, hno⟩
  · refine Or.inr ⟨U1, D1, U2, D2, e1, e2, e3, e4, s1, s2, s3, s4, k1, k2, g1.1, g2.1, ?_⟩
    by_cases hd : D1 = 1 ∧ D2 = 1
    · exact Or.inr ⟨hd, fun w hP => integersOf_ok n1 n2 T1 R1 T2 R2 n1 n2 U1 D1 U2 D2 w hP hd hR⟩
    · exact Or.inl ⟨hd, fun w hP => integersOf_part n1 n2 T1 R1 T2 R2 n1 n2 U1 D1 U2 D2 w hP hd hR⟩
  · rw [hb] at hR
    exact Or.inl ⟨hno, fun w hP => integersOf_no n1 n2 T1 R1 T2 R2 p1 p2 U1 D1 U2 D2 w hP hR⟩

abbrev numV (n : Bool) (x y : ByteArray) : Value := .agg #[.bool n, .string x, .string y]
theorem whole_four {D1 D2 U2 : Nat} (h : ¬ (D1 = 1 ∧ D2 = 1)) : wholeC D1 D2 U2 = 4 := by
  unfold wholeC
  rw [if_pos]
  by_cases h1 : D1 = 1
  · exact Or.inr fun h2 => h ⟨h1, h2⟩
  · exact Or.inl h1
theorem whole_two {D1 D2 U2 : Nat} (h : D1 = 1 ∧ D2 = 1) (hu : U2 = 0) : wholeC D1 D2 U2 = 2 := by
  unfold wholeC
  rw [if_neg (by rintro (h1 | h1); exact h1 h.1; exact h1 h.2), if_pos hu]
theorem whole_none {D1 D2 U2 : Nat} (h : D1 = 1 ∧ D2 = 1) (hu : U2 ≠ 0) : wholeC D1 D2 U2 = 0 := by
  unfold wholeC
  rw [if_neg (by rintro (h1 | h1); exact h1 h.1; exact h1 h.2), if_neg hu]

theorem numGcd_both (n1 n2 : Bool) (T1 R1 T2 R2 : ByteArray) (h1 : T1.size ≤ maxLen) (h2 : R1.size ≤ maxLen) (h3 : T2.size ≤ maxLen) (h4 : R2.size ≤ maxLen) : ∃ (n : Bool) (x y : ByteArray) (c : Int),
    (∀ w, Calls Tryd.prog 31 #[.agg #[.bool n1, .string T1, .string R1], .agg #[.bool n2, .string T2, .string R2]] w fun e w' => e = .returned (.tuple #[.agg #[.bool n, .string x, .string y], .int .i64 c]) ∧ Below w.heap.size w w') ∧
    (∀ w, PowE w → Calls Tryd.prog 30 #[.agg #[.bool n1, .string T1, .string R1], .agg #[.bool n2, .string T2, .string R2]] w fun e w' => e = .returned (.tuple #[.agg #[.bool n, .string x, .string y], .int .i64 c]) ∧ Below w.heap.size w w') := by
  rcases integersOf_all n1 n2 T1 R1 T2 R2 h1 h2 h3 h4 with ⟨hno, hI⟩ | ⟨U1, D1, U2, D2, rfl, rfl, rfl, rfl, s1, s2, s3, s4, k1, k2, g1, g2, ⟨hd, hI⟩ | ⟨hd, hI⟩⟩
  · exact ⟨false, ⟨#[]⟩, ⟨#[]⟩, 1, fun w => specNumGcd_code n1 n2 _ _ _ _ w 1 (Or.inl rfl) (fun w => l14Whole_no n1 n2 _ _ _ _ w h1 h2 h3 h4 hno),
      fun w hP => implNumGcd_err n1 n2 _ _ _ _ 1 w hP.1 hP.2 hI⟩
  · exact ⟨false, ⟨#[]⟩, ⟨#[]⟩, 4, fun w => specNumGcd_code n1 n2 _ _ _ _ w 4 (Or.inr rfl) (fun w => l14Whole_yes n1 n2 _ _ _ _ w s1 s2 s3 s4 k1 k2 4 (whole_four hd)),
      fun w hP => implNumGcd_err n1 n2 _ _ _ _ 4 w hP.1 hP.2 hI⟩
  · obtain ⟨c, hc, hcw⟩ : ∃ c : Int, (c = 0 ∨ c = 2) ∧ wholeC D1 D2 U2 = c := by
      by_cases hu : U2 = 0
      · exact ⟨2, Or.inr rfl, whole_two hd hu⟩
      · exact ⟨0, Or.inl rfl, whole_none hd hu⟩
    exact ⟨_, _, _, 0, fun w => specNumGcd_yes n1 n2 U1 D1 U2 D2 w s1 s3 c hc (fun w => l14Whole_yes n1 n2 _ _ _ _ w s1 s2 s3 s4 k1 k2 c hcw),
      fun w hP => implNumGcd_ok n1 n2 n1 n2 _ _ _ _ U1 U2 w (by omega) (by omega) hP.1 hI⟩

theorem numQuo_both (n1 n2 : Bool) (T1 R1 T2 R2 : ByteArray) (h1 : T1.size ≤ maxLen) (h2 : R1.size ≤ maxLen) (h3 : T2.size ≤ maxLen) (h4 : R2.size ≤ maxLen) : ∃ (n : Bool) (x y : ByteArray) (m : Bool) (z t : ByteArray) (c : Int),
    (∀ w, Calls Tryd.prog 9 #[.agg #[.bool n1, .string T1, .string R1], .agg #[.bool n2, .string T2, .string R2]] w fun e w' => e = .returned (.tuple #[.agg #[.bool n, .string x, .string y], .agg #[.bool m, .string z, .string t], .int .i64 c]) ∧ Below w.heap.size w w') ∧
    (∀ w, PowE w → Calls Tryd.prog 11 #[.agg #[.bool n1, .string T1, .string R1], .agg #[.bool n2, .string T2, .string R2]] w fun e w' => e = .returned (.tuple #[.agg #[.bool n, .string x, .string y], .agg #[.bool m, .string z, .string t], .int .i64 c]) ∧ Below w.heap.size w w') := by
  rcases integersOf_all n1 n2 T1 R1 T2 R2 h1 h2 h3 h4 with ⟨hno, hI⟩ | ⟨U1, D1, U2, D2, rfl, rfl, rfl, rfl, s1, s2, s3, s4, k1, k2, g1, g2, ⟨hd, hI⟩ | ⟨hd, hI⟩⟩
  · exact ⟨false, ⟨#[]⟩, ⟨#[]⟩, false, ⟨#[]⟩, ⟨#[]⟩, 1, fun w => specNumQuo_code n1 n2 _ _ _ _ w 1 (by decide) (fun w => l14Whole_no n1 n2 _ _ _ _ w h1 h2 h3 h4 hno),
      fun w hP => implNumQuo_err n1 n2 _ _ _ _ 1 w hP.1 hP.2 (fun w hP => dividedOf_err n1 n2 _ _ _ _ 1 w hP hI)⟩
  · exact ⟨false, ⟨#[]⟩, ⟨#[]⟩, false, ⟨#[]⟩, ⟨#[]⟩, 4, fun w => specNumQuo_code n1 n2 _ _ _ _ w 4 (by decide) (fun w => l14Whole_yes n1 n2 _ _ _ _ w s1 s2 s3 s4 k1 k2 4 (whole_four hd)),
      fun w hP => implNumQuo_err n1 n2 _ _ _ _ 4 w hP.1 hP.2 (fun w hP => dividedOf_err n1 n2 _ _ _ _ 4 w hP hI)⟩
  · by_cases hu : U2 = 0
    · subst hu
      exact ⟨false, ⟨#[]⟩, ⟨#[]⟩, false, ⟨#[]⟩, ⟨#[]⟩, 2, fun w => specNumQuo_code n1 n2 _ _ _ _ w 2 (by decide) (fun w => l14Whole_yes n1 n2 _ _ _ _ w s1 s2 s3 s4 k1 k2 2 (whole_two hd rfl)),
        fun w hP => implNumQuo_err n1 n2 _ _ _ _ 2 w hP.1 hP.2 (fun w hP => dividedOf_nought n1 n2 n1 n2 _ _ _ _ U1 w hP hI)⟩
    · exact ⟨_, _, _, _, _, _, 0, fun w => specNumQuo_yes n1 n2 U1 D1 U2 D2 w s1 s3 hu (fun w => l14Whole_yes n1 n2 _ _ _ _ w s1 s2 s3 s4 k1 k2 0 (whole_none hd hu)),
        fun w hP => implNumQuo_ok n1 n2 n1 n2 _ _ _ _ _ U1 U2 w rfl (by omega) (by omega) hu hP.1 (fun w hP => dividedOf_ok n1 n2 n1 n2 _ _ _ _ _ U1 U2 w rfl hu (by omega) hP hI)⟩
end Go.Proofs.YtbbffhpppacihaaDoor

namespace Go.Proofs.YtbbffhpppacihaaDoor
open Go.RowKit Go.Siskin

/-- The sign of a power. -/
def pwN (n : Bool) (j : Nat) : Bool := n && decide (j % 2 = 1)
theorem pwN_zero (n : Bool) : pwN n 0 = false := by unfold pwN; simp
theorem pwN_one (n : Bool) : pwN n 1 = n := by unfold pwN; simp
theorem pwN_false (j : Nat) : pwN false j = false := rfl
theorem pwN_add (n : Bool) (i j : Nat) : (pwN n i != pwN n j) = pwN n (i + j) := by
  unfold pwN
  cases n
  · rfl
  · rcases Nat.mod_two_eq_zero_or_one i with hi | hi <;> rcases Nat.mod_two_eq_zero_or_one j with hj | hj <;> simp [hi, hj] <;> omega
theorem pwN_succ (n : Bool) (i : Nat) : (pwN n i != n) = pwN n (i + 1) := by
  have := pwN_add n i 1
  rwa [pwN_one] at this

theorem okUD_pow {n : Bool} {u d : Nat} (h : OkUD n u d) (j : Nat) : OkUD (pwN n j) (u ^ j) (d ^ j) := by
  obtain ⟨h1, h2, h3⟩ := h
  refine ⟨Nat.pow_ne_zero_iff' h1, ?_, Nat.Coprime.pow j j h3⟩
  rintro ⟨ha, hb⟩
  unfold pwN at ha
  rw [Bool.and_eq_true] at ha
  exact h2 ⟨ha.1, (Nat.pow_eq_zero.1 hb).1⟩
where Nat.pow_ne_zero_iff' {d j : Nat} (h : d ≠ 0) : d ^ j ≠ 0 := fun h0 => h (Nat.pow_eq_zero.1 h0).1

/-- The answer of a number that is in lowest terms. -/
theorem ansQ_ok {n : Bool} {u d : Nat} (h : OkUD n u d) : ansQ n u d = if Lib.nDigits u ≤ 60 ∧ Lib.nDigits d ≤ 60 then .tuple #[.agg #[.bool n, .string (dec u), .string (dec d)], .int .i64 0] else noAns 3 := by
  obtain ⟨h1, h2, h3⟩ := h
  unfold ansQ
  rw [h3, Nat.div_one, Nat.div_one]
  have : (n && !(u == 0)) = n := by
    cases n
    · rfl
    · have : u ≠ 0 := fun h => h2 ⟨rfl, h⟩
      simp [this]
  rw [this]
/-- What a power tells. -/
def powV (n : Bool) (u d k : Nat) : Value :=
  if Lib.nDigits (u ^ k) ≤ 60 ∧ Lib.nDigits (d ^ k) ≤ 60 then .tuple #[.agg #[.bool (pwN n k), .string (dec (u ^ k)), .string (dec (d ^ k))], .int .i64 0] else noAns 3
theorem powV_ansQ {n : Bool} {u d : Nat} (h : OkUD n u d) (k : Nat) : ansQ (pwN n k) (u ^ k) (d ^ k) = powV n u d k := ansQ_ok (okUD_pow h k)

theorem nDigits_pow_mono {u i j : Nat} (h : i ≤ j) (h60 : Lib.nDigits (u ^ j) ≤ 60) : Lib.nDigits (u ^ i) ≤ 60 := by
  rcases Nat.eq_zero_or_pos u with rfl | hu
  · rcases Nat.eq_zero_or_pos i with rfl | hi
    · rw [Nat.pow_zero]; exact (by rw [Lib.nDigits_small (by decide)]; decide)
    · rw [Nat.zero_pow hi]; exact (by rw [Lib.nDigits_small (by decide)]; decide)
  · exact Nat.le_trans (nDigits_mono (Nat.pow_le_pow_right hu h)) h60
/-- A power that is too big makes all later ones so. -/
theorem powV_big {n : Bool} {u d i k : Nat} (hik : i ≤ k) (h : ¬ (Lib.nDigits (u ^ i) ≤ 60 ∧ Lib.nDigits (d ^ i) ≤ 60)) : powV n u d k = noAns 3 :=
  if_neg fun hk => h ⟨nDigits_pow_mono hik hk.1, nDigits_pow_mono hik hk.2⟩
theorem powV_form (n : Bool) (u d k : Nat) : ∃ (m : Bool) (x y : ByteArray) (c : Int), powV n u d k = .tuple #[.agg #[.bool m, .string x, .string y], .int .i64 c] := by
  unfold powV
  split
  · exact ⟨_, _, _, _, rfl⟩
  · exact ⟨_, _, _, _, rfl⟩
theorem nG_60 {v : Nat} (h : Lib.nDigits v ≤ 60) : nG v ≤ 7 := by
  unfold nG; split <;> omega
end Go.Proofs.YtbbffhpppacihaaDoor
