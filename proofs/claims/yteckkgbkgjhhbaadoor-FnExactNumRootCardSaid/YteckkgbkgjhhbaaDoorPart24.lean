/-
  Stage 8, the program: a root by going nearer from above. Condition: the table of powers stands.
  Stage 8, the program: squareOf. Condition: the table of powers stands.
  Stage 8, the program: NumRoot. Condition: the table of powers and errors.errorType stand.
  The model of stage 8: l15Step, the root digit by digit. Condition: at most 60 digits.
  The model of stage 8: NumRoot. Condition: texts are no longer than a text may be.
  The model of stage 8: NumRoot of a whole number. Condition: at most 60 digits.
-/
import Derived.Test.YteckkgbkgjhhbaaDoorPart23
import Derived.Test.YteckkgbkgjhhbaaDoorUN
import Derived.Test.YteckkgbkgjhhbaaDoorPart22
namespace Go.Proofs.YteckkgbkgjhhbaaDoor
open Go.RowKit Go.Siskin

/-- The greatest one whose square is not above. -/
def IsRoot (n r : Nat) : Prop := r * r ≤ n ∧ n < (r + 1) * (r + 1)
theorem isRoot_one {n r s : Nat} (h : IsRoot n r) (k : IsRoot n s) : r = s := by
  unfold IsRoot at h k
  rcases Nat.lt_trichotomy r s with h1 | h1 | h1
  · have := Nat.mul_le_mul (show r + 1 ≤ s from h1) (show r + 1 ≤ s from h1)
    omega
  · exact h1
  · have := Nat.mul_le_mul (show s + 1 ≤ r from h1) (show s + 1 ≤ r from h1)
    omega
/-- One step nearer: still not below, and less. -/
theorem step_above {n r : Nat} (h : n < r * r) (hr : 0 < r) : n < ((r + n / r) / 2 + 1) * ((r + n / r) / 2 + 1) ∧ (r + n / r) / 2 < r := by
  obtain ⟨q, hq⟩ : ∃ q, n / r = q := ⟨_, rfl⟩
  have h1 : n < r * (q + 1) := by rw [← hq]; exact Nat.lt_mul_div_succ n hr
  have h2 : q < r := by rw [← hq]; exact Nat.div_lt_of_lt_mul h
  rw [hq]
  refine ⟨?_, by omega⟩
  obtain ⟨m, hm⟩ : ∃ m, (r + q) / 2 = m := ⟨_, rfl⟩
  rw [hm]
  have h3 : r + q + 1 ≤ 2 * (m + 1) := by omega
  have h4 : (r + q + 1) * (r + q + 1) ≤ (2 * (m + 1)) * (2 * (m + 1)) := Nat.mul_le_mul h3 h3
  have h5 : (2 * (m + 1)) * (2 * (m + 1)) = 4 * ((m + 1) * (m + 1)) := by
    rw [Nat.mul_mul_mul_comm]
  have h6 : 4 * (r * (q + 1)) ≤ (r + q + 1) * (r + q + 1) := by
    obtain ⟨d, hd⟩ : ∃ d, r = q + 1 + d := ⟨r - (q + 1), by omega⟩
    subst hd
    have e1 : (q + 1 + d + q + 1) = 2 * (q + 1) + d := by omega
    rw [e1]
    have e2 : (2 * (q + 1) + d) * (2 * (q + 1) + d) = 4 * ((q + 1 + d) * (q + 1)) + d * d := by
      generalize q + 1 = t
      grind
    omega
  omega

set_option maxRecDepth 20000 in
set_option maxHeartbeats 4000000 in
theorem root_any (x : Nat) (v : Value) (w : World) (h : NatA w v (grp x)) (hn : Lib.nDigits x ≤ 60) (hP : Pow9 w) :
    Calls Tryd.prog 70 #[v] w fun e w' => ∃ (a : Option Addr) (c r : Nat), IsRoot x r ∧ e = .returned (.slice a (grp r).length c) ∧ NatA w' (.slice a (grp r).length c) (grp r) ∧ Below w.heap.size w w' := by
  obtain ⟨l, HL⟩ : ∃ l : Nat, Hid (Lib.nDigits x = l) := ⟨_, rfl⟩
  have hnx : nG x ≤ 1000 := nG_digits hn
  have HDg := hid (digits_any x v w h (by omega) hP)
  have HPt := hid (fun m w hm hP => powerOfTen_any m w hm hP)
  have HXl : Hid (x < 10 ^ l) := by have := HL.out; subst this; exact Lib.lt_pow_nDigits x
  rw [HL.out] at HDg hn
  have hl1 : 1 ≤ l := by rw [← HL.out]; exact Lib.nDigits_pos x
  obtain ⟨m, hm⟩ : ∃ m, (l + 1) / 2 = m := ⟨_, rfl⟩
  have hmw : IntKind.i64.wrap (((l : Int) + 1).tdiv 2) = (m : Int) := by
    rw [Int.tdiv_eq_ediv_of_nonneg (by omega)]; simp [IntKind.wrap, IntKind.bits, IntKind.signed]; omega
  have hm2 : ((l : Int) + 1) / 2 = (m : Int) := by omega
  have hml : m ≤ 31 := by omega
  have HSt : Hid (x < (10 ^ m + 1) * (10 ^ m + 1) ∧ nG (10 ^ m) ≤ 1000) := by
    refine ⟨?_, ?_⟩
    · have h1 := HXl.out
      have h2 : (10 : Nat) ^ l ≤ 10 ^ (m + m) := Nat.pow_le_pow_right (by decide) (by omega)
      rw [Nat.pow_add] at h2
      have h3 : (10 : Nat) ^ m * 10 ^ m ≤ (10 ^ m + 1) * (10 ^ m + 1) := Nat.mul_le_mul (Nat.le_succ _) (Nat.le_succ _)
      omega
    · refine nG_digits (nDigits_le (m := 60) ?_ (by decide))
      exact Nat.pow_lt_pow_right (by decide) (by omega)
  obtain ⟨xa, xc, rfl⟩ := natA_formR h
  have HXn := hid h
  have HNx := hid hnx
  have hli : (l : Int) ≤ 60 := by omega
  have HPw := hid hP
  have HMl := hid hml
  clear h hnx hP hn hm
  go_enter Tryd.func70, Tryd.ntmps70
  go_wp2_with fail
  refine HDg.out.mono ?_
  rintro e w' ⟨rfl, hw⟩
  obtain rfl := hw.symm
  go_wp2_with fail
  refine (HPt.out m _ (by have := HMl.out; omega) HPw.out).mono ?_
  rintro e w1 ⟨u, rfl, hu, hw1⟩
  obtain ⟨ra, rc, rfl⟩ := natA_formR hu
  have HU := hid hu
  have HB1 := hid hw1
  clear hu hw1
  go_wp2_with fail
  go_loopw [3] (fun y wr => ∃ (r : Nat) (ya : Option Addr) (yc : Nat), y = .slice ya (grp r).length yc ∧ Hid (NatA wr (.slice ya (grp r).length yc) (grp r)) ∧ Hid (x < (r + 1) * (r + 1) ∧ nG r ≤ 1000) ∧ Hid (Below w.heap.size w wr)) (fun y wr => natRead wr y)
  case atStart => exact ⟨10 ^ m, ra, rc, rfl, HU.out, HSt.out, HB1.out⟩
  case round =>
    obtain ⟨r, ya, yc, rfl, HR, HI, HB⟩ := hrel
    have hsz := HB.out.size
    have HT := hid (times_any r r _ _ wr HR.out HR.out (by have := HI.out.2; omega) (by have := HI.out.2; omega))
    go_wp2_with fail
    refine HT.out.mono ?_
    rintro e w2 ⟨t, rfl, ht, hw2⟩
    have HB2 := hid (HB.out.trans (hw2.mono hsz))
    have HR2 : Hid (NatA w2 (.slice ya (grp r).length yc) (grp r)) := HR.out.below hw2 (Nat.le_refl _)
    have HX2 : Hid (NatA w2 (.slice xa (grp x).length xc) (grp x)) := HXn.out.below HB2.out (Nat.le_refl _)
    have hrr : nG (r * r) ≤ 5000 := by have h1 := nG_mul r r; have h2 := HI.out.2; omega
    obtain ⟨ta, tc, rfl⟩ := natA_formR ht
    have HC := hid (compare_any (r * r) x _ _ w2 ht HX2.out hrr (by have := HNx.out; omega))
    obtain ⟨o, ho⟩ : ∃ o, ordN (r * r) x = o := ⟨_, rfl⟩
    have hoc : (o = 1 ∧ x < r * r) ∨ ((o = 0 ∨ o = -1) ∧ r * r ≤ x) := by
      rw [← ho]
      unfold ordN
      rcases Nat.lt_trichotomy (r * r) x with h | h | h
      · exact Or.inr ⟨Or.inr (if_pos h), Nat.le_of_lt h⟩
      · exact Or.inr ⟨Or.inl (by rw [if_neg (by omega), if_neg (by omega)]), by omega⟩
      · exact Or.inl ⟨by rw [if_neg (by omega), if_pos h], h⟩
    rw [ho] at HC
    clear hw2 ht hrr ho
    go_wp2_with fail
    refine HC.out.mono ?_
    rintro e w3 ⟨rfl, hw3⟩
    have HB3 := hid (HB2.out.trans (hw3.mono HB2.out.size))
    have HR3 : Hid (NatA w3 (.slice ya (grp r).length yc) (grp r)) := HR2.out.below hw3 (Nat.le_refl _)
    have HX3 : Hid (NatA w3 (.slice xa (grp x).length xc) (grp x)) := HX2.out.below hw3 (Nat.le_refl _)
    clear hw3
    have hsz3 := HB3.out.size
    rcases hoc with ⟨rfl, hgt⟩ | ⟨ho, hle⟩
    · have hr0 : 0 < r := by
        rcases Nat.eq_zero_or_pos r with h | h
        · subst h; omega
        · exact h
      have hst := step_above hgt hr0
      have HSt2 : Hid (x < ((r + x / r) / 2 + 1) * ((r + x / r) / 2 + 1) ∧ nG ((r + x / r) / 2) ≤ 1000) := ⟨hst.1, Nat.le_trans (nG_mono (Nat.le_of_lt hst.2)) HI.out.2⟩
      have HLt := hid hst.2
      have hq : nG (x / r) ≤ 1000 := Nat.le_trans (nG_mono (Nat.div_le_self _ _)) HNx.out
      have HD := hid (dividedBy_any x r _ _ w3 HX3.out HR3.out hr0 HNx.out)
      have HPl := hid (fun vy vq w h1 h2 => plus_any r (x / r) vy vq w h1 h2 (by have := HI.out.2; omega) (by omega))
      have hpq : nG (r + x / r) ≤ 100000 := by
        obtain ⟨M, hM⟩ : ∃ M, M = 1000 := ⟨_, rfl⟩
        have h := nG_le (sum_lim (M := M) (by have := HI.out.2; omega : nG r ≤ M) (by omega : nG (x / r) ≤ M))
        omega
      have HDg2 := hid (fun v w h => dividedByGroup_any (r + x / r) 2 v w h hpq (by decide) (by decide))
      have HRd : Hid (natRead wr (.slice ya (grp r).length yc) = r) := natRead_eq HR.out
      clear hgt hr0 hst hq hpq
      go_wp2_with fail
      refine HD.out.mono ?_
      rintro e w4 ⟨q, qr, rfl, hq, hqr, hw4⟩
      obtain ⟨qa, qc, rfl⟩ := natA_formR hq
      obtain ⟨qra, qrc, rfl⟩ := natA_formR hqr
      have HQ := hid hq
      have HB4 := hid (HB3.out.trans (hw4.mono hsz3))
      have HR4 : Hid (NatA w4 (.slice ya (grp r).length yc) (grp r)) := HR3.out.below hw4 (Nat.le_refl _)
      clear hq hqr hw4
      go_wp2_with fail
      refine (HPl.out _ _ _ HR4.out HQ.out).mono ?_
      rintro e w5 ⟨p, rfl, hp, hw5⟩
      obtain ⟨pa, pc, rfl⟩ := natA_formR hp
      have HPp := hid hp
      have HB5 := hid (HB4.out.trans (hw5.mono HB4.out.size))
      clear hp hw5
      go_wp2_with fail
      refine (HDg2.out _ _ HPp.out).mono ?_
      rintro e w6 ⟨y, rfl, hy, hw6⟩
      obtain ⟨yb, yd, rfl⟩ := natA_formR hy
      have HY := hid hy
      have HB6 := hid (HB5.out.trans (hw6.mono HB5.out.size))
      have HRd2 : Hid (natRead w6 (.slice yb (grp ((r + x / r) / 2)).length yd) = (r + x / r) / 2) := natRead_eq hy
      clear hy hw6
      go_wp2_with fail
      refine ⟨⟨(r + x / r) / 2, yb, yd, rfl, HY.out, HSt2.out, HB6.out⟩, ?_⟩
      have h1 := HRd.out
      have h2 := HRd2.out
      have h3 := HLt.out
      show natRead w6 (.slice yb (grp ((r + x / r) / 2)).length yd) < natRead wr (.slice ya (grp r).length yc)
      omega
    · have HRt : Hid (IsRoot x r) := ⟨hle, HI.out.1⟩
      clear hle
      rcases ho with rfl | rfl
      all_goals
        go_wp2_with fail
        go_ret
        exact ⟨ya, yc, r, HRt.out, rfl, HR3.out, HB3.out⟩
end Go.Proofs.YteckkgbkgjhhbaaDoor

namespace Go.Proofs.YteckkgbkgjhhbaaDoor
open Go.RowKit Go.Siskin

set_option maxRecDepth 20000 in
set_option maxHeartbeats 4000000 in
theorem squareOf_err (n : Bool) (T R : ByteArray) (p b : Bool) (U D : Nat) (c : Int) (w : World) (hP : Pow9 w) (hc : (b = false ∧ c = 1) ∨ (b = true ∧ D ≠ 1 ∧ c = 4) ∨ (b = true ∧ D = 1 ∧ p = true ∧ c = 4))
    (hO : ∀ w, Pow9 w → Calls Tryd.prog 83 #[.agg #[.bool n, .string T, .string R]] w fun e w' => ∃ ua uc da dc, e = .returned (.tuple #[.agg #[.bool p, .slice ua (grp U).length uc, .slice da (grp D).length dc], .bool b]) ∧ NatA w' (.slice ua (grp U).length uc) (grp U) ∧ NatA w' (.slice da (grp D).length dc) (grp D) ∧ Below w.heap.size w w') :
    Calls Tryd.prog 69 #[.agg #[.bool n, .string T, .string R]] w fun e w' => e = .returned (.tuple #[.slice none 0 0, whyV c]) ∧ Below w.heap.size w w' := by
  have HO := hid hO
  have HPw := hid hP
  have HW := hid (fun neg vu vd w h => isWholeP_any D neg vu vd w h)
  have hc2 : (b = false ∧ c = 1) ∨ (b = true ∧ (D == 1) = false ∧ c = 4) ∨ (b = true ∧ (D == 1) = true ∧ p = true ∧ c = 4) := by
    rcases hc with h | ⟨h1, h2, h3⟩ | ⟨h1, h2, h3, h4⟩
    · exact Or.inl h
    · exact Or.inr (Or.inl ⟨h1, by simp [h2], h3⟩)
    · exact Or.inr (Or.inr ⟨h1, by simp [h2], h3, h4⟩)
  generalize (D == 1) = z at *
  clear hO hP hc
  have HB0 : Hid (Below (w.heap.size + 1) (w.alloc (boxN n T R)) (w.alloc (boxN n T R))) := Below.refl _ _
  have HSz : Hid (w.heap.size + 1 ≤ (w.alloc (boxN n T R)).heap.size) := by show _ ≤ _; simp
  have HP0 := hid (HPw.out.below (res_done HB0.out) (Nat.le_refl _))
  rcases hc2 with ⟨rfl, rfl⟩ | ⟨rfl, rfl, rfl⟩ | ⟨rfl, rfl, rfl, rfl⟩
  · go_enter Tryd.func69, Tryd.ntmps69
    go_wp2_with fail
    refine (HO.out _ HP0.out).mono ?_
    rintro e w1 ⟨ua, uc, da, dc, rfl, hu, hd, hw1⟩
    have HD := hid hd
    have HB1 := hid (HB0.out.trans (hw1.mono (by first | exact HSz.out | simp)))
    have HSz1 := hid (Nat.le_trans HSz.out HB1.out.size)
    clear hu hd hw1
    go_wp2_with fail
    refine bodyPost_ret (v := .tuple #[.slice none 0 0, whyV _]) (by simp [results, Tryd.results69, go_sem]) rfl ⟨rfl, (res_done HB1.out).alloc (Nat.le_trans (Nat.le_succ _) HSz1.out) _⟩
  · go_enter Tryd.func69, Tryd.ntmps69
    go_wp2_with fail
    refine (HO.out _ HP0.out).mono ?_
    rintro e w1 ⟨ua, uc, da, dc, rfl, hu, hd, hw1⟩
    have HD := hid hd
    have HB1 := hid (HB0.out.trans (hw1.mono (by first | exact HSz.out | simp)))
    have HSz1 := hid (Nat.le_trans HSz.out HB1.out.size)
    clear hu hd hw1
    have HF0 : Hid (∀ W, Below (w1.heap.size + 1) (w1.alloc (.cells #[.bool p, .slice ua (grp U).length uc, .slice da (grp D).length dc] 90)) W → Own W w1.heap.size 90 #[.bool p, .slice ua (grp U).length uc, .slice da (grp D).length dc] ∧ Below w1.heap.size w1 W) := fun W h => ⟨(own_new w1 #[.bool p, .slice ua (grp U).length uc, .slice da (grp D).length dc] 90).keep h (Nat.lt_succ_self _), res_done h⟩
    have HC0 : Hid (Below (w1.heap.size + 1) (w1.alloc (.cells #[.bool p, .slice ua (grp U).length uc, .slice da (grp D).length dc] 90)) (w1.alloc (.cells #[.bool p, .slice ua (grp U).length uc, .slice da (grp D).length dc] 90))) := Below.refl _ _
    have HXa : Hid (∀ W, Below (w1.heap.size + 1) (w1.alloc (.cells #[.bool p, .slice ua (grp U).length uc, .slice da (grp D).length dc] 90)) W → Below w.heap.size w W) := fun W h => (res_done HB1.out).trans ((HF0.out W h).2.mono (Nat.le_trans (Nat.le_succ _) HSz1.out))
    obtain ⟨⟨f0, f1, f2⟩, -⟩ := own3V (HF0.out _ HC0.out).1
    go_wp2_with fail
    refine (HW.out _ _ _ _ (HD.out.alloc _)).mono ?_
    rintro e w2 ⟨rfl, hw2⟩
    have HC2 := hid (HC0.out.trans (hw2.mono (by simp)))
    clear hw2 f0 f1 f2
    obtain ⟨⟨f0, f1, f2⟩, -⟩ := own3V (HF0.out _ HC2.out).1
    go_wp2_with fail
    refine bodyPost_ret (v := .tuple #[.slice none 0 0, whyV _]) (by simp [results, Tryd.results69, go_sem]) rfl ⟨rfl, HXa.out _ HC2.out⟩
  · go_enter Tryd.func69, Tryd.ntmps69
    go_wp2_with fail
    refine (HO.out _ HP0.out).mono ?_
    rintro e w1 ⟨ua, uc, da, dc, rfl, hu, hd, hw1⟩
    have HD := hid hd
    have HB1 := hid (HB0.out.trans (hw1.mono (by first | exact HSz.out | simp)))
    have HSz1 := hid (Nat.le_trans HSz.out HB1.out.size)
    clear hu hd hw1
    have HF0 : Hid (∀ W, Below (w1.heap.size + 1) (w1.alloc (.cells #[.bool true, .slice ua (grp U).length uc, .slice da (grp D).length dc] 90)) W → Own W w1.heap.size 90 #[.bool true, .slice ua (grp U).length uc, .slice da (grp D).length dc] ∧ Below w1.heap.size w1 W) := fun W h => ⟨(own_new w1 #[.bool true, .slice ua (grp U).length uc, .slice da (grp D).length dc] 90).keep h (Nat.lt_succ_self _), res_done h⟩
    have HC0 : Hid (Below (w1.heap.size + 1) (w1.alloc (.cells #[.bool true, .slice ua (grp U).length uc, .slice da (grp D).length dc] 90)) (w1.alloc (.cells #[.bool true, .slice ua (grp U).length uc, .slice da (grp D).length dc] 90))) := Below.refl _ _
    have HXa : Hid (∀ W, Below (w1.heap.size + 1) (w1.alloc (.cells #[.bool true, .slice ua (grp U).length uc, .slice da (grp D).length dc] 90)) W → Below w.heap.size w W) := fun W h => (res_done HB1.out).trans ((HF0.out W h).2.mono (Nat.le_trans (Nat.le_succ _) HSz1.out))
    obtain ⟨⟨f0, f1, f2⟩, -⟩ := own3V (HF0.out _ HC0.out).1
    go_wp2_with fail
    refine (HW.out _ _ _ _ (HD.out.alloc _)).mono ?_
    rintro e w2 ⟨rfl, hw2⟩
    have HC2 := hid (HC0.out.trans (hw2.mono (by simp)))
    clear hw2 f0 f1 f2
    obtain ⟨⟨f0, f1, f2⟩, -⟩ := own3V (HF0.out _ HC2.out).1
    go_wp2_with fail
    refine bodyPost_ret (v := .tuple #[.slice none 0 0, whyV _]) (by simp [results, Tryd.results69, go_sem]) rfl ⟨rfl, HXa.out _ HC2.out⟩

set_option maxRecDepth 20000 in
set_option maxHeartbeats 4000000 in
theorem squareOf_ok (n : Bool) (T R : ByteArray) (U : Nat) (w : World) (hP : Pow9 w)
    (hO : ∀ w, Pow9 w → Calls Tryd.prog 83 #[.agg #[.bool n, .string T, .string R]] w fun e w' => ∃ ua uc da dc, e = .returned (.tuple #[.agg #[.bool false, .slice ua (grp U).length uc, .slice da (grp 1).length dc], .bool true]) ∧ NatA w' (.slice ua (grp U).length uc) (grp U) ∧ NatA w' (.slice da (grp 1).length dc) (grp 1) ∧ Below w.heap.size w w') :
    Calls Tryd.prog 69 #[.agg #[.bool n, .string T, .string R]] w fun e w' => ∃ ua uc, e = .returned (.tuple #[.slice ua (grp U).length uc, .nilIface]) ∧ NatA w' (.slice ua (grp U).length uc) (grp U) ∧ Below w.heap.size w w' := by
  obtain ⟨D, hD⟩ : ∃ D, D = 1 := ⟨_, rfl⟩
  rw [← hD] at hO
  have HO := hid hO
  have HPw := hid hP
  have HW := hid (fun neg vu vd w h => isWholeP_any D neg vu vd w h)
  have e1 : (D == 1) = true := by rw [hD]; rfl
  rw [e1] at HW
  clear hO hP hD e1
  have HB0 : Hid (Below (w.heap.size + 1) (w.alloc (boxN n T R)) (w.alloc (boxN n T R))) := Below.refl _ _
  have HSz : Hid (w.heap.size + 1 ≤ (w.alloc (boxN n T R)).heap.size) := by show _ ≤ _; simp
  have HP0 := hid (HPw.out.below (res_done HB0.out) (Nat.le_refl _))
  · go_enter Tryd.func69, Tryd.ntmps69
    go_wp2_with fail
    refine (HO.out _ HP0.out).mono ?_
    rintro e w1 ⟨ua, uc, da, dc, rfl, hu, hd, hw1⟩
    have HD := hid hd
    have HB1 := hid (HB0.out.trans (hw1.mono (by first | exact HSz.out | simp)))
    have HSz1 := hid (Nat.le_trans HSz.out HB1.out.size)
    have HU := hid hu
    clear hu hd hw1
    have HF0 : Hid (∀ W, Below (w1.heap.size + 1) (w1.alloc (.cells #[.bool false, .slice ua (grp U).length uc, .slice da (grp D).length dc] 90)) W → Own W w1.heap.size 90 #[.bool false, .slice ua (grp U).length uc, .slice da (grp D).length dc] ∧ Below w1.heap.size w1 W) := fun W h => ⟨(own_new w1 #[.bool false, .slice ua (grp U).length uc, .slice da (grp D).length dc] 90).keep h (Nat.lt_succ_self _), res_done h⟩
    have HC0 : Hid (Below (w1.heap.size + 1) (w1.alloc (.cells #[.bool false, .slice ua (grp U).length uc, .slice da (grp D).length dc] 90)) (w1.alloc (.cells #[.bool false, .slice ua (grp U).length uc, .slice da (grp D).length dc] 90))) := Below.refl _ _
    have HXa : Hid (∀ W, Below (w1.heap.size + 1) (w1.alloc (.cells #[.bool false, .slice ua (grp U).length uc, .slice da (grp D).length dc] 90)) W → Below w.heap.size w W) := fun W h => (res_done HB1.out).trans ((HF0.out W h).2.mono (Nat.le_trans (Nat.le_succ _) HSz1.out))
    obtain ⟨⟨f0, f1, f2⟩, -⟩ := own3V (HF0.out _ HC0.out).1
    go_wp2_with fail
    refine (HW.out _ _ _ _ (HD.out.alloc _)).mono ?_
    rintro e w2 ⟨rfl, hw2⟩
    have HC2 := hid (HC0.out.trans (hw2.mono (by simp)))
    clear hw2 f0 f1 f2
    obtain ⟨⟨f0, f1, f2⟩, -⟩ := own3V (HF0.out _ HC2.out).1
    go_wp2_with fail
    refine bodyPost_ret (v := .tuple #[.slice ua (grp U).length uc, .nilIface]) (by simp [results, Tryd.results69, go_sem]) rfl ⟨ua, uc, rfl, HU.out.below (HF0.out _ HC2.out).2 (Nat.le_refl _), HXa.out _ HC2.out⟩
end Go.Proofs.YteckkgbkgjhhbaaDoor

namespace Go.Proofs.YteckkgbkgjhhbaaDoor
open Go.RowKit Go.Siskin

set_option maxRecDepth 20000 in
set_option maxHeartbeats 4000000 in
theorem implNumRoot_err (n : Bool) (T R : ByteArray) (c : Int) (w : World) (hP : Pow9 w) (hE : ErrT w)
    (hI : ∀ w, Pow9 w → Calls Tryd.prog 69 #[.agg #[.bool n, .string T, .string R]] w fun e w' => e = .returned (.tuple #[.slice none 0 0, whyV c]) ∧ Below w.heap.size w w') :
    Calls Tryd.prog 26 #[.agg #[.bool n, .string T, .string R]] w fun e w' => e = .returned (noQuo c) ∧ Below w.heap.size w w' := by
  have HI := hid hI
  have HPw := hid hP
  have HEw := hid hE
  have HCo := hid (fun w hE => codeOf_any c w hE)
  clear hI hP hE
  have HX : Hid (∀ W, Below (w.heap.size + 3) (((w.alloc (boxN n T R)).alloc box0).alloc box0) W → Own W w.heap.size 25 #[.bool n, .string T, .string R] ∧ Own W (w.heap.size + 1) 25 #[.bool false, .string ⟨#[]⟩, .string ⟨#[]⟩] ∧ Own W (w.heap.size + 1 + 1) 25 #[.bool false, .string ⟨#[]⟩, .string ⟨#[]⟩] ∧ Below w.heap.size w W) := fun W h => boxes3 w _ _ _ _ _ _ h
  have HB0 : Hid (Below (w.heap.size + 3) (((w.alloc (boxN n T R)).alloc box0).alloc box0) (((w.alloc (boxN n T R)).alloc box0).alloc box0)) := Below.refl _ _
  have HSz : Hid (w.heap.size + 3 ≤ (((w.alloc (boxN n T R)).alloc box0).alloc box0).heap.size) := by show _ ≤ _; simp
  have HP0 := hid (HPw.out.below (HX.out _ HB0.out).2.2.2 (Nat.le_refl _))
  go_enter Tryd.func26, Tryd.ntmps26
  go_wp2_with fail
  refine (HI.out _ HP0.out).mono ?_
  rintro e w1 ⟨rfl, hw1⟩
  have HB1 := hid (HB0.out.trans (hw1.mono (by first | exact HSz.out | simp)))
  have HE1 := hid (HEw.out.below (HX.out _ HB1.out).2.2.2 (Nat.le_refl _))
  clear hw1
  go_wp2_with fail
  refine (HCo.out _ HE1.out).mono ?_
  rintro e w2 ⟨rfl, hw2⟩
  have HB3 := hid (HB1.out.trans (hw2.mono (Nat.le_trans HSz.out HB1.out.size)))
  obtain ⟨⟨r0, r1, r2⟩, q0, q1, q2⟩ := own3V (HX.out _ HB3.out).2.1
  obtain ⟨⟨s0, s1, s2⟩, p0, p1, p2⟩ := own3V (HX.out _ HB3.out).2.2.1
  clear hw2
  go_wp2_with fail
  refine bodyPost_ret (v := noQuo c) (by simp [results, Tryd.results26, go_sem, r0, r1, r2, s0, s1, s2]) rfl ⟨rfl, ?_⟩
  exact below_set3 (below_set3 (HX.out _ HB3.out).2.2.2 (by omega) _ _ _) (by omega) _ _ _

set_option maxRecDepth 20000 in
set_option maxHeartbeats 4000000 in
theorem implNumRoot_ok (n : Bool) (T R : ByteArray) (x : Nat) (w : World) (hx : Lib.nDigits x ≤ 60) (hP : Pow9 w)
    (hI : ∀ w, Pow9 w → Calls Tryd.prog 69 #[.agg #[.bool n, .string T, .string R]] w fun e w' => ∃ ua uc, e = .returned (.tuple #[.slice ua (grp x).length uc, .nilIface]) ∧ NatA w' (.slice ua (grp x).length uc) (grp x) ∧ Below w.heap.size w w') :
    Calls Tryd.prog 26 #[.agg #[.bool n, .string T, .string R]] w fun e w' => ∃ s, IsRoot x s ∧ e = .returned (.tuple #[wholeV false s, wholeV false (x - s * s), .int .i64 0]) ∧ Below w.heap.size w w' := by
  have HI := hid hI
  have HPw := hid hP
  have hnx : nG x ≤ 1000 := nG_digits hx
  have HNx := hid hnx
  have HRo := hid (fun v w h hP => root_any x v w h hx hP)
  clear hI hP hnx hx
  have HX : Hid (∀ W, Below (w.heap.size + 3) (((w.alloc (boxN n T R)).alloc box0).alloc box0) W → Own W w.heap.size 25 #[.bool n, .string T, .string R] ∧ Own W (w.heap.size + 1) 25 #[.bool false, .string ⟨#[]⟩, .string ⟨#[]⟩] ∧ Own W (w.heap.size + 1 + 1) 25 #[.bool false, .string ⟨#[]⟩, .string ⟨#[]⟩] ∧ Below w.heap.size w W) := fun W h => boxes3 w _ _ _ _ _ _ h
  have HB0 : Hid (Below (w.heap.size + 3) (((w.alloc (boxN n T R)).alloc box0).alloc box0) (((w.alloc (boxN n T R)).alloc box0).alloc box0)) := Below.refl _ _
  have HSz : Hid (w.heap.size + 3 ≤ (((w.alloc (boxN n T R)).alloc box0).alloc box0).heap.size) := by show _ ≤ _; simp
  have HPa : Hid (∀ W, Below (w.heap.size + 3) (((w.alloc (boxN n T R)).alloc box0).alloc box0) W → Pow9 W) := fun W h => HPw.out.below (HX.out _ h).2.2.2 (Nat.le_refl _)
  go_enter Tryd.func26, Tryd.ntmps26
  go_wp2_with fail
  refine (HI.out _ (HPa.out _ HB0.out)).mono ?_
  rintro e w1 ⟨ua, uc, rfl, hu, hw1⟩
  have HU := hid hu
  have HB1 := hid (HB0.out.trans (hw1.mono (by first | exact HSz.out | simp)))
  clear hu hw1
  go_wp2_with fail
  refine (HRo.out _ _ HU.out (HPa.out _ HB1.out)).mono ?_
  rintro e w2 ⟨ra, rc, r, hr, rfl, hra, hw2⟩
  have HRt := hid hr
  have HR := hid hra
  have HB2 := hid (HB1.out.trans (hw2.mono (Nat.le_trans HSz.out HB1.out.size)))
  have HU2 : Hid (NatA w2 (.slice ua (grp x).length uc) (grp x)) := HU.out.below hw2 (Nat.le_refl _)
  have hrx : nG r ≤ 1000 := Nat.le_trans (nG_mono (by
    have h1 := hr.1
    rcases Nat.eq_zero_or_pos r with h | h
    · omega
    · exact Nat.le_trans (Nat.le_mul_of_pos_left r h) h1)) HNx.out
  have hsx : nG (x - r * r) ≤ 1000 := Nat.le_trans (nG_mono (Nat.sub_le _ _)) HNx.out
  have HTi := hid (fun v w h => times_any r r v v w h h (by omega) (by omega))
  have HMi := hid (fun vx vy w hx hy => minus_any x (r * r) vx vy w hx hy (by have := HNx.out; omega) hr.1)
  have HPr := hid (fun v w h hP => intPlain_any false r v w h hrx hP)
  have HPl := hid (fun v w h hP => intPlain_any false (x - r * r) v w h hsx hP)
  clear hr hra hw2 hrx hsx
  go_wp2_with fail
  refine (HTi.out _ _ HR.out).mono ?_
  rintro e w3 ⟨t, rfl, ht, hw3⟩
  obtain ⟨ta, tc, rfl⟩ := natA_formR ht
  have HT := hid ht
  have HB3 := hid (HB2.out.trans (hw3.mono (Nat.le_trans HSz.out HB2.out.size)))
  have HU3 : Hid (NatA w3 (.slice ua (grp x).length uc) (grp x)) := HU2.out.below hw3 (Nat.le_refl _)
  have HR3 : Hid (NatA w3 (.slice ra (grp r).length rc) (grp r)) := HR.out.below hw3 (Nat.le_refl _)
  clear ht hw3
  go_wp2_with fail
  refine (HMi.out _ _ _ HU3.out HT.out).mono ?_
  rintro e w4 ⟨l, rfl, hl, hw4⟩
  obtain ⟨la, lc, rfl⟩ := natA_formR hl
  have HL := hid hl
  have HB4 := hid (HB3.out.trans (hw4.mono (Nat.le_trans HSz.out HB3.out.size)))
  have HR4 : Hid (NatA w4 (.slice ra (grp r).length rc) (grp r)) := HR3.out.below hw4 (Nat.le_refl _)
  clear hl hw4
  go_wp2_with fail
  refine (HPr.out _ _ HR4.out (HPa.out _ HB4.out)).mono ?_
  rintro e w5 ⟨rfl, hw5⟩
  have HB5 := hid (HB4.out.trans (hw5.mono (Nat.le_trans HSz.out HB4.out.size)))
  have HL5 : Hid (NatA w5 (.slice la (grp (x - r * r)).length lc) (grp (x - r * r))) := HL.out.below hw5 (Nat.le_refl _)
  clear hw5
  go_wp2_with fail
  refine (HPl.out _ _ HL5.out (HPa.out _ HB5.out)).mono ?_
  rintro e w6 ⟨rfl, hw6⟩
  have HB6 := hid (HB5.out.trans (hw6.mono (Nat.le_trans HSz.out HB5.out.size)))
  have hx := HX.out _ HB6.out
  obtain ⟨⟨r0, r1, r2⟩, q0, q1, q2⟩ := own3V hx.2.1
  obtain ⟨⟨s0, s1, s2⟩, p0, p1, p2⟩ := own3V hx.2.2.1
  clear hw6
  go_wp2_with fail
  refine bodyPost_ret (v := .tuple #[wholeV false r, wholeV false (x - r * r), .int .i64 0]) (by simp [results, Tryd.results26, go_sem, r0, r1, r2, s0, s1, s2, wholeV]) rfl ⟨r, HRt.out, rfl, ?_⟩
  exact below_set3 (below_set3 hx.2.2.2 (by omega) _ _ _) (by omega) _ _ _
end Go.Proofs.YteckkgbkgjhhbaaDoor

namespace Go.Proofs.YteckkgbkgjhhbaaDoor
open Go.RowKit Go.Siskin

theorem nDigits_succ (q b : Nat) (hb : b ≤ 1) {m : Nat} (h : Lib.nDigits q ≤ m) (hm : 0 < m) : Lib.nDigits (q + b) ≤ m + 1 := by
  have h1 := Lib.lt_pow_nDigits q
  have h2 : q < 10 ^ m := Nat.lt_of_lt_of_le h1 (Nat.pow_le_pow_right (by decide) h)
  refine nDigits_le ?_ (by omega)
  rw [Nat.pow_succ]
  have : 0 < 10 ^ m := Nat.pow_pos (by decide)
  omega
set_option maxRecDepth 20000 in
set_option maxHeartbeats 2000000 in
theorem l15Step_any (s k : Nat) (w : World) (hs : Lib.nDigits s ≤ 60) (hk : k ≤ 60) :
    Calls Tryd.prog 65 #[.string (dec s), .int .i64 k] w fun e w' => e = .returned (.string (dec ((s + 1) * 10 ^ k))) ∧ Below w.heap.size w w' := by
  have HA := hid (fun w => l11Add_any s 1 w (by omega) (by rw [nDigits_one]; decide))
  rw [dec_one] at HA
  have HK := hid hk
  have HS := hid hs
  clear hk hs
  go_enter Tryd.func65, Tryd.ntmps65
  go_wp2_with fail
  refine (HA.out _).mono ?_
  rintro e w1 ⟨rfl, hw1⟩
  have HB1 := hid hw1
  clear hw1
  have HD : Hid (∀ j, j ≤ k → Lib.nDigits ((s + 1) * 10 ^ j) ≤ 122) := fun j hj => by
    have h1 := nDigits_succ s 1 (Nat.le_refl 1) HS.out (by decide)
    have h2 := Lib.lt_pow_nDigits (s + 1)
    have h3 : s + 1 < 10 ^ 61 := Nat.lt_of_lt_of_le h2 (Nat.pow_le_pow_right (by decide) h1)
    have h4 : (s + 1) * 10 ^ j < 10 ^ 61 * 10 ^ j := Nat.mul_lt_mul_of_pos_right h3 (Nat.pow_pos (by decide))
    rw [← Nat.pow_add] at h4
    exact Nat.le_trans (nDigits_le h4 (by omega)) (by have := HK.out; omega)
  go_wp2_with fail
  go_loopw [5, 6] (fun o i wr => ∃ j : Nat, o = .string (dec ((s + 1) * 10 ^ j)) ∧ i = .int .i64 j ∧ j ≤ k ∧ Hid (Below w.heap.size w wr)) (fun _ i _ => match i with | .int _ z => (k : Int).toNat - z.toNat | _ => 0)
  case atStart => exact ⟨0, by rw [Nat.pow_zero, Nat.mul_one], rfl, by omega, HB1.out⟩
  case round =>
    obtain ⟨j, rfl, rfl, hj, HB⟩ := hrel
    have hk := HK.out
    by_cases hlt : j < k
    · have hd := HD.out j hj
      have hsz : ¬ ((9223372036854775807 : Nat) < (dec ((s + 1) * 10 ^ j)).size + (⟨#[48]⟩ : ByteArray).size) := by
        rw [dec_size]
        have : (⟨#[48]⟩ : ByteArray).size = 1 := rfl
        omega
      have HN : Hid (dec ((s + 1) * 10 ^ j) ++ ⟨#[48]⟩ = dec ((s + 1) * 10 ^ (j + 1))) := by
        show _ = _
        have h1 : 0 < (s + 1) * 10 ^ j := Nat.mul_pos (Nat.succ_pos _) (Nat.pow_pos (by decide))
        rw [Nat.pow_succ, ← Nat.mul_assoc]
        generalize (s + 1) * 10 ^ j = X at *
        rw [dec_big (v := X * 10) (by omega), Nat.mul_div_cancel _ (by decide), Nat.mul_mod_left]
        rfl
      generalize dec ((s + 1) * 10 ^ j) = T at *
      clear hd
      go_wp2_with fail
      refine ⟨⟨j + 1, by rw [HN.out], by congr 1, by omega, HB.out⟩, ?_⟩
      simp; omega
    · obtain rfl : j = k := by omega
      clear hlt
      go_wp2_with fail
      go_ret
      exact ⟨rfl, HB.out⟩
end Go.Proofs.YteckkgbkgjhhbaaDoor

namespace Go.Proofs.YteckkgbkgjhhbaaDoor
open Go.RowKit Go.Siskin

set_option maxRecDepth 20000 in
set_option maxHeartbeats 4000000 in
theorem specNumRoot_err (n : Bool) (T R : ByteArray) (c : Int) (w : World) (h1 : T.size ≤ maxLen) (h2 : R.size ≤ maxLen)
    (hc : (¬ NumP n T R ∧ c = 1) ∨ (NumP n T R ∧ (R.toList != [49]) = true ∧ c = 4) ∨ (NumP n T R ∧ (R.toList != [49]) = false ∧ n = true ∧ c = 4)) :
    Calls Tryd.prog 25 #[.agg #[.bool n, .string T, .string R]] w fun e w' => e = .returned (noQuo c) ∧ Below w.heap.size w w' := by
  have HX : Hid (∀ W, Below (w.heap.size + 3) (((w.alloc (boxN n T R)).alloc box0).alloc box0) W → Own W w.heap.size 25 #[.bool n, .string T, .string R] ∧ Own W (w.heap.size + 1) 25 #[.bool false, .string ⟨#[]⟩, .string ⟨#[]⟩] ∧ Own W (w.heap.size + 1 + 1) 25 #[.bool false, .string ⟨#[]⟩, .string ⟨#[]⟩] ∧ Below w.heap.size w W) := fun W h => boxes3 w _ _ _ _ _ _ h
  have HB0 : Hid (Below (w.heap.size + 3) (((w.alloc (boxN n T R)).alloc box0).alloc box0) (((w.alloc (boxN n T R)).alloc box0).alloc box0)) := Below.refl _ _
  obtain ⟨b, hb⟩ : ∃ b : Bool, (b = true ↔ NumP n T R) := by
    by_cases h : NumP n T R
    · exact ⟨true, fun _ => h, fun _ => rfl⟩
    · exact ⟨false, fun h' => (by cases h'), fun h' => absurd h' h⟩
  have HO := hid (fun w => specNumOk_any n T R w h1 h2 b hb)
  have hc2 : (b = false ∧ c = 1) ∨ (b = true ∧ (R.toList != [49]) = true ∧ c = 4) ∨ (b = true ∧ (R.toList != [49]) = false ∧ n = true ∧ c = 4) := by
    rcases hc with ⟨h, e⟩ | ⟨h, e⟩ | ⟨h, e⟩
    · refine Or.inl ⟨?_, e⟩
      cases b
      · rfl
      · exact absurd (hb.1 rfl) h
    · exact Or.inr (Or.inl ⟨hb.2 h, e⟩)
    · exact Or.inr (Or.inr ⟨hb.2 h, e⟩)
  clear h1 h2 hb hc
  rcases hc2 with ⟨rfl, rfl⟩ | ⟨rfl, hr, rfl⟩ | ⟨rfl, hr, rfl, rfl⟩
  all_goals
    try have hr2 : (R.toList == [49]) = false := by rw [bne] at hr; simpa using hr
    try have hr2 : (R.toList == [49]) = true := by rw [bne] at hr; simpa using hr
    go_enter Tryd.func25, Tryd.ntmps25
    go_wp2_with fail
    refine (HO.out _).mono ?_
    rintro e wa ⟨rfl, hwa⟩
    have HBa := hid (HB0.out.trans (hwa.mono (by simp)))
    clear hwa
    obtain ⟨⟨x0, x1, x2⟩, -⟩ := own3V (HX.out _ HBa.out).1
    obtain ⟨⟨r0, r1, r2⟩, q0, q1, q2⟩ := own3V (HX.out _ HBa.out).2.1
    obtain ⟨⟨s0, s1, s2⟩, p0, p1, p2⟩ := own3V (HX.out _ HBa.out).2.2.1
    go_wp2_with fail
    refine bodyPost_ret (v := noQuo _) (by simp [results, Tryd.results25, go_sem, r0, r1, r2, s0, s1, s2]) rfl ⟨rfl, ?_⟩
    exact below_set3 (below_set3 (HX.out _ HBa.out).2.2.2 (by omega) _ _ _) (by omega) _ _ _
end Go.Proofs.YteckkgbkgjhhbaaDoor

namespace Go.Proofs.YteckkgbkgjhhbaaDoor
open Go.RowKit Go.Siskin

/-- What the digits so far tell, where m are to come. -/
def RootD (x s c m : Nat) : Prop := s * 10 ^ m * (s * 10 ^ m) ≤ x ∧ x < (s + c) * 10 ^ m * ((s + c) * 10 ^ m)
theorem rootD_start {x N : Nat} (h : Lib.nDigits x ≤ 2 * N) : RootD x 0 1 N := by
  refine ⟨by simp, ?_⟩
  have h1 := Lib.lt_pow_nDigits x
  have h2 : x < 10 ^ (N + N) := Nat.lt_of_lt_of_le h1 (Nat.pow_le_pow_right (by decide) (by omega))
  rw [Nat.pow_add] at h2
  simpa using h2
theorem rootD_next {x s m : Nat} (h : RootD x s 1 (m + 1)) : RootD x (s * 10) 10 m := by
  unfold RootD at h ⊢
  have e1 : s * 10 * 10 ^ m = s * 10 ^ (m + 1) := by rw [Nat.pow_succ, Nat.mul_assoc, Nat.mul_comm 10]
  have e2 : (s * 10 + 10) * 10 ^ m = (s + 1) * 10 ^ (m + 1) := by rw [← Nat.succ_mul, Nat.pow_succ, Nat.mul_assoc, Nat.mul_comm 10]
  rw [e1, e2]
  exact h
theorem rootD_end {x s : Nat} (h : RootD x s 1 0) : IsRoot x s := by
  unfold RootD at h
  simpa [IsRoot] using h
theorem rootD_small {x s c m : Nat} (h : RootD x s c m) (hx : x < 10 ^ 60) : s * 10 ^ m < 10 ^ 30 := by
  rcases Nat.lt_or_ge (s * 10 ^ m) (10 ^ 30) with h1 | h1
  · exact h1
  · have h2 := Nat.mul_le_mul h1 h1
    have h3 : (10 : Nat) ^ 30 * 10 ^ 30 = 10 ^ 60 := by rw [← Nat.pow_add]
    have h4 := h.1
    omega
end Go.Proofs.YteckkgbkgjhhbaaDoor
