/-
  The model of stage 8: NumRoot of a whole number, walked. Condition: at most 60 digits.
  The model's NumQuo of whole numbers.
  NumQuo, NumMod, NumGcd: the model's and the program's answer the same. Condition: the table of powers and errors.errorType stand.
  NumRoot: the model's and the program's answer the same. Condition: the table of powers and errors.errorType stand.
-/
import Derived.Test.YteckkgbkgjhhbaaDoorPart24
import Derived.Test.YteckkgbkgjhhbaaDoorPart22
import Derived.Test.YteckkgbkgjhhbaaDoorPart23
import Derived.Test.YteckkgbkgjhhbaaDoorUN
import Derived.Test.YteckkgbkgjhhbaaDoorPart19
namespace Go.Proofs.YteckkgbkgjhhbaaDoor
open Go.RowKit Go.Siskin

theorem digits_root {s m : Nat} (h : s * 10 ^ m < 10 ^ 30) : Lib.nDigits s ≤ 31 ∧ Lib.nDigits ((s + 1) * 10 ^ m) ≤ 70 ∨ 30 < m := by
  rcases Nat.lt_or_ge 30 m with h1 | h1
  · exact Or.inr h1
  · refine Or.inl ⟨nDigits_le (m := 31) (Nat.lt_of_le_of_lt (Nat.le_mul_of_pos_right s (Nat.pow_pos (by decide : 0 < 10))) (Nat.lt_of_lt_of_le h (Nat.pow_le_pow_right (by decide) (by decide)))) (by decide), ?_⟩
    refine nDigits_le (m := 70) ?_ (by decide)
    rw [Nat.add_mul, Nat.one_mul]
    have h2 : (10 : Nat) ^ m ≤ 10 ^ 30 := Nat.pow_le_pow_right (by decide) h1
    have h3 : (10 : Nat) ^ 30 + 10 ^ 30 ≤ 10 ^ 70 := by
      have : (10 : Nat) ^ 70 = 10 ^ 30 * 10 ^ 40 := by rw [← Nat.pow_add]
      rw [this]
      have h5 : 2 ≤ (10 : Nat) ^ 40 := by
        have : (10 : Nat) ^ 1 ≤ 10 ^ 40 := Nat.pow_le_pow_right (by decide) (by decide)
        omega
      have := Nat.mul_le_mul_left (10 ^ 30) h5
      omega
    omega
theorem dec_nought (s : Nat) : dec s ++ ⟨#[48]⟩ = digT (Lib.nDigits s + 1) (s * 10) := by
  have := digT_snoc (Lib.nDigits s) s 0 (by decide)
  unfold dec
  rw [Nat.add_zero] at this
  exact this

set_option maxRecDepth 20000 in
set_option maxHeartbeats 8000000 in
theorem specNumRoot_ok (x : Nat) (w : World) (h1 : (dec x).size ≤ 60) :
    Calls Tryd.prog 25 #[.agg #[.bool false, .string (dec x), .string (dec 1)]] w fun e w' => ∃ s, IsRoot x s ∧ e = .returned (.tuple #[wholeV false s, wholeV false (x - s * s), .int .i64 0]) ∧ Below w.heap.size w w' := by
  have hO : NumP false (dec x) (dec 1) := ⟨x, 1, rfl, rfl, h1, by rw [dec_size, nDigits_one]; decide, by decide, by simp, Nat.gcd_one_right x⟩
  have HO := hid (fun w => specNumOk_any false (dec x) (dec 1) w (Nat.le_trans h1 max60) (by rw [dec_size, nDigits_one]; decide) true ⟨fun _ => hO, fun _ => rfl⟩)
  have ht := one_text 1
  rw [decide_eq_true rfl] at ht
  have hsl : (dec x).size = Lib.nDigits x := dec_size x
  rw [dec_size] at h1
  have HXl := hid (Nat.lt_of_lt_of_le (Lib.lt_pow_nDigits x) (Nat.pow_le_pow_right (by decide : 0 < 10) h1))
  obtain ⟨l, hl⟩ : ∃ l, Lib.nDigits x = l := ⟨_, rfl⟩
  obtain ⟨N, hN⟩ : ∃ N, l / 2 + 1 = N := ⟨_, rfl⟩
  have HRs := hid (rootD_start (x := x) (N := N) (by omega))
  have hsz : ((dec x).size : Int) = l := by rw [hsl, hl]
  have hw1 : IntKind.i64.wrap (IntKind.i64.wrap ((l : Int).tdiv 2) + 1) = (N : Int) := by
    rw [Int.tdiv_eq_ediv_of_nonneg (by omega)]; simp [IntKind.wrap, IntKind.bits, IntKind.signed]; omega
  have hw2 : (l : Int) / 2 + 1 = (N : Int) := by omega
  have HN31 : Hid (N ≤ 31) := by show _ ≤ _; omega
  have hl60 : (l : Int) ≤ 60 := by omega
  have hl0 : 0 ≤ (l : Int) := by omega
  have HX : Hid (∀ W, Below (w.heap.size + 3) (((w.alloc (boxN false (dec x) (dec 1))).alloc box0).alloc box0) W → Own W w.heap.size 25 #[.bool false, .string (dec x), .string (dec 1)] ∧ Own W (w.heap.size + 1) 25 #[.bool false, .string ⟨#[]⟩, .string ⟨#[]⟩] ∧ Own W (w.heap.size + 1 + 1) 25 #[.bool false, .string ⟨#[]⟩, .string ⟨#[]⟩] ∧ Below w.heap.size w W) := fun W h => boxes3 w _ _ _ _ _ _ h
  have HB0 : Hid (Below (w.heap.size + 3) (((w.alloc (boxN false (dec x) (dec 1))).alloc box0).alloc box0) (((w.alloc (boxN false (dec x) (dec 1))).alloc box0).alloc box0)) := Below.refl _ _
  have HSz : Hid (w.heap.size + 3 ≤ (((w.alloc (boxN false (dec x) (dec 1))).alloc box0).alloc box0).heap.size) := by show _ ≤ _; simp
  have HLx : Hid (Lib.nDigits x ≤ 60) := h1
  clear hO h1 hsl hN
  generalize hTx : dec x = TX at *
  generalize dec 1 = T1 at *
  have ht2 : (T1.toList != [49]) = false := by rw [bne, ht]; rfl
  go_enter Tryd.func25, Tryd.ntmps25
  go_wp2_with fail
  refine (HO.out _).mono ?_
  rintro e wa ⟨rfl, hwa⟩
  have HBa := hid (HB0.out.trans (hwa.mono (by first | exact HSz.out | simp)))
  clear hwa
  obtain ⟨⟨x0, x1, x2⟩, -⟩ := own3V (HX.out _ HBa.out).1
  go_wp2_with fail
  clear x0 x1 x2 ht ht2 hsz hw1 hw2 hl60 hl0
  go_loopw [6, 7] (fun o k wr => ∃ j s : Nat, o = .string (dec s) ∧ k = .int .i64 j ∧ j ≤ N ∧ Hid (RootD x s 1 (N - j)) ∧ Hid (Below (w.heap.size + 3) (((w.alloc (boxN false TX T1)).alloc box0).alloc box0) wr)) (fun _ k _ => N - (intOf k).toNat)
  case atStart => exact ⟨0, 0, by rw [dec_small (by decide)]; rfl, rfl, Nat.zero_le _, HRs.out, HBa.out⟩
  case round =>
    obtain ⟨j, s, rfl, rfl, hj, HR, HB⟩ := hrel
    rename World => w1
    have hN := HN31.out
    by_cases hlt : j < N
    · obtain ⟨m, hm⟩ : ∃ m, N - j = m + 1 := ⟨N - j - 1, by omega⟩
      have HR1 : Hid (RootD x (s * 10) 10 m) := rootD_next (by rw [← hm]; exact HR.out)
      have hsm := rootD_small HR.out HXl.out
      have hs31 : Lib.nDigits s ≤ 31 := nDigits_le (m := 31) (Nat.lt_of_le_of_lt (Nat.le_mul_of_pos_right s (Nat.pow_pos (by decide : 0 < 10))) (Nat.lt_of_lt_of_le hsm (Nat.pow_le_pow_right (by decide) (by decide)))) (by decide)
      have HTr := hid (l11Trim_any (Lib.nDigits s + 1) (s * 10) w1 (Nat.le_trans (by omega : Lib.nDigits s + 1 ≤ 60) max60) (by omega) (by
        have := Lib.lt_pow_nDigits s
        rw [Nat.pow_succ]
        omega))
      rw [← dec_nought] at HTr
      have hsz : ¬ ((9223372036854775807 : Nat) < (dec s).size + (⟨#[48]⟩ : ByteArray).size) := by
        rw [dec_size]
        have : (⟨#[48]⟩ : ByteArray).size = 1 := rfl
        omega
      have hw1 : IntKind.i64.wrap (IntKind.i64.wrap ((N : Int) - 1) - (j : Int)) = (m : Int) := by
        simp [IntKind.wrap, IntKind.bits, IntKind.signed]; omega
      have hw2 : (N : Int) - 1 - (j : Int) = (m : Int) := by omega
      have hjl : (j : Int) < (N : Int) := by omega
      have hm31 : m ≤ 31 := by omega
      have HM31 := hid hm31
      have HJ := hid hm
      generalize dec s = S at *
      clear hsm hs31 hm31
      go_wp2_with fail
      refine HTr.out.mono ?_
      rintro e w' ⟨rfl, hw⟩
      obtain rfl := hw.symm
      clear HTr hsz
      go_wp2_with fail
      go_loopw [6, 8] (fun o i wr => ∃ d t : Nat, o = .string (dec t) ∧ i = .int .i64 d ∧ d ≤ 9 ∧ Hid (RootD x t (10 - d) m) ∧ Hid (Below (w.heap.size + 3) (((w.alloc (boxN false TX T1)).alloc box0).alloc box0) wr)) (fun _ i _ => 9 - (intOf i).toNat)
      case atStart => exact ⟨0, s * 10, rfl, rfl, by omega, HR1.out, HB.out⟩
      case round =>
        obtain ⟨d, t, rfl, rfl, hd, HRt, HBt⟩ := hrel
        rename World => w2
        by_cases hd9 : d < 9
        · have htm := rootD_small HRt.out HXl.out
          have hdg : Lib.nDigits t ≤ 31 ∧ Lib.nDigits ((t + 1) * 10 ^ m) ≤ 70 := by
            rcases digits_root htm with h | h
            · exact h
            · have := HM31.out
              have hh := HJ.out
              omega
          have HSt := hid (fun w => l15Step_any t m w (by omega) (by have := HM31.out; omega))
          obtain ⟨V, hV⟩ : ∃ V, (t + 1) * 10 ^ m = V := ⟨_, rfl⟩
          rw [hV] at HSt hdg
          have HMu := hid (fun w => l11Mul_any V V w (by omega) (by omega))
          have HCm := hid (fun w => l11Cmp_any (V * V) x w)
          rw [hTx] at HCm
          have HAd := hid (fun w => l11Add_any t 1 w (by omega) (by rw [nDigits_one]; decide))
          rw [dec_one] at HAd
          have hcase : (cmpI (V * V) x = 1 ∧ RootD x t 1 m) ∨ ((cmpI (V * V) x = 0 ∨ cmpI (V * V) x = -1) ∧ RootD x (t + 1) (10 - (d + 1)) m) := by
            unfold cmpI RootD
            rw [hV]
            rcases Nat.lt_trichotomy (V * V) x with h | h | h
            · refine Or.inr ⟨Or.inr (if_pos h), Nat.le_of_lt h, ?_⟩
              have h2 := HRt.out.2
              have e : t + (10 - d) = t + 1 + (10 - (d + 1)) := by omega
              rw [e] at h2
              exact h2
            · refine Or.inr ⟨Or.inl (by rw [if_neg (by omega), if_neg (by omega)]), Nat.le_of_eq h, ?_⟩
              have h2 := HRt.out.2
              have e : t + (10 - d) = t + 1 + (10 - (d + 1)) := by omega
              rw [e] at h2
              exact h2
            · exact Or.inl ⟨by rw [if_neg (by omega), if_pos h], HRt.out.1, h⟩
          generalize cmpI (V * V) x = g at *
          generalize dec (V * V) = TVV at *
          generalize dec V = TV at *
          clear hdg htm hV
          have hszt := HBt.out.size
          rcases hcase with ⟨rfl, hr⟩ | ⟨hg, hr⟩
          · have HRn := hid hr
            clear hr
            go_wp2_with fail
            refine (HSt.out _).mono ?_
            rintro e w3 ⟨rfl, hw3⟩
            have HB3 := hid (HBt.out.trans (hw3.mono (Nat.le_trans HSz.out HBt.out.size)))
            clear hw3
            go_wp2_with fail
            have HBq := hid HB3.out.drew
            go_region_held3 (fun W => W.cell? ⟨w.heap.size, 1, none⟩ = some (.string TX))
              (first | exact (own3V (HX.out _ HBq.out).1).1.2.1)
              (first
                | (go_at_call 67
                   go_loud (
                     refine (HMu.out _).mono ?_
                     rintro e w5 ⟨rfl, hw5⟩
                     have HBq := hid (HBq.out.trans (hw5.mono (Nat.le_trans HSz.out HBq.out.size)))
                     clear hw5))
                | (go_at_call 66
                   go_loud (
                     refine (HCm.out _).mono ?_
                     rintro e w6 ⟨rfl, hw6⟩
                     obtain rfl := hw6.symm)))
            go_wp2_with fail
            refine ⟨⟨j + 1, t, rfl, by congr 1, by omega, ?_, HBq.out⟩, ?_⟩
            · have e : N - (j + 1) = m := by have := HJ.out; omega
              rw [e]; exact HRn.out
            · simp [intOf]; omega
          · have HRn := hid hr
            clear hr
            rcases hg with rfl | rfl
            all_goals
              go_wp2_with fail
              refine (HSt.out _).mono ?_
              rintro e w3 ⟨rfl, hw3⟩
              have HB3 := hid (HBt.out.trans (hw3.mono (Nat.le_trans HSz.out HBt.out.size)))
              clear hw3
              go_wp2_with fail
              have HBq := hid HB3.out.drew
              go_region_held3 (fun W => W.cell? ⟨w.heap.size, 1, none⟩ = some (.string TX))
                (first | exact (own3V (HX.out _ HBq.out).1).1.2.1)
                (first
                  | (go_at_call 67
                     go_loud (
                       refine (HMu.out _).mono ?_
                       rintro e w5 ⟨rfl, hw5⟩
                       have HBq := hid (HBq.out.trans (hw5.mono (Nat.le_trans HSz.out HBq.out.size)))
                       clear hw5))
                  | (go_at_call 66
                     go_loud (
                       refine (HCm.out _).mono ?_
                       rintro e w6 ⟨rfl, hw6⟩
                       obtain rfl := hw6.symm)))
              go_wp2_with fail
              refine (HAd.out _).mono ?_
              rintro e w7 ⟨rfl, hw7⟩
              have HBq := hid (HBq.out.trans (hw7.mono (Nat.le_trans HSz.out HBq.out.size)))
              clear hw7
              go_wp2_with fail
              refine ⟨⟨d + 1, t + 1, rfl, by congr 1, by omega, HRn.out, HBq.out⟩, ?_⟩
              simp [intOf]; omega
        · obtain rfl : d = 9 := by omega
          go_wp2_with fail
          refine ⟨⟨j + 1, t, rfl, by congr 1, by omega, ?_, HBt.out⟩, ?_⟩
          · have e : N - (j + 1) = m := by have := HJ.out; omega
            rw [e]; exact HRt.out
          · simp [intOf]; omega
    · obtain rfl : j = N := by omega
      have HRt := hid (rootD_end (by rw [Nat.sub_self] at HR; exact HR.out))
      have hsm := rootD_small HR.out HXl.out
      rw [Nat.sub_self, Nat.pow_zero, Nat.mul_one] at hsm
      have hs31 : Lib.nDigits s ≤ 31 := nDigits_le (m := 31) (Nat.lt_of_lt_of_le hsm (Nat.pow_le_pow_right (by decide) (by decide))) (by decide)
      have HMu := hid (fun w => l11Mul_any s s w (by omega) (by omega))
      have HSu := hid (fun w => l11Sub_any x (s * s) w (by have := HLx.out; omega) HRt.out.1)
      rw [hTx] at HSu
      have HG1 := hid (fun w => l14Sign_any false s w)
      have HG2 := hid (fun w => l14Sign_any false (x - s * s) w)
      obtain ⟨b1, HBb1⟩ : ∃ b, Hid ((false && !decide (s = 0)) = b) := ⟨_, rfl⟩
      obtain ⟨b2, HBb2⟩ : ∃ b, Hid ((false && !decide (x - s * s = 0)) = b) := ⟨_, rfl⟩
      rw [HBb1.out] at HG1
      rw [HBb2.out] at HG2
      generalize hS : dec s = S at *
      generalize hSS : dec (s * s) = SS at *
      generalize hD : dec (x - s * s) = D at *
      generalize hO1 : dec 1 = O at *
      clear hsm hs31
      go_wp2_with fail
      have HC := hid HB.out.drew
      obtain ⟨W3, HW3⟩ : ∃ W, Hid (w1.drew = W) := ⟨_, rfl⟩
      have HL : Hid (∀ W, Own W w.heap.size 25 #[.bool false, .string TX, .string T1] → W.cell? ⟨w.heap.size, 1, none⟩ = some (.string TX)) := fun W h => (own3V h).1.2.1
      have L0 := hid (HL.out _ (HX.out _ HC.out).1)
      refine wp_region_held_drew (S := fun W => W.cell? ⟨w.heap.size, 1, none⟩ = some (.string TX)) rfl L0.out (fun _ => ?_)
      rw [HW3.out]
      rw [HW3.out] at HC L0
      refine wpAnyH_take (i := 0) (oi := ({ dst := some 56, op := _, type := _, pos := _, after := _, guard := _ } : Oper)) (v := (.string S)) rfl (by kernel_rfl) (by kernel_rfl) (by kernel_rfl) (fun _ _ _ h => h) (Or.inl ⟨by rfl, ?_⟩) L0.out ?_
      · intro w hSw; (try dsimp only at hSw); go_simp
      try simp only [Act.put, List.setIfInBounds_toArray, List.set_cons_zero, List.set_cons_succ]
      refine wpAnyH_take (i := 2) (oi := ({ dst := some 58, op := _, type := _, pos := _, after := _, guard := _ } : Oper)) (v := (.pointer (some ⟨w.heap.size, 1, none⟩))) rfl (by kernel_rfl) (by kernel_rfl) (by kernel_rfl) (fun _ _ _ h => h) (Or.inl ⟨by rfl, ?_⟩) L0.out ?_
      · intro w hSw; (try dsimp only at hSw); go_simp
      try simp only [Act.put, List.setIfInBounds_toArray, List.set_cons_zero, List.set_cons_succ]
      refine wpAnyH_take (i := 3) (oi := ({ dst := some 59, op := _, type := _, pos := _, after := _, guard := _ } : Oper)) (v := (.string TX)) rfl (by kernel_rfl) (by kernel_rfl) (by kernel_rfl) (fun _ _ _ h => h) (Or.inl ⟨by rfl, ?_⟩) L0.out ?_
      · intro w hSw; (try dsimp only at hSw); go_simp
      try simp only [Act.put, List.setIfInBounds_toArray, List.set_cons_zero, List.set_cons_succ]
      refine wpAnyH_take (i := 4) (oi := ({ dst := some 60, op := _, type := _, pos := _, after := _, guard := _ } : Oper)) (v := (.string S)) rfl (by kernel_rfl) (by kernel_rfl) (by kernel_rfl) (fun _ _ _ h => h) (Or.inl ⟨by rfl, ?_⟩) L0.out ?_
      · intro w hSw; (try dsimp only at hSw); go_simp
      try simp only [Act.put, List.setIfInBounds_toArray, List.set_cons_zero, List.set_cons_succ]
      refine wpAnyH_take (i := 5) (oi := ({ dst := some 61, op := _, type := _, pos := _, after := _, guard := _ } : Oper)) (v := (.string S)) rfl (by kernel_rfl) (by kernel_rfl) (by kernel_rfl) (fun _ _ _ h => h) (Or.inl ⟨by rfl, ?_⟩) L0.out ?_
      · intro w hSw; (try dsimp only at hSw); go_simp
      try simp only [Act.put, List.setIfInBounds_toArray, List.set_cons_zero, List.set_cons_succ]
      refine wpAnyH_ready (rs := [1]) (by kernel_rfl) (by simp) ?_
      refine AllReadyH.cons (o := ({ dst := some 57, op := _, type := _, pos := _, after := _, guard := _ } : Oper)) rfl (fun K hK => ?_) AllReadyH.nil
      go_simp
      go_at_call 53
      refine (HG1.out _).mono ?_
      rintro e w5 ⟨rfl, hw5⟩
      have HC := hid (HC.out.trans (hw5.mono (Nat.le_trans HSz.out HC.out.size)))
      have L1 := hid (HL.out _ (HX.out _ HC.out).1)
      clear hw5
      go_wp2_with fail
      refine hK.out _ _ L1.out (fun _ => ?_)
      clear hK K
      try simp only [Act.put, List.setIfInBounds_toArray, List.set_cons_zero, List.set_cons_succ]
      refine wpAnyH_ready (rs := [6]) (by kernel_rfl) (by simp) ?_
      refine AllReadyH.cons (o := ({ dst := some 62, op := _, type := _, pos := _, after := _, guard := _ } : Oper)) rfl (fun K hK => ?_) AllReadyH.nil
      go_simp
      go_at_call 67
      refine (HMu.out _).mono ?_
      rintro e w6 ⟨rfl, hw5⟩
      have HC := hid (HC.out.trans (hw5.mono (Nat.le_trans HSz.out HC.out.size)))
      have L2 := hid (HL.out _ (HX.out _ HC.out).1)
      clear hw5
      go_wp2_with fail
      refine hK.out _ _ L2.out (fun _ => ?_)
      clear hK K
      try simp only [Act.put, List.setIfInBounds_toArray, List.set_cons_zero, List.set_cons_succ]
      refine wpAnyH_ready (rs := [7]) (by kernel_rfl) (by simp) ?_
      refine AllReadyH.cons (o := ({ dst := some 63, op := _, type := _, pos := _, after := _, guard := _ } : Oper)) rfl (fun K hK => ?_) AllReadyH.nil
      go_simp
      go_at_call 56
      refine (HSu.out _).mono ?_
      rintro e w7 ⟨rfl, hw5⟩
      have HC := hid (HC.out.trans (hw5.mono (Nat.le_trans HSz.out HC.out.size)))
      have L3 := hid (HL.out _ (HX.out _ HC.out).1)
      clear hw5
      go_wp2_with fail
      refine hK.out _ _ L3.out (fun _ => ?_)
      clear hK K
      try simp only [Act.put, List.setIfInBounds_toArray, List.set_cons_zero, List.set_cons_succ]
      refine wpAnyH_ready (rs := [8]) (by kernel_rfl) (by simp) ?_
      refine AllReadyH.cons (o := ({ dst := some 64, op := _, type := _, pos := _, after := _, guard := _ } : Oper)) rfl (fun K hK => ?_) AllReadyH.nil
      go_simp
      go_at_call 53
      refine (HG2.out _).mono ?_
      rintro e w8 ⟨rfl, hw5⟩
      have HC := hid (HC.out.trans (hw5.mono (Nat.le_trans HSz.out HC.out.size)))
      have L4 := hid (HL.out _ (HX.out _ HC.out).1)
      clear hw5
      go_wp2_with fail
      refine hK.out _ _ L4.out (fun _ => ?_)
      clear hK K
      try simp only [Act.put, List.setIfInBounds_toArray, List.set_cons_zero, List.set_cons_succ]
      have hx := HX.out _ HC.out
      obtain ⟨⟨r0, r1, r2⟩, q0, q1, q2⟩ := own3V hx.2.1
      obtain ⟨⟨s0, s1, s2⟩, z0, z1, z2⟩ := own3V hx.2.2.1
      have L5 := hid (HL.out _ (own_set3 hx.1 (r := w.heap.size + 1) (by omega) (.bool b1) (.string S) (.string O)))
      have L6 := hid (HL.out _ (own_set3 (own_set3 hx.1 (r := w.heap.size + 1) (by omega) (.bool b1) (.string S) (.string O)) (r := w.heap.size + 1 + 1) (by omega) (.bool b2) (.string D) (.string O)))
      refine wpAnyH_ready (rs := [9]) (by kernel_rfl) (by simp) ?_
      refine AllReadyH.cons (o := ({ dst := none, op := _, type := _, pos := _, after := _, guard := _ } : Oper)) rfl (fun K hK => ?_) AllReadyH.nil
      go_simp
      refine hK.out _ _ L5.out (fun _ => ?_)
      clear hK K
      try simp only [Act.put, List.setIfInBounds_toArray, List.set_cons_zero, List.set_cons_succ]
      refine wpAnyH_ready (rs := [10]) (by kernel_rfl) (by simp) ?_
      refine AllReadyH.cons (o := ({ dst := none, op := _, type := _, pos := _, after := _, guard := _ } : Oper)) rfl (fun K hK => ?_) AllReadyH.nil
      go_simp
      refine hK.out _ _ L6.out (fun _ => ?_)
      clear hK K
      try simp only [Act.put, List.setIfInBounds_toArray, List.set_cons_zero, List.set_cons_succ]
      refine wpAnyH_take (i := 11) (oi := ({ dst := some 4, op := _, type := _, pos := _, after := _, guard := _ } : Oper)) (v := (.int .i64 0)) rfl (by kernel_rfl) (by kernel_rfl) (by kernel_rfl) (fun _ _ _ h => h) (Or.inl ⟨by rfl, ?_⟩) L6.out ?_
      · intro w hSw; (try dsimp only at hSw); go_simp
      try simp only [Act.put, List.setIfInBounds_toArray, List.set_cons_zero, List.set_cons_succ]
      refine wpAnyH_done (by kernel_rfl) ?_ _
      go_wp2_with fail
      refine bodyPost_ret (v := .tuple #[.agg #[.bool b1, .string S, .string O], .agg #[.bool b2, .string D, .string O], .int .i64 0]) (by simp [results, Tryd.results25, go_sem, r0, r1, r2, s0, s1, s2]) rfl ⟨s, HRt.out, ?_, ?_⟩
      · show _ = Ending.returned (.tuple #[.agg #[.bool (false && !decide (s = 0)), .string (dec s), .string (dec 1)], .agg #[.bool (false && !decide (x - s * s = 0)), .string (dec (x - s * s)), .string (dec 1)], .int .i64 0])
        rw [hS, hD, hO1, HBb1.out, HBb2.out]
      · exact below_set3 (below_set3 hx.2.2.2 (by omega) _ _ _) (by omega) _ _ _
end Go.Proofs.YteckkgbkgjhhbaaDoor

namespace Go.Proofs.YteckkgbkgjhhbaaDoor
open Go.RowKit Go.Siskin

set_option maxRecDepth 20000 in
set_option maxHeartbeats 4000000 in
theorem specNumQuo_yes (n1 n2 : Bool) (u1 d1 u2 d2 : Nat) (w : World) (h1 : (dec u1).size ≤ 60) (h3 : (dec u2).size ≤ 60) (hu : u2 ≠ 0)
    (hW : ∀ w, Calls Tryd.prog 52 #[.agg #[.bool n1, .string (dec u1), .string (dec d1)], .agg #[.bool n2, .string (dec u2), .string (dec d2)]] w fun e w' => e = .returned (.int .i64 0) ∧ Below w.heap.size w w') :
    Calls Tryd.prog 17 #[.agg #[.bool n1, .string (dec u1), .string (dec d1)], .agg #[.bool n2, .string (dec u2), .string (dec d2)]] w fun e w' => e = .returned (.tuple #[wholeV (n1 != n2) (u1 / u2), wholeV n1 (u1 % u2), .int .i64 0]) ∧ Below w.heap.size w w' := by
  have HW := hid hW
  rw [dec_size] at h1 h3
  have HD := hid (fun w => l11Div_any u1 u2 w (by omega) (by omega) (Nat.pos_of_ne_zero hu))
  have HQ := hid (fun w => l14Sign_any (n1 != n2) (u1 / u2) w)
  have HL := hid (fun w => l14Sign_any n1 (u1 % u2) w)
  unfold wholeV
  obtain ⟨s, hs⟩ : ∃ s, (n1 != n2) = s := ⟨_, rfl⟩
  have hs2 : (!n1 == n2) = s := hs
  rw [hs] at HQ ⊢
  clear hs hW h1 h3 hu
  generalize (s && !decide (u1 / u2 = 0)) = b1 at *
  generalize (n1 && !decide (u1 % u2 = 0)) = b2 at *
  generalize dec (u1 / u2) = Q at *
  generalize dec (u1 % u2) = L at *
  generalize dec u1 = T1 at *
  generalize dec d1 = R1 at *
  generalize dec u2 = T2 at *
  generalize dec d2 = R2 at *
  generalize dec 1 = O at *
  have HB0 : Hid (Below (w.heap.size + 4) ((((w.alloc (boxN n1 T1 R1)).alloc (boxN n2 T2 R2)).alloc box0).alloc box0) ((((w.alloc (boxN n1 T1 R1)).alloc (boxN n2 T2 R2)).alloc box0).alloc box0)) := Below.refl _ _
  have HX : Hid (∀ W, Below (w.heap.size + 4) ((((w.alloc (boxN n1 T1 R1)).alloc (boxN n2 T2 R2)).alloc box0).alloc box0) W → (Own W w.heap.size 25 #[.bool n1, .string T1, .string R1] ∧ Own W (w.heap.size + 1) 25 #[.bool n2, .string T2, .string R2]) ∧ Own W (w.heap.size + 1 + 1) 25 #[.bool false, .string ⟨#[]⟩, .string ⟨#[]⟩] ∧ Own W (w.heap.size + 1 + 1 + 1) 25 #[.bool false, .string ⟨#[]⟩, .string ⟨#[]⟩] ∧ Below w.heap.size w W) := fun W h => boxes4 w _ _ _ _ _ _ _ _ h
  have HSz : Hid (w.heap.size + 4 ≤ ((((w.alloc (boxN n1 T1 R1)).alloc (boxN n2 T2 R2)).alloc box0).alloc box0).heap.size) := by show _ ≤ _; simp
  have HSt : Hid (∀ W, Below (w.heap.size + 4) ((((w.alloc (boxN n1 T1 R1)).alloc (boxN n2 T2 R2)).alloc box0).alloc box0) W → ∀ (r : Nat), w.heap.size + 2 ≤ r → ∀ x y z : Value, ((((W.setCell ⟨r, 0, none⟩ x).setCell ⟨r, 1, none⟩ y).setCell ⟨r, 2, none⟩ z).cell? ⟨w.heap.size, 0, none⟩ = some (.bool n1)) ∧ (((W.setCell ⟨r, 0, none⟩ x).setCell ⟨r, 1, none⟩ y).setCell ⟨r, 2, none⟩ z).cell? ⟨w.heap.size + 1, 0, none⟩ = some (.bool n2)) := fun W h r hr x y z => by
    have h0 := HX.out W h
    exact ⟨(own3V (own_set3 h0.1.1 (by omega) x y z)).1.1, (own3V (own_set3 h0.1.2 (by omega) x y z)).1.1⟩
  have HSt2 : Hid (∀ W, Below (w.heap.size + 4) ((((w.alloc (boxN n1 T1 R1)).alloc (boxN n2 T2 R2)).alloc box0).alloc box0) W → ∀ (r r' : Nat), w.heap.size + 2 ≤ r → w.heap.size + 2 ≤ r' → ∀ x y z x' y' z' : Value, (((((((W.setCell ⟨r, 0, none⟩ x).setCell ⟨r, 1, none⟩ y).setCell ⟨r, 2, none⟩ z).setCell ⟨r', 0, none⟩ x').setCell ⟨r', 1, none⟩ y').setCell ⟨r', 2, none⟩ z').cell? ⟨w.heap.size, 0, none⟩ = some (.bool n1)) ∧ ((((((W.setCell ⟨r, 0, none⟩ x).setCell ⟨r, 1, none⟩ y).setCell ⟨r, 2, none⟩ z).setCell ⟨r', 0, none⟩ x').setCell ⟨r', 1, none⟩ y').setCell ⟨r', 2, none⟩ z').cell? ⟨w.heap.size + 1, 0, none⟩ = some (.bool n2)) := fun W h r r' hr hr' x y z x' y' z' => by
    have h0 := HX.out W h
    exact ⟨(own3V (own_set3 (own_set3 h0.1.1 (by omega) x y z) (by omega) x' y' z')).1.1, (own3V (own_set3 (own_set3 h0.1.2 (by omega) x y z) (by omega) x' y' z')).1.1⟩
  go_enter Tryd.func17, Tryd.ntmps17
  go_wp2_with fail
  refine (HW.out _).mono ?_
  rintro e wa ⟨rfl, hwa⟩
  have HBa := hid (HB0.out.trans (hwa.mono (by first | exact HSz.out | simp)))
  clear hwa
  obtain ⟨⟨x0, x1, x2⟩, -⟩ := own3V (HX.out _ HBa.out).1.1
  obtain ⟨⟨y0, y1, y2⟩, -⟩ := own3V (HX.out _ HBa.out).1.2
  go_wp2_with fail
  refine (HD.out _).mono ?_
  rintro e wb ⟨rfl, hwb⟩
  have HBb := hid (HBa.out.trans (hwb.mono (Nat.le_trans HSz.out HBa.out.size)))
  clear hwb x0 x1 x2 y0 y1 y2
  go_wp2_with fail
  have HB := hid HBb.out.drew
  obtain ⟨⟨r0, r1, r2⟩, q0, q1, q2⟩ := own3V (HX.out _ HB.out).2.1
  obtain ⟨⟨s0, s1, s2⟩, p0, p1, p2⟩ := own3V (HX.out _ HB.out).2.2.1
  obtain ⟨⟨x0, -, -⟩, -⟩ := own3V (HX.out _ HB.out).1.1
  obtain ⟨⟨y0, -, -⟩, -⟩ := own3V (HX.out _ HB.out).1.2
  go_region_with
    (first
      | (go_at_call_of 53 (Value.string Q)
         go_loud (
           refine (HQ.out _).mono ?_
           rintro e w5 ⟨rfl, hw5⟩
           have HB := hid (HB.out.trans (hw5.mono (Nat.le_trans HSz.out HB.out.size)))
           clear hw5 r0 r1 r2 q0 q1 q2 s0 s1 s2 p0 p1 p2 x0 y0
           obtain ⟨⟨r0, r1, r2⟩, q0, q1, q2⟩ := own3V (HX.out _ HB.out).2.1
           obtain ⟨⟨s0, s1, s2⟩, p0, p1, p2⟩ := own3V (HX.out _ HB.out).2.2.1
           obtain ⟨⟨x0, -, -⟩, -⟩ := own3V (HX.out _ HB.out).1.1
           obtain ⟨⟨y0, -, -⟩, -⟩ := own3V (HX.out _ HB.out).1.2))
      | (go_at_call_of 53 (Value.string L)
         go_loud (
           refine (HL.out _).mono ?_
           rintro e w5 ⟨rfl, hw5⟩
           have HB := hid (HB.out.trans (hw5.mono (Nat.le_trans HSz.out HB.out.size)))
           clear hw5 r0 r1 r2 q0 q1 q2 s0 s1 s2 p0 p1 p2 x0 y0
           obtain ⟨⟨r0, r1, r2⟩, q0, q1, q2⟩ := own3V (HX.out _ HB.out).2.1
           obtain ⟨⟨s0, s1, s2⟩, p0, p1, p2⟩ := own3V (HX.out _ HB.out).2.2.1
           obtain ⟨⟨x0, -, -⟩, -⟩ := own3V (HX.out _ HB.out).1.1
           obtain ⟨⟨y0, -, -⟩, -⟩ := own3V (HX.out _ HB.out).1.2)))
  all_goals
    go_wp2_with fail
    refine bodyPost_ret (v := .tuple #[.agg #[.bool b1, .string Q, .string O], .agg #[.bool b2, .string L, .string O], .int .i64 0]) (by simp [results, Tryd.results17, go_sem, r0, r1, r2, s0, s1, s2]) rfl ⟨rfl, ?_⟩
    exact below_set3 (below_set3 (HX.out _ HB.out).2.2.2 (by omega) _ _ _) (by omega) _ _ _
end Go.Proofs.YteckkgbkgjhhbaaDoor

namespace Go.Proofs.YteckkgbkgjhhbaaDoor
open Go.RowKit Go.Siskin

/-- Both variables stand. -/
def PowE (w : World) : Prop := Pow9 w ∧ ErrT w
theorem PowE.below {w w' : World} {n : Nat} (h : PowE w) (hb : Below n w w') (hn : w.heap.size ≤ n) : PowE w' := ⟨h.1.below hb hn, h.2.below hb hn⟩

/-- What integersOf tells of any two numbers. -/
theorem integersOf_all (n1 n2 : Bool) (T1 R1 T2 R2 : ByteArray) (h1 : T1.size ≤ maxLen) (h2 : R1.size ≤ maxLen) (h3 : T2.size ≤ maxLen) (h4 : R2.size ≤ maxLen) :
    (¬ (NumP n1 T1 R1 ∧ NumP n2 T2 R2) ∧ ∀ w, Pow9 w → Calls Tryd.prog 59 #[.agg #[.bool n1, .string T1, .string R1], .agg #[.bool n2, .string T2, .string R2]] w fun e w' => e = .returned (.tuple #[int0, int0, whyV 1]) ∧ Below w.heap.size w w') ∨
    (∃ U1 D1 U2 D2, T1 = dec U1 ∧ R1 = dec D1 ∧ T2 = dec U2 ∧ R2 = dec D2 ∧ T1.size ≤ 60 ∧ R1.size ≤ 60 ∧ T2.size ≤ 60 ∧ R2.size ≤ 60 ∧ OkUD n1 U1 D1 ∧ OkUD n2 U2 D2 ∧ nG U1 ≤ 60 ∧ nG U2 ≤ 60 ∧
      ((¬ (D1 = 1 ∧ D2 = 1) ∧ ∀ w, Pow9 w → Calls Tryd.prog 59 #[.agg #[.bool n1, .string T1, .string R1], .agg #[.bool n2, .string T2, .string R2]] w fun e w' => e = .returned (.tuple #[int0, int0, whyV 4]) ∧ Below w.heap.size w w') ∨
       ((D1 = 1 ∧ D2 = 1) ∧ ∀ w, Pow9 w → Calls Tryd.prog 59 #[.agg #[.bool n1, .string T1, .string R1], .agg #[.bool n2, .string T2, .string R2]] w (IntPost n1 n2 U1 U2 w)))) := by
  obtain ⟨b1, p1, U1, D1, o1, c1⟩ := openNum_all n1 T1 R1 h1 h2
  obtain ⟨b2, p2, U2, D2, o2, c2⟩ := openNum_all n2 T2 R2 h3 h4
  have g1 := o1.small
  have g2 := o2.small
  have hR := fun w hP => ratiosOf_any n1 n2 T1 R1 T2 R2 b1 b2 p1 p2 U1 D1 U2 D2 w c1 c2 hP
  rcases both_parts o1 o2 with ⟨rfl, rfl, rfl, rfl, e1, e2, e3, e4, s1, s2, s3, s4, k1, k2⟩ | ⟨hb, hno⟩
  · refine Or.inr ⟨U1, D1, U2, D2, e1, e2, e3, e4, s1, s2, s3, s4, k1, k2, g1.1, g2.1, ?_⟩
    by_cases hd : D1 = 1 ∧ D2 = 1
    · exact Or.inr ⟨hd, fun w hP => integersOf_ok n1 n2 T1 R1 T2 R2 n1 n2 U1 D1 U2 D2 w hP hd hR⟩
    · exact Or.inl ⟨hd, fun w hP => integersOf_part n1 n2 T1 R1 T2 R2 n1 n2 U1 D1 U2 D2 w hP hd hR⟩
  · rw [hb] at hR
    exact Or.inl ⟨hno, fun w hP => integersOf_no n1 n2 T1 R1 T2 R2 p1 p2 U1 D1 U2 D2 w hP hR⟩

abbrev numV (n : Bool) (x y : ByteArray) : Value := .agg #[.bool n, .string x, .string y]
theorem whole_four {D1 D2 U2 : Nat} (h : ¬ (D1 = 1 ∧ D2 = 1)) : wholeC D1 D2 U2 = 4 := by
  unfold wholeC
  rw [if_pos]
  by_cases h1 : D1 = 1
  · exact Or.inr fun h2 => h ⟨h1, h2⟩
  · exact Or.inl h1
theorem whole_two {D1 D2 U2 : Nat} (h : D1 = 1 ∧ D2 = 1) (hu : U2 = 0) : wholeC D1 D2 U2 = 2 := by
  unfold wholeC
  rw [if_neg (by rintro (h1 | h1); exact h1 h.1; exact h1 h.2), if_pos hu]
theorem whole_none {D1 D2 U2 : Nat} (h : D1 = 1 ∧ D2 = 1) (hu : U2 ≠ 0) : wholeC D1 D2 U2 = 0 := by
  unfold wholeC
  rw [if_neg (by rintro (h1 | h1); exact h1 h.1; exact h1 h.2), if_neg hu]

theorem numMod_both (n1 n2 : Bool) (T1 R1 T2 R2 : ByteArray) (h1 : T1.size ≤ maxLen) (h2 : R1.size ≤ maxLen) (h3 : T2.size ≤ maxLen) (h4 : R2.size ≤ maxLen) : ∃ (n : Bool) (x y : ByteArray) (c : Int),
    (∀ w, Calls Tryd.prog 19 #[.agg #[.bool n1, .string T1, .string R1], .agg #[.bool n2, .string T2, .string R2]] w fun e w' => e = .returned (.tuple #[.agg #[.bool n, .string x, .string y], .int .i64 c]) ∧ Below w.heap.size w w') ∧
    (∀ w, PowE w → Calls Tryd.prog 20 #[.agg #[.bool n1, .string T1, .string R1], .agg #[.bool n2, .string T2, .string R2]] w fun e w' => e = .returned (.tuple #[.agg #[.bool n, .string x, .string y], .int .i64 c]) ∧ Below w.heap.size w w') := by
  rcases integersOf_all n1 n2 T1 R1 T2 R2 h1 h2 h3 h4 with ⟨hno, hI⟩ | ⟨U1, D1, U2, D2, rfl, rfl, rfl, rfl, s1, s2, s3, s4, k1, k2, g1, g2, ⟨hd, hI⟩ | ⟨hd, hI⟩⟩
  · exact ⟨false, ⟨#[]⟩, ⟨#[]⟩, 1, fun w => specNumMod_code n1 n2 _ _ _ _ w 1 (by decide) (fun w => l14Whole_no n1 n2 _ _ _ _ w h1 h2 h3 h4 hno),
      fun w hP => implNumMod_err n1 n2 _ _ _ _ 1 w hP.1 hP.2 (fun w hP => dividedOf_err n1 n2 _ _ _ _ 1 w hP hI)⟩
  · exact ⟨false, ⟨#[]⟩, ⟨#[]⟩, 4, fun w => specNumMod_code n1 n2 _ _ _ _ w 4 (by decide) (fun w => l14Whole_yes n1 n2 _ _ _ _ w s1 s2 s3 s4 k1 k2 4 (whole_four hd)),
      fun w hP => implNumMod_err n1 n2 _ _ _ _ 4 w hP.1 hP.2 (fun w hP => dividedOf_err n1 n2 _ _ _ _ 4 w hP hI)⟩
  · by_cases hu : U2 = 0
    · subst hu
      exact ⟨false, ⟨#[]⟩, ⟨#[]⟩, 2, fun w => specNumMod_code n1 n2 _ _ _ _ w 2 (by decide) (fun w => l14Whole_yes n1 n2 _ _ _ _ w s1 s2 s3 s4 k1 k2 2 (whole_two hd rfl)),
        fun w hP => implNumMod_err n1 n2 _ _ _ _ 2 w hP.1 hP.2 (fun w hP => dividedOf_nought n1 n2 n1 n2 _ _ _ _ U1 w hP hI)⟩
    · exact ⟨_, _, _, 0, fun w => specNumMod_yes n1 n2 U1 D1 U2 D2 w s1 s3 hu (fun w => l14Whole_yes n1 n2 _ _ _ _ w s1 s2 s3 s4 k1 k2 0 (whole_none hd hu)),
        fun w hP => implNumMod_ok n1 n2 n1 n2 _ _ _ _ _ U1 U2 w rfl (by omega) (by omega) hu hP.1 (fun w hP => dividedOf_ok n1 n2 n1 n2 _ _ _ _ _ U1 U2 w rfl hu (by omega) hP hI)⟩

theorem numGcd_both (n1 n2 : Bool) (T1 R1 T2 R2 : ByteArray) (h1 : T1.size ≤ maxLen) (h2 : R1.size ≤ maxLen) (h3 : T2.size ≤ maxLen) (h4 : R2.size ≤ maxLen) : ∃ (n : Bool) (x y : ByteArray) (c : Int),
    (∀ w, Calls Tryd.prog 21 #[.agg #[.bool n1, .string T1, .string R1], .agg #[.bool n2, .string T2, .string R2]] w fun e w' => e = .returned (.tuple #[.agg #[.bool n, .string x, .string y], .int .i64 c]) ∧ Below w.heap.size w w') ∧
    (∀ w, PowE w → Calls Tryd.prog 22 #[.agg #[.bool n1, .string T1, .string R1], .agg #[.bool n2, .string T2, .string R2]] w fun e w' => e = .returned (.tuple #[.agg #[.bool n, .string x, .string y], .int .i64 c]) ∧ Below w.heap.size w w') := by
  rcases integersOf_all n1 n2 T1 R1 T2 R2 h1 h2 h3 h4 with ⟨hno, hI⟩ | ⟨U1, D1, U2, D2, rfl, rfl, rfl, rfl, s1, s2, s3, s4, k1, k2, g1, g2, ⟨hd, hI⟩ | ⟨hd, hI⟩⟩
  · exact ⟨false, ⟨#[]⟩, ⟨#[]⟩, 1, fun w => specNumGcd_code n1 n2 _ _ _ _ w 1 (Or.inl rfl) (fun w => l14Whole_no n1 n2 _ _ _ _ w h1 h2 h3 h4 hno),
      fun w hP => implNumGcd_err n1 n2 _ _ _ _ 1 w hP.1 hP.2 hI⟩
  · exact ⟨false, ⟨#[]⟩, ⟨#[]⟩, 4, fun w => specNumGcd_code n1 n2 _ _ _ _ w 4 (Or.inr rfl) (fun w => l14Whole_yes n1 n2 _ _ _ _ w s1 s2 s3 s4 k1 k2 4 (whole_four hd)),
      fun w hP => implNumGcd_err n1 n2 _ _ _ _ 4 w hP.1 hP.2 hI⟩
  · obtain ⟨c, hc, hcw⟩ : ∃ c : Int, (c = 0 ∨ c = 2) ∧ wholeC D1 D2 U2 = c := by
      by_cases hu : U2 = 0
      · exact ⟨2, Or.inr rfl, whole_two hd hu⟩
      · exact ⟨0, Or.inl rfl, whole_none hd hu⟩
    exact ⟨_, _, _, 0, fun w => specNumGcd_yes n1 n2 U1 D1 U2 D2 w s1 s3 c hc (fun w => l14Whole_yes n1 n2 _ _ _ _ w s1 s2 s3 s4 k1 k2 c hcw),
      fun w hP => implNumGcd_ok n1 n2 n1 n2 _ _ _ _ U1 U2 w (by omega) (by omega) hP.1 hI⟩

theorem numQuo_both (n1 n2 : Bool) (T1 R1 T2 R2 : ByteArray) (h1 : T1.size ≤ maxLen) (h2 : R1.size ≤ maxLen) (h3 : T2.size ≤ maxLen) (h4 : R2.size ≤ maxLen) : ∃ (n : Bool) (x y : ByteArray) (m : Bool) (z t : ByteArray) (c : Int),
    (∀ w, Calls Tryd.prog 17 #[.agg #[.bool n1, .string T1, .string R1], .agg #[.bool n2, .string T2, .string R2]] w fun e w' => e = .returned (.tuple #[.agg #[.bool n, .string x, .string y], .agg #[.bool m, .string z, .string t], .int .i64 c]) ∧ Below w.heap.size w w') ∧
    (∀ w, PowE w → Calls Tryd.prog 18 #[.agg #[.bool n1, .string T1, .string R1], .agg #[.bool n2, .string T2, .string R2]] w fun e w' => e = .returned (.tuple #[.agg #[.bool n, .string x, .string y], .agg #[.bool m, .string z, .string t], .int .i64 c]) ∧ Below w.heap.size w w') := by
  rcases integersOf_all n1 n2 T1 R1 T2 R2 h1 h2 h3 h4 with ⟨hno, hI⟩ | ⟨U1, D1, U2, D2, rfl, rfl, rfl, rfl, s1, s2, s3, s4, k1, k2, g1, g2, ⟨hd, hI⟩ | ⟨hd, hI⟩⟩
  · exact ⟨false, ⟨#[]⟩, ⟨#[]⟩, false, ⟨#[]⟩, ⟨#[]⟩, 1, fun w => specNumQuo_code n1 n2 _ _ _ _ w 1 (by decide) (fun w => l14Whole_no n1 n2 _ _ _ _ w h1 h2 h3 h4 hno),
      fun w hP => implNumQuo_err n1 n2 _ _ _ _ 1 w hP.1 hP.2 (fun w hP => dividedOf_err n1 n2 _ _ _ _ 1 w hP hI)⟩
  · exact ⟨false, ⟨#[]⟩, ⟨#[]⟩, false, ⟨#[]⟩, ⟨#[]⟩, 4, fun w => specNumQuo_code n1 n2 _ _ _ _ w 4 (by decide) (fun w => l14Whole_yes n1 n2 _ _ _ _ w s1 s2 s3 s4 k1 k2 4 (whole_four hd)),
      fun w hP => implNumQuo_err n1 n2 _ _ _ _ 4 w hP.1 hP.2 (fun w hP => dividedOf_err n1 n2 _ _ _ _ 4 w hP hI)⟩
  · by_cases hu : U2 = 0
    · subst hu
      exact ⟨false, ⟨#[]⟩, ⟨#[]⟩, false, ⟨#[]⟩, ⟨#[]⟩, 2, fun w => specNumQuo_code n1 n2 _ _ _ _ w 2 (by decide) (fun w => l14Whole_yes n1 n2 _ _ _ _ w s1 s2 s3 s4 k1 k2 2 (whole_two hd rfl)),
        fun w hP => implNumQuo_err n1 n2 _ _ _ _ 2 w hP.1 hP.2 (fun w hP => dividedOf_nought n1 n2 n1 n2 _ _ _ _ U1 w hP hI)⟩
    · exact ⟨_, _, _, _, _, _, 0, fun w => specNumQuo_yes n1 n2 U1 D1 U2 D2 w s1 s3 hu (fun w => l14Whole_yes n1 n2 _ _ _ _ w s1 s2 s3 s4 k1 k2 0 (whole_none hd hu)),
        fun w hP => implNumQuo_ok n1 n2 n1 n2 _ _ _ _ _ U1 U2 w rfl (by omega) (by omega) hu hP.1 (fun w hP => dividedOf_ok n1 n2 n1 n2 _ _ _ _ _ U1 U2 w rfl hu (by omega) hP hI)⟩
end Go.Proofs.YteckkgbkgjhhbaaDoor

namespace Go.Proofs.YteckkgbkgjhhbaaDoor
open Go.RowKit Go.Siskin

theorem isRoot_ex : ∀ x : Nat, ∃ s, IsRoot x s
  | 0 => ⟨0, by decide, by decide⟩
  | x + 1 => by
    obtain ⟨s, h1, h2⟩ := isRoot_ex x
    by_cases h : (s + 1) * (s + 1) ≤ x + 1
    · refine ⟨s + 1, h, ?_⟩
      have := Nat.mul_le_mul (Nat.le_succ (s + 1)) (Nat.le_refl (s + 2))
      have e : (s + 1 + 1) * (s + 1 + 1) = (s + 1) * (s + 1) + (s + 1) + (s + 1) + 1 := by
        generalize s + 1 = t
        grind
      omega
    · exact ⟨s, by omega, by omega⟩

theorem numRoot_both (n : Bool) (T R : ByteArray) (h1 : T.size ≤ maxLen) (h2 : R.size ≤ maxLen) : ∃ (m : Bool) (x y : ByteArray) (k : Bool) (z t : ByteArray) (c : Int),
    (∀ w, Calls Tryd.prog 25 #[.agg #[.bool n, .string T, .string R]] w fun e w' => e = .returned (.tuple #[.agg #[.bool m, .string x, .string y], .agg #[.bool k, .string z, .string t], .int .i64 c]) ∧ Below w.heap.size w w') ∧
    (∀ w, PowE w → Calls Tryd.prog 26 #[.agg #[.bool n, .string T, .string R]] w fun e w' => e = .returned (.tuple #[.agg #[.bool m, .string x, .string y], .agg #[.bool k, .string z, .string t], .int .i64 c]) ∧ Below w.heap.size w w') := by
  obtain ⟨b, p, U, D, o, hO⟩ := openNum_all n T R h1 h2
  rcases o with ⟨rfl, rfl, rfl, rfl, s1, s2, k⟩ | ⟨rfl, hno, -, -, -⟩
  · have hp : NumP p (dec U) (dec D) := ⟨U, D, rfl, rfl, s1, s2, k⟩
    have ht := one_text D
    by_cases hD : D = 1
    · subst hD
      rw [decide_eq_true rfl] at ht
      cases p
      · obtain ⟨s, hs⟩ := isRoot_ex U
        have hU : Lib.nDigits U ≤ 60 := by rw [dec_size] at s1; exact s1
        refine ⟨false && !decide (s = 0), dec s, dec 1, false && !decide (U - s * s = 0), dec (U - s * s), dec 1, 0, fun w => ?_, fun w hP => ?_⟩
        rotate_left
        · refine (implNumRoot_ok false _ _ U w hU hP.1 (fun w hP => squareOf_ok false _ _ U w hP hO)).mono ?_
          rintro e w' ⟨r, hr, rfl, hb⟩
          obtain rfl := isRoot_one hr hs
          exact ⟨rfl, hb⟩
        · refine (specNumRoot_ok U w s1).mono ?_
          rintro e w' ⟨r, hr, rfl, hb⟩
          obtain rfl := isRoot_one hr hs
          exact ⟨rfl, hb⟩
      · exact ⟨false, ⟨#[]⟩, ⟨#[]⟩, false, ⟨#[]⟩, ⟨#[]⟩, 4, fun w => specNumRoot_err true _ _ 4 w h1 h2 (Or.inr (Or.inr ⟨hp, by rw [bne, ht]; rfl, rfl, rfl⟩)),
          fun w hP => implNumRoot_err true _ _ 4 w hP.1 hP.2 (fun w hP => squareOf_err true _ _ true true U 1 4 w hP (Or.inr (Or.inr ⟨rfl, rfl, rfl, rfl⟩)) hO)⟩
    · rw [decide_eq_false hD] at ht
      exact ⟨false, ⟨#[]⟩, ⟨#[]⟩, false, ⟨#[]⟩, ⟨#[]⟩, 4, fun w => specNumRoot_err p _ _ 4 w h1 h2 (Or.inr (Or.inl ⟨hp, by rw [bne, ht]; rfl, rfl⟩)),
          fun w hP => implNumRoot_err p _ _ 4 w hP.1 hP.2 (fun w hP => squareOf_err p _ _ p true U D 4 w hP (Or.inr (Or.inl ⟨rfl, hD, rfl⟩)) hO)⟩
  · exact ⟨false, ⟨#[]⟩, ⟨#[]⟩, false, ⟨#[]⟩, ⟨#[]⟩, 1, fun w => specNumRoot_err n _ _ 1 w h1 h2 (Or.inl ⟨hno, rfl⟩),
      fun w hP => implNumRoot_err n _ _ 1 w hP.1 hP.2 (fun w hP => squareOf_err n _ _ p false U D 1 w hP (Or.inl ⟨rfl, rfl⟩) hO)⟩
end Go.Proofs.YteckkgbkgjhhbaaDoor
