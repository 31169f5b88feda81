/-
  NumOk: the model's and the program's, and the law's szNum and toNum. Condition: the table of powers stands.
  The model's NumPrint. Condition: none.
  The program's NumPrint. Condition: the table of powers stands.
  The program's NumPrint, and the law. Condition: the table of powers stands.
  The law FnExactNumPrint. Condition: the table of powers stands.
-/
import Derived.Test.YtakicnplmcemnaaDoorPart8
import Derived.Test.YtakicnplmcemnaaDoorPart2
import Derived.Test.YtakicnplmcemnaaDoorPart10
import Derived.Test.YtakicnplmcemnaaDoorPart4
import Derived.Test.YtakicnplmcemnaaDoorPart5
namespace Go.Proofs.YtakicnplmcemnaaDoor
open Go.RowKit Go.Siskin

/-- What the law's own count leaves. -/
def szN (a b : Nat) (left : Int) : Int := if left - a < 0 then -1 else if left - a - b < 0 then -1 else left - a - b

set_option maxRecDepth 20000 in
set_option maxHeartbeats 1000000 in
theorem szNum_any (neg : Bool) (up down : ByteArray) (left : Int) (w : World) (h0 : 0 ≤ left) (h1 : left ≤ 1048576) (hu : up.size ≤ maxLen) (hd : down.size ≤ maxLen) :
    Calls Tryd.prog 12 #[.agg #[.bool neg, .string up, .string down], .int .i64 left] w fun e w' => e = .returned (.int .i64 (szN up.size down.size left)) ∧ Below w.heap.size w w' := by
  unfold maxLen at hu hd
  obtain ⟨a, HA⟩ : ∃ a : Nat, Hid (up.size = a) := ⟨_, rfl⟩
  obtain ⟨b, HB⟩ : ∃ b : Nat, Hid (down.size = b) := ⟨_, rfl⟩
  have ha : (up.size : Int) = (a : Int) := by rw [HA.out]
  have hb : (down.size : Int) = (b : Int) := by rw [HB.out]
  rw [HA.out] at hu ⊢
  rw [HB.out] at hd ⊢
  have HBw : Hid (Below w.heap.size w (w.alloc (.cells #[.bool neg, .string up, .string down] 23))) := (Below.refl _ _).alloc (Nat.le_refl _) _
  by_cases h2 : left - a < 0
  · have HV : Hid (szN a b left = -1) := by show _ = _; unfold szN; rw [if_pos h2]
    rw [HV.out]
    go_enter Tryd.func12, Tryd.ntmps12
    go_wp2_with fail
    go_ret
    exact ⟨rfl, HBw.out⟩
  · by_cases h3 : left - a - b < 0
    · have HV : Hid (szN a b left = -1) := by show _ = _; unfold szN; rw [if_neg h2, if_pos h3]
      rw [HV.out]
      go_enter Tryd.func12, Tryd.ntmps12
      go_wp2_with fail
      go_ret
      exact ⟨rfl, HBw.out⟩
    · have HV : Hid (szN a b left = left - a - b) := by show _ = _; unfold szN; rw [if_neg h2, if_neg h3]
      rw [HV.out]
      go_enter Tryd.func12, Tryd.ntmps12
      go_wp2_with fail
      go_ret
      exact ⟨rfl, HBw.out⟩

set_option maxRecDepth 20000 in
set_option maxHeartbeats 1000000 in
theorem toNum_any (neg : Bool) (up down : ByteArray) (w : World) :
    Calls Tryd.prog 14 #[.agg #[.bool neg, .string up, .string down]] w fun e w' => e = .returned (.agg #[.bool neg, .string up, .string down]) ∧ Below w.heap.size w w' := by
  go_enter Tryd.func14, Tryd.ntmps14
  go_wp2_with fail
  refine bodyPost_ret (v := .agg #[.bool neg, .string up, .string down]) ?_ rfl ⟨rfl, ?_⟩
  · simp [results, Tryd.results14, go_sem]
  · exact (((Below.refl _ _).alloc (Nat.le_refl _) _).alloc (by simp) _).alloc (by simp <;> omega) _

/-- What is a number. -/
def NumP (neg : Bool) (up down : ByteArray) : Prop := ∃ u d, up = dec u ∧ down = dec d ∧ up.size ≤ 60 ∧ down.size ≤ 60 ∧ OkUD neg u d

set_option maxRecDepth 20000 in
set_option maxHeartbeats 2000000 in
theorem implNumOk_any (neg : Bool) (up down : ByteArray) (w : World) (hu : up.size ≤ maxLen) (hd : down.size ≤ maxLen) (hP : Pow9 w) (b : Bool) (hb : b = true ↔ NumP neg up down) :
    Calls Tryd.prog 15 #[.agg #[.bool neg, .string up, .string down]] w fun e w' => e = .returned (.bool b) ∧ Below w.heap.size w w' := by
  have HBw : Hid (Below (w.heap.size + 1) (w.alloc (.cells #[.bool neg, .string up, .string down] 26)) (w.alloc (.cells #[.bool neg, .string up, .string down] 26))) := Below.refl _ _
  obtain ⟨n0, n1, n2⟩ := res3 HBw.out
  by_cases ht : (DecP up ∧ up.size ≤ 60) ∧ (DecP down ∧ down.size ≤ 60)
  · obtain ⟨⟨du, su⟩, ⟨dd, sd⟩⟩ := ht
    obtain ⟨u, rfl⟩ := (decP_iff up).1 du
    obtain ⟨d, rfl⟩ := (decP_iff down).1 dd
    have su' := su
    have sd' := sd
    rw [dec_size] at su' sd'
    have hOK : OkUD neg u d ↔ NumP neg (dec u) (dec d) := ⟨fun h => ⟨u, d, rfl, rfl, su, sd, h⟩, fun ⟨u', d', e1, e2, _, _, h⟩ => by rw [dec_inj e1, dec_inj e2]; exact h⟩
    have HO := hid (fun w (h : Pow9 w) => openNum_dec neg u d w su' sd' h)
    have HP := hid hP
    have HOK := hid hOK
    have HBb := hid hb
    clear hOK hb du dd su sd su' sd' hP
    generalize dec u = up at *
    generalize dec d = down at *
    go_enter Tryd.func15, Tryd.ntmps15
    go_wp2_with fail
    refine (HO.out _ (HP.out.alloc _)).mono ?_
    rintro e w1 ⟨F, bb, rfl, hw, hcase⟩
    have HW := hid (((Below.refl w.heap.size w).alloc (Nat.le_refl _) _).trans (hw.mono (by simp)))
    have hs1 : w.heap.size ≤ w1.heap.size := HW.out.size
    rcases hcase with ⟨rfl, hok, vu, vd, rfl, hvu, hvd⟩ | ⟨rfl, hno, rfl⟩
    · have HV : Hid (true = b) := (HBb.out.2 (HOK.out.1 hok)).symm
      obtain ⟨ua, uc, rfl⟩ := natA_form hvu
      obtain ⟨da, dc, rfl⟩ := natA_form hvd
      clear hvu hvd hw hok
      go_wp2_with fail
      go_ret
      exact ⟨ret_boolz HV.out, HW.out.alloc hs1 _⟩
    · have HV : Hid (false = b) := by
        show _ = _
        cases hbb : b with
        | false => rfl
        | true => exact absurd (HOK.out.2 (HBb.out.1 hbb)) hno
      clear hw hno
      go_wp2_with fail
      go_ret
      exact ⟨ret_boolz HV.out, HW.out.alloc hs1 _⟩
  · have HV : Hid (false = b) := by
      show _ = _
      cases hbb : b with
      | false => rfl
      | true =>
        obtain ⟨u, d, e1, e2, h1, h2, -⟩ := hb.1 hbb
        exact absurd ⟨⟨(decP_iff up).2 ⟨u, e1⟩, h1⟩, ⟨(decP_iff down).2 ⟨d, e2⟩, h2⟩⟩ ht
    have HO := hid (fun w => openNum_text neg up down w hu hd ht)
    clear ht hb
    go_enter Tryd.func15, Tryd.ntmps15
    go_wp2_with fail
    refine (HO.out _).mono ?_
    rintro e w1 ⟨rfl, hw⟩
    have HW := hid (((Below.refl w.heap.size w).alloc (Nat.le_refl _) _).trans (hw.mono (by simp)))
    have hs1 : w.heap.size ≤ w1.heap.size := HW.out.size
    clear hw
    go_wp2_with fail
    go_ret
    exact ⟨ret_boolz HV.out, HW.out.alloc hs1 _⟩
theorem nought_text (v : Nat) : ((dec v).toList == [48]) = decide (v = 0) := by
  rw [Bool.eq_iff_iff, decide_eq_true_eq, beq_iff_eq, Go.ByteArray.toList_eq]
  have hz : dec 0 = ⟨#[48]⟩ := by rw [dec_small (by decide)]; rfl
  constructor
  · intro e
    have h2 : dec v = dec 0 := by rw [hz]; exact ba_ext e
    exact dec_inj h2
  · rintro rfl; rw [hz]
theorem one_text (v : Nat) : ((dec v).toList == [49]) = decide (v = 1) := by
  rw [Bool.eq_iff_iff, decide_eq_true_eq, beq_iff_eq, Go.ByteArray.toList_eq]
  have hz : dec 1 = ⟨#[49]⟩ := dec_one
  constructor
  · intro e
    have h2 : dec v = dec 1 := by rw [hz]; exact ba_ext e
    exact dec_inj h2
  · rintro rfl; rw [hz]

set_option maxRecDepth 20000 in
set_option maxHeartbeats 4000000 in
theorem specNumOk_any (neg : Bool) (up down : ByteArray) (w : World) (hu : up.size ≤ maxLen) (hd : down.size ≤ maxLen) (b : Bool) (hb : b = true ↔ NumP neg up down) :
    Calls Tryd.prog 13 #[.agg #[.bool neg, .string up, .string down]] w fun e w' => e = .returned (.bool b) ∧ Below w.heap.size w w' := by
  have HBw : Hid (Below (w.heap.size + 1) (w.alloc (.cells #[.bool neg, .string up, .string down] 26)) (w.alloc (.cells #[.bool neg, .string up, .string down] 26))) := Below.refl _ _
  have HBd : Hid (Below w.heap.size w (w.alloc (.cells #[.bool neg, .string up, .string down] 26))) := (Below.refl _ _).alloc (Nat.le_refl _) _
  obtain ⟨n0, n1, n2⟩ := res3 HBw.out
  have HBb := hid hb
  have HUl := hid hu
  have HDl := hid hd
  unfold maxLen at hu hd
  clear hb
  by_cases h1 : 60 < up.size
  · have HV : Hid (false = b) := by
      show _ = _
      cases hbb : b with
      | false => rfl
      | true =>
        obtain ⟨u', d', e1, e2, s1, s2, ok⟩ := HBb.out.1 hbb
        omega
    go_enter Tryd.func13, Tryd.ntmps13
    go_wp2_with fail
    go_ret
    exact ⟨ret_boolz HV.out, HBd.out⟩
  by_cases h2 : 60 < down.size
  · have HV : Hid (false = b) := by
      show _ = _
      cases hbb : b with
      | false => rfl
      | true =>
        obtain ⟨u', d', e1, e2, s1, s2, ok⟩ := HBb.out.1 hbb
        omega
    go_enter Tryd.func13, Tryd.ntmps13
    go_wp2_with fail
    go_ret
    exact ⟨ret_boolz HV.out, HBd.out⟩
  by_cases h3 : DecP up
  rotate_left
  · have HV : Hid (false = b) := by
      show _ = _
      cases hbb : b with
      | false => rfl
      | true =>
        obtain ⟨u', d', e1, e2, s1, s2, ok⟩ := HBb.out.1 hbb
        exact absurd ((decP_iff up).2 ⟨u', e1⟩) h3
    have HU := hid (fun w => l11DigitsOk_any up w HUl.out false ⟨fun h => (by cases h), fun h => absurd h h3⟩)
    clear h3
    go_enter Tryd.func13, Tryd.ntmps13
    go_wp2_with fail
    refine (HU.out _).mono ?_
    rintro e w' ⟨rfl, hw⟩
    subst hw
    go_wp2_with fail
    go_ret
    exact ⟨ret_boolz HV.out, HBd.out⟩
  have HU := hid (fun w => l11DigitsOk_any up w HUl.out true ⟨fun _ => h3, fun _ => rfl⟩)
  by_cases h4 : DecP down
  rotate_left
  · have HV : Hid (false = b) := by
      show _ = _
      cases hbb : b with
      | false => rfl
      | true =>
        obtain ⟨u', d', e1, e2, s1, s2, ok⟩ := HBb.out.1 hbb
        exact absurd ((decP_iff down).2 ⟨d', e2⟩) h4
    have HD := hid (fun w => l11DigitsOk_any down w HDl.out false ⟨fun h => (by cases h), fun h => absurd h h4⟩)
    clear h3 h4
    go_enter Tryd.func13, Tryd.ntmps13
    go_wp2_with fail
    refine (HU.out _).mono ?_
    rintro e w' ⟨rfl, hw⟩
    subst hw
    go_wp2_with fail
    refine (HD.out _).mono ?_
    rintro e w' ⟨rfl, hw⟩
    subst hw
    go_wp2_with fail
    go_ret
    exact ⟨ret_boolz HV.out, HBd.out⟩
  have HD := hid (fun w => l11DigitsOk_any down w HDl.out true ⟨fun _ => h4, fun _ => rfl⟩)
  obtain ⟨u, rfl⟩ := (decP_iff up).1 h3
  obtain ⟨d, rfl⟩ := (decP_iff down).1 h4
  have HSu : Hid ((dec u).size ≤ 60) := by show _ ≤ _; omega
  have HSd : Hid ((dec d).size ≤ 60) := by show _ ≤ _; omega
  have hzd := nought_text d
  have hzu := nought_text u
  have HGc := hid (fun w => l11Gcd_any u d w (by have := HSu.out; rw [dec_size] at this; omega) (by have := HSd.out; rw [dec_size] at this; omega))
  have hno : ¬ OkUD neg u d → Hid (false = b) := fun h => by
    show _ = _
    cases hbb : b with
    | false => rfl
    | true =>
      obtain ⟨u', d', e1, e2, s1, s2, ok⟩ := HBb.out.1 hbb
      rw [← dec_inj e1, ← dec_inj e2] at ok
      exact absurd ok h
  have HNo := hid hno
  clear hno h3 h4
  by_cases hd0 : d = 0
  · rw [decide_eq_true hd0] at hzd
    have HV := HNo.out (fun h => h.1 hd0)
    clear hd0 hzu HNo
    generalize dec u = up at *
    generalize dec d = down at *
    go_enter Tryd.func13, Tryd.ntmps13
    go_wp2_with fail
    refine (HU.out _).mono ?_
    rintro e w' ⟨rfl, hw⟩
    subst hw
    go_wp2_with fail
    refine (HD.out _).mono ?_
    rintro e w' ⟨rfl, hw⟩
    subst hw
    go_wp2_with fail
    go_ret
    exact ⟨ret_boolz HV.out, HBd.out⟩
  · rw [decide_eq_false hd0] at hzd
    by_cases hnu : neg = true ∧ u = 0
    · rw [decide_eq_true hnu.2] at hzu
      have HV := HNo.out (fun h => h.2.1 hnu)
      obtain ⟨rfl, -⟩ := hnu
      clear hd0 HNo
      generalize dec u = up at *
      generalize dec d = down at *
      go_enter Tryd.func13, Tryd.ntmps13
      go_wp2_with fail
      refine (HU.out _).mono ?_
      rintro e w' ⟨rfl, hw⟩
      subst hw
      go_wp2_with fail
      refine (HD.out _).mono ?_
      rintro e w' ⟨rfl, hw⟩
      subst hw
      go_wp2_with fail
      go_ret
      exact ⟨ret_boolz HV.out, HBd.out⟩
    · obtain ⟨G, HG⟩ : ∃ G : Nat, Hid (Nat.gcd u d = G) := ⟨_, rfl⟩
      have HV : Hid (decide (G = 1) = b) := by
        show _ = _
        by_cases h1 : G = 1
        · rw [decide_eq_true h1]
          exact (HBb.out.2 ⟨u, d, rfl, rfl, HSu.out, HSd.out, hd0, hnu, by rw [HG.out, h1]⟩).symm
        · rw [decide_eq_false h1]
          exact HNo.out (fun h => h1 (by rw [← HG.out]; exact h.2.2))
      have hzg := one_text G
      rw [HG.out] at HGc
      clear HNo hd0
      cases neg with
      | false =>
        clear hnu hzu
        generalize dec u = up at *
        generalize dec d = down at *
        generalize dec G = gt at *
        go_enter Tryd.func13, Tryd.ntmps13
        go_wp2_with fail
        refine (HU.out _).mono ?_
        rintro e w' ⟨rfl, hw⟩
        subst hw
        go_wp2_with fail
        refine (HD.out _).mono ?_
        rintro e w' ⟨rfl, hw⟩
        subst hw
        go_wp2_with fail
        refine (HGc.out _).mono ?_
        rintro e w2 ⟨rfl, hw2⟩
        have HW2 := hid (HBd.out.trans (hw2.mono (by simp)))
        clear hw2
        go_wp2_with fail
        go_ret
        exact ⟨ret_boolz HV.out, HW2.out⟩
      | true =>
        have hu0 : ¬ u = 0 := fun h => hnu ⟨rfl, h⟩
        rw [decide_eq_false hu0] at hzu
        clear hnu hu0
        generalize dec u = up at *
        generalize dec d = down at *
        generalize dec G = gt at *
        go_enter Tryd.func13, Tryd.ntmps13
        go_wp2_with fail
        refine (HU.out _).mono ?_
        rintro e w' ⟨rfl, hw⟩
        subst hw
        go_wp2_with fail
        refine (HD.out _).mono ?_
        rintro e w' ⟨rfl, hw⟩
        subst hw
        go_wp2_with fail
        refine (HGc.out _).mono ?_
        rintro e w2 ⟨rfl, hw2⟩
        have HW2 := hid (HBd.out.trans (hw2.mono (by simp)))
        clear hw2
        go_wp2_with fail
        go_ret
        exact ⟨ret_boolz HV.out, HW2.out⟩

set_option maxRecDepth 20000 in
set_option maxHeartbeats 4000000 in
theorem lawNumOk_any (neg : Bool) (up down : ByteArray) (w : World) (hu : up.size ≤ maxLen) (hd : down.size ≤ maxLen) (hP : Pow9 w) :
    Calls Tryd.prog 3 #[.agg #[.bool neg, .string up, .string down]] w fun e w' => e = .returned (.bool true) ∧ Below w.heap.size w w' := by
  obtain ⟨b, hb⟩ : ∃ b : Bool, b = true ↔ NumP neg up down := by
    by_cases h : NumP neg up down
    · exact ⟨true, fun _ => h, fun _ => rfl⟩
    · exact ⟨false, fun e => (by cases e), fun e => absurd e h⟩
  have HS := hid (fun w => szNum_any neg up down 1048576 w (by decide) (by decide) hu hd)
  have HT := hid (fun w => toNum_any neg up down w)
  have HSp := hid (fun w => specNumOk_any neg up down w hu hd b hb)
  have HI := hid (fun w (h : Pow9 w) => implNumOk_any neg up down w hu hd h b hb)
  have HP := hid hP
  clear hu hd hP hb
  obtain ⟨sz, HSz⟩ : ∃ sz : Int, Hid (szN up.size down.size 1048576 = sz) := ⟨_, rfl⟩
  rw [HSz.out] at HS
  go_enter Tryd.func3, Tryd.ntmps3
  go_wp2_with fail
  refine (HS.out _).mono ?_
  rintro e w1 ⟨rfl, hw1⟩
  rw [World.size_alloc] at hw1
  have HW1 := hid hw1
  obtain ⟨r0, r1, r2⟩ := res3 hw1
  clear hw1
  by_cases hneg : sz < 0
  · go_wp2_with fail
    go_ret
    exact ⟨rfl, res_done HW1.out⟩
  · go_wp2_with fail
    refine (HT.out _).mono ?_
    rintro e w2 ⟨rfl, hw2⟩
    have HW2 := hid (res_step HW1.out hw2)
    clear hw2
    go_wp2_with fail
    refine (HSp.out _).mono ?_
    rintro e w3 ⟨rfl, hw3⟩
    have HW3 := hid (res_step HW2.out hw3)
    clear hw3 r0 r1 r2
    obtain ⟨r0, r1, r2⟩ := res3 HW3.out
    go_wp2_with fail
    refine (HT.out _).mono ?_
    rintro e w4 ⟨rfl, hw4⟩
    have HW4 := hid (res_step HW3.out hw4)
    clear hw4
    go_wp2_with fail
    refine (HI.out _ (HP.out.below (res_done HW4.out) (Nat.le_refl _))).mono ?_
    rintro e w5 ⟨rfl, hw5⟩
    have HW5 := hid (res_step HW4.out hw5)
    clear hw5
    have hbb : (b != b) = false := by simp
    go_wp2_with fail
    go_ret
    exact ⟨rfl, res_done HW5.out⟩
end Go.Proofs.YtakicnplmcemnaaDoor

namespace Go.Proofs.YtakicnplmcemnaaDoor
open Go.RowKit Go.Siskin

theorem endK_upto (R n : Nat) : ∀ m, (∀ j, 1 ≤ j → j < m → n / R ^ j ≠ 0) ∨ ∃ K, EndK R n K
  | 0 => Or.inl fun j h1 h2 => by omega
  | m + 1 => by
    rcases endK_upto R n m with h | h
    · by_cases hm : 1 ≤ m ∧ n / R ^ m = 0
      · exact Or.inr ⟨m, hm.1, hm.2, h⟩
      · refine Or.inl fun j h1 h2 => ?_
        by_cases e : j = m
        · subst e; exact fun hz => hm ⟨h1, hz⟩
        · exact h j h1 (by omega)
    · exact Or.inr h
theorem endK_some {R n : Nat} (hR : 2 ≤ R) (hn : Lib.nDigits n ≤ 100) : ∃ K, EndK R n K ∧ K ≤ 401 := by
  have hK : ∃ K, EndK R n K := by
    rcases endK_upto R n 402 with h | h
    · have := few_digits hR hn (h 401 (by omega) (by omega)); omega
    · exact h
  obtain ⟨K, h⟩ := hK
  refine ⟨K, h, ?_⟩
  rcases Nat.lt_or_ge 401 K with h1 | h1
  · have := few_digits hR hn (h.2.2 (K - 1) (by omega) (by omega)); omega
  · exact h1
theorem l12Out_at (n R K : Nat) (w : World) (hR : RadP R) (hn : Lib.nDigits n ≤ 100) (hK : EndK R n K) :
    Calls Tryd.prog 52 #[.string (dec n), .int .i64 R] w fun e w' => e = .returned (.string (outT R n K)) ∧ Below w.heap.size w w' := by
  refine (l12Out_any n R w hR hn).mono ?_
  rintro e w' ⟨K', rfl, h, hb⟩
  exact ⟨by rw [endK_one h hK], hb⟩

/-- What is printed of a number. -/
def printT (neg : Bool) (U D : ByteArray) (whole : Bool) : ByteArray :=
  let a := if neg = true then (⟨#[45]⟩ : ByteArray) ++ U else U
  if whole = true then a else a ++ ⟨#[47]⟩ ++ D

set_option maxRecDepth 20000 in
set_option maxHeartbeats 4000000 in
theorem specNumPrint_no (neg : Bool) (up down : ByteArray) (r : Int) (w : World) (hu : up.size ≤ maxLen) (hd : down.size ≤ maxLen) (hno : ¬ NumP neg up down ∨ radB r = false) :
    Calls Tryd.prog 21 #[.agg #[.bool neg, .string up, .string down], .int .i64 r] w fun e w' => e = .returned (.string ⟨#[]⟩) ∧ Below w.heap.size w w' := by
  have HBw : Hid (Below (w.heap.size + 1) (w.alloc (.cells #[.bool neg, .string up, .string down] 26)) (w.alloc (.cells #[.bool neg, .string up, .string down] 26))) := Below.refl _ _
  obtain ⟨n0, n1, n2⟩ := res3 HBw.out
  have HRx := hid (fun w => l12Radix_any r w)
  by_cases hp : NumP neg up down
  · have HN := hid (fun w => specNumOk_any neg up down w hu hd true ⟨fun _ => hp, fun _ => rfl⟩)
    have hr : radB r = false := by
      rcases hno with h | h
      · exact absurd hp h
      · exact h
    rw [hr] at HRx
    clear hno hr hp
    go_enter Tryd.func21, Tryd.ntmps21
    go_wp2_with fail
    refine (HN.out _).mono ?_
    rintro e w1 ⟨rfl, hw1⟩
    have HW1 := hid (res_step HBw.out hw1)
    clear hw1
    go_wp2_with fail
    refine (HRx.out _).mono ?_
    rintro e w' ⟨rfl, hw⟩
    obtain rfl := hw.symm
    go_wp2_with fail
    go_ret
    exact ⟨rfl, res_done HW1.out⟩
  · have HN := hid (fun w => specNumOk_any neg up down w hu hd false ⟨fun h => (by cases h), fun h => absurd h hp⟩)
    clear hno hp
    go_enter Tryd.func21, Tryd.ntmps21
    go_wp2_with fail
    refine (HN.out _).mono ?_
    rintro e w1 ⟨rfl, hw1⟩
    have HW1 := hid (res_step HBw.out hw1)
    clear hw1
    go_wp2_with fail
    go_ret
    exact ⟨rfl, res_done HW1.out⟩

set_option maxRecDepth 20000 in
set_option maxHeartbeats 4000000 in
theorem specNumPrint_yes (neg : Bool) (u d R Ku Kd : Nat) (w : World) (hu : (dec u).size ≤ 60) (hd : (dec d).size ≤ 60) (hok : OkUD neg u d) (hR : RadP R) (hKu : EndK R u Ku) (hKd : EndK R d Kd) (hku : Ku ≤ 401) (hkd : Kd ≤ 401) :
    Calls Tryd.prog 21 #[.agg #[.bool neg, .string (dec u), .string (dec d)], .int .i64 R] w fun e w' => e = .returned (.string (printT neg (outT R u Ku) (outT R d Kd) (d == 1))) ∧ Below w.heap.size w w' := by
  have HN := hid (fun w => specNumOk_any neg (dec u) (dec d) w (by unfold maxLen; omega) (by unfold maxLen; omega) true ⟨fun _ => ⟨u, d, rfl, rfl, hu, hd, hok⟩, fun _ => rfl⟩)
  have HRx := hid (fun w => l12Radix_any (R : Int) w)
  have hrb : radB (R : Int) = true := (radB_iff _).2 ⟨R, rfl, hR⟩
  rw [hrb] at HRx
  have hnu : Lib.nDigits u ≤ 100 := by rw [dec_size] at hu; omega
  have hnd : Lib.nDigits d ≤ 100 := by rw [dec_size] at hd; omega
  have HOu := hid (fun w => l12Out_at u R Ku w hR hnu hKu)
  have HOd := hid (fun w => l12Out_at d R Kd w hR hnd hKd)
  have hsu : (outT R u Ku).size ≤ 401 := by rw [outT_size]; exact hku
  have hsd : (outT R d Kd).size ≤ 401 := by rw [outT_size]; exact hkd
  have hot := one_text d
  obtain ⟨U, HU⟩ : ∃ U, Hid (outT R u Ku = U) := ⟨_, rfl⟩
  obtain ⟨D, HD⟩ : ∃ D, Hid (outT R d Kd = D) := ⟨_, rfl⟩
  rw [HU.out] at HOu hsu ⊢
  rw [HD.out] at HOd hsd ⊢
  clear hu hd hok hR hKu hKd hku hkd hrb hnu hnd
  have hq : (d == 1) = decide (d = 1) := by rw [Bool.eq_iff_iff]; simp
  rw [hq]
  generalize dec u = up at *
  generalize dec d = down at *
  have HBw : Hid (Below (w.heap.size + 1) (w.alloc (.cells #[.bool neg, .string up, .string down] 26)) (w.alloc (.cells #[.bool neg, .string up, .string down] 26))) := Below.refl _ _
  obtain ⟨n0, n1, n2⟩ := res3 HBw.out
  cases hone : decide (d = 1) <;> rw [hone] at hot <;> clear hq hone <;> cases neg
  all_goals
    go_enter Tryd.func21, Tryd.ntmps21
    go_wp2_with fail
    refine (HN.out _).mono ?_
    rintro e w1 ⟨rfl, hw1⟩
    have HW1 := hid (res_step HBw.out hw1)
    obtain ⟨r0, r1, r2⟩ := res3 HW1.out
    clear hw1
    go_wp2_with fail
    refine (HRx.out _).mono ?_
    rintro e w' ⟨rfl, hw⟩
    obtain rfl := hw.symm
    go_wp2_with fail
    refine (HOu.out _).mono ?_
    rintro e w2 ⟨rfl, hw2⟩
    have HW2 := hid (res_step HW1.out hw2)
    clear hw2 r0 r1 r2
    obtain ⟨r0, r1, r2⟩ := res3 HW2.out
    go_wp2_with fail
  all_goals first
    | (go_ret
       exact ⟨ret_strz rfl, res_done HW2.out⟩)
    | (refine (HOd.out _).mono ?_
       rintro e w3 ⟨rfl, hw3⟩
       have HW3 := hid (res_step HW2.out hw3)
       clear hw3
       go_wp2_with fail
       go_ret
       exact ⟨ret_strz rfl, res_done HW3.out⟩)
end Go.Proofs.YtakicnplmcemnaaDoor

namespace Go.Proofs.YtakicnplmcemnaaDoor
open Go.RowKit Go.Siskin

set_option maxRecDepth 20000 in
set_option maxHeartbeats 1000000 in
theorem isWhole_any (d : Nat) (neg : Bool) (vu vd : Value) (w : World) (h : NatA w vd (grp d)) :
    Calls Tryd.prog 56 #[.agg #[.bool neg, vu, vd]] w fun e w' => e = .returned (.bool (d == 1)) ∧ Below w.heap.size w w' := by
  have HB : Hid (Below w.heap.size w (w.alloc (.cells #[.bool neg, vu, vd] 46))) := (Below.refl _ _).alloc (Nat.le_refl _) _
  have HO := hid (isOne_any d vd _ (NatA.below h HB.out (Nat.le_refl _)))
  obtain ⟨⟨n0, n1, n2⟩, -⟩ := own3V (own_new w #[.bool neg, vu, vd] 46)
  clear h
  go_enter Tryd.func56, Tryd.ntmps56
  go_wp2_with fail
  refine HO.out.mono ?_
  rintro e w' ⟨rfl, hw⟩
  obtain rfl := hw.symm
  go_wp2_with fail
  go_ret
  exact ⟨rfl, HB.out⟩

theorem digitsOf_at (R n K : Nat) (v : Value) (w : World) (hR : RadP R) (h : NatA w v (grp n)) (hn : Lib.nDigits n ≤ 100) (hK : EndK R n K) :
    Calls Tryd.prog 55 #[.int .i64 R, v] w fun e w' => e = .returned (.string (outT R n K)) ∧ Below w.heap.size w w' := by
  refine (digitsOf_any R n v w hR h hn).mono ?_
  rintro e w' ⟨K', rfl, h, hb⟩
  exact ⟨by rw [endK_one h hK], hb⟩

set_option maxRecDepth 20000 in
set_option maxHeartbeats 4000000 in
theorem implNumPrint_no (neg : Bool) (up down : ByteArray) (r : Int) (w : World) (hu : up.size ≤ maxLen) (hd : down.size ≤ maxLen) (hP : Pow9 w) (hno : ¬ NumP neg up down ∨ radB r = false) :
    Calls Tryd.prog 22 #[.agg #[.bool neg, .string up, .string down], .int .i64 r] w fun e w' => e = .returned (.string ⟨#[]⟩) ∧ Below w.heap.size w w' := by
  have HBw : Hid (Below (w.heap.size + 1) (w.alloc (.cells #[.bool neg, .string up, .string down] 26)) (w.alloc (.cells #[.bool neg, .string up, .string down] 26))) := Below.refl _ _
  obtain ⟨n0, n1, n2⟩ := res3 HBw.out
  have HRx := hid (fun w => isOk_any r w)
  by_cases ht : (DecP up ∧ up.size ≤ 60) ∧ (DecP down ∧ down.size ≤ 60)
  · obtain ⟨⟨du, su⟩, ⟨dd, sd⟩⟩ := ht
    obtain ⟨u, rfl⟩ := (decP_iff up).1 du
    obtain ⟨d, rfl⟩ := (decP_iff down).1 dd
    have su' := su
    have sd' := sd
    rw [dec_size] at su' sd'
    have HO := hid (fun w (h : Pow9 w) => openNum_dec neg u d w su' sd' h)
    have HP := hid hP
    have HNO : Hid (OkUD neg u d → radB r = false) := fun h => by
      rcases hno with h1 | h1
      · exact absurd ⟨u, d, rfl, rfl, su, sd, h⟩ h1
      · exact h1
    clear hno du dd su sd su' sd' hP
    generalize dec u = up at *
    generalize dec d = down at *
    go_enter Tryd.func22, Tryd.ntmps22
    go_wp2_with fail
    refine (HO.out _ (HP.out.alloc _)).mono ?_
    rintro e w1 ⟨F, bb, rfl, hw, hcase⟩
    have HW := hid (((Below.refl w.heap.size w).alloc (Nat.le_refl _) _).trans (hw.mono (by simp)))
    have hs1 : w.heap.size ≤ w1.heap.size := HW.out.size
    rcases hcase with ⟨rfl, hok, vu, vd, rfl, hvu, hvd⟩ | ⟨rfl, hno, rfl⟩
    · have hrb := HNO.out hok
      rw [hrb] at HRx
      obtain ⟨ua, uc, rfl⟩ := natA_form hvu
      obtain ⟨da, dc, rfl⟩ := natA_form hvd
      clear hvu hvd hw hok hrb
      go_wp2_with fail
      refine (HRx.out _).mono ?_
      rintro e w' ⟨rfl, hw⟩
      obtain rfl := hw.symm
      go_wp2_with fail
      go_ret
      refine ⟨rfl, ?_⟩
      repeat (first | exact HW.out | exact HW.out.alloc hs1 _ | refine Below.setCell ?_ ?_ _)
    · clear hw hno
      go_wp2_with fail
      go_ret
      refine ⟨rfl, ?_⟩
      repeat (first | exact HW.out | exact HW.out.alloc hs1 _ | refine Below.setCell ?_ ?_ _)
  · have HO := hid (fun w => openNum_text neg up down w hu hd ht)
    clear ht hno
    go_enter Tryd.func22, Tryd.ntmps22
    go_wp2_with fail
    refine (HO.out _).mono ?_
    rintro e w1 ⟨rfl, hw⟩
    have HW := hid (((Below.refl w.heap.size w).alloc (Nat.le_refl _) _).trans (hw.mono (by simp)))
    have hs1 : w.heap.size ≤ w1.heap.size := HW.out.size
    clear hw
    go_wp2_with fail
    go_ret
    refine ⟨rfl, ?_⟩
    repeat (first | exact HW.out | exact HW.out.alloc hs1 _ | refine Below.setCell ?_ ?_ _)
end Go.Proofs.YtakicnplmcemnaaDoor

namespace Go.Proofs.YtakicnplmcemnaaDoor
open Go.RowKit Go.Siskin

theorem writeMinus (B b : Nat) (l : List UInt8) (w : World) (h : isZ B b l w) (hlen : l.length + 1 ≤ 140737488355328) (hBw : B ≤ w.heap.size) :
    Calls Tryd.prog 53 #[.pointer (some ⟨b, 0, none⟩), .int .u8 45] w fun e w' => e = .returned .nilIface ∧ isZ B b (l ++ [45]) w' ∧ Below B w w' := writeByteZ B b l 45 w h hlen hBw
theorem writeSlash (B b : Nat) (l : List UInt8) (w : World) (h : isZ B b l w) (hlen : l.length + 1 ≤ 140737488355328) (hBw : B ≤ w.heap.size) :
    Calls Tryd.prog 53 #[.pointer (some ⟨b, 0, none⟩), .int .u8 47] w fun e w' => e = .returned .nilIface ∧ isZ B b (l ++ [47]) w' ∧ Below B w w' := writeByteZ B b l 47 w h hlen hBw
/-- What the builder holds at the end is what is printed. -/
theorem printT_list (neg : Bool) (U D : ByteArray) (wh : Bool) : (⟨((if neg = true then ([] ++ [45]) else ([] : List UInt8)) ++ U.data.toList ++ (if wh = true then [] else [47] ++ D.data.toList)).toArray⟩ : ByteArray) = printT neg U D wh := by
  apply ba_ext
  cases neg <;> cases wh <;> simp [printT]

set_option maxRecDepth 20000 in
set_option maxHeartbeats 4000000 in
theorem implNumPrint_yes (neg : Bool) (u d R Ku Kd : Nat) (w : World) (hu : (dec u).size ≤ 60) (hd : (dec d).size ≤ 60) (hok : OkUD neg u d) (hR : RadP R) (hKu : EndK R u Ku) (hKd : EndK R d Kd) (hku : Ku ≤ 401) (hkd : Kd ≤ 401) (hP : Pow9 w) :
    Calls Tryd.prog 22 #[.agg #[.bool neg, .string (dec u), .string (dec d)], .int .i64 R] w fun e w' => e = .returned (.string (printT neg (outT R u Ku) (outT R d Kd) (d == 1))) ∧ Below w.heap.size w w' := by
  have hnu : Lib.nDigits u ≤ 60 := by rw [dec_size] at hu; omega
  have hnd : Lib.nDigits d ≤ 60 := by rw [dec_size] at hd; omega
  have HO := hid (fun w (h : Pow9 w) => openNum_dec neg u d w hnu hnd h)
  have HOK := hid hok
  have HP := hid hP
  have HRx := hid (fun w => isOk_any (R : Int) w)
  have hrb : radB (R : Int) = true := (radB_iff _).2 ⟨R, rfl, hR⟩
  rw [hrb] at HRx
  have HOu := hid (fun v w (h : NatA w v (grp u)) => digitsOf_at R u Ku v w hR h (by omega) hKu)
  have HOd := hid (fun v w (h : NatA w v (grp d)) => digitsOf_at R d Kd v w hR h (by omega) hKd)
  have HWh := hid (fun neg vu vd w (h : NatA w vd (grp d)) => isWhole_any d neg vu vd w h)
  have hsu : (outT R u Ku).size ≤ 401 := by rw [outT_size]; exact hku
  have hsd : (outT R d Kd).size ≤ 401 := by rw [outT_size]; exact hkd
  obtain ⟨U, HU⟩ : ∃ U, Hid (outT R u Ku = U) := ⟨_, rfl⟩
  obtain ⟨D, HD⟩ : ∃ D, Hid (outT R d Kd = D) := ⟨_, rfl⟩
  rw [HU.out] at HOu hsu ⊢
  rw [HD.out] at HOd hsd ⊢
  have HSU := hid hsu
  have HSD := hid hsd
  clear hu hd hok hR hKu hKd hku hkd hrb hnu hnd hP hsu hsd
  generalize dec u = up at *
  generalize dec d = down at *
  obtain ⟨gu, HGu⟩ : ∃ g, Hid (grp u = g) := ⟨_, rfl⟩
  obtain ⟨gd, HGd⟩ : ∃ g, Hid (grp d = g) := ⟨_, rfl⟩
  rw [HGu.out] at HO HOu
  rw [HGd.out] at HO HOd HWh
  obtain ⟨wh, HWw⟩ : ∃ b, Hid ((d == 1) = b) := ⟨_, rfl⟩
  rw [HWw.out] at HWh ⊢
  have HBw : Hid (Below (w.heap.size + 1) (w.alloc (.cells #[.bool neg, .string up, .string down] 26)) (w.alloc (.cells #[.bool neg, .string up, .string down] 26))) := Below.refl _ _
  obtain ⟨n0, n1, n2⟩ := res3 HBw.out
  go_enter Tryd.func22, Tryd.ntmps22
  go_wp2_with fail
  refine (HO.out _ (HP.out.alloc _)).mono ?_
  rintro e w1 ⟨F, bb, rfl, hw, hcase⟩
  have HW := hid (((Below.refl w.heap.size w).alloc (Nat.le_refl _) _).trans (hw.mono (by simp)))
  have hs1 : w.heap.size ≤ w1.heap.size := HW.out.size
  rcases hcase with ⟨rfl, hok, vu, vd, rfl, hvu, hvd⟩ | ⟨rfl, hno, rfl⟩
  rotate_left
  · exact absurd HOK.out hno
  have HVu := hid hvu
  have HVd := hid hvd
  obtain ⟨ua, uc, rfl⟩ := natA_form hvu
  obtain ⟨da, dc, rfl⟩ := natA_form hvd
  clear hvu hvd hw hok
  go_wp2_with fail
  refine (HRx.out _).mono ?_
  rintro e w' ⟨rfl, hw⟩
  obtain rfl := hw.symm
  have HFx : Hid (∀ W, Below (w1.heap.size + 1) (w1.alloc (.cells #[.bool neg, .slice ua gu.length uc, .slice da gd.length dc] 46)) W → (W.cell? ⟨w1.heap.size, 0, none⟩ = some (.bool neg) ∧ W.cell? ⟨w1.heap.size, 1, none⟩ = some (.slice ua gu.length uc) ∧ W.cell? ⟨w1.heap.size, 2, none⟩ = some (.slice da gd.length dc)) ∧ NatA W (.slice ua gu.length uc) gu ∧ NatA W (.slice da gd.length dc) gd ∧ Below w.heap.size w W) := fun W h => by
    refine ⟨(own3V ((own_new w1 #[.bool neg, .slice ua gu.length uc, .slice da gd.length dc] 46).keep h (by omega))).1, ?_, ?_, ?_⟩
    · exact (HVu.out.alloc _).below h (by simp)
    · exact (HVd.out.alloc _).below h (by simp)
    · exact (HW.out.alloc hs1 _).trans (h.mono (by omega))
  have HB0 : Hid (Below (w1.heap.size + 1) (w1.alloc (.cells #[.bool neg, .slice ua gu.length uc, .slice da gd.length dc] 46)) (w1.alloc (.cells #[.bool neg, .slice ua gu.length uc, .slice da gd.length dc] 46))) := Below.refl _ _
  obtain ⟨⟨c0, c1, c2⟩, -⟩ := HFx.out _ HB0.out
  have HBs : Hid (isZ (w1.heap.size + 1) (w1.heap.size + 1) ([] : List UInt8) ((w1.alloc (.cells #[.bool neg, .slice ua gu.length uc, .slice da gd.length dc] 46)).alloc (.cells #[.pointer none, .slice none 0 0] 69))) := by
    have h := Lib.fresh_isBuilder 69 5 (w1.alloc (.cells #[.bool neg, .slice ua gu.length uc, .slice da gd.length dc] 46))
    rw [World.size_alloc] at h
    exact h
  have hBB : w1.heap.size + 1 ≤ (w1.alloc (.cells #[.bool neg, .slice ua gu.length uc, .slice da gd.length dc] 46)).heap.size := by simp
  have HB1 := hid (HB0.out.alloc hBB (.cells #[.pointer none, .slice none 0 0] 69))
  have HVp := hid (printT_list neg U D wh)
  have hsU : U.data.toList.length ≤ 401 := HSU.out
  have hsU2 := HSU.out
  have hsD2 := HSD.out
  have hsD : D.data.toList.length ≤ 401 := HSD.out
  clear hBB
  cases neg <;> cases wh
  all_goals go_wp2_with fail
  all_goals (first
    | (refine (writeMinus _ _ _ _ HBs.out (by simp) (by simp)).mono ?_
       rintro e w2 ⟨rfl, hq2, hw2⟩
       have HQ2 := hid hq2
       have HB2 := hid (HB1.out.trans hw2)
       clear hq2 hw2
       obtain ⟨⟨d0, d1, d2⟩, -⟩ := HFx.out _ HB2.out
       clear c0 c1 c2
       go_wp2_with fail)
    | (have HQ2 := HBs
       have HB2 := HB1))
  all_goals
    have y2 := HB2.out.size
    rw [World.size_alloc] at y2
    refine (HOu.out _ _ (HFx.out _ HB2.out).2.1).mono ?_
    rintro e w3 ⟨rfl, hw3⟩
    have HB3 := hid (HB2.out.trans (hw3.mono y2))
    have HQ3 := hid (isZ_keep HQ2.out hw3)
    have y3 := Nat.le_trans y2 hw3.size
    clear hw3
    go_wp2_with fail
    refine (writeStrZ _ _ _ U _ HQ3.out (by simp <;> omega) y3).mono ?_
    rintro e w4 ⟨rfl, hq4, hw4⟩
    have HQ4 := hid hq4
    have HB4 := hid (HB3.out.trans hw4)
    have y4 := Nat.le_trans y3 hw4.size
    clear hq4 hw4
    obtain ⟨⟨e0, e1, e2⟩, -⟩ := HFx.out _ HB4.out
    go_wp2_with fail
    refine (HWh.out _ _ _ _ (HFx.out _ HB4.out).2.2.1).mono ?_
    rintro e w5 ⟨rfl, hw5⟩
    have HB5 := hid (HB4.out.trans (hw5.mono y4))
    have HQ5 := hid (isZ_keep HQ4.out hw5)
    have y5 := Nat.le_trans y4 hw5.size
    clear hw5 e0 e1 e2
    obtain ⟨⟨e0, e1, e2⟩, -⟩ := HFx.out _ HB5.out
    go_wp2_with fail
  all_goals (first
    | (refine (writeSlash _ _ _ _ HQ5.out (by simp <;> omega) y5).mono ?_
       rintro e w6 ⟨rfl, hq6, hw6⟩
       have HQ6 := hid hq6
       have HB6 := hid (HB5.out.trans hw6)
       have y6 := Nat.le_trans y5 hw6.size
       clear hq6 hw6 e0 e1 e2
       obtain ⟨⟨e0, e1, e2⟩, -⟩ := HFx.out _ HB6.out
       go_wp2_with fail
       refine (HOd.out _ _ (HFx.out _ HB6.out).2.2.1).mono ?_
       rintro e w7 ⟨rfl, hw7⟩
       have HB7 := hid (HB6.out.trans (hw7.mono y6))
       have HQ7 := hid (isZ_keep HQ6.out hw7)
       have y7 := Nat.le_trans y6 hw7.size
       clear hw7
       go_wp2_with fail
       refine (writeStrZ _ _ _ D _ HQ7.out (by simp <;> omega) y7).mono ?_
       rintro e w8 ⟨rfl, hq8, hw8⟩
       have HQ8 := hid hq8
       have HB8 := hid (HB7.out.trans hw8)
       have y8 := Nat.le_trans y7 hw8.size
       clear hq8 hw8
       go_wp2_with fail
       refine (Tryd.Builder_String_any _ _ _ w8 HQ8.out y8).mono ?_
       rintro e w9 ⟨rfl, hw9⟩
       have HB9 := hid (HB8.out.trans hw9)
       clear hw9
       go_wp2_with fail
       go_ret
       refine ⟨ret_strz ?_, (HFx.out _ HB9.out).2.2.2⟩
       exact Eq.trans (by simp) HVp.out)
    | (refine (Tryd.Builder_String_any _ _ _ w5 HQ5.out y5).mono ?_
       rintro e w9 ⟨rfl, hw9⟩
       have HB9 := hid (HB5.out.trans hw9)
       clear hw9
       go_wp2_with fail
       go_ret
       refine ⟨ret_strz ?_, (HFx.out _ HB9.out).2.2.2⟩
       exact Eq.trans (by simp) HVp.out))
end Go.Proofs.YtakicnplmcemnaaDoor

namespace Go.Proofs.YtakicnplmcemnaaDoor
open Go.RowKit Go.Siskin

theorem numPrint_both (neg : Bool) (up down : ByteArray) (r : Int) (hu : up.size ≤ maxLen) (hd : down.size ≤ maxLen) :
    ∃ T : ByteArray, (∀ w, Calls Tryd.prog 21 #[.agg #[.bool neg, .string up, .string down], .int .i64 r] w fun e w' => e = .returned (.string T) ∧ Below w.heap.size w w') ∧
      (∀ w, Pow9 w → Calls Tryd.prog 22 #[.agg #[.bool neg, .string up, .string down], .int .i64 r] w fun e w' => e = .returned (.string T) ∧ Below w.heap.size w w') := by
  by_cases h : NumP neg up down ∧ radB r = true
  · obtain ⟨⟨u, d, rfl, rfl, su, sd, hok⟩, hr⟩ := h
    obtain ⟨R, rfl, hR⟩ := (radB_iff r).1 hr
    have hR2 := (rad_two hR).1
    have su' := su
    have sd' := sd
    rw [dec_size] at su' sd'
    obtain ⟨Ku, hKu, hku⟩ := endK_some (R := R) (n := u) hR2 (by omega)
    obtain ⟨Kd, hKd, hkd⟩ := endK_some (R := R) (n := d) hR2 (by omega)
    exact ⟨_, fun w => specNumPrint_yes neg u d R Ku Kd w su sd hok hR hKu hKd hku hkd, fun w hP => implNumPrint_yes neg u d R Ku Kd w su sd hok hR hKu hKd hku hkd hP⟩
  · have hno : ¬ NumP neg up down ∨ radB r = false := by
      by_cases h1 : NumP neg up down
      · exact Or.inr (by cases hr : radB r with
          | false => rfl
          | true => exact absurd ⟨h1, hr⟩ h)
      · exact Or.inl h1
    exact ⟨_, fun w => specNumPrint_no neg up down r w hu hd hno, fun w hP => implNumPrint_no neg up down r w hu hd hP hno⟩

set_option maxRecDepth 20000 in
set_option maxHeartbeats 4000000 in
theorem lawNumPrint_any (neg : Bool) (up down : ByteArray) (r : Int) (w : World) (hu : up.size ≤ maxLen) (hd : down.size ≤ maxLen) (hP : Pow9 w) :
    Calls Tryd.prog 6 #[.agg #[.bool neg, .string up, .string down], .int .i64 r] w fun e w' => e = .returned (.bool true) ∧ Below w.heap.size w w' := by
  obtain ⟨T, hS, hI⟩ := numPrint_both neg up down r hu hd
  have HS := hid (fun w => szNum_any neg up down 1048576 w (by decide) (by decide) hu hd)
  have HT := hid (fun w => toNum_any neg up down w)
  have HSp := hid hS
  have HI := hid hI
  have HP := hid hP
  clear hu hd hP hS hI
  obtain ⟨sz, HSz⟩ : ∃ sz : Int, Hid (szN up.size down.size 1048576 = sz) := ⟨_, rfl⟩
  rw [HSz.out] at HS
  go_enter Tryd.func6, Tryd.ntmps6
  go_wp2_with fail
  refine (HS.out _).mono ?_
  rintro e w1 ⟨rfl, hw1⟩
  rw [World.size_alloc] at hw1
  have HW1 := hid hw1
  obtain ⟨r0, r1, r2⟩ := res3 hw1
  clear hw1
  by_cases hneg : sz < 0
  · go_wp2_with fail
    go_ret
    exact ⟨rfl, res_done HW1.out⟩
  · go_wp2_with fail
    refine (HT.out _).mono ?_
    rintro e w2 ⟨rfl, hw2⟩
    have HW2 := hid (res_step HW1.out hw2)
    clear hw2
    go_wp2_with fail
    refine (HSp.out _).mono ?_
    rintro e w3 ⟨rfl, hw3⟩
    have HW3 := hid (res_step HW2.out hw3)
    clear hw3 r0 r1 r2
    obtain ⟨r0, r1, r2⟩ := res3 HW3.out
    go_wp2_with fail
    refine (HT.out _).mono ?_
    rintro e w4 ⟨rfl, hw4⟩
    have HW4 := hid (res_step HW3.out hw4)
    clear hw4
    go_wp2_with fail
    refine (HI.out _ (HP.out.below (res_done HW4.out) (Nat.le_refl _))).mono ?_
    rintro e w5 ⟨rfl, hw5⟩
    have HW5 := hid (res_step HW4.out hw5)
    clear hw5
    have hbb : (T.toList == T.toList) = true := by simp
    go_wp2_with fail
    go_ret
    exact ⟨rfl, res_done HW5.out⟩
end Go.Proofs.YtakicnplmcemnaaDoor
