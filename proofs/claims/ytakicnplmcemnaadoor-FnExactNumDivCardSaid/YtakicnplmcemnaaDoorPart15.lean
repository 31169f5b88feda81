/-
  NumOk: the model's and the program's, and the law's szNum and toNum. Condition: the table of powers stands.
  The program's answerOf; openNum at every number. Condition: what is above and below lies in memory; the table of powers stands.
-/
import Derived.Test.YtakicnplmcemnaaDoorPart8
import Derived.Test.YtakicnplmcemnaaDoorPart14
import Derived.Test.YtakicnplmcemnaaDoorPart13
namespace Go.Proofs.YtakicnplmcemnaaDoor
open Go.RowKit Go.Siskin

/-- What the law's own count leaves. -/
def szN (a b : Nat) (left : Int) : Int := if left - a < 0 then -1 else if left - a - b < 0 then -1 else left - a - b

set_option maxRecDepth 20000 in
set_option maxHeartbeats 1000000 in
theorem szNum_any (neg : Bool) (up down : ByteArray) (left : Int) (w : World) (h0 : 0 ≤ left) (h1 : left ≤ 1048576) (hu : up.size ≤ maxLen) (hd : down.size ≤ maxLen) :
    Calls Tryd.prog 12 #[.agg #[.bool neg, .string up, .string down], .int .i64 left] w fun e w' => e = .returned (.int .i64 (szN up.size down.size left)) ∧ Below w.heap.size w w' := by
  unfold maxLen at hu hd
  obtain ⟨a, HA⟩ : ∃ a : Nat, Hid (up.size = a) := ⟨_, rfl⟩
  obtain ⟨b, HB⟩ : ∃ b : Nat, Hid (down.size = b) := ⟨_, rfl⟩
  have ha : (up.size : Int) = (a : Int) := by rw [HA.out]
  have hb : (down.size : Int) = (b : Int) := by rw [HB.out]
  rw [HA.out] at hu ⊢
  rw [HB.out] at hd ⊢
  have HBw : Hid (Below w.heap.size w (w.alloc (.cells #[.bool neg, .string up, .string down] 23))) := (Below.refl _ _).alloc (Nat.le_refl _) _
  by_cases h2 : left - a < 0
  · have HV : Hid (szN a b left = -1) := by show _ = _; unfold szN; rw [if_pos h2]
    rw [HV.out]
    go_enter Tryd.func12, Tryd.ntmps12
    go_wp2_with fail
    go_ret
    exact ⟨rfl, HBw.out⟩
  · by_cases h3 : left - a - b < 0
    · have HV : Hid (szN a b left = -1) := by show _ = _; unfold szN; rw [if_neg h2, if_pos h3]
      rw [HV.out]
      go_enter Tryd.func12, Tryd.ntmps12
      go_wp2_with fail
      go_ret
      exact ⟨rfl, HBw.out⟩
    · have HV : Hid (szN a b left = left - a - b) := by show _ = _; unfold szN; rw [if_neg h2, if_neg h3]
      rw [HV.out]
      go_enter Tryd.func12, Tryd.ntmps12
      go_wp2_with fail
      go_ret
      exact ⟨rfl, HBw.out⟩

set_option maxRecDepth 20000 in
set_option maxHeartbeats 1000000 in
theorem toNum_any (neg : Bool) (up down : ByteArray) (w : World) :
    Calls Tryd.prog 14 #[.agg #[.bool neg, .string up, .string down]] w fun e w' => e = .returned (.agg #[.bool neg, .string up, .string down]) ∧ Below w.heap.size w w' := by
  go_enter Tryd.func14, Tryd.ntmps14
  go_wp2_with fail
  refine bodyPost_ret (v := .agg #[.bool neg, .string up, .string down]) ?_ rfl ⟨rfl, ?_⟩
  · simp [results, Tryd.results14, go_sem]
  · exact (((Below.refl _ _).alloc (Nat.le_refl _) _).alloc (by simp) _).alloc (by simp <;> omega) _

/-- What is a number. -/
def NumP (neg : Bool) (up down : ByteArray) : Prop := ∃ u d, up = dec u ∧ down = dec d ∧ up.size ≤ 60 ∧ down.size ≤ 60 ∧ OkUD neg u d

set_option maxRecDepth 20000 in
set_option maxHeartbeats 2000000 in
theorem implNumOk_any (neg : Bool) (up down : ByteArray) (w : World) (hu : up.size ≤ maxLen) (hd : down.size ≤ maxLen) (hP : Pow9 w) (b : Bool) (hb : b = true ↔ NumP neg up down) :
    Calls Tryd.prog 15 #[.agg #[.bool neg, .string up, .string down]] w fun e w' => e = .returned (.bool b) ∧ Below w.heap.size w w' := by
  have HBw : Hid (Below (w.heap.size + 1) (w.alloc (.cells #[.bool neg, .string up, .string down] 26)) (w.alloc (.cells #[.bool neg, .string up, .string down] 26))) := Below.refl _ _
  obtain ⟨n0, n1, n2⟩ := res3 HBw.out
  by_cases ht : (DecP up ∧ up.size ≤ 60) ∧ (DecP down ∧ down.size ≤ 60)
  · obtain ⟨⟨du, su⟩, ⟨dd, sd⟩⟩ := ht
    obtain ⟨u, rfl⟩ := (decP_iff up).1 du
    obtain ⟨d, rfl⟩ := (decP_iff down).1 dd
    have su' := su
    have sd' := sd
    rw [dec_size] at su' sd'
    have hOK : OkUD neg u d ↔ NumP neg (dec u) (dec d) := ⟨fun h => ⟨u, d, rfl, rfl, su, sd, h⟩, fun ⟨u', d', e1, e2, _, _, h⟩ => by rw [dec_inj e1, dec_inj e2]; exact h⟩
    have HO := hid (fun w (h : Pow9 w) => openNum_dec neg u d w su' sd' h)
    have HP := hid hP
    have HOK := hid hOK
    have HBb := hid hb
    clear hOK hb du dd su sd su' sd' hP
    generalize dec u = up at *
    generalize dec d = down at *
    go_enter Tryd.func15, Tryd.ntmps15
    go_wp2_with fail
    refine (HO.out _ (HP.out.alloc _)).mono ?_
    rintro e w1 ⟨F, bb, rfl, hw, hcase⟩
    have HW := hid (((Below.refl w.heap.size w).alloc (Nat.le_refl _) _).trans (hw.mono (by simp)))
    have hs1 : w.heap.size ≤ w1.heap.size := HW.out.size
    rcases hcase with ⟨rfl, hok, vu, vd, rfl, hvu, hvd⟩ | ⟨rfl, hno, rfl⟩
    · have HV : Hid (true = b) := (HBb.out.2 (HOK.out.1 hok)).symm
      obtain ⟨ua, uc, rfl⟩ := natA_form hvu
      obtain ⟨da, dc, rfl⟩ := natA_form hvd
      clear hvu hvd hw hok
      go_wp2_with fail
      go_ret
      exact ⟨ret_boolz HV.out, HW.out.alloc hs1 _⟩
    · have HV : Hid (false = b) := by
        show _ = _
        cases hbb : b with
        | false => rfl
        | true => exact absurd (HOK.out.2 (HBb.out.1 hbb)) hno
      clear hw hno
      go_wp2_with fail
      go_ret
      exact ⟨ret_boolz HV.out, HW.out.alloc hs1 _⟩
  · have HV : Hid (false = b) := by
      show _ = _
      cases hbb : b with
      | false => rfl
      | true =>
        obtain ⟨u, d, e1, e2, h1, h2, -⟩ := hb.1 hbb
        exact absurd ⟨⟨(decP_iff up).2 ⟨u, e1⟩, h1⟩, ⟨(decP_iff down).2 ⟨d, e2⟩, h2⟩⟩ ht
    have HO := hid (fun w => openNum_text neg up down w hu hd ht)
    clear ht hb
    go_enter Tryd.func15, Tryd.ntmps15
    go_wp2_with fail
    refine (HO.out _).mono ?_
    rintro e w1 ⟨rfl, hw⟩
    have HW := hid (((Below.refl w.heap.size w).alloc (Nat.le_refl _) _).trans (hw.mono (by simp)))
    have hs1 : w.heap.size ≤ w1.heap.size := HW.out.size
    clear hw
    go_wp2_with fail
    go_ret
    exact ⟨ret_boolz HV.out, HW.out.alloc hs1 _⟩
theorem nought_text (v : Nat) : ((dec v).toList == [48]) = decide (v = 0) := by
  rw [Bool.eq_iff_iff, decide_eq_true_eq, beq_iff_eq, Go.ByteArray.toList_eq]
  have hz : dec 0 = ⟨#[48]⟩ := by rw [dec_small (by decide)]; rfl
  constructor
  · intro e
    have h2 : dec v = dec 0 := by rw [hz]; exact ba_ext e
    exact dec_inj h2
  · rintro rfl; rw [hz]
theorem one_text (v : Nat) : ((dec v).toList == [49]) = decide (v = 1) := by
  rw [Bool.eq_iff_iff, decide_eq_true_eq, beq_iff_eq, Go.ByteArray.toList_eq]
  have hz : dec 1 = ⟨#[49]⟩ := dec_one
  constructor
  · intro e
    have h2 : dec v = dec 1 := by rw [hz]; exact ba_ext e
    exact dec_inj h2
  · rintro rfl; rw [hz]

set_option maxRecDepth 20000 in
set_option maxHeartbeats 4000000 in
theorem specNumOk_any (neg : Bool) (up down : ByteArray) (w : World) (hu : up.size ≤ maxLen) (hd : down.size ≤ maxLen) (b : Bool) (hb : b = true ↔ NumP neg up down) :
    Calls Tryd.prog 13 #[.agg #[.bool neg, .string up, .string down]] w fun e w' => e = .returned (.bool b) ∧ Below w.heap.size w w' := by
  have HBw : Hid (Below (w.heap.size + 1) (w.alloc (.cells #[.bool neg, .string up, .string down] 26)) (w.alloc (.cells #[.bool neg, .string up, .string down] 26))) := Below.refl _ _
  have HBd : Hid (Below w.heap.size w (w.alloc (.cells #[.bool neg, .string up, .string down] 26))) := (Below.refl _ _).alloc (Nat.le_refl _) _
  obtain ⟨n0, n1, n2⟩ := res3 HBw.out
  have HBb := hid hb
  have HUl := hid hu
  have HDl := hid hd
  unfold maxLen at hu hd
  clear hb
  by_cases h1 : 60 < up.size
  · have HV : Hid (false = b) := by
      show _ = _
      cases hbb : b with
      | false => rfl
      | true =>
        obtain ⟨u', d', e1, e2, s1, s2, ok⟩ := HBb.out.1 hbb
        omega
    go_enter Tryd.func13, Tryd.ntmps13
    go_wp2_with fail
    go_ret
    exact ⟨ret_boolz HV.out, HBd.out⟩
  by_cases h2 : 60 < down.size
  · have HV : Hid (false = b) := by
      show _ = _
      cases hbb : b with
      | false => rfl
      | true =>
        obtain ⟨u', d', e1, e2, s1, s2, ok⟩ := HBb.out.1 hbb
        omega
    go_enter Tryd.func13, Tryd.ntmps13
    go_wp2_with fail
    go_ret
    exact ⟨ret_boolz HV.out, HBd.out⟩
  by_cases h3 : DecP up
  rotate_left
  · have HV : Hid (false = b) := by
      show _ = _
      cases hbb : b with
      | false => rfl
      | true =>
        obtain ⟨u', d', e1, e2, s1, s2, ok⟩ := HBb.out.1 hbb
        exact absurd ((decP_iff up).2 ⟨u', e1⟩) h3
    have HU := hid (fun w => l11DigitsOk_any up w HUl.out false ⟨fun h => (by cases h), fun h => absurd h h3⟩)
    clear h3
    go_enter Tryd.func13, Tryd.ntmps13
    go_wp2_with fail
    refine (HU.out _).mono ?_
    rintro e w' ⟨rfl, hw⟩
    subst hw
    go_wp2_with fail
    go_ret
    exact ⟨ret_boolz HV.out, HBd.out⟩
  have HU := hid (fun w => l11DigitsOk_any up w HUl.out true ⟨fun _ => h3, fun _ => rfl⟩)
  by_cases h4 : DecP down
  rotate_left
  · have HV : Hid (false = b) := by
      show _ = _
      cases hbb : b with
      | false => rfl
      | true =>
        obtain ⟨u', d', e1, e2, s1, s2, ok⟩ := HBb.out.1 hbb
        exact absurd ((decP_iff down).2 ⟨d', e2⟩) h4
    have HD := hid (fun w => l11DigitsOk_any down w HDl.out false ⟨fun h => (by cases h), fun h => absurd h h4⟩)
    clear h3 h4
    go_enter Tryd.func13, Tryd.ntmps13
    go_wp2_with fail
    refine (HU.out _).mono ?_
    rintro e w' ⟨rfl, hw⟩
    subst hw
    go_wp2_with fail
    refine (HD.out _).mono ?_
    rintro e w' ⟨rfl, hw⟩
    subst hw
    go_wp2_with fail
    go_ret
    exact ⟨ret_boolz HV.out, HBd.out⟩
  have HD := hid (fun w => l11DigitsOk_any down w HDl.out true ⟨fun _ => h4, fun _ => rfl⟩)
  obtain ⟨u, rfl⟩ := (decP_iff up).1 h3
  obtain ⟨d, rfl⟩ := (decP_iff down).1 h4
  have HSu : Hid ((dec u).size ≤ 60) := by show _ ≤ _; omega
  have HSd : Hid ((dec d).size ≤ 60) := by show _ ≤ _; omega
  have hzd := nought_text d
  have hzu := nought_text u
  have HGc := hid (fun w => l11Gcd_any u d w (by have := HSu.out; rw [dec_size] at this; omega) (by have := HSd.out; rw [dec_size] at this; omega))
  have hno : ¬ OkUD neg u d → Hid (false = b) := fun h => by
    show _ = _
    cases hbb : b with
    | false => rfl
    | true =>
      obtain ⟨u', d', e1, e2, s1, s2, ok⟩ := HBb.out.1 hbb
      rw [← dec_inj e1, ← dec_inj e2] at ok
      exact absurd ok h
  have HNo := hid hno
  clear hno h3 h4
  by_cases hd0 : d = 0
  · rw [decide_eq_true hd0] at hzd
    have HV := HNo.out (fun h => h.1 hd0)
    clear hd0 hzu HNo
    generalize dec u = up at *
    generalize dec d = down at *
    go_enter Tryd.func13, Tryd.ntmps13
    go_wp2_with fail
    refine (HU.out _).mono ?_
    rintro e w' ⟨rfl, hw⟩
    subst hw
    go_wp2_with fail
    refine (HD.out _).mono ?_
    rintro e w' ⟨rfl, hw⟩
    subst hw
    go_wp2_with fail
    go_ret
    exact ⟨ret_boolz HV.out, HBd.out⟩
  · rw [decide_eq_false hd0] at hzd
    by_cases hnu : neg = true ∧ u = 0
    · rw [decide_eq_true hnu.2] at hzu
      have HV := HNo.out (fun h => h.2.1 hnu)
      obtain ⟨rfl, -⟩ := hnu
      clear hd0 HNo
      generalize dec u = up at *
      generalize dec d = down at *
      go_enter Tryd.func13, Tryd.ntmps13
      go_wp2_with fail
      refine (HU.out _).mono ?_
      rintro e w' ⟨rfl, hw⟩
      subst hw
      go_wp2_with fail
      refine (HD.out _).mono ?_
      rintro e w' ⟨rfl, hw⟩
      subst hw
      go_wp2_with fail
      go_ret
      exact ⟨ret_boolz HV.out, HBd.out⟩
    · obtain ⟨G, HG⟩ : ∃ G : Nat, Hid (Nat.gcd u d = G) := ⟨_, rfl⟩
      have HV : Hid (decide (G = 1) = b) := by
        show _ = _
        by_cases h1 : G = 1
        · rw [decide_eq_true h1]
          exact (HBb.out.2 ⟨u, d, rfl, rfl, HSu.out, HSd.out, hd0, hnu, by rw [HG.out, h1]⟩).symm
        · rw [decide_eq_false h1]
          exact HNo.out (fun h => h1 (by rw [← HG.out]; exact h.2.2))
      have hzg := one_text G
      rw [HG.out] at HGc
      clear HNo hd0
      cases neg with
      | false =>
        clear hnu hzu
        generalize dec u = up at *
        generalize dec d = down at *
        generalize dec G = gt at *
        go_enter Tryd.func13, Tryd.ntmps13
        go_wp2_with fail
        refine (HU.out _).mono ?_
        rintro e w' ⟨rfl, hw⟩
        subst hw
        go_wp2_with fail
        refine (HD.out _).mono ?_
        rintro e w' ⟨rfl, hw⟩
        subst hw
        go_wp2_with fail
        refine (HGc.out _).mono ?_
        rintro e w2 ⟨rfl, hw2⟩
        have HW2 := hid (HBd.out.trans (hw2.mono (by simp)))
        clear hw2
        go_wp2_with fail
        go_ret
        exact ⟨ret_boolz HV.out, HW2.out⟩
      | true =>
        have hu0 : ¬ u = 0 := fun h => hnu ⟨rfl, h⟩
        rw [decide_eq_false hu0] at hzu
        clear hnu hu0
        generalize dec u = up at *
        generalize dec d = down at *
        generalize dec G = gt at *
        go_enter Tryd.func13, Tryd.ntmps13
        go_wp2_with fail
        refine (HU.out _).mono ?_
        rintro e w' ⟨rfl, hw⟩
        subst hw
        go_wp2_with fail
        refine (HD.out _).mono ?_
        rintro e w' ⟨rfl, hw⟩
        subst hw
        go_wp2_with fail
        refine (HGc.out _).mono ?_
        rintro e w2 ⟨rfl, hw2⟩
        have HW2 := hid (HBd.out.trans (hw2.mono (by simp)))
        clear hw2
        go_wp2_with fail
        go_ret
        exact ⟨ret_boolz HV.out, HW2.out⟩

set_option maxRecDepth 20000 in
set_option maxHeartbeats 4000000 in
theorem lawNumOk_any (neg : Bool) (up down : ByteArray) (w : World) (hu : up.size ≤ maxLen) (hd : down.size ≤ maxLen) (hP : Pow9 w) :
    Calls Tryd.prog 3 #[.agg #[.bool neg, .string up, .string down]] w fun e w' => e = .returned (.bool true) ∧ Below w.heap.size w w' := by
  obtain ⟨b, hb⟩ : ∃ b : Bool, b = true ↔ NumP neg up down := by
    by_cases h : NumP neg up down
    · exact ⟨true, fun _ => h, fun _ => rfl⟩
    · exact ⟨false, fun e => (by cases e), fun e => absurd e h⟩
  have HS := hid (fun w => szNum_any neg up down 1048576 w (by decide) (by decide) hu hd)
  have HT := hid (fun w => toNum_any neg up down w)
  have HSp := hid (fun w => specNumOk_any neg up down w hu hd b hb)
  have HI := hid (fun w (h : Pow9 w) => implNumOk_any neg up down w hu hd h b hb)
  have HP := hid hP
  clear hu hd hP hb
  obtain ⟨sz, HSz⟩ : ∃ sz : Int, Hid (szN up.size down.size 1048576 = sz) := ⟨_, rfl⟩
  rw [HSz.out] at HS
  go_enter Tryd.func3, Tryd.ntmps3
  go_wp2_with fail
  refine (HS.out _).mono ?_
  rintro e w1 ⟨rfl, hw1⟩
  rw [World.size_alloc] at hw1
  have HW1 := hid hw1
  obtain ⟨r0, r1, r2⟩ := res3 hw1
  clear hw1
  by_cases hneg : sz < 0
  · go_wp2_with fail
    go_ret
    exact ⟨rfl, res_done HW1.out⟩
  · go_wp2_with fail
    refine (HT.out _).mono ?_
    rintro e w2 ⟨rfl, hw2⟩
    have HW2 := hid (res_step HW1.out hw2)
    clear hw2
    go_wp2_with fail
    refine (HSp.out _).mono ?_
    rintro e w3 ⟨rfl, hw3⟩
    have HW3 := hid (res_step HW2.out hw3)
    clear hw3 r0 r1 r2
    obtain ⟨r0, r1, r2⟩ := res3 HW3.out
    go_wp2_with fail
    refine (HT.out _).mono ?_
    rintro e w4 ⟨rfl, hw4⟩
    have HW4 := hid (res_step HW3.out hw4)
    clear hw4
    go_wp2_with fail
    refine (HI.out _ (HP.out.below (res_done HW4.out) (Nat.le_refl _))).mono ?_
    rintro e w5 ⟨rfl, hw5⟩
    have HW5 := hid (res_step HW4.out hw5)
    clear hw5
    have hbb : (b != b) = false := by simp
    go_wp2_with fail
    go_ret
    exact ⟨rfl, res_done HW5.out⟩
end Go.Proofs.YtakicnplmcemnaaDoor

namespace Go.Proofs.YtakicnplmcemnaaDoor
open Go.RowKit Go.Siskin

abbrev noAns (c : Int) : Value := .tuple #[.agg #[.bool false, .string ⟨#[]⟩, .string ⟨#[]⟩], .int .i64 c]
/-- The answer of a sign, above and below: what is not too big, or code 3. -/
def ansQ (neg : Bool) (u d : Nat) : Value :=
  if Lib.nDigits (u / Nat.gcd u d) ≤ 60 ∧ Lib.nDigits (d / Nat.gcd u d) ≤ 60 then .tuple #[.agg #[.bool (neg && !(u / Nat.gcd u d == 0)), .string (dec (u / Nat.gcd u d)), .string (dec (d / Nat.gcd u d))], .int .i64 0] else noAns 3
theorem ansQ_parts (neg : Bool) (u d : Nat) : (∃ (n : Bool) (x y : ByteArray), closedV neg (u / Nat.gcd u d) (d / Nat.gcd u d) = .tuple #[.agg #[.bool n, .string x, .string y], .bool true] ∧ ansQ neg u d = .tuple #[.agg #[.bool n, .string x, .string y], .int .i64 0]) ∨
    (closedV neg (u / Nat.gcd u d) (d / Nat.gcd u d) = .tuple #[.agg #[.bool false, .string ⟨#[]⟩, .string ⟨#[]⟩], .bool false] ∧ ansQ neg u d = noAns 3) := by
  by_cases h : Lib.nDigits (u / Nat.gcd u d) ≤ 60 ∧ Lib.nDigits (d / Nat.gcd u d) ≤ 60
  · exact Or.inl ⟨_, _, _, if_pos h, if_pos h⟩
  · exact Or.inr ⟨if_neg h, if_neg h⟩

set_option maxRecDepth 20000 in
set_option maxHeartbeats 2000000 in
theorem answerOf_any (n m : Bool) (u d : Nat) (a b : Option Addr) (l c k e0 : Nat) (w : World) (hu : NatA w (.slice a l c) (grp u)) (hd : NatA w (.slice b k e0) (grp d)) (hnu : nG u ≤ 1000) (hnd : nG d ≤ 1000) (hd0 : 0 < d) (hP : Pow9 w) :
    Calls Tryd.prog 64 #[.agg #[.bool n, .slice a l c, .bool m, .slice b k e0]] w fun e w' => e = .returned (ansQ (n != m) u d) ∧ Below w.heap.size w w' := by
  obtain ⟨s, hs⟩ : ∃ s, (n != m) = s := ⟨_, rfl⟩
  have hs2 : (!n == m) = s := hs
  rw [hs]
  obtain ⟨W0, HW0⟩ : ∃ W, Hid ((w.alloc (boxR n (.slice a l c) m (.slice b k e0))).alloc (.cells #[.bool false, .string ⟨#[]⟩, .string ⟨#[]⟩] 26) = W) := ⟨_, rfl⟩
  have HX : Hid (∀ W, Below (w.heap.size + 2) W0 W → Own W w.heap.size 80 #[.bool n, .slice a l c, .bool m, .slice b k e0] ∧ Own W (w.heap.size + 1) 26 #[.bool false, .string ⟨#[]⟩, .string ⟨#[]⟩] ∧ Below w.heap.size w W) := fun W h => by
    rw [← HW0.out] at h
    exact boxes2 w _ _ _ _ h
  have HS0 : Hid (w.heap.size + 2 ≤ W0.heap.size) := by show _ ≤ _; rw [← HW0.out]; simp
  have HB0 : Hid (Below (w.heap.size + 2) W0 W0) := Below.refl _ _
  obtain ⟨⟨a0, a1, a2, a3⟩, -⟩ := own4V (HX.out _ HB0.out).1
  obtain ⟨⟨r0, r1, r2⟩, q0, q1, q2⟩ := own3V (HX.out _ HB0.out).2.1
  have HB1 : Hid (Below (w.heap.size + 2) W0 (W0.alloc (.cells #[.bool s, .slice a l c, .slice b k e0] 46))) := HB0.out.alloc HS0.out _
  have hb1 := (HX.out _ HB1.out).2.2
  have HCl := hid (closed_any s u d (.slice a l c) (.slice b k e0) _ (hu.below hb1 (Nat.le_refl _)) (hd.below hb1 (Nat.le_refl _)) hnu hnd hd0 (hP.below hb1 (Nat.le_refl _)))
  have hsz1 : w.heap.size + 2 ≤ (W0.alloc (.cells #[.bool s, .slice a l c, .slice b k e0] 46)).heap.size := HB1.out.size |> Nat.le_trans HS0.out
  have h4 := own_new W0 #[.bool s, .slice a l c, .slice b k e0] 46
  obtain ⟨⟨b0, b1, b2⟩, -⟩ := own3V h4
  have HSz1 := hid hsz1
  rcases ansQ_parts s u d with ⟨ma, mx, my, h1, h2⟩ | ⟨h1, h2⟩
  all_goals
    rw [h2]
    rw [h1] at HCl
    clear h1 h2 hu hd hnu hnd hd0 hP hb1 hs h4 hsz1
    go_enter Tryd.func64, Tryd.ntmps64
    go_wp2_with fail
    rw [HW0.out]
    go_wp2_with fail
    refine HCl.out.mono ?_
    rintro e w3 ⟨rfl, hw3⟩
    have HB3 := hid (HB1.out.trans (hw3.mono HSz1.out))
    clear hw3 a0 a1 a2 a3 b0 b1 b2 r0 r1 r2 q0 q1 q2
    obtain ⟨⟨r0, r1, r2⟩, q0, q1, q2⟩ := own3V (HX.out _ HB3.out).2.1
    have hs3 : w.heap.size + 2 ≤ w3.heap.size := Nat.le_trans HS0.out HB3.out.size
    have hlt3 : w.heap.size + 1 < w3.heap.size := by omega
    go_wp2_with fail
    have hb5 := fun x y z => (((HX.out _ HB3.out).2.2.setCell (p := ⟨w.heap.size + 1, 0, none⟩) (Nat.le_succ _) x).setCell (p := ⟨w.heap.size + 1, 1, none⟩) (Nat.le_succ _) y).setCell (p := ⟨w.heap.size + 1, 2, none⟩) (Nat.le_succ _) z
    first
      | (refine bodyPost_ret (v := .tuple #[.agg #[.bool ma, .string mx, .string my], .int .i64 0]) (by simp [results, Tryd.results64, go_sem, r0, r1, r2, hlt3]) rfl ⟨rfl, ?_⟩
         exact (hb5 _ _ _).alloc (by simp [World.setCell]; omega) _)
      | (refine bodyPost_ret (v := noAns 3) (by simp [results, Tryd.results64, go_sem, r0, r1, r2, hlt3]) rfl ⟨rfl, ?_⟩
         exact (hb5 _ _ _).alloc (by simp [World.setCell]; omega) _)

/-- What a number that comes in is opened to. -/
def OpenP (neg : Bool) (up down : ByteArray) (b p : Bool) (U D : Nat) : Prop :=
  (b = true ∧ p = neg ∧ up = dec U ∧ down = dec D ∧ up.size ≤ 60 ∧ down.size ≤ 60 ∧ OkUD neg U D) ∨ (b = false ∧ ¬ NumP neg up down ∧ p = false ∧ U = 0 ∧ D = 0)
theorem OpenP.small {neg : Bool} {up down : ByteArray} {b p : Bool} {U D : Nat} (h : OpenP neg up down b p U D) : nG U ≤ 60 ∧ nG D ≤ 60 := by
  rcases h with ⟨-, -, e1, e2, h1, h2, -⟩ | ⟨-, -, -, rfl, rfl⟩
  · rw [e1, dec_size] at h1
    rw [e2, dec_size] at h2
    unfold nG
    constructor <;> split <;> omega
  · exact ⟨Nat.zero_le _, Nat.zero_le _⟩
theorem openNum_all (neg : Bool) (up down : ByteArray) (hu : up.size ≤ maxLen) (hd : down.size ≤ maxLen) : ∃ b p U D, OpenP neg up down b p U D ∧
    ∀ w, Pow9 w → Calls Tryd.prog 35 #[.agg #[.bool neg, .string up, .string down]] w fun e w' => ∃ ua uc da dc, e = .returned (.tuple #[.agg #[.bool p, .slice ua (grp U).length uc, .slice da (grp D).length dc], .bool b]) ∧ NatA w' (.slice ua (grp U).length uc) (grp U) ∧ NatA w' (.slice da (grp D).length dc) (grp D) ∧ Below w.heap.size w w' := by
  by_cases h : NumP neg up down
  · obtain ⟨u, d, rfl, rfl, su, sd, hok⟩ := h
    refine ⟨true, neg, u, d, Or.inl ⟨rfl, rfl, rfl, rfl, su, sd, hok⟩, fun w hP => ?_⟩
    rw [dec_size] at su sd
    refine (openNum_dec neg u d w su sd hP).mono ?_
    rintro e w' ⟨F, b, rfl, hb, h | h⟩
    · obtain ⟨rfl, -, vu, vd, rfl, h1, h2⟩ := h
      obtain ⟨ua, uc, rfl⟩ := natA_formR h1
      obtain ⟨da, dc, rfl⟩ := natA_formR h2
      exact ⟨ua, uc, da, dc, rfl, h1, h2, hb⟩
    · exact absurd hok h.2.1
  · refine ⟨false, false, 0, 0, Or.inr ⟨rfl, h, rfl, rfl, rfl⟩, fun w hP => ?_⟩
    by_cases ht : (DecP up ∧ up.size ≤ 60) ∧ (DecP down ∧ down.size ≤ 60)
    · obtain ⟨⟨hu1, su⟩, hd1, sd⟩ := ht
      obtain ⟨u, rfl⟩ := (decP_iff up).1 hu1
      obtain ⟨d, rfl⟩ := (decP_iff down).1 hd1
      have su' := su
      have sd' := sd
      rw [dec_size] at su' sd'
      refine (openNum_dec neg u d w su' sd' hP).mono ?_
      rintro e w' ⟨F, b, rfl, hb, h2 | h2⟩
      · exact absurd ⟨u, d, rfl, rfl, su, sd, h2.2.1⟩ h
      · obtain ⟨rfl, -, rfl⟩ := h2
        exact ⟨none, 0, none, 0, rfl, NatA.nil, NatA.nil, hb⟩
    · refine (openNum_text neg up down w hu hd ht).mono ?_
      rintro e w' ⟨rfl, hb⟩
      exact ⟨none, 0, none, 0, rfl, NatA.nil, NatA.nil, hb⟩
end Go.Proofs.YtakicnplmcemnaaDoor
