/-
  The model's l11Div: what comes of dividing numerals, and what is left. Condition: numerals of at most 10,000 digits, the second above nought.
  NumOk: the model's and the program's, and the law's szNum and toNum. Condition: the table of powers stands.
  The program's answerOf; openNum at every number. Condition: what is above and below lies in memory; the table of powers stands.
-/
import Derived.Test.YtbbffhpppacihaaDoorPart7
import Derived.Test.YtbbffhpppacihaaDoorPart8
import Derived.Test.YtbbffhpppacihaaDoorPart12
import Derived.Test.YtbbffhpppacihaaDoorPart13
namespace Go.Proofs.YtbbffhpppacihaaDoor
open Go.RowKit Go.Siskin

theorem cut_one (m v i : Nat) (h : i < m) : (digT m v).extract i (i + 1) = ⟨#[UInt8.ofNat (48 + v / 10 ^ (m - 1 - i) % 10)]⟩ := by
  apply ba_ext
  rw [ByteArray.data_extract, Array.toList_extract]
  show ((digL m v).toArray.toList.drop i).take (i + 1 - i) = _
  rw [List.toList_toArray, Nat.add_sub_cancel_left]
  apply List.ext_getElem
  · simp [digL]; omega
  · intro j h1 h2
    simp at h2
    subst h2
    simp [digL, Lib.dg]

set_option maxRecDepth 20000 in
set_option maxHeartbeats 2000000 in
theorem l11Div_of (a b n : Nat) (w : World) (HNa : Hid (Lib.nDigits a = n)) (hn : n ≤ 10000) (hbn : Lib.nDigits b ≤ 10000) (hb : 0 < b) :
    Calls Tryd.prog 33 #[.string (dec a), .string (dec b)] w fun e w' => e = .returned (.tuple #[.string (dec (a / b)), .string (dec (a % b))]) ∧ Below w.heap.size w w' := by
  have hla : ((dec a).size : Int) = (n : Int) := by rw [dec_size, HNa.out]
  have HCut : Hid (∀ i, i < n → (dec a).extract i (i + 1) = ⟨#[UInt8.ofNat (48 + a / 10 ^ (n - 1 - i) % 10)]⟩) := fun i hi => by unfold dec; rw [HNa.out]; exact cut_one n a i hi
  have HBp := hid hb
  have HBn := hid hbn
  obtain ⟨i0, hi, hz0, hz1, hz2⟩ := info_partsZ Tryd.infoByteZ2
  have Hi := hid hi
  have Hz0 := hid hz0
  have Hz1 := hid hz1
  have Hz2 := hid hz2
  clear hi hz0 hz1 hz2 hb hbn
  go_enter Tryd.func33, Tryd.ntmps33
  go_wp2_with fail
  go_loopw [6, 7, 8] (fun q r i wr => ∃ (k g cap : Nat), q = .slice (some ⟨g, 0, none⟩) k cap ∧ r = .string (dec (a / 10 ^ (n - k) % b)) ∧ i = .int .i64 k ∧ k ≤ n ∧ Hid (wr.ownsRow w.heap.size 5 1 (.slice (some ⟨g, 0, none⟩) k cap) k (byteL (digT k (a / 10 ^ (n - k) / b)))) ∧ Hid (Below w.heap.size w wr)) (fun _ _ i _ => n - (intOf i).toNat)
  case atStart =>
    have h0 : a / 10 ^ (n - 0) = 0 := by rw [Nat.sub_zero, ← HNa.out]; exact Nat.div_eq_of_lt (Lib.lt_pow_nDigits a)
    refine ⟨0, _, 0, rfl, ?_, rfl, Nat.zero_le _, ?_, (Below.refl _ _).alloc (Nat.le_refl _) _⟩
    · rw [h0, Nat.zero_mod, dec_small (by decide)]; rfl
    · show World.ownsRow _ _ _ _ _ _ _
      rw [h0, Nat.zero_div]
      exact World.ownsRow_made w #[] 0 (Nat.le_refl _) (Nat.zero_le _) (by simp)
  case round =>
    obtain ⟨k, g, cap, rfl, rfl, rfl, hk, HU, HB⟩ := hrel
    have hsz := HB.out.size
    by_cases hlt : k < n
    · have hst := div_step (a := a) (n := n) HBp.out hlt
      obtain ⟨r, HR⟩ : ∃ r : Nat, Hid (a / 10 ^ (n - k) % b = r) := ⟨_, rfl⟩
      obtain ⟨q, HQ⟩ : ∃ q : Nat, Hid (a / 10 ^ (n - k) / b = q) := ⟨_, rfl⟩
      obtain ⟨d, HD⟩ : ∃ d : Nat, Hid (a / 10 ^ (n - 1 - k) % 10 = d) := ⟨_, rfl⟩
      have hd10 : d < 10 := by rw [← HD.out]; exact Nat.mod_lt _ (by decide)
      have hcut := HCut.out k hlt
      rw [HD.out] at hcut
      rw [HR.out, HQ.out, HD.out] at hst
      rw [HQ.out] at HU
      rw [HR.out]
      have hrb : r < b := by rw [← HR.out]; exact Nat.mod_lt _ HBp.out
      have HST := hid hst
      have hrs : (dec r).size ≤ 10000 := by rw [dec_size]; exact Nat.le_trans (nDigits_mono (Nat.le_of_lt hrb)) HBn.out
      have HCat := hid (digT_snoc (Lib.nDigits r) r d hd10)
      obtain ⟨c, HCc⟩ : ∃ c : UInt8, Hid (UInt8.ofNat (48 + d) = c) := ⟨_, rfl⟩
      rw [HCc.out] at hcut HCat
      have HTr := hid (fun w => l11Trim_any (Lib.nDigits r + 1) (r * 10 + d) w (by rw [dec_size] at hrs; unfold maxLen; omega) (by omega) (by rw [Nat.pow_succ]; have := Lib.lt_pow_nDigits r; omega))
      rw [← HCat.out] at HTr
      clear hst
      go_wp2_with fail
      refine (HTr.out _).mono ?_
      rintro e w' ⟨rfl, hw⟩
      obtain rfl := hw.symm
      obtain ⟨R, HRR⟩ : ∃ R : Nat, Hid (r * 10 + d = R) := ⟨_, rfl⟩
      rw [HRR.out] at HST ⊢
      clear HTr HCat hcut
      go_wp2_with fail
      rename World => w1
      go_loopw [7, 9] (fun rr nn wr => ∃ j : Nat, rr = .string (dec (R - j * b)) ∧ nn = .int .u8 ((48 + j : Nat) : Int) ∧ Hid (j * b ≤ R) ∧ j ≤ 9 ∧ Hid (Below w1.heap.size w1 wr)) (fun _ nn _ => (60 - intOf nn).toNat)
      case atStart => exact ⟨0, by rw [Nat.zero_mul]; rfl, rfl, by show _ ≤ _; omega, by omega, Below.refl _ _⟩
      case round =>
        obtain ⟨j, rfl, rfl, HJ, hj, HB2⟩ := hrel
        have hs2 := HB2.out.size
        have HCm := hid (l11Cmp_any (R - j * b) b)
        by_cases hge : b ≤ R - j * b
        · have HV : Hid (0 ≤ cmpI (R - j * b) b) := by
            show _ ≤ _; unfold cmpI; rw [if_neg (by omega)]; split <;> omega
          have hj9 : j < 9 := by
            rcases Nat.lt_or_ge j 9 with h | h
            · exact h
            · exfalso
              have e : j = 9 := by omega
              subst e
              have := HST.out.2.2; omega
          have HSb := hid (fun w => l11Sub_any (R - j * b) b w (by
            have h1 : Lib.nDigits (R - j * b) ≤ Lib.nDigits b + 1 := nDigits_le (by rw [Nat.pow_succ]; have := Lib.lt_pow_nDigits b; have := HST.out.2.2; omega) (by omega)
            have := HBn.out; omega) hge)
          have HE : Hid (R - j * b - b = R - (j + 1) * b) := by show _ = _; rw [Nat.succ_mul]; omega
          rw [HE.out] at HSb
          have HJ2 : Hid ((j + 1) * b ≤ R) := by
            have h := HJ.out
            show _ ≤ _; rw [Nat.succ_mul]; omega
          obtain ⟨cv, HCV⟩ : ∃ cv : Int, Hid (cmpI (R - j * b) b = cv) := ⟨_, rfl⟩
          rw [HCV.out] at HCm
          have hcv : 0 ≤ cv := by rw [← HCV.out]; exact HV.out
          clear hge HV
          go_wp2_with fail
          refine (HCm.out _).mono ?_
          rintro e w' ⟨rfl, hw⟩
          obtain rfl := hw.symm
          go_wp2_with fail
          refine (HSb.out _).mono ?_
          rintro e w3 ⟨rfl, hw3⟩
          have HW3 := hid hw3
          clear hw3
          go_wp2_with fail
          refine ⟨⟨j + 1, rfl, by congr 1, HJ2, by omega, HB2.out.trans (HW3.out.mono hs2)⟩, by simp [intOf]; omega⟩
        · have HV : Hid (cmpI (R - j * b) b < 0) := by
            show _ < _; unfold cmpI; rw [if_pos (by omega)]; omega
          obtain ⟨cv, HCV⟩ : ∃ cv : Int, Hid (cmpI (R - j * b) b = cv) := ⟨_, rfl⟩
          rw [HCV.out] at HCm
          have hcv : cv < 0 := by rw [← HCV.out]; exact HV.out
          have HJq : Hid (R / b = j ∧ R % b = R - j * b) := by
            have h := HJ.out
            have hb := HBp.out
            have e : R = b * j + (R - j * b) := by rw [Nat.mul_comm b j]; omega
            generalize R - j * b = z at *
            constructor
            · rw [e, Nat.mul_add_div hb, Nat.div_eq_of_lt (by omega), Nat.add_zero]
            · rw [e, Nat.mul_add_mod, Nat.mod_eq_of_lt (by omega)]
          have HU2 : Hid (wr.ownsRow w.heap.size 5 1 (.slice (some ⟨g, 0, none⟩) k cap) k (byteL (digT k q))) := World.ownsRow.kept (row := none) HU.out ⟨HB2.out.os, HB2.out.tape, HB2.out.output, HB2.out.size, fun i hi _ => HB2.out.block i hi⟩ (Or.inr (by simp [Value.ownBlock]))
          have hsz2 : w.heap.size ≤ wr.heap.size := by omega
          clear hge HV
          go_wp2_with fail
          refine (HCm.out _).mono ?_
          rintro e w' ⟨rfl, hw⟩
          obtain rfl := hw.symm
          go_wp2_with (at_builtin; go_loud (refine wpList_append_lies _ rfl _ _ _ rfl w.heap.size 5 i0 (.int .u8 0) 1 1 Tryd.underlying34 Hi.out Hz0.out Hz1.out Hz2.out rfl (by decide) _ k (byteL (digT k q)) rfl (HU2.out.alloc _) ⟨wr.heap.size, 0, none⟩ 1 1 [.int .u8 ((48 + j : Nat) : Int)] rfl rfl (cell_one_newZ _ _ _) (by simp [Value.oneCell']) (by omega) (by unfold maxLen; omega) (by omega) (by simp; omega) (wr.heap.size + 1) (by simp) ?_; intro gg cc w4 hown' hg hat hgl; have hall := (World.grownBy_alloc wr _ _).trans hg))
          have hlow : ∀ g', (Value.slice (some ⟨g, 0, none⟩) k cap).ownBlock = some g' → w.heap.size ≤ g' := fun g' e => (HU2.out.lt g' e).1
          refine ⟨⟨k + 1, gg, cc, rfl, ?_, by go_num, by omega, ?_, (HB.out.trans (HB2.out.mono hsz)).grown hall hsz2 hlow⟩, by simp [intOf]; omega⟩
          · rw [HST.out.2.1, HJq.out.2]
          · show World.ownsRow _ _ _ _ _ _ _
            rw [HST.out.1, HJq.out.1, byteL_snoc k q j (by omega)]
            exact hown'
    · have hkn : k = n := by omega
      subst hkn
      have he : a / 10 ^ (k - k) = a := by rw [Nat.sub_self, Nat.pow_zero, Nat.div_one]
      rw [he] at HU ⊢
      have HCv := hid (conv_back wr w.heap.size k g cap _ HU.out)
      have HTr := hid (fun w => l11Trim_any k (a / b) w (by unfold maxLen; omega) (by have := Lib.nDigits_pos a; have := HNa.out; omega) (Nat.lt_of_le_of_lt (Nat.div_le_self _ _) (by rw [← HNa.out]; exact Lib.lt_pow_nDigits a)))
      have hcv := HCv.out
      clear he
      go_wp2_with fail
      refine (HTr.out _).mono ?_
      rintro e w' ⟨rfl, hw⟩
      obtain rfl := hw.symm
      go_wp2_with fail
      go_ret2
      exact ⟨rfl, HB.out⟩
theorem l11Div_any (a b : Nat) (w : World) (hn : Lib.nDigits a ≤ 10000) (hbn : Lib.nDigits b ≤ 10000) (hb : 0 < b) :
    Calls Tryd.prog 33 #[.string (dec a), .string (dec b)] w fun e w' => e = .returned (.tuple #[.string (dec (a / b)), .string (dec (a % b))]) ∧ Below w.heap.size w w' := l11Div_of a b _ w rfl hn hbn hb

/-- The greatest number that divides both. -/
theorem gcd_step (a b : Nat) : Nat.gcd a b = Nat.gcd b (a % b) := by rw [Nat.gcd_comm a b, Nat.gcd_rec b a, Nat.gcd_comm]

set_option maxRecDepth 20000 in
set_option maxHeartbeats 2000000 in
theorem l11Gcd_any (a b : Nat) (w : World) (hn : Lib.nDigits a ≤ 10000) (hbn : Lib.nDigits b ≤ 10000) :
    Calls Tryd.prog 51 #[.string (dec a), .string (dec b)] w fun e w' => e = .returned (.string (dec (Nat.gcd a b))) ∧ Below w.heap.size w w' := by
  obtain ⟨G, HG⟩ : ∃ G : Nat, Hid (Nat.gcd a b = G) := ⟨_, rfl⟩
  rw [HG.out]
  have HN := hid hn
  have HBn := hid hbn
  have hz : dec 0 = ⟨#[48]⟩ := by rw [dec_small (by decide)]; rfl
  have HZ := hid hz
  clear hn hbn hz
  go_enter Tryd.func51, Tryd.ntmps51
  go_wp2_with fail
  go_loopw [0, 1] (fun x y wr => ∃ (u v : Nat), x = .string (dec u) ∧ y = .string (dec v) ∧ Hid (Nat.gcd u v = G) ∧ Hid (Lib.nDigits u ≤ 10000) ∧ Hid (Lib.nDigits v ≤ 10000) ∧ Hid (Below w.heap.size w wr)) (fun _ y _ => match y with | .string t => valT t | _ => 0)
  case atStart => exact ⟨a, b, rfl, rfl, HG.out, HN.out, HBn.out, Below.refl _ _⟩
  case round =>
    obtain ⟨u, v, rfl, rfl, HGu, HNu, HNv, HB⟩ := hrel
    have hsz := HB.out.size
    by_cases hv : v = 0
    · subst hv
      have hne : ((dec 0).toList == [48]) = true := by rw [HZ.out, Go.ByteArray.toList_eq]; rfl
      have HU : Hid (u = G) := by rw [← HGu.out]; exact (Nat.gcd_zero_right u).symm
      go_wp2_with fail
      go_ret
      exact ⟨ret_strz (by rw [HU.out]), HB.out⟩
    · have hne : ((dec v).toList == [48]) = false := by
        rw [beq_eq_false_iff_ne]
        intro e
        rw [Go.ByteArray.toList_eq] at e
        have h2 : dec v = dec 0 := by rw [HZ.out]; exact ba_ext e
        exact hv (dec_inj h2)
      have HD := hid (fun w => l11Div_any u v w HNu.out HNv.out (by omega))
      have HM : Hid (valT (dec (u % v)) < valT (dec v)) := by
        show _ < _
        rw [valT_dec, valT_dec]
        exact Nat.mod_lt _ (by omega)
      have HGs : Hid (Nat.gcd v (u % v) = G) := by show _ = _; rw [← gcd_step]; exact HGu.out
      have HN2 : Hid (Lib.nDigits (u % v) ≤ 10000) := by
        show _ ≤ _
        exact Nat.le_trans (nDigits_mono (Nat.le_of_lt (Nat.mod_lt _ (by omega)))) HNv.out
      clear hv
      go_wp2_with fail
      refine (HD.out _).mono ?_
      rintro e w2 ⟨rfl, hw⟩
      have HW := hid hw
      clear hw
      go_wp2_with fail
      refine ⟨⟨v, u % v, rfl, rfl, HGs, HNv, HN2, HB.out.trans (HW.out.mono hsz)⟩, ?_⟩
      exact HM.out
end Go.Proofs.YtbbffhpppacihaaDoor

namespace Go.Proofs.YtbbffhpppacihaaDoor
open Go.RowKit Go.Siskin

/-- What the law's own count leaves. -/
def szN (a b : Nat) (left : Int) : Int := if left - a < 0 then -1 else if left - a - b < 0 then -1 else left - a - b

set_option maxRecDepth 20000 in
set_option maxHeartbeats 1000000 in
theorem szNum_any (neg : Bool) (up down : ByteArray) (left : Int) (w : World) (h0 : 0 ≤ left) (h1 : left ≤ 1048576) (hu : up.size ≤ maxLen) (hd : down.size ≤ maxLen) :
    Calls Tryd.prog 8 #[.agg #[.bool neg, .string up, .string down], .int .i64 left] w fun e w' => e = .returned (.int .i64 (szN up.size down.size left)) ∧ Below w.heap.size w w' := by
  unfold maxLen at hu hd
  obtain ⟨a, HA⟩ : ∃ a : Nat, Hid (up.size = a) := ⟨_, rfl⟩
  obtain ⟨b, HB⟩ : ∃ b : Nat, Hid (down.size = b) := ⟨_, rfl⟩
  have ha : (up.size : Int) = (a : Int) := by rw [HA.out]
  have hb : (down.size : Int) = (b : Int) := by rw [HB.out]
  rw [HA.out] at hu ⊢
  rw [HB.out] at hd ⊢
  have HBw : Hid (Below w.heap.size w (w.alloc (.cells #[.bool neg, .string up, .string down] 23))) := (Below.refl _ _).alloc (Nat.le_refl _) _
  by_cases h2 : left - a < 0
  · have HV : Hid (szN a b left = -1) := by show _ = _; unfold szN; rw [if_pos h2]
    rw [HV.out]
    go_enter Tryd.func8, Tryd.ntmps8
    go_wp2_with fail
    go_ret
    exact ⟨rfl, HBw.out⟩
  · by_cases h3 : left - a - b < 0
    · have HV : Hid (szN a b left = -1) := by show _ = _; unfold szN; rw [if_neg h2, if_pos h3]
      rw [HV.out]
      go_enter Tryd.func8, Tryd.ntmps8
      go_wp2_with fail
      go_ret
      exact ⟨rfl, HBw.out⟩
    · have HV : Hid (szN a b left = left - a - b) := by show _ = _; unfold szN; rw [if_neg h2, if_neg h3]
      rw [HV.out]
      go_enter Tryd.func8, Tryd.ntmps8
      go_wp2_with fail
      go_ret
      exact ⟨rfl, HBw.out⟩

set_option maxRecDepth 20000 in
set_option maxHeartbeats 1000000 in
theorem toNum_any (neg : Bool) (up down : ByteArray) (w : World) :
    Calls Tryd.prog 10 #[.agg #[.bool neg, .string up, .string down]] w fun e w' => e = .returned (.agg #[.bool neg, .string up, .string down]) ∧ Below w.heap.size w w' := by
  go_enter Tryd.func10, Tryd.ntmps10
  go_wp2_with fail
  refine bodyPost_ret (v := .agg #[.bool neg, .string up, .string down]) ?_ rfl ⟨rfl, ?_⟩
  · simp [results, Tryd.results10, go_sem]
  · exact (((Below.refl _ _).alloc (Nat.le_refl _) _).alloc (by simp) _).alloc (by simp <;> omega) _

/-- What is a number. -/
def NumP (neg : Bool) (up down : ByteArray) : Prop := ∃ u d, up = dec u ∧ down = dec d ∧ up.size ≤ 60 ∧ down.size ≤ 60 ∧ OkUD neg u d

set_option maxRecDepth 20000 in
set_option maxHeartbeats 2000000 in
theorem implNumOk_any (neg : Bool) (up down : ByteArray) (w : World) (hu : up.size ≤ maxLen) (hd : down.size ≤ maxLen) (hP : Pow9 w) (b : Bool) (hb : b = true ↔ NumP neg up down) :
    Calls Tryd.prog 20 #[.agg #[.bool neg, .string up, .string down]] w fun e w' => e = .returned (.bool b) ∧ Below w.heap.size w w' := by
  have HBw : Hid (Below (w.heap.size + 1) (w.alloc (.cells #[.bool neg, .string up, .string down] 25)) (w.alloc (.cells #[.bool neg, .string up, .string down] 25))) := Below.refl _ _
  obtain ⟨n0, n1, n2⟩ := res3 HBw.out
  by_cases ht : (DecP up ∧ up.size ≤ 60) ∧ (DecP down ∧ down.size ≤ 60)
  · obtain ⟨⟨du, su⟩, ⟨dd, sd⟩⟩ := ht
    obtain ⟨u, rfl⟩ := (decP_iff up).1 du
    obtain ⟨d, rfl⟩ := (decP_iff down).1 dd
    have su' := su
    have sd' := sd
    rw [dec_size] at su' sd'
    have hOK : OkUD neg u d ↔ NumP neg (dec u) (dec d) := ⟨fun h => ⟨u, d, rfl, rfl, su, sd, h⟩, fun ⟨u', d', e1, e2, _, _, h⟩ => by rw [dec_inj e1, dec_inj e2]; exact h⟩
    have HO := hid (fun w (h : Pow9 w) => openNum_dec neg u d w su' sd' h)
    have HP := hid hP
    have HOK := hid hOK
    have HBb := hid hb
    clear hOK hb du dd su sd su' sd' hP
    generalize dec u = up at *
    generalize dec d = down at *
    go_enter Tryd.func20, Tryd.ntmps20
    go_wp2_with fail
    refine (HO.out _ (HP.out.alloc _)).mono ?_
    rintro e w1 ⟨F, bb, rfl, hw, hcase⟩
    have HW := hid (((Below.refl w.heap.size w).alloc (Nat.le_refl _) _).trans (hw.mono (by simp)))
    have hs1 : w.heap.size ≤ w1.heap.size := HW.out.size
    rcases hcase with ⟨rfl, hok, vu, vd, rfl, hvu, hvd⟩ | ⟨rfl, hno, rfl⟩
    · have HV : Hid (true = b) := (HBb.out.2 (HOK.out.1 hok)).symm
      obtain ⟨ua, uc, rfl⟩ := natA_form hvu
      obtain ⟨da, dc, rfl⟩ := natA_form hvd
      clear hvu hvd hw hok
      go_wp2_with fail
      go_ret
      exact ⟨ret_boolz HV.out, HW.out.alloc hs1 _⟩
    · have HV : Hid (false = b) := by
        show _ = _
        cases hbb : b with
        | false => rfl
        | true => exact absurd (HOK.out.2 (HBb.out.1 hbb)) hno
      clear hw hno
      go_wp2_with fail
      go_ret
      exact ⟨ret_boolz HV.out, HW.out.alloc hs1 _⟩
  · have HV : Hid (false = b) := by
      show _ = _
      cases hbb : b with
      | false => rfl
      | true =>
        obtain ⟨u, d, e1, e2, h1, h2, -⟩ := hb.1 hbb
        exact absurd ⟨⟨(decP_iff up).2 ⟨u, e1⟩, h1⟩, ⟨(decP_iff down).2 ⟨d, e2⟩, h2⟩⟩ ht
    have HO := hid (fun w => openNum_text neg up down w hu hd ht)
    clear ht hb
    go_enter Tryd.func20, Tryd.ntmps20
    go_wp2_with fail
    refine (HO.out _).mono ?_
    rintro e w1 ⟨rfl, hw⟩
    have HW := hid (((Below.refl w.heap.size w).alloc (Nat.le_refl _) _).trans (hw.mono (by simp)))
    have hs1 : w.heap.size ≤ w1.heap.size := HW.out.size
    clear hw
    go_wp2_with fail
    go_ret
    exact ⟨ret_boolz HV.out, HW.out.alloc hs1 _⟩
theorem nought_text (v : Nat) : ((dec v).toList == [48]) = decide (v = 0) := by
  rw [Bool.eq_iff_iff, decide_eq_true_eq, beq_iff_eq, Go.ByteArray.toList_eq]
  have hz : dec 0 = ⟨#[48]⟩ := by rw [dec_small (by decide)]; rfl
  constructor
  · intro e
    have h2 : dec v = dec 0 := by rw [hz]; exact ba_ext e
    exact dec_inj h2
  · rintro rfl; rw [hz]
theorem one_text (v : Nat) : ((dec v).toList == [49]) = decide (v = 1) := by
  rw [Bool.eq_iff_iff, decide_eq_true_eq, beq_iff_eq, Go.ByteArray.toList_eq]
  have hz : dec 1 = ⟨#[49]⟩ := dec_one
  constructor
  · intro e
    have h2 : dec v = dec 1 := by rw [hz]; exact ba_ext e
    exact dec_inj h2
  · rintro rfl; rw [hz]

set_option maxRecDepth 20000 in
set_option maxHeartbeats 4000000 in
theorem specNumOk_any (neg : Bool) (up down : ByteArray) (w : World) (hu : up.size ≤ maxLen) (hd : down.size ≤ maxLen) (b : Bool) (hb : b = true ↔ NumP neg up down) :
    Calls Tryd.prog 21 #[.agg #[.bool neg, .string up, .string down]] w fun e w' => e = .returned (.bool b) ∧ Below w.heap.size w w' := by
  have HBw : Hid (Below (w.heap.size + 1) (w.alloc (.cells #[.bool neg, .string up, .string down] 25)) (w.alloc (.cells #[.bool neg, .string up, .string down] 25))) := Below.refl _ _
  have HBd : Hid (Below w.heap.size w (w.alloc (.cells #[.bool neg, .string up, .string down] 25))) := (Below.refl _ _).alloc (Nat.le_refl _) _
  obtain ⟨n0, n1, n2⟩ := res3 HBw.out
  have HBb := hid hb
  have HUl := hid hu
  have HDl := hid hd
  unfold maxLen at hu hd
  clear hb
  by_cases h1 : 60 < up.size
  · have HV : Hid (false = b) := by
      show _ = _
      cases hbb : b with
      | false => rfl
      | true =>
        obtain ⟨u', d', e1, e2, s1, s2, ok⟩ := HBb.out.1 hbb
        omega
    go_enter Tryd.func21, Tryd.ntmps21
    go_wp2_with fail
    go_ret
    exact ⟨ret_boolz HV.out, HBd.out⟩
  by_cases h2 : 60 < down.size
  · have HV : Hid (false = b) := by
      show _ = _
      cases hbb : b with
      | false => rfl
      | true =>
        obtain ⟨u', d', e1, e2, s1, s2, ok⟩ := HBb.out.1 hbb
        omega
    go_enter Tryd.func21, Tryd.ntmps21
    go_wp2_with fail
    go_ret
    exact ⟨ret_boolz HV.out, HBd.out⟩
  by_cases h3 : DecP up
  rotate_left
  · have HV : Hid (false = b) := by
      show _ = _
      cases hbb : b with
      | false => rfl
      | true =>
        obtain ⟨u', d', e1, e2, s1, s2, ok⟩ := HBb.out.1 hbb
        exact absurd ((decP_iff up).2 ⟨u', e1⟩) h3
    have HU := hid (fun w => l11DigitsOk_any up w HUl.out false ⟨fun h => (by cases h), fun h => absurd h h3⟩)
    clear h3
    go_enter Tryd.func21, Tryd.ntmps21
    go_wp2_with fail
    refine (HU.out _).mono ?_
    rintro e w' ⟨rfl, hw⟩
    subst hw
    go_wp2_with fail
    go_ret
    exact ⟨ret_boolz HV.out, HBd.out⟩
  have HU := hid (fun w => l11DigitsOk_any up w HUl.out true ⟨fun _ => h3, fun _ => rfl⟩)
  by_cases h4 : DecP down
  rotate_left
  · have HV : Hid (false = b) := by
      show _ = _
      cases hbb : b with
      | false => rfl
      | true =>
        obtain ⟨u', d', e1, e2, s1, s2, ok⟩ := HBb.out.1 hbb
        exact absurd ((decP_iff down).2 ⟨d', e2⟩) h4
    have HD := hid (fun w => l11DigitsOk_any down w HDl.out false ⟨fun h => (by cases h), fun h => absurd h h4⟩)
    clear h3 h4
    go_enter Tryd.func21, Tryd.ntmps21
    go_wp2_with fail
    refine (HU.out _).mono ?_
    rintro e w' ⟨rfl, hw⟩
    subst hw
    go_wp2_with fail
    refine (HD.out _).mono ?_
    rintro e w' ⟨rfl, hw⟩
    subst hw
    go_wp2_with fail
    go_ret
    exact ⟨ret_boolz HV.out, HBd.out⟩
  have HD := hid (fun w => l11DigitsOk_any down w HDl.out true ⟨fun _ => h4, fun _ => rfl⟩)
  obtain ⟨u, rfl⟩ := (decP_iff up).1 h3
  obtain ⟨d, rfl⟩ := (decP_iff down).1 h4
  have HSu : Hid ((dec u).size ≤ 60) := by show _ ≤ _; omega
  have HSd : Hid ((dec d).size ≤ 60) := by show _ ≤ _; omega
  have hzd := nought_text d
  have hzu := nought_text u
  have HGc := hid (fun w => l11Gcd_any u d w (by have := HSu.out; rw [dec_size] at this; omega) (by have := HSd.out; rw [dec_size] at this; omega))
  have hno : ¬ OkUD neg u d → Hid (false = b) := fun h => by
    show _ = _
    cases hbb : b with
    | false => rfl
    | true =>
      obtain ⟨u', d', e1, e2, s1, s2, ok⟩ := HBb.out.1 hbb
      rw [← dec_inj e1, ← dec_inj e2] at ok
      exact absurd ok h
  have HNo := hid hno
  clear hno h3 h4
  by_cases hd0 : d = 0
  · rw [decide_eq_true hd0] at hzd
    have HV := HNo.out (fun h => h.1 hd0)
    clear hd0 hzu HNo
    generalize dec u = up at *
    generalize dec d = down at *
    go_enter Tryd.func21, Tryd.ntmps21
    go_wp2_with fail
    refine (HU.out _).mono ?_
    rintro e w' ⟨rfl, hw⟩
    subst hw
    go_wp2_with fail
    refine (HD.out _).mono ?_
    rintro e w' ⟨rfl, hw⟩
    subst hw
    go_wp2_with fail
    go_ret
    exact ⟨ret_boolz HV.out, HBd.out⟩
  · rw [decide_eq_false hd0] at hzd
    by_cases hnu : neg = true ∧ u = 0
    · rw [decide_eq_true hnu.2] at hzu
      have HV := HNo.out (fun h => h.2.1 hnu)
      obtain ⟨rfl, -⟩ := hnu
      clear hd0 HNo
      generalize dec u = up at *
      generalize dec d = down at *
      go_enter Tryd.func21, Tryd.ntmps21
      go_wp2_with fail
      refine (HU.out _).mono ?_
      rintro e w' ⟨rfl, hw⟩
      subst hw
      go_wp2_with fail
      refine (HD.out _).mono ?_
      rintro e w' ⟨rfl, hw⟩
      subst hw
      go_wp2_with fail
      go_ret
      exact ⟨ret_boolz HV.out, HBd.out⟩
    · obtain ⟨G, HG⟩ : ∃ G : Nat, Hid (Nat.gcd u d = G) := ⟨_, rfl⟩
      have HV : Hid (decide (G = 1) = b) := by
        show _ = _
        by_cases h1 : G = 1
        · rw [decide_eq_true h1]
          exact (HBb.out.2 ⟨u, d, rfl, rfl, HSu.out, HSd.out, hd0, hnu, by rw [HG.out, h1]⟩).symm
        · rw [decide_eq_false h1]
          exact HNo.out (fun h => h1 (by rw [← HG.out]; exact h.2.2))
      have hzg := one_text G
      rw [HG.out] at HGc
      clear HNo hd0
      cases neg with
      | false =>
        clear hnu hzu
        generalize dec u = up at *
        generalize dec d = down at *
        generalize dec G = gt at *
        go_enter Tryd.func21, Tryd.ntmps21
        go_wp2_with fail
        refine (HU.out _).mono ?_
        rintro e w' ⟨rfl, hw⟩
        subst hw
        go_wp2_with fail
        refine (HD.out _).mono ?_
        rintro e w' ⟨rfl, hw⟩
        subst hw
        go_wp2_with fail
        refine (HGc.out _).mono ?_
        rintro e w2 ⟨rfl, hw2⟩
        have HW2 := hid (HBd.out.trans (hw2.mono (by simp)))
        clear hw2
        go_wp2_with fail
        go_ret
        exact ⟨ret_boolz HV.out, HW2.out⟩
      | true =>
        have hu0 : ¬ u = 0 := fun h => hnu ⟨rfl, h⟩
        rw [decide_eq_false hu0] at hzu
        clear hnu hu0
        generalize dec u = up at *
        generalize dec d = down at *
        generalize dec G = gt at *
        go_enter Tryd.func21, Tryd.ntmps21
        go_wp2_with fail
        refine (HU.out _).mono ?_
        rintro e w' ⟨rfl, hw⟩
        subst hw
        go_wp2_with fail
        refine (HD.out _).mono ?_
        rintro e w' ⟨rfl, hw⟩
        subst hw
        go_wp2_with fail
        refine (HGc.out _).mono ?_
        rintro e w2 ⟨rfl, hw2⟩
        have HW2 := hid (HBd.out.trans (hw2.mono (by simp)))
        clear hw2
        go_wp2_with fail
        go_ret
        exact ⟨ret_boolz HV.out, HW2.out⟩

end Go.Proofs.YtbbffhpppacihaaDoor

namespace Go.Proofs.YtbbffhpppacihaaDoor
open Go.RowKit Go.Siskin

abbrev noAns (c : Int) : Value := .tuple #[.agg #[.bool false, .string ⟨#[]⟩, .string ⟨#[]⟩], .int .i64 c]
/-- The answer of a sign, above and below: what is not too big, or code 3. -/
def ansQ (neg : Bool) (u d : Nat) : Value :=
  if Lib.nDigits (u / Nat.gcd u d) ≤ 60 ∧ Lib.nDigits (d / Nat.gcd u d) ≤ 60 then .tuple #[.agg #[.bool (neg && !(u / Nat.gcd u d == 0)), .string (dec (u / Nat.gcd u d)), .string (dec (d / Nat.gcd u d))], .int .i64 0] else noAns 3
theorem ansQ_parts (neg : Bool) (u d : Nat) : (∃ (n : Bool) (x y : ByteArray), closedV neg (u / Nat.gcd u d) (d / Nat.gcd u d) = .tuple #[.agg #[.bool n, .string x, .string y], .bool true] ∧ ansQ neg u d = .tuple #[.agg #[.bool n, .string x, .string y], .int .i64 0]) ∨
    (closedV neg (u / Nat.gcd u d) (d / Nat.gcd u d) = .tuple #[.agg #[.bool false, .string ⟨#[]⟩, .string ⟨#[]⟩], .bool false] ∧ ansQ neg u d = noAns 3) := by
  by_cases h : Lib.nDigits (u / Nat.gcd u d) ≤ 60 ∧ Lib.nDigits (d / Nat.gcd u d) ≤ 60
  · exact Or.inl ⟨_, _, _, if_pos h, if_pos h⟩
  · exact Or.inr ⟨if_neg h, if_neg h⟩

set_option maxRecDepth 20000 in
set_option maxHeartbeats 2000000 in
theorem answerOf_any (n m : Bool) (u d : Nat) (a b : Option Addr) (l c k e0 : Nat) (w : World) (hu : NatA w (.slice a l c) (grp u)) (hd : NatA w (.slice b k e0) (grp d)) (hnu : nG u ≤ 1000) (hnd : nG d ≤ 1000) (hd0 : 0 < d) (hP : Pow9 w) :
    Calls Tryd.prog 41 #[.agg #[.bool n, .slice a l c, .bool m, .slice b k e0]] w fun e w' => e = .returned (ansQ (n != m) u d) ∧ Below w.heap.size w w' := by
  obtain ⟨s, hs⟩ : ∃ s, (n != m) = s := ⟨_, rfl⟩
  have hs2 : (!n == m) = s := hs
  rw [hs]
  obtain ⟨W0, HW0⟩ : ∃ W, Hid ((w.alloc (boxR n (.slice a l c) m (.slice b k e0))).alloc (.cells #[.bool false, .string ⟨#[]⟩, .string ⟨#[]⟩] 25) = W) := ⟨_, rfl⟩
  have HX : Hid (∀ W, Below (w.heap.size + 2) W0 W → Own W w.heap.size 61 #[.bool n, .slice a l c, .bool m, .slice b k e0] ∧ Own W (w.heap.size + 1) 25 #[.bool false, .string ⟨#[]⟩, .string ⟨#[]⟩] ∧ Below w.heap.size w W) := fun W h => by
    rw [← HW0.out] at h
    exact boxes2 w _ _ _ _ h
  have HS0 : Hid (w.heap.size + 2 ≤ W0.heap.size) := by show _ ≤ _; rw [← HW0.out]; simp
  have HB0 : Hid (Below (w.heap.size + 2) W0 W0) := Below.refl _ _
  obtain ⟨⟨a0, a1, a2, a3⟩, -⟩ := own4V (HX.out _ HB0.out).1
  obtain ⟨⟨r0, r1, r2⟩, q0, q1, q2⟩ := own3V (HX.out _ HB0.out).2.1
  have HB1 : Hid (Below (w.heap.size + 2) W0 (W0.alloc (.cells #[.bool s, .slice a l c, .slice b k e0] 71))) := HB0.out.alloc HS0.out _
  have hb1 := (HX.out _ HB1.out).2.2
  have HCl := hid (closed_any s u d (.slice a l c) (.slice b k e0) _ (hu.below hb1 (Nat.le_refl _)) (hd.below hb1 (Nat.le_refl _)) hnu hnd hd0 (hP.below hb1 (Nat.le_refl _)))
  have hsz1 : w.heap.size + 2 ≤ (W0.alloc (.cells #[.bool s, .slice a l c, .slice b k e0] 71)).heap.size := HB1.out.size |> Nat.le_trans HS0.out
  have h4 := own_new W0 #[.bool s, .slice a l c, .slice b k e0] 71
  obtain ⟨⟨b0, b1, b2⟩, -⟩ := own3V h4
  have HSz1 := hid hsz1
  rcases ansQ_parts s u d with ⟨ma, mx, my, h1, h2⟩ | ⟨h1, h2⟩
  all_goals
    rw [h2]
    rw [h1] at HCl
    clear h1 h2 hu hd hnu hnd hd0 hP hb1 hs h4 hsz1
    go_enter Tryd.func41, Tryd.ntmps41
    go_wp2_with fail
    rw [HW0.out]
    go_wp2_with fail
    refine HCl.out.mono ?_
    rintro e w3 ⟨rfl, hw3⟩
    have HB3 := hid (HB1.out.trans (hw3.mono HSz1.out))
    clear hw3 a0 a1 a2 a3 b0 b1 b2 r0 r1 r2 q0 q1 q2
    obtain ⟨⟨r0, r1, r2⟩, q0, q1, q2⟩ := own3V (HX.out _ HB3.out).2.1
    have hs3 : w.heap.size + 2 ≤ w3.heap.size := Nat.le_trans HS0.out HB3.out.size
    have hlt3 : w.heap.size + 1 < w3.heap.size := by omega
    go_wp2_with fail
    have hb5 := fun x y z => (((HX.out _ HB3.out).2.2.setCell (p := ⟨w.heap.size + 1, 0, none⟩) (Nat.le_succ _) x).setCell (p := ⟨w.heap.size + 1, 1, none⟩) (Nat.le_succ _) y).setCell (p := ⟨w.heap.size + 1, 2, none⟩) (Nat.le_succ _) z
    first
      | (refine bodyPost_ret (v := .tuple #[.agg #[.bool ma, .string mx, .string my], .int .i64 0]) (by simp [results, Tryd.results41, go_sem, r0, r1, r2, hlt3]) rfl ⟨rfl, ?_⟩
         exact (hb5 _ _ _).alloc (by simp [World.setCell]; omega) _)
      | (refine bodyPost_ret (v := noAns 3) (by simp [results, Tryd.results41, go_sem, r0, r1, r2, hlt3]) rfl ⟨rfl, ?_⟩
         exact (hb5 _ _ _).alloc (by simp [World.setCell]; omega) _)

/-- What a number that comes in is opened to. -/
def OpenP (neg : Bool) (up down : ByteArray) (b p : Bool) (U D : Nat) : Prop :=
  (b = true ∧ p = neg ∧ up = dec U ∧ down = dec D ∧ up.size ≤ 60 ∧ down.size ≤ 60 ∧ OkUD neg U D) ∨ (b = false ∧ ¬ NumP neg up down ∧ p = false ∧ U = 0 ∧ D = 0)
theorem OpenP.small {neg : Bool} {up down : ByteArray} {b p : Bool} {U D : Nat} (h : OpenP neg up down b p U D) : nG U ≤ 60 ∧ nG D ≤ 60 := by
  rcases h with ⟨-, -, e1, e2, h1, h2, -⟩ | ⟨-, -, -, rfl, rfl⟩
  · rw [e1, dec_size] at h1
    rw [e2, dec_size] at h2
    unfold nG
    constructor <;> split <;> omega
  · exact ⟨Nat.zero_le _, Nat.zero_le _⟩
theorem openNum_all (neg : Bool) (up down : ByteArray) (hu : up.size ≤ maxLen) (hd : down.size ≤ maxLen) : ∃ b p U D, OpenP neg up down b p U D ∧
    ∀ w, Pow9 w → Calls Tryd.prog 49 #[.agg #[.bool neg, .string up, .string down]] w fun e w' => ∃ ua uc da dc, e = .returned (.tuple #[.agg #[.bool p, .slice ua (grp U).length uc, .slice da (grp D).length dc], .bool b]) ∧ NatA w' (.slice ua (grp U).length uc) (grp U) ∧ NatA w' (.slice da (grp D).length dc) (grp D) ∧ Below w.heap.size w w' := by
  by_cases h : NumP neg up down
  · obtain ⟨u, d, rfl, rfl, su, sd, hok⟩ := h
    refine ⟨true, neg, u, d, Or.inl ⟨rfl, rfl, rfl, rfl, su, sd, hok⟩, fun w hP => ?_⟩
    rw [dec_size] at su sd
    refine (openNum_dec neg u d w su sd hP).mono ?_
    rintro e w' ⟨F, b, rfl, hb, h | h⟩
    · obtain ⟨rfl, -, vu, vd, rfl, h1, h2⟩ := h
      obtain ⟨ua, uc, rfl⟩ := natA_formR h1
      obtain ⟨da, dc, rfl⟩ := natA_formR h2
      exact ⟨ua, uc, da, dc, rfl, h1, h2, hb⟩
    · exact absurd hok h.2.1
  · refine ⟨false, false, 0, 0, Or.inr ⟨rfl, h, rfl, rfl, rfl⟩, fun w hP => ?_⟩
    by_cases ht : (DecP up ∧ up.size ≤ 60) ∧ (DecP down ∧ down.size ≤ 60)
    · obtain ⟨⟨hu1, su⟩, hd1, sd⟩ := ht
      obtain ⟨u, rfl⟩ := (decP_iff up).1 hu1
      obtain ⟨d, rfl⟩ := (decP_iff down).1 hd1
      have su' := su
      have sd' := sd
      rw [dec_size] at su' sd'
      refine (openNum_dec neg u d w su' sd' hP).mono ?_
      rintro e w' ⟨F, b, rfl, hb, h2 | h2⟩
      · exact absurd ⟨u, d, rfl, rfl, su, sd, h2.2.1⟩ h
      · obtain ⟨rfl, -, rfl⟩ := h2
        exact ⟨none, 0, none, 0, rfl, NatA.nil, NatA.nil, hb⟩
    · refine (openNum_text neg up down w hu hd ht).mono ?_
      rintro e w' ⟨rfl, hb⟩
      exact ⟨none, 0, none, 0, rfl, NatA.nil, NatA.nil, hb⟩
end Go.Proofs.YtbbffhpppacihaaDoor
