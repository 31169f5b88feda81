/-
  The model's l11Div: what comes of dividing numerals, and what is left. Condition: numerals of at most 10,000 digits, the second above nought.
  The model's l11Small: the numeral of a number of the machine.
  The model's l12Out: a natural number in a radix. Condition: a numeral of at most 100 digits; the radix one of four.
  The program's digits of a natural. Condition: the groups lie in memory as NatA says, and the table of powers stands.
  A letter of a constant text by its place; the program's isOk and the model's l12Radix.
  The model's l12Digit and l12Nat: digits in a radix. Condition: at most 480 bytes.
-/
import Derived.Test.YtakicnplmcemnaaDoorPart3
import Derived.Test.YtakicnplmcemnaaDoorPart1
import Derived.Test.YtakicnplmcemnaaDoorPart2
namespace Go.Proofs.YtakicnplmcemnaaDoor
open Go.RowKit Go.Siskin

theorem cut_one (m v i : Nat) (h : i < m) : (digT m v).extract i (i + 1) = ⟨#[UInt8.ofNat (48 + v / 10 ^ (m - 1 - i) % 10)]⟩ := by
  apply ba_ext
  rw [ByteArray.data_extract, Array.toList_extract]
  show ((digL m v).toArray.toList.drop i).take (i + 1 - i) = _
  rw [List.toList_toArray, Nat.add_sub_cancel_left]
  apply List.ext_getElem
  · simp [digL]; omega
  · intro j h1 h2
    simp at h2
    subst h2
    simp [digL, Lib.dg]

set_option maxRecDepth 20000 in
set_option maxHeartbeats 2000000 in
theorem l11Div_of (a b n : Nat) (w : World) (HNa : Hid (Lib.nDigits a = n)) (hn : n ≤ 10000) (hbn : Lib.nDigits b ≤ 10000) (hb : 0 < b) :
    Calls Tryd.prog 71 #[.string (dec a), .string (dec b)] w fun e w' => e = .returned (.tuple #[.string (dec (a / b)), .string (dec (a % b))]) ∧ Below w.heap.size w w' := by
  have hla : ((dec a).size : Int) = (n : Int) := by rw [dec_size, HNa.out]
  have HCut : Hid (∀ i, i < n → (dec a).extract i (i + 1) = ⟨#[UInt8.ofNat (48 + a / 10 ^ (n - 1 - i) % 10)]⟩) := fun i hi => by unfold dec; rw [HNa.out]; exact cut_one n a i hi
  have HBp := hid hb
  have HBn := hid hbn
  obtain ⟨i0, hi, hz0, hz1, hz2⟩ := info_partsZ Tryd.infoByteZ2
  have Hi := hid hi
  have Hz0 := hid hz0
  have Hz1 := hid hz1
  have Hz2 := hid hz2
  clear hi hz0 hz1 hz2 hb hbn
  go_enter Tryd.func71, Tryd.ntmps71
  go_wp2_with fail
  go_loopw [6, 7, 8] (fun q r i wr => ∃ (k g cap : Nat), q = .slice (some ⟨g, 0, none⟩) k cap ∧ r = .string (dec (a / 10 ^ (n - k) % b)) ∧ i = .int .i64 k ∧ k ≤ n ∧ Hid (wr.ownsRow w.heap.size 5 1 (.slice (some ⟨g, 0, none⟩) k cap) k (byteL (digT k (a / 10 ^ (n - k) / b)))) ∧ Hid (Below w.heap.size w wr)) (fun _ _ i _ => n - (intOf i).toNat)
  case atStart =>
    have h0 : a / 10 ^ (n - 0) = 0 := by rw [Nat.sub_zero, ← HNa.out]; exact Nat.div_eq_of_lt (Lib.lt_pow_nDigits a)
    refine ⟨0, _, 0, rfl, ?_, rfl, Nat.zero_le _, ?_, (Below.refl _ _).alloc (Nat.le_refl _) _⟩
    · rw [h0, Nat.zero_mod, dec_small (by decide)]; rfl
    · show World.ownsRow _ _ _ _ _ _ _
      rw [h0, Nat.zero_div]
      exact World.ownsRow_made w #[] 0 (Nat.le_refl _) (Nat.zero_le _) (by simp)
  case round =>
    obtain ⟨k, g, cap, rfl, rfl, rfl, hk, HU, HB⟩ := hrel
    have hsz := HB.out.size
    by_cases hlt : k < n
    · have hst := div_step (a := a) (n := n) HBp.out hlt
      obtain ⟨r, HR⟩ : ∃ r : Nat, Hid (a / 10 ^ (n - k) % b = r) := ⟨_, rfl⟩
      obtain ⟨q, HQ⟩ : ∃ q : Nat, Hid (a / 10 ^ (n - k) / b = q) := ⟨_, rfl⟩
      obtain ⟨d, HD⟩ : ∃ d : Nat, Hid (a / 10 ^ (n - 1 - k) % 10 = d) := ⟨_, rfl⟩
      have hd10 : d < 10 := by rw [← HD.out]; exact Nat.mod_lt _ (by decide)
      have hcut := HCut.out k hlt
      rw [HD.out] at hcut
      rw [HR.out, HQ.out, HD.out] at hst
      rw [HQ.out] at HU
      rw [HR.out]
      have hrb : r < b := by rw [← HR.out]; exact Nat.mod_lt _ HBp.out
      have HST := hid hst
      have hrs : (dec r).size ≤ 10000 := by rw [dec_size]; exact Nat.le_trans (nDigits_mono (Nat.le_of_lt hrb)) HBn.out
      have HCat := hid (digT_snoc (Lib.nDigits r) r d hd10)
      obtain ⟨c, HCc⟩ : ∃ c : UInt8, Hid (UInt8.ofNat (48 + d) = c) := ⟨_, rfl⟩
      rw [HCc.out] at hcut HCat
      have HTr := hid (fun w => l11Trim_any (Lib.nDigits r + 1) (r * 10 + d) w (by rw [dec_size] at hrs; unfold maxLen; omega) (by omega) (by rw [Nat.pow_succ]; have := Lib.lt_pow_nDigits r; omega))
      rw [← HCat.out] at HTr
      clear hst
      go_wp2_with fail
      refine (HTr.out _).mono ?_
      rintro e w' ⟨rfl, hw⟩
      obtain rfl := hw.symm
      obtain ⟨R, HRR⟩ : ∃ R : Nat, Hid (r * 10 + d = R) := ⟨_, rfl⟩
      rw [HRR.out] at HST ⊢
      clear HTr HCat hcut
      go_wp2_with fail
      rename World => w1
      go_loopw [7, 9] (fun rr nn wr => ∃ j : Nat, rr = .string (dec (R - j * b)) ∧ nn = .int .u8 ((48 + j : Nat) : Int) ∧ Hid (j * b ≤ R) ∧ j ≤ 9 ∧ Hid (Below w1.heap.size w1 wr)) (fun _ nn _ => (60 - intOf nn).toNat)
      case atStart => exact ⟨0, by rw [Nat.zero_mul]; rfl, rfl, by show _ ≤ _; omega, by omega, Below.refl _ _⟩
      case round =>
        obtain ⟨j, rfl, rfl, HJ, hj, HB2⟩ := hrel
        have hs2 := HB2.out.size
        have HCm := hid (l11Cmp_any (R - j * b) b)
        by_cases hge : b ≤ R - j * b
        · have HV : Hid (0 ≤ cmpI (R - j * b) b) := by
            show _ ≤ _; unfold cmpI; rw [if_neg (by omega)]; split <;> omega
          have hj9 : j < 9 := by
            rcases Nat.lt_or_ge j 9 with h | h
            · exact h
            · exfalso
              have e : j = 9 := by omega
              subst e
              have := HST.out.2.2; omega
          have HSb := hid (fun w => l11Sub_any (R - j * b) b w (by
            have h1 : Lib.nDigits (R - j * b) ≤ Lib.nDigits b + 1 := nDigits_le (by rw [Nat.pow_succ]; have := Lib.lt_pow_nDigits b; have := HST.out.2.2; omega) (by omega)
            have := HBn.out; omega) hge)
          have HE : Hid (R - j * b - b = R - (j + 1) * b) := by show _ = _; rw [Nat.succ_mul]; omega
          rw [HE.out] at HSb
          have HJ2 : Hid ((j + 1) * b ≤ R) := by
            have h := HJ.out
            show _ ≤ _; rw [Nat.succ_mul]; omega
          obtain ⟨cv, HCV⟩ : ∃ cv : Int, Hid (cmpI (R - j * b) b = cv) := ⟨_, rfl⟩
          rw [HCV.out] at HCm
          have hcv : 0 ≤ cv := by rw [← HCV.out]; exact HV.out
          clear hge HV
          go_wp2_with fail
          refine (HCm.out _).mono ?_
          rintro e w' ⟨rfl, hw⟩
          obtain rfl := hw.symm
          go_wp2_with fail
          refine (HSb.out _).mono ?_
          rintro e w3 ⟨rfl, hw3⟩
          have HW3 := hid hw3
          clear hw3
          go_wp2_with fail
          refine ⟨⟨j + 1, rfl, by congr 1, HJ2, by omega, HB2.out.trans (HW3.out.mono hs2)⟩, by simp [intOf]; omega⟩
        · have HV : Hid (cmpI (R - j * b) b < 0) := by
            show _ < _; unfold cmpI; rw [if_pos (by omega)]; omega
          obtain ⟨cv, HCV⟩ : ∃ cv : Int, Hid (cmpI (R - j * b) b = cv) := ⟨_, rfl⟩
          rw [HCV.out] at HCm
          have hcv : cv < 0 := by rw [← HCV.out]; exact HV.out
          have HJq : Hid (R / b = j ∧ R % b = R - j * b) := by
            have h := HJ.out
            have hb := HBp.out
            have e : R = b * j + (R - j * b) := by rw [Nat.mul_comm b j]; omega
            generalize R - j * b = z at *
            constructor
            · rw [e, Nat.mul_add_div hb, Nat.div_eq_of_lt (by omega), Nat.add_zero]
            · rw [e, Nat.mul_add_mod, Nat.mod_eq_of_lt (by omega)]
          have HU2 : Hid (wr.ownsRow w.heap.size 5 1 (.slice (some ⟨g, 0, none⟩) k cap) k (byteL (digT k q))) := World.ownsRow.kept (row := none) HU.out ⟨HB2.out.os, HB2.out.tape, HB2.out.output, HB2.out.size, fun i hi _ => HB2.out.block i hi⟩ (Or.inr (by simp [Value.ownBlock]))
          have hsz2 : w.heap.size ≤ wr.heap.size := by omega
          clear hge HV
          go_wp2_with fail
          refine (HCm.out _).mono ?_
          rintro e w' ⟨rfl, hw⟩
          obtain rfl := hw.symm
          go_wp2_with (at_builtin; go_loud (refine wpList_append_lies _ rfl _ _ _ rfl w.heap.size 5 i0 (.int .u8 0) 1 1 Tryd.underlying67 Hi.out Hz0.out Hz1.out Hz2.out rfl (by decide) _ k (byteL (digT k q)) rfl (HU2.out.alloc _) ⟨wr.heap.size, 0, none⟩ 1 1 [.int .u8 ((48 + j : Nat) : Int)] rfl rfl (cell_one_newZ _ _ _) (by simp [Value.oneCell']) (by omega) (by unfold maxLen; omega) (by omega) (by simp; omega) (wr.heap.size + 1) (by simp) ?_; intro gg cc w4 hown' hg hat hgl; have hall := (World.grownBy_alloc wr _ _).trans hg))
          have hlow : ∀ g', (Value.slice (some ⟨g, 0, none⟩) k cap).ownBlock = some g' → w.heap.size ≤ g' := fun g' e => (HU2.out.lt g' e).1
          refine ⟨⟨k + 1, gg, cc, rfl, ?_, by go_num, by omega, ?_, (HB.out.trans (HB2.out.mono hsz)).grown hall hsz2 hlow⟩, by simp [intOf]; omega⟩
          · rw [HST.out.2.1, HJq.out.2]
          · show World.ownsRow _ _ _ _ _ _ _
            rw [HST.out.1, HJq.out.1, byteL_snoc k q j (by omega)]
            exact hown'
    · have hkn : k = n := by omega
      subst hkn
      have he : a / 10 ^ (k - k) = a := by rw [Nat.sub_self, Nat.pow_zero, Nat.div_one]
      rw [he] at HU ⊢
      have HCv := hid (conv_back wr w.heap.size k g cap _ HU.out)
      have HTr := hid (fun w => l11Trim_any k (a / b) w (by unfold maxLen; omega) (by have := Lib.nDigits_pos a; have := HNa.out; omega) (Nat.lt_of_le_of_lt (Nat.div_le_self _ _) (by rw [← HNa.out]; exact Lib.lt_pow_nDigits a)))
      have hcv := HCv.out
      clear he
      go_wp2_with fail
      refine (HTr.out _).mono ?_
      rintro e w' ⟨rfl, hw⟩
      obtain rfl := hw.symm
      go_wp2_with fail
      go_ret2
      exact ⟨rfl, HB.out⟩
theorem l11Div_any (a b : Nat) (w : World) (hn : Lib.nDigits a ≤ 10000) (hbn : Lib.nDigits b ≤ 10000) (hb : 0 < b) :
    Calls Tryd.prog 71 #[.string (dec a), .string (dec b)] w fun e w' => e = .returned (.tuple #[.string (dec (a / b)), .string (dec (a % b))]) ∧ Below w.heap.size w w' := l11Div_of a b _ w rfl hn hbn hb

/-- The greatest number that divides both. -/
theorem gcd_step (a b : Nat) : Nat.gcd a b = Nat.gcd b (a % b) := by rw [Nat.gcd_comm a b, Nat.gcd_rec b a, Nat.gcd_comm]

set_option maxRecDepth 20000 in
set_option maxHeartbeats 2000000 in
theorem l11Gcd_any (a b : Nat) (w : World) (hn : Lib.nDigits a ≤ 10000) (hbn : Lib.nDigits b ≤ 10000) :
    Calls Tryd.prog 34 #[.string (dec a), .string (dec b)] w fun e w' => e = .returned (.string (dec (Nat.gcd a b))) ∧ Below w.heap.size w w' := by
  obtain ⟨G, HG⟩ : ∃ G : Nat, Hid (Nat.gcd a b = G) := ⟨_, rfl⟩
  rw [HG.out]
  have HN := hid hn
  have HBn := hid hbn
  have hz : dec 0 = ⟨#[48]⟩ := by rw [dec_small (by decide)]; rfl
  have HZ := hid hz
  clear hn hbn hz
  go_enter Tryd.func34, Tryd.ntmps34
  go_wp2_with fail
  go_loopw [0, 1] (fun x y wr => ∃ (u v : Nat), x = .string (dec u) ∧ y = .string (dec v) ∧ Hid (Nat.gcd u v = G) ∧ Hid (Lib.nDigits u ≤ 10000) ∧ Hid (Lib.nDigits v ≤ 10000) ∧ Hid (Below w.heap.size w wr)) (fun _ y _ => match y with | .string t => valT t | _ => 0)
  case atStart => exact ⟨a, b, rfl, rfl, HG.out, HN.out, HBn.out, Below.refl _ _⟩
  case round =>
    obtain ⟨u, v, rfl, rfl, HGu, HNu, HNv, HB⟩ := hrel
    have hsz := HB.out.size
    by_cases hv : v = 0
    · subst hv
      have hne : ((dec 0).toList == [48]) = true := by rw [HZ.out, Go.ByteArray.toList_eq]; rfl
      have HU : Hid (u = G) := by rw [← HGu.out]; exact (Nat.gcd_zero_right u).symm
      go_wp2_with fail
      go_ret
      exact ⟨ret_strz (by rw [HU.out]), HB.out⟩
    · have hne : ((dec v).toList == [48]) = false := by
        rw [beq_eq_false_iff_ne]
        intro e
        rw [Go.ByteArray.toList_eq] at e
        have h2 : dec v = dec 0 := by rw [HZ.out]; exact ba_ext e
        exact hv (dec_inj h2)
      have HD := hid (fun w => l11Div_any u v w HNu.out HNv.out (by omega))
      have HM : Hid (valT (dec (u % v)) < valT (dec v)) := by
        show _ < _
        rw [valT_dec, valT_dec]
        exact Nat.mod_lt _ (by omega)
      have HGs : Hid (Nat.gcd v (u % v) = G) := by show _ = _; rw [← gcd_step]; exact HGu.out
      have HN2 : Hid (Lib.nDigits (u % v) ≤ 10000) := by
        show _ ≤ _
        exact Nat.le_trans (nDigits_mono (Nat.le_of_lt (Nat.mod_lt _ (by omega)))) HNv.out
      clear hv
      go_wp2_with fail
      refine (HD.out _).mono ?_
      rintro e w2 ⟨rfl, hw⟩
      have HW := hid hw
      clear hw
      go_wp2_with fail
      refine ⟨⟨v, u % v, rfl, rfl, HGs, HNv, HN2, HB.out.trans (HW.out.mono hsz)⟩, ?_⟩
      exact HM.out
end Go.Proofs.YtakicnplmcemnaaDoor

namespace Go.Proofs.YtakicnplmcemnaaDoor
open Go.RowKit Go.Siskin

theorem conv_one (W : World) (b : Nat) (x : Int) (c : UInt8) (hc : (c.toNat : Int) = x) (hg : W.cell? ⟨b, 0, none⟩ = some (.int .u8 x)) :
    (convert 67 9 (.slice (some ⟨b, 0, none⟩) 1 1)).run Tryd.prog W = .ok (.string ⟨#[c]⟩) W :=
  run_convert_bytes_back (P := Tryd.prog) W 67 9 5 ⟨b, 0, none⟩ 1 [c] Tryd.underlying67 Tryd.underlying5 Tryd.underlying9 (fun j hj => by
    simp at hj; subst hj
    rw [show (⟨b, 0, none⟩ : Addr).add 0 = ⟨b, 0, none⟩ by simp [Addr.add], hg]
    simp [hc])
theorem cell_newz (w : World) (v : Value) (e : TypeId) : (w.alloc (.cells #[v] e)).cell? ⟨w.heap.size, 0, none⟩ = some v := (own_new w #[v] e).cell 0

set_option maxRecDepth 20000 in
set_option maxHeartbeats 1000000 in
theorem l11Small_any (n : Nat) : ∀ (w : World) (_ : n ≤ 9223372036854775807),
    Calls Tryd.prog 36 #[.int .i64 n] w fun e w' => e = .returned (.string (dec n)) ∧ Below w.heap.size w w' := by
  induction n using Nat.strongRecOn with
  | _ n ih =>
    intro w hn
    by_cases h : n < 10
    · obtain ⟨c, hc⟩ : ∃ c : UInt8, c = UInt8.ofNat (48 + n) := ⟨_, rfl⟩
      have hcn : (c.toNat : Int) = 48 + (n : Int) := by rw [hc]; simp; omega
      have hcv := conv_one (w.alloc (.cells #[.int .u8 (48 + (n : Int))] 5)) w.heap.size (48 + n) c hcn (cell_newz w _ _)
      have HD : Hid ((⟨#[c]⟩ : ByteArray) = dec n) := by show _ = _; rw [hc, dec_small h]
      clear hc hcn
      go_enter Tryd.func36, Tryd.ntmps36
      go_wp2_with fail
      go_ret
      exact ⟨ret_strz HD.out, (Below.refl _ _).alloc (Nat.le_refl _) _⟩
    · have HI : Hid (∀ w, Calls Tryd.prog 36 #[.int .i64 ((n : Int) / 10)] w fun e w' => e = .returned (.string (dec (n / 10))) ∧ Below w.heap.size w w') := by
        show ∀ w, _
        intro w
        rw [show (n : Int) / 10 = ((n / 10 : Nat) : Int) by omega]
        exact ih (n / 10) (by omega) w (by omega)
      obtain ⟨c, hc⟩ : ∃ c : UInt8, c = UInt8.ofNat (48 + n % 10) := ⟨_, rfl⟩
      have HD : Hid (dec (n / 10) ++ (⟨#[c]⟩ : ByteArray) = dec n) := by show _ = _; rw [hc, dec_big h]
      have HC : Hid ((c.toNat : Int) = 48 + ((n % 10 : Nat) : Int)) := by show _ = _; rw [hc]; simp; omega
      have hwr : IntKind.i64.wrap ((n : Int) / 10) = (n : Int) / 10 := by simp [IntKind.wrap, IntKind.bits, IntKind.signed]; omega
      clear ih hc
      go_enter Tryd.func36, Tryd.ntmps36
      go_wp2_with fail
      have hcv : ∀ (W : World) (b : Nat), W.cell? ⟨b, 0, none⟩ = some (.int .u8 (48 + (n : Int) % 10)) → (convert 67 9 (.slice (some ⟨b, 0, none⟩) 1 1)).run Tryd.prog W = .ok (.string ⟨#[c]⟩) W := fun W b h => conv_one W b _ c (by rw [HC.out]; omega) h
      have hx : IntKind.u8.wrap (IntKind.i64.wrap (48 + (n : Int).tmod 10)) = 48 + (n : Int) % 10 := by
        rw [Int.tmod_eq_emod_of_nonneg (by omega)]
        simp [IntKind.wrap, IntKind.bits, IntKind.signed]; omega
      have hds : (dec (n / 10)).size ≤ 20 := by rw [dec_size]; exact nDigits_le (by omega) (by omega)
      go_region_with (first
        | (go_at_call 36
           go_loud (
            refine (HI.out _).mono ?_
            rintro e w1 ⟨rfl, hb⟩
            have q := bcell hb
            have s1 := hb.size
            have HB := hid hb
            clear hb)))
      all_goals go_wp2_with fail
      all_goals go_ret
      · exact ⟨ret_strz HD.out, ((Below.refl w.heap.size w).drew.trans HB.out).alloc (by have : w.heap.size ≤ w1.heap.size := s1; omega) _⟩
      all_goals exact ⟨ret_strz HD.out, (((Below.refl w.heap.size w).alloc (Nat.le_refl _) _).drew.trans (HB.out.mono (by simp)))⟩
end Go.Proofs.YtakicnplmcemnaaDoor

namespace Go.Proofs.YtakicnplmcemnaaDoor
open Go.RowKit Go.Siskin

/-- A digit of a radix. -/
def hexB (d : Nat) : UInt8 := if d < 10 then UInt8.ofNat (48 + d) else UInt8.ofNat (87 + d)
/-- The lowest K digits of n in a radix, the greatest first. -/
def outL (R n K : Nat) : List UInt8 := ((List.range K).map fun i => hexB (n / R ^ i % R)).reverse
def outT (R n K : Nat) : ByteArray := ⟨(outL R n K).toArray⟩
theorem outL_length (R n K : Nat) : (outL R n K).length = K := by simp [outL]
theorem outT_size (R n K : Nat) : (outT R n K).size = K := by
  show (outL R n K).toArray.size = K
  rw [List.size_toArray, outL_length]
theorem outL_succ (R n K : Nat) : outL R n (K + 1) = hexB (n / R ^ K % R) :: outL R n K := by
  unfold outL; rw [List.range_succ, List.map_append, List.reverse_append]; rfl
theorem outT_succ (R n K : Nat) : (⟨#[hexB (n / R ^ K % R)]⟩ : ByteArray) ++ outT R n K = outT R n (K + 1) := by
  apply ba_ext
  rw [ByteArray.data_append]
  show (#[hexB (n / R ^ K % R)] ++ (outL R n K).toArray).toList = (outL R n (K + 1)).toArray.toList
  rw [outL_succ]; simp
/-- So many digits it has. -/
def EndK (R n K : Nat) : Prop := 1 ≤ K ∧ n / R ^ K = 0 ∧ ∀ j, 1 ≤ j → j < K → n / R ^ j ≠ 0
theorem endK_one {R n K K' : Nat} (h : EndK R n K) (h' : EndK R n K') : K = K' := by
  rcases Nat.lt_trichotomy K K' with h1 | h1 | h1
  · exact absurd h.2.1 (h'.2.2 K h.1 h1)
  · exact h1
  · exact absurd h'.2.1 (h.2.2 K' h'.1 h1)
def RadP (R : Nat) : Prop := R = 2 ∨ R = 8 ∨ R = 10 ∨ R = 16
theorem rad_two {R : Nat} (h : RadP R) : 2 ≤ R ∧ R ≤ 16 := by rcases h with rfl | rfl | rfl | rfl <;> omega
theorem pow_upto (e k : Nat) (h : 10 * e ≤ k) : ((2 : Nat) ^ 10) ^ e ≤ 2 ^ k := by rw [← Nat.pow_mul]; exact Nat.pow_le_pow_right (by decide) h
/-- It has at most 400 digits. -/
theorem few_digits {R n k : Nat} (hR : 2 ≤ R) (hn : Lib.nDigits n ≤ 100) (h : n / R ^ k ≠ 0) : k < 400 := by
  rcases Nat.lt_or_ge k 400 with h1 | h1
  · exact h1
  · exfalso
    apply h
    apply Nat.div_eq_of_lt
    have h2 := Lib.lt_pow_nDigits n
    have h3 : 10 ^ Lib.nDigits n ≤ 10 ^ 100 := Nat.pow_le_pow_right (by decide) hn
    have h4 : (10 : Nat) ^ 100 ≤ (2 ^ 10) ^ 40 := by decide
    have h5 := pow_upto 40 k (by omega)
    have h6 : 2 ^ k ≤ R ^ k := Nat.pow_le_pow_left hR k
    omega

theorem hexS_at {d : Nat} (h : d < 16) (h2 : d < (⟨#[48, 49, 50, 51, 52, 53, 54, 55, 56, 57, 97, 98, 99, 100, 101, 102]⟩ : ByteArray).size) : (⟨#[48, 49, 50, 51, 52, 53, 54, 55, 56, 57, 97, 98, 99, 100, 101, 102]⟩ : ByteArray)[d]'h2 = hexB d := by
  have hcase : d = 0 ∨ d = 1 ∨ d = 2 ∨ d = 3 ∨ d = 4 ∨ d = 5 ∨ d = 6 ∨ d = 7 ∨ d = 8 ∨ d = 9 ∨ d = 10 ∨ d = 11 ∨ d = 12 ∨ d = 13 ∨ d = 14 ∨ d = 15 := by omega
  rcases hcase with rfl | rfl | rfl | rfl | rfl | rfl | rfl | rfl | rfl | rfl | rfl | rfl | rfl | rfl | rfl | rfl <;> rfl
theorem nought_textV (v : Nat) : ((dec v).toList == [48]) = decide (v = 0) := by
  rw [Bool.eq_iff_iff, decide_eq_true_eq, beq_iff_eq, Go.ByteArray.toList_eq]
  have hz : dec 0 = ⟨#[48]⟩ := by rw [dec_small (by decide)]; rfl
  constructor
  · intro e
    have h2 : dec v = dec 0 := by rw [hz]; exact ba_ext e
    exact dec_inj h2
  · rintro rfl; rw [hz]

set_option maxRecDepth 20000 in
set_option maxHeartbeats 2000000 in
theorem l12Out_any (n R : Nat) (w : World) (hR : RadP R) (hn : Lib.nDigits n ≤ 100) :
    Calls Tryd.prog 52 #[.string (dec n), .int .i64 R] w fun e w' => ∃ K, e = .returned (.string (outT R n K)) ∧ EndK R n K ∧ Below w.heap.size w w' := by
  have hR2 := rad_two hR
  have hzt : dec 0 = ⟨#[48]⟩ := by rw [dec_small (by decide)]; rfl
  have HZ := hid hzt
  have HN := hid hn
  have HSm := hid (fun w => l11Small_any R w (by omega))
  have HDv := hid (fun (k : Nat) w => l11Div_any (n / R ^ k) R w (Nat.le_trans (nDigits_mono (Nat.div_le_self _ _)) (by omega)) (Nat.le_trans (nDigits_le (m := 2) (by omega) (by decide)) (by decide)) (by omega))
  clear hn hzt hR
  go_enter Tryd.func52, Tryd.ntmps52
  go_wp2_with fail
  go_loopw [0, 5] (fun m o wr => ∃ k : Nat, m = .string (dec (n / R ^ k)) ∧ o = .string (outT R n k) ∧ k ≤ 400 ∧ Hid (∀ j, 1 ≤ j → j ≤ k → n / R ^ j ≠ 0) ∧ Hid (Below w.heap.size w wr)) (fun _ o _ => match o with | .string t => 402 - t.size | _ => 0)
  case atStart => exact ⟨0, by rw [Nat.pow_zero, Nat.div_one], rfl, by omega, fun j h1 h2 => by omega, Below.refl _ _⟩
  case round =>
    obtain ⟨k, rfl, rfl, hk, HNz, HB⟩ := hrel
    have hsz := HB.out.size
    have HDk := hid (HDv.out k)
    obtain ⟨r, HR⟩ : ∃ r : Nat, Hid (n / R ^ k % R = r) := ⟨_, rfl⟩
    have hr16 : r < 16 := by rw [← HR.out]; exact Nat.lt_of_lt_of_le (Nat.mod_lt _ (by omega)) hR2.2
    have HQ : Hid (n / R ^ k / R = n / R ^ (k + 1)) := by show _ = _; rw [Nat.div_div_eq_div_mul, ← Nat.pow_succ]
    rw [HR.out, HQ.out] at HDk
    go_wp2_with fail
    refine (HSm.out _).mono ?_
    rintro e w1 ⟨rfl, hw1⟩
    have HW1 := hid (HB.out.trans (hw1.mono hsz))
    have hs1 := HW1.out.size
    clear hw1
    go_wp2_with fail
    refine (HDk.out _).mono ?_
    rintro e w2 ⟨rfl, hw2⟩
    have HW2 := hid (HW1.out.trans (hw2.mono hs1))
    have hs2 := HW2.out.size
    clear hw2
    obtain ⟨l, HLl⟩ : ∃ l : Nat, Hid (Lib.nDigits r = l) := ⟨_, rfl⟩
    have hl2 : l ≤ 2 := by rw [← HLl.out]; exact nDigits_le (by omega) (by decide)
    have hrl : ((dec r).size : Int) = (l : Int) := by rw [dec_size, HLl.out]
    have HSz : Hid ((dec r).size = l) := by show _ = _; rw [dec_size, HLl.out]
    have HDg : Hid (∀ i (h : i < (dec r).size), (((dec r)[i]).toNat : Int) = 48 + ((r / 10 ^ (l - 1 - i) % 10 : Nat) : Int)) := by
      intro i h
      have h2 := digT_nat (Lib.nDigits r) r i h
      rw [← HLl.out]
      exact h2
    rename World => w2'
    go_wp2_with fail
    go_loop [8, 9] (fun d i => ∃ j : Nat, j ≤ l ∧ i = .int .i64 j ∧ d = .int .i64 ((r / 10 ^ (l - j) : Nat) : Int)) (fun _ i => l - (intOf i).toNat)
    case atStart => exact ⟨0, Nat.zero_le _, rfl, by rw [Nat.sub_zero, Nat.div_eq_of_lt (by rw [← HLl.out]; exact Lib.lt_pow_nDigits r)]; rfl⟩
    case round =>
      obtain ⟨j, hj, rfl, rfl⟩ := hrel
      by_cases hlt : j < l
      · have hjs : j < (dec r).size := by rw [HSz.out]; exact hlt
        have hdg := HDg.out j hjs
        obtain ⟨x, HX⟩ : ∃ x : Nat, Hid (r / 10 ^ (l - 1 - j) % 10 = x) := ⟨_, rfl⟩
        obtain ⟨y, HY⟩ : ∃ y : Nat, Hid (r / 10 ^ (l - j) = y) := ⟨_, rfl⟩
        have hx10 : x < 10 := by rw [← HX.out]; exact Nat.mod_lt _ (by decide)
        have hy16 : y < 16 := by rw [← HY.out]; exact Nat.lt_of_le_of_lt (Nat.div_le_self _ _) hr16
        have HN2 : Hid (r / 10 ^ (l - (j + 1)) = y * 10 + x) := by
          show _ = _
          have h1 : l - j = (l - 1 - j) + 1 := by omega
          rw [← HX.out, ← HY.out, show l - (j + 1) = l - 1 - j by omega, h1, Nat.pow_succ, ← Nat.div_div_eq_div_mul]
          omega
        rw [HX.out] at hdg
        rw [HY.out]
        go_wp2_with fail
        go_round
        case rel =>
          refine ⟨j + 1, by omega, by go_num, ?_⟩
          rw [HN2.out]
          congr 1; omega
        case measure => simp [intOf]; omega
      · have hjl : j = l := by omega
        subst hjl
        have he : r / 10 ^ (j - j) = r := by rw [Nat.sub_self, Nat.pow_zero, Nat.div_one]
        rw [he]
        clear he
        have hrs : r < (⟨#[48, 49, 50, 51, 52, 53, 54, 55, 56, 57, 97, 98, 99, 100, 101, 102]⟩ : ByteArray).size := hr16
        have HXh : Hid ((⟨#[48, 49, 50, 51, 52, 53, 54, 55, 56, 57, 97, 98, 99, 100, 101, 102]⟩ : ByteArray)[r]'hrs = hexB r) := hexS_at hr16 hrs
        have hcv := conv_one (w2'.alloc (.cells #[.int .u8 ((((⟨#[48, 49, 50, 51, 52, 53, 54, 55, 56, 57, 97, 98, 99, 100, 101, 102]⟩ : ByteArray)[r]'hrs).toNat : Nat) : Int)] 5)) w2'.heap.size _ ((⟨#[48, 49, 50, 51, 52, 53, 54, 55, 56, 57, 97, 98, 99, 100, 101, 102]⟩ : ByteArray)[r]'hrs) rfl (cell_newz _ _ _)
        have hot : (outT R n k).size = k := outT_size R n k
        have hotI : ((outT R n k).size : Int) = (k : Int) := by rw [hot]
        have HOut : Hid ((⟨#[(⟨#[48, 49, 50, 51, 52, 53, 54, 55, 56, 57, 97, 98, 99, 100, 101, 102]⟩ : ByteArray)[r]'hrs]⟩ : ByteArray) ++ outT R n k = outT R n (k + 1)) := by show _ = _; rw [HXh.out, ← HR.out]; exact outT_succ R n k
        have hnt : ((dec (n / R ^ (k + 1))).toList == [48]) = decide (n / R ^ (k + 1) = 0) := nought_textV _
        by_cases hz : n / R ^ (k + 1) = 0
        · rw [decide_eq_true hz] at hnt
          have HEnd : Hid (EndK R n (k + 1)) := ⟨by omega, hz, fun j h1 h2 => HNz.out j h1 (by omega)⟩
          clear hz
          go_wp2_with fail
          go_ret
          exact ⟨k + 1, ret_strz HOut.out, HEnd.out, HW2.out.alloc (by have := HW2.out.size; omega) _⟩
        · rw [decide_eq_false hz] at hnt
          have HNz2 : Hid (∀ j, 1 ≤ j → j ≤ k + 1 → n / R ^ j ≠ 0) := fun j h1 h2 => by
            by_cases e : j = k + 1
            · rw [e]; exact hz
            · exact HNz.out j h1 (by omega)
          have hk4 := few_digits hR2.1 HN.out hz
          clear hz
          go_wp2_with fail
          refine ⟨⟨k + 1, rfl, ?_, by omega, HNz2, HW2.out.alloc (by have := HW2.out.size; omega) _⟩, ?_⟩
          · rw [HOut.out]
          · rw [HOut.out]
            show 402 - (outT R n (k + 1)).size < 402 - (outT R n k).size
            rw [outT_size, outT_size]; omega
end Go.Proofs.YtakicnplmcemnaaDoor

namespace Go.Proofs.YtakicnplmcemnaaDoor
open Go.RowKit Go.Siskin

theorem run_index_nums {P : Program} {t e : TypeId} {n : Nat} (ht : P.underlying t = some (.array n e)) (he : P.plainKey e = true) {i : TypeInfo} (hi : P.info? e = some i) (h1 : P.cellsOf e = 1) {cs : Array Value} {k : Nat} {kk : IntKind} (hk : k < n) {v : Value} (hv : cs[k]? = some v) (w : World) :
    (Instr.index t (.agg cs) (.int kk k)).run P w = .ok v w := by
  have hk' : (0 : Int) ≤ k ∧ (k : Int) < n := ⟨by omega, by omega⟩
  unfold Instr.index
  simp only [asIntOf, Sem.run_bind, Sem.run_pure, Result.andThen_ok, run_underlying ht, if_pos hk', run_sizeOf w hi, h1, Nat.mul_one, Int.toNat_natCast]
  exact run_part_plain w he hv
/-- An element of an array that is held. -/
theorem wpList_index_nums {P : Program} (w : World) {ops : Array Oper} {rest : List Oper} {o : Oper} {a : Act} {Q : Exit → Act → World → Prop} (hgd : o.guard = none) (x i : Operand) (t : TypeId) (hop : o.op = Op.index t x i)
    {e : TypeId} {n : Nat} (ht : P.underlying t = some (.array n e)) (he : P.plainKey e = true) {inf : TypeInfo} (hi : P.info? e = some inf) (h1 : P.cellsOf e = 1) (cs : Array Value) (hx : a.eval x = .agg cs) (k : Nat) (kk : IntKind) (hk : a.eval i = .int kk k) (hkn : k < n) (v : Value) (hv : cs[k]? = some v)
    (hK : wpList P ops Q rest (a.put o.dst v) w) : wpList P ops Q (o :: rest) a w := by
  refine wpList_plain hgd fun K hK' => ?_
  unfold Oper.wp execOp
  simp only [hop, hx, hk, run_index_nums ht he hi h1 hkn hv w, Sem.run_bind, Result.andThen_ok, Sem.run_pure]
  exact hK' _ _ hK
theorem Tryd.plainWord : Tryd.prog.plainKey 52 = true := by kernel_rfl
theorem Tryd.cellsWord : Tryd.prog.cellsOf 52 = 1 := by kernel_rfl

set_option maxRecDepth 20000 in
set_option maxHeartbeats 1000000 in
theorem digits_any (x : Nat) (v : Value) (w : World) (h : NatA w v (grp x)) (hn : nG x ≤ 1000000) (hP : Pow9 w) :
    Calls Tryd.prog 96 #[v] w fun e w' => e = .returned (.int .i64 (Lib.nDigits x)) ∧ w' = w := by
  have HN := hid h
  have HC := hid (isNought_any x v w h)
  obtain ⟨a, cap, rfl, h1, h2, h3⟩ := h
  rw [grp_length] at *
  unfold maxLen at h2
  rcases Nat.eq_zero_or_pos x with h0 | h0
  · subst h0
    clear h3
    go_enter Tryd.func96, Tryd.ntmps96
    go_wp2_with (go_at_call 50; refine HC.out.mono ?_; rintro e w' ⟨rfl, rfl⟩)
    go_ret
    exact ⟨ret_intz (by rw [Lib.nDigits_small (by decide)]; rfl), rfl⟩
  · have hx0 : (x == 0) = false := by rw [beq_eq_false_iff_ne]; omega
    rw [hx0] at HC
    clear hx0
    have hg := nG_pos h0
    have HT := hid (top_pos h0)
    have HD := hid (nDigits_top h0)
    rcases h3 with h3 | ⟨b, o, rfl, -, h3⟩
    · have := congrArg List.length h3; rw [grp_length] at this; simp at this; omega
    obtain ⟨t, HTG⟩ : ∃ t, Hid (nG x = t + 1) := ⟨nG x - 1, by show _ = _; omega⟩
    rw [HTG.out] at h1 hn HC
    have g : w.cell? ⟨b, o + t, none⟩ = some (.int .u64 ((x / 1000000000 ^ t : Nat) : Int)) := by
      have h := h3 t (by rw [grp_length, HTG.out]; omega)
      rw [h]
      have e := top_get h0
      rw [HTG.out, Nat.add_sub_cancel] at e
      unfold grp; rw [grpN_get, e]
    have HT2 : Hid (0 < x / 1000000000 ^ t ∧ x / 1000000000 ^ t < 1000000000) := by
      have h := HT.out; rw [HTG.out, Nat.add_sub_cancel] at h; exact h
    have HD2 : Hid (Lib.nDigits x = 9 * t + Lib.nDigits (x / 1000000000 ^ t)) := by
      have h := HD.out; rw [HTG.out, Nat.add_sub_cancel] at h; exact h
    obtain ⟨z, HZ⟩ : ∃ z, Hid (x / 1000000000 ^ t = z) := ⟨_, rfl⟩
    rw [HZ.out] at g HT2 HD2
    rw [HTG.out]
    have P0 := hP.2 0 (by omega)
    have P1 := hP.2 1 (by omega)
    have P2 := hP.2 2 (by omega)
    have P3 := hP.2 3 (by omega)
    have P4 := hP.2 4 (by omega)
    have P5 := hP.2 5 (by omega)
    have P6 := hP.2 6 (by omega)
    have P7 := hP.2 7 (by omega)
    have P8 := hP.2 8 (by omega)
    obtain ⟨i0, hi, -, -, -⟩ := info_partsZ Tryd.infoWordZ
    have Hi := hid hi
    clear hi
    clear h3 hg hP HD HT HN
    go_enter Tryd.func96, Tryd.ntmps96
    go_wp2_with (go_at_call 50; refine HC.out.mono ?_; rintro e w' ⟨rfl, rfl⟩)
    go_loop [4, 15] (fun c i => ∃ k : Nat, k ≤ 9 ∧ i = .int .i64 k ∧ c = .int .i64 ((t : Int) * 9 + ((nPow z k : Nat) : Int))) (fun _ i => 9 - (intOf i).toNat)
    case atStart => exact ⟨0, by omega, rfl, by simp [nPow]⟩
    case round =>
      obtain ⟨k, hk, rfl, rfl⟩ := hrel
      have hle := nPow_le z k
      by_cases hlt : k < 9
      · have HS := hid (nPow_succ z k)
        obtain ⟨q, HQ⟩ : ∃ q, Hid (nPow z k = q) := ⟨_, rfl⟩
        rw [HQ.out] at hle ⊢
        have hzz : z < 1000000000 := HT2.out.2
        have HV : Hid ((#[.int .u64 1, .int .u64 10, .int .u64 100, .int .u64 1000, .int .u64 10000, .int .u64 100000, .int .u64 1000000, .int .u64 10000000, .int .u64 100000000] : Array Value)[k]? = some (.int .u64 ((10 ^ k : Nat) : Int))) := by
          have hcase : k = 0 ∨ k = 1 ∨ k = 2 ∨ k = 3 ∨ k = 4 ∨ k = 5 ∨ k = 6 ∨ k = 7 ∨ k = 8 := by omega
          show _ = _
          rcases hcase with rfl | rfl | rfl | rfl | rfl | rfl | rfl | rfl | rfl <;> rfl
        obtain ⟨p, HPk⟩ : ∃ p : Nat, Hid (10 ^ k = p) := ⟨_, rfl⟩
        rw [HPk.out] at HV HS
        by_cases hz : p ≤ z
        · have HS2 : Hid (nPow z (k + 1) = q + 1) := by show _ = _; rw [HS.out, if_pos hz, HQ.out]
          go_wp2_with (refine wpList_index_nums _ rfl (.tmp 14) (.tmp 15) _ rfl Tryd.underlying113 Tryd.plainWord Hi.out Tryd.cellsWord _ rfl k .i64 rfl hlt _ HV.out ?_)
          go_round
          case rel => exact ⟨k + 1, by omega, by congr 1, by rw [HS2.out]; congr 1⟩
          case measure => simp [intOf]; omega
        · have HS2 : Hid (nPow z (k + 1) = q) := by show _ = _; rw [HS.out, if_neg hz, HQ.out]; rfl
          go_wp2_with (refine wpList_index_nums _ rfl (.tmp 14) (.tmp 15) _ rfl Tryd.underlying113 Tryd.plainWord Hi.out Tryd.cellsWord _ rfl k .i64 rfl hlt _ HV.out ?_)
          go_round
          case rel => exact ⟨k + 1, by omega, by congr 1, by rw [HS2.out]⟩
          case measure => simp [intOf]; omega
      · obtain rfl : k = 9 := by omega
        have HF : Hid ((t : Int) * 9 + ((nPow z 9 : Nat) : Int) = (Lib.nDigits x : Int)) := by
          show _ = _
          rw [HD2.out, nPow_nine HT2.out.1 HT2.out.2]; omega
        go_wp2_with fail
        go_ret
        exact ⟨ret_intz HF.out, rfl⟩
end Go.Proofs.YtakicnplmcemnaaDoor

namespace Go.Proofs.YtakicnplmcemnaaDoor
open Go.RowKit Go.Siskin

theorem run_index_str {P : Program} {t : TypeId} (ht : P.underlying t = some .string) {s : ByteArray} {k : Nat} {kk : IntKind} {b : UInt8} (hb : s[k]? = some b) (w : World) :
    (Instr.index t (.string s) (.int kk k)).run P w = .ok (.int .u8 (b.toNat : Int)) w := by
  have hk' : (0 : Int) ≤ k := by omega
  unfold Instr.index
  simp only [asIntOf, Sem.run_bind, Sem.run_pure, Result.andThen_ok, run_underlying ht, if_pos hk', Int.toNat_natCast, hb]
/-- A letter of a text at the operation. -/
theorem wpList_index_str {P : Program} (w : World) {ops : Array Oper} {rest : List Oper} {o : Oper} {a : Act} {Q : Exit → Act → World → Prop} (hgd : o.guard = none) (x i : Operand) (t : TypeId) (hop : o.op = Op.index t x i)
    (ht : P.underlying t = some .string) (s : ByteArray) (hx : a.eval x = .string s) (k : Nat) (kk : IntKind) (hk : a.eval i = .int kk k) (b : UInt8) (hb : s[k]? = some b)
    (hK : wpList P ops Q rest (a.put o.dst (.int .u8 (b.toNat : Int))) w) : wpList P ops Q (o :: rest) a w := by
  refine wpList_plain hgd fun K hK' => ?_
  unfold Oper.wp execOp
  simp only [hop, hx, hk, run_index_str ht hb w, Sem.run_bind, Result.andThen_ok, Sem.run_pure]
  exact hK' _ _ hK

def hexS : ByteArray := ⟨#[48, 49, 50, 51, 52, 53, 54, 55, 56, 57, 97, 98, 99, 100, 101, 102]⟩
theorem hexS_get {d : Nat} (h : d < 16) : (⟨#[48, 49, 50, 51, 52, 53, 54, 55, 56, 57, 97, 98, 99, 100, 101, 102]⟩ : ByteArray)[d]? = some (hexB d) := by
  have hcase : d = 0 ∨ d = 1 ∨ d = 2 ∨ d = 3 ∨ d = 4 ∨ d = 5 ∨ d = 6 ∨ d = 7 ∨ d = 8 ∨ d = 9 ∨ d = 10 ∨ d = 11 ∨ d = 12 ∨ d = 13 ∨ d = 14 ∨ d = 15 := by omega
  rcases hcase with rfl | rfl | rfl | rfl | rfl | rfl | rfl | rfl | rfl | rfl | rfl | rfl | rfl | rfl | rfl | rfl <;> rfl

/-- Whether it is a radix. -/
def radB (r : Int) : Bool := r == 2 || r == 8 || r == 10 || r == 16
theorem radB_iff (r : Int) : radB r = true ↔ ∃ R : Nat, r = (R : Int) ∧ RadP R := by
  unfold radB RadP
  simp only [Bool.or_eq_true, beq_iff_eq]
  constructor
  · rintro (((h | h) | h) | h)
    · exact ⟨2, by omega, by omega⟩
    · exact ⟨8, by omega, by omega⟩
    · exact ⟨10, by omega, by omega⟩
    · exact ⟨16, by omega, by omega⟩
  · rintro ⟨R, rfl, h⟩
    omega

set_option maxRecDepth 20000 in
set_option maxHeartbeats 1000000 in
theorem isOk_any (r : Int) (w : World) : Calls Tryd.prog 47 #[.int .i64 r] w fun e w' => e = .returned (.bool (radB r)) ∧ w' = w := by
  unfold radB
  cases h1 : (r == 2) <;> cases h2 : (r == 8) <;> cases h3 : (r == 10) <;> cases h4 : (r == 16)
  all_goals
    go_enter Tryd.func47, Tryd.ntmps47
    go_wp2_with fail
    go_ret
    exact ⟨rfl, rfl⟩
set_option maxRecDepth 20000 in
set_option maxHeartbeats 1000000 in
theorem l12Radix_any (r : Int) (w : World) : Calls Tryd.prog 41 #[.int .i64 r] w fun e w' => e = .returned (.bool (radB r)) ∧ w' = w := by
  unfold radB
  cases h1 : (r == 2) <;> cases h2 : (r == 8) <;> cases h3 : (r == 10) <;> cases h4 : (r == 16)
  all_goals
    go_enter Tryd.func41, Tryd.ntmps41
    go_wp2_with fail
    go_ret
    exact ⟨rfl, rfl⟩
end Go.Proofs.YtakicnplmcemnaaDoor

namespace Go.Proofs.YtakicnplmcemnaaDoor
open Go.RowKit Go.Siskin

/-- What a byte is as a digit, 99 if it is none. -/
def digV (c : UInt8) : Nat := if 48 ≤ c.toNat ∧ c.toNat ≤ 57 then c.toNat - 48 else if 97 ≤ c.toNat ∧ c.toNat ≤ 102 then c.toNat - 87 else 99

set_option maxRecDepth 20000 in
set_option maxHeartbeats 1000000 in
theorem l12Digit_any (c : UInt8) (w : World) : Calls Tryd.prog 79 #[.int .u8 (c.toNat : Int)] w fun e w' => e = .returned (.int .i64 (digV c)) ∧ w' = w := by
  have hx : c.toNat < 256 := c.toNat_lt
  unfold digV
  generalize c.toNat = x at *
  by_cases h1 : 48 ≤ x ∧ x ≤ 57
  · obtain ⟨d, HD⟩ : ∃ d : Nat, Hid (x - 48 = d) := ⟨_, rfl⟩
    have hd : (x : Int) - 48 = (d : Int) := by have := HD.out; omega
    have HV : Hid ((if 48 ≤ x ∧ x ≤ 57 then x - 48 else if 97 ≤ x ∧ x ≤ 102 then x - 87 else 99) = d) := by show _ = _; rw [if_pos h1, HD.out]
    rw [HV.out]
    have h2 := h1.1
    have h3 := h1.2
    have hdl : d ≤ 9 := by have := HD.out; omega
    clear h1
    go_enter Tryd.func79, Tryd.ntmps79
    go_wp2_with fail
    go_ret
    exact ⟨ret_intz (by omega), rfl⟩
  · by_cases h4 : 97 ≤ x ∧ x ≤ 102
    · obtain ⟨d, HD⟩ : ∃ d : Nat, Hid (x - 87 = d) := ⟨_, rfl⟩
      have HV : Hid ((if 48 ≤ x ∧ x ≤ 57 then x - 48 else if 97 ≤ x ∧ x ≤ 102 then x - 87 else 99) = d) := by show _ = _; rw [if_neg h1, if_pos h4, HD.out]
      rw [HV.out]
      have h2 := h4.1
      have h3 := h4.2
      have hdl : d ≤ 15 := by have := HD.out; omega
      clear h1 h4
      go_enter Tryd.func79, Tryd.ntmps79
      go_wp2_with fail
      go_ret
      exact ⟨ret_intz (by have := HD.out; omega), rfl⟩
    · have HV : Hid ((if 48 ≤ x ∧ x ≤ 57 then x - 48 else if 97 ≤ x ∧ x ≤ 102 then x - 87 else 99) = 99) := by show _ = _; rw [if_neg h1, if_neg h4]
      rw [HV.out]
      have hcase : x < 48 ∨ (57 < x ∧ x < 97) ∨ 102 < x := by omega
      clear h1 h4
      rcases hcase with h | ⟨h, h'⟩ | h
      all_goals
        go_enter Tryd.func79, Tryd.ntmps79
        go_wp2_with fail
        go_ret
        exact ⟨rfl, rfl⟩

/-- What digits are worth. -/
def valR (R : Nat) (l : List UInt8) : Nat := l.foldl (fun n c => n * R + digV c) 0
theorem valR_snoc (R : Nat) (l : List UInt8) (c : UInt8) : valR R (l ++ [c]) = valR R l * R + digV c := by simp [valR]
/-- Whether a text is digits, one at least. -/
def okR (R : Nat) (l : List UInt8) : Bool := !l.isEmpty && l.all (fun c => decide (digV c < R))
theorem valR_lt {R : Nat} (hR : R ≤ 16) : ∀ (k : Nat) (l : List UInt8), l.length = k → (∀ c ∈ l, digV c < R) → valR R l < 100 ^ k := by
  intro k
  induction k with
  | zero => intro l hl _; rw [List.length_eq_zero_iff.1 hl]; simp [valR]
  | succ k ih =>
    intro l hl h
    obtain ⟨l', c, rfl⟩ : ∃ l' c, l = l' ++ [c] := by
      rcases List.eq_nil_or_concat l with h | ⟨l', c, h⟩
      · rw [h] at hl; cases hl
      · exact ⟨l', c, by rw [h, List.concat_eq_append]⟩
    have h1 := ih l' (by simpa using hl) (fun c hc => h c (List.mem_append_left _ hc))
    have h2 := h c (by simp)
    rw [valR_snoc, Nat.pow_succ]
    have h3 : valR R l' * R ≤ valR R l' * 16 := Nat.mul_le_mul_left _ hR
    omega
theorem valR_digits {R : Nat} (hR : R ≤ 16) {l : List UInt8} (h : ∀ c ∈ l, digV c < R) : Lib.nDigits (valR R l) ≤ 2 * l.length + 1 := by
  have h1 := valR_lt hR l.length l rfl h
  refine nDigits_le ?_ (by omega)
  rw [show (100 : Nat) = 10 ^ 2 from rfl, ← Nat.pow_mul] at h1
  exact Nat.lt_of_lt_of_le h1 (Nat.pow_le_pow_right (by decide) (by omega))
end Go.Proofs.YtakicnplmcemnaaDoor
