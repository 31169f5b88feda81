/-
  The model's l1AtomOk returns, at every text, whether it is an atom; the world is as it was. Condition: the text's size is one that a Go string can have.
  The program's isDigits and hasBytesFrom return what the plain functions say of the text; the world is as it was. Condition: the text's size is one that a Go string can have.
-/
import Derived.Test.YtjbejnibiebjgaaGreatPart1
import Derived.Lib.Strings
namespace Go.Proofs.YtjbejnibiebjgaaGreat
open Go.RowKit Go.Siskin

theorem tl_beq (s : ByteArray) (l : List UInt8) : (s.toList == l) = (s.data.toList == l) := by rw [Go.ByteArray.toList_eq]
theorem tail_take (s : ByteArray) : List.take (s.size - 1) s.data.toList.tail = s.data.toList.drop 1 := by
  rw [List.drop_one, List.take_of_length_le (by simp)]

set_option maxHeartbeats 400000 in
theorem l1AtomOk_string (s : ByteArray) (w : World) (hs : s.size ≤ maxLen) (h1 : (s.toList == [35, 116]) = false) (h2 : (s.toList == [35, 102]) = false) (h3 : digitsB s.data.toList = false) (h4 : Hid (minusB s.data.toList = false))
    (h5 : 1 < s.size) (h6 : ((s[0]'(by omega)).toNat : Int) = 34) (h7 : ((s[s.size - 1]'(by omega)).toNat : Int) = 34) :
    Calls Tryz.prog 40 #[.string s] w fun e w' => e = .returned (.bool (atomB s.data.toList)) ∧ w' = w := by
  have hs0 := hs
  unfold maxLen at hs
  have hA : Hid (atomB s.data.toList = innersB ((s.data.toList.take (s.size - 1)).drop 1)) := by
    show _ = _
    unfold atomB
    rw [← tl_beq, ← tl_beq, h1, h2, h3, h4.out, string_parts s (by omega), decide_eq_true h6, decide_eq_true h7]
    rfl
  clear h4
  go_enter Tryz.func40, Tryz.ntmps40
  go_wp2_with (go_at_call 52; refine (l1Digits_any _ _ hs0).mono ?_; rintro e w' ⟨rfl, rfl⟩)
  go_loop [3] (fun i => ∃ k : Nat, 1 ≤ k ∧ k ≤ s.size - 1 ∧ i = .int .i64 k ∧ Hid (((s.data.toList.take k).drop 1).all innerB = true)) (fun i => s.size - (intOf i).toNat)
  case atStart => exact ⟨1, Nat.le_refl _, by omega, rfl, by show _ = _; rw [List.drop_of_length_le (by simp; omega)]; rfl⟩
  case round =>
    obtain ⟨k, hk1, hk, rfl, HA⟩ := hrel
    by_cases hlt : k < s.size - 1
    · have hlt' : k < s.size := by omega
      have bad : Hid (((s[k].toNat : Int) = 34 ∨ (s[k].toNat : Int) < 32 ∨ 126 < (s[k].toNat : Int)) → false = atomB s.data.toList) := by
        intro hb
        rw [hA.out]; exact (all_mid_false s k (s.size - 1) hk1 hlt (by omega) innerB (inner_no _ hb)).symm
      by_cases a1 : (s[k].toNat : Int) = 34
      · go_wp2_with fail
        go_ret
        exact ⟨ret_bool (bad.out (Or.inl a1)), rfl⟩
      by_cases a2 : (s[k].toNat : Int) < 32
      · go_wp2_with fail
        go_ret
        exact ⟨ret_bool (bad.out (Or.inr (Or.inl a2))), rfl⟩
      by_cases a3 : 126 < (s[k].toNat : Int)
      · go_wp2_with fail
        go_ret
        exact ⟨ret_bool (bad.out (Or.inr (Or.inr a3))), rfl⟩
      have HI : Hid (innerB s[k] = true) := inner_yes _ a1 a2 a3
      go_wp2_with fail
      go_round
      case rel => exact ⟨k + 1, by omega, by omega, by go_num, by show _ = _; rw [all_mid_succ s k hk1 hlt', HA.out, HI.out]; rfl⟩
      case measure => simp [intOf]; omega
    · go_wp2_with fail
      go_ret
      have e : k = s.size - 1 := by omega
      exact ⟨ret_bool (by rw [hA.out, ← e]; exact HA.out.symm), rfl⟩

set_option maxHeartbeats 4000000 in
theorem l1AtomOk_any (s : ByteArray) (w : World) (hs : s.size ≤ maxLen) :
    Calls Tryz.prog 40 #[.string s] w fun e w' => e = .returned (.bool (atomB s.data.toList)) ∧ w' = w := by
  have hs0 := hs
  have hs1 : (s.extract 1 s.size).size ≤ maxLen := by simp; omega
  have HT : Hid (atomB s.data.toList = (s.toList == [35, 116] || s.toList == [35, 102] || digitsB s.data.toList || minusB s.data.toList || stringB s.data.toList)) := by
    show _ = _
    rw [tl_beq, tl_beq]; rfl
  unfold maxLen at hs
  cases h1 : (s.toList == [35, 116]) with
  | true =>
    go_enter Tryz.func40, Tryz.ntmps40
    go_wp2_with fail
    go_ret
    exact ⟨ret_bool (by rw [HT.out, h1]; rfl), rfl⟩
  | false =>
  cases h2 : (s.toList == [35, 102]) with
  | true =>
    go_enter Tryz.func40, Tryz.ntmps40
    go_wp2_with fail
    go_ret
    exact ⟨ret_bool (by rw [HT.out, h2]; simp), rfl⟩
  | false =>
  cases h3 : digitsB s.data.toList with
  | true =>
    go_enter Tryz.func40, Tryz.ntmps40
    go_wp2_with (go_at_call 52; refine (l1Digits_any _ _ hs0).mono ?_; rintro e w' ⟨rfl, rfl⟩)
    go_ret
    exact ⟨ret_bool (by rw [HT.out, h3]; simp), rfl⟩
  | false =>
  by_cases h5 : 1 < s.size
  · by_cases h6 : ((s[0]'(by omega)).toNat : Int) = 45
    · have HM := minus_int s h5
      rw [decide_eq_true h6, Bool.true_and] at HM
      have HS : Hid (stringB s.data.toList = false) := by
        show _ = _
        rw [string_parts s h5, decide_eq_false (by omega)]; rfl
      cases h7 : digitsB (List.take (s.size - 1) s.data.toList.tail) with
      | true =>
        rw [← tail_take, h7] at HM
        have HM' : Hid (minusB s.data.toList = true) := HM
        clear HM
        go_enter Tryz.func40, Tryz.ntmps40
        go_wp2_with (go_at_call 52; refine (l1Digits_any _ _ (by first | exact hs0 | exact hs1)).mono ?_; rintro e w' ⟨rfl, rfl⟩)
        go_ret
        exact ⟨ret_bool (by rw [HT.out, HM'.out]; simp), rfl⟩
      | false =>
        rw [← tail_take, h7] at HM
        have HM' : Hid (minusB s.data.toList = false) := HM
        clear HM
        go_enter Tryz.func40, Tryz.ntmps40
        go_wp2_with (go_at_call 52; refine (l1Digits_any _ _ (by first | exact hs0 | exact hs1)).mono ?_; rintro e w' ⟨rfl, rfl⟩)
        go_ret
        exact ⟨ret_bool (by rw [HT.out, HM'.out, HS.out, h1, h2, h3]; rfl), rfl⟩
    · have HM : Hid (minusB s.data.toList = false) := by
        show _ = _
        rw [minus_int s h5, decide_eq_false h6]; rfl
      by_cases h7 : ((s[0]'(by omega)).toNat : Int) = 34
      · by_cases h8 : ((s[s.size - 1]'(by omega)).toNat : Int) = 34
        · exact l1AtomOk_string s w hs0 h1 h2 h3 HM h5 h7 h8
        · have HS : Hid (stringB s.data.toList = false) := by
            show _ = _
            rw [string_parts s h5, decide_eq_false h8]; simp
          have h9 : (((s[s.size - 1]'(by omega)).toNat : Int) != 34) = true := by simpa using h8
          go_enter Tryz.func40, Tryz.ntmps40
          go_wp2_with (go_at_call 52; refine (l1Digits_any _ _ hs0).mono ?_; rintro e w' ⟨rfl, rfl⟩)
          go_ret
          exact ⟨ret_bool (by rw [HT.out, HM.out, HS.out, h1, h2, h3]; rfl), rfl⟩
      · have HS : Hid (stringB s.data.toList = false) := by
          show _ = _
          rw [string_parts s h5, decide_eq_false h7]; rfl
        go_enter Tryz.func40, Tryz.ntmps40
        go_wp2_with (go_at_call 52; refine (l1Digits_any _ _ hs0).mono ?_; rintro e w' ⟨rfl, rfl⟩)
        go_ret
        exact ⟨ret_bool (by rw [HT.out, HM.out, HS.out, h1, h2, h3]; rfl), rfl⟩
  · have HM : Hid (minusB s.data.toList = false) := minus_short s h5
    have HS : Hid (stringB s.data.toList = false) := string_short s (by omega)
    go_enter Tryz.func40, Tryz.ntmps40
    go_wp2_with (go_at_call 52; refine (l1Digits_any _ _ hs0).mono ?_; rintro e w' ⟨rfl, rfl⟩)
    go_ret
    exact ⟨ret_bool (by rw [HT.out, HM.out, HS.out, h1, h2, h3]; rfl), rfl⟩
end Go.Proofs.YtjbejnibiebjgaaGreat

namespace Go.Proofs.YtjbejnibiebjgaaGreat
open Go.RowKit Go.Siskin

set_option maxHeartbeats 400000 in
theorem isDigits_any (s : ByteArray) (w : World) (hs : s.size ≤ maxLen) :
    Calls Tryz.prog 66 #[.string s] w fun e w' => e = .returned (.bool (digitsB s.data.toList)) ∧ w' = w := by
  unfold maxLen at hs
  go_enter Tryz.func66, Tryz.ntmps66
  go_wp2_with fail
  go_loop [6] (fun i => ∃ k : Nat, k ≤ s.size ∧ i = .int .i64 k ∧ Hid ((s.data.toList.take k).all digitB = true)) (fun i => s.size - (intOf i).toNat)
  case atStart => exact ⟨0, Nat.zero_le _, rfl, rfl⟩
  case round =>
    obtain ⟨k, hk, rfl, HA⟩ := hrel
    by_cases hlt : k < s.size
    · by_cases a1 : (s[k].toNat : Int) < 48
      · go_wp2_with fail
        go_ret
        exact ⟨ret_bool (digits_bad s k hlt (by omega)).symm, rfl⟩
      by_cases a2 : 57 < (s[k].toNat : Int)
      · go_wp2_with fail
        go_ret
        exact ⟨ret_bool (digits_bad s k hlt (by omega)).symm, rfl⟩
      have HI : Hid (digitB s[k] = true) := digit_yes _ a1 a2
      go_wp2_with fail
      go_round
      case rel => exact ⟨k + 1, by omega, by go_num, by show _ = _; rw [all_take_succ s k hlt, HA.out, HI.out]; rfl⟩
      case measure => simp [intOf]; omega
    · go_wp2_with fail
      go_ret
      exact ⟨ret_bool (by rw [digits_end' s k hlt HA.out, Go.ByteArray.toList_eq]), rfl⟩

def fromC (least : Nat) (c : UInt8) : Bool := decide (least ≤ c.toNat) && decide (c.toNat ≤ 126)
set_option maxHeartbeats 400000 in
theorem hasBytesFrom_any (n : Nat) (s : ByteArray) (w : World) (hs : s.size ≤ maxLen) :
    Calls Tryz.prog 63 #[.int .u8 n, .string s] w fun e w' => e = .returned (.bool (fromB n s.data.toList)) ∧ w' = w := by
  unfold maxLen at hs
  go_enter Tryz.func63, Tryz.ntmps63
  go_wp2_with fail
  go_loop [8] (fun i => ∃ k : Nat, k ≤ s.size ∧ i = .int .i64 k ∧ Hid ((s.data.toList.take k).all (fromC n) = true)) (fun i => s.size - (intOf i).toNat)
  case atStart => exact ⟨0, Nat.zero_le _, rfl, rfl⟩
  case round =>
    obtain ⟨k, hk, rfl, HA⟩ := hrel
    by_cases hlt : k < s.size
    · have bad : Hid (((s[k].toNat : Int) < n ∨ 126 < (s[k].toNat : Int)) → false = fromB n s.data.toList) := by
        intro hb
        exact (all_false s k hlt (fromC n) (by unfold fromC; simp; omega)).symm
      by_cases a1 : (s[k].toNat : Int) < n
      · go_wp2_with fail
        go_ret
        exact ⟨ret_bool (bad.out (by omega)), rfl⟩
      by_cases a2 : 126 < (s[k].toNat : Int)
      · go_wp2_with fail
        go_ret
        exact ⟨ret_bool (bad.out (by omega)), rfl⟩
      have HI : Hid (fromC n s[k] = true) := by show _ = _; unfold fromC; simp; omega
      go_wp2_with fail
      go_round
      case rel => exact ⟨k + 1, by omega, by go_num, by show _ = _; rw [all_take_succ s k hlt, HA.out, HI.out]; rfl⟩
      case measure => simp [intOf]; omega
    · go_wp2_with fail
      go_ret
      exact ⟨ret_bool (all_true s k hlt (fromC n) HA.out).symm, rfl⟩

end Go.Proofs.YtjbejnibiebjgaaGreat
