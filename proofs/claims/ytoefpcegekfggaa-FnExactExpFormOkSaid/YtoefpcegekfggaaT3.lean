/- The program's isDigits and hasBytesFrom return what the plain functions say of the text; the world is as it was. Condition: the text's size is one that a Go string can have. -/
import Derived.Test.YtoefpcegekfggaaTexts
import Derived.Lib.Strings
namespace Go.Proofs.Ytoefpcegekfggaa
open Go.RowKit Go.Siskin

set_option maxHeartbeats 400000 in
theorem isDigits_any (s : ByteArray) (w : World) (hs : s.size ≤ maxLen) :
    Calls Try.prog 79 #[.string s] w fun e w' => e = .returned (.bool (digitsB s.data.toList)) ∧ w' = w := by
  unfold maxLen at hs
  go_enter Try.func79, Try.ntmps79
  go_wp2_with fail
  go_loop [6] (fun i => ∃ k : Nat, k ≤ s.size ∧ i = .int .i64 k ∧ Hid ((s.data.toList.take k).all digitB = true)) (fun i => s.size - (intOf i).toNat)
  case atStart => exact ⟨0, Nat.zero_le _, rfl, rfl⟩
  case round =>
    obtain ⟨k, hk, rfl, HA⟩ := hrel
    by_cases hlt : k < s.size
    · by_cases a1 : (s[k].toNat : Int) < 48
      · go_wp2_with fail
        go_ret
        exact ⟨ret_bool (digits_bad s k hlt (by omega)).symm, rfl⟩
      by_cases a2 : 57 < (s[k].toNat : Int)
      · go_wp2_with fail
        go_ret
        exact ⟨ret_bool (digits_bad s k hlt (by omega)).symm, rfl⟩
      have HI : Hid (digitB s[k] = true) := digit_yes _ a1 a2
      go_wp2_with fail
      go_round
      case rel => exact ⟨k + 1, by omega, by go_num, by show _ = _; rw [all_take_succ s k hlt, HA.out, HI.out]; rfl⟩
      case measure => simp [intOf]; omega
    · go_wp2_with fail
      go_ret
      exact ⟨ret_bool (by rw [digits_end' s k hlt HA.out, Go.ByteArray.toList_eq]), rfl⟩

def fromC (least : Nat) (c : UInt8) : Bool := decide (least ≤ c.toNat) && decide (c.toNat ≤ 126)
set_option maxHeartbeats 400000 in
theorem hasBytesFrom_any (n : Nat) (s : ByteArray) (w : World) (hs : s.size ≤ maxLen) :
    Calls Try.prog 77 #[.int .u8 n, .string s] w fun e w' => e = .returned (.bool (fromB n s.data.toList)) ∧ w' = w := by
  unfold maxLen at hs
  go_enter Try.func77, Try.ntmps77
  go_wp2_with fail
  go_loop [8] (fun i => ∃ k : Nat, k ≤ s.size ∧ i = .int .i64 k ∧ Hid ((s.data.toList.take k).all (fromC n) = true)) (fun i => s.size - (intOf i).toNat)
  case atStart => exact ⟨0, Nat.zero_le _, rfl, rfl⟩
  case round =>
    obtain ⟨k, hk, rfl, HA⟩ := hrel
    by_cases hlt : k < s.size
    · have bad : Hid (((s[k].toNat : Int) < n ∨ 126 < (s[k].toNat : Int)) → false = fromB n s.data.toList) := by
        intro hb
        exact (all_false s k hlt (fromC n) (by unfold fromC; simp; omega)).symm
      by_cases a1 : (s[k].toNat : Int) < n
      · go_wp2_with fail
        go_ret
        exact ⟨ret_bool (bad.out (by omega)), rfl⟩
      by_cases a2 : 126 < (s[k].toNat : Int)
      · go_wp2_with fail
        go_ret
        exact ⟨ret_bool (bad.out (by omega)), rfl⟩
      have HI : Hid (fromC n s[k] = true) := by show _ = _; unfold fromC; simp; omega
      go_wp2_with fail
      go_round
      case rel => exact ⟨k + 1, by omega, by go_num, by show _ = _; rw [all_take_succ s k hlt, HA.out, HI.out]; rfl⟩
      case measure => simp [intOf]; omega
    · go_wp2_with fail
      go_ret
      exact ⟨ret_bool (all_true s k hlt (fromC n) HA.out).symm, rfl⟩

end Go.Proofs.Ytoefpcegekfggaa
