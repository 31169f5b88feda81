/- The program's isStringText and isAtomText return, at every text, whether it is a string, and whether it is an atom that is not too long; the world is as it was. Condition: the text's size is one that a Go string can have. -/
import Derived.Test.YtoefpcegekfggaaT4
namespace Go.Proofs.Ytoefpcegekfggaa
open Go.RowKit Go.Siskin

/- ### The program's -/

theorem mid_list (s : ByteArray) : List.take (s.size - 1 - 1) s.data.toList.tail = (s.data.toList.drop 1).dropLast := by
  rw [List.dropLast_eq_take, List.drop_one, List.length_tail, show s.data.toList.length = s.size from by simp]

set_option maxHeartbeats 4000000 in
theorem isStringText_any (s : ByteArray) (w : World) (hs : s.size ≤ maxLen) :
    Calls Try.prog 81 #[.string s] w fun e w' => e = .returned (.bool (stringB s.data.toList)) ∧ w' = w := by
  have hs0 := hs
  unfold maxLen at hs
  by_cases h1 : s.size < 2
  · have HS : Hid (stringB s.data.toList = false) := string_short s h1
    go_enter Try.func81, Try.ntmps81
    go_wp2_with fail
    go_ret
    exact ⟨ret_bool HS.out.symm, rfl⟩
  have hl : s.data.toList.length = s.size := by simp
  by_cases h2 : ((s[0]'(by omega)).toNat : Int) = 34
  · by_cases h3 : ((s[s.size - 1]'(by omega)).toNat : Int) = 34
    · have HS : Hid ((fromB 32 s.data.toList && !(List.take (s.size - 1 - 1) s.data.toList.tail).contains 34) = stringB s.data.toList) := by
        show _ = _
        rw [mid_list]
        refine string_two _ (by omega) ?_ ?_
        · rw [head_size s (by omega)]; exact congrArg some (UInt8.toNat_inj.1 (by show _ = 34; omega))
        · rw [last_size s (by omega)]; exact congrArg some (UInt8.toNat_inj.1 (by show _ = 34; omega))
      cases h4 : fromB 32 s.data.toList with
      | false =>
        go_enter Try.func81, Try.ntmps81
        go_wp2_with (go_at_call 77; refine (hasBytesFrom_any 32 _ _ hs0).mono ?_; rintro e w' ⟨rfl, hw⟩; rw [hw]; clear hw w')
        go_ret
        exact ⟨ret_bool (by rw [← HS.out, h4]; rfl), rfl⟩
      | true =>
        go_enter Try.func81, Try.ntmps81
        go_wp2_with (first
          | (go_at_call 77; refine (hasBytesFrom_any 32 _ _ hs0).mono ?_; rintro e w' ⟨rfl, hw⟩; rw [hw]; clear hw w')
          | (go_at_call 90; refine (Try.strings_Contains_one _ _ _).mono ?_; rintro e w' ⟨rfl, hw⟩; rw [hw]; clear hw w'))
        go_ret
        exact ⟨ret_bool (by rw [← HS.out, h4, Lib.contains_iff_indexByte]; rfl), rfl⟩
    · have HS : Hid (stringB s.data.toList = false) := by
        show _ = _
        rw [string_parts s (by omega), decide_eq_false h3]; simp
      have h9 : (((s[s.size - 1]'(by omega)).toNat : Int) != 34) = true := by simpa using h3
      go_enter Try.func81, Try.ntmps81
      go_wp2_with fail
      go_ret
      exact ⟨ret_bool HS.out.symm, rfl⟩
  · have HS : Hid (stringB s.data.toList = false) := by
      show _ = _
      rw [string_parts s (by omega), decide_eq_false h2]; rfl
    have h9 : (((s[0]'(by omega)).toNat : Int) != 34) = true := by simpa using h2
    go_enter Try.func81, Try.ntmps81
    go_wp2_with fail
    go_ret
    exact ⟨ret_bool HS.out.symm, rfl⟩

theorem trim_minus (l : List UInt8) : Lib.trimPrefix l [45] = (if l.head? = some 45 then l.drop 1 else l) := by
  unfold Lib.trimPrefix Lib.hasPrefix
  cases l with
  | nil => simp
  | cons a r =>
    by_cases h : a = 45
    · subst h; simp
    · simp [h]; intro e; exact absurd e.symm h

/-- An atom that is not too long. -/
def atom40 (l : List UInt8) : Bool := decide (l.length ≤ 40) && atomB l

set_option maxHeartbeats 4000000 in
theorem isAtomText_any (s : ByteArray) (w : World) (hs : s.size ≤ maxLen) :
    Calls Try.prog 61 #[.string s] w fun e w' => e = .returned (.bool (atom40 s.data.toList)) ∧ w' = w := by
  have hs0 := hs
  have HT : Hid (atom40 s.data.toList = (decide (s.size ≤ 40) && (s.toList == [35, 116] || s.toList == [35, 102] || digitsB (Lib.trimPrefix s.data.toList [45]) || stringB s.data.toList))) := by
    show _ = _
    rw [tl_beq, tl_beq, trim_minus, digits_trim]
    unfold atom40 atomB
    rw [show s.data.toList.length = s.size from by simp]
    simp only [Bool.or_assoc]
  unfold maxLen at hs
  by_cases h0 : 40 < s.size
  · go_enter Try.func61, Try.ntmps61
    go_wp2_with fail
    go_ret
    exact ⟨ret_bool (by rw [HT.out, decide_eq_false (by omega)]; rfl), rfl⟩
  have h0' : (s.size : Int) ≤ 40 := by omega
  have HT' : Hid (atom40 s.data.toList = ((s.toList == [35, 116] || s.toList == [35, 102] || digitsB (Lib.trimPrefix s.data.toList [45]) || stringB s.data.toList))) := by
    show _ = _
    rw [HT.out, decide_eq_true (by omega), Bool.true_and]
  clear HT h0
  have hs2 : (⟨(Lib.trimPrefix s.data.toList [45]).toArray⟩ : ByteArray).size ≤ maxLen := by
    rw [trim_minus]
    show ((if s.data.toList.head? = some 45 then s.data.toList.drop 1 else s.data.toList).toArray).size ≤ maxLen
    have hl : s.data.toList.length = s.size := by simp
    split
    · rw [List.size_toArray, List.length_drop, hl]; omega
    · rw [List.size_toArray, hl]; omega
  cases h1 : (s.toList == [35, 116]) with
  | true =>
    go_enter Try.func61, Try.ntmps61
    go_wp2_with fail
    go_ret
    exact ⟨ret_bool (by rw [HT'.out, h1]; rfl), rfl⟩
  | false =>
  cases h2 : (s.toList == [35, 102]) with
  | true =>
    go_enter Try.func61, Try.ntmps61
    go_wp2_with fail
    go_ret
    exact ⟨ret_bool (by rw [HT'.out, h2]; simp), rfl⟩
  | false =>
  cases h3 : digitsB (Lib.trimPrefix s.data.toList [45]) with
  | true =>
    go_enter Try.func61, Try.ntmps61
    go_wp2_with (first
      | (go_at_call 80; refine (Try.strings_TrimPrefix _ _ _).mono ?_; rintro e w' ⟨rfl, hw⟩; rw [hw]; clear hw w')
      | (go_at_call 79; refine (isDigits_any _ _ hs2).mono ?_; rintro e w' ⟨rfl, hw⟩; rw [hw]; clear hw w'))
    go_ret
    exact ⟨ret_bool (by rw [HT'.out, h3]; simp), rfl⟩
  | false =>
    go_enter Try.func61, Try.ntmps61
    go_wp2_with (first
      | (go_at_call 80; refine (Try.strings_TrimPrefix _ _ _).mono ?_; rintro e w' ⟨rfl, hw⟩; rw [hw]; clear hw w')
      | (go_at_call 79; refine (isDigits_any _ _ hs2).mono ?_; rintro e w' ⟨rfl, hw⟩; rw [hw]; clear hw w')
      | (go_at_call 81; refine (isStringText_any _ _ hs0).mono ?_; rintro e w' ⟨rfl, hw⟩; rw [hw]; clear hw w'))
    go_ret
    exact ⟨ret_bool (by rw [HT'.out, h1, h2, h3]; rfl), rfl⟩


end Go.Proofs.Ytoefpcegekfggaa
