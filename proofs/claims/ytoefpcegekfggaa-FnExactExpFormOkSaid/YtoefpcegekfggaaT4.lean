/- The model's l1IdOk returns, at every text, whether it is an identifier; the world is as it was. Condition: the text's size is one that a Go string can have. -/
import Derived.Test.YtoefpcegekfggaaT2
import Derived.Test.YtoefpcegekfggaaT3
import Derived.Test.YtoefpcegekfggaaShelf
namespace Go.Proofs.Ytoefpcegekfggaa
open Go.RowKit Go.Siskin

theorem tl_empty (s : ByteArray) : s.toList.isEmpty = s.data.toList.isEmpty := by rw [Go.ByteArray.toList_eq]

set_option maxHeartbeats 4000000 in
theorem l1IdOk_any (s : ByteArray) (w : World) (hs : s.size ≤ maxLen) :
    Calls Try.prog 38 #[.string s] w fun e w' => e = .returned (.bool (idB s.data.toList)) ∧ w' = w := by
  have hs0 := hs
  have HT : Hid (idB s.data.toList = (!(s.toList.isEmpty || s.toList == [46] || atomB s.data.toList || s.data.toList.head? == some 35) && s.data.toList.all wordB)) := by
    show _ = _
    rw [tl_beq, tl_empty]; rfl
  unfold maxLen at hs
  cases h0 : s.toList.isEmpty with
  | true =>
    go_enter Try.func38, Try.ntmps38
    go_wp2_with fail
    go_ret
    exact ⟨ret_bool (by rw [HT.out, h0]; rfl), rfl⟩
  | false =>
  have h9 : 0 < s.size := by
    by_cases e : s.size = 0
    · rw [tl_empty, empty_size, decide_eq_true e] at h0; cases h0
    · omega
  cases h1 : (s.toList == [46]) with
  | true =>
    go_enter Try.func38, Try.ntmps38
    go_wp2_with fail
    go_ret
    exact ⟨ret_bool (by rw [HT.out, h1]; simp), rfl⟩
  | false =>
  cases h2 : atomB s.data.toList with
  | true =>
    go_enter Try.func38, Try.ntmps38
    go_wp2_with (go_at_call 40; refine (l1AtomOk_any _ _ hs0).mono ?_; rintro e w' ⟨rfl, hw⟩; rw [hw]; clear hw w')
    go_ret
    exact ⟨ret_bool (by rw [HT.out, h2]; simp), rfl⟩
  | false =>
  by_cases h3 : (s[0].toNat : Int) = 35
  · have HH : Hid ((s.data.toList.head? == some 35) = true) := by
      show _ = _
      rw [head_size s h9]; exact (u8_some s[0] 35 (by decide)).trans (decide_eq_true h3)
    go_enter Try.func38, Try.ntmps38
    go_wp2_with (go_at_call 40; refine (l1AtomOk_any _ _ hs0).mono ?_; rintro e w' ⟨rfl, hw⟩; rw [hw]; clear hw w')
    go_ret
    exact ⟨ret_bool (by rw [HT.out, HH.out]; simp), rfl⟩
  have HH : Hid (idB s.data.toList = s.data.toList.all wordB) := by
    show _ = _
    rw [HT.out, h0, h1, h2, head_size s h9, show (some s[0] == some 35) = false from (u8_some s[0] 35 (by decide)).trans (decide_eq_false h3)]; rfl
  clear HT
  have h3' : ((s[0].toNat : Int) == 35) = false := by simpa using h3
  go_enter Try.func38, Try.ntmps38
  go_wp2_with (go_at_call 40; refine (l1AtomOk_any _ _ hs0).mono ?_; rintro e w' ⟨rfl, hw⟩; rw [hw]; clear hw w')
  go_loop [3] (fun i => ∃ k : Nat, k ≤ s.size ∧ i = .int .i64 k ∧ Hid ((s.data.toList.take k).all wordB = true)) (fun i => s.size - (intOf i).toNat)
  case atStart => exact ⟨0, Nat.zero_le _, rfl, rfl⟩
  case round =>
    obtain ⟨k, hk, rfl, HA⟩ := hrel
    by_cases hlt : k < s.size
    · have bad : Hid ((endsB s[k] = true ∨ (s[k].toNat : Int) < 33 ∨ 126 < (s[k].toNat : Int) ∨ (s[k].toNat : Int) = 126) → false = idB s.data.toList) := by
        intro hb
        rw [HH.out]; exact (all_false s k hlt wordB (word_no _ hb)).symm
      cases a0 : endsB s[k] with
      | true =>
        go_wp2_with (go_at_call 52; refine (l1Ends_any _ _).mono ?_; rintro e w' ⟨rfl, hw⟩; rw [hw]; clear hw w')
        go_ret
        exact ⟨ret_bool (bad.out (Or.inl a0)), rfl⟩
      | false =>
      by_cases a1 : (s[k].toNat : Int) < 33
      · go_wp2_with (go_at_call 52; refine (l1Ends_any _ _).mono ?_; rintro e w' ⟨rfl, hw⟩; rw [hw]; clear hw w')
        go_ret
        exact ⟨ret_bool (bad.out (Or.inr (Or.inl a1))), rfl⟩
      by_cases a2 : 126 < (s[k].toNat : Int)
      · go_wp2_with (go_at_call 52; refine (l1Ends_any _ _).mono ?_; rintro e w' ⟨rfl, hw⟩; rw [hw]; clear hw w')
        go_ret
        exact ⟨ret_bool (bad.out (Or.inr (Or.inr (Or.inl a2)))), rfl⟩
      by_cases a3 : (s[k].toNat : Int) = 126
      · have b1 : 125 < (s[k].toNat : Int) := by omega
        have A3 : Hid _ := a3
        clear a3
        go_wp2_with (go_at_call 52; refine (l1Ends_any _ _).mono ?_; rintro e w' ⟨rfl, hw⟩; rw [hw]; clear hw w')
        · go_ret
          exact ⟨ret_bool (bad.out (Or.inr (Or.inr (Or.inr A3.out)))), rfl⟩
        · rename_i hx
          exact absurd hx.2 (by rw [A3.out]; decide)
      have HI : Hid (wordB s[k] = true) := word_yes _ a0 a1 a2 a3
      have a4 : ((s[k].toNat : Int) == 126) = false := by simpa using a3
      go_wp2_with (go_at_call 52; refine (l1Ends_any _ _).mono ?_; rintro e w' ⟨rfl, hw⟩; rw [hw]; clear hw w')
      go_round
      case rel => exact ⟨k + 1, by omega, by go_num, by show _ = _; rw [all_take_succ s k hlt, HA.out, HI.out]; rfl⟩
      case measure => simp [intOf]; omega
    · go_wp2_with fail
      go_ret
      exact ⟨ret_bool (by rw [HH.out]; exact (all_true s k hlt wordB HA.out).symm), rfl⟩

end Go.Proofs.Ytoefpcegekfggaa
