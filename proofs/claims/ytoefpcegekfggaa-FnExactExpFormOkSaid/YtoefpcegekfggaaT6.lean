/- The program's isIdText returns, at every text, whether it is an identifier that is not too long; nothing that was there has turned. Condition: the text's size is one that a Go string can have. -/
import Derived.Test.YtoefpcegekfggaaT5
namespace Go.Proofs.Ytoefpcegekfggaa
open Go.RowKit Go.Siskin

/-- An identifier that is not too long. -/
def id40 (l : List UInt8) : Bool := decide (l.length ≤ 40) && idB l

theorem any_contains (l m : List UInt8) : Lib.containsAny l m = l.any fun c => m.contains c := by
  unfold Lib.containsAny
  induction l with
  | nil => simp [Lib.indexAny]
  | cons b r ih =>
    rw [List.any_cons, ← ih]
    have h := Lib.indexAny_ge m r
    rw [show Lib.indexAny (b :: r) m = (if m.contains b then 0 else if Lib.indexAny r m == -1 then -1 else Lib.indexAny r m + 1) from rfl]
    by_cases hc : m.contains b = true
    · rw [if_pos hc, hc]; simp
    · rw [if_neg hc]
      have hc' : m.contains b = false := by simpa using hc
      rw [hc', Bool.false_or]
      by_cases h1 : Lib.indexAny r m = -1
      · rw [h1]; simp
      · rw [if_neg (by simpa using h1)]
        rw [decide_eq_true (by omega), decide_eq_true (by omega)]

theorem from_ascii (s : ByteArray) (h : fromB 33 s.data.toList = true) : ∀ (j : Nat) b, s.data.toList[j]? = some b → b.toNat < 128 := by
  intro j b hb
  have := List.all_eq_true.1 h b (List.mem_of_getElem? hb)
  simp at this; omega

theorem marks_ascii : ∀ (j : Nat) b, (⟨#[40, 41, 34, 39, 126]⟩ : ByteArray).data.toList[j]? = some b → b.toNat < 128 := by
  intro j b hb
  have : ([40, 41, 34, 39, 126] : List UInt8).all (fun b => decide (b.toNat < 128)) = true := by decide
  exact of_decide_eq_true (List.all_eq_true.1 this b (List.mem_of_getElem? hb))

set_option maxHeartbeats 4000000 in
theorem isIdText_any (s : ByteArray) (w : World) (hs : s.size ≤ maxLen) :
    Calls Try.prog 59 #[.string s] w fun e w' => e = .returned (.bool (id40 s.data.toList)) ∧ Below w.heap.size w w' := by
  have hs0 := hs
  have hl : s.data.toList.length = s.size := by simp
  have HT : Hid (id40 s.data.toList = (decide (s.size ≤ 40) && (!(s.toList.isEmpty || s.toList == [46] || atomB s.data.toList || s.data.toList.head? == some 35) && s.data.toList.all wordB))) := by
    show _ = _
    rw [tl_beq, tl_empty]; unfold id40; rw [hl]; rfl
  unfold maxLen at hs
  cases h0 : s.toList.isEmpty with
  | true =>
    go_enter Try.func59, Try.ntmps59
    go_wp2_with fail
    go_ret
    exact ⟨ret_bool (by rw [HT.out, h0]; simp), Below.refl _ _⟩
  | false =>
  have h9 : 0 < s.size := by
    by_cases e : s.size = 0
    · rw [tl_empty, empty_size, decide_eq_true e] at h0; cases h0
    · omega
  by_cases h40 : 40 < s.size
  · go_enter Try.func59, Try.ntmps59
    go_wp2_with fail
    go_ret
    exact ⟨ret_bool (by rw [HT.out, decide_eq_false (by omega)]; rfl), Below.refl _ _⟩
  have h40' : (s.size : Int) ≤ 40 := by omega
  cases h1 : (s.toList == [46]) with
  | true =>
    go_enter Try.func59, Try.ntmps59
    go_wp2_with fail
    go_ret
    exact ⟨ret_bool (by rw [HT.out, h1]; simp), Below.refl _ _⟩
  | false =>
  by_cases h3 : (s[0].toNat : Int) = 35
  · have HH : Hid ((s.data.toList.head? == some 35) = true) := by
      show _ = _
      rw [head_size s h9]; exact (u8_some s[0] 35 (by decide)).trans (decide_eq_true h3)
    go_enter Try.func59, Try.ntmps59
    go_wp2_with fail
    go_ret
    exact ⟨ret_bool (by rw [HT.out, HH.out]; simp), Below.refl _ _⟩
  have h3' : ((s[0].toNat : Int) == 35) = false := by simpa using h3
  have HH : Hid ((s.data.toList.head? == some 35) = false) := by
    show _ = _
    rw [head_size s h9]; exact (u8_some s[0] 35 (by decide)).trans (decide_eq_false h3)
  cases h2 : atom40 s.data.toList with
  | true =>
    have HA : Hid (atomB s.data.toList = true) := by
      show _ = _
      unfold atom40 at h2; simp at h2; exact h2.2
    go_enter Try.func59, Try.ntmps59
    go_wp2_with (go_at_call 61; refine (isAtomText_any _ _ hs0).mono ?_; rintro e w' ⟨rfl, hw⟩; rw [hw]; clear hw w')
    go_ret
    exact ⟨ret_bool (by rw [HT.out, HA.out]; simp), Below.refl _ _⟩
  | false =>
  have HA : Hid (atomB s.data.toList = false) := by
    show _ = _
    unfold atom40 at h2; rw [hl, decide_eq_true (by omega)] at h2; simpa using h2
  have HF : Hid (id40 s.data.toList = (fromB 33 s.data.toList && !Lib.containsAny s.data.toList [40, 41, 34, 39, 126])) := by
    show _ = _
    rw [HT.out, h0, h1, HA.out, HH.out, any_contains, words_two, decide_eq_true (by omega)]; rfl
  clear HT HA HH
  cases h4 : fromB 33 s.data.toList with
  | false =>
    go_enter Try.func59, Try.ntmps59
    go_wp2_with (first
      | (go_at_call 61; refine (isAtomText_any _ _ hs0).mono ?_; rintro e w' ⟨rfl, hw⟩; rw [hw]; clear hw w')
      | (go_at_call 77; refine (hasBytesFrom_any 33 _ _ hs0).mono ?_; rintro e w' ⟨rfl, hw⟩; rw [hw]; clear hw w'))
    go_ret
    exact ⟨ret_bool (by rw [HF.out, h4]; rfl), Below.refl _ _⟩
  | true =>
    have ha := from_ascii s h4
    have HAS : Hid _ := ha
    clear ha
    go_enter Try.func59, Try.ntmps59
    go_wp2_with (first
      | (go_at_call 61; refine (isAtomText_any _ _ hs0).mono ?_; rintro e w' ⟨rfl, hw⟩; rw [hw]; clear hw w')
      | (go_at_call 77; refine (hasBytesFrom_any 33 _ _ hs0).mono ?_; rintro e w' ⟨rfl, hw⟩; rw [hw]; clear hw w')
      | (go_at_call 78; refine (Try.strings_ContainsAny_laid _ _ _ (by omega) (by decide) HAS.out marks_ascii).mono ?_; rintro e w' ⟨rfl, hw⟩))
    go_ret
    exact ⟨ret_bool (by rw [HF.out, h4]; rfl), hw⟩
end Go.Proofs.Ytoefpcegekfggaa
