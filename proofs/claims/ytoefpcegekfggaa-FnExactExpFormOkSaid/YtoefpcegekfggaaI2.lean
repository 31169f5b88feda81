/- The model's l1ScopesOk and the program's isAscending and areScopes return whether scopes are ascending, none below 0. Condition: the slice lies in memory as IntsAt says. -/
import Derived.Test.YtoefpcegekfggaaI1
namespace Go.Proofs.Ytoefpcegekfggaa
open Go.RowKit Go.Siskin

theorem scopes_no {xs : List Int} (h : ¬ (AscTo xs xs.length ∧ NonTo xs xs.length)) : false = scopesB xs := by
  rw [eq_comm, Bool.eq_false_iff]; intro e; exact h ((scopes_iff xs).1 e)
theorem asc_no {xs : List Int} (h : ¬ AscTo xs xs.length) : false = ascB xs := by
  rw [eq_comm, Bool.eq_false_iff]; intro e; exact h ((asc_iff xs).1 e)
theorem getD_get {xs : List Int} {k : Nat} (h : k < xs.length) : xs.getD k 0 = xs[k] := by simp [List.getD_eq_getElem?_getD, h]

theorem asc_step {xs : List Int} {k : Nat} (h : AscTo xs k) (hk : k = 0 ∨ xs.getD (k - 1) 0 < xs.getD k 0) : AscTo xs (k + 1) := by
  intro i hi
  by_cases e : i + 1 < k
  · exact h i e
  · have : i + 1 = k := by omega
    subst this
    rcases hk with hk | hk
    · omega
    · simpa using hk
theorem non_step {xs : List Int} {k : Nat} (h : NonTo xs k) (hk : 0 ≤ xs.getD k 0) : NonTo xs (k + 1) := by
  intro i hi
  by_cases e : i < k
  · exact h i e
  · have : i = k := by omega
    subst this; exact hk

set_option maxHeartbeats 1000000 in
theorem l1ScopesOk_any (B : Nat → Prop) (va : Value) (xs : List Int) (w : World) (ha : IntsAt B w va xs) :
    Calls Try.prog 39 #[va] w fun e w' => e = .returned (.bool (scopesB xs)) ∧ ∃ n, w' = w.drewN n := by
  obtain ⟨a, ca, rfl, hla, ha⟩ := ha
  unfold maxLen at hla
  go_enter Try.func39, Try.ntmps39
  go_wp2_with fail
  go_loopw [3] (fun i wr => (∃ n, wr = w.drewN n) ∧ ∃ k : Nat, k ≤ xs.length ∧ i = .int .i64 k ∧ Hid (AscTo xs k ∧ NonTo xs k)) (fun i _ => xs.length - (intOf i).toNat)
  case atStart => exact ⟨⟨0, rfl⟩, 0, Nat.zero_le _, rfl, fun i hi => absurd hi (by omega), fun i hi => absurd hi (by omega)⟩
  case round =>
    obtain ⟨⟨n, rfl⟩, k, hk, rfl, HA⟩ := hrel
    by_cases hlt : k < xs.length
    · rcases ha with ha | ⟨ba, oa, rfl, _, ha⟩
      · subst ha; simp at hlt
      have ga := ha k hlt
      rw [getD_get hlt] at ga
      by_cases h1 : xs[k] < 0
      · have hd : decide (xs[k] < 0) = true := decide_eq_true h1
        have HX : Hid (false = scopesB xs) := scopes_no fun h => by
          have := h.2 k hlt; rw [getD_get hlt] at this; omega
        clear ha
        go_wp2_with fail
        go_quiet (fail)
        go_wp2_with fail
        go_ret
        exact ⟨ret_bool HX.out, n + nq, by simp⟩
      have hd : decide (xs[k] < 0) = false := decide_eq_false h1
      cases k with
      | succ j =>
        have gb := ha j (by omega)
        rw [getD_get (by omega)] at gb
        have hd2 : decide (0 < ((j + 1 : Nat) : Int)) = true := decide_eq_true (by omega)
        clear ha
        by_cases h3 : xs[j + 1] ≤ xs[j]
        · have HX : Hid (false = scopesB xs) := scopes_no fun h => by
            have := h.1 j (by omega); rw [getD_get (by omega), getD_get hlt] at this; omega
          go_wp2_with fail
          go_quiet (fail)
          go_wp2_with fail
          go_ret
          exact ⟨ret_bool HX.out, n + nq, by simp⟩
        · have HA' : Hid (AscTo xs (j + 1 + 1) ∧ NonTo xs (j + 1 + 1)) := ⟨asc_step HA.out.1 (Or.inr (by rw [Nat.add_sub_cancel, getD_get (by omega), getD_get hlt]; omega)), non_step HA.out.2 (by rw [getD_get hlt]; omega)⟩
          go_wp2_with fail
          go_quiet (fail)
          go_wp2_with fail
          exact ⟨⟨⟨n + nq, rfl⟩, j + 1 + 1, by omega, by go_num, HA'⟩, by simp [intOf]; omega⟩
      | zero =>
        have HA' : Hid (AscTo xs (0 + 1) ∧ NonTo xs (0 + 1)) := ⟨asc_step HA.out.1 (Or.inl rfl), non_step HA.out.2 (by rw [getD_get hlt]; omega)⟩
        rw [Nat.add_zero] at ga
        clear ha
        go_wp2_with fail
        go_quiet (fail)
        go_wp2_with fail
        exact ⟨⟨⟨n + nq, rfl⟩, 1, by omega, by go_num, HA'⟩, by simp [intOf]; omega⟩
    · go_wp2_with fail
      go_ret
      have e : k = xs.length := by omega
      exact ⟨ret_bool (by rw [eq_comm, scopes_iff, ← e]; exact HA.out), n, rfl⟩

set_option maxHeartbeats 1000000 in
theorem isAscending_any (B : Nat → Prop) (va : Value) (xs : List Int) (w : World) (ha : IntsAt B w va xs) :
    Calls Try.prog 44 #[va] w fun e w' => e = .returned (.bool (ascB xs)) ∧ ∃ n, w' = w.drewN n := by
  obtain ⟨a, ca, rfl, hla, ha⟩ := ha
  unfold maxLen at hla
  go_enter Try.func44, Try.ntmps44
  go_wp2_with fail
  go_loopw [3] (fun i wr => (∃ n, wr = w.drewN n) ∧ ∃ k : Nat, k ≤ xs.length ∧ i = .int .i64 ((k : Int) + 1) ∧ Hid (AscTo xs (k + 1))) (fun i _ => xs.length + 1 - (intOf i).toNat)
  case atStart => exact ⟨⟨0, rfl⟩, 0, Nat.zero_le _, rfl, fun i hi => absurd hi (by omega)⟩
  case round =>
    obtain ⟨⟨n, rfl⟩, j, hk, rfl, HA⟩ := hrel
    by_cases hlt : j + 1 < xs.length
    · rcases ha with ha | ⟨ba, oa, rfl, _, ha⟩
      · subst ha; simp at hlt
      have ga := ha (j + 1) hlt
      have gb := ha j (by omega)
      rw [getD_get hlt] at ga
      rw [getD_get (by omega)] at gb
      clear ha
      by_cases h3 : xs[j + 1] ≤ xs[j]
      · have HX : Hid (false = ascB xs) := asc_no fun h => by
          have := h j (by omega); rw [getD_get (by omega), getD_get hlt] at this; omega
        go_wp2_with fail
        go_quiet (fail)
        go_wp2_with fail
        go_ret
        exact ⟨ret_bool HX.out, n + nq, by simp⟩
      · have HA' : Hid (AscTo xs (j + 1 + 1)) := asc_step HA.out (Or.inr (by rw [Nat.add_sub_cancel, getD_get (by omega), getD_get hlt]; omega))
        go_wp2_with fail
        go_quiet (fail)
        go_wp2_with fail
        exact ⟨⟨⟨n + nq, rfl⟩, j + 1, by omega, by go_num, HA'⟩, by simp [intOf]; omega⟩
    · go_wp2_with fail
      go_ret
      exact ⟨ret_bool (by rw [eq_comm, asc_iff]; exact fun i hi => HA.out i (by omega)), n, rfl⟩

set_option maxHeartbeats 1000000 in
theorem areScopes_any (B : Nat → Prop) (va : Value) (xs : List Int) (w : World) (ha : IntsAt B w va xs) :
    Calls Try.prog 60 #[va] w fun e w' => e = .returned (.bool (scopesB xs)) ∧ ∃ n, w' = w.drewN n := by
  have ha0 := ha
  obtain ⟨a, ca, rfl, hla, ha⟩ := ha
  unfold maxLen at hla
  cases h1 : ascB xs with
  | false =>
    go_enter Try.func60, Try.ntmps60
    go_wp2_with (go_at_call 44; refine (isAscending_any B _ xs _ ha0).mono ?_; rintro e w' ⟨rfl, n, rfl⟩)
    go_ret
    exact ⟨ret_bool (by unfold scopesB; rw [h1]; rfl), n, rfl⟩
  | true =>
    by_cases h2 : xs = []
    · subst h2
      go_enter Try.func60, Try.ntmps60
      go_wp2_with (go_at_call 44; refine (isAscending_any B _ [] _ ha0).mono ?_; rintro e w' ⟨rfl, n, rfl⟩)
      go_ret
      exact ⟨ret_bool rfl, n, rfl⟩
    · rcases ha with ha | ⟨ba, oa, rfl, _, ha⟩
      · exact absurd ha h2
      have hlt : 0 < xs.length := by cases xs with | nil => exact absurd rfl h2 | cons _ _ => simp
      have ga := ha 0 hlt
      rw [getD_get hlt, Nat.add_zero] at ga
      clear ha
      have hne : ((xs.length : Int) == 0) = false := by simp; omega
      have HX : Hid (scopesB xs = decide (0 ≤ xs[0])) := by
        show _ = _
        unfold scopesB; rw [h1, Bool.true_and, Bool.eq_iff_iff, List.all_eq_true, decide_eq_true_eq]
        constructor
        · intro h; exact of_decide_eq_true (h _ (List.getElem_mem hlt))
        · intro h x hx
          obtain ⟨i, hi, rfl⟩ := List.getElem_of_mem hx
          have hasc := (asc_iff xs).1 h1
          have : ∀ j (hj : j < xs.length), 0 ≤ xs[j] := by
            intro j
            induction j with
            | zero => intro _; exact h
            | succ j ih =>
              intro hj
              have a1 := ih (by omega)
              have a2 := hasc j hj
              rw [getD_get (by omega), getD_get hj] at a2
              omega
          exact decide_eq_true (this i hi)
      go_enter Try.func60, Try.ntmps60
      go_wp2_with (go_at_call 44; refine (isAscending_any B _ xs _ ha0).mono ?_; rintro e w' ⟨rfl, n, rfl⟩)
      go_ret
      exact ⟨ret_bool HX.out.symm, n, rfl⟩

end Go.Proofs.Ytoefpcegekfggaa
