/- The model's l2Has and l2Within return whether a number, or all numbers of a list, are in a list. Condition: the slices lie in memory as IntsAt says. -/
import Derived.Test.YtbloafjkejkjcaaB2
namespace Go.Proofs.Ytbloafjkejkjcaa
open Go.RowKit Go.Siskin

def withinB (a b : List Int) : Bool := a.all fun x => b.contains x

theorem has_no {xs : List Int} {n : Int} {k : Nat} (hk : ¬ k < xs.length) (h : ∀ j (hj : j < xs.length), j < k → xs[j] ≠ n) : false = xs.contains n := by
  rw [eq_comm, Bool.eq_false_iff]
  intro e
  obtain ⟨j, hj, rfl⟩ := List.getElem_of_mem (List.contains_iff_mem.1 e)
  exact h j hj (by omega) rfl
theorem has_yes {xs : List Int} {n : Int} {k : Nat} (hk : k < xs.length) (h : xs[k] = n) : true = xs.contains n := by
  rw [eq_comm, List.contains_iff_mem, ← h]; exact List.getElem_mem hk
theorem has_step {xs : List Int} {n : Int} {k : Nat} (hlt : k < xs.length) (hn : xs[k] ≠ n) (h : ∀ j (hj : j < xs.length), j < k → xs[j] ≠ n) : ∀ j (hj : j < xs.length), j < k + 1 → xs[j] ≠ n := by
  intro j hj hjk
  by_cases e : j = k
  · subst e; exact hn
  · exact h j hj (by omega)
theorem within_no {a b : List Int} {k : Nat} (hk : k < a.length) (h : b.contains a[k] = false) : false = withinB a b := by
  rw [eq_comm, Bool.eq_false_iff]
  intro e
  have := List.all_eq_true.1 e a[k] (List.getElem_mem hk)
  rw [h] at this; cases this
theorem within_yes {a b : List Int} {k : Nat} (hk : ¬ k < a.length) (h : ∀ j (hj : j < a.length), j < k → b.contains a[j] = true) : true = withinB a b := by
  rw [eq_comm]
  refine List.all_eq_true.2 fun x hx => ?_
  obtain ⟨j, hj, rfl⟩ := List.getElem_of_mem hx
  exact h j hj (by omega)
theorem within_step {a b : List Int} {k : Nat} (hk : k < a.length) (h0 : b.contains a[k] = true) (h : ∀ j (hj : j < a.length), j < k → b.contains a[j] = true) : ∀ j (hj : j < a.length), j < k + 1 → b.contains a[j] = true := by
  intro j hj hjk
  by_cases e : j = k
  · subst e; exact h0
  · exact h j hj (by omega)

set_option maxHeartbeats 400000 in
theorem l2Has_any (B : Nat → Prop) (va : Value) (xs : List Int) (n : Int) (w : World) (ha : IntsAt B w va xs) :
    Calls Try.prog 36 #[va, .int .i64 n] w fun e w' => e = .returned (.bool (xs.contains n)) ∧ w' = w := by
  obtain ⟨a, ca, rfl, hla, ha⟩ := ha
  unfold maxLen at hla
  go_enter Try.func36, Try.ntmps36
  go_wp2_with fail
  go_loopw [5] (fun i wr => Hid (wr = w) ∧ ∃ k : Nat, k ≤ xs.length ∧ i = .int .i64 k ∧ Hid (∀ j (hj : j < xs.length), j < k → xs[j] ≠ n)) (fun i _ => xs.length - (intOf i).toNat)
  case atStart => exact ⟨rfl, 0, Nat.zero_le _, rfl, fun j _ hj => absurd hj (by omega)⟩
  case round =>
    obtain ⟨HW, k, hk, rfl, HA⟩ := hrel
    by_cases hlt : k < xs.length
    · rcases ha with ha | ⟨ba, oa, rfl, _, ha⟩
      · subst ha; simp at hlt
      have ga := ha k hlt
      rw [getD_get hlt, ← HW.out] at ga
      clear ha
      by_cases hx : xs[k] = n
      · have HX := hid (has_yes hlt hx)
        have hb : (xs[k] == n) = true := beq_iff_eq.2 hx
        clear hx
        go_wp2_with fail
        go_ret
        exact ⟨ret_bool HX.out, HW.out⟩
      · have HX := hid (has_step hlt hx HA.out)
        have hb : (xs[k] == n) = false := beq_eq_false_iff_ne.2 hx
        clear hx
        go_wp2_with fail
        exact ⟨⟨HW.out, k + 1, by omega, by go_num, HX⟩, by simp [intOf]; omega⟩
    · go_wp2_with fail
      go_ret
      exact ⟨ret_bool (has_no hlt HA.out), HW.out⟩

set_option maxHeartbeats 400000 in
theorem l2Within_any (B : Nat → Prop) (va vb : Value) (xs ys : List Int) (w : World) (ha : IntsAt B w va xs) (hb : IntsAt B w vb ys) :
    Calls Try.prog 29 #[va, vb] w fun e w' => e = .returned (.bool (withinB xs ys)) ∧ w' = w := by
  have HY := hid hb
  obtain ⟨a, ca, rfl, hla, ha⟩ := ha
  obtain ⟨b, cb, rfl, -, -⟩ := hb
  unfold maxLen at hla
  go_enter Try.func29, Try.ntmps29
  go_wp2_with fail
  go_loopw [5] (fun i wr => Hid (wr = w) ∧ ∃ k : Nat, k ≤ xs.length ∧ i = .int .i64 k ∧ Hid (∀ j (hj : j < xs.length), j < k → ys.contains xs[j] = true)) (fun i _ => xs.length - (intOf i).toNat)
  case atStart => exact ⟨rfl, 0, Nat.zero_le _, rfl, fun j _ hj => absurd hj (by omega)⟩
  case round =>
    obtain ⟨HW, k, hk, rfl, HA⟩ := hrel
    by_cases hlt : k < xs.length
    · rcases ha with ha | ⟨ba, oa, rfl, _, ha⟩
      · subst ha; simp at hlt
      have ga := ha k hlt
      rw [getD_get hlt, ← HW.out] at ga
      have HC := hid (l2Has_any B (.slice b ys.length cb) ys xs[k] wr (by rw [HW.out]; exact HY.out))
      clear ha
      cases hx : ys.contains xs[k] with
      | false =>
        have HX := hid (within_no hlt hx)
        go_wp2_with (go_at_call 36; refine HC.out.mono ?_; rintro e w' ⟨rfl, hw⟩; rw [hw, hx]; clear hw w')
        go_ret
        exact ⟨ret_bool HX.out, HW.out⟩
      | true =>
        have HX := hid (within_step hlt hx HA.out)
        go_wp2_with (go_at_call 36; refine HC.out.mono ?_; rintro e w' ⟨rfl, hw⟩; rw [hw, hx]; clear hw w')
        exact ⟨⟨HW.out, k + 1, by omega, by go_num, HX⟩, by simp [intOf]; omega⟩
    · go_wp2_with fail
      go_ret
      exact ⟨ret_bool (within_yes hlt HA.out), HW.out⟩

end Go.Proofs.Ytbloafjkejkjcaa
