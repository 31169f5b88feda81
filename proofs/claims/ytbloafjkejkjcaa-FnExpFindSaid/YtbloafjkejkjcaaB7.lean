/- The program's sets: within returns whether all items are in another set; setOf makes an ascending list of the same items. Condition: the items lie in memory as IntsAt says, ascending. -/
import Derived.Test.YtbloafjkejkjcaaB6
import Derived.Test.YtbloafjkejkjcaaShelf3
namespace Go.Proofs.Ytbloafjkejkjcaa
open Go.RowKit Go.Siskin

theorem asc_pw : ∀ xs : List Int, ascB xs = true → Asc xs
  | [], _ => List.Pairwise.nil
  | [a], _ => List.pairwise_singleton _ _
  | a :: b :: r, h => by
    unfold ascB at h
    rw [Bool.and_eq_true, decide_eq_true_eq] at h
    have ih := asc_pw (b :: r) h.2
    refine List.pairwise_cons.2 ⟨fun x hx => ?_, ih⟩
    rcases List.mem_cons.1 hx with rfl | hx
    · exact h.1
    · have := (List.pairwise_cons.1 ih).1 x hx
      omega

theorem asc_le : ∀ xs : List Int, Asc xs → xs.Pairwise (· ≤ ·)
  | [], _ => List.Pairwise.nil
  | a :: r, h => by
    obtain ⟨h1, h2⟩ := List.pairwise_cons.1 h
    exact List.pairwise_cons.2 ⟨fun x hx => Int.le_of_lt (h1 x hx), asc_le r h2⟩

/-- Whether a number is in a set: what slices.BinarySearch says. -/
theorem search_any (B : Nat → Prop) (v : Value) (xs : List Int) (x : Int) (w : World) (h : IntsAt B w v xs) (hs : Asc xs) (hn : xs.length ≤ 1048576) :
    Calls Try.prog 32 #[v, .int .i64 x] w fun e w' => (∃ i : Int, e = .returned (.tuple #[.int .i64 i, .bool (xs.contains x)])) ∧ ∃ q, w' = w.drewN q := by
  obtain ⟨a, cap, rfl, hl, h⟩ := h
  rcases h with h | ⟨b, o, rfl, hb, h⟩
  · subst h
    refine (Try.slices_BinarySearch_int_empty a cap x w).mono ?_
    rintro e w' ⟨rfl, rfl⟩
    exact ⟨⟨_, rfl⟩, 0, rfl⟩
  · refine (Try.slices_BinarySearch_int b o xs.length cap xs x w (Nat.le_refl _) (by omega) h (by rw [List.take_length]; exact asc_le xs hs)).mono ?_
    rintro e w' ⟨rfl, hw⟩
    rw [List.take_length]
    exact ⟨⟨_, rfl⟩, hw⟩

set_option maxHeartbeats 1000000 in
theorem within_any (B : Nat → Prop) (va vb : Value) (xs ys : List Int) (w : World) (ha : IntsAt B w va xs) (hb : IntsAt B w vb ys) (hys : Asc ys) (hn : ys.length ≤ 1048576) (hB : ∀ b, B b → b < w.heap.size) :
    Calls Try.prog 23 #[.agg #[va], .agg #[vb]] w fun e w' => e = .returned (.bool (withinB xs ys)) ∧ Below w.heap.size w w' := by
  have HY := hid hb
  have HR := hid hB
  obtain ⟨a, ca, rfl, hla, ha⟩ := ha
  obtain ⟨b, cb, rfl, -, -⟩ := hb
  clear hB
  unfold maxLen at hla
  go_enter Try.func23, Try.ntmps23
  go_wp2_with fail
  go_loopw [12] (fun i wr => (∃ n, wr = ((w.alloc (.cells #[.slice a xs.length ca] 47)).alloc (.cells #[.slice b ys.length cb] 47)).drewN n) ∧ ∃ k : Nat, k ≤ xs.length ∧ i = .int .i64 k ∧ Hid (∀ j (hj : j < xs.length), j < k → ys.contains xs[j] = true)) (fun i _ => xs.length - (intOf i).toNat)
  case atStart => exact ⟨⟨0, rfl⟩, 0, Nat.zero_le _, rfl, fun j _ hj => absurd hj (by omega)⟩
  case round =>
    obtain ⟨⟨n, rfl⟩, k, hk, rfl, HA⟩ := hrel
    by_cases hlt : k < xs.length
    · rcases ha with ha | ⟨ba, oa, rfl, hba, ha⟩
      · subst ha; simp at hlt
      have ga := ha k hlt
      have hlb := HR.out ba hba
      rw [getD_get hlt] at ga
      have HC := hid (search_any B (.slice b ys.length cb) ys xs[k] (((w.alloc (.cells #[.slice (some ⟨ba, oa, none⟩) xs.length ca] 47)).alloc (.cells #[.slice b ys.length cb] 47)).drewN n) (HY.out.keep ((((SameOn.refl _ _).alloc HR.out _).alloc (fun b hb => by have := HR.out b hb; simp; omega) _).drewN n)) hys hn)
      clear ha
      cases hx : ys.contains xs[k] with
      | false =>
        have HX := hid (within_no hlt hx)
        go_wp2_with (go_at_call 32; refine HC.out.mono ?_; rintro e w' ⟨⟨i, rfl⟩, q, hw⟩; rw [hw, hx]; clear hw w')
        go_ret
        exact ⟨ret_bool HX.out, belowN (((Below.refl _ _).alloc (Nat.le_refl _) _).alloc (by simp) _) (n + q)⟩
      | true =>
        have HX := hid (within_step hlt hx HA.out)
        go_wp2_with (go_at_call 32; refine HC.out.mono ?_; rintro e w' ⟨⟨i, rfl⟩, q, hw⟩; rw [hw, hx]; clear hw w')
        exact ⟨⟨⟨n + q, by simp⟩, k + 1, by omega, by go_num, HX⟩, by simp [intOf]; omega⟩
    · go_wp2_with fail
      go_ret
      exact ⟨ret_bool (within_yes hlt HA.out), belowN (((Below.refl _ _).alloc (Nat.le_refl _) _).alloc (by simp) _) n⟩

end Go.Proofs.Ytbloafjkejkjcaa
