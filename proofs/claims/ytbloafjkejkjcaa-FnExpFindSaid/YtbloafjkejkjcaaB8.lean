/- The program's setOf makes an ascending list of the same items. Condition: the list lies in memory as IntsAt says, and is not too long. -/
import Derived.Test.YtbloafjkejkjcaaB7
import Derived.Test.YtbloafjkejkjcaaI2
import Derived.Test.YtbloafjkejkjcaaRg
namespace Go.Proofs.Ytbloafjkejkjcaa
open Go.RowKit Go.Siskin

/-- The set of a list. -/
def setL (xs : List Int) : List Int := if ascB xs then xs else Lib.compact (xs.mergeSort fun x y => decide (x ≤ y))

/-- Of a sorted row, what is kept of its first m places is ascending, has all items, and none above the last. -/
theorem kept_upto (d : Array Int) (hd : ∀ j, j + 1 < d.size → d[j]! ≤ d[j + 1]!) : ∀ m, m ≤ d.size →
    Asc (Lib.compactUpTo d m) ∧ (∀ x, x ∈ Lib.compactUpTo d m ↔ ∃ j, j < m ∧ d[j]! = x) ∧ ∀ x ∈ Lib.compactUpTo d m, x ≤ d[m - 1]!
  | 0, _ => by
    refine ⟨List.Pairwise.nil, fun x => ⟨fun h => by simp [Lib.compactUpTo] at h, fun ⟨j, hj, _⟩ => by omega⟩, fun x h => by simp [Lib.compactUpTo] at h⟩
  | m + 1, hm => by
    obtain ⟨h1, h2, h3⟩ := kept_upto d hd m (by omega)
    rw [Lib.compactUpTo_succ]
    by_cases hk : Lib.keeps d m = true
    · rw [if_pos hk]
      have hlt : ∀ x ∈ Lib.compactUpTo d m, x < d[m]! := by
        intro x hx
        have hm0 : m ≠ 0 := by intro e; subst e; simp [Lib.compactUpTo] at hx
        have hne : d[m]! ≠ d[m - 1]! := by
          unfold Lib.keeps at hk
          rcases of_decide_eq_true hk with h | h
          · exact absurd h hm0
          · exact h
        have ha := h3 x hx
        have hb := hd (m - 1) (by omega)
        rw [show m - 1 + 1 = m from by omega] at hb
        omega
      refine ⟨List.pairwise_append.2 ⟨h1, List.pairwise_singleton _ _, fun x hx y hy => ?_⟩, fun x => ?_, fun x hx => ?_⟩
      · rw [List.mem_singleton.1 hy]; exact hlt x hx
      · rw [List.mem_append, List.mem_singleton, h2]
        constructor
        · rintro (⟨j, hj, e⟩ | e)
          · exact ⟨j, by omega, e⟩
          · exact ⟨m, by omega, e.symm⟩
        · rintro ⟨j, hj, e⟩
          by_cases hjm : j = m
          · right; rw [← e, hjm]
          · left; exact ⟨j, by omega, e⟩
      · rw [Nat.add_sub_cancel]
        rcases List.mem_append.1 hx with hx | hx
        · exact Int.le_of_lt (hlt x hx)
        · rw [List.mem_singleton.1 hx]; exact Int.le_refl _
    · rw [if_neg hk, List.append_nil]
      have hk2 : m ≠ 0 ∧ d[m]! = d[m - 1]! := by
        unfold Lib.keeps at hk
        rw [decide_eq_true_eq] at hk
        exact ⟨fun e => hk (Or.inl e), by
          by_cases e : d[m]! = d[m - 1]!
          · exact e
          · exact absurd (Or.inr e) hk⟩
      refine ⟨h1, fun x => ?_, fun x hx => ?_⟩
      · rw [h2]
        constructor
        · rintro ⟨j, hj, e⟩; exact ⟨j, by omega, e⟩
        · rintro ⟨j, hj, e⟩
          by_cases hjm : j = m
          · refine ⟨m - 1, by omega, ?_⟩
            rw [← hk2.2, ← hjm]; exact e
          · exact ⟨j, by omega, e⟩
      · rw [Nat.add_sub_cancel, hk2.2]; exact h3 x hx

theorem sorted_step (zs : List Int) (h : zs.Pairwise (· ≤ ·)) : ∀ j, j + 1 < zs.toArray.size → zs.toArray[j]! ≤ zs.toArray[j + 1]! := by
  intro j hj
  have hj' : j + 1 < zs.length := by simpa using hj
  have := List.pairwise_iff_getElem.1 h j (j + 1) (by omega) hj' (by omega)
  simpa [getElem!_pos, hj', show j < zs.length by omega] using this

theorem sorted_le (xs : List Int) : (xs.mergeSort fun x y => decide (x ≤ y)).Pairwise (· ≤ ·) := by
  have h := List.pairwise_mergeSort (le := fun x y : Int => decide (x ≤ y)) (fun a b c h1 h2 => by simp only [decide_eq_true_eq] at h1 h2 ⊢; omega) (fun a b => by simp only [Bool.or_eq_true, decide_eq_true_eq]; omega) xs
  refine List.pairwise_iff_getElem.2 fun i j hi hj hij => ?_
  exact of_decide_eq_true (List.pairwise_iff_getElem.1 h i j hi hj hij)

theorem setL_asc (xs : List Int) : Asc (setL xs) := by
  unfold setL
  cases h : ascB xs with
  | true => exact asc_pw xs h
  | false => exact (kept_upto _ (sorted_step _ (sorted_le xs)) _ (by simp)).1
theorem setL_mem (xs : List Int) (x : Int) : x ∈ setL xs ↔ x ∈ xs := by
  unfold setL
  cases h : ascB xs with
  | true => rfl
  | false =>
    show x ∈ Lib.compactUpTo _ _ ↔ _
    rw [(kept_upto _ (sorted_step _ (sorted_le xs)) _ (by simp)).2.1 x]
    have hp : x ∈ xs.mergeSort (fun x y => decide (x ≤ y)) ↔ x ∈ xs := (List.mergeSort_perm xs _).mem_iff
    rw [← hp]
    constructor
    · rintro ⟨j, hj, e⟩
      rw [← e]
      simp only [List.getElem!_toArray]
      rw [getElem!_pos _ j hj]; exact List.getElem_mem hj
    · intro hx
      obtain ⟨j, hj, e⟩ := List.getElem_of_mem hx
      refine ⟨j, hj, ?_⟩
      simp only [List.getElem!_toArray]
      rw [getElem!_pos _ j hj]; exact e
theorem setL_len (xs : List Int) : (setL xs).length ≤ xs.length := by
  unfold setL
  cases h : ascB xs with
  | true => exact Nat.le_refl _
  | false =>
    show (Lib.compact (xs.mergeSort fun x y => decide (x ≤ y))).length ≤ xs.length
    have := Lib.compact_length_le (xs.mergeSort fun x y => decide (x ≤ y))
    rw [List.length_mergeSort] at this; exact this

end Go.Proofs.Ytbloafjkejkjcaa
