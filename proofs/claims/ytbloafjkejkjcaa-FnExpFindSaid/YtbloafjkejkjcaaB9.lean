/- The program's setOf makes an ascending list of the same items, in new memory where the list is not ascending. Condition: the list lies in memory as IntsAt says, and is not too long. -/
import Derived.Test.YtbloafjkejkjcaaB8
namespace Go.Proofs.Ytbloafjkejkjcaa
open Go.RowKit Go.Siskin

theorem below_putRow {B : Nat} {a w : World} (h : Below B a w) {g : Nat} (hg : B ≤ g) (o n : Nat) (d : Array Int) : Below B a (Go.Sort.putRow (Value.int .i64) (Go.Sort.ahead w n) g o d) := by
  refine h.trans ⟨rfl, rfl, rfl, by simp [Go.Sort.ahead], fun b hb => ?_⟩
  have : b ≠ g := by omega
  simp [Go.Sort.putRow, Go.Sort.mapBlock, Go.Sort.ahead, Array.getElem?_modify, Ne.symm this]
theorem below_grow {B : Nat} {a w : World} (h : Below B a w) (hB : B ≤ w.heap.size) (os : Array Obj) : Below B a (Go.Sort.grow w os) := by
  refine h.trans ⟨rfl, rfl, rfl, by simp [Go.Sort.grow], fun b hb => ?_⟩
  simp only [Go.Sort.grow]
  rw [Array.getElem?_append_left (by omega)]

/-- Clone, Sort, Compact, one behind the other. -/
theorem holds_row {w : World} {g : Nat} {cur : Array Value} {xs : List Int} (h : w.heap[g]? = some (.cells cur 3 (0, 0))) (hc : cur.toList.take xs.length = xs.map (Value.int .i64)) : Go.Sort.Holds (Value.int .i64) w g 0 xs.toArray := by
  intro j hj
  have hj' : j < xs.length := by simpa using hj
  have ho : Own w g 3 cur := h
  refine ⟨?_, by rw [Nat.zero_add]; exact ho.frozen j⟩
  rw [Nat.zero_add, ho.cell]
  have e : (cur.toList.take xs.length)[j]? = (xs.map (Value.int .i64))[j]? := by rw [hc]
  rw [List.getElem?_take, if_pos hj', List.getElem?_map, List.getElem?_eq_getElem hj', Array.getElem?_toList] at e
  rw [e]
  simp [getElem!_pos, hj']

set_option maxHeartbeats 1000000 in
theorem setOf_any (B : Nat → Prop) (v : Value) (xs : List Int) (w : World) (h : IntsAt B w v xs) (hB : ∀ b, B b → b < w.heap.size) (hn : xs.length ≤ 1048576) :
    Calls Try.prog 16 #[v] w fun e w' => ∃ u, e = .returned (.agg #[u]) ∧ IntsAt (Reg B w w') w' u (setL xs) ∧ Below w.heap.size w w' := by
  have HX := hid h
  have HR := hid hB
  obtain ⟨a, cap, rfl, hl, h⟩ := h
  clear hB
  cases ha : ascB xs with
  | true =>
    have HS := hid (show setL xs = xs by unfold setL; rw [ha]; rfl)
    go_enter Try.func16, Try.ntmps16
    go_wp2_with (go_at_call 25; refine (isAscending_any B _ xs _ (HX.out.keep ((SameOn.refl _ _).alloc HR.out _))).mono ?_; rintro e w' ⟨rfl, n, hw⟩; rw [hw, ha]; clear hw w')
    refine bodyPost_ret (v := .agg #[.slice a xs.length cap]) (by simp [results, Try.results16, go_sem]) rfl ⟨_, rfl, ?_, ?_⟩
    · rw [HS.out]
      refine (HX.out.keep ?_).mono fun b hb => Or.inl hb
      exact (((SameOn.refl _ _).alloc HR.out _).drewN n).setCell (fun hb => by have := HR.out _ hb; simp at this) _
    · exact (belowN ((Below.refl _ _).alloc (Nat.le_refl _) _) n).setCell (Nat.le_refl _) _
  | false =>
    have HS := hid (show setL xs = Lib.compact (xs.mergeSort fun x y => decide (x ≤ y)) by unfold setL; rw [ha]; rfl)
    rcases h with h | ⟨b, o, rfl, hb, h⟩
    · subst h; cases ha
    have HC := hid h
    clear h
    go_enter Try.func16, Try.ntmps16
    go_wp2_with (go_at_call 25; refine (isAscending_any B _ xs _ (HX.out.keep ((SameOn.refl _ _).alloc HR.out _))).mono ?_; rintro e w' ⟨rfl, n, hw⟩; rw [hw, ha]; clear hw w')
    have B1 := belowN ((Below.refl w.heap.size w).alloc (Nat.le_refl _) (.cells #[.slice none 0 0] 47)) n
    refine (Try.slices_Clone_int b o xs.length cap xs _ (Nat.le_refl _) (by omega) (fun j hj => (B1.cell (p := ⟨b, o + j, none⟩) (HR.out b hb)).trans (HC.out j hj))).mono ?_
    rintro e w2 ⟨v', rfl, ⟨-, hown⟩, hnn, hw2⟩
    have C2 := hid ((belowN (Below.refl (w.heap.size + 1) (w.alloc (.cells #[.slice none 0 0] 47))) n).trans (hw2.mono (by simp)))
    clear hw2 B1
    rcases hown with ⟨h0, -⟩ | ⟨g, cap', cur, rfl, hg, hheap, hle, hmax, hcs, htk⟩
    · exact absurd h0 hnn
    have hg' : w.heap.size + 1 ≤ g := by simpa using hg
    have hgl : g < w2.heap.size := (Array.getElem?_eq_some_iff.1 hheap).1
    have H2 := hid (holds_row hheap (by rw [Nat.mul_one, List.take_length] at htk; exact htk))
    clear hg hheap hcs htk hnn
    have hSl : (xs.mergeSort fun x y => decide (x ≤ y)).length = xs.length := List.length_mergeSort xs
    go_wp2_with fail
    refine (Try.slices_Sort_int g 0 cap' xs w2 H2.out hgl (by omega)).mono ?_
    rintro e w3 ⟨rfl, m, os, hw3⟩
    have C3 : Hid (Below (w.heap.size + 1) (w.alloc (.cells #[.slice none 0 0] 47)) w3) := by
      show Below _ _ _
      rw [hw3]
      exact below_grow (below_putRow C2.out hg' 0 m _) (by have := C2.out.size; simp [Go.Sort.ahead] at this ⊢; omega) os
    have H3 : Hid (Go.Sort.Holds (Value.int .i64) w3 g 0 (xs.mergeSort fun x y => decide (x ≤ y)).toArray) := by
      show Go.Sort.Holds _ _ _ _ _
      rw [hw3]
      exact Go.Sort.holds_grow _ _ _ _ _ _ (by simp [Go.Sort.ahead]; exact hgl) (Go.Sort.holds_putRow _ _ _ _ xs.toArray _ (Go.Sort.holds_ahead _ _ _ _ _ _ H2.out) (by simp))
    have hgl3 : g < w3.heap.size := by rw [hw3]; simp [Go.Sort.grow, Go.Sort.ahead]; omega
    clear hw3
    have hq := Try.slices_Compact_int g 0 cap' (xs.mergeSort fun x y => decide (x ≤ y)) w3 H3.out (by omega) (by omega)
    have hcl := Lib.compact_length_le (xs.mergeSort fun x y => decide (x ≤ y))
    rw [hSl] at hq hcl
    have HQ := hid hq
    clear hq
    go_wp2_with fail
    refine HQ.out.mono ?_
    rintro e w4 ⟨rfl, q, hw4⟩
    have C4 : Hid (Below (w.heap.size + 1) (w.alloc (.cells #[.slice none 0 0] 47)) w4) := by
      show Below _ _ _
      rw [hw4]
      exact below_putRow C3.out hg' 0 q _
    have H4 : Hid (Go.Sort.Holds (Value.int .i64) w4 g 0 (Lib.compact (xs.mergeSort fun x y => decide (x ≤ y)) ++ List.replicate (xs.length - (Lib.compact (xs.mergeSort fun x y => decide (x ≤ y))).length) 0).toArray) := by
      show Go.Sort.Holds _ _ _ _ _
      rw [hw4]
      exact Go.Sort.holds_putRow _ _ _ _ (xs.mergeSort fun x y => decide (x ≤ y)).toArray _ (Go.Sort.holds_ahead _ _ _ _ _ _ H3.out) (by simp; omega)
    have hgl4 : g < w4.heap.size := by rw [hw4]; simp [Go.Sort.ahead]; exact hgl3
    clear hw4
    generalize Lib.compact (xs.mergeSort fun x y => decide (x ≤ y)) = cs at HS H4 hcl
    have hc4 := bx_q C4.out
    have hf4 : w4.frozen? ⟨w.heap.size, 0, none⟩ = (w.alloc (.cells #[.slice none 0 0] 47)).frozen? ⟨w.heap.size, 0, none⟩ := C4.out.frozen (p := ⟨w.heap.size, 0, none⟩) (by simp)
    have hs4 := C4.out.size
    simp only [World.size_alloc] at hs4
    go_wp2_with fail
    refine bodyPost_ret (v := .agg #[.slice (some ⟨g, 0, none⟩) cs.length cap']) (by simp [results, Try.results16, go_sem, hc4]) rfl ⟨_, rfl, ?_, ?_⟩
    · rw [HS.out]
      refine ⟨_, _, rfl, by unfold maxLen; omega, Or.inr ⟨g, 0, rfl, Or.inr ⟨by omega, by simp; exact hgl4⟩, fun i hi => ?_⟩⟩
      have hne : g ≠ w.heap.size := by omega
      have h := (H4.out i (by simp; omega)).1
      have e : (cs ++ List.replicate (xs.length - cs.length) 0).toArray[i]! = cs.getD i 0 := by
        rw [List.getElem!_toArray, getElem!_pos _ i (by simp; omega), List.getElem_append_left hi]
        simp [List.getD_eq_getElem?_getD, hi]
      rw [e] at h
      exact ((SameOn.refl (fun b => b = g) w4).setCell (p := ⟨w.heap.size, 0, none⟩) (fun hb => hne hb.symm) _ |>.cell rfl _).trans h
    · exact (bx_done C4.out).setCell (Nat.le_refl _) _

end Go.Proofs.Ytbloafjkejkjcaa
