/- The law's szIntS and eqIntS over slices of ints return what their plain functions say. Condition: the slices lie in memory as IntsAt says. -/
import Derived.Test.YtoefpcegekfggaaTexts
import Derived.Test.YtoefpcegekfggaaMem
import Derived.Test.YtoefpcegekfggaaOk
import Derived.Deep.QuietTactic
import Derived.BigQuiet
import Derived.Deep.Draws
namespace Go.Proofs.Ytoefpcegekfggaa
open Go.RowKit Go.Siskin

def szI (n : Nat) (left : Int) : Int := if left - n < 0 then -1 else left - n

set_option maxHeartbeats 400000 in
theorem szIntS_any (a : Option Addr) (len cap : Nat) (left : Int) (w : World) (h0 : 0 ≤ left) (h1 : left ≤ 1048576) (hl : len ≤ maxLen) :
    Calls Try.prog 18 #[.slice a len cap, .int .i64 left] w fun e w' => e = .returned (.int .i64 (szI len left)) ∧ w' = w := by
  unfold maxLen at hl
  go_enter Try.func18, Try.ntmps18
  go_wp2_with fail
  all_goals go_ret
  · exact ⟨ret_int (by unfold szI; rw [if_pos (by omega)]), rfl⟩
  · exact ⟨ret_int (by unfold szI; rw [if_neg (by omega)]), rfl⟩

theorem eq_bad (xs ys : List Int) (k : Nat) (h : k < xs.length) (h2 : k < ys.length) (hx : (xs[k] != ys[k]) = true) : (xs == ys) = false := by
  rw [beq_eq_false_iff_ne]
  intro e; subst e; simp at hx
theorem eq_step (xs ys : List Int) (k : Nat) (h : k < xs.length) (h2 : k < ys.length) (he : xs.take k = ys.take k) (hx : (xs[k] != ys[k]) = false) : xs.take (k + 1) = ys.take (k + 1) := by
  rw [List.take_succ_eq_append_getElem h, List.take_succ_eq_append_getElem h2, he]
  simp at hx; rw [hx]
theorem eq_end (xs ys : List Int) (k : Nat) (h : ¬ k < xs.length) (hn : xs.length = ys.length) (he : xs.take k = ys.take k) : (xs == ys) = true := by
  rw [List.take_of_length_le (by omega), List.take_of_length_le (by omega)] at he
  subst he; simp

set_option maxHeartbeats 400000 in
theorem eqIntS_any (B : Nat → Prop) (va vb : Value) (xs ys : List Int) (w : World) (ha : IntsAt B w va xs) (hb : IntsAt B w vb ys) :
    Calls Try.prog 25 #[va, vb] w fun e w' => e = .returned (.bool (xs == ys)) ∧ ∃ n, w' = w.drewN n := by
  obtain ⟨a, ca, rfl, hla, ha⟩ := ha
  obtain ⟨b, cb, rfl, hlb, hb⟩ := hb
  unfold maxLen at hla hlb
  by_cases hn : xs.length = ys.length
  · go_enter Try.func25, Try.ntmps25
    have hn' : ((xs.length : Int) != (ys.length : Int)) = false := by simp [hn]
    have HN : Hid _ := hn
    clear hn
    go_wp2_with fail
    go_loopw [5] (fun i wr => (∃ n, wr = w.drewN n) ∧ ∃ k : Nat, k ≤ xs.length ∧ i = .int .i64 k ∧ Hid (xs.take k = ys.take k)) (fun i _ => xs.length - (intOf i).toNat)
    case atStart => exact ⟨⟨0, rfl⟩, 0, Nat.zero_le _, rfl, rfl⟩
    case round =>
      obtain ⟨⟨n, rfl⟩, k, hk, rfl, HA⟩ := hrel
      by_cases hlt : k < xs.length
      · rcases ha with ha | ⟨ba, oa, rfl, _, ha⟩
        · subst ha; simp at hlt
        rcases hb with hb | ⟨bb, ob, rfl, _, hb⟩
        · have := HN.out; rw [hb] at this; simp at this; subst this; simp at hlt
        have hlt2 : k < ys.length := by have := HN.out; omega
        have ga := ha k hlt
        have gb := hb k hlt2
        clear ha hb
        go_wp2_with fail
        go_quiet (fail)
        go_wp2_with fail
        · go_ret
          rename_i hx
          exact ⟨ret_bool (eq_bad xs ys k hlt hlt2 hx).symm, n + nq, by simp⟩
        · rename_i hx
          exact ⟨⟨⟨n + nq, rfl⟩, k + 1, by omega, by go_num, eq_step xs ys k hlt hlt2 HA.out hx⟩, by simp [intOf]; omega⟩
      · go_wp2_with fail
        go_ret
        exact ⟨ret_bool (eq_end xs ys k hlt HN.out HA.out).symm, n, rfl⟩
  · have hn' : ((xs.length : Int) != (ys.length : Int)) = true := by simp; omega
    go_enter Try.func25, Try.ntmps25
    go_wp2_with fail
    go_ret
    exact ⟨ret_bool (by rw [eq_comm, beq_eq_false_iff_ne]; intro e; exact hn (congrArg _ e)), 0, rfl⟩

/- ### Scopes: ascending, none below 0 -/

/-- ascending up to place k, by index -/
def AscTo (xs : List Int) (k : Nat) : Prop := ∀ i, i + 1 < k → (xs.getD i 0) < (xs.getD (i + 1) 0)
def NonTo (xs : List Int) (k : Nat) : Prop := ∀ i, i < k → 0 ≤ xs.getD i 0

theorem asc_iff : ∀ xs : List Int, ascB xs = true ↔ AscTo xs xs.length
  | [] => by simp [ascB, AscTo]
  | [a] => by simp [ascB, AscTo]
  | a :: b :: r => by
    have ih := asc_iff (b :: r)
    unfold ascB
    rw [Bool.and_eq_true, ih, decide_eq_true_eq]
    constructor
    · rintro ⟨h1, h2⟩ i hi
      cases i with
      | zero => simpa using h1
      | succ i => have := h2 i (by simp at hi ⊢; omega); simpa using this
    · intro h
      refine ⟨by simpa using h 0 (by simp), fun i hi => ?_⟩
      have := h (i + 1) (by simp at hi ⊢; omega)
      simpa using this

theorem scopes_iff (xs : List Int) : scopesB xs = true ↔ AscTo xs xs.length ∧ NonTo xs xs.length := by
  unfold scopesB
  rw [Bool.and_eq_true, asc_iff, List.all_eq_true]
  refine and_congr Iff.rfl ⟨fun h i hi => ?_, fun h x hx => ?_⟩
  · have := h (xs[i]) (List.getElem_mem hi)
    simpa [List.getD_eq_getElem?_getD, hi] using this
  · obtain ⟨i, hi, rfl⟩ := List.getElem_of_mem hx
    have := h i hi
    simpa [List.getD_eq_getElem?_getD, hi] using this

end Go.Proofs.Ytoefpcegekfggaa
