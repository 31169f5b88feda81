/- The drawing reader: pick tells a number below a bound, of tells one of a list of texts, l1Open makes a reader. Condition: the reader and its bytes lie in memory apart, and it has not picked too often. -/
import Derived.Test.YtbloafjkejkjcaaTexts
import Derived.Test.YtbloafjkejkjcaaI1
import Derived.Test.YtbloafjkejkjcaaRg
import Derived.BigQuiet
namespace Go.Proofs.Ytbloafjkejkjcaa
open Go.RowKit Go.Siskin

/-- Bytes that lie in blocks of R. -/
def BytesAt (R : Nat → Prop) (w : World) (v : Value) (n : Nat) : Prop :=
  ∃ a cap, v = .slice a n cap ∧ (n ≤ cap ∧ cap ≤ maxLen) ∧ (n = 0 ∨ ∃ b o, a = some ⟨b, o, none⟩ ∧ R b ∧ ∀ i, i < n → ∃ x : Nat, x < 256 ∧ w.cell? ⟨b, o + i, none⟩ = some (.int .u8 x))
theorem BytesAt.keep {R : Nat → Prop} {w w' : World} {v : Value} {n : Nat} (h : BytesAt R w v n) (hb : SameOn R w w') : BytesAt R w' v n := by
  obtain ⟨a, cap, e, hl, h⟩ := h
  refine ⟨a, cap, e, hl, ?_⟩
  rcases h with h | ⟨b, o, e, hB, h⟩
  · exact Or.inl h
  · refine Or.inr ⟨b, o, e, hB, fun i hi => ?_⟩
    obtain ⟨x, hx, hc⟩ := h i hi
    exact ⟨x, hx, (hb.cell hB (o + i)).trans hc⟩

/-- Behind picks: all is as it was but the reader's block rb, which has picked p times, and what is new. -/
def Picked (rb : Nat) (v : Value) (w w' : World) (p : Nat) : Prop := w.grownBy w' (some rb) ∧ Own w' rb 51 #[v, .int .i64 p]

theorem picked_one {w : World} {rb p : Nat} {v : Value} (ho : Own w rb 51 #[v, .int .i64 p]) : Picked rb v w (w.setCell ⟨rb, 1, none⟩ (.int .i64 ((p : Int) + 1))) (p + 1) := by
  refine ⟨⟨rfl, rfl, rfl, by simp, fun i _ hne => Below.heap_setCell w _ _ i fun e => hne (congrArg some e)⟩, ?_⟩
  have h := ho.set 1 (.int .i64 ((p : Int) + 1))
  simpa using h

theorem picked_draw {rb : Nat} {v : Value} {w w' : World} {p : Nat} (h : Picked rb v w w' p) (n : Nat) : Picked rb v w (w'.drewN n) p := ⟨⟨h.1.os, h.1.tape, h.1.output, h.1.size, h.1.block⟩, h.2⟩

theorem bits_xor_i64 (a b : Nat) (ha : a < 4611686018427387904) (hb : b < 4611686018427387904) : bits .xor .i64 (a : Int) (b : Int) = ((a ^^^ b : Nat) : Int) := by
  have hx : a ^^^ b < 2 ^ 62 := Nat.xor_lt_two_pow (by omega) (by omega)
  have h1 : (BitVec.ofInt 64 (a : Int)).toNat = a := by
    rw [BitVec.ofInt_natCast, BitVec.toNat_ofNat]; exact Nat.mod_eq_of_lt (by omega)
  have h2 : (BitVec.ofInt 64 (b : Int)).toNat = b := by
    rw [BitVec.ofInt_natCast, BitVec.toNat_ofNat]; exact Nat.mod_eq_of_lt (by omega)
  show IntKind.i64.wrap ((BitVec.ofInt 64 (a : Int) ^^^ BitVec.ofInt 64 (b : Int)).toNat : Int) = _
  rw [BitVec.toNat_xor, h1, h2]
  simp [IntKind.wrap, IntKind.bits, IntKind.signed]
  omega

set_option maxRecDepth 20000 in
set_option maxHeartbeats 1000000 in
theorem pick_any (R : Nat → Prop) (w : World) (rb n p k : Nat) (v : Value) (hv : BytesAt R w v n) (hn : n ≤ 2000) (hr : ¬ R rb) (ho : Own w rb 51 #[v, .int .i64 p]) (hp : p ≤ 1000000) (hk : 1 ≤ k) (hk2 : k ≤ 1000) :
    Calls Try.prog 12 #[.pointer (some ⟨rb, 0, none⟩), .int .i64 k] w fun e w' => ∃ m : Nat, m < k ∧ e = .returned (.int .i64 m) ∧ Picked rb v w w' (p + 1) ∧ w'.heap.size = w.heap.size := by
  obtain ⟨a, cap, rfl, -, hv⟩ := hv
  have q0 := ho.cell 0
  have q1 := ho.cell 1
  have f1 := ho.frozen 1
  simp at q0 q1
  have HO := hid ho
  clear ho
  have hk' : ¬ (k : Int) < 1 := by omega
  have hk0 : (k : Int) ≠ 0 := by omega
  by_cases h0 : n = 0
  · subst h0
    go_enter Try.func12, Try.ntmps12
    go_wp2_with fail
    go_ret
    exact ⟨0, by omega, rfl, picked_one HO.out, by simp⟩
  · rcases hv with hv | ⟨b, o, rfl, hb, hv⟩
    · exact absurd hv h0
    have hne : b ≠ rb := fun e => hr (e ▸ hb)
    by_cases hlt : p < n
    · obtain ⟨x, hx, gx⟩ := hv p hlt
      go_enter Try.func12, Try.ntmps12
      go_wp2_with fail
      go_ret
      exact ⟨x % k, Nat.mod_lt _ (by omega), by simp, picked_one HO.out, by simp⟩
    · obtain ⟨x, hx, gx⟩ := hv (p % n) (Nat.mod_lt _ (by omega))
      obtain ⟨y, hy, gy⟩ := hv ((p * 7 + 3) % n) (Nat.mod_lt _ (by omega))
      have e1 : (p : Int) % (n : Int) = ((p % n : Nat) : Int) := by simp
      have e2 : ((p : Int) * 7 + 3) % (n : Int) = (((p * 7 + 3) % n : Nat) : Int) := by simp
      have m1 : p % n < n := Nat.mod_lt _ (by omega)
      have m2 : (p * 7 + 3) % n < n := Nat.mod_lt _ (by omega)
      have e3 : (p : Int) / (n : Int) = ((p / n : Nat) : Int) := by simp
      have m3 : p / n ≤ p := Nat.div_le_self _ _
      generalize p % n = i1 at *
      generalize (p * 7 + 3) % n = i2 at *
      generalize p / n = i3 at *
      go_enter Try.func12, Try.ntmps12
      go_wp2_with fail
      go_quiet (fail)
      obtain ⟨X, hX, hXl⟩ : ∃ X : Nat, ((x : Int) * 131 + (y : Int) * 1117 + (p : Int) * 29 + (i3 : Int) * 53) = (X : Int) ∧ X < 1000000000 := ⟨x * 131 + y * 1117 + p * 29 + i3 * 53, by omega, by omega⟩
      rw [hX]
      have hq : (X : Int) / 64 = ((X / 64 : Nat) : Int) := by omega
      have hbx : bits .xor .i64 (X : Int) ((X / 64 : Nat) : Int) = ((X ^^^ X / 64 : Nat) : Int) := bits_xor_i64 _ _ (by omega) (by omega)
      have hz : X ^^^ X / 64 < 2 ^ 30 := Nat.xor_lt_two_pow (by omega) (by omega)
      generalize X / 64 = Y at *
      generalize X ^^^ Y = Z at *
      clear hX
      go_wp2_with fail
      go_ret
      exact ⟨Z % k, Nat.mod_lt _ (by omega), by simp, picked_draw (picked_one HO.out) _, by simp⟩

end Go.Proofs.Ytbloafjkejkjcaa
