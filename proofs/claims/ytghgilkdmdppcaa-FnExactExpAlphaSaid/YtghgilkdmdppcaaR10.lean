/-
  The model's l5Name and l5Bound. Condition: the pairs lie in memory as PrsAt says, in a row of their own.
-/
import Derived.Test.YtghgilkdmdppcaaR1
import Derived.Test.YtghgilkdmdppcaaF2b
import Derived.Maps.OwnOps
import Derived.Maps.AppendAt
import Derived.Deep.RegionHeld3
import Derived.Deep.RegionWith
import Derived.Deep.AppendLies
namespace Go.Proofs.Ytghgilkdmdppcaa
open Go.RowKit Go.Siskin

theorem Try.infoPair : (Try.prog.info? 57).map (fun i => (i.zero, i.size, i.bytes)) = some (some (.agg #[.string ⟨#[]⟩, .string ⟨#[]⟩]), 2, 32) := by kernel_rfl

/-- Pairs, text by text. -/
def flatP : List (ByteArray × ByteArray) → List Value
  | [] => []
  | p :: r => .string p.1 :: .string p.2 :: flatP r
theorem flatP_len : ∀ ps, (flatP ps).length = ps.length * 2
  | [] => rfl
  | p :: r => by rw [flatP]; simp only [List.length_cons, flatP_len r]; omega
theorem flatP_append : ∀ ps qs, flatP (ps ++ qs) = flatP ps ++ flatP qs
  | [], qs => rfl
  | p :: r, qs => by rw [List.cons_append, flatP, flatP_append r qs]; rfl
theorem flatP_get : ∀ (ps : List (ByteArray × ByteArray)) (i : Nat) (hi : i < ps.length), (flatP ps)[i * 2]? = some (.string ps[i].1) ∧ (flatP ps)[i * 2 + 1]? = some (.string ps[i].2)
  | [], _, hi => absurd hi (Nat.not_lt_zero _)
  | p :: r, 0, _ => ⟨rfl, rfl⟩
  | p :: r, i + 1, hi => by
    have h := flatP_get r i (by simpa using hi)
    rw [flatP, show (i + 1) * 2 = i * 2 + 1 + 1 by omega]
    exact h
theorem flatP_one (ps : List (ByteArray × ByteArray)) : ∀ u ∈ flatP ps, u.oneCell' = true := by
  induction ps with
  | nil => intro u hu; cases hu
  | cons p r ih =>
    intro u hu
    rw [flatP, List.mem_cons, List.mem_cons] at hu
    rcases hu with rfl | rfl | hu
    · rfl
    · rfl
    · exact ih u hu

/-- Pairs in a row of their own. -/
def PrsAt (w : World) (v : Value) (ps : List (ByteArray × ByteArray)) : Prop :=
  ∃ g cap, v = .slice (some ⟨g, 0, none⟩) ps.length cap ∧ w.ownsRow 0 57 2 v ps.length (flatP ps)
theorem PrsAt.lt {w : World} {v : Value} {ps : List (ByteArray × ByteArray)} (h : PrsAt w v ps) {g : Nat} (e : v.ownBlock = some g) : g < w.heap.size := by
  obtain ⟨g', cap, rfl, h⟩ := h
  exact (h.lt g e).2
theorem PrsAt.keep {w w' : World} {v : Value} {ps : List (ByteArray × ByteArray)} (h : PrsAt w v ps) (hb : Below w.heap.size w w') : PrsAt w' v ps := by
  obtain ⟨g', cap, rfl, h⟩ := h
  have hg : w.grownBy w' none := ⟨hb.os, hb.tape, hb.output, hb.size, fun i hi _ => hb.block i hi⟩
  exact ⟨g', cap, rfl, h.kept hg (Or.inr (by simp [Value.ownBlock]))⟩
theorem PrsAt.cells {w : World} {v : Value} {ps : List (ByteArray × ByteArray)} (h : PrsAt w v ps) : ∃ g cap, v = .slice (some ⟨g, 0, none⟩) ps.length cap ∧ ps.length ≤ maxLen ∧ g < w.heap.size ∧ ∀ i (hi : i < ps.length), w.cell? ⟨g, i * 2, none⟩ = some (.string ps[i].1) ∧ w.cell? ⟨g, i * 2 + 1, none⟩ = some (.string ps[i].2) := by
  have hlt := @PrsAt.lt w v ps h
  obtain ⟨g, cap, rfl, h⟩ := h
  refine ⟨g, cap, rfl, ?_, hlt rfl, fun i hi => ?_⟩
  · rcases h.2 with ⟨h0, -⟩ | ⟨g', cap', cur, e, -, -, h1, h2, -⟩
    · cases h0
    · omega
  · obtain ⟨e0, e1⟩ := flatP_get ps i hi
    have k0 := h.cells (g := g) rfl _ _ e0
    have k1 := h.cells (g := g) rfl _ _ e1
    rw [Go.WideShapes.add_plain, Nat.zero_add] at k0 k1
    exact ⟨k0, k1⟩

theorem name_stop {E : List (ByteArray × ByteArray)} {p : ByteArray × ByteArray} {a b : ByteArray} (h : (eqT p.1 a || eqT p.2 b) = true) : (eqT p.1 a && eqT p.2 b) = nameE (p :: E) a b := by
  rw [nameE, if_pos h]
theorem name_go {E : List (ByteArray × ByteArray)} {p : ByteArray × ByteArray} {a b : ByteArray} (h : (eqT p.1 a || eqT p.2 b) = false) : nameE (p :: E) a b = nameE E a b := by
  rw [nameE, if_neg (by rw [h]; decide)]
theorem take_rev (ps : List (ByteArray × ByteArray)) (k : Nat) (h : k < ps.length) : (ps.take (k + 1)).reverse = ps[k] :: (ps.take k).reverse := by
  rw [List.take_succ_eq_append_getElem h]; simp

set_option maxRecDepth 20000 in
set_option maxHeartbeats 1000000 in
theorem l5Name_any (w : World) (v : Value) (ps : List (ByteArray × ByteArray)) (h : PrsAt w v ps) (a b : ByteArray) :
    Calls Try.prog 17 #[v, .string a, .string b] w fun e w' => e = .returned (.bool (nameE ps.reverse a b)) ∧ w' = w := by
  obtain ⟨g, cap, rfl, hm, -, hc⟩ := h.cells
  have HC := hid hc
  clear h hc
  unfold maxLen at hm
  go_enter Try.func17, Try.ntmps17
  go_wp2_with fail
  go_loopw [7] (fun i wr => Hid (wr = w) ∧ ∃ k : Nat, k ≤ ps.length ∧ i = .int .i64 ((k : Int) - 1) ∧ Hid (nameE ps.reverse a b = nameE (ps.take k).reverse a b)) (fun i _ => (intOf i + 1).toNat)
  case atStart => exact ⟨rfl, ps.length, Nat.le_refl _, by go_num, by show _ = _; rw [List.take_length]⟩
  case round =>
    obtain ⟨HW, k, hk, rfl, HE⟩ := hrel
    cases k with
    | zero =>
      have HE' := HE.out
      rw [List.take_zero] at HE'
      have HE2 : Hid (nameE ps.reverse a b = (a.toList == b.toList)) := HE'
      clear HE HE'
      go_wp2_with fail
      go_ret
      exact ⟨ret_bool HE2.out.symm, HW.out⟩
    | succ k =>
      have hlt : k < ps.length := by omega
      have he := HE.out
      rw [take_rev ps k hlt] at he
      obtain ⟨c0, c1⟩ := HC.out k hlt
      rw [← HW.out] at c0 c1
      have hkk : ((k + 1 : Nat) : Int) - 1 = (k : Int) := by omega
      rw [hkk]
      generalize ps[k] = p at *
      cases h1 : (p.1.toList == a.toList) <;> cases h2 : (p.2.toList == b.toList)
      · have HN := hid (he.trans (name_go (show (eqT p.1 a || eqT p.2 b) = false by unfold eqT; rw [h1, h2]; rfl)))
        clear he HE hkk
        go_wp2_with fail
        exact ⟨⟨HW, k, by omega, by go_num, HN⟩, by simp [intOf]⟩
      all_goals
        have HN := hid ((name_stop (E := (ps.take k).reverse) (show (eqT p.1 a || eqT p.2 b) = true by unfold eqT; rw [h1, h2]; rfl)).trans he.symm)
        unfold eqT at HN
        rw [h1, h2] at HN
        clear he HE hkk
        go_wp2_with fail
        go_ret
        exact ⟨ret_bool HN.out, HW.out⟩
end Go.Proofs.Ytghgilkdmdppcaa
