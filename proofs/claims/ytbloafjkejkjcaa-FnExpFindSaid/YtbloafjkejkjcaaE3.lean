/- Rows of forms that a call makes; appending ints from whatever slice. No program's step is walked here. -/
import Derived.Test.YtbloafjkejkjcaaE2
import Derived.Deep.AppendSrc
namespace Go.Proofs.Ytbloafjkejkjcaa
open Go.RowKit Go.Siskin

/-- Cells, side by side, five for each form. -/
def FCells (S : Nat → Prop) (w : World) (cs : List Value) (ks : List Fm) : Prop := ∀ (i : Nat) (hi : i < ks.length),
  ∃ k0 k1 k2 k3 k4, cs[i * 5]? = some k0 ∧ cs[i * 5 + 1]? = some k1 ∧ cs[i * 5 + 2]? = some k2 ∧ cs[i * 5 + 3]? = some k3 ∧ cs[i * 5 + 4]? = some k4 ∧ FormAt S w ks[i] k0 k1 k2 k3 k4

theorem FCells.keep {S : Nat → Prop} {w w' : World} {cs : List Value} {ks : List Fm} (h : FCells S w cs ks) (hb : SameOn S w w') : FCells S w' cs ks := fun i hi => by
  obtain ⟨k0, k1, k2, k3, k4, e0, e1, e2, e3, e4, e5⟩ := h i hi
  exact ⟨k0, k1, k2, k3, k4, e0, e1, e2, e3, e4, FormAt.keep hb _ e5⟩
theorem FCells.mono {S S' : Nat → Prop} {w : World} {cs : List Value} {ks : List Fm} (h : FCells S w cs ks) (hb : ∀ b, S b → S' b) : FCells S' w cs ks := fun i hi => by
  obtain ⟨k0, k1, k2, k3, k4, e0, e1, e2, e3, e4, e5⟩ := h i hi
  exact ⟨k0, k1, k2, k3, k4, e0, e1, e2, e3, e4, FormAt.mono hb _ e5⟩
theorem FCells.snoc {S : Nat → Prop} {w : World} {cs : List Value} {ks : List Fm} {c0 c1 c2 c3 c4 : Value} {f : Fm} (h : FCells S w cs ks) (hl : cs.length = ks.length * 5) (hc : FormAt S w f c0 c1 c2 c3 c4) : FCells S w (cs ++ [c0, c1, c2, c3, c4]) (ks ++ [f]) := fun i hi => by
  rw [List.length_append, List.length_singleton] at hi
  by_cases e : i < ks.length
  · obtain ⟨k0, k1, k2, k3, k4, e0, e1, e2, e3, e4, e5⟩ := h i e
    refine ⟨k0, k1, k2, k3, k4, ?_, ?_, ?_, ?_, ?_, ?_⟩
    · rw [List.getElem?_append_left (by omega)]; exact e0
    · rw [List.getElem?_append_left (by omega)]; exact e1
    · rw [List.getElem?_append_left (by omega)]; exact e2
    · rw [List.getElem?_append_left (by omega)]; exact e3
    · rw [List.getElem?_append_left (by omega)]; exact e4
    · rw [List.getElem_append_left e]; exact e5
  · have hi' : i = ks.length := by omega
    subst hi'
    refine ⟨c0, c1, c2, c3, c4, ?_, ?_, ?_, ?_, ?_, ?_⟩
    · rw [List.getElem?_append_right (by omega), hl, Nat.sub_self]; rfl
    · rw [List.getElem?_append_right (by omega), hl, show ks.length * 5 + 1 - ks.length * 5 = 1 by omega]; rfl
    · rw [List.getElem?_append_right (by omega), hl, show ks.length * 5 + 2 - ks.length * 5 = 2 by omega]; rfl
    · rw [List.getElem?_append_right (by omega), hl, show ks.length * 5 + 3 - ks.length * 5 = 3 by omega]; rfl
    · rw [List.getElem?_append_right (by omega), hl, show ks.length * 5 + 4 - ks.length * 5 = 4 by omega]; rfl
    · simpa using hc

/-- A slice of forms that owns its row, from block base on; what the forms lead to lies in S, new blocks too, and not in the row. -/
structure Kids (S : Nat → Prop) (w : World) (base : Nat) (v : Value) (ks : List Fm) : Prop where
  row : ∃ cs, w.ownsRow base 27 5 v ks.length cs ∧ FCells S w cs ks
  off : ∀ g, v.ownBlock = some g → ¬ S g
  low : ∀ i, S i → base ≤ i ∧ i < w.heap.size

theorem kids_nil (S : Nat → Prop) (w : World) (base : Nat) (hS : ∀ i, S i → base ≤ i ∧ i < w.heap.size) : Kids S w base (.slice none 0 0) [] :=
  ⟨⟨[], World.ownsRow_nil _ _ _ _, fun i hi => absurd hi (by simp)⟩, fun _ h => (by cases h), hS⟩
theorem kids_no {w : World} {base : Nat} : Kids (fun _ => False) w base (.slice none 0 0) [] := kids_nil _ _ _ fun _ h => h.elim

/-- Over whatever leaves the forms and the row alone. -/
theorem Kids.keep {S : Nat → Prop} {w w' : World} {base : Nat} {v : Value} {ks : List Fm} (h : Kids S w base v ks) {row : Option Nat} (hg : w.grownBy w' row) (h1 : ∀ g, row = some g → ¬ S g) (h2 : v.ownBlock = none ∨ v.ownBlock ≠ row) : Kids S w' base v ks := by
  obtain ⟨⟨cs, r1, r2⟩, ho, hl⟩ := h
  exact ⟨⟨cs, r1.kept hg h2, r2.keep fun i hi => hg.block i (hl i hi).2 fun e => h1 i e.symm hi⟩, ho, fun i hi => ⟨(hl i hi).1, Nat.lt_of_lt_of_le (hl i hi).2 hg.size⟩⟩
theorem Kids.below {S : Nat → Prop} {w w' : World} {base : Nat} {v : Value} {ks : List Fm} (h : Kids S w base v ks) (hb : Below w.heap.size w w') : Kids S w' base v ks :=
  h.keep (row := none) ⟨hb.os, hb.tape, hb.output, hb.size, fun i hi _ => hb.block i hi⟩ (fun _ e => (by cases e)) (by cases v.ownBlock <;> simp)
/-- The forms may lead to more. -/
theorem Kids.more {S S' : Nat → Prop} {w : World} {base : Nat} {v : Value} {ks : List Fm} (h : Kids S w base v ks) (h1 : ∀ i, S i → S' i) (h2 : ∀ i, S' i → base ≤ i ∧ i < w.heap.size) (h3 : ∀ g, v.ownBlock = some g → ¬ S' g) : Kids S' w base v ks := by
  obtain ⟨⟨cs, r1, r2⟩, -, -⟩ := h
  exact ⟨⟨cs, r1, r2.mono h1⟩, h3, h2⟩
theorem Kids.lt {S : Nat → Prop} {w : World} {base : Nat} {v : Value} {ks : List Fm} (h : Kids S w base v ks) {g : Nat} (e : v.ownBlock = some g) : base ≤ g ∧ g < w.heap.size := by
  obtain ⟨⟨cs, r1, -⟩, -, -⟩ := h
  exact r1.lt g e
/-- With one form more. -/
theorem Kids.snoc {S : Nat → Prop} {w w' : World} {base : Nat} {v v' : Value} {ks : List Fm} (h : Kids S w base v ks) {cs : List Value} (r1 : w.ownsRow base 27 5 v ks.length cs) (r2 : FCells S w cs ks) {f : Fm} {c0 c1 c2 c3 c4 : Value} (hf : FormAt S w f c0 c1 c2 c3 c4)
    (hg : w.grownBy w' v.ownBlock) (hr : w'.ownsRow base 27 5 v' (ks.length + 1) (cs ++ [c0, c1, c2, c3, c4])) (hloc : v'.ownBlock = v.ownBlock ∨ ∃ g, v'.ownBlock = some g ∧ w.heap.size ≤ g) : Kids S w' base v' (ks ++ [f]) := by
  have hs : SameOn S w w' := fun i hi => hg.block i (h.low i hi).2 fun e => h.off i e.symm hi
  refine ⟨⟨_, by rw [List.length_append, List.length_singleton]; exact hr, (r2.snoc (by have := r1.1; omega) hf).keep hs⟩, fun g e hS => ?_, fun i hi => ⟨(h.low i hi).1, Nat.lt_of_lt_of_le (h.low i hi).2 hg.size⟩⟩
  rcases hloc with h1 | ⟨g', h1, h2⟩
  · exact h.off g (by rw [← h1]; exact e) hS
  · rw [h1] at e
    cases e
    have := (h.low _ hS).2
    omega
theorem Kids.shape {S : Nat → Prop} {w : World} {base : Nat} {v : Value} {ks : List Fm} (h : Kids S w base v ks) : ∃ a c, v = .slice a ks.length c := by
  obtain ⟨⟨cs, r1, -⟩, -, -⟩ := h
  rcases r1.2 with ⟨rfl, h0⟩ | ⟨g, cap, cur, rfl, -⟩
  · exact ⟨none, 0, by rw [h0]⟩
  · exact ⟨_, _, rfl⟩
/-- As forms in memory. -/
theorem Kids.forms {S : Nat → Prop} {w : World} {base : Nat} {v : Value} {ks : List Fm} (h : Kids S w base v ks) (hn : ks.length ≤ maxLen) {B : Nat → Prop} (hB : ∀ i, base ≤ i → i < w.heap.size → B i) : FormsAt B w v ks := by
  obtain ⟨⟨cs, r1, r2⟩, -, hl⟩ := h
  have r1' := r1
  rcases r1.2 with ⟨rfl, h0⟩ | ⟨g, cap, cur, rfl, hb, hg, -, -, -, -⟩
  · have : ks = [] := List.length_eq_zero_iff.1 h0
    subst this
    exact ⟨none, 0, rfl, Nat.zero_le _, Or.inl rfl⟩
  · refine ⟨some ⟨g, 0, none⟩, cap, rfl, hn, Or.inr ⟨g, 0, rfl, hB g hb (Array.getElem?_eq_some_iff.1 hg).1, RowAt.mk _ fun i hi => ?_⟩⟩
    obtain ⟨k0, k1, k2, k3, k4, e0, e1, e2, e3, e4, e5⟩ := r2 i hi
    have k := r1'.cells (g := g) rfl
    have q0 := k _ _ e0
    have q1 := k _ _ e1
    have q2 := k _ _ e2
    have q3 := k _ _ e3
    have q4 := k _ _ e4
    rw [Go.WideShapes.add_plain] at q0 q1 q2 q3 q4
    exact ⟨k0, k1, k2, k3, k4, q0, q1, q2, q3, q4, FormAt.mono (fun i hi => hB i (hl i hi).1 (hl i hi).2) _ e5⟩

theorem Try.infoFormE : (Try.prog.info? 27).map (fun i => (i.zero, i.size, i.bytes)) = some (some (.agg #[.int .i64 0, .string ⟨#[]⟩, .slice none 0 0, .int .i64 0, .slice none 0 0]), 5, 80) := by kernel_rfl

/-- 'append(s, u...)' of ints onto a row of the call's own that is there. -/
theorem run_append_ints (w : World) (base : Nat) (i : TypeInfo) (ty : TypeId) (hi : Try.prog.info? 3 = some i) (hz : i.zero = some (.int .i64 0)) (h1 : i.size = 1) (h2 : i.bytes = 8)
    (g0 n cap : Nat) (ys : List Int) (hown : w.ownsRow base 3 1 (.slice (some ⟨g0, 0, none⟩) n cap) n (ys.map (Value.int .i64))) (B : Nat → Prop) (u : Value) (xs : List Int) (hu : IntsAt B w u xs) (hn : n + xs.length ≤ 1048576 * 2) (hb : base ≤ w.heap.size) :
    ∃ g c w', (Builtin.append_ #[24, 24] ty #[.slice (some ⟨g0, 0, none⟩) n cap, u]).run Try.prog w = .ok (.slice (some ⟨g, 0, none⟩) (n + xs.length) c) w' ∧ w'.ownsRow base 3 1 (.slice (some ⟨g, 0, none⟩) (n + xs.length) c) (n + xs.length) ((ys ++ xs).map (Value.int .i64)) ∧ w.grownBy w' (some g0) ∧ base ≤ g := by
  obtain ⟨a, cu, rfl, -, hu⟩ := hu
  have form : ∀ {v' : Value} {w' : World} {m : Nat} {zs : List Value}, w'.ownsRow base 3 1 v' m zs → v' ≠ .slice none 0 0 → ∃ g c, v' = .slice (some ⟨g, 0, none⟩) m c ∧ base ≤ g := by
    intro v' w' m zs h hne
    rcases h.2 with ⟨e, -⟩ | ⟨g, c, cur, e, hb, -⟩
    · exact absurd e hne
    · exact ⟨g, c, e, hb⟩
  have some_case : ∀ (ad : Addr), (∀ j u, (xs.map (Value.int .i64))[j]? = some u → w.cell? (ad.add j) = some u) → ∃ g c w', (Builtin.append_ #[24, 24] ty #[.slice (some ⟨g0, 0, none⟩) n cap, .slice (some ad) xs.length cu]).run Try.prog w = .ok (.slice (some ⟨g, 0, none⟩) (n + xs.length) c) w' ∧ w'.ownsRow base 3 1 (.slice (some ⟨g, 0, none⟩) (n + xs.length) c) (n + xs.length) ((ys ++ xs).map (Value.int .i64)) ∧ w.grownBy w' (some g0) ∧ base ≤ g := by
    intro ad had
    obtain ⟨v', w', hr, ho, hg, hnil, -⟩ := run_append_own_at (P := Try.prog) w base 24 ty 3 i (.int .i64 0) 1 8 Try.underlying24 hi hz h1 h2 rfl (by decide) _ n _ hown ad xs.length cu (xs.map (Value.int .i64)) (by simp) had (fun u hu => by obtain ⟨x, -, rfl⟩ := List.mem_map.1 hu; rfl) (by unfold maxLen; omega) (by omega) hb
    have hne : v' ≠ .slice none 0 0 := fun e => by have := (hnil.1 e).1; cases this
    obtain ⟨g, c, rfl, hbg⟩ := form ho hne
    exact ⟨g, c, w', hr, by rw [List.map_append]; exact ho, hg, hbg⟩
  rcases hu with rfl | ⟨b, o, rfl, -, hu⟩
  · cases a with
    | some ad => exact some_case ad (fun j u hj => by simp at hj)
    | none =>
      have hbg : base ≤ g0 := (hown.lt g0 rfl).1
      refine ⟨g0, cap, w, ?_, by simpa using hown, World.grownBy.refl _ _, hbg⟩
      have hcap : n ≤ cap := by
        rcases hown.2 with ⟨e, -⟩ | ⟨g, c, cur, e, -, -, hle, -⟩
        · cases e
        · cases e; exact hle
      have hr := run_append_room_src (P := Try.prog) (w := w) 24 24 ty 3 i Try.underlying24 hi g0 0 n cap (.slice none 0 cu) 0 [] (Src.ofNil w Try.underlying24 cu) (by omega) (fun j hj => absurd hj (by simp)) (fun j hj => absurd hj (by simp))
      simpa [World.setCells] using hr
  · refine some_case ⟨b, o, none⟩ fun j u hj => ?_
    rw [List.getElem?_map] at hj
    by_cases hjl : j < xs.length
    · rw [List.getElem?_eq_getElem hjl] at hj
      cases hj
      have := hu j hjl
      rw [Go.WideShapes.add_plain, this, List.getD_eq_getElem?_getD, List.getElem?_eq_getElem hjl]; rfl
    · rw [List.getElem?_eq_none (by omega)] at hj
      cases hj

end Go.Proofs.Ytbloafjkejkjcaa
