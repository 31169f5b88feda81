/-
  Two maps from names to the numbers of pairs, as the program keeps them, in memory; push, pop and last. Condition: each list of numbers lies in a row of its own.
-/
import Derived.Test.YtghgilkdmdppcaaR1
import Derived.Test.YtghgilkdmdppcaaD1
import Derived.Test.YtghgilkdmdppcaaF2b
import Derived.Deep.RegionHeld3
import Derived.Deep.AppendLies
namespace Go.Proofs.Ytghgilkdmdppcaa
open Go.RowKit Go.Siskin

theorem Try.infoIntP : (Try.prog.info? 3).map (fun i => (i.zero, i.size, i.bytes)) = some (some (.int .i64 0), 1, 8) := by kernel_rfl
theorem Try.zeroInts (w : World) : (zeroValue 68).run Try.prog w = .ok (.slice none 0 0) w := by kernel_rfl

/-- What a map has at a name. -/
abbrev pG (G : ByteArray → Option Value) (s : ByteArray) : Value := (G s).getD (.slice none 0 0)
def updG (G : Bool → ByteArray → Option Value) (i : Bool) (t : ByteArray) (v : Value) : Bool → ByteArray → Option Value := fun j => if j = i then putG (G i) t v else G j
theorem updG_same (G : Bool → ByteArray → Option Value) (i : Bool) (t : ByteArray) (v : Value) : pG (updG G i t v i) t = v := by
  unfold pG updG; rw [if_pos rfl, putG_same]; rfl
theorem updG_other (G : Bool → ByteArray → Option Value) {i j : Bool} {t s : ByteArray} (v : Value) (h : ¬ (j = i ∧ s = t)) : pG (updG G i t v j) s = pG (G j) s := by
  unfold pG updG
  by_cases e : j = i
  · subst e
    rw [if_pos rfl, putG_other (fun e => h ⟨rfl, e⟩)]
  · rw [if_neg e]

/-- Two maps, by name the numbers of pairs; no two lists lie in one row, and none in blocks of F. -/
structure PN (w : World) (F : Nat → Prop) (base : Nat) (m : Bool → Nat) (n : Nat) (A : Bool → ByteArray → List Int) (G : Bool → ByteArray → Option Value) : Prop where
  map : ∀ i, MapAt Try.prog 9 w (m i) n (G i)
  row : ∀ i s, w.ownsRow base 3 1 (pG (G i) s) (A i s).length ((A i s).map (Value.int .i64))
  apart : ∀ i j s t, ¬ (j = i ∧ t = s) → (pG (G i) s).ownBlock = none ∨ (pG (G i) s).ownBlock ≠ (pG (G j) t).ownBlock
  lt : ∀ i, m i < base
  ne : m true ≠ m false
  le : base ≤ w.heap.size
  off : ∀ i s g, (pG (G i) s).ownBlock = some g → ¬ F g
  offm : ∀ i, ¬ F (m i)
  low : ∀ k, F k → k < w.heap.size

theorem mapAt_more {P : Program} {k : TypeId} {w : World} {b n n' : Nat} {G : ByteArray → Option Value} (h : MapAt P k w b n G) (hn : n ≤ n') : MapAt P k w b n' G := by
  obtain ⟨D, ⟨es, clock, h1, h2, h3, h4⟩, h5⟩ := h
  exact ⟨D, ⟨es, clock, h1, h2, Nat.le_trans h3 hn, h4⟩, h5⟩
theorem PN.more {w : World} {F : Nat → Prop} {base : Nat} {m : Bool → Nat} {n n' : Nat} {A : Bool → ByteArray → List Int} {G : Bool → ByteArray → Option Value} (h : PN w F base m n A G) (hn : n ≤ n') : PN w F base m n' A G :=
  ⟨fun i => mapAt_more (h.map i) hn, h.row, h.apart, h.lt, h.ne, h.le, h.off, h.offm, h.low⟩
theorem PN.mono {w : World} {F F' : Nat → Prop} {base : Nat} {m : Bool → Nat} {n : Nat} {A : Bool → ByteArray → List Int} {G : Bool → ByteArray → Option Value} (h : PN w F base m n A G) (hF : ∀ k, F' k → F k) : PN w F' base m n A G :=
  ⟨h.map, h.row, h.apart, h.lt, h.ne, h.le, fun i s g e hg => h.off i s g e (hF g hg), fun i hg => h.offm i (hF _ hg), fun k hk => h.low k (hF k hk)⟩

/-- The blocks of F are the same. -/
structure Kept (F : Nat → Prop) (w w' : World) : Prop where
  os : w'.os = w.os
  tape : w'.tape = w.tape
  output : w'.output = w.output
  size : w.heap.size ≤ w'.heap.size
  on : SameOn F w w'
theorem Kept.refl (F : Nat → Prop) (w : World) : Kept F w w := ⟨rfl, rfl, rfl, Nat.le_refl _, fun _ _ => rfl⟩
theorem Kept.trans {F : Nat → Prop} {a b c : World} (h : Kept F a b) (k : Kept F b c) : Kept F a c :=
  ⟨k.os.trans h.os, k.tape.trans h.tape, k.output.trans h.output, Nat.le_trans h.size k.size, h.on.trans k.on⟩
theorem Kept.mono {F F' : Nat → Prop} {a b : World} (h : Kept F a b) (hx : ∀ k, F' k → F k) : Kept F' a b :=
  ⟨h.os, h.tape, h.output, h.size, fun i hi => h.on i (hx i hi)⟩
theorem Kept.drew {F : Nat → Prop} {a b : World} (h : Kept F a b) : Kept F a b.drew := ⟨h.os, h.tape, h.output, h.size, h.on⟩
theorem kept_below {F : Nat → Prop} {N : Nat} {a b : World} (h : Below N a b) (hF : ∀ k, F k → k < N) : Kept F a b := ⟨h.os, h.tape, h.output, h.size, h.on hF⟩

section
variable {w w1 w2 : World} {F : Nat → Prop} {base : Nat} {m : Bool → Nat} {n : Nat} {A : Bool → ByteArray → List Int} {G : Bool → ByteArray → Option Value}

theorem PN.m_inj (h : PN w F base m n A G) {i j : Bool} (e : m i = m j) : i = j := by
  cases i <;> cases j
  · rfl
  · exact absurd e.symm h.ne
  · exact absurd e h.ne
  · rfl
theorem PN.rowlt (h : PN w F base m n A G) (i : Bool) (s : ByteArray) {g : Nat} (e : (pG (G i) s).ownBlock = some g) : base ≤ g ∧ g < w.heap.size := (h.row i s).lt g e

/-- Another list at one name, behind what was appended and stored. -/
theorem PN.step (h : PN w F base m n A G) (i : Bool) (t : ByteArray) {l' : List Int} {v' : Value} (hg : w.grownBy w1 (pG (G i) t).ownBlock) (hr : w1.ownsRow base 3 1 v' l'.length (l'.map (Value.int .i64)))
    (hloc : v'.ownBlock = (pG (G i) t).ownBlock ∨ ∃ g, v'.ownBlock = some g ∧ w.heap.size ≤ g) (hm : MapAt Try.prog 9 w2 (m i) (n + 1) (putG (G i) t v')) (hg2 : w1.grownBy w2 (some (m i))) :
    PN w2 F base m (n + 1) (updA A i t l') (updG G i t v') := by
  have hne : ∀ {v : Value} {k : Nat} {xs : List Value}, w1.ownsRow base 3 1 v k xs → v.ownBlock = none ∨ v.ownBlock ≠ some (m i) := fun {v k xs} ho => by
    cases hv : v.ownBlock with
    | none => exact Or.inl rfl
    | some g =>
      refine Or.inr fun e => ?_
      have h1 := (ho.lt g hv).1
      cases e
      have := h.lt i
      omega
  have old : ∀ {j s}, ¬ (j = i ∧ s = t) → ∀ {g}, (pG (G j) s).ownBlock = some g → v'.ownBlock ≠ some g := fun {j s} hs {g} hsg e => by
    rcases hloc with h1 | ⟨g', h1, h2⟩
    · rcases h.apart j i s t (fun e => hs ⟨e.1.symm, e.2.symm⟩) with h3 | h3
      · rw [h3] at hsg; cases hsg
      · exact h3 (by rw [hsg, ← h1, e])
    · rw [h1] at e
      cases e
      have := (h.rowlt j s hsg).2
      omega
  refine ⟨fun j => ?_, fun j s => ?_, fun j j' s s' hst => ?_, h.lt, h.ne, Nat.le_trans h.le (Nat.le_trans hg.size hg2.size), fun j s g hsg => ?_, h.offm, fun k hk => Nat.lt_of_lt_of_le (h.low k hk) (Nat.le_trans hg.size hg2.size)⟩
  · by_cases e : j = i
    · subst e
      have : updG G j t v' j = putG (G j) t v' := if_pos rfl
      rw [this]; exact hm
    · have : updG G i t v' j = G j := if_neg e
      rw [this]
      refine mapAt_more ((h.map j).keep fun k hk => ?_) (Nat.le_succ n)
      subst hk
      have h1 : m j < w.heap.size := (h.map j).lt
      rw [hg2.block (m j) (Nat.lt_of_lt_of_le h1 hg.size) (fun e' => e (h.m_inj (Option.some.inj e')))]
      refine hg.block (m j) h1 fun e' => ?_
      have := (h.rowlt i t e'.symm).1
      have := h.lt j
      omega
  · by_cases e : j = i ∧ s = t
    · obtain ⟨rfl, rfl⟩ := e
      rw [updG_same, updA_same]
      exact hr.kept hg2 (hne hr)
    · rw [updG_other _ _ e, updA_other _ _ e]
      have q3 := (h.row j s).kept hg (h.apart j i s t (fun e' => e ⟨e'.1.symm, e'.2.symm⟩))
      exact q3.kept hg2 (hne q3)
  · by_cases e : j = i ∧ s = t
    · obtain ⟨rfl, rfl⟩ := e
      have e2 : ¬ (j' = j ∧ s' = s) := hst
      rw [updG_same, updG_other _ _ e2]
      cases hv : v'.ownBlock with
      | none => exact Or.inl rfl
      | some g => exact Or.inr fun e3 => old e2 e3.symm hv
    · rw [updG_other _ _ e]
      by_cases e2 : j' = i ∧ s' = t
      · obtain ⟨rfl, rfl⟩ := e2
        rw [updG_same]
        cases hv : (pG (G j) s).ownBlock with
        | none => exact Or.inl rfl
        | some g => exact Or.inr fun e3 => old e hv e3.symm
      · rw [updG_other _ _ e2]
        exact h.apart j j' s s' hst
  · by_cases e : j = i ∧ s = t
    · obtain ⟨rfl, rfl⟩ := e
      rw [updG_same] at hsg
      rcases hloc with h1 | ⟨g', h1, h2⟩
      · exact h.off j s g (by rw [← h1]; exact hsg)
      · rw [h1] at hsg
        cases hsg
        intro hF
        have := h.low _ hF
        omega
    · rw [updG_other _ _ e] at hsg
      exact h.off j s g hsg

theorem PN.keep (h : PN w F base m n A G) (hk : Below w.heap.size w w2) : PN w2 (fun k => F k ∨ Fresh w w2 k) base m n A G := by
  have hg : w.grownBy w2 none := ⟨hk.os, hk.tape, hk.output, hk.size, fun i hi _ => hk.block i hi⟩
  refine ⟨fun i => (h.map i).keep (hk.on fun k e => by rw [e]; exact (h.map i).lt), fun i s => (h.row i s).kept hg ?_, h.apart, h.lt, h.ne, Nat.le_trans h.le hk.size, fun i s g e hF => ?_, fun i hF => ?_, fun k hF => ?_⟩
  · cases (pG (G i) s).ownBlock <;> simp
  · rcases hF with hF | hF
    · exact h.off i s g e hF
    · have := (h.rowlt i s e).2
      have := hF.1
      omega
  · rcases hF with hF | hF
    · exact h.offm i hF
    · have := (h.map i).lt
      have := hF.1
      omega
  · rcases hF with hF | hF
    · exact Nat.lt_of_lt_of_le (h.low k hF) hk.size
    · exact hF.2
/-- Over what is written into a block of F. -/
theorem PN.wrote (h : PN w F base m n A G) {b : Nat} (hb : F b) (hg : w.grownBy w2 (some b)) : PN w2 F base m n A G := by
  refine ⟨fun i => (h.map i).keep fun k e => by rw [e]; exact hg.block _ (h.map i).lt (fun e => h.offm i (by rw [Option.some.inj e]; exact hb)), fun i s => (h.row i s).kept hg ?_, h.apart, h.lt, h.ne, Nat.le_trans h.le hg.size, h.off, h.offm, fun k hk => Nat.lt_of_lt_of_le (h.low k hk) hg.size⟩
  cases hv : (pG (G i) s).ownBlock with
  | none => exact Or.inl rfl
  | some g =>
    refine Or.inr fun e => ?_
    cases e
    exact h.off i s _ hv hb
/-- The row without its last. -/
theorem row_pop {w : World} {base : Nat} {v : Value} {l : List Int} (h : w.ownsRow base 3 1 v l.length (l.map (Value.int .i64))) (hl : 1 ≤ l.length) :
    ∃ g cap, v = .slice (some ⟨g, 0, none⟩) l.length cap ∧ l.length ≤ cap ∧ w.ownsRow base 3 1 (.slice (some ⟨g, 0, none⟩) (l.length - 1) cap) l.dropLast.length (l.dropLast.map (Value.int .i64)) := by
  rcases h.2 with ⟨-, h0⟩ | ⟨g, cap, cur, rfl, hb, hg, hn, hm, hs, ht⟩
  · omega
  · refine ⟨g, cap, rfl, hn, by simp, Or.inr ⟨g, cap, cur, by simp, hb, hg, by simp; omega, hm, hs, ?_⟩⟩
    have h2 := congrArg (List.take (l.length - 1)) ht
    rw [List.take_take] at h2
    simp only [Nat.mul_one, List.length_dropLast] at h2 ⊢
    rw [show min (l.length - 1) l.length = l.length - 1 by omega] at h2
    rw [h2, List.dropLast_eq_take, List.map_take]
theorem row_last {w : World} {base : Nat} {v : Value} {l : List Int} (h : w.ownsRow base 3 1 v l.length (l.map (Value.int .i64))) : ∃ a cap, v = .slice a l.length cap ∧ l.length ≤ maxLen ∧ (l = [] ∨ ∃ g x, a = some ⟨g, 0, none⟩ ∧ l.getLast? = some x ∧ w.cell? ⟨g, l.length - 1, none⟩ = some (.int .i64 x)) := by
  have h' := h
  rcases h.2 with ⟨rfl, h0⟩ | ⟨g, cap, cur, rfl, hb, hg, hn, hm, hs, ht⟩
  · have : l = [] := List.length_eq_zero_iff.1 h0
    subst this
    exact ⟨none, 0, rfl, Nat.zero_le _, Or.inl rfl⟩
  · refine ⟨_, cap, rfl, by omega, ?_⟩
    by_cases e : l = []
    · exact Or.inl e
    · have hp : 0 < l.length := List.length_pos_iff.2 e
      refine Or.inr ⟨g, l.getLast e, rfl, List.getLast?_eq_some_getLast e, ?_⟩
      have k := h'.cells (g := g) rfl (l.length - 1) (.int .i64 (l.getLast e)) (by
        rw [List.getElem?_map, List.getElem?_eq_getElem (by omega), List.getLast_eq_getElem]; rfl)
      rw [Go.WideShapes.add_plain, Nat.zero_add] at k
      exact k
end

end Go.Proofs.Ytghgilkdmdppcaa
