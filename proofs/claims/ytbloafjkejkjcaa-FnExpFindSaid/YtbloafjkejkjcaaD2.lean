/- The binds as a map from texts to the names that are bound to them, as the program makes it, in memory. No program's step is walked here. -/
import Derived.Test.YtbloafjkejkjcaaC1
import Derived.Test.YtbloafjkejkjcaaD1
namespace Go.Proofs.Ytbloafjkejkjcaa
open Go.RowKit Go.Siskin

/-- Of binds, those of a text. -/
def ofT (s : ByteArray) (ks : List Bd) : List Bd := ks.filter fun d => d.text.toList == s.toList

theorem ofT_snoc_same (ks : List Bd) (d : Bd) : ofT d.text (ks ++ [d]) = ofT d.text ks ++ [d] := by
  unfold ofT
  rw [List.filter_append]; simp
theorem ofT_snoc_other {s : ByteArray} (ks : List Bd) (d : Bd) (h : s ≠ d.text) : ofT s (ks ++ [d]) = ofT s ks := by
  unfold ofT
  rw [List.filter_append]
  have : (d.text.toList == s.toList) = false := by
    rw [beq_eq_false_iff_ne]
    intro e
    rw [Go.ByteArray.toList_eq, Go.ByteArray.toList_eq] at e
    exact h (Go.WideShapes.bytes_inj e).symm
  simp [this]

/-- Cells, side by side: a set, a name; a set, a name; and so on. -/
def NCells (S : Nat → Prop) (w : World) (cs : List Value) (ks : List Bd) : Prop := ∀ (i : Nat) (hi : i < ks.length),
  ∃ c0, cs[i * 2]? = some c0 ∧ cs[i * 2 + 1]? = some (.string ks[i].name) ∧ IntsAt S w c0 (setL ks[i].scopes)

theorem NCells.keep {S : Nat → Prop} {w w' : World} {cs : List Value} {ks : List Bd} (h : NCells S w cs ks) (hb : SameOn S w w') : NCells S w' cs ks := fun i hi => by
  obtain ⟨c0, e0, e1, e2⟩ := h i hi
  exact ⟨c0, e0, e1, e2.keep hb⟩
theorem NCells.mono {S S' : Nat → Prop} {w : World} {cs : List Value} {ks : List Bd} (h : NCells S w cs ks) (hb : ∀ b, S b → S' b) : NCells S' w cs ks := fun i hi => by
  obtain ⟨c0, e0, e1, e2⟩ := h i hi
  exact ⟨c0, e0, e1, e2.mono hb⟩
theorem NCells.snoc {S : Nat → Prop} {w : World} {cs : List Value} {ks : List Bd} {c : Value} {d : Bd} (h : NCells S w cs ks) (hl : cs.length = ks.length * 2) (hc : IntsAt S w c (setL d.scopes)) : NCells S w (cs ++ [c, .string d.name]) (ks ++ [d]) := fun i hi => by
  rw [List.length_append, List.length_singleton] at hi
  by_cases e : i < ks.length
  · obtain ⟨c0, e0, e1, e2⟩ := h i e
    refine ⟨c0, ?_, ?_, ?_⟩
    · rw [List.getElem?_append_left (by omega)]; exact e0
    · rw [List.getElem?_append_left (by omega), List.getElem_append_left e]; exact e1
    · rw [List.getElem_append_left e]; exact e2
  · have hi' : i = ks.length := by omega
    subst hi'
    refine ⟨c, ?_, ?_, ?_⟩
    · rw [List.getElem?_append_right (by omega), hl, Nat.sub_self]; rfl
    · rw [List.getElem?_append_right (by omega), hl, show ks.length * 2 + 1 - ks.length * 2 = 1 by omega]; simp
    · simpa using hc

/-- A slice of names that are bound, which owns its row. -/
def GrpAt (S : Nat → Prop) (w : World) (base : Nat) (v : Value) (ks : List Bd) : Prop :=
  ∃ cs, w.ownsRow base 59 2 v ks.length cs ∧ NCells S w cs ks

abbrev nilS : Value := .slice none 0 0
/-- What a map has at a text. -/
abbrev atG (G : ByteArray → Option Value) (s : ByteArray) : Value := (G s).getD nilS

/-- A map that has at each text the names that are bound to it; no two slices lie in one row; the sets lie elsewhere. -/
structure GroupsAt (S : Nat → Prop) (w : World) (base b n : Nat) (ks : List Bd) (G : ByteArray → Option Value) : Prop where
  map : MapAt Try.prog 9 w b n G
  grp : ∀ s, GrpAt S w base (atG G s) (ofT s ks)
  apart : ∀ s t, s ≠ t → (atG G s).ownBlock = none ∨ (atG G s).ownBlock ≠ (atG G t).ownBlock
  off : ∀ s g, (atG G s).ownBlock = some g → ¬ S g
  offm : ¬ S b
  low : ∀ i, S i → i < w.heap.size
  lt : b < base
  le : base ≤ w.heap.size

theorem groupsAt_made (S : Nat → Prop) (w : World) (hS : ∀ i, S i → i < w.heap.size) : GroupsAt S (w.alloc (.map #[] 0)) (w.heap.size + 1) w.heap.size 0 [] (fun _ => none) :=
  ⟨mapAt_made w _ _, fun _ => ⟨[], World.ownsRow_nil _ _ _ _, fun i hi => absurd hi (by simp [ofT])⟩, fun _ _ _ => Or.inl rfl, fun _ _ h => (by cases h), fun h => (by have := hS _ h; omega),
    fun i hi => (by have := hS i hi; simp; omega), by omega, by simp⟩

theorem GrpAt.row {S : Nat → Prop} {w : World} {base : Nat} {v : Value} {ks : List Bd} (h : GrpAt S w base v ks) {g : Nat} (hg : v.ownBlock = some g) : base ≤ g ∧ g < w.heap.size := by
  obtain ⟨cs, h1, -⟩ := h
  exact h1.lt g hg

/-- Over whatever is made besides; the sets may lie there, too. -/
theorem GroupsAt.grow {S : Nat → Prop} {w w' : World} {base b n : Nat} {ks : List Bd} {G : ByteArray → Option Value} (h : GroupsAt S w base b n ks G) (hb : Below w.heap.size w w') : GroupsAt (Reg S w w') w' base b n ks G where
  map := h.map.keep (hb.on fun i e => by rw [e]; exact h.map.lt)
  grp := fun s => by
    obtain ⟨cs, h1, h2⟩ := h.grp s
    have hg : w.grownBy w' none := ⟨hb.os, hb.tape, hb.output, hb.size, fun i hi _ => hb.block i hi⟩
    refine ⟨cs, h1.kept hg ?_, (h2.keep (hb.on h.low)).mono fun i hi => Or.inl hi⟩
    cases (atG G s).ownBlock <;> simp
  apart := h.apart
  off := fun s g hg hS => by
    rcases hS with hS | hS
    · exact h.off s g hg hS
    · have := ((h.grp s).row hg).2
      have := hS.1
      omega
  offm := fun hS => by
    rcases hS with hS | hS
    · exact h.offm hS
    · have := h.map.lt
      have := hS.1
      omega
  low := fun i hi => by
    rcases hi with hi | hi
    · have := h.low i hi
      have := hb.size
      omega
    · exact hi.2
  lt := h.lt
  le := Nat.le_trans h.le hb.size

/-- With one bind more: behind what was appended and stored. -/
theorem GroupsAt.step {S : Nat → Prop} {w w1 w2 : World} {base b n : Nat} {ks : List Bd} {G : ByteArray → Option Value} (h : GroupsAt S w base b n ks G) {d : Bd} {c v' : Value} (hc : IntsAt S w c (setL d.scopes))
    {cs : List Value} (r1 : w.ownsRow base 59 2 (atG G d.text) (ofT d.text ks).length cs) (r2 : NCells S w cs (ofT d.text ks)) (hg : w.grownBy w1 (atG G d.text).ownBlock) (hr : w1.ownsRow base 59 2 v' ((ofT d.text ks).length + 1) (cs ++ [c, .string d.name]))
    (hloc : v'.ownBlock = (atG G d.text).ownBlock ∨ ∃ g, v'.ownBlock = some g ∧ w.heap.size ≤ g) (hm : MapAt Try.prog 9 w2 b (n + 1) (putG G d.text v')) (hg2 : w1.grownBy w2 (some b)) : GroupsAt S w2 base b (n + 1) (ks ++ [d]) (putG G d.text v') := by
  have hS1 : SameOn S w w1 := fun i hi => hg.block i (h.low i hi) fun e => h.off _ _ e.symm hi
  have hS2 : SameOn S w1 w2 := fun i hi => hg2.block i (Nat.lt_of_lt_of_le (h.low i hi) hg.size) fun e => by
    cases e
    exact h.offm hi
  have same : ∀ {s}, s = d.text → atG (putG G d.text v') s = v' := fun {s} e => by subst e; unfold atG; rw [putG_same]; rfl
  have other : ∀ {s}, s ≠ d.text → atG (putG G d.text v') s = atG G s := fun {s} e => by unfold atG; rw [putG_other e]
  have hne : ∀ {v : Value} {m : Nat} {xs : List Value}, w1.ownsRow base 59 2 v m xs → v.ownBlock = none ∨ v.ownBlock ≠ some b := fun {v m xs} ho => by
    cases hv : v.ownBlock with
    | none => exact Or.inl rfl
    | some g =>
      refine Or.inr fun e => ?_
      have h1 := (ho.lt g hv).1
      cases e
      have := h.lt
      omega
  have old : ∀ {s}, s ≠ d.text → ∀ {g}, (atG G s).ownBlock = some g → v'.ownBlock ≠ some g := fun {s} hs {g} hsg e => by
    rcases hloc with h1 | ⟨g', h1, h2⟩
    · rcases h.apart s d.text hs with h3 | h3
      · rw [h3] at hsg; cases hsg
      · exact h3 (by rw [hsg, ← h1, e])
    · rw [h1] at e
      cases e
      have := ((h.grp s).row hsg).2
      omega
  refine ⟨hm, fun s => ?_, fun s t hst => ?_, fun s g hsg => ?_, h.offm, fun i hi => Nat.lt_of_lt_of_le (h.low i hi) (Nat.le_trans hg.size hg2.size), h.lt, Nat.le_trans h.le (Nat.le_trans hg.size hg2.size)⟩
  · by_cases e : s = d.text
    · rw [same e]
      subst e
      rw [ofT_snoc_same]
      refine ⟨cs ++ [c, .string d.name], ?_, ((r2.snoc (by have := r1.1; omega) hc).keep hS1).keep hS2⟩
      rw [List.length_append, List.length_singleton]
      exact hr.kept hg2 (hne hr)
    · rw [other e, ofT_snoc_other _ _ e]
      obtain ⟨cs', q1, q2⟩ := h.grp s
      have q3 := q1.kept hg (h.apart s d.text e)
      exact ⟨cs', q3.kept hg2 (hne q3), (q2.keep hS1).keep hS2⟩
  · by_cases e : s = d.text
    · have e2 : t ≠ d.text := fun e2 => hst (e.trans e2.symm)
      rw [same e, other e2]
      cases hv : v'.ownBlock with
      | none => exact Or.inl rfl
      | some g => exact Or.inr fun e3 => old e2 e3.symm hv
    · rw [other e]
      by_cases e2 : t = d.text
      · rw [same e2]
        cases hv : (atG G s).ownBlock with
        | none => exact Or.inl rfl
        | some g => exact Or.inr fun e3 => old e hv e3.symm
      · rw [other e2]
        exact h.apart s t hst
  · by_cases e : s = d.text
    · rw [same e] at hsg
      rcases hloc with h1 | ⟨g', h1, h2⟩
      · exact h.off d.text g (by rw [← h1]; exact hsg)
      · rw [h1] at hsg
        cases hsg
        intro hS
        have := h.low _ hS
        omega
    · rw [other e] at hsg
      exact h.off s g hsg

theorem ofT_len (s : ByteArray) (ks : List Bd) : (ofT s ks).length ≤ ks.length := List.length_filter_le _ _
/-- A block that is new since is no row. -/
theorem GroupsAt.new {S : Nat → Prop} {w : World} {base b n : Nat} {ks : List Bd} {G : ByteArray → Option Value} (h : GroupsAt S w base b n ks G) (s : ByteArray) {g : Nat} (hg : w.heap.size ≤ g) : some g ≠ (atG G s).ownBlock := fun e => by
  have := ((h.grp s).row e.symm).2
  omega
theorem GroupsAt.offMap {S : Nat → Prop} {w : World} {base b n : Nat} {ks : List Bd} {G : ByteArray → Option Value} (h : GroupsAt S w base b n ks G) (s : ByteArray) : some b ≠ (atG G s).ownBlock := fun e => by
  have := ((h.grp s).row e.symm).1
  have := h.lt
  omega
theorem grown_on {w w' : World} {row : Option Nat} (h : w.grownBy w' row) {b : Nat} (hb : b < w.heap.size) (hne : some b ≠ row) : SameOn (fun i => i = b) w w' := fun i e => by
  subst e
  exact h.block i hb hne

/-- What a map has at a text, as names side by side. -/
theorem GrpAt.nrow {S : Nat → Prop} {w : World} {base : Nat} {v : Value} {ks : List Bd} (h : GrpAt S w base v ks) : (v = nilS ∧ ks = []) ∨ ∃ g cap, v = .slice (some ⟨g, 0, none⟩) ks.length cap ∧ base ≤ g ∧ g < w.heap.size ∧ ks.length ≤ maxLen ∧ NRowAt S w g 0 ks := by
  obtain ⟨cs, h1, h2⟩ := h
  have h1' := h1
  rcases h1.2 with ⟨rfl, h0⟩ | ⟨g, cap, cur, rfl, hb, hg, hn, hm, hs, ht⟩
  · exact Or.inl ⟨rfl, List.length_eq_zero_iff.1 h0⟩
  · refine Or.inr ⟨g, cap, rfl, hb, (Array.getElem?_eq_some_iff.1 hg).1, by omega, fun i hi => ?_⟩
    obtain ⟨c0, e0, e1, e2⟩ := h2 i hi
    have k := h1'.cells (g := g) rfl
    have k0 := k _ _ e0
    have k1 := k _ _ e1
    rw [Go.WideShapes.add_plain] at k0 k1
    exact ⟨c0, k0, k1, e2⟩

end Go.Proofs.Ytbloafjkejkjcaa
