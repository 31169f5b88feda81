/-
  Binds (a text, scopes, a name) as they lie in memory. No program is named.
-/
import Derived.Test.YtghgilkdmdppcaaMem
namespace Go.Siskin
open Go.RowKit

/-- A bind: its text, its scopes, its name. -/
structure Bd where
  text : ByteArray
  scopes : List Int
  name : ByteArray

def Bd.no : Bd := ⟨⟨#[]⟩, [], ⟨#[]⟩⟩
/-- What the law's own count takes of a bind. -/
def Bd.cost (d : Bd) : Nat := d.text.size + d.scopes.length + d.name.size
def Bd.costs (ks : List Bd) : Nat := (ks.map Bd.cost).sum

theorem Bd.costs_cons (k : Bd) (r : List Bd) : Bd.costs (k :: r) = k.cost + Bd.costs r := by simp [Bd.costs]
theorem Bd.costs_take (ks : List Bd) (k : Nat) (h : k < ks.length) : Bd.costs (ks.take (k + 1)) = Bd.costs (ks.take k) + ks[k].cost := by
  rw [List.take_succ_eq_append_getElem h]; unfold Bd.costs
  simp only [List.map_append, List.sum_append, List.map_cons, List.map_nil, List.sum_cons, List.sum_nil, Nat.add_zero]
theorem Bd.costs_take_le : ∀ (ks : List Bd) (k : Nat), Bd.costs (ks.take k) ≤ Bd.costs ks
  | [], k => by simp
  | a :: r, 0 => by simp [Bd.costs]
  | a :: r, k + 1 => by have := Bd.costs_take_le r k; simp only [List.take_succ_cons, Bd.costs_cons]; omega
theorem Bd.costs_get : ∀ (ks : List Bd) (i : Nat) (hi : i < ks.length), ks[i].cost ≤ Bd.costs ks
  | [], _, hi => absurd hi (Nat.not_lt_zero _)
  | k :: r, 0, _ => by rw [Bd.costs_cons]; simp
  | k :: r, i + 1, hi => by
    have := Bd.costs_get r i (by simpa using hi)
    simp only [List.getElem_cons_succ, Bd.costs_cons]; omega

/-- A bind's three cells, and what they lead to, all in blocks of B. -/
def BindAt (B : Nat → Prop) (w : World) (d : Bd) (c0 c1 c2 : Value) : Prop :=
  c0 = .string d.text ∧ d.text.size ≤ maxLen ∧ IntsAt B w c1 d.scopes ∧ c2 = .string d.name ∧ d.name.size ≤ maxLen
/-- Binds that lie side by side from a cell on. -/
def BRowAt (B : Nat → Prop) (w : World) (b o : Nat) (ks : List Bd) : Prop := ∀ (i : Nat) (hi : i < ks.length),
  ∃ k0 k1 k2, w.cell? ⟨b, o + i * 3, none⟩ = some k0 ∧ w.cell? ⟨b, o + i * 3 + 1, none⟩ = some k1 ∧ w.cell? ⟨b, o + i * 3 + 2, none⟩ = some k2 ∧ BindAt B w ks[i] k0 k1 k2
/-- A slice of binds. -/
def BindsAt (B : Nat → Prop) (w : World) (v : Value) (ks : List Bd) : Prop :=
  ∃ a cap, v = .slice a ks.length cap ∧ ks.length ≤ maxLen ∧ (ks = [] ∨ ∃ b o, a = some ⟨b, o, none⟩ ∧ B b ∧ BRowAt B w b o ks)

theorem BindAt.keep {B : Nat → Prop} {w w' : World} (hb : SameOn B w w') {d : Bd} {c0 c1 c2 : Value} (h : BindAt B w d c0 c1 c2) : BindAt B w' d c0 c1 c2 :=
  ⟨h.1, h.2.1, h.2.2.1.keep hb, h.2.2.2⟩
theorem BindAt.mono {B B' : Nat → Prop} {w : World} (hb : ∀ b, B b → B' b) {d : Bd} {c0 c1 c2 : Value} (h : BindAt B w d c0 c1 c2) : BindAt B' w d c0 c1 c2 :=
  ⟨h.1, h.2.1, h.2.2.1.mono hb, h.2.2.2⟩
theorem BRowAt.keep {B : Nat → Prop} {w w' : World} (hb : SameOn B w w') {b : Nat} (hB : B b) {ks : List Bd} {o : Nat} (h : BRowAt B w b o ks) : BRowAt B w' b o ks := fun i hi => by
  obtain ⟨k0, k1, k2, e0, e1, e2, e3⟩ := h i hi
  exact ⟨k0, k1, k2, (hb.cell hB _).trans e0, (hb.cell hB _).trans e1, (hb.cell hB _).trans e2, e3.keep hb⟩
theorem BRowAt.mono {B B' : Nat → Prop} {w : World} (hb : ∀ b, B b → B' b) {b : Nat} {ks : List Bd} {o : Nat} (h : BRowAt B w b o ks) : BRowAt B' w b o ks := fun i hi => by
  obtain ⟨k0, k1, k2, e0, e1, e2, e3⟩ := h i hi
  exact ⟨k0, k1, k2, e0, e1, e2, e3.mono hb⟩
theorem BindsAt.keep {B : Nat → Prop} {w w' : World} (hb : SameOn B w w') {v : Value} {ks : List Bd} (h : BindsAt B w v ks) : BindsAt B w' v ks := by
  obtain ⟨a, cap, e, hl, h⟩ := h
  refine ⟨a, cap, e, hl, ?_⟩
  rcases h with h | ⟨b, o, e, hB, h⟩
  · exact Or.inl h
  · exact Or.inr ⟨b, o, e, hB, h.keep hb hB⟩
theorem BindsAt.mono {B B' : Nat → Prop} {w : World} (hb : ∀ b, B b → B' b) {v : Value} {ks : List Bd} (h : BindsAt B w v ks) : BindsAt B' w v ks := by
  obtain ⟨a, cap, e, hl, h⟩ := h
  refine ⟨a, cap, e, hl, ?_⟩
  rcases h with h | ⟨b, o, e, hB, h⟩
  · exact Or.inl h
  · exact Or.inr ⟨b, o, e, hb b hB, h.mono hb⟩

end Go.Siskin
