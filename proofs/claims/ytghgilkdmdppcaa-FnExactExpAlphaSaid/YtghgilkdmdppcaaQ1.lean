/-
  Memory: a slice of texts; a part of a program (a tree of structs and slices) as it lies in memory. No program is named.
-/
import Derived.Test.YtghgilkdmdppcaaMem
namespace Go.Siskin
open Go.RowKit

/-- What the law's own count takes of texts. -/
def strc (ns : List ByteArray) : Nat := ns.length + (ns.map ByteArray.size).sum
theorem strc_nil : strc [] = 0 := rfl
theorem sums_take (ns : List ByteArray) (k : Nat) (h : k < ns.length) : ((ns.take (k + 1)).map ByteArray.size).sum = ((ns.take k).map ByteArray.size).sum + ns[k].size := by
  rw [List.take_succ_eq_append_getElem h]
  simp only [List.map_append, List.sum_append, List.map_cons, List.map_nil, List.sum_cons, List.sum_nil, Nat.add_zero]
theorem sums_take_le : ∀ (ns : List ByteArray) (k : Nat), ((ns.take k).map ByteArray.size).sum ≤ (ns.map ByteArray.size).sum
  | [], k => by simp
  | a :: r, 0 => by simp
  | a :: r, k + 1 => by have := sums_take_le r k; simp only [List.take_succ_cons, List.map_cons, List.sum_cons]; omega

/-- A slice of texts that lies in blocks of B. -/
def StrsAt (B : Nat → Prop) (w : World) (v : Value) (xs : List ByteArray) : Prop :=
  ∃ a cap, v = .slice a xs.length cap ∧ (xs.length ≤ maxLen ∧ xs.length ≤ cap) ∧ (∀ i (hi : i < xs.length), xs[i].size ≤ maxLen) ∧ (xs = [] ∨ ∃ b o, a = some ⟨b, o, none⟩ ∧ B b ∧ ∀ i (hi : i < xs.length), w.cell? ⟨b, o + i, none⟩ = some (.string xs[i]))

theorem StrsAt.keep {B : Nat → Prop} {w w' : World} {v : Value} {xs : List ByteArray} (h : StrsAt B w v xs) (hb : SameOn B w w') : StrsAt B w' v xs := by
  obtain ⟨a, cap, e, hl, hm, h⟩ := h
  refine ⟨a, cap, e, hl, hm, ?_⟩
  rcases h with h | ⟨b, o, e, hB, h⟩
  · exact Or.inl h
  · exact Or.inr ⟨b, o, e, hB, fun i hi => (hb.cell hB (o + i)).trans (h i hi)⟩
theorem StrsAt.mono {B B' : Nat → Prop} {w : World} {v : Value} {xs : List ByteArray} (h : StrsAt B w v xs) (hb : ∀ b, B b → B' b) : StrsAt B' w v xs := by
  obtain ⟨a, cap, e, hl, hm, h⟩ := h
  refine ⟨a, cap, e, hl, hm, ?_⟩
  rcases h with h | ⟨b, o, e, hB, h⟩
  · exact Or.inl h
  · exact Or.inr ⟨b, o, e, hb b hB, h⟩

/-- A part: its sort, its text, whether it takes the rest, its names, its kids. -/
structure Cm where
  sort : Int
  text : ByteArray
  rest : Bool
  names : List ByteArray
  kids : List Cm

/-- No part. -/
def Cm.no : Cm := ⟨0, ⟨#[]⟩, false, [], []⟩

/-- How many parts a part is. -/
def Cm.sz : Cm → Nat
  | ⟨_, _, _, _, ks⟩ => 1 + (ks.map fun k => k.sz).sum
def Cm.szs (ks : List Cm) : Nat := (ks.map Cm.sz).sum
/-- What the law's own count takes of a part. -/
def Cm.cost : Cm → Nat
  | ⟨_, t, _, ns, ks⟩ => t.size + strc ns + ks.length + (ks.map fun k => k.cost).sum
def Cm.costs (ks : List Cm) : Nat := (ks.map Cm.cost).sum

theorem Cm.szs_nil : Cm.szs [] = 0 := rfl
theorem Cm.szs_cons (k : Cm) (r : List Cm) : Cm.szs (k :: r) = k.sz + Cm.szs r := by simp [Cm.szs]
theorem Cm.costs_nil : Cm.costs [] = 0 := rfl
theorem Cm.costs_cons (k : Cm) (r : List Cm) : Cm.costs (k :: r) = k.cost + Cm.costs r := by simp [Cm.costs]
theorem Cm.sz_kids (f : Cm) : f.sz = 1 + Cm.szs f.kids := by
  obtain ⟨s, t, r, ns, ks⟩ := f
  rw [Cm.sz]; rfl
theorem Cm.cost_eq (f : Cm) : f.cost = f.text.size + strc f.names + f.kids.length + Cm.costs f.kids := by
  obtain ⟨s, t, r, ns, ks⟩ := f
  rw [Cm.cost]; rfl

/-- A part's five cells, and what they lead to, all in blocks of B. -/
def CoreAt (B : Nat → Prop) (w : World) : Cm → Value → Value → Value → Value → Value → Prop
  | ⟨s, t, r, ns, ks⟩, c0, c1, c2, c3, c4 => c0 = .int .i64 s ∧ c1 = .string t ∧ t.size ≤ maxLen ∧ c2 = .bool r ∧ StrsAt B w c3 ns ∧
      ∃ a cap, c4 = .slice a ks.length cap ∧ (ks.length ≤ maxLen ∧ ks.length ≤ cap) ∧ (ks = [] ∨ ∃ b o, a = some ⟨b, o, none⟩ ∧ B b ∧ ∀ (i : Nat) (hi : i < ks.length),
        ∃ k0 k1 k2 k3 k4, w.cell? ⟨b, o + i * 5, none⟩ = some k0 ∧ w.cell? ⟨b, o + i * 5 + 1, none⟩ = some k1 ∧ w.cell? ⟨b, o + i * 5 + 2, none⟩ = some k2 ∧ w.cell? ⟨b, o + i * 5 + 3, none⟩ = some k3 ∧ w.cell? ⟨b, o + i * 5 + 4, none⟩ = some k4 ∧
          (have := List.sizeOf_lt_of_mem (List.getElem_mem hi); CoreAt B w ks[i] k0 k1 k2 k3 k4))

/-- Parts that lie side by side from a cell on. -/
def CRowAt (B : Nat → Prop) (w : World) (b o : Nat) (ks : List Cm) : Prop := ∀ (i : Nat) (hi : i < ks.length),
  ∃ k0 k1 k2 k3 k4, w.cell? ⟨b, o + i * 5, none⟩ = some k0 ∧ w.cell? ⟨b, o + i * 5 + 1, none⟩ = some k1 ∧ w.cell? ⟨b, o + i * 5 + 2, none⟩ = some k2 ∧ w.cell? ⟨b, o + i * 5 + 3, none⟩ = some k3 ∧ w.cell? ⟨b, o + i * 5 + 4, none⟩ = some k4 ∧ CoreAt B w ks[i] k0 k1 k2 k3 k4

/-- A slice of parts. -/
def CoresAt (B : Nat → Prop) (w : World) (v : Value) (ks : List Cm) : Prop :=
  ∃ a cap, v = .slice a ks.length cap ∧ (ks.length ≤ maxLen ∧ ks.length ≤ cap) ∧ (ks = [] ∨ ∃ b o, a = some ⟨b, o, none⟩ ∧ B b ∧ CRowAt B w b o ks)

theorem coreAt_iff (B : Nat → Prop) (w : World) (f : Cm) (c0 c1 c2 c3 c4 : Value) : CoreAt B w f c0 c1 c2 c3 c4 ↔
    c0 = .int .i64 f.sort ∧ c1 = .string f.text ∧ f.text.size ≤ maxLen ∧ c2 = .bool f.rest ∧ StrsAt B w c3 f.names ∧ CoresAt B w c4 f.kids := by
  obtain ⟨s, t, r, ns, ks⟩ := f
  rw [CoreAt]; rfl

theorem CRowAt.get {B : Nat → Prop} {w : World} {b : Nat} (ks : List Cm) {o : Nat} (h : CRowAt B w b o ks) (i : Nat) (hi : i < ks.length) :
    ∃ c0 c1 c2 c3 c4, w.cell? ⟨b, o + i * 5, none⟩ = some c0 ∧ w.cell? ⟨b, o + i * 5 + 1, none⟩ = some c1 ∧ w.cell? ⟨b, o + i * 5 + 2, none⟩ = some c2 ∧ w.cell? ⟨b, o + i * 5 + 3, none⟩ = some c3 ∧ w.cell? ⟨b, o + i * 5 + 4, none⟩ = some c4 ∧ CoreAt B w ks[i] c0 c1 c2 c3 c4 := h i hi
theorem CRowAt.mk {B : Nat → Prop} {w : World} {b : Nat} (ks : List Cm) {o : Nat} (h : ∀ (i : Nat) (hi : i < ks.length),
    ∃ c0 c1 c2 c3 c4, w.cell? ⟨b, o + i * 5, none⟩ = some c0 ∧ w.cell? ⟨b, o + i * 5 + 1, none⟩ = some c1 ∧ w.cell? ⟨b, o + i * 5 + 2, none⟩ = some c2 ∧ w.cell? ⟨b, o + i * 5 + 3, none⟩ = some c3 ∧ w.cell? ⟨b, o + i * 5 + 4, none⟩ = some c4 ∧ CoreAt B w ks[i] c0 c1 c2 c3 c4) : CRowAt B w b o ks := h

theorem Cm.szs_get : ∀ (ks : List Cm) (i : Nat) (hi : i < ks.length), ks[i].sz ≤ Cm.szs ks
  | [], _, hi => absurd hi (Nat.not_lt_zero _)
  | k :: r, 0, _ => by rw [Cm.szs_cons]; simp
  | k :: r, i + 1, hi => by
    have := Cm.szs_get r i (by simpa using hi)
    simp only [List.getElem_cons_succ, Cm.szs_cons]; omega
theorem Cm.costs_get : ∀ (ks : List Cm) (i : Nat) (hi : i < ks.length), ks[i].cost ≤ Cm.costs ks
  | [], _, hi => absurd hi (Nat.not_lt_zero _)
  | k :: r, 0, _ => by rw [Cm.costs_cons]; simp
  | k :: r, i + 1, hi => by
    have := Cm.costs_get r i (by simpa using hi)
    simp only [List.getElem_cons_succ, Cm.costs_cons]; omega

theorem ckeep_upto {B : Nat → Prop} {w w' : World} (hb : SameOn B w w') : ∀ (n : Nat) (f : Cm), f.sz ≤ n → ∀ {c0 c1 c2 c3 c4 : Value}, CoreAt B w f c0 c1 c2 c3 c4 → CoreAt B w' f c0 c1 c2 c3 c4
  | 0, f, hn, _, _, _, _, _, _ => by have := Cm.sz_kids f; omega
  | n + 1, f, hn, c0, c1, c2, c3, c4, h => by
    have hsz := Cm.sz_kids f
    rw [coreAt_iff] at h ⊢
    obtain ⟨h0, h1, h2, h3, h4, a, cap, h5, h6, h7⟩ := h
    refine ⟨h0, h1, h2, h3, h4.keep hb, a, cap, h5, h6, ?_⟩
    rcases h7 with h7 | ⟨b, o, h7, h8, h9⟩
    · exact Or.inl h7
    · refine Or.inr ⟨b, o, h7, h8, fun i hi => ?_⟩
      obtain ⟨k0, k1, k2, k3, k4, e0, e1, e2, e3, e4, e5⟩ := h9 i hi
      exact ⟨k0, k1, k2, k3, k4, (hb.cell h8 _).trans e0, (hb.cell h8 _).trans e1, (hb.cell h8 _).trans e2, (hb.cell h8 _).trans e3, (hb.cell h8 _).trans e4, ckeep_upto hb n _ (by have := Cm.szs_get f.kids i hi; omega) e5⟩
theorem cmono_upto {B B' : Nat → Prop} {w : World} (hb : ∀ b, B b → B' b) : ∀ (n : Nat) (f : Cm), f.sz ≤ n → ∀ {c0 c1 c2 c3 c4 : Value}, CoreAt B w f c0 c1 c2 c3 c4 → CoreAt B' w f c0 c1 c2 c3 c4
  | 0, f, hn, _, _, _, _, _, _ => by have := Cm.sz_kids f; omega
  | n + 1, f, hn, c0, c1, c2, c3, c4, h => by
    have hsz := Cm.sz_kids f
    rw [coreAt_iff] at h ⊢
    obtain ⟨h0, h1, h2, h3, h4, a, cap, h5, h6, h7⟩ := h
    refine ⟨h0, h1, h2, h3, h4.mono hb, a, cap, h5, h6, ?_⟩
    rcases h7 with h7 | ⟨b, o, h7, h8, h9⟩
    · exact Or.inl h7
    · refine Or.inr ⟨b, o, h7, hb b h8, fun i hi => ?_⟩
      obtain ⟨k0, k1, k2, k3, k4, e0, e1, e2, e3, e4, e5⟩ := h9 i hi
      exact ⟨k0, k1, k2, k3, k4, e0, e1, e2, e3, e4, cmono_upto hb n _ (by have := Cm.szs_get f.kids i hi; omega) e5⟩

theorem CoreAt.keep {B : Nat → Prop} {w w' : World} (hb : SameOn B w w') (f : Cm) {c0 c1 c2 c3 c4 : Value} (h : CoreAt B w f c0 c1 c2 c3 c4) : CoreAt B w' f c0 c1 c2 c3 c4 := ckeep_upto hb f.sz f (Nat.le_refl _) h
theorem CoreAt.mono {B B' : Nat → Prop} {w : World} (hb : ∀ b, B b → B' b) (f : Cm) {c0 c1 c2 c3 c4 : Value} (h : CoreAt B w f c0 c1 c2 c3 c4) : CoreAt B' w f c0 c1 c2 c3 c4 := cmono_upto hb f.sz f (Nat.le_refl _) h
theorem CRowAt.keep {B : Nat → Prop} {w w' : World} (hb : SameOn B w w') {b : Nat} (hB : B b) (ks : List Cm) {o : Nat} (h : CRowAt B w b o ks) : CRowAt B w' b o ks := fun i hi => by
  obtain ⟨k0, k1, k2, k3, k4, e0, e1, e2, e3, e4, e5⟩ := h i hi
  exact ⟨k0, k1, k2, k3, k4, (hb.cell hB _).trans e0, (hb.cell hB _).trans e1, (hb.cell hB _).trans e2, (hb.cell hB _).trans e3, (hb.cell hB _).trans e4, CoreAt.keep hb _ e5⟩
theorem CRowAt.mono {B B' : Nat → Prop} {w : World} (hb : ∀ b, B b → B' b) {b : Nat} (ks : List Cm) {o : Nat} (h : CRowAt B w b o ks) : CRowAt B' w b o ks := fun i hi => by
  obtain ⟨k0, k1, k2, k3, k4, e0, e1, e2, e3, e4, e5⟩ := h i hi
  exact ⟨k0, k1, k2, k3, k4, e0, e1, e2, e3, e4, CoreAt.mono hb _ e5⟩
theorem CoresAt.keep {B : Nat → Prop} {w w' : World} (hb : SameOn B w w') {v : Value} {ks : List Cm} (h : CoresAt B w v ks) : CoresAt B w' v ks := by
  obtain ⟨a, cap, e, hl, h⟩ := h
  refine ⟨a, cap, e, hl, ?_⟩
  rcases h with h | ⟨b, o, e, hB, h⟩
  · exact Or.inl h
  · exact Or.inr ⟨b, o, e, hB, CRowAt.keep hb hB ks h⟩
theorem CoresAt.mono {B B' : Nat → Prop} {w : World} (hb : ∀ b, B b → B' b) {v : Value} {ks : List Cm} (h : CoresAt B w v ks) : CoresAt B' w v ks := by
  obtain ⟨a, cap, e, hl, h⟩ := h
  refine ⟨a, cap, e, hl, ?_⟩
  rcases h with h | ⟨b, o, e, hB, h⟩
  · exact Or.inl h
  · exact Or.inr ⟨b, o, e, hb b hB, CRowAt.mono hb ks h⟩

theorem Cm.costs_take (ks : List Cm) (k : Nat) (h : k < ks.length) : Cm.costs (ks.take (k + 1)) = Cm.costs (ks.take k) + ks[k].cost := by
  rw [List.take_succ_eq_append_getElem h]; unfold Cm.costs
  simp only [List.map_append, List.sum_append, List.map_cons, List.map_nil, List.sum_cons, List.sum_nil, Nat.add_zero]
theorem Cm.szs_take (ks : List Cm) (k : Nat) (h : k < ks.length) : Cm.szs (ks.take (k + 1)) = Cm.szs (ks.take k) + ks[k].sz := by
  rw [List.take_succ_eq_append_getElem h]; unfold Cm.szs
  simp only [List.map_append, List.sum_append, List.map_cons, List.map_nil, List.sum_cons, List.sum_nil, Nat.add_zero]
theorem Cm.costs_take_le : ∀ (ks : List Cm) (k : Nat), Cm.costs (ks.take k) ≤ Cm.costs ks
  | [], k => by simp
  | a :: r, 0 => by simp [Cm.costs]
  | a :: r, k + 1 => by have := Cm.costs_take_le r k; simp only [List.take_succ_cons, Cm.costs_cons]; omega
theorem Cm.szs_take_le : ∀ (ks : List Cm) (k : Nat), Cm.szs (ks.take k) ≤ Cm.szs ks
  | [], k => by simp
  | a :: r, 0 => by simp [Cm.szs]
  | a :: r, k + 1 => by have := Cm.szs_take_le r k; simp only [List.take_succ_cons, Cm.szs_cons]; omega
theorem csz_upto : ∀ (n : Nat) (f : Cm), f.sz ≤ n → f.sz ≤ 1 + f.cost
  | 0, f, hn => by have := Cm.sz_kids f; omega
  | n + 1, f, hn => by
    have h1 := Cm.sz_kids f
    have h2 := Cm.cost_eq f
    have h3 : ∀ ks : List Cm, Cm.szs ks ≤ n → Cm.szs ks ≤ ks.length + Cm.costs ks := by
      intro ks
      induction ks with
      | nil => intro _; simp [Cm.szs]
      | cons k r ih =>
        intro hk
        rw [Cm.szs_cons] at hk ⊢
        rw [Cm.costs_cons, List.length_cons]
        have := csz_upto n k (by omega)
        have := ih (by omega)
        omega
    have := h3 f.kids (by omega)
    omega
theorem Cm.sz_le (f : Cm) : f.sz ≤ 1 + f.cost := csz_upto f.sz f (Nat.le_refl _)

end Go.Siskin
