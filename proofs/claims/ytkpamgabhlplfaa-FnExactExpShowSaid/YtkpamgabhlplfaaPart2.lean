/-
  A form inside the program (values behind the interface 'form'), as it lies in memory; what an ok form comes to there.
  How a form is shown, as the model does it on trees and as the program does it inside, and that both are one where the form is ok. No program's step is walked here.
-/
import Derived.Test.YtkpamgabhlplfaaProg
import Derived.Test.YtkpamgabhlplfaaPart1
namespace Go.Proofs.Ytkpamgabhlplfaa
open Go.RowKit Go.Siskin

/-- A form inside the program: its kind (1 an identifier, 2 an atom, 3 a list, 4 a list with an end), and what it has. -/
structure Im where
  kind : Nat
  text : ByteArray
  scopes : List Int
  frm : Int
  parts : List Im
  ends : List Im

def Im.id (t : ByteArray) (sc : List Int) (fr : Int) : Im := ⟨1, t, sc, fr, [], []⟩
def Im.atom (t : ByteArray) : Im := ⟨2, t, [], 0, [], []⟩
def Im.list (ps : List Im) : Im := ⟨3, ⟨#[]⟩, [], 0, ps, []⟩
def Im.dots (ps : List Im) (l : Im) : Im := ⟨4, ⟨#[]⟩, [], 0, ps, [l]⟩
def Im.no : Im := Im.list []

def Im.sz : Im → Nat
  | ⟨_, _, _, _, ps, es⟩ => 1 + (ps.map fun p => p.sz).sum + (es.map fun p => p.sz).sum
def Im.szs (ps : List Im) : Nat := (ps.map Im.sz).sum
theorem Im.sz_eq (p : Im) : p.sz = 1 + Im.szs p.parts + Im.szs p.ends := by
  obtain ⟨k, t, sc, fr, ps, es⟩ := p
  rw [Im.sz]; rfl
theorem Im.szs_cons (p : Im) (r : List Im) : Im.szs (p :: r) = p.sz + Im.szs r := by simp [Im.szs]
theorem Im.szs_get : ∀ (ps : List Im) (i : Nat) (hi : i < ps.length), ps[i].sz ≤ Im.szs ps
  | [], _, hi => absurd hi (Nat.not_lt_zero _)
  | p :: r, 0, _ => by rw [Im.szs_cons]; simp
  | p :: r, i + 1, hi => by
    have := Im.szs_get r i (by simpa using hi)
    simp only [List.getElem_cons_succ, Im.szs_cons]; omega

def InAt (R : Nat → Prop) (w : World) : Im → Value → Prop
  | ⟨k, t, sc, fr, ps, es⟩, v =>
    (k = 1 ∧ ps = [] ∧ es = [] ∧ ∃ c2, v = .iface 120 (.agg #[.string t, c2, .int .i64 fr]) ∧ t.size ≤ maxLen ∧ IntsAt R w c2 sc) ∨
    (k = 2 ∧ sc = [] ∧ fr = 0 ∧ ps = [] ∧ es = [] ∧ v = .iface 136 (.agg #[.string t]) ∧ t.size ≤ maxLen) ∨
    (∃ a cap, ps.length ≤ maxLen ∧ t = ⟨#[]⟩ ∧ sc = [] ∧ fr = 0 ∧
      (ps = [] ∨ ∃ b o, a = some ⟨b, o, none⟩ ∧ R b ∧ ∀ (i : Nat) (hi : i < ps.length), ∃ x, w.cell? ⟨b, o + i, none⟩ = some x ∧ (have := List.sizeOf_lt_of_mem (List.getElem_mem hi); InAt R w ps[i] x)) ∧
      ((k = 3 ∧ es = [] ∧ v = .iface 141 (.agg #[.slice a ps.length cap])) ∨
       (k = 4 ∧ ∃ e, v = .iface 143 (.agg #[.slice a ps.length cap, e]) ∧ es.length = 1 ∧ ∀ (i : Nat) (hi : i < es.length), (have := List.sizeOf_lt_of_mem (List.getElem_mem hi); InAt R w es[i] e))))
def InRow (R : Nat → Prop) (w : World) (b o : Nat) (ps : List Im) : Prop := ∀ (i : Nat) (hi : i < ps.length), ∃ x, w.cell? ⟨b, o + i, none⟩ = some x ∧ InAt R w ps[i] x

/-- The four kinds, one by one. -/
theorem InAt_kinds (R : Nat → Prop) (w : World) (p : Im) (v : Value) : InAt R w p v ↔
    (∃ t sc fr, p = .id t sc fr ∧ ∃ c2, v = .iface 120 (.agg #[.string t, c2, .int .i64 fr]) ∧ t.size ≤ maxLen ∧ IntsAt R w c2 sc) ∨
    (∃ t, p = .atom t ∧ v = .iface 136 (.agg #[.string t]) ∧ t.size ≤ maxLen) ∨
    (∃ ps, p = .list ps ∧ ∃ a cap, v = .iface 141 (.agg #[.slice a ps.length cap]) ∧ ps.length ≤ maxLen ∧ (ps = [] ∨ ∃ b o, a = some ⟨b, o, none⟩ ∧ R b ∧ InRow R w b o ps)) ∨
    (∃ ps l, p = .dots ps l ∧ ∃ a cap e, v = .iface 143 (.agg #[.slice a ps.length cap, e]) ∧ ps.length ≤ maxLen ∧ (ps = [] ∨ ∃ b o, a = some ⟨b, o, none⟩ ∧ R b ∧ InRow R w b o ps) ∧ InAt R w l e) := by
  obtain ⟨k, t, sc, fr, ps, es⟩ := p
  rw [InAt]
  constructor
  · rintro (⟨rfl, rfl, rfl, h⟩ | ⟨rfl, rfl, rfl, rfl, rfl, h⟩ | ⟨a, cap, h1, rfl, rfl, rfl, h2, ⟨rfl, rfl, h3⟩ | ⟨rfl, e, h3, h4, h5⟩⟩)
    · exact Or.inl ⟨t, sc, fr, rfl, h⟩
    · exact Or.inr (Or.inl ⟨t, rfl, h⟩)
    · exact Or.inr (Or.inr (Or.inl ⟨ps, rfl, a, cap, h3, h1, h2⟩))
    · match es, h4, h5 with
      | [l], _, h5 => exact Or.inr (Or.inr (Or.inr ⟨ps, l, rfl, a, cap, e, h3, h1, h2, h5 0 (by simp)⟩))
  · rintro (⟨t', sc', fr', e, h⟩ | ⟨t', e, h⟩ | ⟨ps', e, a, cap, h1, h2, h3⟩ | ⟨ps', l, e, a, cap, e', h1, h2, h3, h4⟩)
    · simp only [Im.id, Im.mk.injEq] at e
      obtain ⟨rfl, rfl, rfl, rfl, rfl, rfl⟩ := e
      exact Or.inl ⟨rfl, rfl, rfl, h⟩
    · simp only [Im.atom, Im.mk.injEq] at e
      obtain ⟨rfl, rfl, rfl, rfl, rfl, rfl⟩ := e
      exact Or.inr (Or.inl ⟨rfl, rfl, rfl, rfl, rfl, h⟩)
    · simp only [Im.list, Im.mk.injEq] at e
      obtain ⟨rfl, rfl, rfl, rfl, rfl, rfl⟩ := e
      exact Or.inr (Or.inr ⟨a, cap, h2, rfl, rfl, rfl, h3, Or.inl ⟨rfl, rfl, h1⟩⟩)
    · simp only [Im.dots, Im.mk.injEq] at e
      obtain ⟨rfl, rfl, rfl, rfl, rfl, rfl⟩ := e
      refine Or.inr (Or.inr ⟨a, cap, h2, rfl, rfl, rfl, h3, Or.inr ⟨rfl, e', h1, rfl, fun i hi => ?_⟩⟩)
      match i, hi with
      | 0, _ => exact h4

theorem InAt_id {R : Nat → Prop} {w : World} {t : ByteArray} {sc : List Int} {fr : Int} {v : Value} : InAt R w (.id t sc fr) v ↔ ∃ c2, v = .iface 120 (.agg #[.string t, c2, .int .i64 fr]) ∧ t.size ≤ maxLen ∧ IntsAt R w c2 sc := by
  rw [InAt_kinds]
  constructor
  · rintro (⟨t', sc', fr', e, h⟩ | ⟨t', e, h⟩ | ⟨ps', e, h⟩ | ⟨ps', l, e, h⟩)
    · simp only [Im.id, Im.mk.injEq] at e
      obtain ⟨-, rfl, rfl, rfl, -, -⟩ := e
      exact h
    · simp [Im.id, Im.atom] at e
    · simp [Im.id, Im.list] at e
    · simp [Im.id, Im.dots] at e
  · intro h; exact Or.inl ⟨t, sc, fr, rfl, h⟩
theorem InAt_atom {R : Nat → Prop} {w : World} {t : ByteArray} {v : Value} : InAt R w (.atom t) v ↔ v = .iface 136 (.agg #[.string t]) ∧ t.size ≤ maxLen := by
  rw [InAt_kinds]
  constructor
  · rintro (⟨t', sc', fr', e, h⟩ | ⟨t', e, h⟩ | ⟨ps', e, h⟩ | ⟨ps', l, e, h⟩)
    · simp [Im.id, Im.atom] at e
    · simp only [Im.atom, Im.mk.injEq] at e
      obtain ⟨-, rfl, -⟩ := e
      exact h
    · simp [Im.atom, Im.list] at e
    · simp [Im.atom, Im.dots] at e
  · intro h; exact Or.inr (Or.inl ⟨t, rfl, h⟩)
theorem InAt_list {R : Nat → Prop} {w : World} {ps : List Im} {v : Value} : InAt R w (.list ps) v ↔ ∃ a cap, v = .iface 141 (.agg #[.slice a ps.length cap]) ∧ ps.length ≤ maxLen ∧ (ps = [] ∨ ∃ b o, a = some ⟨b, o, none⟩ ∧ R b ∧ InRow R w b o ps) := by
  rw [InAt_kinds]
  constructor
  · rintro (⟨t', sc', fr', e, h⟩ | ⟨t', e, h⟩ | ⟨ps', e, h⟩ | ⟨ps', l, e, h⟩)
    · simp [Im.id, Im.list] at e
    · simp [Im.atom, Im.list] at e
    · simp only [Im.list, Im.mk.injEq] at e
      obtain ⟨-, -, -, -, rfl, -⟩ := e
      exact h
    · simp [Im.list, Im.dots] at e
  · intro h; exact Or.inr (Or.inr (Or.inl ⟨ps, rfl, h⟩))
theorem InAt_dots {R : Nat → Prop} {w : World} {ps : List Im} {l : Im} {v : Value} : InAt R w (.dots ps l) v ↔ ∃ a cap e, v = .iface 143 (.agg #[.slice a ps.length cap, e]) ∧ ps.length ≤ maxLen ∧ (ps = [] ∨ ∃ b o, a = some ⟨b, o, none⟩ ∧ R b ∧ InRow R w b o ps) ∧ InAt R w l e := by
  rw [InAt_kinds]
  constructor
  · rintro (⟨t', sc', fr', e, h⟩ | ⟨t', e, h⟩ | ⟨ps', e, h⟩ | ⟨ps', l', e, h⟩)
    · simp [Im.id, Im.dots] at e
    · simp [Im.atom, Im.dots] at e
    · simp [Im.list, Im.dots] at e
    · simp only [Im.dots, Im.mk.injEq, List.cons.injEq, and_true] at e
      obtain ⟨-, -, -, -, rfl, rfl⟩ := e
      exact h
  · intro h; exact Or.inr (Or.inr (Or.inr ⟨ps, l, rfl, h⟩))

theorem Im.sz_list (ps : List Im) : (Im.list ps).sz = 1 + Im.szs ps := by rw [Im.sz_eq]; simp [Im.list, Im.szs]
theorem Im.sz_dots (ps : List Im) (l : Im) : (Im.dots ps l).sz = 1 + Im.szs ps + l.sz := by rw [Im.sz_eq]; simp [Im.dots, Im.szs]
theorem Im.sz_pos (p : Im) : 0 < p.sz := by have := Im.sz_eq p; omega

theorem in_keep {R : Nat → Prop} {w w' : World} (hb : SameOn R w w') : ∀ (n : Nat) (p : Im), p.sz ≤ n → ∀ {v : Value}, InAt R w p v → InAt R w' p v
  | 0, p, hn, _, _ => by have := Im.sz_pos p; omega
  | n + 1, p, hn, v, h => by
    have row : ∀ (ps : List Im) (b o : Nat), Im.szs ps ≤ n → R b → InRow R w b o ps → InRow R w' b o ps := fun ps b o hs hB h i hi => by
      obtain ⟨x, h1, h2⟩ := h i hi
      exact ⟨x, (hb.cell hB _).trans h1, in_keep hb n _ (by have := Im.szs_get ps i hi; omega) h2⟩
    rw [InAt_kinds] at h ⊢
    rcases h with ⟨t, sc, fr, rfl, c2, h1, h2, h3⟩ | h | ⟨ps, rfl, a, cap, h1, h2, h3⟩ | ⟨ps, l, rfl, a, cap, e, h1, h2, h3, h4⟩
    · exact Or.inl ⟨t, sc, fr, rfl, c2, h1, h2, h3.keep hb⟩
    · exact Or.inr (Or.inl h)
    · refine Or.inr (Or.inr (Or.inl ⟨ps, rfl, a, cap, h1, h2, ?_⟩))
      rw [Im.sz_list] at hn
      rcases h3 with h3 | ⟨b, o, h3, h4, h5⟩
      · exact Or.inl h3
      · exact Or.inr ⟨b, o, h3, h4, row ps b o (by omega) h4 h5⟩
    · rw [Im.sz_dots] at hn
      refine Or.inr (Or.inr (Or.inr ⟨ps, l, rfl, a, cap, e, h1, h2, ?_, in_keep hb n l (by omega) h4⟩))
      rcases h3 with h3 | ⟨b, o, h3, h4, h5⟩
      · exact Or.inl h3
      · exact Or.inr ⟨b, o, h3, h4, row ps b o (by omega) h4 h5⟩
theorem in_mono {R R' : Nat → Prop} {w : World} (hb : ∀ b, R b → R' b) : ∀ (n : Nat) (p : Im), p.sz ≤ n → ∀ {v : Value}, InAt R w p v → InAt R' w p v
  | 0, p, hn, _, _ => by have := Im.sz_pos p; omega
  | n + 1, p, hn, v, h => by
    have row : ∀ (ps : List Im) (b o : Nat), Im.szs ps ≤ n → InRow R w b o ps → InRow R' w b o ps := fun ps b o hs h i hi => by
      obtain ⟨x, h1, h2⟩ := h i hi
      exact ⟨x, h1, in_mono hb n _ (by have := Im.szs_get ps i hi; omega) h2⟩
    rw [InAt_kinds] at h ⊢
    rcases h with ⟨t, sc, fr, rfl, c2, h1, h2, h3⟩ | h | ⟨ps, rfl, a, cap, h1, h2, h3⟩ | ⟨ps, l, rfl, a, cap, e, h1, h2, h3, h4⟩
    · exact Or.inl ⟨t, sc, fr, rfl, c2, h1, h2, h3.mono hb⟩
    · exact Or.inr (Or.inl h)
    · refine Or.inr (Or.inr (Or.inl ⟨ps, rfl, a, cap, h1, h2, ?_⟩))
      rw [Im.sz_list] at hn
      rcases h3 with h3 | ⟨b, o, h3, h4, h5⟩
      · exact Or.inl h3
      · exact Or.inr ⟨b, o, h3, hb b h4, row ps b o (by omega) h5⟩
    · rw [Im.sz_dots] at hn
      refine Or.inr (Or.inr (Or.inr ⟨ps, l, rfl, a, cap, e, h1, h2, ?_, in_mono hb n l (by omega) h4⟩))
      rcases h3 with h3 | ⟨b, o, h3, h4, h5⟩
      · exact Or.inl h3
      · exact Or.inr ⟨b, o, h3, hb b h4, row ps b o (by omega) h5⟩

theorem InAt.keep {R : Nat → Prop} {w w' : World} (hb : SameOn R w w') (p : Im) {v : Value} (h : InAt R w p v) : InAt R w' p v := in_keep hb p.sz p (Nat.le_refl _) h
theorem InAt.mono {R R' : Nat → Prop} {w : World} (hb : ∀ b, R b → R' b) (p : Im) {v : Value} (h : InAt R w p v) : InAt R' w p v := in_mono hb p.sz p (Nat.le_refl _) h
theorem InRow.keep {R : Nat → Prop} {w w' : World} (hb : SameOn R w w') {b : Nat} (hB : R b) (ps : List Im) {o : Nat} (h : InRow R w b o ps) : InRow R w' b o ps := fun i hi => by
  obtain ⟨x, h1, h2⟩ := h i hi
  exact ⟨x, (hb.cell hB _).trans h1, InAt.keep hb _ h2⟩
theorem InRow.mono {R R' : Nat → Prop} {w : World} (hb : ∀ b, R b → R' b) {b : Nat} (ps : List Im) {o : Nat} (h : InRow R w b o ps) : InRow R' w b o ps := fun i hi => by
  obtain ⟨x, h1, h2⟩ := h i hi
  exact ⟨x, h1, InAt.mono hb _ h2⟩
theorem InRow.get {R : Nat → Prop} {w : World} {b : Nat} (ps : List Im) {o : Nat} (h : InRow R w b o ps) (i : Nat) (hi : i < ps.length) : ∃ v, w.cell? ⟨b, o + i, none⟩ = some v ∧ InAt R w ps[i] v := h i hi
theorem InRow.mk {R : Nat → Prop} {w : World} {b : Nat} (ps : List Im) {o : Nat} (h : ∀ (i : Nat) (hi : i < ps.length), ∃ v, w.cell? ⟨b, o + i, none⟩ = some v ∧ InAt R w ps[i] v) : InRow R w b o ps := h
/-- A value behind the interface is one cell. -/
theorem InAt.iface {R : Nat → Prop} {w : World} {p : Im} {v : Value} (h : InAt R w p v) : ∃ t x, v = .iface t x := by
  rw [InAt_kinds] at h
  rcases h with ⟨t, sc, fr, rfl, c2, h1, h2, h3⟩ | ⟨t, rfl, h1, h2⟩ | ⟨ps, rfl, a, cap, h1, h2, h3⟩ | ⟨ps, l, rfl, a, cap, e, h1, h2, h3, h4⟩ <;> exact ⟨_, _, h1⟩

/-- What an ok form comes to inside the program. -/
def toIm : Fm → Im
  | ⟨s, t, sc, fr, ks⟩ => if s = 1 then .id t sc fr else if s = 2 then .atom t else if s = 3 then .list (ks.map fun k => toIm k) else .dots (ks.map fun k => toIm k).dropLast ((ks.map fun k => toIm k).getD ((ks.map fun k => toIm k).length - 1) Im.no)
def toIms (ks : List Fm) : List Im := ks.map toIm

theorem toIms_length (ks : List Fm) : (toIms ks).length = ks.length := by simp [toIms]
theorem toIms_get (ks : List Fm) (i : Nat) (hi : i < ks.length) : (toIms ks)[i]'(by rw [toIms_length]; exact hi) = toIm ks[i] := by simp [toIms]
theorem toIm_id (f : Fm) (h : f.sort = 1) : toIm f = .id f.text f.scopes f.frm := by obtain ⟨s, t, sc, fr, ks⟩ := f; rw [toIm, if_pos h]
theorem toIm_atom (f : Fm) (h : f.sort = 2) : toIm f = .atom f.text := by
  obtain ⟨s, t, sc, fr, ks⟩ := f
  have h1 : s = 2 := h
  rw [toIm, if_neg (by omega), if_pos h]
theorem toIm_list (f : Fm) (h : f.sort = 3) : toIm f = .list (toIms f.kids) := by
  obtain ⟨s, t, sc, fr, ks⟩ := f
  have h1 : s = 3 := h
  rw [toIm, if_neg (by omega), if_neg (by omega), if_pos h]; rfl
theorem toIm_dots (f : Fm) (h : f.sort = 4) : toIm f = .dots (toIms f.kids).dropLast ((toIms f.kids).getD ((toIms f.kids).length - 1) Im.no) := by
  obtain ⟨s, t, sc, fr, ks⟩ := f
  have h1 : s = 4 := h
  rw [toIm, if_neg (by omega), if_neg (by omega), if_neg (by omega)]; rfl

end Go.Proofs.Ytkpamgabhlplfaa

namespace Go.Proofs.Ytkpamgabhlplfaa
open Go.RowKit Go.Siskin

/-- Texts one after another, a blank between two; before the last of n parts, where s is 4, a dot. -/
def joinK (s : Int) (n : Nat) (i : Nat) : List (List UInt8) → List UInt8
  | [] => []
  | k :: r => (if 0 < i then [32] else []) ++ (if s = 4 ∧ i + 1 = n then [46, 32] else []) ++ k ++ joinK s n (i + 1) r
def joinI (i : Nat) : List (List UInt8) → List UInt8
  | [] => []
  | p :: r => (if 0 < i then [32] else []) ++ p ++ joinI (i + 1) r
def showF : Fm → List UInt8
  | ⟨s, t, _, _, ks⟩ => if s = 1 then t.data.toList else if s = 2 then t.data.toList else [40] ++ joinK s ks.length 0 (ks.map fun k => showF k) ++ [41]
def showKs (s : Int) (n : Nat) (i : Nat) (ks : List Fm) : List UInt8 := joinK s n i (ks.map fun k => showF k)
theorem showKs_nil (s : Int) (n i : Nat) : showKs s n i [] = [] := rfl
theorem showKs_cons (s : Int) (n i : Nat) (k : Fm) (r : List Fm) : showKs s n i (k :: r) = (if 0 < i then [32] else []) ++ (if s = 4 ∧ i + 1 = n then [46, 32] else []) ++ showF k ++ showKs s n (i + 1) r := rfl
def showI : Im → List UInt8
  | ⟨k, t, _, _, ps, es⟩ => if k = 1 then t.data.toList else if k = 2 then t.data.toList else if k = 3 then [40] ++ joinI 0 (ps.map fun p => showI p) ++ [41] else [40] ++ joinI 0 (ps.map fun p => showI p) ++ [32, 46, 32] ++ (es.map fun p => showI p).flatten ++ [41]
def showIs (i : Nat) (ps : List Im) : List UInt8 := joinI i (ps.map fun p => showI p)
theorem showIs_nil (i : Nat) : showIs i [] = [] := rfl
theorem showIs_cons (i : Nat) (p : Im) (r : List Im) : showIs i (p :: r) = (if 0 < i then [32] else []) ++ showI p ++ showIs (i + 1) r := rfl
theorem showI_id (t : ByteArray) (sc : List Int) (fr : Int) : showI (.id t sc fr) = t.data.toList := by unfold Im.id; rw [showI, if_pos rfl]
theorem showI_atom (t : ByteArray) : showI (.atom t) = t.data.toList := by unfold Im.atom; rw [showI, if_neg (by decide), if_pos rfl]
theorem showI_list (ps : List Im) : showI (.list ps) = [40] ++ showIs 0 ps ++ [41] := by unfold Im.list; rw [showI, if_neg (by decide), if_neg (by decide), if_pos rfl]; rfl
theorem showI_dots (ps : List Im) (l : Im) : showI (.dots ps l) = [40] ++ showIs 0 ps ++ [32, 46, 32] ++ showI l ++ [41] := by
  unfold Im.dots; rw [showI, if_neg (by decide), if_neg (by decide), if_neg (by decide)]; simp [showIs]

theorem showF_leaf (f : Fm) (h : f.sort = 1 ∨ f.sort = 2) : showF f = f.text.data.toList := by
  obtain ⟨s, t, sc, fr, ks⟩ := f
  rcases h with h | h <;> rw [showF] <;> simp only at h ⊢ <;> simp [h]
theorem showF_list (f : Fm) (h1 : f.sort ≠ 1) (h2 : f.sort ≠ 2) : showF f = [40] ++ showKs f.sort f.kids.length 0 f.kids ++ [41] := by
  obtain ⟨s, t, sc, fr, ks⟩ := f
  rw [showF, if_neg h1, if_neg h2]; rfl

theorem showKs_snoc (s : Int) (n : Nat) : ∀ (l : List Fm) (i : Nat) (k : Fm), showKs s n i (l ++ [k]) = showKs s n i l ++ ((if 0 < i + l.length then [32] else []) ++ (if s = 4 ∧ i + l.length + 1 = n then [46, 32] else []) ++ showF k)
  | [], i, k => by simp [showKs, joinK]
  | a :: r, i, k => by
    have ih := showKs_snoc s n r (i + 1) k
    simp only [List.cons_append, showKs_cons, ih, List.append_assoc, List.length_cons]
    rw [show i + 1 + r.length = i + (r.length + 1) from by omega]
theorem showKs_take (s : Int) (n : Nat) (ks : List Fm) (k : Nat) (h : k < ks.length) : showKs s n 0 (ks.take (k + 1)) = showKs s n 0 (ks.take k) ++ ((if 0 < k then [32] else []) ++ (if s = 4 ∧ k + 1 = n then [46, 32] else []) ++ showF ks[k]) := by
  rw [List.take_succ_eq_append_getElem h, showKs_snoc]
  simp only [List.length_take, Nat.zero_add, Nat.min_eq_left (Nat.le_of_lt h)]
theorem showKs_le (s : Int) (n : Nat) : ∀ (ks : List Fm) (i k : Nat), (showKs s n i (ks.take k)).length ≤ (showKs s n i ks).length
  | [], i, k => by simp [showKs, joinK]
  | a :: r, i, 0 => by simp [showKs, joinK]
  | a :: r, i, k + 1 => by
    have ih := showKs_le s n r (i + 1) k
    simp only [List.take_succ_cons, showKs_cons, List.length_append]; omega
theorem showIs_snoc : ∀ (l : List Im) (i : Nat) (p : Im), showIs i (l ++ [p]) = showIs i l ++ ((if 0 < i + l.length then [32] else []) ++ showI p)
  | [], i, p => by simp [showIs, joinI]
  | a :: r, i, p => by
    have ih := showIs_snoc r (i + 1) p
    simp only [List.cons_append, showIs_cons, ih, List.append_assoc, List.length_cons]
    rw [show i + 1 + r.length = i + (r.length + 1) from by omega]
theorem showIs_take (ps : List Im) (k : Nat) (h : k < ps.length) : showIs 0 (ps.take (k + 1)) = showIs 0 (ps.take k) ++ ((if 0 < k then [32] else []) ++ showI ps[k]) := by
  rw [List.take_succ_eq_append_getElem h, showIs_snoc]
  simp only [List.length_take, Nat.zero_add, Nat.min_eq_left (Nat.le_of_lt h)]
theorem showIs_le : ∀ (ps : List Im) (i k : Nat), (showIs i (ps.take k)).length ≤ (showIs i ps).length
  | [], i, k => by simp [showIs, joinI]
  | a :: r, i, 0 => by simp [showIs, joinI]
  | a :: r, i, k + 1 => by
    have ih := showIs_le r (i + 1) k
    simp only [List.take_succ_cons, showIs_cons, List.length_append]; omega

/-- Without the dots, a list's parts are shown alike. -/
theorem shows_alike : ∀ (ks : List Fm) (s : Int) (n i : Nat), (∀ k ∈ ks, showI (toIm k) = showF k) → (s ≠ 4 ∨ i + ks.length < n) → showIs i (toIms ks) = showKs s n i ks
  | [], s, n, i, _, _ => by rfl
  | k :: r, s, n, i, h, hn => by
    have ih := shows_alike r s n (i + 1) (fun x hx => h x (List.mem_cons_of_mem _ hx)) (by simp only [List.length_cons] at hn; omega)
    have hc : ¬ (s = 4 ∧ i + 1 = n) := by simp only [List.length_cons] at hn; omega
    rw [show toIms (k :: r) = toIm k :: toIms r from rfl]
    simp only [showIs_cons, showKs_cons, ih, h k List.mem_cons_self, if_neg hc, List.append_nil]

theorem oksB_mem : ∀ (ks : List Fm) (d : Nat), oksB ks d = true → ∀ k ∈ ks, okB k d = true
  | [], _, _, k, hk => by simp at hk
  | a :: r, d, h, k, hk => by
    simp only [oksB_cons, Bool.and_eq_true] at h
    rcases List.mem_cons.1 hk with rfl | hk
    · exact h.1
    · exact oksB_mem r d h.2 k hk
theorem sz_mem : ∀ (ks : List Fm) (k : Fm), k ∈ ks → k.sz ≤ Fm.szs ks
  | [], _, hk => by simp at hk
  | a :: r, k, hk => by
    rw [Fm.szs_cons]
    rcases List.mem_cons.1 hk with rfl | hk
    · omega
    · have := sz_mem r k hk; omega
theorem toIms_append : ∀ (l : List Fm) (k : Fm), toIms (l ++ [k]) = toIms l ++ [toIm k]
  | [], k => by simp [toIms]
  | a :: r, k => by simp [toIms]

theorem show_ok : ∀ (n : Nat) (f : Fm) (d : Nat), f.sz ≤ n → okB f d = true → showI (toIm f) = showF f
  | 0, f, _, hn, _ => by have := Fm.sz_kids f; omega
  | n + 1, f, d, hn, hok => by
    have hsz := Fm.sz_kids f
    have hd : d ≤ 60 := by
      rw [okB_eq] at hok
      simp only [Bool.and_eq_true, decide_eq_true_eq] at hok
      exact hok.1.1.1
    by_cases s1 : f.sort = 1
    · rw [toIm_id f s1, showF_leaf f (Or.inl s1), showI_id]
    by_cases s2 : f.sort = 2
    · rw [toIm_atom f s2, showF_leaf f (Or.inr s2), showI_atom]
    by_cases s3 : f.sort = 3
    · rw [okB_list f d hd s3, Bool.and_eq_true] at hok
      have hk : ∀ k ∈ f.kids, showI (toIm k) = showF k := fun k hk => show_ok n k (d + 1) (by have := sz_mem f.kids k hk; omega) (oksB_mem f.kids (d + 1) hok.2 k hk)
      rw [toIm_list f s3, showF_list f s1 s2, s3, showI_list]
      rw [shows_alike f.kids 3 f.kids.length 0 hk (Or.inl (by decide))]
    by_cases s4 : f.sort = 4
    · rw [okB_dots f d hd s4, Bool.and_eq_true, Bool.and_eq_true] at hok
      have hk : ∀ k ∈ f.kids, showI (toIm k) = showF k := fun k hk => show_ok n k (d + 1) (by have := sz_mem f.kids k hk; omega) (oksB_mem f.kids (d + 1) hok.1.2 k hk)
      have he := hok.2
      unfold endB at he
      rw [Bool.and_eq_true, decide_eq_true_eq] at he
      rw [toIm_dots f s4, showF_list f s1 s2, s4, showI_dots]
      generalize f.kids = ks at hk he
      have hne : ks ≠ [] := by intro e; rw [e] at he; simp at he
      obtain ⟨l, k, rfl⟩ : ∃ l k, ks = l ++ [k] := ⟨ks.dropLast, ks.getLast hne, (List.dropLast_concat_getLast hne).symm⟩
      have hl : 1 ≤ l.length := by have := he.1; simp at this; omega
      rw [toIms_append, List.dropLast_concat, showKs_snoc, shows_alike l 4 (l ++ [k]).length 0 (fun x hx => hk x (List.mem_append_left _ hx)) (Or.inr (by simp))]
      have e1 : ((toIms l ++ [toIm k]).getD ((toIms l ++ [toIm k]).length - 1) Im.no) = toIm k := by simp
      rw [e1, hk k (by simp)]
      rw [if_pos (show 0 < 0 + l.length by omega), if_pos (show (4 : Int) = 4 ∧ 0 + l.length + 1 = (l ++ [k]).length by simp)]
      simp
    · rw [okB_none f d s1 s2 s3 s4] at hok; cases hok

/-- An ok form's text is short. -/
theorem showF_short : ∀ (n : Nat) (f : Fm) (d : Nat), f.sz ≤ n → okB f d = true → (showF f).length + 10 ≤ 100 * f.sz
  | 0, f, _, hn, _ => by have := Fm.sz_kids f; omega
  | n + 1, f, d, hn, hok => by
    have hsz := Fm.sz_kids f
    have hd : d ≤ 60 := by
      rw [okB_eq] at hok
      simp only [Bool.and_eq_true, decide_eq_true_eq] at hok
      exact hok.1.1.1
    by_cases s1 : f.sort = 1
    · rw [showF_leaf f (Or.inl s1)]
      rw [okB_id f d hd s1] at hok
      unfold idFormB at hok
      simp only [Bool.and_eq_true, decide_eq_true_eq] at hok
      have := hok.1.1.1.2
      simp; omega
    by_cases s2 : f.sort = 2
    · rw [showF_leaf f (Or.inr s2)]
      rw [okB_atom f d hd s2] at hok
      unfold atomFormB at hok
      simp only [Bool.and_eq_true, decide_eq_true_eq] at hok
      have := hok.1.1.2
      simp; omega
    have hoks : oksB f.kids (d + 1) = true := by
      rw [okB_eq] at hok
      simp only [Bool.and_eq_true] at hok
      exact hok.1.2
    rw [showF_list f s1 s2]
    have hks : ∀ (ks : List Fm) (s : Int) (m i : Nat), Fm.szs ks ≤ n → oksB ks (d + 1) = true → (showKs s m i ks).length ≤ 100 * Fm.szs ks := by
      intro ks s m
      induction ks with
      | nil => intro i _ _; simp [showKs, joinK]
      | cons a r ih =>
        intro i hs ho
        simp only [oksB_cons, Bool.and_eq_true] at ho
        simp only [Fm.szs_cons] at hs ⊢
        have h1 := showF_short n a (d + 1) (by omega) ho.1
        have h2 := ih (i + 1) (by omega) ho.2
        simp only [showKs_cons, List.length_append]
        have e1 : (if 0 < i then [(32 : UInt8)] else []).length ≤ 1 := by split <;> simp
        have e2 : (if s = 4 ∧ i + 1 = m then [(46 : UInt8), 32] else []).length ≤ 2 := by split <;> simp
        omega
    have := hks f.kids f.sort f.kids.length 0 (by omega) hoks
    simp only [List.length_append, List.length_cons, List.length_nil]
    omega

end Go.Proofs.Ytkpamgabhlplfaa
