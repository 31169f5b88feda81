/- A form inside the program (values behind the interface 'form'), as it lies in memory; what an ok form comes to there. -/
import Derived.Test.YtoefpcegekfggaaProg
import Derived.Test.YtoefpcegekfggaaOk
namespace Go.Proofs.Ytoefpcegekfggaa
open Go.RowKit Go.Siskin

/-- A form inside the program: its kind (1 an identifier, 2 an atom, 3 a list, 4 a list with an end), and what it has. -/
structure Im where
  kind : Nat
  text : ByteArray
  scopes : List Int
  frm : Int
  parts : List Im
  ends : List Im

def Im.id (t : ByteArray) (sc : List Int) (fr : Int) : Im := ⟨1, t, sc, fr, [], []⟩
def Im.atom (t : ByteArray) : Im := ⟨2, t, [], 0, [], []⟩
def Im.list (ps : List Im) : Im := ⟨3, ⟨#[]⟩, [], 0, ps, []⟩
def Im.dots (ps : List Im) (l : Im) : Im := ⟨4, ⟨#[]⟩, [], 0, ps, [l]⟩
def Im.no : Im := Im.list []

def Im.sz : Im → Nat
  | ⟨_, _, _, _, ps, es⟩ => 1 + (ps.map fun p => p.sz).sum + (es.map fun p => p.sz).sum
def Im.szs (ps : List Im) : Nat := (ps.map Im.sz).sum
theorem Im.sz_eq (p : Im) : p.sz = 1 + Im.szs p.parts + Im.szs p.ends := by
  obtain ⟨k, t, sc, fr, ps, es⟩ := p
  rw [Im.sz]; rfl
theorem Im.szs_cons (p : Im) (r : List Im) : Im.szs (p :: r) = p.sz + Im.szs r := by simp [Im.szs]
theorem Im.szs_get : ∀ (ps : List Im) (i : Nat) (hi : i < ps.length), ps[i].sz ≤ Im.szs ps
  | [], _, hi => absurd hi (Nat.not_lt_zero _)
  | p :: r, 0, _ => by rw [Im.szs_cons]; simp
  | p :: r, i + 1, hi => by
    have := Im.szs_get r i (by simpa using hi)
    simp only [List.getElem_cons_succ, Im.szs_cons]; omega

def InAt (R : Nat → Prop) (w : World) : Im → Value → Prop
  | ⟨k, t, sc, fr, ps, es⟩, v =>
    (k = 1 ∧ ps = [] ∧ es = [] ∧ ∃ c2, v = .iface 90 (.agg #[.string t, c2, .int .i64 fr]) ∧ t.size ≤ maxLen ∧ IntsAt R w c2 sc) ∨
    (k = 2 ∧ sc = [] ∧ fr = 0 ∧ ps = [] ∧ es = [] ∧ v = .iface 102 (.agg #[.string t]) ∧ t.size ≤ maxLen) ∨
    (∃ a cap, ps.length ≤ maxLen ∧ t = ⟨#[]⟩ ∧ sc = [] ∧ fr = 0 ∧
      (ps = [] ∨ ∃ b o, a = some ⟨b, o, none⟩ ∧ R b ∧ ∀ (i : Nat) (hi : i < ps.length), ∃ x, w.cell? ⟨b, o + i, none⟩ = some x ∧ (have := List.sizeOf_lt_of_mem (List.getElem_mem hi); InAt R w ps[i] x)) ∧
      ((k = 3 ∧ es = [] ∧ v = .iface 107 (.agg #[.slice a ps.length cap])) ∨
       (k = 4 ∧ ∃ e, v = .iface 109 (.agg #[.slice a ps.length cap, e]) ∧ es.length = 1 ∧ ∀ (i : Nat) (hi : i < es.length), (have := List.sizeOf_lt_of_mem (List.getElem_mem hi); InAt R w es[i] e))))
def InRow (R : Nat → Prop) (w : World) (b o : Nat) (ps : List Im) : Prop := ∀ (i : Nat) (hi : i < ps.length), ∃ x, w.cell? ⟨b, o + i, none⟩ = some x ∧ InAt R w ps[i] x

/-- The four kinds, one by one. -/
theorem InAt_kinds (R : Nat → Prop) (w : World) (p : Im) (v : Value) : InAt R w p v ↔
    (∃ t sc fr, p = .id t sc fr ∧ ∃ c2, v = .iface 90 (.agg #[.string t, c2, .int .i64 fr]) ∧ t.size ≤ maxLen ∧ IntsAt R w c2 sc) ∨
    (∃ t, p = .atom t ∧ v = .iface 102 (.agg #[.string t]) ∧ t.size ≤ maxLen) ∨
    (∃ ps, p = .list ps ∧ ∃ a cap, v = .iface 107 (.agg #[.slice a ps.length cap]) ∧ ps.length ≤ maxLen ∧ (ps = [] ∨ ∃ b o, a = some ⟨b, o, none⟩ ∧ R b ∧ InRow R w b o ps)) ∨
    (∃ ps l, p = .dots ps l ∧ ∃ a cap e, v = .iface 109 (.agg #[.slice a ps.length cap, e]) ∧ ps.length ≤ maxLen ∧ (ps = [] ∨ ∃ b o, a = some ⟨b, o, none⟩ ∧ R b ∧ InRow R w b o ps) ∧ InAt R w l e) := by
  obtain ⟨k, t, sc, fr, ps, es⟩ := p
  rw [InAt]
  constructor
  · rintro (⟨rfl, rfl, rfl, h⟩ | ⟨rfl, rfl, rfl, rfl, rfl, h⟩ | ⟨a, cap, h1, rfl, rfl, rfl, h2, ⟨rfl, rfl, h3⟩ | ⟨rfl, e, h3, h4, h5⟩⟩)
    · exact Or.inl ⟨t, sc, fr, rfl, h⟩
    · exact Or.inr (Or.inl ⟨t, rfl, h⟩)
    · exact Or.inr (Or.inr (Or.inl ⟨ps, rfl, a, cap, h3, h1, h2⟩))
    · match es, h4, h5 with
      | [l], _, h5 => exact Or.inr (Or.inr (Or.inr ⟨ps, l, rfl, a, cap, e, h3, h1, h2, h5 0 (by simp)⟩))
  · rintro (⟨t', sc', fr', e, h⟩ | ⟨t', e, h⟩ | ⟨ps', e, a, cap, h1, h2, h3⟩ | ⟨ps', l, e, a, cap, e', h1, h2, h3, h4⟩)
    · simp only [Im.id, Im.mk.injEq] at e
      obtain ⟨rfl, rfl, rfl, rfl, rfl, rfl⟩ := e
      exact Or.inl ⟨rfl, rfl, rfl, h⟩
    · simp only [Im.atom, Im.mk.injEq] at e
      obtain ⟨rfl, rfl, rfl, rfl, rfl, rfl⟩ := e
      exact Or.inr (Or.inl ⟨rfl, rfl, rfl, rfl, rfl, h⟩)
    · simp only [Im.list, Im.mk.injEq] at e
      obtain ⟨rfl, rfl, rfl, rfl, rfl, rfl⟩ := e
      exact Or.inr (Or.inr ⟨a, cap, h2, rfl, rfl, rfl, h3, Or.inl ⟨rfl, rfl, h1⟩⟩)
    · simp only [Im.dots, Im.mk.injEq] at e
      obtain ⟨rfl, rfl, rfl, rfl, rfl, rfl⟩ := e
      refine Or.inr (Or.inr ⟨a, cap, h2, rfl, rfl, rfl, h3, Or.inr ⟨rfl, e', h1, rfl, fun i hi => ?_⟩⟩)
      match i, hi with
      | 0, _ => exact h4

theorem InAt_id {R : Nat → Prop} {w : World} {t : ByteArray} {sc : List Int} {fr : Int} {v : Value} : InAt R w (.id t sc fr) v ↔ ∃ c2, v = .iface 90 (.agg #[.string t, c2, .int .i64 fr]) ∧ t.size ≤ maxLen ∧ IntsAt R w c2 sc := by
  rw [InAt_kinds]
  constructor
  · rintro (⟨t', sc', fr', e, h⟩ | ⟨t', e, h⟩ | ⟨ps', e, h⟩ | ⟨ps', l, e, h⟩)
    · simp only [Im.id, Im.mk.injEq] at e
      obtain ⟨-, rfl, rfl, rfl, -, -⟩ := e
      exact h
    · simp [Im.id, Im.atom] at e
    · simp [Im.id, Im.list] at e
    · simp [Im.id, Im.dots] at e
  · intro h; exact Or.inl ⟨t, sc, fr, rfl, h⟩
theorem InAt_atom {R : Nat → Prop} {w : World} {t : ByteArray} {v : Value} : InAt R w (.atom t) v ↔ v = .iface 102 (.agg #[.string t]) ∧ t.size ≤ maxLen := by
  rw [InAt_kinds]
  constructor
  · rintro (⟨t', sc', fr', e, h⟩ | ⟨t', e, h⟩ | ⟨ps', e, h⟩ | ⟨ps', l, e, h⟩)
    · simp [Im.id, Im.atom] at e
    · simp only [Im.atom, Im.mk.injEq] at e
      obtain ⟨-, rfl, -⟩ := e
      exact h
    · simp [Im.atom, Im.list] at e
    · simp [Im.atom, Im.dots] at e
  · intro h; exact Or.inr (Or.inl ⟨t, rfl, h⟩)
theorem InAt_list {R : Nat → Prop} {w : World} {ps : List Im} {v : Value} : InAt R w (.list ps) v ↔ ∃ a cap, v = .iface 107 (.agg #[.slice a ps.length cap]) ∧ ps.length ≤ maxLen ∧ (ps = [] ∨ ∃ b o, a = some ⟨b, o, none⟩ ∧ R b ∧ InRow R w b o ps) := by
  rw [InAt_kinds]
  constructor
  · rintro (⟨t', sc', fr', e, h⟩ | ⟨t', e, h⟩ | ⟨ps', e, h⟩ | ⟨ps', l, e, h⟩)
    · simp [Im.id, Im.list] at e
    · simp [Im.atom, Im.list] at e
    · simp only [Im.list, Im.mk.injEq] at e
      obtain ⟨-, -, -, -, rfl, -⟩ := e
      exact h
    · simp [Im.list, Im.dots] at e
  · intro h; exact Or.inr (Or.inr (Or.inl ⟨ps, rfl, h⟩))
theorem InAt_dots {R : Nat → Prop} {w : World} {ps : List Im} {l : Im} {v : Value} : InAt R w (.dots ps l) v ↔ ∃ a cap e, v = .iface 109 (.agg #[.slice a ps.length cap, e]) ∧ ps.length ≤ maxLen ∧ (ps = [] ∨ ∃ b o, a = some ⟨b, o, none⟩ ∧ R b ∧ InRow R w b o ps) ∧ InAt R w l e := by
  rw [InAt_kinds]
  constructor
  · rintro (⟨t', sc', fr', e, h⟩ | ⟨t', e, h⟩ | ⟨ps', e, h⟩ | ⟨ps', l', e, h⟩)
    · simp [Im.id, Im.dots] at e
    · simp [Im.atom, Im.dots] at e
    · simp [Im.list, Im.dots] at e
    · simp only [Im.dots, Im.mk.injEq, List.cons.injEq, and_true] at e
      obtain ⟨-, -, -, -, rfl, rfl⟩ := e
      exact h
  · intro h; exact Or.inr (Or.inr (Or.inr ⟨ps, l, rfl, h⟩))

theorem Im.sz_list (ps : List Im) : (Im.list ps).sz = 1 + Im.szs ps := by rw [Im.sz_eq]; simp [Im.list, Im.szs]
theorem Im.sz_dots (ps : List Im) (l : Im) : (Im.dots ps l).sz = 1 + Im.szs ps + l.sz := by rw [Im.sz_eq]; simp [Im.dots, Im.szs]
theorem Im.sz_pos (p : Im) : 0 < p.sz := by have := Im.sz_eq p; omega

theorem in_keep {R : Nat → Prop} {w w' : World} (hb : SameOn R w w') : ∀ (n : Nat) (p : Im), p.sz ≤ n → ∀ {v : Value}, InAt R w p v → InAt R w' p v
  | 0, p, hn, _, _ => by have := Im.sz_pos p; omega
  | n + 1, p, hn, v, h => by
    have row : ∀ (ps : List Im) (b o : Nat), Im.szs ps ≤ n → R b → InRow R w b o ps → InRow R w' b o ps := fun ps b o hs hB h i hi => by
      obtain ⟨x, h1, h2⟩ := h i hi
      exact ⟨x, (hb.cell hB _).trans h1, in_keep hb n _ (by have := Im.szs_get ps i hi; omega) h2⟩
    rw [InAt_kinds] at h ⊢
    rcases h with ⟨t, sc, fr, rfl, c2, h1, h2, h3⟩ | h | ⟨ps, rfl, a, cap, h1, h2, h3⟩ | ⟨ps, l, rfl, a, cap, e, h1, h2, h3, h4⟩
    · exact Or.inl ⟨t, sc, fr, rfl, c2, h1, h2, h3.keep hb⟩
    · exact Or.inr (Or.inl h)
    · refine Or.inr (Or.inr (Or.inl ⟨ps, rfl, a, cap, h1, h2, ?_⟩))
      rw [Im.sz_list] at hn
      rcases h3 with h3 | ⟨b, o, h3, h4, h5⟩
      · exact Or.inl h3
      · exact Or.inr ⟨b, o, h3, h4, row ps b o (by omega) h4 h5⟩
    · rw [Im.sz_dots] at hn
      refine Or.inr (Or.inr (Or.inr ⟨ps, l, rfl, a, cap, e, h1, h2, ?_, in_keep hb n l (by omega) h4⟩))
      rcases h3 with h3 | ⟨b, o, h3, h4, h5⟩
      · exact Or.inl h3
      · exact Or.inr ⟨b, o, h3, h4, row ps b o (by omega) h4 h5⟩
theorem in_mono {R R' : Nat → Prop} {w : World} (hb : ∀ b, R b → R' b) : ∀ (n : Nat) (p : Im), p.sz ≤ n → ∀ {v : Value}, InAt R w p v → InAt R' w p v
  | 0, p, hn, _, _ => by have := Im.sz_pos p; omega
  | n + 1, p, hn, v, h => by
    have row : ∀ (ps : List Im) (b o : Nat), Im.szs ps ≤ n → InRow R w b o ps → InRow R' w b o ps := fun ps b o hs h i hi => by
      obtain ⟨x, h1, h2⟩ := h i hi
      exact ⟨x, h1, in_mono hb n _ (by have := Im.szs_get ps i hi; omega) h2⟩
    rw [InAt_kinds] at h ⊢
    rcases h with ⟨t, sc, fr, rfl, c2, h1, h2, h3⟩ | h | ⟨ps, rfl, a, cap, h1, h2, h3⟩ | ⟨ps, l, rfl, a, cap, e, h1, h2, h3, h4⟩
    · exact Or.inl ⟨t, sc, fr, rfl, c2, h1, h2, h3.mono hb⟩
    · exact Or.inr (Or.inl h)
    · refine Or.inr (Or.inr (Or.inl ⟨ps, rfl, a, cap, h1, h2, ?_⟩))
      rw [Im.sz_list] at hn
      rcases h3 with h3 | ⟨b, o, h3, h4, h5⟩
      · exact Or.inl h3
      · exact Or.inr ⟨b, o, h3, hb b h4, row ps b o (by omega) h5⟩
    · rw [Im.sz_dots] at hn
      refine Or.inr (Or.inr (Or.inr ⟨ps, l, rfl, a, cap, e, h1, h2, ?_, in_mono hb n l (by omega) h4⟩))
      rcases h3 with h3 | ⟨b, o, h3, h4, h5⟩
      · exact Or.inl h3
      · exact Or.inr ⟨b, o, h3, hb b h4, row ps b o (by omega) h5⟩

theorem InAt.keep {R : Nat → Prop} {w w' : World} (hb : SameOn R w w') (p : Im) {v : Value} (h : InAt R w p v) : InAt R w' p v := in_keep hb p.sz p (Nat.le_refl _) h
theorem InAt.mono {R R' : Nat → Prop} {w : World} (hb : ∀ b, R b → R' b) (p : Im) {v : Value} (h : InAt R w p v) : InAt R' w p v := in_mono hb p.sz p (Nat.le_refl _) h
theorem InRow.keep {R : Nat → Prop} {w w' : World} (hb : SameOn R w w') {b : Nat} (hB : R b) (ps : List Im) {o : Nat} (h : InRow R w b o ps) : InRow R w' b o ps := fun i hi => by
  obtain ⟨x, h1, h2⟩ := h i hi
  exact ⟨x, (hb.cell hB _).trans h1, InAt.keep hb _ h2⟩
theorem InRow.mono {R R' : Nat → Prop} {w : World} (hb : ∀ b, R b → R' b) {b : Nat} (ps : List Im) {o : Nat} (h : InRow R w b o ps) : InRow R' w b o ps := fun i hi => by
  obtain ⟨x, h1, h2⟩ := h i hi
  exact ⟨x, h1, InAt.mono hb _ h2⟩
theorem InRow.get {R : Nat → Prop} {w : World} {b : Nat} (ps : List Im) {o : Nat} (h : InRow R w b o ps) (i : Nat) (hi : i < ps.length) : ∃ v, w.cell? ⟨b, o + i, none⟩ = some v ∧ InAt R w ps[i] v := h i hi
theorem InRow.mk {R : Nat → Prop} {w : World} {b : Nat} (ps : List Im) {o : Nat} (h : ∀ (i : Nat) (hi : i < ps.length), ∃ v, w.cell? ⟨b, o + i, none⟩ = some v ∧ InAt R w ps[i] v) : InRow R w b o ps := h
/-- A value behind the interface is one cell. -/
theorem InAt.iface {R : Nat → Prop} {w : World} {p : Im} {v : Value} (h : InAt R w p v) : ∃ t x, v = .iface t x := by
  rw [InAt_kinds] at h
  rcases h with ⟨t, sc, fr, rfl, c2, h1, h2, h3⟩ | ⟨t, rfl, h1, h2⟩ | ⟨ps, rfl, a, cap, h1, h2, h3⟩ | ⟨ps, l, rfl, a, cap, e, h1, h2, h3, h4⟩ <;> exact ⟨_, _, h1⟩

/-- What an ok form comes to inside the program. -/
def toIm : Fm → Im
  | ⟨s, t, sc, fr, ks⟩ => if s = 1 then .id t sc fr else if s = 2 then .atom t else if s = 3 then .list (ks.map fun k => toIm k) else .dots (ks.map fun k => toIm k).dropLast ((ks.map fun k => toIm k).getD ((ks.map fun k => toIm k).length - 1) Im.no)
def toIms (ks : List Fm) : List Im := ks.map toIm

theorem toIms_length (ks : List Fm) : (toIms ks).length = ks.length := by simp [toIms]
theorem toIms_get (ks : List Fm) (i : Nat) (hi : i < ks.length) : (toIms ks)[i]'(by rw [toIms_length]; exact hi) = toIm ks[i] := by simp [toIms]
theorem toIm_id (f : Fm) (h : f.sort = 1) : toIm f = .id f.text f.scopes f.frm := by obtain ⟨s, t, sc, fr, ks⟩ := f; rw [toIm, if_pos h]
theorem toIm_atom (f : Fm) (h : f.sort = 2) : toIm f = .atom f.text := by
  obtain ⟨s, t, sc, fr, ks⟩ := f
  have h1 : s = 2 := h
  rw [toIm, if_neg (by omega), if_pos h]
theorem toIm_list (f : Fm) (h : f.sort = 3) : toIm f = .list (toIms f.kids) := by
  obtain ⟨s, t, sc, fr, ks⟩ := f
  have h1 : s = 3 := h
  rw [toIm, if_neg (by omega), if_neg (by omega), if_pos h]; rfl
theorem toIm_dots (f : Fm) (h : f.sort = 4) : toIm f = .dots (toIms f.kids).dropLast ((toIms f.kids).getD ((toIms f.kids).length - 1) Im.no) := by
  obtain ⟨s, t, sc, fr, ks⟩ := f
  have h1 : s = 4 := h
  rw [toIm, if_neg (by omega), if_neg (by omega), if_neg (by omega)]; rfl

end Go.Proofs.Ytoefpcegekfggaa
