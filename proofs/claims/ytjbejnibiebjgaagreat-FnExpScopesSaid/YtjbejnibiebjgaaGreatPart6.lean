/-
  A form inside the program (values behind the interface 'form'), as it lies in memory; what an ok form comes to there.
  The program's closures: what withScope and flippedBy hand to changed: they change an identifier's scopes. Condition: the scopes lie in memory as IntsAt says, ascending; what the closures captured is there.
  The model's l1ScopesOk and the program's isAscending and areScopes return whether scopes are ascending, none below 0. Condition: the slice lies in memory as IntsAt says.
  The law's toIntS returns a copy in new memory. Condition: the slice lies in memory, and is not too long.
  The law's szExpForm and szExpFormS take from a number what a form costs. Condition: the form lies in memory as FormAt says.
-/
import Derived.Test.YtjbejnibiebjgaaGreatProg
import Derived.Test.YtjbejnibiebjgaaGreatPart1
import Derived.Test.YtjbejnibiebjgaaGreatPart5
namespace Go.Proofs.YtjbejnibiebjgaaGreat
open Go.RowKit Go.Siskin

/-- A form inside the program: its kind (1 an identifier, 2 an atom, 3 a list, 4 a list with an end), and what it has. -/
structure Im where
  kind : Nat
  text : ByteArray
  scopes : List Int
  frm : Int
  parts : List Im
  ends : List Im

def Im.id (t : ByteArray) (sc : List Int) (fr : Int) : Im := ⟨1, t, sc, fr, [], []⟩
def Im.atom (t : ByteArray) : Im := ⟨2, t, [], 0, [], []⟩
def Im.list (ps : List Im) : Im := ⟨3, ⟨#[]⟩, [], 0, ps, []⟩
def Im.dots (ps : List Im) (l : Im) : Im := ⟨4, ⟨#[]⟩, [], 0, ps, [l]⟩
def Im.no : Im := Im.list []

def Im.sz : Im → Nat
  | ⟨_, _, _, _, ps, es⟩ => 1 + (ps.map fun p => p.sz).sum + (es.map fun p => p.sz).sum
def Im.szs (ps : List Im) : Nat := (ps.map Im.sz).sum
theorem Im.sz_eq (p : Im) : p.sz = 1 + Im.szs p.parts + Im.szs p.ends := by
  obtain ⟨k, t, sc, fr, ps, es⟩ := p
  rw [Im.sz]; rfl
theorem Im.szs_cons (p : Im) (r : List Im) : Im.szs (p :: r) = p.sz + Im.szs r := by simp [Im.szs]
theorem Im.szs_get : ∀ (ps : List Im) (i : Nat) (hi : i < ps.length), ps[i].sz ≤ Im.szs ps
  | [], _, hi => absurd hi (Nat.not_lt_zero _)
  | p :: r, 0, _ => by rw [Im.szs_cons]; simp
  | p :: r, i + 1, hi => by
    have := Im.szs_get r i (by simpa using hi)
    simp only [List.getElem_cons_succ, Im.szs_cons]; omega

def InAt (R : Nat → Prop) (w : World) : Im → Value → Prop
  | ⟨k, t, sc, fr, ps, es⟩, v =>
    (k = 1 ∧ ps = [] ∧ es = [] ∧ ∃ c2, v = .iface 62 (.agg #[.string t, c2, .int .i64 fr]) ∧ t.size ≤ maxLen ∧ IntsAt R w c2 sc) ∨
    (k = 2 ∧ sc = [] ∧ fr = 0 ∧ ps = [] ∧ es = [] ∧ v = .iface 90 (.agg #[.string t]) ∧ t.size ≤ maxLen) ∨
    (∃ a cap, ps.length ≤ maxLen ∧ t = ⟨#[]⟩ ∧ sc = [] ∧ fr = 0 ∧
      (ps = [] ∨ ∃ b o, a = some ⟨b, o, none⟩ ∧ R b ∧ ∀ (i : Nat) (hi : i < ps.length), ∃ x, w.cell? ⟨b, o + i, none⟩ = some x ∧ (have := List.sizeOf_lt_of_mem (List.getElem_mem hi); InAt R w ps[i] x)) ∧
      ((k = 3 ∧ es = [] ∧ v = .iface 95 (.agg #[.slice a ps.length cap])) ∨
       (k = 4 ∧ ∃ e, v = .iface 97 (.agg #[.slice a ps.length cap, e]) ∧ es.length = 1 ∧ ∀ (i : Nat) (hi : i < es.length), (have := List.sizeOf_lt_of_mem (List.getElem_mem hi); InAt R w es[i] e))))
def InRow (R : Nat → Prop) (w : World) (b o : Nat) (ps : List Im) : Prop := ∀ (i : Nat) (hi : i < ps.length), ∃ x, w.cell? ⟨b, o + i, none⟩ = some x ∧ InAt R w ps[i] x

/-- The four kinds, one by one. -/
theorem InAt_kinds (R : Nat → Prop) (w : World) (p : Im) (v : Value) : InAt R w p v ↔
    (∃ t sc fr, p = .id t sc fr ∧ ∃ c2, v = .iface 62 (.agg #[.string t, c2, .int .i64 fr]) ∧ t.size ≤ maxLen ∧ IntsAt R w c2 sc) ∨
    (∃ t, p = .atom t ∧ v = .iface 90 (.agg #[.string t]) ∧ t.size ≤ maxLen) ∨
    (∃ ps, p = .list ps ∧ ∃ a cap, v = .iface 95 (.agg #[.slice a ps.length cap]) ∧ ps.length ≤ maxLen ∧ (ps = [] ∨ ∃ b o, a = some ⟨b, o, none⟩ ∧ R b ∧ InRow R w b o ps)) ∨
    (∃ ps l, p = .dots ps l ∧ ∃ a cap e, v = .iface 97 (.agg #[.slice a ps.length cap, e]) ∧ ps.length ≤ maxLen ∧ (ps = [] ∨ ∃ b o, a = some ⟨b, o, none⟩ ∧ R b ∧ InRow R w b o ps) ∧ InAt R w l e) := by
  obtain ⟨k, t, sc, fr, ps, es⟩ := p
  rw [InAt]
  constructor
  · rintro (⟨rfl, rfl, rfl, h⟩ | ⟨rfl, rfl, rfl, rfl, rfl, h⟩ | ⟨a, cap, h1, rfl, rfl, rfl, h2, ⟨rfl, rfl, h3⟩ | ⟨rfl, e, h3, h4, h5⟩⟩)
    · exact Or.inl ⟨t, sc, fr, rfl, h⟩
    · exact Or.inr (Or.inl ⟨t, rfl, h⟩)
    · exact Or.inr (Or.inr (Or.inl ⟨ps, rfl, a, cap, h3, h1, h2⟩))
    · match es, h4, h5 with
      | [l], _, h5 => exact Or.inr (Or.inr (Or.inr ⟨ps, l, rfl, a, cap, e, h3, h1, h2, h5 0 (by simp)⟩))
  · rintro (⟨t', sc', fr', e, h⟩ | ⟨t', e, h⟩ | ⟨ps', e, a, cap, h1, h2, h3⟩ | ⟨ps', l, e, a, cap, e', h1, h2, h3, h4⟩)
    · simp only [Im.id, Im.mk.injEq] at e
      obtain ⟨rfl, rfl, rfl, rfl, rfl, rfl⟩ := e
      exact Or.inl ⟨rfl, rfl, rfl, h⟩
    · simp only [Im.atom, Im.mk.injEq] at e
      obtain ⟨rfl, rfl, rfl, rfl, rfl, rfl⟩ := e
      exact Or.inr (Or.inl ⟨rfl, rfl, rfl, rfl, rfl, h⟩)
    · simp only [Im.list, Im.mk.injEq] at e
      obtain ⟨rfl, rfl, rfl, rfl, rfl, rfl⟩ := e
      exact Or.inr (Or.inr ⟨a, cap, h2, rfl, rfl, rfl, h3, Or.inl ⟨rfl, rfl, h1⟩⟩)
    · simp only [Im.dots, Im.mk.injEq] at e
      obtain ⟨rfl, rfl, rfl, rfl, rfl, rfl⟩ := e
      refine Or.inr (Or.inr ⟨a, cap, h2, rfl, rfl, rfl, h3, Or.inr ⟨rfl, e', h1, rfl, fun i hi => ?_⟩⟩)
      match i, hi with
      | 0, _ => exact h4

theorem InAt_id {R : Nat → Prop} {w : World} {t : ByteArray} {sc : List Int} {fr : Int} {v : Value} : InAt R w (.id t sc fr) v ↔ ∃ c2, v = .iface 62 (.agg #[.string t, c2, .int .i64 fr]) ∧ t.size ≤ maxLen ∧ IntsAt R w c2 sc := by
  rw [InAt_kinds]
  constructor
  · rintro (⟨t', sc', fr', e, h⟩ | ⟨t', e, h⟩ | ⟨ps', e, h⟩ | ⟨ps', l, e, h⟩)
    · simp only [Im.id, Im.mk.injEq] at e
      obtain ⟨-, rfl, rfl, rfl, -, -⟩ := e
      exact h
    · simp [Im.id, Im.atom] at e
    · simp [Im.id, Im.list] at e
    · simp [Im.id, Im.dots] at e
  · intro h; exact Or.inl ⟨t, sc, fr, rfl, h⟩
theorem InAt_atom {R : Nat → Prop} {w : World} {t : ByteArray} {v : Value} : InAt R w (.atom t) v ↔ v = .iface 90 (.agg #[.string t]) ∧ t.size ≤ maxLen := by
  rw [InAt_kinds]
  constructor
  · rintro (⟨t', sc', fr', e, h⟩ | ⟨t', e, h⟩ | ⟨ps', e, h⟩ | ⟨ps', l, e, h⟩)
    · simp [Im.id, Im.atom] at e
    · simp only [Im.atom, Im.mk.injEq] at e
      obtain ⟨-, rfl, -⟩ := e
      exact h
    · simp [Im.atom, Im.list] at e
    · simp [Im.atom, Im.dots] at e
  · intro h; exact Or.inr (Or.inl ⟨t, rfl, h⟩)
theorem InAt_list {R : Nat → Prop} {w : World} {ps : List Im} {v : Value} : InAt R w (.list ps) v ↔ ∃ a cap, v = .iface 95 (.agg #[.slice a ps.length cap]) ∧ ps.length ≤ maxLen ∧ (ps = [] ∨ ∃ b o, a = some ⟨b, o, none⟩ ∧ R b ∧ InRow R w b o ps) := by
  rw [InAt_kinds]
  constructor
  · rintro (⟨t', sc', fr', e, h⟩ | ⟨t', e, h⟩ | ⟨ps', e, h⟩ | ⟨ps', l, e, h⟩)
    · simp [Im.id, Im.list] at e
    · simp [Im.atom, Im.list] at e
    · simp only [Im.list, Im.mk.injEq] at e
      obtain ⟨-, -, -, -, rfl, -⟩ := e
      exact h
    · simp [Im.list, Im.dots] at e
  · intro h; exact Or.inr (Or.inr (Or.inl ⟨ps, rfl, h⟩))
theorem InAt_dots {R : Nat → Prop} {w : World} {ps : List Im} {l : Im} {v : Value} : InAt R w (.dots ps l) v ↔ ∃ a cap e, v = .iface 97 (.agg #[.slice a ps.length cap, e]) ∧ ps.length ≤ maxLen ∧ (ps = [] ∨ ∃ b o, a = some ⟨b, o, none⟩ ∧ R b ∧ InRow R w b o ps) ∧ InAt R w l e := by
  rw [InAt_kinds]
  constructor
  · rintro (⟨t', sc', fr', e, h⟩ | ⟨t', e, h⟩ | ⟨ps', e, h⟩ | ⟨ps', l', e, h⟩)
    · simp [Im.id, Im.dots] at e
    · simp [Im.atom, Im.dots] at e
    · simp [Im.list, Im.dots] at e
    · simp only [Im.dots, Im.mk.injEq, List.cons.injEq, and_true] at e
      obtain ⟨-, -, -, -, rfl, rfl⟩ := e
      exact h
  · intro h; exact Or.inr (Or.inr (Or.inr ⟨ps, l, rfl, h⟩))

theorem Im.sz_list (ps : List Im) : (Im.list ps).sz = 1 + Im.szs ps := by rw [Im.sz_eq]; simp [Im.list, Im.szs]
theorem Im.sz_dots (ps : List Im) (l : Im) : (Im.dots ps l).sz = 1 + Im.szs ps + l.sz := by rw [Im.sz_eq]; simp [Im.dots, Im.szs]
theorem Im.sz_pos (p : Im) : 0 < p.sz := by have := Im.sz_eq p; omega

theorem in_keep {R : Nat → Prop} {w w' : World} (hb : SameOn R w w') : ∀ (n : Nat) (p : Im), p.sz ≤ n → ∀ {v : Value}, InAt R w p v → InAt R w' p v
  | 0, p, hn, _, _ => by have := Im.sz_pos p; omega
  | n + 1, p, hn, v, h => by
    have row : ∀ (ps : List Im) (b o : Nat), Im.szs ps ≤ n → R b → InRow R w b o ps → InRow R w' b o ps := fun ps b o hs hB h i hi => by
      obtain ⟨x, h1, h2⟩ := h i hi
      exact ⟨x, (hb.cell hB _).trans h1, in_keep hb n _ (by have := Im.szs_get ps i hi; omega) h2⟩
    rw [InAt_kinds] at h ⊢
    rcases h with ⟨t, sc, fr, rfl, c2, h1, h2, h3⟩ | h | ⟨ps, rfl, a, cap, h1, h2, h3⟩ | ⟨ps, l, rfl, a, cap, e, h1, h2, h3, h4⟩
    · exact Or.inl ⟨t, sc, fr, rfl, c2, h1, h2, h3.keep hb⟩
    · exact Or.inr (Or.inl h)
    · refine Or.inr (Or.inr (Or.inl ⟨ps, rfl, a, cap, h1, h2, ?_⟩))
      rw [Im.sz_list] at hn
      rcases h3 with h3 | ⟨b, o, h3, h4, h5⟩
      · exact Or.inl h3
      · exact Or.inr ⟨b, o, h3, h4, row ps b o (by omega) h4 h5⟩
    · rw [Im.sz_dots] at hn
      refine Or.inr (Or.inr (Or.inr ⟨ps, l, rfl, a, cap, e, h1, h2, ?_, in_keep hb n l (by omega) h4⟩))
      rcases h3 with h3 | ⟨b, o, h3, h4, h5⟩
      · exact Or.inl h3
      · exact Or.inr ⟨b, o, h3, h4, row ps b o (by omega) h4 h5⟩
theorem in_mono {R R' : Nat → Prop} {w : World} (hb : ∀ b, R b → R' b) : ∀ (n : Nat) (p : Im), p.sz ≤ n → ∀ {v : Value}, InAt R w p v → InAt R' w p v
  | 0, p, hn, _, _ => by have := Im.sz_pos p; omega
  | n + 1, p, hn, v, h => by
    have row : ∀ (ps : List Im) (b o : Nat), Im.szs ps ≤ n → InRow R w b o ps → InRow R' w b o ps := fun ps b o hs h i hi => by
      obtain ⟨x, h1, h2⟩ := h i hi
      exact ⟨x, h1, in_mono hb n _ (by have := Im.szs_get ps i hi; omega) h2⟩
    rw [InAt_kinds] at h ⊢
    rcases h with ⟨t, sc, fr, rfl, c2, h1, h2, h3⟩ | h | ⟨ps, rfl, a, cap, h1, h2, h3⟩ | ⟨ps, l, rfl, a, cap, e, h1, h2, h3, h4⟩
    · exact Or.inl ⟨t, sc, fr, rfl, c2, h1, h2, h3.mono hb⟩
    · exact Or.inr (Or.inl h)
    · refine Or.inr (Or.inr (Or.inl ⟨ps, rfl, a, cap, h1, h2, ?_⟩))
      rw [Im.sz_list] at hn
      rcases h3 with h3 | ⟨b, o, h3, h4, h5⟩
      · exact Or.inl h3
      · exact Or.inr ⟨b, o, h3, hb b h4, row ps b o (by omega) h5⟩
    · rw [Im.sz_dots] at hn
      refine Or.inr (Or.inr (Or.inr ⟨ps, l, rfl, a, cap, e, h1, h2, ?_, in_mono hb n l (by omega) h4⟩))
      rcases h3 with h3 | ⟨b, o, h3, h4, h5⟩
      · exact Or.inl h3
      · exact Or.inr ⟨b, o, h3, hb b h4, row ps b o (by omega) h5⟩

theorem InAt.keep {R : Nat → Prop} {w w' : World} (hb : SameOn R w w') (p : Im) {v : Value} (h : InAt R w p v) : InAt R w' p v := in_keep hb p.sz p (Nat.le_refl _) h
theorem InAt.mono {R R' : Nat → Prop} {w : World} (hb : ∀ b, R b → R' b) (p : Im) {v : Value} (h : InAt R w p v) : InAt R' w p v := in_mono hb p.sz p (Nat.le_refl _) h
theorem InRow.keep {R : Nat → Prop} {w w' : World} (hb : SameOn R w w') {b : Nat} (hB : R b) (ps : List Im) {o : Nat} (h : InRow R w b o ps) : InRow R w' b o ps := fun i hi => by
  obtain ⟨x, h1, h2⟩ := h i hi
  exact ⟨x, (hb.cell hB _).trans h1, InAt.keep hb _ h2⟩
theorem InRow.mono {R R' : Nat → Prop} {w : World} (hb : ∀ b, R b → R' b) {b : Nat} (ps : List Im) {o : Nat} (h : InRow R w b o ps) : InRow R' w b o ps := fun i hi => by
  obtain ⟨x, h1, h2⟩ := h i hi
  exact ⟨x, h1, InAt.mono hb _ h2⟩
theorem InRow.get {R : Nat → Prop} {w : World} {b : Nat} (ps : List Im) {o : Nat} (h : InRow R w b o ps) (i : Nat) (hi : i < ps.length) : ∃ v, w.cell? ⟨b, o + i, none⟩ = some v ∧ InAt R w ps[i] v := h i hi
theorem InRow.mk {R : Nat → Prop} {w : World} {b : Nat} (ps : List Im) {o : Nat} (h : ∀ (i : Nat) (hi : i < ps.length), ∃ v, w.cell? ⟨b, o + i, none⟩ = some v ∧ InAt R w ps[i] v) : InRow R w b o ps := h
/-- A value behind the interface is one cell. -/
theorem InAt.iface {R : Nat → Prop} {w : World} {p : Im} {v : Value} (h : InAt R w p v) : ∃ t x, v = .iface t x := by
  rw [InAt_kinds] at h
  rcases h with ⟨t, sc, fr, rfl, c2, h1, h2, h3⟩ | ⟨t, rfl, h1, h2⟩ | ⟨ps, rfl, a, cap, h1, h2, h3⟩ | ⟨ps, l, rfl, a, cap, e, h1, h2, h3, h4⟩ <;> exact ⟨_, _, h1⟩

/-- What an ok form comes to inside the program. -/
def toIm : Fm → Im
  | ⟨s, t, sc, fr, ks⟩ => if s = 1 then .id t sc fr else if s = 2 then .atom t else if s = 3 then .list (ks.map fun k => toIm k) else .dots (ks.map fun k => toIm k).dropLast ((ks.map fun k => toIm k).getD ((ks.map fun k => toIm k).length - 1) Im.no)
def toIms (ks : List Fm) : List Im := ks.map toIm

theorem toIms_length (ks : List Fm) : (toIms ks).length = ks.length := by simp [toIms]
theorem toIms_get (ks : List Fm) (i : Nat) (hi : i < ks.length) : (toIms ks)[i]'(by rw [toIms_length]; exact hi) = toIm ks[i] := by simp [toIms]
theorem toIm_id (f : Fm) (h : f.sort = 1) : toIm f = .id f.text f.scopes f.frm := by obtain ⟨s, t, sc, fr, ks⟩ := f; rw [toIm, if_pos h]
theorem toIm_atom (f : Fm) (h : f.sort = 2) : toIm f = .atom f.text := by
  obtain ⟨s, t, sc, fr, ks⟩ := f
  have h1 : s = 2 := h
  rw [toIm, if_neg (by omega), if_pos h]
theorem toIm_list (f : Fm) (h : f.sort = 3) : toIm f = .list (toIms f.kids) := by
  obtain ⟨s, t, sc, fr, ks⟩ := f
  have h1 : s = 3 := h
  rw [toIm, if_neg (by omega), if_neg (by omega), if_pos h]; rfl
theorem toIm_dots (f : Fm) (h : f.sort = 4) : toIm f = .dots (toIms f.kids).dropLast ((toIms f.kids).getD ((toIms f.kids).length - 1) Im.no) := by
  obtain ⟨s, t, sc, fr, ks⟩ := f
  have h1 : s = 4 := h
  rw [toIm, if_neg (by omega), if_neg (by omega), if_neg (by omega)]; rfl

end Go.Proofs.YtjbejnibiebjgaaGreat

namespace Go.Proofs.YtjbejnibiebjgaaGreat
open Go.RowKit Go.Siskin

set_option maxRecDepth 20000 in
set_option maxHeartbeats 1000000 in
theorem scoWith_any (B : Nat → Prop) (t : ByteArray) (va : Value) (xs : List Int) (fr n : Int) (hp : Nat) (w : World) (ha : IntsAt B w va xs) (hup : Up xs) (hB : ∀ b, B b → b < w.heap.size) (hn : xs.length ≤ 1048576) (hs : Own w hp 3 #[.int .i64 n]) :
    Calls Tryz.prog 29 #[.agg #[.string t, va, .int .i64 fr], .pointer (some ⟨hp, 0, none⟩)] w fun e w' => ∃ u, e = .returned (.agg #[.string t, u, .int .i64 fr]) ∧ IntsAt (Reg B w w') w' u (putB n xs) ∧ Below w.heap.size w w' := by
  have HR := hid hB
  have HI := hid ha
  have HU := hid hup
  obtain ⟨a, ca, rfl, hla, ha⟩ := ha
  have hh := hs.lt
  obtain ⟨W, hW⟩ : ∃ W, W = (w.alloc (.cells #[.string t, .slice a xs.length ca, .int .i64 fr] 62)).alloc (.cells #[.string ⟨#[]⟩, .slice none 0 0, .int .i64 0] 62) := ⟨_, rfl⟩
  have hWs : W.heap.size = w.heap.size + 2 := by rw [hW]; simp
  have HWB : Hid (Below w.heap.size w W) := by
    show Below _ _ _
    rw [hW]; exact ((Below.refl _ _).alloc (Nat.le_refl _) _).alloc (by simp) _
  have f1 : W.cell? ⟨hp, 0, none⟩ = some (.int .i64 n) := (hs.keep HWB.out hh).cell 0
  have O0 : Hid (Own W w.heap.size 62 #[.string t, .slice a xs.length ca, .int .i64 fr]) := by
    show Own _ _ _ _
    rw [hW]; exact (own_new _ _ _).more (by simp) _
  have O1 : Hid (Own W (w.heap.size + 1) 62 #[.string ⟨#[]⟩, .slice none 0 0, .int .i64 0]) := by
    show Own _ _ _ _
    have h := own_new (w.alloc (.cells #[.string t, .slice a xs.length ca, .int .i64 fr] 62)) #[.string ⟨#[]⟩, .slice none 0 0, .int .i64 0] 62
    rw [World.size_alloc] at h
    rw [hW]; exact h
  have HC := hid (with_any B (.slice a xs.length ca) xs n W (HI.out.keep (HWB.out.on HR.out)) HU.out (fun b hb => by have := HR.out b hb; omega) hn)
  rw [hW] at f1
  clear ha hB hup hs
  obtain ⟨L, hL⟩ : ∃ L, L = (putB n xs).length := ⟨_, rfl⟩
  have HL := hid hL
  clear hL
  go_enter Tryz.func29, Tryz.ntmps29
  go_wp2_with fail
  rw [← hW]
  refine HC.out.mono ?_
  rintro e w1 ⟨u, rfl, hu, hw1⟩
  have P0 := hid (O0.out.keep hw1 (by omega))
  have P1 := hid (O1.out.keep hw1 (by omega))
  have HU1 := hid hu
  have hs1 := hw1.size
  have HW1 := hid (HWB.out.trans (hw1.mono (by omega)))
  obtain ⟨ua, uc, rfl, -⟩ := hu
  rw [← HL.out] at HU1 ⊢
  have f0 := P0.out.cell 0
  have f5 := P0.out.cell 1
  have f6 := P0.out.cell 2
  have z5 := P0.out.frozen 1
  have h0 := P1.out.cell 0
  have h1 := P1.out.cell 1
  have h2 := P1.out.cell 2
  have y0 := P1.out.frozen 0
  have y1 := P1.out.frozen 1
  have y2 := P1.out.frozen 2
  simp at f0 f5 f6 h0 h1 h2
  clear hw1 f1
  go_wp2_with fail
  refine bodyPost_ret (v := .agg #[.string t, .slice ua L uc, .int .i64 fr]) (by simp [results, Tryz.results29, go_sem, h0, h1, h2]) rfl ?_
  refine ⟨_, rfl, ?_, (((HW1.out.setCell (by simp) _).setCell (by simp) _).setCell (by simp) _).setCell (by simp) _⟩
  have hno : ∀ b, w.heap.size ≤ b → b ≤ w.heap.size + 1 → ¬ Reg B W w1 b := fun b h1 h2 h => by
    rcases h with h | h
    · have := HR.out _ h; omega
    · have := h.1; omega
  refine IntsAt.mono (B := Reg B W w1) (HU1.out.keep (((((SameOn.refl _ _).setCell (hno _ (by simp) (by simp)) _).setCell (hno _ (by simp) (by simp)) _).setCell (hno _ (by simp) (by simp)) _).setCell (hno _ (by simp) (by simp)) _)) fun b hb => ?_
  rcases hb with hb | hb
  · exact Or.inl hb
  · exact Or.inr ⟨by omega, by simpa using hb.2⟩

set_option maxRecDepth 20000 in
set_option maxHeartbeats 1000000 in
theorem scoFlip_any (B : Nat → Prop) (t : ByteArray) (va : Value) (xs : List Int) (fr n : Int) (hp : Nat) (w : World) (ha : IntsAt B w va xs) (hup : Up xs) (hB : ∀ b, B b → b < w.heap.size) (hn : xs.length ≤ 1048576) (hs : Own w hp 3 #[.int .i64 n]) :
    Calls Tryz.prog 31 #[.agg #[.string t, va, .int .i64 fr], .pointer (some ⟨hp, 0, none⟩)] w fun e w' => ∃ u, e = .returned (.agg #[.string t, u, .int .i64 fr]) ∧ IntsAt (Reg B w w') w' u (flipB n xs) ∧ Below w.heap.size w w' := by
  have HR := hid hB
  have HI := hid ha
  have HU := hid hup
  obtain ⟨a, ca, rfl, hla, ha⟩ := ha
  have hh := hs.lt
  obtain ⟨W, hW⟩ : ∃ W, W = (w.alloc (.cells #[.string t, .slice a xs.length ca, .int .i64 fr] 62)).alloc (.cells #[.string ⟨#[]⟩, .slice none 0 0, .int .i64 0] 62) := ⟨_, rfl⟩
  have hWs : W.heap.size = w.heap.size + 2 := by rw [hW]; simp
  have HWB : Hid (Below w.heap.size w W) := by
    show Below _ _ _
    rw [hW]; exact ((Below.refl _ _).alloc (Nat.le_refl _) _).alloc (by simp) _
  have f1 : W.cell? ⟨hp, 0, none⟩ = some (.int .i64 n) := (hs.keep HWB.out hh).cell 0
  have O0 : Hid (Own W w.heap.size 62 #[.string t, .slice a xs.length ca, .int .i64 fr]) := by
    show Own _ _ _ _
    rw [hW]; exact (own_new _ _ _).more (by simp) _
  have O1 : Hid (Own W (w.heap.size + 1) 62 #[.string ⟨#[]⟩, .slice none 0 0, .int .i64 0]) := by
    show Own _ _ _ _
    have h := own_new (w.alloc (.cells #[.string t, .slice a xs.length ca, .int .i64 fr] 62)) #[.string ⟨#[]⟩, .slice none 0 0, .int .i64 0] 62
    rw [World.size_alloc] at h
    rw [hW]; exact h
  have HC := hid (flipped_any B (.slice a xs.length ca) xs n W (HI.out.keep (HWB.out.on HR.out)) HU.out (fun b hb => by have := HR.out b hb; omega) hn)
  rw [hW] at f1
  clear ha hB hup hs
  obtain ⟨L, hL⟩ : ∃ L, L = (flipB n xs).length := ⟨_, rfl⟩
  have HL := hid hL
  clear hL
  go_enter Tryz.func31, Tryz.ntmps31
  go_wp2_with fail
  rw [← hW]
  refine HC.out.mono ?_
  rintro e w1 ⟨u, rfl, hu, hw1⟩
  have P0 := hid (O0.out.keep hw1 (by omega))
  have P1 := hid (O1.out.keep hw1 (by omega))
  have HU1 := hid hu
  have hs1 := hw1.size
  have HW1 := hid (HWB.out.trans (hw1.mono (by omega)))
  obtain ⟨ua, uc, rfl, -⟩ := hu
  rw [← HL.out] at HU1 ⊢
  have f0 := P0.out.cell 0
  have f5 := P0.out.cell 1
  have f6 := P0.out.cell 2
  have z5 := P0.out.frozen 1
  have h0 := P1.out.cell 0
  have h1 := P1.out.cell 1
  have h2 := P1.out.cell 2
  have y0 := P1.out.frozen 0
  have y1 := P1.out.frozen 1
  have y2 := P1.out.frozen 2
  simp at f0 f5 f6 h0 h1 h2
  clear hw1 f1
  go_wp2_with fail
  refine bodyPost_ret (v := .agg #[.string t, .slice ua L uc, .int .i64 fr]) (by simp [results, Tryz.results31, go_sem, h0, h1, h2]) rfl ?_
  refine ⟨_, rfl, ?_, (((HW1.out.setCell (by simp) _).setCell (by simp) _).setCell (by simp) _).setCell (by simp) _⟩
  have hno : ∀ b, w.heap.size ≤ b → b ≤ w.heap.size + 1 → ¬ Reg B W w1 b := fun b h1 h2 h => by
    rcases h with h | h
    · have := HR.out _ h; omega
    · have := h.1; omega
  refine IntsAt.mono (B := Reg B W w1) (HU1.out.keep (((((SameOn.refl _ _).setCell (hno _ (by simp) (by simp)) _).setCell (hno _ (by simp) (by simp)) _).setCell (hno _ (by simp) (by simp)) _).setCell (hno _ (by simp) (by simp)) _)) fun b hb => ?_
  rcases hb with hb | hb
  · exact Or.inl hb
  · exact Or.inr ⟨by omega, by simpa using hb.2⟩

/-- What a change of scopes does: which closure, and what it comes to. -/
def Change (fn : Nat) (n : Int) (g : List Int → List Int) : Prop := (fn = 29 ∧ g = putB n) ∨ (fn = 31 ∧ g = flipB n)
/-- What the closure captured. -/
structure Caps (w : World) (n : Int) (hp : Nat) : Prop where
  f : Own w hp 3 #[.int .i64 n]
theorem Caps.below {w w' : World} {n : Int} {hp : Nat} (h : Caps w n hp) {N : Nat} (hb : Below N w w') (h1 : hp < N) : Caps w' n hp := ⟨h.f.keep hb h1⟩
theorem scoClo_any {fn : Nat} {n : Int} {g : List Int → List Int} (hg : Change fn n g) (B : Nat → Prop) (t : ByteArray) (va : Value) (xs : List Int) (fr : Int) (hp : Nat) (w : World) (ha : IntsAt B w va xs) (hup : Up xs) (hB : ∀ b, B b → b < w.heap.size) (hn : xs.length ≤ 1048576) (hc : Caps w n hp) :
    Calls Tryz.prog fn #[.agg #[.string t, va, .int .i64 fr], .pointer (some ⟨hp, 0, none⟩)] w fun e w' => ∃ u, e = .returned (.agg #[.string t, u, .int .i64 fr]) ∧ IntsAt (Reg B w w') w' u (g xs) ∧ Below w.heap.size w w' := by
  rcases hg with ⟨rfl, rfl⟩ | ⟨rfl, rfl⟩
  · exact scoWith_any B t va xs fr n hp w ha hup hB hn hc.f
  · exact scoFlip_any B t va xs fr n hp w ha hup hB hn hc.f

set_option maxRecDepth 20000 in
set_option maxHeartbeats 1000000 in
theorem chId_any {fn : Nat} {n : Int} {g : List Int → List Int} (hg : Change fn n g) (B : Nat → Prop) (t : ByteArray) (va : Value) (xs : List Int) (fr : Int) (hp : Nat) (w : World) (ha : IntsAt B w va xs) (ht : t.size ≤ maxLen) (hup : Up xs) (hB : ∀ b, B b → b < w.heap.size) (hn : xs.length ≤ 1048576) (hc : Caps w n hp) :
    Calls Tryz.prog 104 #[.agg #[.string t, va, .int .i64 fr], .func (.func fn) #[] #[.pointer (some ⟨hp, 0, none⟩)]] w fun e w' => ∃ y, e = .returned y ∧ InAt (Reg B w w') w' (.id t (g xs) fr) y ∧ Below w.heap.size w w' := by
  have HR := hid hB
  have HI := hid ha
  have HU := hid hup
  have HT := hid ht
  have hh := hc.f.lt
  have HC := hid (scoClo_any hg B t va xs fr hp (w.alloc (.cells #[.string t, va, .int .i64 fr] 62)) (HI.out.keep ((SameOn.refl _ _).alloc HR.out _)) HU.out (fun b hb => by have := HR.out b hb; simp; omega) hn (hc.below ((Below.refl _ _).alloc (Nat.le_refl _) _) hh))
  obtain ⟨a, ca, rfl, hla, ha⟩ := ha
  clear ha hB hup hc ht
  obtain ⟨ys, hys⟩ : ∃ ys, ys = g xs := ⟨_, rfl⟩
  rw [← hys] at HC ⊢
  clear hys
  rcases hg with ⟨rfl, -⟩ | ⟨rfl, -⟩
  all_goals
    go_enter Tryz.func104, Tryz.ntmps104
    go_wp2_with fail
    refine HC.out.mono ?_
    rintro e w1 ⟨u, rfl, hu, hw1⟩
    have HU1 := hid hu
    have HW1 := hid (((Below.refl w.heap.size w).alloc (Nat.le_refl _) (.cells #[.string t, .slice a xs.length ca, .int .i64 fr] 62)).trans (hw1.mono (by simp)))
    obtain ⟨ua, uc, rfl, -⟩ := hu
    clear hw1
    go_wp2_with fail
    go_ret
    refine ⟨_, rfl, ?_, HW1.out⟩
    rw [InAt_id]
    refine ⟨_, rfl, HT.out, HU1.out.mono fun b hb => ?_⟩
    rcases hb with hb | hb
    · exact Or.inl hb
    · exact Or.inr ⟨by have := hb.1; simp at this; omega, hb.2⟩

end Go.Proofs.YtjbejnibiebjgaaGreat

namespace Go.Proofs.YtjbejnibiebjgaaGreat
open Go.RowKit Go.Siskin

theorem scopes_no {xs : List Int} (h : ¬ (AscTo xs xs.length ∧ NonTo xs xs.length)) : false = scopesB xs := by
  rw [eq_comm, Bool.eq_false_iff]; intro e; exact h ((scopes_iff xs).1 e)
theorem asc_no {xs : List Int} (h : ¬ AscTo xs xs.length) : false = ascB xs := by
  rw [eq_comm, Bool.eq_false_iff]; intro e; exact h ((asc_iff xs).1 e)
theorem getD_get {xs : List Int} {k : Nat} (h : k < xs.length) : xs.getD k 0 = xs[k] := by simp [List.getD_eq_getElem?_getD, h]

theorem asc_step {xs : List Int} {k : Nat} (h : AscTo xs k) (hk : k = 0 ∨ xs.getD (k - 1) 0 < xs.getD k 0) : AscTo xs (k + 1) := by
  intro i hi
  by_cases e : i + 1 < k
  · exact h i e
  · have : i + 1 = k := by omega
    subst this
    rcases hk with hk | hk
    · omega
    · simpa using hk
theorem non_step {xs : List Int} {k : Nat} (h : NonTo xs k) (hk : 0 ≤ xs.getD k 0) : NonTo xs (k + 1) := by
  intro i hi
  by_cases e : i < k
  · exact h i e
  · have : i = k := by omega
    subst this; exact hk

set_option maxHeartbeats 1000000 in
theorem l1ScopesOk_any (B : Nat → Prop) (va : Value) (xs : List Int) (w : World) (ha : IntsAt B w va xs) :
    Calls Tryz.prog 39 #[va] w fun e w' => e = .returned (.bool (scopesB xs)) ∧ ∃ n, w' = w.drewN n := by
  obtain ⟨a, ca, rfl, hla, ha⟩ := ha
  unfold maxLen at hla
  go_enter Tryz.func39, Tryz.ntmps39
  go_wp2_with fail
  go_loopw [3] (fun i wr => (∃ n, wr = w.drewN n) ∧ ∃ k : Nat, k ≤ xs.length ∧ i = .int .i64 k ∧ Hid (AscTo xs k ∧ NonTo xs k)) (fun i _ => xs.length - (intOf i).toNat)
  case atStart => exact ⟨⟨0, rfl⟩, 0, Nat.zero_le _, rfl, fun i hi => absurd hi (by omega), fun i hi => absurd hi (by omega)⟩
  case round =>
    obtain ⟨⟨n, rfl⟩, k, hk, rfl, HA⟩ := hrel
    by_cases hlt : k < xs.length
    · rcases ha with ha | ⟨ba, oa, rfl, _, ha⟩
      · subst ha; simp at hlt
      have ga := ha k hlt
      rw [getD_get hlt] at ga
      by_cases h1 : xs[k] < 0
      · have hd : decide (xs[k] < 0) = true := decide_eq_true h1
        have HX : Hid (false = scopesB xs) := scopes_no fun h => by
          have := h.2 k hlt; rw [getD_get hlt] at this; omega
        clear ha
        go_wp2_with fail
        go_quiet (fail)
        go_wp2_with fail
        go_ret
        exact ⟨ret_bool HX.out, n + nq, by simp⟩
      have hd : decide (xs[k] < 0) = false := decide_eq_false h1
      cases k with
      | succ j =>
        have gb := ha j (by omega)
        rw [getD_get (by omega)] at gb
        have hd2 : decide (0 < ((j + 1 : Nat) : Int)) = true := decide_eq_true (by omega)
        clear ha
        by_cases h3 : xs[j + 1] ≤ xs[j]
        · have HX : Hid (false = scopesB xs) := scopes_no fun h => by
            have := h.1 j (by omega); rw [getD_get (by omega), getD_get hlt] at this; omega
          go_wp2_with fail
          go_quiet (fail)
          go_wp2_with fail
          go_ret
          exact ⟨ret_bool HX.out, n + nq, by simp⟩
        · have HA' : Hid (AscTo xs (j + 1 + 1) ∧ NonTo xs (j + 1 + 1)) := ⟨asc_step HA.out.1 (Or.inr (by rw [Nat.add_sub_cancel, getD_get (by omega), getD_get hlt]; omega)), non_step HA.out.2 (by rw [getD_get hlt]; omega)⟩
          go_wp2_with fail
          go_quiet (fail)
          go_wp2_with fail
          exact ⟨⟨⟨n + nq, rfl⟩, j + 1 + 1, by omega, by go_num, HA'⟩, by simp [intOf]; omega⟩
      | zero =>
        have HA' : Hid (AscTo xs (0 + 1) ∧ NonTo xs (0 + 1)) := ⟨asc_step HA.out.1 (Or.inl rfl), non_step HA.out.2 (by rw [getD_get hlt]; omega)⟩
        rw [Nat.add_zero] at ga
        clear ha
        go_wp2_with fail
        go_quiet (fail)
        go_wp2_with fail
        exact ⟨⟨⟨n + nq, rfl⟩, 1, by omega, by go_num, HA'⟩, by simp [intOf]; omega⟩
    · go_wp2_with fail
      go_ret
      have e : k = xs.length := by omega
      exact ⟨ret_bool (by rw [eq_comm, scopes_iff, ← e]; exact HA.out), n, rfl⟩

set_option maxHeartbeats 1000000 in
theorem isAscending_any (B : Nat → Prop) (va : Value) (xs : List Int) (w : World) (ha : IntsAt B w va xs) :
    Calls Tryz.prog 65 #[va] w fun e w' => e = .returned (.bool (ascB xs)) ∧ ∃ n, w' = w.drewN n := by
  obtain ⟨a, ca, rfl, hla, ha⟩ := ha
  unfold maxLen at hla
  go_enter Tryz.func65, Tryz.ntmps65
  go_wp2_with fail
  go_loopw [3] (fun i wr => (∃ n, wr = w.drewN n) ∧ ∃ k : Nat, k ≤ xs.length ∧ i = .int .i64 ((k : Int) + 1) ∧ Hid (AscTo xs (k + 1))) (fun i _ => xs.length + 1 - (intOf i).toNat)
  case atStart => exact ⟨⟨0, rfl⟩, 0, Nat.zero_le _, rfl, fun i hi => absurd hi (by omega)⟩
  case round =>
    obtain ⟨⟨n, rfl⟩, j, hk, rfl, HA⟩ := hrel
    by_cases hlt : j + 1 < xs.length
    · rcases ha with ha | ⟨ba, oa, rfl, _, ha⟩
      · subst ha; simp at hlt
      have ga := ha (j + 1) hlt
      have gb := ha j (by omega)
      rw [getD_get hlt] at ga
      rw [getD_get (by omega)] at gb
      clear ha
      by_cases h3 : xs[j + 1] ≤ xs[j]
      · have HX : Hid (false = ascB xs) := asc_no fun h => by
          have := h j (by omega); rw [getD_get (by omega), getD_get hlt] at this; omega
        go_wp2_with fail
        go_quiet (fail)
        go_wp2_with fail
        go_ret
        exact ⟨ret_bool HX.out, n + nq, by simp⟩
      · have HA' : Hid (AscTo xs (j + 1 + 1)) := asc_step HA.out (Or.inr (by rw [Nat.add_sub_cancel, getD_get (by omega), getD_get hlt]; omega))
        go_wp2_with fail
        go_quiet (fail)
        go_wp2_with fail
        exact ⟨⟨⟨n + nq, rfl⟩, j + 1, by omega, by go_num, HA'⟩, by simp [intOf]; omega⟩
    · go_wp2_with fail
      go_ret
      exact ⟨ret_bool (by rw [eq_comm, asc_iff]; exact fun i hi => HA.out i (by omega)), n, rfl⟩

set_option maxHeartbeats 1000000 in
theorem areScopes_any (B : Nat → Prop) (va : Value) (xs : List Int) (w : World) (ha : IntsAt B w va xs) :
    Calls Tryz.prog 57 #[va] w fun e w' => e = .returned (.bool (scopesB xs)) ∧ ∃ n, w' = w.drewN n := by
  have ha0 := ha
  obtain ⟨a, ca, rfl, hla, ha⟩ := ha
  unfold maxLen at hla
  cases h1 : ascB xs with
  | false =>
    go_enter Tryz.func57, Tryz.ntmps57
    go_wp2_with (go_at_call 65; refine (isAscending_any B _ xs _ ha0).mono ?_; rintro e w' ⟨rfl, n, rfl⟩)
    go_ret
    exact ⟨ret_bool (by unfold scopesB; rw [h1]; rfl), n, rfl⟩
  | true =>
    by_cases h2 : xs = []
    · subst h2
      go_enter Tryz.func57, Tryz.ntmps57
      go_wp2_with (go_at_call 65; refine (isAscending_any B _ [] _ ha0).mono ?_; rintro e w' ⟨rfl, n, rfl⟩)
      go_ret
      exact ⟨ret_bool rfl, n, rfl⟩
    · rcases ha with ha | ⟨ba, oa, rfl, _, ha⟩
      · exact absurd ha h2
      have hlt : 0 < xs.length := by cases xs with | nil => exact absurd rfl h2 | cons _ _ => simp
      have ga := ha 0 hlt
      rw [getD_get hlt, Nat.add_zero] at ga
      clear ha
      have hne : ((xs.length : Int) == 0) = false := by simp; omega
      have HX : Hid (scopesB xs = decide (0 ≤ xs[0])) := by
        show _ = _
        unfold scopesB; rw [h1, Bool.true_and, Bool.eq_iff_iff, List.all_eq_true, decide_eq_true_eq]
        constructor
        · intro h; exact of_decide_eq_true (h _ (List.getElem_mem hlt))
        · intro h x hx
          obtain ⟨i, hi, rfl⟩ := List.getElem_of_mem hx
          have hasc := (asc_iff xs).1 h1
          have : ∀ j (hj : j < xs.length), 0 ≤ xs[j] := by
            intro j
            induction j with
            | zero => intro _; exact h
            | succ j ih =>
              intro hj
              have a1 := ih (by omega)
              have a2 := hasc j hj
              rw [getD_get (by omega), getD_get hj] at a2
              omega
          exact decide_eq_true (this i hi)
      go_enter Tryz.func57, Tryz.ntmps57
      go_wp2_with (go_at_call 65; refine (isAscending_any B _ xs _ ha0).mono ?_; rintro e w' ⟨rfl, n, rfl⟩)
      go_ret
      exact ⟨ret_bool HX.out.symm, n, rfl⟩

end Go.Proofs.YtjbejnibiebjgaaGreat

namespace Go.Proofs.YtjbejnibiebjgaaGreat
open Go.RowKit Go.Siskin

theorem Tryz.infoInt : (Tryz.prog.info? 3).map (fun i => (i.zero, i.size, i.bytes)) = some (some (.int .i64 0), 1, 8) := by kernel_rfl
theorem Tryz.infoForm : (Tryz.prog.info? 26).map (fun i => (i.zero, i.size, i.bytes)) = some (some (.agg #[.int .i64 0, .string ⟨#[]⟩, .slice none 0 0, .int .i64 0, .slice none 0 0]), 5, 80) := by kernel_rfl

theorem set_step {cs : Array Value} {xs : List Int} {k : Nat} (hcs : cs.size = xs.length) (hlt : k < xs.length) {x : Int} (hx : xs.getD k 0 = x) (hg : ∀ j, j < k → cs[j]? = some (.int .i64 (xs.getD j 0))) :
    ∀ j, j < k + 1 → (cs.setIfInBounds k (.int .i64 x))[j]? = some (.int .i64 (xs.getD j 0)) := by
  intro j hj
  by_cases e : j = k
  · subst e; rw [Array.getElem?_setIfInBounds, if_pos rfl, if_pos (by omega), hx]
  · rw [Array.getElem?_setIfInBounds, if_neg (by omega)]; exact hg j (by omega)

end Go.Proofs.YtjbejnibiebjgaaGreat

namespace Go.Proofs.YtjbejnibiebjgaaGreat
open Go.RowKit Go.Siskin

theorem szI_two (a b : Nat) (l : Int) : szI (a + b) l = if szI a l < 0 then -1 else szI b (szI a l) := by
  unfold szI
  by_cases h1 : l - a < 0
  · rw [if_pos h1, if_pos (by omega), if_pos (by omega)]
  · rw [if_neg h1, if_neg h1]
    by_cases h2 : l - a - b < 0
    · rw [if_pos h2, if_pos (by omega)]
    · rw [if_neg h2, if_neg (by omega)]; omega
theorem szI_ge (a : Nat) (l : Int) : -1 ≤ szI a l ∧ (0 ≤ l → szI a l ≤ l) := by
  unfold szI
  by_cases h1 : l - a < 0
  · rw [if_pos h1]; omega
  · rw [if_neg h1]; omega

theorem szI_neg (a : Nat) (l : Int) : szI a l < 0 ↔ l - a < 0 := by
  unfold szI
  by_cases h1 : l - a < 0
  · rw [if_pos h1]; omega
  · rw [if_neg h1]
theorem szI_minus (a : Nat) (l : Int) : szI a l = -1 ↔ l - a < 0 := by
  unfold szI
  by_cases h1 : l - a < 0
  · rw [if_pos h1]; omega
  · rw [if_neg h1]; omega
theorem szI_pos (a : Nat) (l : Int) (h : ¬ szI a l < 0) : szI a l = l - a := by
  unfold szI at h ⊢
  by_cases h1 : l - a < 0
  · rw [if_pos h1] at h; omega
  · rw [if_neg h1]

end Go.Proofs.YtjbejnibiebjgaaGreat
