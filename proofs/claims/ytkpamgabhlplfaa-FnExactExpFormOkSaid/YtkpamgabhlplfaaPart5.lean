/-
  A form inside the program (values behind the interface 'form'), as it lies in memory; what an ok form comes to there.
  Blocks that were there, and those that are new. No program is named.
  The program's hasOnlyKids, and its opener at an identifier and at an atom. Condition: the form lies in memory, the opener's counter apart from it.
  What stands after some kids have been opened by the program's openAll, and that one kid more keeps it. No program's step is walked here.
  The program's openAll opens all forms of a list, just where all are ok and not too many, if its opener does so of one. Condition: the forms lie in memory, the opener's counter apart from them.
-/
import Derived.Test.YtkpamgabhlplfaaProg
import Derived.Test.YtkpamgabhlplfaaPart1
import Derived.Test.YtkpamgabhlplfaaPart4
import Derived.Maps.AppendAt
namespace Go.Proofs.Ytkpamgabhlplfaa
open Go.RowKit Go.Siskin

/-- A form inside the program: its kind (1 an identifier, 2 an atom, 3 a list, 4 a list with an end), and what it has. -/
structure Im where
  kind : Nat
  text : ByteArray
  scopes : List Int
  frm : Int
  parts : List Im
  ends : List Im

def Im.id (t : ByteArray) (sc : List Int) (fr : Int) : Im := ⟨1, t, sc, fr, [], []⟩
def Im.atom (t : ByteArray) : Im := ⟨2, t, [], 0, [], []⟩
def Im.list (ps : List Im) : Im := ⟨3, ⟨#[]⟩, [], 0, ps, []⟩
def Im.dots (ps : List Im) (l : Im) : Im := ⟨4, ⟨#[]⟩, [], 0, ps, [l]⟩
def Im.no : Im := Im.list []

def Im.sz : Im → Nat
  | ⟨_, _, _, _, ps, es⟩ => 1 + (ps.map fun p => p.sz).sum + (es.map fun p => p.sz).sum
def Im.szs (ps : List Im) : Nat := (ps.map Im.sz).sum
theorem Im.sz_eq (p : Im) : p.sz = 1 + Im.szs p.parts + Im.szs p.ends := by
  obtain ⟨k, t, sc, fr, ps, es⟩ := p
  rw [Im.sz]; rfl
theorem Im.szs_cons (p : Im) (r : List Im) : Im.szs (p :: r) = p.sz + Im.szs r := by simp [Im.szs]
theorem Im.szs_get : ∀ (ps : List Im) (i : Nat) (hi : i < ps.length), ps[i].sz ≤ Im.szs ps
  | [], _, hi => absurd hi (Nat.not_lt_zero _)
  | p :: r, 0, _ => by rw [Im.szs_cons]; simp
  | p :: r, i + 1, hi => by
    have := Im.szs_get r i (by simpa using hi)
    simp only [List.getElem_cons_succ, Im.szs_cons]; omega

def InAt (R : Nat → Prop) (w : World) : Im → Value → Prop
  | ⟨k, t, sc, fr, ps, es⟩, v =>
    (k = 1 ∧ ps = [] ∧ es = [] ∧ ∃ c2, v = .iface 120 (.agg #[.string t, c2, .int .i64 fr]) ∧ t.size ≤ maxLen ∧ IntsAt R w c2 sc) ∨
    (k = 2 ∧ sc = [] ∧ fr = 0 ∧ ps = [] ∧ es = [] ∧ v = .iface 136 (.agg #[.string t]) ∧ t.size ≤ maxLen) ∨
    (∃ a cap, ps.length ≤ maxLen ∧ t = ⟨#[]⟩ ∧ sc = [] ∧ fr = 0 ∧
      (ps = [] ∨ ∃ b o, a = some ⟨b, o, none⟩ ∧ R b ∧ ∀ (i : Nat) (hi : i < ps.length), ∃ x, w.cell? ⟨b, o + i, none⟩ = some x ∧ (have := List.sizeOf_lt_of_mem (List.getElem_mem hi); InAt R w ps[i] x)) ∧
      ((k = 3 ∧ es = [] ∧ v = .iface 141 (.agg #[.slice a ps.length cap])) ∨
       (k = 4 ∧ ∃ e, v = .iface 143 (.agg #[.slice a ps.length cap, e]) ∧ es.length = 1 ∧ ∀ (i : Nat) (hi : i < es.length), (have := List.sizeOf_lt_of_mem (List.getElem_mem hi); InAt R w es[i] e))))
def InRow (R : Nat → Prop) (w : World) (b o : Nat) (ps : List Im) : Prop := ∀ (i : Nat) (hi : i < ps.length), ∃ x, w.cell? ⟨b, o + i, none⟩ = some x ∧ InAt R w ps[i] x

/-- The four kinds, one by one. -/
theorem InAt_kinds (R : Nat → Prop) (w : World) (p : Im) (v : Value) : InAt R w p v ↔
    (∃ t sc fr, p = .id t sc fr ∧ ∃ c2, v = .iface 120 (.agg #[.string t, c2, .int .i64 fr]) ∧ t.size ≤ maxLen ∧ IntsAt R w c2 sc) ∨
    (∃ t, p = .atom t ∧ v = .iface 136 (.agg #[.string t]) ∧ t.size ≤ maxLen) ∨
    (∃ ps, p = .list ps ∧ ∃ a cap, v = .iface 141 (.agg #[.slice a ps.length cap]) ∧ ps.length ≤ maxLen ∧ (ps = [] ∨ ∃ b o, a = some ⟨b, o, none⟩ ∧ R b ∧ InRow R w b o ps)) ∨
    (∃ ps l, p = .dots ps l ∧ ∃ a cap e, v = .iface 143 (.agg #[.slice a ps.length cap, e]) ∧ ps.length ≤ maxLen ∧ (ps = [] ∨ ∃ b o, a = some ⟨b, o, none⟩ ∧ R b ∧ InRow R w b o ps) ∧ InAt R w l e) := by
  obtain ⟨k, t, sc, fr, ps, es⟩ := p
  rw [InAt]
  constructor
  · rintro (⟨rfl, rfl, rfl, h⟩ | ⟨rfl, rfl, rfl, rfl, rfl, h⟩ | ⟨a, cap, h1, rfl, rfl, rfl, h2, ⟨rfl, rfl, h3⟩ | ⟨rfl, e, h3, h4, h5⟩⟩)
    · exact Or.inl ⟨t, sc, fr, rfl, h⟩
    · exact Or.inr (Or.inl ⟨t, rfl, h⟩)
    · exact Or.inr (Or.inr (Or.inl ⟨ps, rfl, a, cap, h3, h1, h2⟩))
    · match es, h4, h5 with
      | [l], _, h5 => exact Or.inr (Or.inr (Or.inr ⟨ps, l, rfl, a, cap, e, h3, h1, h2, h5 0 (by simp)⟩))
  · rintro (⟨t', sc', fr', e, h⟩ | ⟨t', e, h⟩ | ⟨ps', e, a, cap, h1, h2, h3⟩ | ⟨ps', l, e, a, cap, e', h1, h2, h3, h4⟩)
    · simp only [Im.id, Im.mk.injEq] at e
      obtain ⟨rfl, rfl, rfl, rfl, rfl, rfl⟩ := e
      exact Or.inl ⟨rfl, rfl, rfl, h⟩
    · simp only [Im.atom, Im.mk.injEq] at e
      obtain ⟨rfl, rfl, rfl, rfl, rfl, rfl⟩ := e
      exact Or.inr (Or.inl ⟨rfl, rfl, rfl, rfl, rfl, h⟩)
    · simp only [Im.list, Im.mk.injEq] at e
      obtain ⟨rfl, rfl, rfl, rfl, rfl, rfl⟩ := e
      exact Or.inr (Or.inr ⟨a, cap, h2, rfl, rfl, rfl, h3, Or.inl ⟨rfl, rfl, h1⟩⟩)
    · simp only [Im.dots, Im.mk.injEq] at e
      obtain ⟨rfl, rfl, rfl, rfl, rfl, rfl⟩ := e
      refine Or.inr (Or.inr ⟨a, cap, h2, rfl, rfl, rfl, h3, Or.inr ⟨rfl, e', h1, rfl, fun i hi => ?_⟩⟩)
      match i, hi with
      | 0, _ => exact h4

theorem InAt_id {R : Nat → Prop} {w : World} {t : ByteArray} {sc : List Int} {fr : Int} {v : Value} : InAt R w (.id t sc fr) v ↔ ∃ c2, v = .iface 120 (.agg #[.string t, c2, .int .i64 fr]) ∧ t.size ≤ maxLen ∧ IntsAt R w c2 sc := by
  rw [InAt_kinds]
  constructor
  · rintro (⟨t', sc', fr', e, h⟩ | ⟨t', e, h⟩ | ⟨ps', e, h⟩ | ⟨ps', l, e, h⟩)
    · simp only [Im.id, Im.mk.injEq] at e
      obtain ⟨-, rfl, rfl, rfl, -, -⟩ := e
      exact h
    · simp [Im.id, Im.atom] at e
    · simp [Im.id, Im.list] at e
    · simp [Im.id, Im.dots] at e
  · intro h; exact Or.inl ⟨t, sc, fr, rfl, h⟩
theorem InAt_atom {R : Nat → Prop} {w : World} {t : ByteArray} {v : Value} : InAt R w (.atom t) v ↔ v = .iface 136 (.agg #[.string t]) ∧ t.size ≤ maxLen := by
  rw [InAt_kinds]
  constructor
  · rintro (⟨t', sc', fr', e, h⟩ | ⟨t', e, h⟩ | ⟨ps', e, h⟩ | ⟨ps', l, e, h⟩)
    · simp [Im.id, Im.atom] at e
    · simp only [Im.atom, Im.mk.injEq] at e
      obtain ⟨-, rfl, -⟩ := e
      exact h
    · simp [Im.atom, Im.list] at e
    · simp [Im.atom, Im.dots] at e
  · intro h; exact Or.inr (Or.inl ⟨t, rfl, h⟩)
theorem InAt_list {R : Nat → Prop} {w : World} {ps : List Im} {v : Value} : InAt R w (.list ps) v ↔ ∃ a cap, v = .iface 141 (.agg #[.slice a ps.length cap]) ∧ ps.length ≤ maxLen ∧ (ps = [] ∨ ∃ b o, a = some ⟨b, o, none⟩ ∧ R b ∧ InRow R w b o ps) := by
  rw [InAt_kinds]
  constructor
  · rintro (⟨t', sc', fr', e, h⟩ | ⟨t', e, h⟩ | ⟨ps', e, h⟩ | ⟨ps', l, e, h⟩)
    · simp [Im.id, Im.list] at e
    · simp [Im.atom, Im.list] at e
    · simp only [Im.list, Im.mk.injEq] at e
      obtain ⟨-, -, -, -, rfl, -⟩ := e
      exact h
    · simp [Im.list, Im.dots] at e
  · intro h; exact Or.inr (Or.inr (Or.inl ⟨ps, rfl, h⟩))
theorem InAt_dots {R : Nat → Prop} {w : World} {ps : List Im} {l : Im} {v : Value} : InAt R w (.dots ps l) v ↔ ∃ a cap e, v = .iface 143 (.agg #[.slice a ps.length cap, e]) ∧ ps.length ≤ maxLen ∧ (ps = [] ∨ ∃ b o, a = some ⟨b, o, none⟩ ∧ R b ∧ InRow R w b o ps) ∧ InAt R w l e := by
  rw [InAt_kinds]
  constructor
  · rintro (⟨t', sc', fr', e, h⟩ | ⟨t', e, h⟩ | ⟨ps', e, h⟩ | ⟨ps', l', e, h⟩)
    · simp [Im.id, Im.dots] at e
    · simp [Im.atom, Im.dots] at e
    · simp [Im.list, Im.dots] at e
    · simp only [Im.dots, Im.mk.injEq, List.cons.injEq, and_true] at e
      obtain ⟨-, -, -, -, rfl, rfl⟩ := e
      exact h
  · intro h; exact Or.inr (Or.inr (Or.inr ⟨ps, l, rfl, h⟩))

theorem Im.sz_list (ps : List Im) : (Im.list ps).sz = 1 + Im.szs ps := by rw [Im.sz_eq]; simp [Im.list, Im.szs]
theorem Im.sz_dots (ps : List Im) (l : Im) : (Im.dots ps l).sz = 1 + Im.szs ps + l.sz := by rw [Im.sz_eq]; simp [Im.dots, Im.szs]
theorem Im.sz_pos (p : Im) : 0 < p.sz := by have := Im.sz_eq p; omega

theorem in_keep {R : Nat → Prop} {w w' : World} (hb : SameOn R w w') : ∀ (n : Nat) (p : Im), p.sz ≤ n → ∀ {v : Value}, InAt R w p v → InAt R w' p v
  | 0, p, hn, _, _ => by have := Im.sz_pos p; omega
  | n + 1, p, hn, v, h => by
    have row : ∀ (ps : List Im) (b o : Nat), Im.szs ps ≤ n → R b → InRow R w b o ps → InRow R w' b o ps := fun ps b o hs hB h i hi => by
      obtain ⟨x, h1, h2⟩ := h i hi
      exact ⟨x, (hb.cell hB _).trans h1, in_keep hb n _ (by have := Im.szs_get ps i hi; omega) h2⟩
    rw [InAt_kinds] at h ⊢
    rcases h with ⟨t, sc, fr, rfl, c2, h1, h2, h3⟩ | h | ⟨ps, rfl, a, cap, h1, h2, h3⟩ | ⟨ps, l, rfl, a, cap, e, h1, h2, h3, h4⟩
    · exact Or.inl ⟨t, sc, fr, rfl, c2, h1, h2, h3.keep hb⟩
    · exact Or.inr (Or.inl h)
    · refine Or.inr (Or.inr (Or.inl ⟨ps, rfl, a, cap, h1, h2, ?_⟩))
      rw [Im.sz_list] at hn
      rcases h3 with h3 | ⟨b, o, h3, h4, h5⟩
      · exact Or.inl h3
      · exact Or.inr ⟨b, o, h3, h4, row ps b o (by omega) h4 h5⟩
    · rw [Im.sz_dots] at hn
      refine Or.inr (Or.inr (Or.inr ⟨ps, l, rfl, a, cap, e, h1, h2, ?_, in_keep hb n l (by omega) h4⟩))
      rcases h3 with h3 | ⟨b, o, h3, h4, h5⟩
      · exact Or.inl h3
      · exact Or.inr ⟨b, o, h3, h4, row ps b o (by omega) h4 h5⟩
theorem in_mono {R R' : Nat → Prop} {w : World} (hb : ∀ b, R b → R' b) : ∀ (n : Nat) (p : Im), p.sz ≤ n → ∀ {v : Value}, InAt R w p v → InAt R' w p v
  | 0, p, hn, _, _ => by have := Im.sz_pos p; omega
  | n + 1, p, hn, v, h => by
    have row : ∀ (ps : List Im) (b o : Nat), Im.szs ps ≤ n → InRow R w b o ps → InRow R' w b o ps := fun ps b o hs h i hi => by
      obtain ⟨x, h1, h2⟩ := h i hi
      exact ⟨x, h1, in_mono hb n _ (by have := Im.szs_get ps i hi; omega) h2⟩
    rw [InAt_kinds] at h ⊢
    rcases h with ⟨t, sc, fr, rfl, c2, h1, h2, h3⟩ | h | ⟨ps, rfl, a, cap, h1, h2, h3⟩ | ⟨ps, l, rfl, a, cap, e, h1, h2, h3, h4⟩
    · exact Or.inl ⟨t, sc, fr, rfl, c2, h1, h2, h3.mono hb⟩
    · exact Or.inr (Or.inl h)
    · refine Or.inr (Or.inr (Or.inl ⟨ps, rfl, a, cap, h1, h2, ?_⟩))
      rw [Im.sz_list] at hn
      rcases h3 with h3 | ⟨b, o, h3, h4, h5⟩
      · exact Or.inl h3
      · exact Or.inr ⟨b, o, h3, hb b h4, row ps b o (by omega) h5⟩
    · rw [Im.sz_dots] at hn
      refine Or.inr (Or.inr (Or.inr ⟨ps, l, rfl, a, cap, e, h1, h2, ?_, in_mono hb n l (by omega) h4⟩))
      rcases h3 with h3 | ⟨b, o, h3, h4, h5⟩
      · exact Or.inl h3
      · exact Or.inr ⟨b, o, h3, hb b h4, row ps b o (by omega) h5⟩

theorem InAt.keep {R : Nat → Prop} {w w' : World} (hb : SameOn R w w') (p : Im) {v : Value} (h : InAt R w p v) : InAt R w' p v := in_keep hb p.sz p (Nat.le_refl _) h
theorem InAt.mono {R R' : Nat → Prop} {w : World} (hb : ∀ b, R b → R' b) (p : Im) {v : Value} (h : InAt R w p v) : InAt R' w p v := in_mono hb p.sz p (Nat.le_refl _) h
theorem InRow.keep {R : Nat → Prop} {w w' : World} (hb : SameOn R w w') {b : Nat} (hB : R b) (ps : List Im) {o : Nat} (h : InRow R w b o ps) : InRow R w' b o ps := fun i hi => by
  obtain ⟨x, h1, h2⟩ := h i hi
  exact ⟨x, (hb.cell hB _).trans h1, InAt.keep hb _ h2⟩
theorem InRow.mono {R R' : Nat → Prop} {w : World} (hb : ∀ b, R b → R' b) {b : Nat} (ps : List Im) {o : Nat} (h : InRow R w b o ps) : InRow R' w b o ps := fun i hi => by
  obtain ⟨x, h1, h2⟩ := h i hi
  exact ⟨x, h1, InAt.mono hb _ h2⟩
theorem InRow.get {R : Nat → Prop} {w : World} {b : Nat} (ps : List Im) {o : Nat} (h : InRow R w b o ps) (i : Nat) (hi : i < ps.length) : ∃ v, w.cell? ⟨b, o + i, none⟩ = some v ∧ InAt R w ps[i] v := h i hi
theorem InRow.mk {R : Nat → Prop} {w : World} {b : Nat} (ps : List Im) {o : Nat} (h : ∀ (i : Nat) (hi : i < ps.length), ∃ v, w.cell? ⟨b, o + i, none⟩ = some v ∧ InAt R w ps[i] v) : InRow R w b o ps := h
/-- A value behind the interface is one cell. -/
theorem InAt.iface {R : Nat → Prop} {w : World} {p : Im} {v : Value} (h : InAt R w p v) : ∃ t x, v = .iface t x := by
  rw [InAt_kinds] at h
  rcases h with ⟨t, sc, fr, rfl, c2, h1, h2, h3⟩ | ⟨t, rfl, h1, h2⟩ | ⟨ps, rfl, a, cap, h1, h2, h3⟩ | ⟨ps, l, rfl, a, cap, e, h1, h2, h3, h4⟩ <;> exact ⟨_, _, h1⟩

/-- What an ok form comes to inside the program. -/
def toIm : Fm → Im
  | ⟨s, t, sc, fr, ks⟩ => if s = 1 then .id t sc fr else if s = 2 then .atom t else if s = 3 then .list (ks.map fun k => toIm k) else .dots (ks.map fun k => toIm k).dropLast ((ks.map fun k => toIm k).getD ((ks.map fun k => toIm k).length - 1) Im.no)
def toIms (ks : List Fm) : List Im := ks.map toIm

theorem toIms_length (ks : List Fm) : (toIms ks).length = ks.length := by simp [toIms]
theorem toIms_get (ks : List Fm) (i : Nat) (hi : i < ks.length) : (toIms ks)[i]'(by rw [toIms_length]; exact hi) = toIm ks[i] := by simp [toIms]
theorem toIm_id (f : Fm) (h : f.sort = 1) : toIm f = .id f.text f.scopes f.frm := by obtain ⟨s, t, sc, fr, ks⟩ := f; rw [toIm, if_pos h]
theorem toIm_atom (f : Fm) (h : f.sort = 2) : toIm f = .atom f.text := by
  obtain ⟨s, t, sc, fr, ks⟩ := f
  have h1 : s = 2 := h
  rw [toIm, if_neg (by omega), if_pos h]
theorem toIm_list (f : Fm) (h : f.sort = 3) : toIm f = .list (toIms f.kids) := by
  obtain ⟨s, t, sc, fr, ks⟩ := f
  have h1 : s = 3 := h
  rw [toIm, if_neg (by omega), if_neg (by omega), if_pos h]; rfl
theorem toIm_dots (f : Fm) (h : f.sort = 4) : toIm f = .dots (toIms f.kids).dropLast ((toIms f.kids).getD ((toIms f.kids).length - 1) Im.no) := by
  obtain ⟨s, t, sc, fr, ks⟩ := f
  have h1 : s = 4 := h
  rw [toIm, if_neg (by omega), if_neg (by omega), if_neg (by omega)]; rfl

end Go.Proofs.Ytkpamgabhlplfaa

namespace Go.Siskin
def Reg (B : Nat → Prop) (w w' : World) (b : Nat) : Prop := B b ∨ (w.heap.size ≤ b ∧ b < w'.heap.size)
end Go.Siskin

namespace Go.Proofs.Ytkpamgabhlplfaa
open Go.RowKit Go.Siskin

theorem ret_tup {v : Value} {b b' : Bool} (h : b = b') : Ending.returned (.tuple #[v, .bool b]) = .returned (.tuple #[v, .bool b']) := by rw [h]

/-- The world behind a call of the opener whose counter lies in block bo. -/
def Opened (bo : Nat) (w w' : World) (m : Int) : Prop := w.grownBy w' (some bo) ∧ Own w' bo 98 #[.int .i64 m]
def goodB (f : Fm) (d m : Nat) : Bool := okB f d && decide (m + f.sz ≤ 1500)
def goodsB (ks : List Fm) (d m : Nat) : Bool := oksB ks d && decide (m + Fm.szs ks ≤ 1500)

def OpenForm (n : Nat) : Prop := ∀ f : Fm, f.sz ≤ n → ∀ (B : Nat → Prop) (w : World) (c0 c1 c2 c3 c4 : Value) (d m bo : Nat), FormAt B w f c0 c1 c2 c3 c4 → (∀ b, B b → b < w.heap.size ∧ b ≠ bo) → Own w bo 98 #[.int .i64 m] → m ≤ 1500 → d ≤ 61 → f.cost ≤ 1048576 →
    Calls Try.prog 53 #[.pointer (some ⟨bo, 0, none⟩), .agg #[c0, c1, c2, c3, c4], .int .i64 d] w fun e w' => ∃ (m' : Int) (v : Value), Opened bo w w' m' ∧ e = .returned (.tuple #[v, .bool (goodB f d m)]) ∧ (goodB f d m = true → m' = m + f.sz ∧ InAt (Reg B w w') w' (toIm f) v)

set_option maxHeartbeats 1000000 in
theorem hasOnlyKids_any (f : Fm) (B : Nat → Prop) (w : World) (c0 c1 c2 c3 c4 : Value) (hA : FormAt B w f c0 c1 c2 c3 c4) :
    Calls Try.prog 91 #[.agg #[c0, c1, c2, c3, c4]] w fun e w' => e = .returned (.bool (listFormB f)) ∧ Below w.heap.size w w' := by
  obtain ⟨rfl, rfl, ht, h2, rfl, h4⟩ := (formAt_iff _ _ _ _ _ _ _ _).1 hA
  obtain ⟨a2, k2, rfl, hl2, -⟩ := h2
  obtain ⟨a4, k4, rfl, hl4, -⟩ := h4
  have HX : Hid (listFormB f = (f.text.toList.isEmpty && ((f.scopes.length : Int) == 0) && (f.frm == 0))) := by
    show _ = _
    unfold listFormB
    rw [tl_empty, empty_size]
    have e1 : ((f.scopes.length : Int) == 0) = decide (f.scopes.length = 0) := by rw [Bool.eq_iff_iff, beq_iff_eq, decide_eq_true_eq]; omega
    have e2 : (f.frm == 0) = decide (f.frm = 0) := by rw [Bool.eq_iff_iff, beq_iff_eq, decide_eq_true_eq]
    rw [e1, e2]
    cases decide (f.text.size = 0) <;> cases decide (f.scopes.length = 0) <;> cases decide (f.frm = 0) <;> rfl
  unfold maxLen at hl2
  clear hA
  cases e1 : f.text.toList.isEmpty with
  | false =>
    go_enter Try.func91, Try.ntmps91
    go_wp2_with fail
    go_ret
    exact ⟨ret_bool (by rw [HX.out, e1]; rfl), (Below.refl _ _).alloc (Nat.le_refl _) _⟩
  | true =>
  cases e2 : ((f.scopes.length : Int) == 0) with
  | false =>
    go_enter Try.func91, Try.ntmps91
    go_wp2_with fail
    go_ret
    exact ⟨ret_bool (by rw [HX.out, e2]; simp), (Below.refl _ _).alloc (Nat.le_refl _) _⟩
  | true =>
    go_enter Try.func91, Try.ntmps91
    go_wp2_with fail
    go_ret
    exact ⟨ret_bool (by rw [HX.out, e1, e2]; rfl), (Below.refl _ _).alloc (Nat.le_refl _) _⟩

/-- The world behind the count of one more form, the form's own box laid. -/
def world1 (w : World) (bo m : Nat) (o : Obj) : World := (w.setCell ⟨bo, 0, none⟩ (.int .i64 (m + 1))).alloc o
theorem world1_same {B : Nat → Prop} {w : World} {bo : Nat} (hB : ∀ b, B b → b < w.heap.size ∧ b ≠ bo) (m : Nat) (o : Obj) : SameOn B w (world1 w bo m o) :=
  ((SameOn.refl B w).setCell (fun h => (hB _ h).2 rfl) _).alloc (fun b hb => by have := (hB b hb).1; simp; omega) _
theorem world1_size (w : World) (bo m : Nat) (o : Obj) : (world1 w bo m o).heap.size = w.heap.size + 1 := by simp [world1]
theorem world1_grown (w : World) (bo m : Nat) (o : Obj) : w.grownBy (world1 w bo m o) (some bo) := by
  refine ⟨rfl, rfl, rfl, by rw [world1_size]; omega, fun k hk hne => ?_⟩
  unfold world1
  rw [Below.heap_alloc _ _ _ (by simpa using hk)]
  exact Below.heap_setCell _ _ _ _ (fun e => hne (by rw [e]))
theorem world1_own {w : World} {bo m : Nat} (ho : Own w bo 98 #[.int .i64 m]) (o : Obj) : Own (world1 w bo m o) bo 98 #[.int .i64 (m + 1)] := by
  have h := ho.set 0 (.int .i64 (m + 1))
  have hlt := h.lt
  refine (Below.heap_alloc _ _ _ hlt).trans ?_
  exact h
theorem grown_below {bo : Nat} {w w1 w2 : World} (h : w.grownBy w1 (some bo)) (hb : Below w1.heap.size w1 w2) : w.grownBy w2 (some bo) :=
  ⟨hb.os.trans h.os, hb.tape.trans h.tape, hb.output.trans h.output, Nat.le_trans h.size hb.size, fun k hk hne => (hb.block k (Nat.lt_of_lt_of_le hk h.size)).trans (h.block k hk hne)⟩
theorem opened1 {w w2 : World} {bo m : Nat} {o : Obj} (ho : Own w bo 98 #[.int .i64 m]) (hb : Below (world1 w bo m o).heap.size (world1 w bo m o) w2) : Opened bo w w2 (m + 1) :=
  ⟨grown_below (world1_grown w bo m o) hb, (world1_own ho o).keep hb (world1_own ho o).lt⟩

theorem goodB_id {f : Fm} {d m : Nat} (hm : m < 1500) (hd : d ≤ 60) (hs : f.sort = 1) : goodB f d m = idFormB f := by
  unfold goodB
  rw [okB_id f d hd hs]
  cases h : idFormB f with
  | false => rfl
  | true =>
    unfold idFormB at h
    simp only [Bool.and_eq_true, decide_eq_true_eq] at h
    have h1 := Fm.sz_kids f
    have h2 : f.kids = [] := List.eq_nil_of_length_eq_zero h.2
    rw [h2] at h1
    rw [Fm.szs_nil] at h1
    rw [decide_eq_true (by omega)]; rfl
theorem goodB_atom {f : Fm} {d m : Nat} (hm : m < 1500) (hd : d ≤ 60) (hs : f.sort = 2) : goodB f d m = atomFormB f := by
  unfold goodB
  rw [okB_atom f d hd hs]
  cases h : atomFormB f with
  | false => rfl
  | true =>
    unfold atomFormB at h
    simp only [Bool.and_eq_true, decide_eq_true_eq] at h
    have h1 := Fm.sz_kids f
    have h2 : f.kids = [] := List.eq_nil_of_length_eq_zero (by omega)
    rw [h2] at h1
    rw [Fm.szs_nil] at h1
    rw [decide_eq_true (by omega)]; rfl
theorem sz_one {f : Fm} (h : f.kids.length = 0) : f.sz = 1 := by
  have h1 := Fm.sz_kids f
  rw [List.eq_nil_of_length_eq_zero h] at h1
  simpa [Fm.szs] using h1

set_option maxRecDepth 20000 in
set_option maxHeartbeats 1000000 in
theorem openF_id (f : Fm) (B : Nat → Prop) (w : World) (c0 c1 c2 c3 c4 : Value) (d m bo : Nat) (hA : FormAt B w f c0 c1 c2 c3 c4) (hB : ∀ b, B b → b < w.heap.size ∧ b ≠ bo) (ho : Own w bo 98 #[.int .i64 m]) (hm : m < 1500) (hd : d ≤ 60) (hs : f.sort = 1) :
    Calls Try.prog 53 #[.pointer (some ⟨bo, 0, none⟩), .agg #[c0, c1, c2, c3, c4], .int .i64 d] w fun e w' => ∃ (m' : Int) (v : Value), Opened bo w w' m' ∧ e = .returned (.tuple #[v, .bool (goodB f d m)]) ∧ (goodB f d m = true → m' = m + f.sz ∧ InAt (Reg B w w') w' (toIm f) v) := by
  obtain ⟨rfl, rfl, ht, h2, rfl, h4⟩ := (formAt_iff _ _ _ _ _ _ _ _).1 hA
  have q0 := ho.cell 0
  have f0 := ho.frozen 0
  simp at q0
  have hlt := ho.lt
  rw [hs] at hA ⊢
  have HA := hid hA
  have H2 := hid h2
  obtain ⟨a2, k2, rfl, -⟩ := h2
  obtain ⟨a4, k4, rfl, -⟩ := h4
  have HR := hid hB
  have HO := hid ho
  have HG := hid (goodB_id hm hd hs)
  have HT := hid (toIm_id f hs)
  have HS := hid hs
  clear hA hB ho hs
  go_enter Try.func53, Try.ntmps53
  go_wp2_with fail
  refine (openId_any f B (world1 w bo m _) _ _ _ _ _ (FormAt.keep (world1_same HR.out m _) f HA.out) (fun b hb => by have := (HR.out b hb).1; rw [world1_size]; omega) HS.out).mono ?_
  rintro e w2 ⟨h1, h2, hw⟩
  have HW := hid hw
  clear hw
  cases hi : idFormB f with
  | true =>
    have HI := hid hi
    rw [h1 hi]
    clear h1 h2 hi
    go_wp2_with fail
    go_ret2
    refine ⟨m + 1, _, opened1 HO.out HW.out, ret_tup (by rw [HG.out, HI.out]), fun _ => ⟨?_, ?_⟩⟩
    · have h := HI.out
      unfold idFormB at h
      simp only [Bool.and_eq_true, decide_eq_true_eq] at h
      rw [sz_one h.2]; rfl
    · rw [HT.out]
      rw [InAt_id]
      refine ⟨_, rfl, ht, (H2.out.keep ?_).mono (fun b hb => Or.inl hb)⟩
      exact (world1_same HR.out m _).below HW.out (fun b hb => by have := (HR.out b hb).1; rw [world1_size]; omega)
  | false =>
    have HI := hid hi
    rw [h2 hi]
    clear h1 h2 hi
    go_wp2_with fail
    go_ret2
    exact ⟨m + 1, _, opened1 HO.out HW.out, ret_tup (by rw [HG.out, HI.out]), fun h => absurd (h.symm.trans (HG.out.trans HI.out)) (by decide)⟩

set_option maxRecDepth 20000 in
set_option maxHeartbeats 1000000 in
theorem openF_atom (f : Fm) (B : Nat → Prop) (w : World) (c0 c1 c2 c3 c4 : Value) (d m bo : Nat) (hA : FormAt B w f c0 c1 c2 c3 c4) (hB : ∀ b, B b → b < w.heap.size ∧ b ≠ bo) (ho : Own w bo 98 #[.int .i64 m]) (hm : m < 1500) (hd : d ≤ 60) (hs : f.sort = 2) :
    Calls Try.prog 53 #[.pointer (some ⟨bo, 0, none⟩), .agg #[c0, c1, c2, c3, c4], .int .i64 d] w fun e w' => ∃ (m' : Int) (v : Value), Opened bo w w' m' ∧ e = .returned (.tuple #[v, .bool (goodB f d m)]) ∧ (goodB f d m = true → m' = m + f.sz ∧ InAt (Reg B w w') w' (toIm f) v) := by
  obtain ⟨rfl, rfl, ht, h2, rfl, h4⟩ := (formAt_iff _ _ _ _ _ _ _ _).1 hA
  have q0 := ho.cell 0
  have f0 := ho.frozen 0
  simp at q0
  have hlt := ho.lt
  rw [hs] at hA ⊢
  have HA := hid hA
  have H2 := hid h2
  obtain ⟨a2, k2, rfl, -⟩ := h2
  obtain ⟨a4, k4, rfl, -⟩ := h4
  have HR := hid hB
  have HO := hid ho
  have HG := hid (goodB_atom hm hd hs)
  have HT := hid (toIm_atom f hs)
  clear hA hB ho hs
  go_enter Try.func53, Try.ntmps53
  go_wp2_with fail
  refine (openAtom_any f B (world1 w bo m _) _ _ _ _ _ (FormAt.keep (world1_same HR.out m _) f HA.out)).mono ?_
  rintro e w2 ⟨h1, h2, hw⟩
  have HW := hid hw
  clear hw
  cases hi : atomFormB f with
  | true =>
    have HI := hid hi
    rw [h1 hi]
    clear h1 h2 hi
    go_wp2_with fail
    go_ret2
    refine ⟨m + 1, _, opened1 HO.out HW.out, ret_tup (by rw [HG.out, HI.out]), fun _ => ⟨?_, ?_⟩⟩
    · have h := HI.out
      unfold atomFormB at h
      simp only [Bool.and_eq_true, decide_eq_true_eq] at h
      rw [sz_one (by omega)]; rfl
    · rw [HT.out]
      rw [InAt_atom]
      exact ⟨rfl, ht⟩
  | false =>
    have HI := hid hi
    rw [h2 hi]
    clear h1 h2 hi
    go_wp2_with fail
    go_ret2
    exact ⟨m + 1, _, opened1 HO.out HW.out, ret_tup (by rw [HG.out, HI.out]), fun h => absurd (h.symm.trans (HG.out.trans HI.out)) (by decide)⟩

end Go.Proofs.Ytkpamgabhlplfaa

namespace Go.Proofs.Ytkpamgabhlplfaa
open Go.RowKit Go.Siskin

theorem Try.infoIface : (Try.prog.info? 60).map (fun i => (i.zero, i.size, i.bytes)) = some (some .nilIface, 1, 16) := by kernel_rfl

def OpenForms (n : Nat) : Prop := ∀ ks : List Fm, Fm.szs ks ≤ n → ∀ (B : Nat → Prop) (w : World) (v : Value) (d m bo : Nat), FormsAt B w v ks → (∀ b, B b → b < w.heap.size ∧ b ≠ bo) → Own w bo 98 #[.int .i64 m] → m ≤ 1500 → d ≤ 61 → ks.length + Fm.costs ks ≤ 1048576 →
    Calls Try.prog 92 #[.pointer (some ⟨bo, 0, none⟩), v, .int .i64 d] w fun e w' => ∃ (m' : Int) (a : Option Addr) (len cap : Nat), Opened bo w w' m' ∧ e = .returned (.tuple #[.slice a len cap, .bool (goodsB ks d m)]) ∧
      (goodsB ks d m = true → m' = m + Fm.szs ks ∧ len = ks.length ∧ len ≤ cap ∧ (ks = [] ∨ ∃ g, a = some ⟨g, 0, none⟩ ∧ Reg B w w' g ∧ InRow (Reg B w w') w' g 0 (toIms ks)))

/-- The blocks in which what was opened so far may lie: old ones, and new ones but the row's own. -/
def Reg2 (B : Nat → Prop) (w wr : World) (v : Value) (b : Nat) : Prop := B b ∨ (w.heap.size ≤ b ∧ b < wr.heap.size ∧ v.ownBlock ≠ some b)

theorem ownsRow_grown {w w' : World} {base : Nat} {e : TypeId} {v : Value} {n : Nat} {xs : List Value} {row : Option Nat} (h : w.ownsRow base e 1 v n xs) (hg : w.grownBy w' row) (hr : ∀ k, row = some k → k < base) : w'.ownsRow base e 1 v n xs := by
  obtain ⟨h1, h2⟩ := h
  refine ⟨h1, ?_⟩
  rcases h2 with h2 | ⟨g, cap, cur, e1, e2, e3, e4⟩
  · exact Or.inl h2
  · refine Or.inr ⟨g, cap, cur, e1, e2, ?_, e4⟩
    rw [← e3]
    exact hg.block g (Array.getElem?_eq_some_iff.1 e3).1 (fun e => by have := hr g e.symm; omega)
theorem ownsRow_alloc {w : World} {base : Nat} {e : TypeId} {v : Value} {n : Nat} {xs : List Value} (h : w.ownsRow base e 1 v n xs) (o : Obj) : (w.alloc o).ownsRow base e 1 v n xs :=
  ownsRow_grown h (World.grownBy_alloc w o none) (fun _ e => by cases e)
/-- The row's own block is a new one. -/
theorem ownsRow_block {w : World} {base : Nat} {e : TypeId} {v : Value} {n : Nat} {xs : List Value} (h : w.ownsRow base e 1 v n xs) {b : Nat} (hb : v.ownBlock = some b) : base ≤ b ∧ b < w.heap.size := by
  rcases h.2 with h2 | ⟨g, cap, cur, e1, e2, e3, e4⟩
  · rw [h2.1] at hb; cases hb
  · rw [e1] at hb
    simp only [Value.ownBlock, Option.some.injEq] at hb
    subst hb
    exact ⟨e2, (Array.getElem?_eq_some_iff.1 e3).1⟩

/-- What stands after k kids have been opened. -/
structure AllRel (B : Nat → Prop) (w : World) (bo d m : Nat) (ks : List Fm) (k : Nat) (v : Value) (wr : World) : Prop where
  ok : oksB (ks.take k) d = true
  le : m + Fm.szs (ks.take k) ≤ 1500
  opened : Opened bo w wr ((m + Fm.szs (ks.take k) : Nat) : Int)
  vals : ∃ xs : List Value, wr.ownsRow w.heap.size 60 1 v k xs ∧ ∀ j (hj : j < ks.length), j < k → ∃ x, xs[j]? = some x ∧ InAt (Reg2 B w wr v) wr (toIm ks[j]) x

theorem grown_on {R : Nat → Prop} {a w w' : World} {row : Option Nat} (h : SameOn R a w) (hg : w.grownBy w' row) (hR : ∀ b, R b → b < w.heap.size ∧ some b ≠ row) : SameOn R a w' :=
  fun b hb => (hg.block b (hR b hb).1 (hR b hb).2).trans (h b hb)

/-- One kid more. -/
theorem all_step {B : Nat → Prop} {w wr w1 w2 : World} {bo d m k : Nat} {ks : List Fm} {v v' part : Value} {o o' : Obj} {xs : List Value} (hB : ∀ b, B b → b < w.heap.size ∧ b ≠ bo) (hbo : bo < w.heap.size) (hlt : k < ks.length)
    (ok : oksB (ks.take k) d = true) (opened : Opened bo w wr ((m + Fm.szs (ks.take k) : Nat) : Int))
    (hown : wr.ownsRow w.heap.size 60 1 v k xs) (hvals : ∀ j (hj : j < ks.length), j < k → ∃ x, xs[j]? = some x ∧ InAt (Reg2 B w wr v) wr (toIm ks[j]) x)
    (hgood : goodB ks[k] d (m + Fm.szs (ks.take k)) = true) (h1 : Opened bo (wr.alloc o) w1 (((m + Fm.szs (ks.take k) : Nat) : Int) + ks[k].sz)) (hin : InAt (Reg B (wr.alloc o) w1) w1 (toIm ks[k]) part)
    (hown' : w2.ownsRow w.heap.size 60 1 v' (k + 1) (xs ++ [part])) (hg : (w1.alloc o').grownBy w2 v.ownBlock) (hb : v'.ownBlock = v.ownBlock ∨ v'.ownBlock = some (w1.alloc o').heap.size) :
    AllRel B w bo d m ks (k + 1) v' w2 := by
  have hgd := hgood
  unfold goodB at hgd
  rw [Bool.and_eq_true, decide_eq_true_eq] at hgd
  have hszs := Fm.szs_take ks k hlt
  have s0 := opened.1.size
  have s1 := h1.1.size
  have s2 := hg.size
  simp only [World.size_alloc] at s1 s2
  have hvb : ∀ b, v.ownBlock = some b → w.heap.size ≤ b ∧ b < wr.heap.size := fun b hb => ownsRow_block hown hb
  have hlen : xs.length = k := by have := hown.1; omega
  refine ⟨?_, by omega, ?_, xs ++ [part], hown', ?_⟩
  · rw [oksB_take ks k d hlt, ok, hgd.1]; rfl
  · refine ⟨⟨hg.os.trans (h1.1.os.trans opened.1.os), hg.tape.trans (h1.1.tape.trans opened.1.tape), hg.output.trans (h1.1.output.trans opened.1.output), by omega, fun b hb1 hb2 => ?_⟩, ?_⟩
    · rw [hg.block b (by simp only [World.size_alloc]; omega) (fun e => by have := hvb b e.symm; omega), Below.heap_alloc _ _ _ (by omega), h1.1.block b (by simp only [World.size_alloc]; omega) hb2, Below.heap_alloc _ _ _ (by omega)]
      exact opened.1.block b hb1 hb2
    · have e : ((m + Fm.szs (ks.take (k + 1)) : Nat) : Int) = ((m + Fm.szs (ks.take k) : Nat) : Int) + ks[k].sz := by omega
      rw [e]
      refine (hg.block bo (by simp only [World.size_alloc]; omega) (fun e => by have := hvb bo e.symm; omega)).trans ((Below.heap_alloc _ _ _ (by omega)).trans h1.2)
  · intro j hj hjk
    by_cases e : j = k
    · subst e
      refine ⟨part, by rw [List.getElem?_append_right (by omega), hlen, Nat.sub_self]; rfl, InAt.mono ?_ _ (InAt.keep ?_ _ hin)⟩
      · intro b h
        rcases h with h | h
        · exact Or.inl h
        · refine Or.inr ⟨by have := h.1; simp only [World.size_alloc] at this; omega, by have := h.2; omega, ?_⟩
          rcases hb with hb | hb
          · rw [hb]; intro e; have := hvb b e; have := h.1; simp only [World.size_alloc] at this; omega
          · rw [hb]; intro e; have e := Option.some.inj e; have := h.2; simp only [World.size_alloc] at e; omega
      · refine grown_on ((SameOn.refl _ _).alloc ?_ _) hg ?_
        · intro b h
          rcases h with h | h
          · have := (hB b h).1; omega
          · exact h.2
        · intro b h
          simp only [World.size_alloc]
          rcases h with h | h
          · refine ⟨by have := (hB b h).1; omega, fun e => ?_⟩
            have := hvb b e.symm; have := (hB b h).1; omega
          · refine ⟨by have := h.2; omega, fun e => ?_⟩
            have := hvb b e.symm; have := h.1; simp only [World.size_alloc] at this; omega
    · obtain ⟨x, hx, hix⟩ := hvals j hj (by omega)
      refine ⟨x, by rw [List.getElem?_append_left (by omega)]; exact hx, InAt.mono ?_ _ (InAt.keep ?_ _ hix)⟩
      · intro b h
        rcases h with h | ⟨a1, a2, a3⟩
        · exact Or.inl h
        · refine Or.inr ⟨a1, by omega, ?_⟩
          rcases hb with hb | hb
          · rw [hb]; exact a3
          · rw [hb]; intro e; have e := Option.some.inj e; simp only [World.size_alloc] at e; omega
      · refine grown_on ((grown_on ((SameOn.refl _ _).alloc ?_ _) h1.1 ?_).alloc ?_ _) hg ?_
        · intro b h
          rcases h with h | ⟨a1, a2, a3⟩
          · have := (hB b h).1; omega
          · exact a2
        · intro b h
          simp only [World.size_alloc]
          rcases h with h | ⟨a1, a2, a3⟩
          · exact ⟨by have := (hB b h).1; omega, fun e => (hB b h).2 (Option.some.inj e)⟩
          · exact ⟨by omega, fun e => by have := Option.some.inj e; omega⟩
        · intro b h
          rcases h with h | ⟨a1, a2, a3⟩
          · have := (hB b h).1; omega
          · omega
        · intro b h
          simp only [World.size_alloc]
          rcases h with h | ⟨a1, a2, a3⟩
          · refine ⟨by have := (hB b h).1; omega, fun e => ?_⟩
            have := hvb b e.symm; have := (hB b h).1; omega
          · exact ⟨by omega, fun e => a3 e.symm⟩

end Go.Proofs.Ytkpamgabhlplfaa

namespace Go.Proofs.Ytkpamgabhlplfaa
open Go.RowKit Go.Siskin

theorem goods_bad {ks : List Fm} {d m k : Nat} (hlt : k < ks.length) (h : goodB ks[k] d (m + Fm.szs (ks.take k)) = false) : false = goodsB ks d m := by
  unfold goodB at h
  unfold goodsB
  cases h1 : okB ks[k] d with
  | false => rw [oksB_bad ks k d hlt h1]; rfl
  | true =>
    rw [h1, Bool.true_and, decide_eq_false_iff_not] at h
    have h2 := Fm.szs_take ks k hlt
    have h3 := Fm.szs_take_le ks (k + 1)
    rw [decide_eq_false (p := m + Fm.szs ks ≤ 1500) (by omega)]; simp

theorem one_cell (w : World) (v : Value) (t : TypeId) : ∀ (j : Nat) u, [v][j]? = some u → (w.alloc (.cells #[v] t)).cell? ((⟨w.heap.size, 0, none⟩ : Addr).add j) = some u := by
  intro j u hj
  match j, hj with
  | 0, hj => simp at hj; subst hj; simp [Addr.add]

set_option maxRecDepth 20000 in
set_option maxHeartbeats 2000000 in
theorem openForms_of (n : Nat) (ih : OpenForm n) : OpenForms n := by
  intro ks hks B w v d m bo hv hB ho hm hd hc
  obtain ⟨a, ca, rfl, hla, ha⟩ := hv
  unfold maxLen at hla
  obtain ⟨i, hi, hz0, hz1, hz2⟩ := info_parts Try.infoIface
  have Hi := hid hi
  have Hz0 := hid hz0
  have Hz1 := hid hz1
  have Hz2 := hid hz2
  have HI := hid ih
  have HR := hid hB
  have HO := hid ho
  have hbo := ho.lt
  clear hi hz0 hz1 hz2 ih hB ho
  go_enter Try.func92, Try.ntmps92
  go_wp2_with fail
  go_loopw [8, 15] (fun v i wr => ∃ k : Nat, k ≤ ks.length ∧ i = .int .i64 k ∧ Hid (AllRel B w bo d m ks k v wr)) (fun _ i _ => ks.length - (intOf i).toNat)
  case atStart =>
    refine ⟨0, Nat.zero_le _, rfl, by simp [oksB], by simpa [Fm.szs] using hm, ⟨World.grownBy.refl _ _, by simpa [Fm.szs] using HO.out⟩, [], World.ownsRow_nil _ _ _ _, fun j _ hj => absurd hj (by omega)⟩
  case round =>
    obtain ⟨k, hk, rfl, HA⟩ := hrel
    by_cases hlt : k < ks.length
    · rcases ha with ha | ⟨ba, oa, rfl, hb, ha⟩
      · subst ha; simp at hlt
      have hsz := HA.out.opened.1.size
      have hsame : SameOn B w wr := grown_on (SameOn.refl _ _) HA.out.opened.1 (fun b hb => ⟨(HR.out b hb).1, fun e => (HR.out b hb).2 (Option.some.inj e)⟩)
      obtain ⟨c0, c1, c2, c3, c4, g0, g1, g2, g3, g4, hf⟩ := RowAt.get ks (RowAt.keep hsame hb ks ha) k hlt
      have HC := hid (HI.out ks[k] (Nat.le_trans (Fm.szs_get ks k hlt) hks) B (wr.alloc (.cells #[c0, c1, c2, c3, c4] 30)) c0 c1 c2 c3 c4 d (m + Fm.szs (ks.take k)) bo (FormAt.keep ((SameOn.refl _ _).alloc (fun b hb => by have := (HR.out b hb).1; omega) _) _ hf) (fun b hb => ⟨by have := (HR.out b hb).1; simp; omega, (HR.out b hb).2⟩) ((Below.heap_alloc _ _ _ (by have := HA.out.opened.1.size; omega)).trans HA.out.opened.2) HA.out.le hd (by have := Fm.costs_get ks k hlt; omega))
      obtain ⟨rfl, rfl, -, h2, rfl, h4⟩ := (formAt_iff _ _ _ _ _ _ _ _).1 hf
      obtain ⟨a2, k2, rfl, -⟩ := h2
      obtain ⟨a4, k4, rfl, -⟩ := h4
      clear ha hf HI hsame
      go_wp2_with fail
      refine HC.out.mono ?_
      rintro e w1 ⟨m', part, hop, rfl, hgo⟩
      have HOP := hid hop
      have HGO := hid hgo
      clear hop hgo HC
      cases hgd : goodB ks[k] d (m + Fm.szs (ks.take k)) with
      | false =>
        have HX := hid (goods_bad hlt hgd)
        go_wp2_with fail
        go_ret2
        have h1 := HOP.out
        have h0 := HA.out.opened
        refine ⟨m', none, 0, 0, ⟨⟨h1.1.os.trans h0.1.os, h1.1.tape.trans h0.1.tape, h1.1.output.trans h0.1.output, by have := h1.1.size; simp at this; omega, fun b hb1 hb2 => ?_⟩, h1.2⟩, ret_tup HX.out, fun h => absurd (HX.out.trans h) (by decide)⟩
        rw [h1.1.block b (by simp; omega) hb2, Below.heap_alloc _ _ _ (by omega)]
        exact h0.1.block b hb1 hb2
      | true =>
        obtain ⟨xs, hown, hvals⟩ := HA.out.vals
        have HGD := hid hgd
        obtain ⟨t, x, hpart⟩ := InAt.iface (HGO.out hgd).2
        subst hpart
        have HV := hid hvals
        have HW := hid hown
        have hs1 := HOP.out.1.size
        simp only [World.size_alloc] at hs1
        have hz1 : w.heap.size ≤ w1.heap.size := by omega
        clear hvals hown
        go_wp2_with (at_builtin; refine wpList_append_own_at _ rfl _ _ 137 rfl w.heap.size 60 i .nilIface 1 16 Try.underlying137 Hi.out Hz0.out Hz1.out Hz2.out rfl (by decide) _ k xs rfl (ownsRow_alloc (ownsRow_grown (ownsRow_alloc HW.out _) HOP.out.1 (fun b e => by have := Option.some.inj e; omega)) _) ⟨w1.heap.size, 0, none⟩ 1 1 [.iface t x] rfl rfl (one_cell _ _ _) (by intro u hu; simp at hu; subst hu; rfl) (by unfold maxLen; omega) (by omega) (by simp; omega) ?_; intro v' w2 hown' hg hnil hb')
        have h2 := HGO.out HGD.out
        have hop := HOP.out
        rw [h2.1] at hop
        exact ⟨⟨k + 1, by omega, by go_num, all_step HR.out hbo hlt HA.out.ok HA.out.opened HW.out HV.out HGD.out hop h2.2 hown' hg hb'⟩, by simp [intOf]; omega⟩
    · have e : k = ks.length := by omega
      obtain ⟨xs, hown, hvals⟩ := HA.out.vals
      have HOK := hid HA.out.ok
      have HLE := hid HA.out.le
      have HOP := hid HA.out.opened
      subst e
      have HV := hid hvals
      have HW := hid hown
      rw [List.take_length] at HOK HLE HOP
      have HX : Hid (true = goodsB ks d m) := by
        show _ = _
        unfold goodsB; rw [HOK.out, decide_eq_true HLE.out]; rfl
      rcases hown.2 with ⟨rfl, h0⟩ | ⟨g, cap, cur, rfl, e2, e3, e4, e5, e6, e7⟩
      · clear hvals hown
        go_wp2_with fail
        go_ret2
        refine ⟨_, none, 0, 0, HOP.out, ret_tup HX.out, fun _ => ⟨by omega, by omega, by omega, Or.inl (List.eq_nil_of_length_eq_zero h0)⟩⟩
      · have HE := hid e3
        have HE7 := hid e7
        have hlt2 := (Array.getElem?_eq_some_iff.1 e3).1
        clear hvals hown e3 e7
        go_wp2_with fail
        go_ret2
        refine ⟨_, _, _, _, HOP.out, ret_tup HX.out, fun _ => ⟨by omega, rfl, e4, Or.inr ⟨g, rfl, Or.inr ⟨e2, hlt2⟩, InRow.mk _ fun j hj => ?_⟩⟩⟩
        rw [toIms_length] at hj
        obtain ⟨x, hx, hin⟩ := HV.out j hj hj
        refine ⟨x, ?_, ?_⟩
        · rw [Nat.zero_add]
          simp only [World.cell?, HE.out]
          rw [← HE7.out] at hx
          rw [List.getElem?_take, if_pos (by omega)] at hx
          simpa using hx
        · rw [toIms_get ks j hj]
          refine InAt.mono ?_ _ hin
          intro b h
          rcases h with h | ⟨a1, a2, -⟩
          · exact Or.inl h
          · exact Or.inr ⟨a1, a2⟩

end Go.Proofs.Ytkpamgabhlplfaa
