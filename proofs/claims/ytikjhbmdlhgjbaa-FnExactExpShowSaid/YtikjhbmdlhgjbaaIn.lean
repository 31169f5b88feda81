/- A form inside the program (values behind the interface 'form'), as it lies in memory; what an ok form comes to there. -/
import Derived.Test.YtikjhbmdlhgjbaaProg
import Derived.Test.YtikjhbmdlhgjbaaOk
namespace Go.Proofs.Ytikjhbmdlhgjbaa
open Go.RowKit Go.Siskin

/-- A form inside the program. -/
inductive Im where
  | id (text : ByteArray) (scopes : List Int) (frm : Int)
  | atom (text : ByteArray)
  | list (parts : List Im)
  | dots (parts : List Im) (last : Im)

instance : Inhabited Im := ⟨.list []⟩

mutual
def InAt (R : Nat → Prop) (w : World) : Im → Value → Prop
  | .id t sc fr, v => ∃ c2, v = .iface 98 (.agg #[.string t, c2, .int .i64 fr]) ∧ t.size ≤ maxLen ∧ IntsAt R w c2 sc
  | .atom t, v => v = .iface 100 (.agg #[.string t]) ∧ t.size ≤ maxLen
  | .list ps, v => ∃ a cap, v = .iface 105 (.agg #[.slice a ps.length cap]) ∧ ps.length ≤ maxLen ∧ (ps = [] ∨ ∃ b o, a = some ⟨b, o, none⟩ ∧ R b ∧ InRow R w b o ps)
  | .dots ps l, v => ∃ a cap e, v = .iface 107 (.agg #[.slice a ps.length cap, e]) ∧ ps.length ≤ maxLen ∧ (ps = [] ∨ ∃ b o, a = some ⟨b, o, none⟩ ∧ R b ∧ InRow R w b o ps) ∧ InAt R w l e
def InRow (R : Nat → Prop) (w : World) (b o : Nat) : List Im → Prop
  | [] => True
  | p :: r => (∃ v, w.cell? ⟨b, o, none⟩ = some v ∧ InAt R w p v) ∧ InRow R w b (o + 1) r
end

mutual
theorem InAt.keep {R : Nat → Prop} {w w' : World} (hb : SameOn R w w') : ∀ (p : Im) {v : Value}, InAt R w p v → InAt R w' p v
  | .id t sc fr, v, h => by
    simp only [InAt] at h ⊢
    obtain ⟨c2, h1, h2, h3⟩ := h
    exact ⟨c2, h1, h2, h3.keep hb⟩
  | .atom t, v, h => by simp only [InAt] at h ⊢; exact h
  | .list ps, v, h => by
    simp only [InAt] at h ⊢
    obtain ⟨a, cap, h1, h2, h3⟩ := h
    refine ⟨a, cap, h1, h2, ?_⟩
    rcases h3 with h3 | ⟨b, o, h3, h4, h5⟩
    · exact Or.inl h3
    · exact Or.inr ⟨b, o, h3, h4, InRow.keep hb h4 ps h5⟩
  | .dots ps l, v, h => by
    simp only [InAt] at h ⊢
    obtain ⟨a, cap, e, h1, h2, h3, h6⟩ := h
    refine ⟨a, cap, e, h1, h2, ?_, InAt.keep hb l h6⟩
    rcases h3 with h3 | ⟨b, o, h3, h4, h5⟩
    · exact Or.inl h3
    · exact Or.inr ⟨b, o, h3, h4, InRow.keep hb h4 ps h5⟩
theorem InRow.keep {R : Nat → Prop} {w w' : World} (hb : SameOn R w w') {b : Nat} (hB : R b) : ∀ (ps : List Im) {o : Nat}, InRow R w b o ps → InRow R w' b o ps
  | [], _, _ => by simp only [InRow]
  | p :: r, o, h => by
    simp only [InRow] at h ⊢
    obtain ⟨⟨v, h1, h2⟩, h3⟩ := h
    exact ⟨⟨v, (hb.cell hB o).trans h1, InAt.keep hb p h2⟩, InRow.keep hb hB r h3⟩
end

mutual
theorem InAt.mono {R R' : Nat → Prop} {w : World} (hb : ∀ b, R b → R' b) : ∀ (p : Im) {v : Value}, InAt R w p v → InAt R' w p v
  | .id t sc fr, v, h => by
    simp only [InAt] at h ⊢
    obtain ⟨c2, h1, h2, h3⟩ := h
    exact ⟨c2, h1, h2, h3.mono hb⟩
  | .atom t, v, h => by simp only [InAt] at h ⊢; exact h
  | .list ps, v, h => by
    simp only [InAt] at h ⊢
    obtain ⟨a, cap, h1, h2, h3⟩ := h
    refine ⟨a, cap, h1, h2, ?_⟩
    rcases h3 with h3 | ⟨b, o, h3, h4, h5⟩
    · exact Or.inl h3
    · exact Or.inr ⟨b, o, h3, hb b h4, InRow.mono hb ps h5⟩
  | .dots ps l, v, h => by
    simp only [InAt] at h ⊢
    obtain ⟨a, cap, e, h1, h2, h3, h6⟩ := h
    refine ⟨a, cap, e, h1, h2, ?_, InAt.mono hb l h6⟩
    rcases h3 with h3 | ⟨b, o, h3, h4, h5⟩
    · exact Or.inl h3
    · exact Or.inr ⟨b, o, h3, hb b h4, InRow.mono hb ps h5⟩
theorem InRow.mono {R R' : Nat → Prop} {w : World} (hb : ∀ b, R b → R' b) {b : Nat} : ∀ (ps : List Im) {o : Nat}, InRow R w b o ps → InRow R' w b o ps
  | [], _, _ => by simp only [InRow]
  | p :: r, o, h => by
    simp only [InRow] at h ⊢
    obtain ⟨⟨v, h1, h2⟩, h3⟩ := h
    exact ⟨⟨v, h1, InAt.mono hb p h2⟩, InRow.mono hb r h3⟩
end

theorem InRow.get {R : Nat → Prop} {w : World} {b : Nat} : ∀ (ps : List Im) {o : Nat}, InRow R w b o ps → ∀ (i : Nat) (hi : i < ps.length), ∃ v, w.cell? ⟨b, o + i, none⟩ = some v ∧ InAt R w ps[i] v
  | [], _, _, _, hi => absurd hi (Nat.not_lt_zero _)
  | p :: r, o, h, 0, hi => by simp only [InRow] at h; exact h.1
  | p :: r, o, h, i + 1, hi => by
    simp only [InRow] at h
    have := InRow.get r h.2 i (by simpa using hi)
    rw [show o + (i + 1) = o + 1 + i from by omega]
    exact this
theorem InRow.mk {R : Nat → Prop} {w : World} {b : Nat} : ∀ (ps : List Im) {o : Nat}, (∀ (i : Nat) (hi : i < ps.length), ∃ v, w.cell? ⟨b, o + i, none⟩ = some v ∧ InAt R w ps[i] v) → InRow R w b o ps
  | [], _, _ => by simp only [InRow]
  | p :: r, o, h => by
    simp only [InRow]
    refine ⟨h 0 (by simp), InRow.mk r fun i hi => ?_⟩
    have := h (i + 1) (by simpa using hi)
    rw [show o + (i + 1) = o + 1 + i from by omega] at this
    exact this
/-- A value behind the interface is one cell. -/
theorem InAt.iface {R : Nat → Prop} {w : World} : ∀ {p : Im} {v : Value}, InAt R w p v → ∃ t x, v = .iface t x
  | .id t sc fr, v, h => by simp only [InAt] at h; obtain ⟨c2, h1, -⟩ := h; exact ⟨_, _, h1⟩
  | .atom t, v, h => by simp only [InAt] at h; exact ⟨_, _, h.1⟩
  | .list ps, v, h => by simp only [InAt] at h; obtain ⟨a, cap, h1, -⟩ := h; exact ⟨_, _, h1⟩
  | .dots ps l, v, h => by simp only [InAt] at h; obtain ⟨a, cap, e, h1, -⟩ := h; exact ⟨_, _, h1⟩

mutual
/-- What an ok form comes to inside the program. -/
def toIm : Fm → Im
  | .mk s t sc fr ks => if s = 1 then .id t sc fr else if s = 2 then .atom t else if s = 3 then .list (toIms ks) else .dots (toIms ks).dropLast ((toIms ks).getD ((toIms ks).length - 1) default)
def toIms : List Fm → List Im
  | [] => []
  | k :: r => toIm k :: toIms r
end

theorem toIms_length : ∀ ks : List Fm, (toIms ks).length = ks.length
  | [] => by simp [toIms]
  | k :: r => by simp only [toIms, List.length_cons, toIms_length r]
theorem toIms_get : ∀ (ks : List Fm) (i : Nat) (hi : i < ks.length), (toIms ks)[i]'(by rw [toIms_length]; exact hi) = toIm ks[i]
  | [], _, hi => absurd hi (Nat.not_lt_zero _)
  | k :: r, 0, _ => by simp only [toIms, List.getElem_cons_zero]
  | k :: r, i + 1, hi => by simp only [toIms, List.getElem_cons_succ]; exact toIms_get r i (by simpa using hi)
theorem toIm_id (f : Fm) (h : f.sort = 1) : toIm f = .id f.text f.scopes f.frm := by cases f; simp only [Fm.sort] at h; simp [toIm, h, Fm.text, Fm.scopes, Fm.frm]
theorem toIm_atom (f : Fm) (h : f.sort = 2) : toIm f = .atom f.text := by cases f; simp only [Fm.sort] at h; simp [toIm, h, Fm.text]
theorem toIm_list (f : Fm) (h : f.sort = 3) : toIm f = .list (toIms f.kids) := by cases f; simp only [Fm.sort] at h; simp [toIm, h, Fm.kids]
theorem toIm_dots (f : Fm) (h : f.sort = 4) : toIm f = .dots (toIms f.kids).dropLast ((toIms f.kids).getD ((toIms f.kids).length - 1) default) := by cases f; simp only [Fm.sort] at h; simp only [toIm, h, Fm.kids]; simp

end Go.Proofs.Ytikjhbmdlhgjbaa
