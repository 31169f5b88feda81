/-
  What the document calls an ok form, as a plain function on trees. No program is named.
-/
import Derived.Test.YtghgilkdmdppcaaPlain
import Derived.Test.YtghgilkdmdppcaaMem
namespace Go.Siskin

def ascB : List Int → Bool
  | [] => true
  | [_] => true
  | a :: b :: r => decide (a < b) && ascB (b :: r)
/-- Scopes: ascending, none below 0. -/
def scopesB (xs : List Int) : Bool := ascB xs && xs.all fun x => decide (0 ≤ x)

def idFormB (f : Fm) : Bool := idB f.text.data.toList && decide (f.text.size ≤ 40) && decide (0 ≤ f.frm) && scopesB f.scopes && decide (f.kids.length = 0)
def atomFormB (f : Fm) : Bool := atomB f.text.data.toList && decide (f.text.size ≤ 40) && decide (f.frm = 0) && decide (f.scopes.length + f.kids.length = 0)
def listFormB (f : Fm) : Bool := decide (f.text.size = 0) && decide (f.frm = 0) && decide (f.scopes.length = 0)
/-- What is asked of a form's own fields. -/
def headB (f : Fm) : Bool := if f.sort = 1 then idFormB f else if f.sort = 2 then atomFormB f else if f.sort = 3 then listFormB f else if f.sort = 4 then listFormB f else false
/-- What is asked of the last kid of a list that ends in something else. -/
def endB (ks : List Fm) : Bool := decide (1 < ks.length) && (decide ((ks.getD (ks.length - 1) Fm.no).sort = 1) || decide ((ks.getD (ks.length - 1) Fm.no).sort = 2))
def tailB (f : Fm) : Bool := decide (f.sort ≠ 4) || endB f.kids

/-- An ok form, deep forms within others. -/
def okB : Fm → Nat → Bool
  | ⟨s, t, sc, fr, ks⟩, d => decide (d ≤ 60) && headB ⟨s, t, sc, fr, ks⟩ && (ks.map fun k => okB k (d + 1)).all id && tailB ⟨s, t, sc, fr, ks⟩
def oksB (ks : List Fm) (d : Nat) : Bool := (ks.map fun k => okB k d).all id
theorem oksB_nil (d : Nat) : oksB [] d = true := rfl
theorem oksB_cons (k : Fm) (r : List Fm) (d : Nat) : oksB (k :: r) d = (okB k d && oksB r d) := rfl

theorem okB_eq (f : Fm) (d : Nat) : okB f d = (decide (d ≤ 60) && headB f && oksB f.kids (d + 1) && tailB f) := by
  obtain ⟨s, t, sc, fr, ks⟩ := f
  rw [okB]; rfl
theorem oksB_take (ks : List Fm) (k d : Nat) (h : k < ks.length) : oksB (ks.take (k + 1)) d = (oksB (ks.take k) d && okB ks[k] d) := by
  rw [List.take_succ_eq_append_getElem h]; unfold oksB
  simp only [List.map_append, List.all_append, List.map_cons, List.map_nil, List.all_cons, List.all_nil, Bool.and_true, id]
theorem oksB_bad : ∀ (ks : List Fm) (k d : Nat) (h : k < ks.length), okB ks[k] d = false → oksB ks d = false
  | [], _, _, h, _ => absurd h (Nat.not_lt_zero _)
  | a :: r, 0, d, _, hb => by rw [oksB_cons]; simp at hb; rw [hb]; rfl
  | a :: r, k + 1, d, h, hb => by rw [oksB_cons, oksB_bad r k d (by simpa using h) (by simpa using hb)]; simp

theorem okB_deep (f : Fm) (d : Nat) (h : 60 < d) : okB f d = false := by rw [okB_eq, decide_eq_false (by omega)]; rfl
theorem okB_id (f : Fm) (d : Nat) (h : d ≤ 60) (hs : f.sort = 1) : okB f d = idFormB f := by
  have h1 : tailB f = true := by unfold tailB; rw [hs]; rfl
  have h2 : headB f = idFormB f := by unfold headB; rw [if_pos hs]
  rw [okB_eq, decide_eq_true h, h1, h2]
  cases hk : f.kids with
  | nil => simp [oksB_nil]
  | cons a r => unfold idFormB; rw [hk]; simp
theorem okB_atom (f : Fm) (d : Nat) (h : d ≤ 60) (hs : f.sort = 2) : okB f d = atomFormB f := by
  have h1 : tailB f = true := by unfold tailB; rw [hs]; rfl
  have h2 : headB f = atomFormB f := by unfold headB; rw [if_neg (by omega), if_pos hs]
  rw [okB_eq, decide_eq_true h, h1, h2]
  cases hk : f.kids with
  | nil => simp [oksB_nil]
  | cons a r => unfold atomFormB; rw [hk]; simp
theorem okB_list (f : Fm) (d : Nat) (h : d ≤ 60) (hs : f.sort = 3) : okB f d = (listFormB f && oksB f.kids (d + 1)) := by
  have h1 : tailB f = true := by unfold tailB; rw [hs]; rfl
  have h2 : headB f = listFormB f := by unfold headB; rw [if_neg (by omega), if_neg (by omega), if_pos hs]
  rw [okB_eq, decide_eq_true h, h1, h2]; simp
theorem okB_dots (f : Fm) (d : Nat) (h : d ≤ 60) (hs : f.sort = 4) : okB f d = (listFormB f && oksB f.kids (d + 1) && endB f.kids) := by
  have h1 : tailB f = endB f.kids := by unfold tailB; rw [hs]; rfl
  have h2 : headB f = listFormB f := by unfold headB; rw [if_neg (by omega), if_neg (by omega), if_neg (by omega), if_pos hs]
  rw [okB_eq, decide_eq_true h, h1, h2]; simp
theorem okB_none (f : Fm) (d : Nat) (h1 : f.sort ≠ 1) (h2 : f.sort ≠ 2) (h3 : f.sort ≠ 3) (h4 : f.sort ≠ 4) : okB f d = false := by
  rw [okB_eq]; unfold headB; rw [if_neg h1, if_neg h2, if_neg h3, if_neg h4]; simp

end Go.Siskin
