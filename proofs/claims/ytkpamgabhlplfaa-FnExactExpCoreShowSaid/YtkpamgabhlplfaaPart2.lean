/-
  How a part is shown, plainly, and how long that is. No program's step is walked here.
  A part in memory of its own: every list in a block of its own, no two in one. No program's step is walked here.
  The program's names and kidsBehind write into the builder what the plain functions say; the builder's String. Condition: the part lies in memory ahead of the builder, which is one of the call's own.
  The program's names and kidsBehind write into the builder what the plain functions say, if each kid is shown as it should be. Condition: the part lies in memory ahead of the builder, which is one of the call's own.
-/
import Derived.Test.YtkpamgabhlplfaaPart1
import Derived.Deep.RegionHeld3
import Derived.Lib.Walk
import Derived.Deep.QuietTactic
namespace Go.Proofs.Ytkpamgabhlplfaa
open Go.RowKit Go.Siskin

/-- Names one after another, a blank between two; before the last of n, where the rest is taken, a dot. -/
def joinP (r : Bool) (n i : Nat) : List (List UInt8) → List UInt8
  | [] => []
  | k :: t => (if 0 < i then [32] else []) ++ (if r = true ∧ i + 1 = n then [46, 32] else []) ++ k ++ joinP r n (i + 1) t
def parB (ns : List ByteArray) (r : Bool) : List UInt8 := [40] ++ joinP r ns.length 0 (ns.map fun x => x.data.toList) ++ [41]
/-- Kids one after another, a blank ahead of each; not ahead of a call's first. -/
def joinC (s : Int) (i : Nat) : List (List UInt8) → List UInt8
  | [] => []
  | k :: t => (if 0 < i ∨ s ≠ 4 then [32] else []) ++ k ++ joinC s (i + 1) t
def headB (s : Int) : List UInt8 := if s = 5 then [105, 102] else if s = 6 then [115, 101, 116, 33] else if s = 7 then [98, 101, 103, 105, 110] else if s = 9 then [100, 101, 102, 105, 110, 101] else []
def preB (s : Int) (t : ByteArray) (r : Bool) (ns : List ByteArray) : List UInt8 :=
  if s = 3 then [40, 108, 97, 109, 98, 100, 97, 32] ++ parB ns r else if s = 8 then [40, 114, 101, 99, 32] ++ parB ns false else if s = 6 ∨ s = 9 then [40] ++ headB s ++ [32] ++ t.data.toList else [40] ++ headB s
def showC : Cm → List UInt8
  | ⟨s, t, r, ns, ks⟩ => if s = 1 ∨ s = 2 then t.data.toList else preB s t r ns ++ joinC s 0 (ks.map fun k => showC k) ++ [41]
theorem showC_leaf (c : Cm) (h : c.sort = 1 ∨ c.sort = 2) : showC c = c.text.data.toList := by
  obtain ⟨s, t, r, ns, ks⟩ := c
  rw [showC, if_pos h]
theorem showC_list (c : Cm) (h1 : c.sort ≠ 1) (h2 : c.sort ≠ 2) : showC c = preB c.sort c.text c.rest c.names ++ joinC c.sort 0 (c.kids.map showC) ++ [41] := by
  obtain ⟨s, t, r, ns, ks⟩ := c
  rw [showC, if_neg (by intro h; rcases h with h | h; exact h1 h; exact h2 h)]

theorem joinC_snoc (s : Int) : ∀ (l : List (List UInt8)) (i : Nat) (k : List UInt8), joinC s i (l ++ [k]) = joinC s i l ++ ((if 0 < i + l.length ∨ s ≠ 4 then [32] else []) ++ k)
  | [], i, k => by simp [joinC]
  | a :: r, i, k => by
    have ih := joinC_snoc s r (i + 1) k
    simp only [List.cons_append, joinC, ih, List.append_assoc, List.length_cons]
    rw [show i + 1 + r.length = i + (r.length + 1) from by omega]
theorem joinC_take (s : Int) (l : List (List UInt8)) (k : Nat) (h : k < l.length) : joinC s 0 (l.take (k + 1)) = joinC s 0 (l.take k) ++ ((if 0 < k ∨ s ≠ 4 then [32] else []) ++ l[k]) := by
  rw [List.take_succ_eq_append_getElem h, joinC_snoc]
  simp only [List.length_take, Nat.zero_add, Nat.min_eq_left (Nat.le_of_lt h)]
theorem joinC_le (s : Int) : ∀ (l : List (List UInt8)) (i k : Nat), (joinC s i (l.take k)).length ≤ (joinC s i l).length
  | [], i, k => by simp [joinC]
  | a :: r, i, 0 => by simp [joinC]
  | a :: r, i, k + 1 => by
    have ih := joinC_le s r (i + 1) k
    simp only [List.take_succ_cons, joinC, List.length_append]; omega
theorem joinP_snoc (b : Bool) (n : Nat) : ∀ (l : List (List UInt8)) (i : Nat) (k : List UInt8), joinP b n i (l ++ [k]) = joinP b n i l ++ ((if 0 < i + l.length then [32] else []) ++ (if b = true ∧ i + l.length + 1 = n then [46, 32] else []) ++ k)
  | [], i, k => by simp [joinP]
  | a :: r, i, k => by
    have ih := joinP_snoc b n r (i + 1) k
    simp only [List.cons_append, joinP, ih, List.append_assoc, List.length_cons]
    rw [show i + 1 + r.length = i + (r.length + 1) from by omega]
theorem joinP_take (b : Bool) (n : Nat) (l : List (List UInt8)) (k : Nat) (h : k < l.length) : joinP b n 0 (l.take (k + 1)) = joinP b n 0 (l.take k) ++ ((if 0 < k then [32] else []) ++ (if b = true ∧ k + 1 = n then [46, 32] else []) ++ l[k]) := by
  rw [List.take_succ_eq_append_getElem h, joinP_snoc]
  simp only [List.length_take, Nat.zero_add, Nat.min_eq_left (Nat.le_of_lt h)]
theorem joinP_le (b : Bool) (n : Nat) : ∀ (l : List (List UInt8)) (i k : Nat), (joinP b n i (l.take k)).length ≤ (joinP b n i l).length
  | [], i, k => by simp [joinP]
  | a :: r, i, 0 => by simp [joinP]
  | a :: r, i, k + 1 => by
    have ih := joinP_le b n r (i + 1) k
    simp only [List.take_succ_cons, joinP, List.length_append]; omega

theorem ite_len {p : Prop} [Decidable p] (a : List UInt8) : (if p then a else []).length ≤ a.length := by
  split
  · exact Nat.le_refl _
  · simp
theorem joinP_len (b : Bool) (n : Nat) : ∀ (ns : List ByteArray) (i : Nat), (joinP b n i (ns.map fun x => x.data.toList)).length ≤ 3 * strc ns
  | [], i => by simp [joinP]
  | a :: r, i => by
    have ih := joinP_len b n r (i + 1)
    have h1 := ite_len (p := 0 < i) [32]
    have h2 := ite_len (p := b = true ∧ i + 1 = n) [46, 32]
    have h3 : a.data.toList.length = a.size := by simp
    simp only [List.map_cons, joinP, List.length_append, strc, List.length_cons, List.sum_cons, List.length_nil] at ih h1 h2 ⊢
    omega
theorem parB_len (ns : List ByteArray) (r : Bool) : (parB ns r).length ≤ 3 * strc ns + 2 := by
  have := joinP_len r ns.length ns 0
  unfold parB
  simp only [List.length_append, List.length_cons, List.length_nil]
  omega
theorem headB_len (s : Int) : (headB s).length ≤ 6 := by
  unfold headB
  repeat' split
  all_goals simp
theorem preB_len (s : Int) (t : ByteArray) (r : Bool) (ns : List ByteArray) : (preB s t r ns).length ≤ 10 + t.size + 3 * strc ns := by
  have h1 := parB_len ns r
  have h2 := parB_len ns false
  have h3 := headB_len s
  have h4 : t.data.toList.length = t.size := by simp
  unfold preB
  repeat' split
  all_goals simp only [List.length_append, List.length_cons, List.length_nil]; omega
theorem showC_upto : ∀ (n : Nat) (c : Cm), c.sz ≤ n → (showC c).length + 1 ≤ 16 * c.sz + 3 * c.cost
  | 0, c, hn => by have := Cm.sz_kids c; omega
  | n + 1, c, hn => by
    have h1 := Cm.sz_kids c
    have h2 := Cm.cost_eq c
    have h3 : ∀ (s : Int) (ks : List Cm) (i : Nat), Cm.szs ks ≤ n → (joinC s i (ks.map showC)).length ≤ 16 * Cm.szs ks + 3 * Cm.costs ks := by
      intro s ks
      induction ks with
      | nil => intro i _; simp [joinC]
      | cons k r ih =>
        intro i hk
        rw [Cm.szs_cons] at hk
        rw [Cm.szs_cons, Cm.costs_cons, List.map_cons]
        have a1 := showC_upto n k (by omega)
        have a2 := ih (i + 1) (by omega)
        have a3 := ite_len (p := 0 < i ∨ s ≠ 4) [32]
        simp only [joinC, List.length_append, List.length_cons, List.length_nil] at a3 ⊢
        omega
    have h4 := h3 c.sort c.kids 0 (by omega)
    have h5 := preB_len c.sort c.text c.rest c.names
    by_cases hs : c.sort = 1 ∨ c.sort = 2
    · rw [showC_leaf c hs]
      have h6 : c.text.data.toList.length = c.text.size := by simp
      omega
    · rw [showC_list c (fun e => hs (Or.inl e)) (fun e => hs (Or.inr e))]
      simp only [List.length_append, List.length_cons, List.length_nil]
      omega
theorem showC_len (c : Cm) : (showC c).length + 1 ≤ 16 * c.sz + 3 * c.cost := showC_upto c.sz c (Nat.le_refl _)
theorem showC_kid (c : Cm) (h1 : c.sort ≠ 1) (h2 : c.sort ≠ 2) (k : Nat) (h : k < c.kids.length) : (showC c.kids[k]).length ≤ (showC c).length := by
  have a := joinC_take c.sort (c.kids.map showC) k (by simpa using h)
  have b := joinC_le c.sort (c.kids.map showC) 0 (k + 1)
  rw [a] at b
  rw [showC_list c h1 h2]
  simp only [List.length_append, List.getElem_map] at b ⊢
  omega

theorem ceta (s : ByteArray) : (⟨s.data.toList.toArray⟩ : ByteArray) = s := by cases s; simp
theorem capp1 (xs ys : List UInt8) : Value.string ((⟨xs.toArray⟩ : ByteArray) ++ ⟨ys.toArray⟩) = .string ⟨(xs ++ ys).toArray⟩ := by rw [ByteArray.mk_append_mk]
theorem capp2 (xs p ys : List UInt8) : Value.string ((⟨xs.toArray⟩ : ByteArray) ++ ⟨p.toArray⟩ ++ ⟨ys.toArray⟩) = .string ⟨(xs ++ p ++ ys).toArray⟩ := by rw [ByteArray.mk_append_mk, ByteArray.mk_append_mk]
theorem capp3 (xs p q ys : List UInt8) : Value.string ((⟨xs.toArray⟩ : ByteArray) ++ ⟨p.toArray⟩ ++ ⟨q.toArray⟩ ++ ⟨ys.toArray⟩) = .string ⟨(xs ++ p ++ q ++ ys).toArray⟩ := by rw [ByteArray.mk_append_mk, ByteArray.mk_append_mk, ByteArray.mk_append_mk]

end Go.Proofs.Ytkpamgabhlplfaa

namespace Go.Proofs.Ytkpamgabhlplfaa
open Go.RowKit Go.Siskin

/-- A form whose lists lie in blocks of S, each in one of its own. -/
def CTree (w : World) : Cm → (Nat → Prop) → Value → Value → Prop
  | ⟨_, _, _, ns, ks⟩, S, c2, c4 => w.ownsRow 0 9 1 c2 ns.length (ns.map Value.string) ∧ (∀ g, c2.ownBlock = some g → S g) ∧
      ∃ (cs : List Value) (F : Nat → Nat → Prop), w.ownsRow 0 50 5 c4 ks.length cs ∧ (∀ g, c4.ownBlock = some g → S g ∧ c2.ownBlock ≠ some g) ∧
        (∀ i b, F i b → (S b ∧ c2.ownBlock ≠ some b) ∧ c4.ownBlock ≠ some b) ∧ (∀ i j b, i ≠ j → F i b → ¬ F j b) ∧
        ∀ (i : Nat) (hi : i < ks.length), ∃ k2 k4, cs[i * 5]? = some (.int .i64 ks[i].sort) ∧ cs[i * 5 + 1]? = some (.string ks[i].text) ∧ cs[i * 5 + 2]? = some (.bool ks[i].rest) ∧ cs[i * 5 + 3]? = some k2 ∧ cs[i * 5 + 4]? = some k4 ∧ (have := List.sizeOf_lt_of_mem (List.getElem_mem hi); CTree w ks[i] (F i) k2 k4)
/-- What a row of such forms has. -/
structure CParts (w : World) (S : Nat → Prop) (v : Value) (ks : List Cm) (cs : List Value) (F : Nat → Nat → Prop) : Prop where
  row : w.ownsRow 0 50 5 v ks.length cs
  own : ∀ g, v.ownBlock = some g → S g
  sub : ∀ i b, F i b → S b ∧ v.ownBlock ≠ some b
  apart : ∀ i j b, i ≠ j → F i b → ¬ F j b
  kid : ∀ (i : Nat) (hi : i < ks.length), ∃ k2 k4, cs[i * 5]? = some (.int .i64 ks[i].sort) ∧ cs[i * 5 + 1]? = some (.string ks[i].text) ∧ cs[i * 5 + 2]? = some (.bool ks[i].rest) ∧ cs[i * 5 + 3]? = some k2 ∧ cs[i * 5 + 4]? = some k4 ∧ CTree w ks[i] (F i) k2 k4
def CRow (w : World) (S : Nat → Prop) (v : Value) (ks : List Cm) : Prop := ∃ cs F, CParts w S v ks cs F
theorem ctree_iff (w : World) (f : Cm) (S : Nat → Prop) (c2 c4 : Value) : CTree w f S c2 c4 ↔ w.ownsRow 0 9 1 c2 f.names.length (f.names.map Value.string) ∧ (∀ g, c2.ownBlock = some g → S g) ∧ CRow w (fun b => S b ∧ c2.ownBlock ≠ some b) c4 f.kids := by
  obtain ⟨s, t, r, ns, ks⟩ := f
  rw [CTree]
  constructor
  · rintro ⟨h1, h2, cs, F, h3, h4, h5, h6, h7⟩
    exact ⟨h1, h2, cs, F, h3, h4, h5, h6, h7⟩
  · rintro ⟨h1, h2, cs, F, h3, h4, h5, h6, h7⟩
    exact ⟨h1, h2, cs, F, h3, h4, h5, h6, h7⟩

theorem crow_same {w w' : World} {e : TypeId} {s n : Nat} {v : Value} {xs : List Value} (h : w.ownsRow 0 e s v n xs) (hs : ∀ g, v.ownBlock = some g → w'.heap[g]? = w.heap[g]?) : w'.ownsRow 0 e s v n xs := by
  refine ⟨h.1, ?_⟩
  rcases h.2 with h2 | ⟨g, cap, cur, rfl, h3, h4, h5⟩
  · exact Or.inl h2
  · exact Or.inr ⟨g, cap, cur, rfl, h3, (hs g rfl).trans h4, h5⟩
theorem crow_base {w : World} {base : Nat} {e : TypeId} {s n : Nat} {v : Value} {xs : List Value} (h : w.ownsRow base e s v n xs) : w.ownsRow 0 e s v n xs := by
  refine ⟨h.1, ?_⟩
  rcases h.2 with h2 | ⟨g, cap, cur, rfl, h3, h4, h5⟩
  · exact Or.inl h2
  · exact Or.inr ⟨g, cap, cur, rfl, Nat.zero_le _, h4, h5⟩

theorem ctkeep_upto : ∀ (n : Nat) (f : Cm), f.sz ≤ n → ∀ {S : Nat → Prop} {w w' : World} {c2 c4 : Value}, SameOn S w w' → CTree w f S c2 c4 → CTree w' f S c2 c4
  | 0, f, hn, _, _, _, _, _, _ => by have := Cm.sz_kids f; omega
  | n + 1, f, hn, S, w, w', c2, c4, hs => fun h => by
    have hsz := Cm.sz_kids f
    rw [ctree_iff] at h ⊢
    obtain ⟨h1, h2, cs, F, h3⟩ := h
    refine ⟨crow_same h1 fun g e => hs g (h2 g e), h2, cs, F, crow_same h3.row fun g e => hs g (h3.own g e).1, h3.own, h3.sub, h3.apart, fun i hi => ?_⟩
    obtain ⟨k2, k4, e0, e1, e2, e3, e4, e5⟩ := h3.kid i hi
    exact ⟨k2, k4, e0, e1, e2, e3, e4, ctkeep_upto n _ (by have := Cm.szs_get f.kids i hi; omega) (fun b hb => hs b (h3.sub i b hb).1.1) e5⟩
theorem CTree.keep {S : Nat → Prop} {w w' : World} {f : Cm} {c2 c4 : Value} (h : CTree w f S c2 c4) (hs : SameOn S w w') : CTree w' f S c2 c4 := ctkeep_upto f.sz f (Nat.le_refl _) hs h
theorem CParts.keep {S : Nat → Prop} {w w' : World} {v : Value} {ks : List Cm} {cs : List Value} {F : Nat → Nat → Prop} (h : CParts w S v ks cs F) (hs : SameOn S w w') : CParts w' S v ks cs F :=
  ⟨crow_same h.row fun g e => hs g (h.own g e), h.own, h.sub, h.apart, fun i hi => by
    obtain ⟨k2, k4, e0, e1, e2, e3, e4, e5⟩ := h.kid i hi
    exact ⟨k2, k4, e0, e1, e2, e3, e4, e5.keep fun b hb => hs b (h.sub i b hb).1⟩⟩
theorem CRow.keep {S : Nat → Prop} {w w' : World} {v : Value} {ks : List Cm} (h : CRow w S v ks) (hs : SameOn S w w') : CRow w' S v ks := by
  obtain ⟨cs, F, h⟩ := h
  exact ⟨cs, F, h.keep hs⟩
theorem CRow.mono {S S' : Nat → Prop} {w : World} {v : Value} {ks : List Cm} (h : CRow w S v ks) (hs : ∀ b, S b → S' b) : CRow w S' v ks := by
  obtain ⟨cs, F, h⟩ := h
  exact ⟨cs, F, h.row, fun g e => hs g (h.own g e), fun i b hb => ⟨hs b (h.sub i b hb).1, (h.sub i b hb).2⟩, h.apart, h.kid⟩
theorem CTree.mono {S S' : Nat → Prop} {w : World} {f : Cm} {c2 c4 : Value} (h : CTree w f S c2 c4) (hs : ∀ b, S b → S' b) : CTree w f S' c2 c4 := by
  rw [ctree_iff] at h ⊢
  exact ⟨h.1, fun g e => hs g (h.2.1 g e), h.2.2.mono fun b hb => ⟨hs b hb.1, hb.2⟩⟩

theorem row_strs {B : Nat → Prop} {w : World} {v : Value} {xs : List ByteArray} (h1 : w.ownsRow 0 9 1 v xs.length (xs.map Value.string)) (h2 : ∀ g, v.ownBlock = some g → B g) (hm : ∀ i (hi : i < xs.length), xs[i].size ≤ maxLen) : StrsAt B w v xs := by
  rcases h1.2 with ⟨rfl, h0⟩ | ⟨g, cap, cur, rfl, hb, hg, hcap, hx, -, -⟩
  · have : xs = [] := List.length_eq_zero_iff.1 h0
    subst this
    exact ⟨none, 0, rfl, ⟨Nat.zero_le _, Nat.le_refl _⟩, fun i hi => absurd hi (by simp), Or.inl rfl⟩
  · refine ⟨some ⟨g, 0, none⟩, cap, rfl, ⟨by omega, by omega⟩, hm, Or.inr ⟨g, 0, rfl, h2 g rfl, fun i hi => ?_⟩⟩
    have k := h1.cells (g := g) rfl i (.string xs[i]) (by rw [List.getElem?_map, List.getElem?_eq_getElem hi]; rfl)
    rw [Go.WideShapes.add_plain] at k
    exact k
theorem strc_get (ns : List ByteArray) (i : Nat) (hi : i < ns.length) : ns[i].size ≤ strc ns := by
  have h1 := sums_take ns i hi
  have h2 := sums_take_le ns (i + 1)
  unfold strc
  omega
theorem crow_shape {w : World} {base size n : Nat} {e : TypeId} {v : Value} {xs : List Value} (h : w.ownsRow base e size v n xs) : ∃ a c, v = .slice a n c := by
  rcases h.2 with ⟨rfl, rfl⟩ | ⟨g, cap, cur, rfl, -⟩
  · exact ⟨none, 0, rfl⟩
  · exact ⟨_, _, rfl⟩
theorem ctshape {w : World} {f : Cm} {S : Nat → Prop} {c2 c4 : Value} (h : CTree w f S c2 c4) : (∃ a c, c2 = .slice a f.names.length c) ∧ ∃ a c, c4 = .slice a f.kids.length c := by
  rw [ctree_iff] at h
  obtain ⟨h1, -, cs, F, h3⟩ := h
  exact ⟨crow_shape h1, crow_shape h3.row⟩

theorem ctform_upto : ∀ (n : Nat) (f : Cm), f.sz ≤ n → f.cost ≤ maxLen → ∀ {S : Nat → Prop} {w : World} {c2 c4 : Value}, CTree w f S c2 c4 → CoreAt S w f (.int .i64 f.sort) (.string f.text) (.bool f.rest) c2 c4
  | 0, f, hn, _, _, _, _, _ => by have := Cm.sz_kids f; omega
  | n + 1, f, hn, hc, S, w, c2, c4 => fun h => by
    have hsz := Cm.sz_kids f
    have hce := Cm.cost_eq f
    rw [ctree_iff] at h
    obtain ⟨h1, h2, cs, F, h3⟩ := h
    rw [coreAt_iff]
    refine ⟨rfl, rfl, by omega, rfl, ?_, ?_⟩
    · exact row_strs h1 h2 fun i hi => by have := strc_get f.names i hi; omega
    · have r1 := h3.row
      have r1' := h3.row
      rcases r1.2 with ⟨rfl, h0⟩ | ⟨g, cap, cur, rfl, hb, hg, hcap, -, -, -⟩
      · have : f.kids = [] := List.length_eq_zero_iff.1 h0
        rw [this]
        exact ⟨none, 0, rfl, ⟨Nat.zero_le _, Nat.le_refl _⟩, Or.inl rfl⟩
      · refine ⟨some ⟨g, 0, none⟩, cap, rfl, ⟨by omega, hcap⟩, Or.inr ⟨g, 0, rfl, (h3.own g rfl).1, CRowAt.mk _ fun i hi => ?_⟩⟩
        obtain ⟨k2, k4, e0, e1, e2, e3, e4, e5⟩ := h3.kid i hi
        have k := r1'.cells (g := g) rfl
        have q0 := k _ _ e0
        have q1 := k _ _ e1
        have q2 := k _ _ e2
        have q3 := k _ _ e3
        have q4 := k _ _ e4
        rw [Go.WideShapes.add_plain] at q0 q1 q2 q3 q4
        exact ⟨_, _, _, _, _, q0, q1, q2, q3, q4, CoreAt.mono (fun b hb => (h3.sub i b hb).1.1) _ (ctform_upto n _ (by have := Cm.szs_get f.kids i hi; omega) (by have := Cm.costs_get f.kids i hi; omega) e5)⟩
theorem CTree.form {S : Nat → Prop} {w : World} {f : Cm} {c2 c4 : Value} (h : CTree w f S c2 c4) (hc : f.cost ≤ maxLen) : CoreAt S w f (.int .i64 f.sort) (.string f.text) (.bool f.rest) c2 c4 := ctform_upto f.sz f (Nat.le_refl _) hc h

end Go.Proofs.Ytkpamgabhlplfaa

namespace Go.Proofs.Ytkpamgabhlplfaa
open Go.RowKit Go.Siskin

set_option maxHeartbeats 800000 in
set_option maxRecDepth 100000 in
theorem string_nil (B b : Nat) (p : Value) (w : World) (hbk : w.heap[b]? = some (.cells (shCells b p (.slice none 0 0)) 115 (0, 0))) :
    Calls Try.prog 30 #[.pointer (some ⟨b, 0, none⟩)] w fun e w' => e = .returned (.string ⟨#[]⟩) ∧ Below B w w' := by
  have c1 : w.drew.cell? ⟨b, 1, none⟩ = some (.slice none 0 0) := by
    have : w.drew.heap[b]? = some (.cells (shCells b p (.slice none 0 0)) 115 (0, 0)) := hbk
    exact (sh_cell this 1).trans rfl
  have K0 := hid c1
  have hUS := fun (W : World) (q : Option Addr) => Lib.run_unsafeString_none (P := Try.prog) W 100 3 9 q
  have hSD : ∀ W : World, (Builtin.unsafeSliceData_ #[64] 100 #[.slice none 0 0]).run Try.prog W = .ok (.pointer none) W := fun W => rfl
  go_enter Try.func30, Try.ntmps30
  go_wp2_with fail
  go_region_held3 (fun w' => w'.cell? ⟨b, 1, none⟩ = some (.slice none 0 0)) (exact K0.out) (fail)
  all_goals (go_wp2_with fail; go_ret; exact ⟨rfl, Below.drew (Below.refl B w)⟩)

set_option maxHeartbeats 800000 in
set_option maxRecDepth 100000 in
theorem string_room (B b g cap : Nat) (p : Value) (w : World) (hc0 : cap ≠ 0) (hbk : w.heap[b]? = some (.cells (shCells b p (.slice (some ⟨g, 0, none⟩) 0 cap)) 115 (0, 0))) :
    Calls Try.prog 30 #[.pointer (some ⟨b, 0, none⟩)] w fun e w' => e = .returned (.string ⟨#[]⟩) ∧ Below B w w' := by
  have c1 : w.drew.cell? ⟨b, 1, none⟩ = some (.slice (some ⟨g, 0, none⟩) 0 cap) := by
    have : w.drew.heap[b]? = some (.cells (shCells b p (.slice (some ⟨g, 0, none⟩) 0 cap)) 115 (0, 0)) := hbk
    exact (sh_cell this 1).trans rfl
  have K0 := hid c1
  have hUS := fun (W : World) (q : Option Addr) => Lib.run_unsafeString_none (P := Try.prog) W 100 3 9 q
  have hSD : ∀ W : World, (Builtin.unsafeSliceData_ #[64] 100 #[.slice (some ⟨g, 0, none⟩) 0 cap]).run Try.prog W = .ok (.pointer (some ⟨g, 0, none⟩)) W := fun W => Lib.run_unsafeSliceData_row _ _ _ _ _ _ hc0
  clear hc0
  go_enter Try.func30, Try.ntmps30
  go_wp2_with fail
  go_region_held3 (fun w' => w'.cell? ⟨b, 1, none⟩ = some (.slice (some ⟨g, 0, none⟩) 0 cap)) (exact K0.out) (fail)
  all_goals (go_wp2_with fail; go_ret; exact ⟨rfl, Below.drew (Below.refl B w)⟩)

set_option maxHeartbeats 800000 in
set_option maxRecDepth 100000 in
theorem string_noroom (B b g : Nat) (p : Value) (cur : Array Value) (w : World) (hBw : B ≤ w.heap.size) (hg : w.heap[g]? = some (.cells cur 5 (0, 0))) (hbk : w.heap[b]? = some (.cells (shCells b p (.slice (some ⟨g, 0, none⟩) 0 0)) 115 (0, 0))) :
    Calls Try.prog 30 #[.pointer (some ⟨b, 0, none⟩)] w fun e w' => e = .returned (.string ⟨#[]⟩) ∧ Below B w w' := by
  have hlt : b < w.heap.size := (Array.getElem?_eq_some_iff.1 hbk).1
  have c1 : w.drew.cell? ⟨b, 1, none⟩ = some (.slice (some ⟨g, 0, none⟩) 0 0) := by
    have : w.drew.heap[b]? = some (.cells (shCells b p (.slice (some ⟨g, 0, none⟩) 0 0)) 115 (0, 0)) := hbk
    exact (sh_cell this 1).trans rfl
  have c2 : (w.drew.alloc (.view ⟨g, 0, none⟩ 5)).cell? ⟨b, 1, none⟩ = some (.slice (some ⟨g, 0, none⟩) 0 0) := by
    have : (w.drew.alloc (.view ⟨g, 0, none⟩ 5)).heap[b]? = _ := (Lib.alloc_old w.drew _ b hlt).trans hbk
    exact (sh_cell this 1).trans rfl
  have K0 := hid c1
  have K1 := hid c2
  have hUS := fun (W : World) (q : Option Addr) => Lib.run_unsafeString_none (P := Try.prog) W 100 3 9 q
  have hSD : (Builtin.unsafeSliceData_ #[64] 100 #[.slice (some ⟨g, 0, none⟩) 0 0]).run Try.prog w.drew = .ok (.pointer (some ⟨w.drew.heap.size, 0, none⟩)) (w.drew.alloc (.view ⟨g, 0, none⟩ 5)) :=
    Lib.run_unsafeSliceData_zero w.drew _ _ 5 Try.underlying100 ⟨g, 0, none⟩ 0 (5, cur.size) (by have hg' : w.drew.heap[g]? = some (.cells cur 5 (0, 0)) := hg; simp [World.shape?, hg'])
  go_enter Try.func30, Try.ntmps30
  go_wp2_with fail
  go_region_held3 (fun w' => w'.cell? ⟨b, 1, none⟩ = some (.slice (some ⟨g, 0, none⟩) 0 0)) (first | exact K1.out | exact K0.out) (fail)
  all_goals (go_wp2_with fail; go_ret; exact ⟨rfl, (Below.drew (Below.refl B w)).alloc hBw _⟩)

set_option maxHeartbeats 800000 in
set_option maxRecDepth 100000 in
theorem string_full (B b g cap : Nat) (p : Value) (l : List UInt8) (cur : Array Value) (w : World) (h0 : l ≠ []) (hbg : B ≤ g) (hg : w.heap[g]? = some (.cells cur 5 (0, 0))) (hnc : l.length ≤ cap) (hcm : cap ≤ maxLen) (hcs : cur.size = cap * 1)
    (hgb : g ≠ b) (hown : w.ownsRow B 5 1 (.slice (some ⟨g, 0, none⟩) l.length cap) l.length (Lib.byteCells l)) (hbk : w.heap[b]? = some (.cells (shCells b p (.slice (some ⟨g, 0, none⟩) l.length cap)) 115 (0, 0))) :
    Calls Try.prog 30 #[.pointer (some ⟨b, 0, none⟩)] w fun e w' => e = .returned (.string ⟨l.toArray⟩) ∧ Below B w w' := by
  have hl0 : l.length ≠ 0 := by simpa using h0
  have c1 : w.drew.cell? ⟨b, 1, none⟩ = some (.slice (some ⟨g, 0, none⟩) l.length cap) := by
    have : w.drew.heap[b]? = some (.cells (shCells b p (.slice (some ⟨g, 0, none⟩) l.length cap)) 115 (0, 0)) := hbk
    exact (sh_cell this 1).trans rfl
  have K0 := hid c1
  have hSD : ∀ W : World, (Builtin.unsafeSliceData_ #[64] 100 #[.slice (some ⟨g, 0, none⟩) l.length cap]).run Try.prog W = .ok (.pointer (some ⟨g, 0, none⟩)) W := fun W =>
    Lib.run_unsafeSliceData_row _ _ _ _ _ _ (by omega)
  have hUS : (Builtin.unsafeString_ #[100, 3] 9 #[.pointer (some ⟨g, 0, none⟩), .int .i64 l.length]).run Try.prog w.drew = .ok (.string ⟨l.toArray⟩) (w.drew.freeze ⟨g, 0, none⟩ l.length) := by
    refine Lib.run_unsafeString_row w.drew 100 3 9 5 Try.underlying100 (by kernel_rfl) g cur.size (by have hg' : w.drew.heap[g]? = some (.cells cur 5 (0, 0)) := hg; simp [World.shape?, hg']) l h0 (by omega) (by unfold maxLen at hcm; omega) ?_
    intro j x hx
    have := hown.cells (g := g) rfl j (.int .u8 x.toNat) (by simp [Lib.byteCells, hx])
    exact this
  have HBG := hid hbg
  have hfz : (w.drew.freeze ⟨g, 0, none⟩ l.length).heap[b]? = w.heap[b]? := by
    unfold World.freeze
    rw [if_neg hl0]
    show (w.heap.modify g _)[b]? = _
    rw [Array.getElem?_modify, if_neg hgb]
  have K1 := hid (show (w.drew.freeze ⟨g, 0, none⟩ l.length).cell? ⟨b, 1, none⟩ = some (.slice (some ⟨g, 0, none⟩) l.length cap) from (World.cell?_of_block (a := ⟨b, 1, none⟩) hfz).trans c1)
  clear hfz hgb
  clear hown hbk hg hcs hcm hnc h0 hl0 c1 hbg
  have c1 := K0.out
  go_enter Try.func30, Try.ntmps30
  go_wp2_with fail
  go_region_held3 (fun w' => w'.cell? ⟨b, 1, none⟩ = some (.slice (some ⟨g, 0, none⟩) l.length cap)) (first | exact K1.out | exact K0.out) (fail)
  all_goals (go_wp2_with fail; go_ret; exact ⟨rfl, Lib.below_freeze (Below.drew (Below.refl B w)) (p := ⟨g, 0, none⟩) HBG.out _⟩)

theorem string_any (B b : Nat) (l : List UInt8) (w : World) (h : isS B b l w) (hBw : B ≤ w.heap.size) :
    Calls Try.prog 30 #[.pointer (some ⟨b, 0, none⟩)] w fun e w' => e = .returned (.string ⟨l.toArray⟩) ∧ Below B w w' := by
  obtain ⟨p, hB, v, hbk, hown, hne⟩ : ∃ p, ShAt B b p (Lib.byteCells l) w := by
    rcases h with h | h
    · exact ⟨_, h⟩
    · exact ⟨_, h⟩
  rw [Lib.byteCells_length] at hown
  have hown' := hown
  by_cases h0 : l = []
  · subst h0
    rcases hown.2 with ⟨rfl, -⟩ | ⟨g, cap, cur, rfl, hbg, hg, hnc, hcm, hcs, htake⟩
    · exact string_nil B b p w hbk
    · by_cases hc0 : cap = 0
      · subst hc0
        exact string_noroom B b g p cur w hBw hg hbk
      · exact string_room B b g cap p w hc0 hbk
  · rcases hown.2 with ⟨_, hz⟩ | ⟨g, cap, cur, rfl, hbg, hg, hnc, hcm, hcs, htake⟩
    · exact absurd (List.length_eq_zero_iff.1 hz) h0
    · exact string_full B b g cap p l cur w h0 hbg hg hnc hcm hcs (fun e => hne (by rw [e]; rfl)) hown' hbk

end Go.Proofs.Ytkpamgabhlplfaa

namespace Go.Proofs.Ytkpamgabhlplfaa
open Go.RowKit Go.Siskin

abbrev pb (b : Nat) : Value := .pointer (some ⟨b, 0, none⟩)

theorem joinC_ne {s : Int} (h : s ≠ 4) : ∀ (l : List (List UInt8)) (i j : Nat), joinC s i l = joinC 0 j l
  | [], i, j => rfl
  | a :: r, i, j => by
    have ih := joinC_ne h r (i + 1) (j + 1)
    simp only [joinC]
    rw [if_pos (Or.inr h), if_pos (Or.inr (by decide)), ih]
theorem joinC_four : ∀ (l : List (List UInt8)) (i j : Nat), joinC 4 (i + 1) l = joinC 0 j l
  | [], i, j => rfl
  | a :: r, i, j => by
    have ih := joinC_four r (i + 1) (j + 1)
    simp only [joinC]
    rw [if_pos (Or.inl (by omega)), if_pos (Or.inr (by decide)), ih]

def ShowCo (n : Nat) : Prop := ∀ c : Cm, c.sz ≤ n → ∀ (R : Nat → Prop) (w : World) (c0 c1 c2 c3 c4 : Value) (B b : Nat) (l : List UInt8), CoreAt R w c c0 c1 c2 c3 c4 → (∀ x, R x → x < B) → isS B b l w → B ≤ w.heap.size → l.length + (showC c).length ≤ 1000000000 →
    Calls Try.prog 63 #[pb b, .agg #[c0, c1, c2, c3, c4]] w fun e w' => e = .returned (.tuple #[]) ∧ isS B b (l ++ showC c) w' ∧ Wrote B b w w'
def KidsB (n : Nat) : Prop := ∀ ks : List Cm, Cm.szs ks ≤ n → ∀ (R : Nat → Prop) (w : World) (v : Value) (B b : Nat) (l : List UInt8), CoresAt R w v ks → (∀ x, R x → x < B) → isS B b l w → B ≤ w.heap.size → l.length + (joinC 0 0 (ks.map showC)).length + 1 ≤ 1000000000 →
    Calls Try.prog 106 #[pb b, v] w fun e w' => e = .returned (.tuple #[]) ∧ isS B b (l ++ joinC 0 0 (ks.map showC) ++ [41]) w' ∧ Wrote B b w w'

set_option maxRecDepth 20000 in
set_option maxHeartbeats 4000000 in
theorem kidsB_of (n : Nat) (ih : ShowCo n) : KidsB n := by
  intro ks hks R w v B b l hv hR hb hB hl
  obtain ⟨a, cap, rfl, hm, ha⟩ := hv
  unfold maxLen at hm
  have HI := hid ih
  have HR := hid hR
  have HB := hid hb
  have HL := hid hl
  have hbw := isS_lt hb
  clear ih hR hb hl
  go_enter Try.func106, Try.ntmps106
  go_wp2_with fail
  go_loopw [8] (fun i wr => ∃ k : Nat, k ≤ ks.length ∧ i = .int .i64 k ∧ Hid (isS B b (l ++ joinC 0 0 ((ks.map showC).take k)) wr) ∧ Hid (Wrote B b w wr)) (fun i _ => ks.length - (intOf i).toNat)
  case atStart => exact ⟨0, Nat.zero_le _, rfl, by show isS _ _ _ _; simpa [joinC] using HB.out, Wrote.refl _ _ _⟩
  case round =>
    obtain ⟨k, hk, rfl, HK, HW⟩ := hrel
    have hsz := HW.out.1.size
    by_cases hlt : k < ks.length
    · rcases ha with ha | ⟨g, o, rfl, hg, ha⟩
      · subst ha; simp at hlt
      obtain ⟨e0, e1, e2, e3, e4, g0, g1, g2, g3, g4, hf⟩ := CRowAt.get ks (CRowAt.keep (HW.out.1.on HR.out) hg ks ha) k hlt
      have HF := hid hf
      obtain ⟨rfl, rfl, -, rfl, h3, h4⟩ := (coreAt_iff _ _ _ _ _ _ _ _).1 hf
      obtain ⟨a3, k3, rfl, -⟩ := h3
      obtain ⟨a4, k4, rfl, -⟩ := h4
      have hgt : (ks.map showC)[k]'(by simpa using hlt) = showC ks[k] := by simp
      have HT := hid (joinC_take 0 (ks.map showC) k (by simpa using hlt))
      rw [hgt, if_pos (Or.inr (by decide))] at HT
      have hle := joinC_le 0 (ks.map showC) 0 (k + 1)
      rw [HT.out] at hle
      simp only [List.length_append, List.length_cons, List.length_nil] at hle
      have HLE := hid hle
      have hsk := Nat.le_trans (Cm.szs_get ks k hlt) hks
      have hgB := HR.out g hg
      clear ha hle hf hgt
      go_wp2_with fail
      refine (write_any B b _ ⟨#[32]⟩ _ (isS_alloc HK.out _) (by have h := HLE.out; have h2 := HL.out; simp only [List.length_append]; show _ + 1 ≤ _; omega) (by simp; omega)).mono ?_
      rintro e w1 ⟨rfl, hb1, hw1⟩
      have q1 := hw1.box (by have := isS_lt HK.out; exact this) (by decide)
      have s1 := hw1.1.size
      simp only [World.size_alloc] at s1
      have HB1 := hid hb1
      have HW1 := hid (((Wrote.refl B b wr).alloc (by omega) _).trans hw1)
      clear hb1 hw1
      have HQ := hid (HI.out ks[k] hsk R w1 _ _ _ _ _ B b _ (CoreAt.keep (HW1.out.1.on HR.out) _ HF.out) HR.out HB1.out (by omega) (by have h := HLE.out; have h2 := HL.out; simp only [List.length_append, List.length_cons, List.length_nil]; omega))
      go_wp2_with fail
      refine HQ.out.mono ?_
      rintro e w2 ⟨rfl, hb2, hw2⟩
      have HB2 := hid hb2
      have HW2 := hid hw2
      clear hb2 hw2 HQ q1
      go_wp2_with fail
      refine ⟨⟨k + 1, by omega, by go_num, ?_, (HW.out.trans HW1.out).trans HW2.out⟩, by simp [intOf]; omega⟩
      show isS _ _ _ _
      rw [HT.out]
      simpa using HB2.out
    · have h := HK.out
      rw [List.take_of_length_le (by simp; omega)] at h
      have HK' := hid h
      clear h
      go_wp2_with fail
      refine (write_any B b _ ⟨#[41]⟩ wr HK'.out (by have h2 := HL.out; simp only [List.length_append]; show _ + 1 ≤ _; omega) (by omega)).mono ?_
      rintro e w1 ⟨rfl, hb1, hw1⟩
      have HB1 := hid hb1
      have HW1 := hid hw1
      clear hb1 hw1
      go_wp2_with fail
      go_end0
      exact ⟨rfl, HB1.out, HW.out.trans HW1.out⟩

end Go.Proofs.Ytkpamgabhlplfaa
