/-
  A part in memory of its own: every list in a block of its own, no two in one. No program's step is walked here.
-/
import Derived.Test.YtghgilkdmdppcaaQ1
namespace Go.Proofs.Ytghgilkdmdppcaa
open Go.RowKit Go.Siskin

/-- A form whose lists lie in blocks of S, each in one of its own. -/
def CTree (w : World) : Cm → (Nat → Prop) → Value → Value → Prop
  | ⟨_, _, _, ns, ks⟩, S, c2, c4 => w.ownsRow 0 9 1 c2 ns.length (ns.map Value.string) ∧ (∀ g, c2.ownBlock = some g → S g) ∧
      ∃ (cs : List Value) (F : Nat → Nat → Prop), w.ownsRow 0 35 5 c4 ks.length cs ∧ (∀ g, c4.ownBlock = some g → S g ∧ c2.ownBlock ≠ some g) ∧
        (∀ i b, F i b → (S b ∧ c2.ownBlock ≠ some b) ∧ c4.ownBlock ≠ some b) ∧ (∀ i j b, i ≠ j → F i b → ¬ F j b) ∧
        ∀ (i : Nat) (hi : i < ks.length), ∃ k2 k4, cs[i * 5]? = some (.int .i64 ks[i].sort) ∧ cs[i * 5 + 1]? = some (.string ks[i].text) ∧ cs[i * 5 + 2]? = some (.bool ks[i].rest) ∧ cs[i * 5 + 3]? = some k2 ∧ cs[i * 5 + 4]? = some k4 ∧ (have := List.sizeOf_lt_of_mem (List.getElem_mem hi); CTree w ks[i] (F i) k2 k4)
/-- What a row of such forms has. -/
structure CParts (w : World) (S : Nat → Prop) (v : Value) (ks : List Cm) (cs : List Value) (F : Nat → Nat → Prop) : Prop where
  row : w.ownsRow 0 35 5 v ks.length cs
  own : ∀ g, v.ownBlock = some g → S g
  sub : ∀ i b, F i b → S b ∧ v.ownBlock ≠ some b
  apart : ∀ i j b, i ≠ j → F i b → ¬ F j b
  kid : ∀ (i : Nat) (hi : i < ks.length), ∃ k2 k4, cs[i * 5]? = some (.int .i64 ks[i].sort) ∧ cs[i * 5 + 1]? = some (.string ks[i].text) ∧ cs[i * 5 + 2]? = some (.bool ks[i].rest) ∧ cs[i * 5 + 3]? = some k2 ∧ cs[i * 5 + 4]? = some k4 ∧ CTree w ks[i] (F i) k2 k4
def CRow (w : World) (S : Nat → Prop) (v : Value) (ks : List Cm) : Prop := ∃ cs F, CParts w S v ks cs F
theorem ctree_iff (w : World) (f : Cm) (S : Nat → Prop) (c2 c4 : Value) : CTree w f S c2 c4 ↔ w.ownsRow 0 9 1 c2 f.names.length (f.names.map Value.string) ∧ (∀ g, c2.ownBlock = some g → S g) ∧ CRow w (fun b => S b ∧ c2.ownBlock ≠ some b) c4 f.kids := by
  obtain ⟨s, t, r, ns, ks⟩ := f
  rw [CTree]
  constructor
  · rintro ⟨h1, h2, cs, F, h3, h4, h5, h6, h7⟩
    exact ⟨h1, h2, cs, F, h3, h4, h5, h6, h7⟩
  · rintro ⟨h1, h2, cs, F, h3, h4, h5, h6, h7⟩
    exact ⟨h1, h2, cs, F, h3, h4, h5, h6, h7⟩

theorem crow_same {w w' : World} {e : TypeId} {s n : Nat} {v : Value} {xs : List Value} (h : w.ownsRow 0 e s v n xs) (hs : ∀ g, v.ownBlock = some g → w'.heap[g]? = w.heap[g]?) : w'.ownsRow 0 e s v n xs := by
  refine ⟨h.1, ?_⟩
  rcases h.2 with h2 | ⟨g, cap, cur, rfl, h3, h4, h5⟩
  · exact Or.inl h2
  · exact Or.inr ⟨g, cap, cur, rfl, h3, (hs g rfl).trans h4, h5⟩
theorem crow_base {w : World} {base : Nat} {e : TypeId} {s n : Nat} {v : Value} {xs : List Value} (h : w.ownsRow base e s v n xs) : w.ownsRow 0 e s v n xs := by
  refine ⟨h.1, ?_⟩
  rcases h.2 with h2 | ⟨g, cap, cur, rfl, h3, h4, h5⟩
  · exact Or.inl h2
  · exact Or.inr ⟨g, cap, cur, rfl, Nat.zero_le _, h4, h5⟩

theorem ctkeep_upto : ∀ (n : Nat) (f : Cm), f.sz ≤ n → ∀ {S : Nat → Prop} {w w' : World} {c2 c4 : Value}, SameOn S w w' → CTree w f S c2 c4 → CTree w' f S c2 c4
  | 0, f, hn, _, _, _, _, _, _ => by have := Cm.sz_kids f; omega
  | n + 1, f, hn, S, w, w', c2, c4, hs => fun h => by
    have hsz := Cm.sz_kids f
    rw [ctree_iff] at h ⊢
    obtain ⟨h1, h2, cs, F, h3⟩ := h
    refine ⟨crow_same h1 fun g e => hs g (h2 g e), h2, cs, F, crow_same h3.row fun g e => hs g (h3.own g e).1, h3.own, h3.sub, h3.apart, fun i hi => ?_⟩
    obtain ⟨k2, k4, e0, e1, e2, e3, e4, e5⟩ := h3.kid i hi
    exact ⟨k2, k4, e0, e1, e2, e3, e4, ctkeep_upto n _ (by have := Cm.szs_get f.kids i hi; omega) (fun b hb => hs b (h3.sub i b hb).1.1) e5⟩
theorem CTree.keep {S : Nat → Prop} {w w' : World} {f : Cm} {c2 c4 : Value} (h : CTree w f S c2 c4) (hs : SameOn S w w') : CTree w' f S c2 c4 := ctkeep_upto f.sz f (Nat.le_refl _) hs h
theorem CParts.keep {S : Nat → Prop} {w w' : World} {v : Value} {ks : List Cm} {cs : List Value} {F : Nat → Nat → Prop} (h : CParts w S v ks cs F) (hs : SameOn S w w') : CParts w' S v ks cs F :=
  ⟨crow_same h.row fun g e => hs g (h.own g e), h.own, h.sub, h.apart, fun i hi => by
    obtain ⟨k2, k4, e0, e1, e2, e3, e4, e5⟩ := h.kid i hi
    exact ⟨k2, k4, e0, e1, e2, e3, e4, e5.keep fun b hb => hs b (h.sub i b hb).1⟩⟩
theorem CRow.keep {S : Nat → Prop} {w w' : World} {v : Value} {ks : List Cm} (h : CRow w S v ks) (hs : SameOn S w w') : CRow w' S v ks := by
  obtain ⟨cs, F, h⟩ := h
  exact ⟨cs, F, h.keep hs⟩
theorem CRow.mono {S S' : Nat → Prop} {w : World} {v : Value} {ks : List Cm} (h : CRow w S v ks) (hs : ∀ b, S b → S' b) : CRow w S' v ks := by
  obtain ⟨cs, F, h⟩ := h
  exact ⟨cs, F, h.row, fun g e => hs g (h.own g e), fun i b hb => ⟨hs b (h.sub i b hb).1, (h.sub i b hb).2⟩, h.apart, h.kid⟩
theorem CTree.mono {S S' : Nat → Prop} {w : World} {f : Cm} {c2 c4 : Value} (h : CTree w f S c2 c4) (hs : ∀ b, S b → S' b) : CTree w f S' c2 c4 := by
  rw [ctree_iff] at h ⊢
  exact ⟨h.1, fun g e => hs g (h.2.1 g e), h.2.2.mono fun b hb => ⟨hs b hb.1, hb.2⟩⟩

theorem row_strs {B : Nat → Prop} {w : World} {v : Value} {xs : List ByteArray} (h1 : w.ownsRow 0 9 1 v xs.length (xs.map Value.string)) (h2 : ∀ g, v.ownBlock = some g → B g) (hm : ∀ i (hi : i < xs.length), xs[i].size ≤ maxLen) : StrsAt B w v xs := by
  rcases h1.2 with ⟨rfl, h0⟩ | ⟨g, cap, cur, rfl, hb, hg, hcap, hx, -, -⟩
  · have : xs = [] := List.length_eq_zero_iff.1 h0
    subst this
    exact ⟨none, 0, rfl, ⟨Nat.zero_le _, Nat.le_refl _⟩, fun i hi => absurd hi (by simp), Or.inl rfl⟩
  · refine ⟨some ⟨g, 0, none⟩, cap, rfl, ⟨by omega, by omega⟩, hm, Or.inr ⟨g, 0, rfl, h2 g rfl, fun i hi => ?_⟩⟩
    have k := h1.cells (g := g) rfl i (.string xs[i]) (by rw [List.getElem?_map, List.getElem?_eq_getElem hi]; rfl)
    rw [Go.WideShapes.add_plain] at k
    exact k
theorem strc_get (ns : List ByteArray) (i : Nat) (hi : i < ns.length) : ns[i].size ≤ strc ns := by
  have h1 := sums_take ns i hi
  have h2 := sums_take_le ns (i + 1)
  unfold strc
  omega
theorem crow_shape {w : World} {base size n : Nat} {e : TypeId} {v : Value} {xs : List Value} (h : w.ownsRow base e size v n xs) : ∃ a c, v = .slice a n c := by
  rcases h.2 with ⟨rfl, rfl⟩ | ⟨g, cap, cur, rfl, -⟩
  · exact ⟨none, 0, rfl⟩
  · exact ⟨_, _, rfl⟩
theorem ctshape {w : World} {f : Cm} {S : Nat → Prop} {c2 c4 : Value} (h : CTree w f S c2 c4) : (∃ a c, c2 = .slice a f.names.length c) ∧ ∃ a c, c4 = .slice a f.kids.length c := by
  rw [ctree_iff] at h
  obtain ⟨h1, -, cs, F, h3⟩ := h
  exact ⟨crow_shape h1, crow_shape h3.row⟩

theorem ctform_upto : ∀ (n : Nat) (f : Cm), f.sz ≤ n → f.cost ≤ maxLen → ∀ {S : Nat → Prop} {w : World} {c2 c4 : Value}, CTree w f S c2 c4 → CoreAt S w f (.int .i64 f.sort) (.string f.text) (.bool f.rest) c2 c4
  | 0, f, hn, _, _, _, _, _ => by have := Cm.sz_kids f; omega
  | n + 1, f, hn, hc, S, w, c2, c4 => fun h => by
    have hsz := Cm.sz_kids f
    have hce := Cm.cost_eq f
    rw [ctree_iff] at h
    obtain ⟨h1, h2, cs, F, h3⟩ := h
    rw [coreAt_iff]
    refine ⟨rfl, rfl, by omega, rfl, ?_, ?_⟩
    · exact row_strs h1 h2 fun i hi => by have := strc_get f.names i hi; omega
    · have r1 := h3.row
      have r1' := h3.row
      rcases r1.2 with ⟨rfl, h0⟩ | ⟨g, cap, cur, rfl, hb, hg, hcap, -, -, -⟩
      · have : f.kids = [] := List.length_eq_zero_iff.1 h0
        rw [this]
        exact ⟨none, 0, rfl, ⟨Nat.zero_le _, Nat.le_refl _⟩, Or.inl rfl⟩
      · refine ⟨some ⟨g, 0, none⟩, cap, rfl, ⟨by omega, hcap⟩, Or.inr ⟨g, 0, rfl, (h3.own g rfl).1, CRowAt.mk _ fun i hi => ?_⟩⟩
        obtain ⟨k2, k4, e0, e1, e2, e3, e4, e5⟩ := h3.kid i hi
        have k := r1'.cells (g := g) rfl
        have q0 := k _ _ e0
        have q1 := k _ _ e1
        have q2 := k _ _ e2
        have q3 := k _ _ e3
        have q4 := k _ _ e4
        rw [Go.WideShapes.add_plain] at q0 q1 q2 q3 q4
        exact ⟨_, _, _, _, _, q0, q1, q2, q3, q4, CoreAt.mono (fun b hb => (h3.sub i b hb).1.1) _ (ctform_upto n _ (by have := Cm.szs_get f.kids i hi; omega) (by have := Cm.costs_get f.kids i hi; omega) e5)⟩
theorem CTree.form {S : Nat → Prop} {w : World} {f : Cm} {c2 c4 : Value} (h : CTree w f S c2 c4) (hc : f.cost ≤ maxLen) : CoreAt S w f (.int .i64 f.sort) (.string f.text) (.bool f.rest) c2 c4 := ctform_upto f.sz f (Nat.le_refl _) hc h

end Go.Proofs.Ytghgilkdmdppcaa
