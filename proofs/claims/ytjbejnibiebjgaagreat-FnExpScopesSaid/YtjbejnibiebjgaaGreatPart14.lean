/-
  How a form is shown, as the model does it on trees and as the program does it inside, and that both are one where the form is ok. No program's step is walked here.
  Plainly: a scope put twice is put once; turned twice, a form is as it was; both leave an ok form ok, and what is shown. No program's step is walked here.
-/
import Derived.Test.YtjbejnibiebjgaaGreatPart6
import Derived.Test.YtjbejnibiebjgaaGreatPart13
namespace Go.Proofs.YtjbejnibiebjgaaGreat
open Go.RowKit Go.Siskin

/-- Texts one after another, a blank between two; before the last of n parts, where s is 4, a dot. -/
def joinK (s : Int) (n : Nat) (i : Nat) : List (List UInt8) → List UInt8
  | [] => []
  | k :: r => (if 0 < i then [32] else []) ++ (if s = 4 ∧ i + 1 = n then [46, 32] else []) ++ k ++ joinK s n (i + 1) r
def joinI (i : Nat) : List (List UInt8) → List UInt8
  | [] => []
  | p :: r => (if 0 < i then [32] else []) ++ p ++ joinI (i + 1) r
def showF : Fm → List UInt8
  | ⟨s, t, _, _, ks⟩ => if s = 1 then t.data.toList else if s = 2 then t.data.toList else [40] ++ joinK s ks.length 0 (ks.map fun k => showF k) ++ [41]
def showKs (s : Int) (n : Nat) (i : Nat) (ks : List Fm) : List UInt8 := joinK s n i (ks.map fun k => showF k)
theorem showKs_nil (s : Int) (n i : Nat) : showKs s n i [] = [] := rfl
theorem showKs_cons (s : Int) (n i : Nat) (k : Fm) (r : List Fm) : showKs s n i (k :: r) = (if 0 < i then [32] else []) ++ (if s = 4 ∧ i + 1 = n then [46, 32] else []) ++ showF k ++ showKs s n (i + 1) r := rfl
def showI : Im → List UInt8
  | ⟨k, t, _, _, ps, es⟩ => if k = 1 then t.data.toList else if k = 2 then t.data.toList else if k = 3 then [40] ++ joinI 0 (ps.map fun p => showI p) ++ [41] else [40] ++ joinI 0 (ps.map fun p => showI p) ++ [32, 46, 32] ++ (es.map fun p => showI p).flatten ++ [41]
def showIs (i : Nat) (ps : List Im) : List UInt8 := joinI i (ps.map fun p => showI p)
theorem showIs_nil (i : Nat) : showIs i [] = [] := rfl
theorem showIs_cons (i : Nat) (p : Im) (r : List Im) : showIs i (p :: r) = (if 0 < i then [32] else []) ++ showI p ++ showIs (i + 1) r := rfl
theorem showI_id (t : ByteArray) (sc : List Int) (fr : Int) : showI (.id t sc fr) = t.data.toList := by unfold Im.id; rw [showI, if_pos rfl]
theorem showI_atom (t : ByteArray) : showI (.atom t) = t.data.toList := by unfold Im.atom; rw [showI, if_neg (by decide), if_pos rfl]
theorem showI_list (ps : List Im) : showI (.list ps) = [40] ++ showIs 0 ps ++ [41] := by unfold Im.list; rw [showI, if_neg (by decide), if_neg (by decide), if_pos rfl]; rfl
theorem showI_dots (ps : List Im) (l : Im) : showI (.dots ps l) = [40] ++ showIs 0 ps ++ [32, 46, 32] ++ showI l ++ [41] := by
  unfold Im.dots; rw [showI, if_neg (by decide), if_neg (by decide), if_neg (by decide)]; simp [showIs]

theorem showF_leaf (f : Fm) (h : f.sort = 1 ∨ f.sort = 2) : showF f = f.text.data.toList := by
  obtain ⟨s, t, sc, fr, ks⟩ := f
  rcases h with h | h <;> rw [showF] <;> simp only at h ⊢ <;> simp [h]
theorem showF_list (f : Fm) (h1 : f.sort ≠ 1) (h2 : f.sort ≠ 2) : showF f = [40] ++ showKs f.sort f.kids.length 0 f.kids ++ [41] := by
  obtain ⟨s, t, sc, fr, ks⟩ := f
  rw [showF, if_neg h1, if_neg h2]; rfl

theorem showKs_snoc (s : Int) (n : Nat) : ∀ (l : List Fm) (i : Nat) (k : Fm), showKs s n i (l ++ [k]) = showKs s n i l ++ ((if 0 < i + l.length then [32] else []) ++ (if s = 4 ∧ i + l.length + 1 = n then [46, 32] else []) ++ showF k)
  | [], i, k => by simp [showKs, joinK]
  | a :: r, i, k => by
    have ih := showKs_snoc s n r (i + 1) k
    simp only [List.cons_append, showKs_cons, ih, List.append_assoc, List.length_cons]
    rw [show i + 1 + r.length = i + (r.length + 1) from by omega]
theorem showKs_take (s : Int) (n : Nat) (ks : List Fm) (k : Nat) (h : k < ks.length) : showKs s n 0 (ks.take (k + 1)) = showKs s n 0 (ks.take k) ++ ((if 0 < k then [32] else []) ++ (if s = 4 ∧ k + 1 = n then [46, 32] else []) ++ showF ks[k]) := by
  rw [List.take_succ_eq_append_getElem h, showKs_snoc]
  simp only [List.length_take, Nat.zero_add, Nat.min_eq_left (Nat.le_of_lt h)]
theorem showKs_le (s : Int) (n : Nat) : ∀ (ks : List Fm) (i k : Nat), (showKs s n i (ks.take k)).length ≤ (showKs s n i ks).length
  | [], i, k => by simp [showKs, joinK]
  | a :: r, i, 0 => by simp [showKs, joinK]
  | a :: r, i, k + 1 => by
    have ih := showKs_le s n r (i + 1) k
    simp only [List.take_succ_cons, showKs_cons, List.length_append]; omega
theorem showIs_snoc : ∀ (l : List Im) (i : Nat) (p : Im), showIs i (l ++ [p]) = showIs i l ++ ((if 0 < i + l.length then [32] else []) ++ showI p)
  | [], i, p => by simp [showIs, joinI]
  | a :: r, i, p => by
    have ih := showIs_snoc r (i + 1) p
    simp only [List.cons_append, showIs_cons, ih, List.append_assoc, List.length_cons]
    rw [show i + 1 + r.length = i + (r.length + 1) from by omega]
theorem showIs_take (ps : List Im) (k : Nat) (h : k < ps.length) : showIs 0 (ps.take (k + 1)) = showIs 0 (ps.take k) ++ ((if 0 < k then [32] else []) ++ showI ps[k]) := by
  rw [List.take_succ_eq_append_getElem h, showIs_snoc]
  simp only [List.length_take, Nat.zero_add, Nat.min_eq_left (Nat.le_of_lt h)]
theorem showIs_le : ∀ (ps : List Im) (i k : Nat), (showIs i (ps.take k)).length ≤ (showIs i ps).length
  | [], i, k => by simp [showIs, joinI]
  | a :: r, i, 0 => by simp [showIs, joinI]
  | a :: r, i, k + 1 => by
    have ih := showIs_le r (i + 1) k
    simp only [List.take_succ_cons, showIs_cons, List.length_append]; omega

/-- Without the dots, a list's parts are shown alike. -/
theorem shows_alike : ∀ (ks : List Fm) (s : Int) (n i : Nat), (∀ k ∈ ks, showI (toIm k) = showF k) → (s ≠ 4 ∨ i + ks.length < n) → showIs i (toIms ks) = showKs s n i ks
  | [], s, n, i, _, _ => by rfl
  | k :: r, s, n, i, h, hn => by
    have ih := shows_alike r s n (i + 1) (fun x hx => h x (List.mem_cons_of_mem _ hx)) (by simp only [List.length_cons] at hn; omega)
    have hc : ¬ (s = 4 ∧ i + 1 = n) := by simp only [List.length_cons] at hn; omega
    rw [show toIms (k :: r) = toIm k :: toIms r from rfl]
    simp only [showIs_cons, showKs_cons, ih, h k List.mem_cons_self, if_neg hc, List.append_nil]

theorem oksB_mem : ∀ (ks : List Fm) (d : Nat), oksB ks d = true → ∀ k ∈ ks, okB k d = true
  | [], _, _, k, hk => by simp at hk
  | a :: r, d, h, k, hk => by
    simp only [oksB_cons, Bool.and_eq_true] at h
    rcases List.mem_cons.1 hk with rfl | hk
    · exact h.1
    · exact oksB_mem r d h.2 k hk
theorem sz_mem : ∀ (ks : List Fm) (k : Fm), k ∈ ks → k.sz ≤ Fm.szs ks
  | [], _, hk => by simp at hk
  | a :: r, k, hk => by
    rw [Fm.szs_cons]
    rcases List.mem_cons.1 hk with rfl | hk
    · omega
    · have := sz_mem r k hk; omega
theorem toIms_append : ∀ (l : List Fm) (k : Fm), toIms (l ++ [k]) = toIms l ++ [toIm k]
  | [], k => by simp [toIms]
  | a :: r, k => by simp [toIms]

theorem show_ok : ∀ (n : Nat) (f : Fm) (d : Nat), f.sz ≤ n → okB f d = true → showI (toIm f) = showF f
  | 0, f, _, hn, _ => by have := Fm.sz_kids f; omega
  | n + 1, f, d, hn, hok => by
    have hsz := Fm.sz_kids f
    have hd : d ≤ 60 := by
      rw [okB_eq] at hok
      simp only [Bool.and_eq_true, decide_eq_true_eq] at hok
      exact hok.1.1.1
    by_cases s1 : f.sort = 1
    · rw [toIm_id f s1, showF_leaf f (Or.inl s1), showI_id]
    by_cases s2 : f.sort = 2
    · rw [toIm_atom f s2, showF_leaf f (Or.inr s2), showI_atom]
    by_cases s3 : f.sort = 3
    · rw [okB_list f d hd s3, Bool.and_eq_true] at hok
      have hk : ∀ k ∈ f.kids, showI (toIm k) = showF k := fun k hk => show_ok n k (d + 1) (by have := sz_mem f.kids k hk; omega) (oksB_mem f.kids (d + 1) hok.2 k hk)
      rw [toIm_list f s3, showF_list f s1 s2, s3, showI_list]
      rw [shows_alike f.kids 3 f.kids.length 0 hk (Or.inl (by decide))]
    by_cases s4 : f.sort = 4
    · rw [okB_dots f d hd s4, Bool.and_eq_true, Bool.and_eq_true] at hok
      have hk : ∀ k ∈ f.kids, showI (toIm k) = showF k := fun k hk => show_ok n k (d + 1) (by have := sz_mem f.kids k hk; omega) (oksB_mem f.kids (d + 1) hok.1.2 k hk)
      have he := hok.2
      unfold endB at he
      rw [Bool.and_eq_true, decide_eq_true_eq] at he
      rw [toIm_dots f s4, showF_list f s1 s2, s4, showI_dots]
      generalize f.kids = ks at hk he
      have hne : ks ≠ [] := by intro e; rw [e] at he; simp at he
      obtain ⟨l, k, rfl⟩ : ∃ l k, ks = l ++ [k] := ⟨ks.dropLast, ks.getLast hne, (List.dropLast_concat_getLast hne).symm⟩
      have hl : 1 ≤ l.length := by have := he.1; simp at this; omega
      rw [toIms_append, List.dropLast_concat, showKs_snoc, shows_alike l 4 (l ++ [k]).length 0 (fun x hx => hk x (List.mem_append_left _ hx)) (Or.inr (by simp))]
      have e1 : ((toIms l ++ [toIm k]).getD ((toIms l ++ [toIm k]).length - 1) Im.no) = toIm k := by simp
      rw [e1, hk k (by simp)]
      rw [if_pos (show 0 < 0 + l.length by omega), if_pos (show (4 : Int) = 4 ∧ 0 + l.length + 1 = (l ++ [k]).length by simp)]
      simp
    · rw [okB_none f d s1 s2 s3 s4] at hok; cases hok

/-- An ok form's text is short. -/
theorem showF_short : ∀ (n : Nat) (f : Fm) (d : Nat), f.sz ≤ n → okB f d = true → (showF f).length + 10 ≤ 100 * f.sz
  | 0, f, _, hn, _ => by have := Fm.sz_kids f; omega
  | n + 1, f, d, hn, hok => by
    have hsz := Fm.sz_kids f
    have hd : d ≤ 60 := by
      rw [okB_eq] at hok
      simp only [Bool.and_eq_true, decide_eq_true_eq] at hok
      exact hok.1.1.1
    by_cases s1 : f.sort = 1
    · rw [showF_leaf f (Or.inl s1)]
      rw [okB_id f d hd s1] at hok
      unfold idFormB at hok
      simp only [Bool.and_eq_true, decide_eq_true_eq] at hok
      have := hok.1.1.1.2
      simp; omega
    by_cases s2 : f.sort = 2
    · rw [showF_leaf f (Or.inr s2)]
      rw [okB_atom f d hd s2] at hok
      unfold atomFormB at hok
      simp only [Bool.and_eq_true, decide_eq_true_eq] at hok
      have := hok.1.1.2
      simp; omega
    have hoks : oksB f.kids (d + 1) = true := by
      rw [okB_eq] at hok
      simp only [Bool.and_eq_true] at hok
      exact hok.1.2
    rw [showF_list f s1 s2]
    have hks : ∀ (ks : List Fm) (s : Int) (m i : Nat), Fm.szs ks ≤ n → oksB ks (d + 1) = true → (showKs s m i ks).length ≤ 100 * Fm.szs ks := by
      intro ks s m
      induction ks with
      | nil => intro i _ _; simp [showKs, joinK]
      | cons a r ih =>
        intro i hs ho
        simp only [oksB_cons, Bool.and_eq_true] at ho
        simp only [Fm.szs_cons] at hs ⊢
        have h1 := showF_short n a (d + 1) (by omega) ho.1
        have h2 := ih (i + 1) (by omega) ho.2
        simp only [showKs_cons, List.length_append]
        have e1 : (if 0 < i then [(32 : UInt8)] else []).length ≤ 1 := by split <;> simp
        have e2 : (if s = 4 ∧ i + 1 = m then [(46 : UInt8), 32] else []).length ≤ 2 := by split <;> simp
        omega
    have := hks f.kids f.sort f.kids.length 0 (by omega) hoks
    simp only [List.length_append, List.length_cons, List.length_nil]
    omega

end Go.Proofs.YtjbejnibiebjgaaGreat

namespace Go.Proofs.YtjbejnibiebjgaaGreat
open Go.RowKit Go.Siskin

theorem cut_split {n : Int} : ∀ {xs : List Int}, Up xs → (∀ y ∈ xs.take (cutB n xs), y < n) ∧ (∀ y ∈ xs.drop (cutB n xs), n ≤ y)
  | [], _ => ⟨fun y hy => by simp at hy, fun y hy => by simp at hy⟩
  | x :: r, h => by
    obtain ⟨h1, h2⟩ := List.pairwise_cons.1 h
    have ih := cut_split (n := n) h2
    by_cases hx : x < n
    · have e : cutB n (x :: r) = cutB n r + 1 := by
        unfold cutB; rw [List.takeWhile_cons_of_pos (by simpa using hx)]; rfl
      rw [e, List.take_succ_cons, List.drop_succ_cons]
      refine ⟨fun y hy => ?_, ih.2⟩
      rcases List.mem_cons.1 hy with rfl | hy
      · exact hx
      · exact ih.1 y hy
    · have e : cutB n (x :: r) = 0 := by
        unfold cutB; rw [List.takeWhile_cons_of_neg (by simpa using hx)]; rfl
      rw [e, List.take_zero, List.drop_zero]
      refine ⟨fun y hy => (by cases hy), fun y hy => ?_⟩
      rcases List.mem_cons.1 hy with rfl | hy
      · omega
      · have := h1 y hy; omega
theorem up_asc : ∀ {xs : List Int}, Up xs → ascB xs = true
  | [], _ => rfl
  | [_], _ => rfl
  | a :: b :: r, h => by
    obtain ⟨h1, h2⟩ := List.pairwise_cons.1 h
    unfold ascB
    rw [up_asc h2, decide_eq_true (h1 b List.mem_cons_self)]; rfl
theorem scopes_up (xs : List Int) : scopesB xs = true ↔ Up xs ∧ ∀ x ∈ xs, 0 ≤ x := by
  unfold scopesB
  rw [Bool.and_eq_true, List.all_eq_true]
  constructor
  · rintro ⟨h1, h2⟩
    exact ⟨asc_up xs h1, fun x hx => by simpa using h2 x hx⟩
  · rintro ⟨h1, h2⟩
    exact ⟨up_asc h1, fun x hx => by simpa using h2 x hx⟩
theorem mid_up {n : Int} {xs : List Int} (h : Up xs) (hc : xs.contains n = false) : Up (xs.take (cutB n xs) ++ [n] ++ xs.drop (cutB n xs)) := by
  have hs := cut_split (n := n) h
  have hd : ∀ y ∈ xs.drop (cutB n xs), n < y := fun y hy => by
    have h1 := hs.2 y hy
    have h2 : y ≠ n := fun e => by
      subst e
      rw [Bool.eq_false_iff] at hc
      exact hc (by simpa using List.mem_of_mem_drop hy)
    omega
  refine List.pairwise_append.2 ⟨List.pairwise_append.2 ⟨List.Pairwise.sublist (List.take_sublist _ _) h, List.pairwise_singleton _ _, fun x hx y hy => ?_⟩, List.Pairwise.sublist (List.drop_sublist _ _) h, fun x hx y hy => ?_⟩
  · rw [List.mem_singleton] at hy
    subst hy
    exact hs.1 x hx
  · rcases List.mem_append.1 hx with hx | hx
    · have := hs.1 x hx
      have := hd y hy
      omega
    · rw [List.mem_singleton] at hx
      subst hx
      exact hd y hy
theorem mid_mem {n x : Int} {xs : List Int} (h : x ∈ xs.take (cutB n xs) ++ [n] ++ xs.drop (cutB n xs)) : x = n ∨ x ∈ xs := by
  rcases List.mem_append.1 h with h | h
  · rcases List.mem_append.1 h with h | h
    · exact Or.inr (List.mem_of_mem_take h)
    · exact Or.inl (List.mem_singleton.1 h)
  · exact Or.inr (List.mem_of_mem_drop h)
theorem put_scopes {n : Int} (hn : 0 ≤ n) (xs : List Int) (h : scopesB xs = true) : scopesB (putB n xs) = true := by
  rw [scopes_up] at h ⊢
  unfold putB
  cases hc : xs.contains n with
  | true => simpa using h
  | false =>
    rw [if_neg (by decide)]
    refine ⟨mid_up h.1 hc, fun x hx => ?_⟩
    rcases mid_mem hx with rfl | hx
    · exact hn
    · exact h.2 x hx
theorem flip_scopes {n : Int} (hn : 0 ≤ n) (xs : List Int) (h : scopesB xs = true) : scopesB (flipB n xs) = true := by
  rw [scopes_up] at h ⊢
  unfold flipB
  cases hc : xs.contains n with
  | true =>
    rw [if_pos rfl]
    unfold lessB
    exact ⟨List.Pairwise.filter _ h.1, fun x hx => h.2 x (List.mem_filter.1 hx).1⟩
  | false =>
    rw [if_neg (by decide)]
    refine ⟨mid_up h.1 hc, fun x hx => ?_⟩
    rcases mid_mem hx with rfl | hx
    · exact hn
    · exact h.2 x hx
theorem put_put (n : Int) (xs : List Int) : putB n (putB n xs) = putB n xs := by
  have h : (putB n xs).contains n = true := by
    unfold putB
    cases hc : xs.contains n with
    | true => simpa using hc
    | false => simp
  rw [putB, if_pos h]
theorem flip_flip (n : Int) (xs : List Int) (h : Up xs) : flipB n (flipB n xs) = xs := by
  cases hc : xs.contains n with
  | true =>
    have e1 : flipB n xs = lessB n xs := by unfold flipB; rw [if_pos hc]
    have hu : Up (lessB n xs) := by unfold lessB; exact List.Pairwise.filter _ h
    have hc2 : (lessB n xs).contains n = false := by
      rw [Bool.eq_false_iff]
      intro hh
      have hm : n ∈ lessB n xs := by simpa using hh
      unfold lessB at hm
      have := (List.mem_filter.1 hm).2
      simp at this
    have hcut : cutB n (lessB n xs) = cutB n xs := by
      rw [← cut_count hu, ← cut_count h]
      unfold lessB
      rw [List.countP_filter]
      apply List.countP_congr
      intro x _
      simp
      omega
    rw [e1]
    unfold flipB
    rw [hc2, if_neg (by decide), hcut, less_cut h hc]
    have hg := cut_has h hc
    have hlt : cutB n xs < xs.length := (List.getElem?_eq_some_iff.1 hg).1
    have hgn : xs[cutB n xs] = n := (List.getElem?_eq_some_iff.1 hg).2
    have hl : (xs.take (cutB n xs)).length = cutB n xs := by rw [List.length_take]; omega
    have t1 : (xs.take (cutB n xs) ++ xs.drop (cutB n xs + 1)).take (cutB n xs) = xs.take (cutB n xs) := List.take_left' hl
    have t2 : (xs.take (cutB n xs) ++ xs.drop (cutB n xs + 1)).drop (cutB n xs) = xs.drop (cutB n xs + 1) := List.drop_left' hl
    rw [t1, t2, List.append_assoc, List.singleton_append]
    conv => lhs; rw [← hgn]
    have h3 : xs[cutB n xs] :: xs.drop (cutB n xs + 1) = xs.drop (cutB n xs) := (List.drop_eq_getElem_cons hlt).symm
    have h4 : xs.take (cutB n xs) ++ (xs[cutB n xs] :: xs.drop (cutB n xs + 1)) = xs := by rw [h3, List.take_append_drop]
    simpa [hgn] using h4
  | false =>
    have e1 : flipB n xs = xs.take (cutB n xs) ++ [n] ++ xs.drop (cutB n xs) := by unfold flipB; rw [hc, if_neg (by decide)]
    have hne : ∀ y ∈ xs, y ≠ n := fun y hy e => by
      subst e
      rw [Bool.eq_false_iff] at hc
      exact hc (by simpa using hy)
    rw [e1]
    have hc2 : (xs.take (cutB n xs) ++ [n] ++ xs.drop (cutB n xs)).contains n = true := by simp
    rw [flipB, if_pos hc2]
    unfold lessB
    have f1 : (xs.take (cutB n xs)).filter (fun x => x != n) = xs.take (cutB n xs) := List.filter_eq_self.2 fun y hy => by simpa using hne y (List.mem_of_mem_take hy)
    have f2 : (xs.drop (cutB n xs)).filter (fun x => x != n) = xs.drop (cutB n xs) := List.filter_eq_self.2 fun y hy => by simpa using hne y (List.mem_of_mem_drop hy)
    rw [List.filter_append, List.filter_append, f1, f2]
    simp

theorem chF_fields (g : List Int → List Int) (f : Fm) : (chF g f).sort = f.sort ∧ (chF g f).text = f.text ∧ (chF g f).frm = f.frm ∧ (chF g f).kids = f.kids.map (chF g) ∧ (chF g f).scopes = if f.sort = 1 then g f.scopes else f.scopes := by
  rw [chF_eq]; exact ⟨rfl, rfl, rfl, rfl, rfl⟩
theorem szs_map (g : List Int → List Int) : ∀ (ks : List Fm), (∀ k ∈ ks, (chF g k).sz = k.sz) → Fm.szs (ks.map (chF g)) = Fm.szs ks
  | [], _ => rfl
  | k :: r, h => by
    rw [List.map_cons, Fm.szs_cons, Fm.szs_cons, h k List.mem_cons_self, szs_map g r fun x hx => h x (List.mem_cons_of_mem _ hx)]
theorem mem_sz {k : Fm} {f : Fm} (h : k ∈ f.kids) : k.sz < f.sz := by
  obtain ⟨i, hi, e⟩ := List.mem_iff_getElem.1 h
  have h1 := Fm.szs_get f.kids i hi
  have h2 := Fm.sz_kids f
  rw [e] at h1
  omega
theorem chF_sz (g : List Int → List Int) : ∀ (n : Nat) (f : Fm), f.sz ≤ n → (chF g f).sz = f.sz
  | 0, f, h => by have := Fm.sz_kids f; omega
  | n + 1, f, h => by
    rw [Fm.sz_kids, Fm.sz_kids f, (chF_fields g f).2.2.2.1, szs_map g f.kids fun k hk => chF_sz g n k (by have := mem_sz hk; omega)]
theorem costs_map {g : List Int → List Int} : ∀ (ks : List Fm), (∀ k ∈ ks, (chF g k).cost ≤ k.cost + k.sz) → Fm.costs (ks.map (chF g)) ≤ Fm.costs ks + Fm.szs ks
  | [], _ => Nat.le_refl _
  | k :: r, h => by
    have h1 := h k List.mem_cons_self
    have h2 := costs_map r fun x hx => h x (List.mem_cons_of_mem _ hx)
    rw [List.map_cons, Fm.costs_cons, Fm.costs_cons, Fm.szs_cons]
    omega
theorem chF_cost {g : List Int → List Int} (hg : ∀ xs, (g xs).length ≤ xs.length + 1) : ∀ (n : Nat) (f : Fm), f.sz ≤ n → (chF g f).cost ≤ f.cost + f.sz
  | 0, f, h => by have := Fm.sz_kids f; omega
  | n + 1, f, h => by
    obtain ⟨-, h2, -, h4, h5⟩ := chF_fields g f
    have hk := costs_map (g := g) f.kids fun k hk => chF_cost hg n k (by have := mem_sz hk; omega)
    have hs : (chF g f).scopes.length ≤ f.scopes.length + 1 := by
      rw [h5]
      split
      · exact hg _
      · omega
    have hz := Fm.sz_kids f
    rw [Fm.cost_eq, Fm.cost_eq f, h2, h4, List.length_map]
    omega
theorem oks_map {g : List Int → List Int} {d : Nat} : ∀ (ks : List Fm), (∀ k ∈ ks, okB k d = true → okB (chF g k) d = true) → oksB ks d = true → oksB (ks.map (chF g)) d = true
  | [], _, _ => rfl
  | k :: r, h, ho => by
    rw [oksB_cons, Bool.and_eq_true] at ho
    rw [List.map_cons, oksB_cons, h k List.mem_cons_self ho.1, oks_map r (fun x hx => h x (List.mem_cons_of_mem _ hx)) ho.2]; rfl
theorem end_map (g : List Int → List Int) (ks : List Fm) : endB (ks.map (chF g)) = endB ks := by
  unfold endB
  rw [List.length_map]
  by_cases h : 1 < ks.length
  · have e : ((ks.map (chF g)).getD (ks.length - 1) Fm.no).sort = (ks.getD (ks.length - 1) Fm.no).sort := by
      rw [List.getD_eq_getElem?_getD, List.getD_eq_getElem?_getD, List.getElem?_map, List.getElem?_eq_getElem (by omega)]
      exact (chF_fields g _).1
    rw [e]
  · rw [decide_eq_false h]; rfl
theorem oks_mem {d : Nat} : ∀ {ks : List Fm}, oksB ks d = true → ∀ k ∈ ks, okB k d = true
  | [], _, k, hk => by cases hk
  | a :: r, h, k, hk => by
    rw [oksB_cons, Bool.and_eq_true] at h
    rcases List.mem_cons.1 hk with rfl | hk
    · exact h.1
    · exact oks_mem h.2 k hk
theorem chF_ok {g : List Int → List Int} (hg : ∀ xs, scopesB xs = true → scopesB (g xs) = true) : ∀ (n : Nat) (f : Fm), f.sz ≤ n → ∀ d, okB f d = true → okB (chF g f) d = true
  | 0, f, h, _, _ => by have := Fm.sz_kids f; omega
  | n + 1, f, h, d, ho => by
    rw [okB_eq, Bool.and_eq_true, Bool.and_eq_true, Bool.and_eq_true] at ho
    obtain ⟨⟨⟨o1, o2⟩, o3⟩, o4⟩ := ho
    obtain ⟨h1, h2, h3, h4, h5⟩ := chF_fields g f
    have hk := oks_map (g := g) f.kids (fun k hk => chF_ok hg n k (by have := mem_sz hk; omega) (d + 1)) o3
    have e4 : tailB (chF g f) = true := by
      unfold tailB at o4 ⊢
      rw [h1, h4, end_map]; exact o4
    have e2 : Siskin.headB (chF g f) = true := by
      unfold Siskin.headB at o2 ⊢
      rw [h1]
      by_cases s1 : f.sort = 1
      · rw [if_pos s1] at o2 ⊢
        unfold idFormB at o2 ⊢
        rw [h2, h3, h4, h5, if_pos s1, List.length_map]
        simp only [Bool.and_eq_true] at o2 ⊢
        exact ⟨⟨o2.1.1, hg _ o2.1.2⟩, o2.2⟩
      · rw [if_neg s1] at o2 ⊢ h5
        have e : ∀ P, (if f.sort = 2 then atomFormB (chF g f) else P) = if f.sort = 2 then atomFormB f else P := fun P => by
          have : atomFormB (chF g f) = atomFormB f := by unfold atomFormB; rw [h2, h3, h4, h5, List.length_map]
          rw [this]
        have e' : listFormB (chF g f) = listFormB f := by unfold listFormB; rw [h2, h3, h5]
        rw [e, e']; exact o2
    rw [okB_eq, o1, e2, h4, hk, e4]; rfl
theorem map_self {α : Type} {h : α → α} : ∀ {l : List α}, (∀ x ∈ l, h x = x) → l.map h = l
  | [], _ => rfl
  | a :: r, hh => by rw [List.map_cons, hh a List.mem_cons_self, map_self fun x hx => hh x (List.mem_cons_of_mem _ hx)]
theorem chF_id : ∀ (n : Nat) (f : Fm), f.sz ≤ n → chF (fun x => x) f = f
  | 0, f, h => by have := Fm.sz_kids f; omega
  | n + 1, f, h => by
    rw [chF_eq, map_self fun k hk => chF_id n k (by have := mem_sz hk; omega)]
    split <;> (cases f; rfl)
theorem chF_comp {g h k : List Int → List Int} (hg : ∀ xs, scopesB xs = true → h (g xs) = k xs) : ∀ (n : Nat) (f : Fm), f.sz ≤ n → ∀ d, okB f d = true → chF h (chF g f) = chF k f
  | 0, f, hn, _, _ => by have := Fm.sz_kids f; omega
  | n + 1, f, hn, d, ho => by
    have ho' := ho
    rw [okB_eq, Bool.and_eq_true, Bool.and_eq_true, Bool.and_eq_true] at ho
    obtain ⟨⟨⟨o1, o2⟩, o3⟩, o4⟩ := ho
    have hks : (f.kids.map (chF g)).map (chF h) = f.kids.map (chF k) := by
      rw [List.map_map]
      apply List.map_congr_left
      intro x hx
      exact chF_comp hg n x (by have := mem_sz hx; omega) (d + 1) (oks_mem o3 x hx)
    obtain ⟨h1, h2, h3, h4, h5⟩ := chF_fields g f
    rw [chF_eq h, chF_eq k f, h1, h2, h3, h4, h5, hks]
    by_cases s1 : f.sort = 1
    · have hsc : scopesB f.scopes = true := by
        unfold Siskin.headB at o2
        rw [if_pos s1] at o2
        unfold idFormB at o2
        simp only [Bool.and_eq_true] at o2
        exact o2.1.2
      rw [if_pos s1, if_pos s1, if_pos s1, hg _ hsc]
    · rw [if_neg s1, if_neg s1, if_neg s1]
theorem showKs_map {g : List Int → List Int} (s : Int) (m : Nat) : ∀ (ks : List Fm) (i : Nat), (∀ k ∈ ks, showF (chF g k) = showF k) → showKs s m i (ks.map (chF g)) = showKs s m i ks
  | [], _, _ => rfl
  | k :: r, i, h => by
    rw [List.map_cons, showKs_cons, showKs_cons, h k List.mem_cons_self, showKs_map s m r (i + 1) fun x hx => h x (List.mem_cons_of_mem _ hx)]
theorem chF_show (g : List Int → List Int) : ∀ (n : Nat) (f : Fm), f.sz ≤ n → showF (chF g f) = showF f
  | 0, f, h => by have := Fm.sz_kids f; omega
  | n + 1, f, h => by
    obtain ⟨h1, h2, h3, h4, h5⟩ := chF_fields g f
    by_cases s : f.sort = 1 ∨ f.sort = 2
    · rw [showF_leaf _ (by rw [h1]; exact s), showF_leaf f s, h2]
    · have n1 : f.sort ≠ 1 := fun e => s (Or.inl e)
      have n2 : f.sort ≠ 2 := fun e => s (Or.inr e)
      rw [showF_list _ (by rw [h1]; exact n1) (by rw [h1]; exact n2), showF_list f n1 n2, h1, h4, List.length_map, showKs_map _ _ _ _ fun k hk => chF_show g n k (by have := mem_sz hk; omega)]

theorem chF_formOk {g : List Int → List Int} (hg : ∀ xs, scopesB xs = true → scopesB (g xs) = true) {f : Fm} (h : formOk f = true) : formOk (chF g f) = true := by
  unfold formOk at h ⊢
  rw [Bool.and_eq_true] at h ⊢
  exact ⟨chF_ok hg f.sz f (Nat.le_refl _) 0 h.1, by rw [chF_sz g f.sz f (Nat.le_refl _)]; exact h.2⟩
theorem ok0 {f : Fm} (h : formOk f = true) : okB f 0 = true := by
  unfold formOk at h
  rw [Bool.and_eq_true] at h
  exact h.1
/-- Put twice is put once. -/
theorem with_with {n : Int} (hn : 0 ≤ n) {f : Fm} (h : formOk f = true) : resF (putB n) n (chF (putB n) f) = chF (putB n) f := by
  unfold resF
  rw [if_pos ⟨chF_formOk (put_scopes hn) h, hn⟩]
  exact chF_comp (fun xs _ => put_put n xs) f.sz f (Nat.le_refl _) 0 (ok0 h)
/-- Turned twice is as it was. -/
theorem flip_twice {n : Int} (hn : 0 ≤ n) {f : Fm} (h : formOk f = true) : resF (flipB n) n (chF (flipB n) f) = f := by
  unfold resF
  rw [if_pos ⟨chF_formOk (flip_scopes hn) h, hn⟩]
  rw [chF_comp (k := fun x => x) (fun xs hx => flip_flip n xs ((scopes_up xs).1 hx).1) f.sz f (Nat.le_refl _) 0 (ok0 h)]
  exact chF_id f.sz f (Nat.le_refl _)
end Go.Proofs.YtjbejnibiebjgaaGreat
