/-
  That the program's way and the model's find the same names, plainly, the whole. No program's step is walked here.
  The program's patternOf: is it ok, and no name twice. Condition: the form lies in memory.
  Blocks that were there, and those that are new. No program is named.
-/
import Derived.Test.YthlacjabelpehaaGreatDoorPart12
import Derived.Test.YthlacjabelpehaaGreatDoorPart1
namespace Go.Proofs.YthlacjabelpehaaGreatDoor
open Go.RowKit Go.Siskin

theorem dotsF_pat {f : Fm} (h : dotsF f = true) : patB f = false := by
  have h1 : f.sort = 1 := by
    unfold dotsF at h
    simp only [Bool.and_eq_true, beq_iff_eq] at h
    exact h.1
  rw [patB_eq, if_pos h1, h]; rfl
theorem dotsF_names (ls : List Fm) {f : Fm} (h : dotsF f = true) : namesF ls f = [] := by
  have h1 : f.sort = 1 := by
    unfold dotsF at h
    simp only [Bool.and_eq_true, beq_iff_eq] at h
    exact h.1
  rw [namesF_eq, if_pos h1, h]; rfl
/-- The names, if it is ok. -/
def qF (ls : List Fm) (f : Fm) : Option (List Fm) := if patB f = true then some (namesF ls f) else none
theorem patsB_cons (k : Fm) (r : List Fm) : patsB (k :: r) = ((dotsF k || patB k) && patsB r) := rfl
theorem namesS_cons (ls : List Fm) (k : Fm) (r : List Fm) : namesS ls (k :: r) = namesF ls k ++ namesS ls r := by simp [namesS]

theorem goP_names (ls : List Fm) : ∀ (n : Nat) (ks : List Fm) (i : Nat) (p : Int) (rep : Bool), ks.length ≤ n → rep = decide (0 ≤ p) → -1 ≤ p → (i = 0 ∨ 0 ≤ p ∨ ∀ k ∈ ks.head?, dotsF k = false) →
    goP (ks.map fun k => (dotsF k, qF ls k)) rep = if repGo ks i p ≠ -2 ∧ patsB ks = true then some (namesS ls ks) else none
  | _, [], i, p, rep, _, _, hp, _ => by
    rw [List.map_nil, goP, repGo, if_pos ⟨by omega, rfl⟩]; rfl
  | 0, k :: r, _, _, _, hn, _, _, _ => by simp at hn
  | n + 1, k :: r, i, p, rep, hn, hr, hp, hh => by
    rw [List.map_cons]
    cases hk : dotsF k with
    | true =>
      have h1 : qF ls k = none := by unfold qF; rw [dotsF_pat hk]; rfl
      rw [h1, goP]
      have h2 : 0 ≤ p ∨ i = 0 := by
        rcases hh with h | h | h
        · exact Or.inr h
        · exact Or.inl h
        · have := h k (by simp); rw [hk] at this; cases this
      rw [repGo, if_pos hk, if_pos h2, if_neg (fun h => h.1 rfl)]
    | false =>
      have hrg : repGo (k :: r) i p = repGo r (i + 1) p := by rw [repGo, if_neg (by rw [hk]; simp)]
      rw [hrg, patsB_cons, hk, Bool.false_or]
      cases hpk : patB k with
      | false =>
        have h1 : qF ls k = none := by unfold qF; rw [hpk]; rfl
        rw [h1, goP, if_neg (fun h => by have := h.2; simp at this)]
      | true =>
        have h1 : qF ls k = some (namesF ls k) := by unfold qF; rw [hpk]; rfl
        rw [h1, Bool.true_and]
        cases r with
        | nil =>
          rw [List.map_nil, goP, repGo, if_pos ⟨by omega, rfl⟩, namesS_cons]
          simp [namesS]
        | cons k2 r =>
          rw [List.map_cons]
          rw [List.length_cons, List.length_cons] at hn
          cases hk2 : dotsF k2 with
          | true =>
            have hrg2 : repGo (k2 :: r) (i + 1) p = if 0 ≤ p ∨ i + 1 = 0 then -2 else repGo r (i + 1 + 1) (((i + 1 : Nat) : Int) - 1) := by rw [repGo, if_pos hk2]
            rw [goP, hrg2, patsB_cons, hk2, Bool.true_or, Bool.true_and]
            by_cases h2 : 0 ≤ p
            · rw [hr, decide_eq_true h2, if_pos rfl, if_pos (show 0 ≤ p ∨ i + 1 = 0 from Or.inl h2), if_neg (fun h => h.1 rfl)]
            · rw [hr, decide_eq_false h2, if_neg (show ¬ (false = true) by simp), if_neg (show ¬ (0 ≤ p ∨ i + 1 = 0) from fun h => by rcases h with h | h; exact h2 h; omega)]
              have ih := goP_names ls n r (i + 1 + 1) (((i + 1 : Nat) : Int) - 1) true (by omega) (by rw [decide_eq_true (by omega)]) (by omega) (Or.inr (Or.inl (by omega)))
              rw [ih, namesS_cons, namesS_cons, dotsF_names ls hk2, List.nil_append]
              split <;> rfl
          | false =>
            have ih := goP_names ls n (k2 :: r) (i + 1) p rep (by rw [List.length_cons]; omega) hr hp (Or.inr (Or.inr (fun x hx => by simp only [List.head?_cons, Option.mem_def, Option.some.injEq] at hx; subst hx; exact hk2)))
            rw [List.map_cons, hk2] at ih
            rw [goP, ih, namesS_cons ls k]
            split <;> rfl

theorem wordI_toIm {f : Fm} {d : Nat} (hok : okB f d = true) : wordI (toIm f) [46, 46, 46] = dotsF f := by
  unfold dotsF
  by_cases s1 : f.sort = 1
  · rw [toIm_id f s1, wordI_id, s1]; rfl
  have h1 : (f.sort == 1) = false := by simpa using s1
  rw [h1, Bool.false_and]
  by_cases s2 : f.sort = 2
  · rw [toIm_atom f s2, wordI_atom]
  by_cases s3 : f.sort = 3
  · rw [toIm_list f s3, wordI_list]
  by_cases s4 : f.sort = 4
  · rw [toIm_dots f s4, wordI_dots]
  · rw [okB_none f d s1 s2 s3 s4] at hok; cases hok

/-- What is asked of a form: it is ok, and fits. -/
structure Fine (f : Fm) (d : Nat) : Prop where
  ok : okB f d = true
  fit : FitF f
  cost : f.cost ≤ 1048576
theorem Fine.kid {f : Fm} {d : Nat} (h : Fine f d) (hk : oksB f.kids (d + 1) = true) : ∀ k ∈ f.kids, Fine k (d + 1) := fun k hm => by
  refine ⟨oksB_memY _ _ hk k hm, ((fitF_iff f).1 h.fit).2 k hm, ?_⟩
  obtain ⟨i, hi, rfl⟩ := List.getElem_of_mem hm
  have h1 := Fm.costs_get f.kids i hi
  have h2 := Fm.cost_eq f
  have h3 := h.cost
  omega
theorem Fine.id {f : Fm} {d : Nat} (h : Fine f d) (hs : f.sort = 1) : IdOk f := by
  have hd : d ≤ 60 := by
    have hok := h.ok
    rw [okB_eq] at hok
    simp only [Bool.and_eq_true, decide_eq_true_eq] at hok
    exact hok.1.1.1
  refine ⟨hs, by rw [← okB_id f d hd hs]; exact h.ok, ((fitF_iff f).1 h.fit).1, ?_⟩
  have h2 := Fm.cost_eq f
  have h3 := h.cost
  omega

theorem goodP_mk_list {ps : List Im} (h : ∀ p ∈ ps, GoodP p) : GoodP (.list ps) := by
  unfold Im.list; rw [GoodP]
  exact ⟨(fun h => by cases h), fun i hi => h _ (List.getElem_mem hi), (fun i hi => by simp at hi)⟩
theorem goodP_mk_dots {ps : List Im} {l : Im} (h : ∀ p ∈ ps, GoodP p) (hl : GoodP l) : GoodP (.dots ps l) := by
  unfold Im.dots; rw [GoodP]
  refine ⟨(fun h => by cases h), fun i hi => h _ (List.getElem_mem hi), fun i hi => ?_⟩
  have e : i = 0 := by simp at hi; omega
  subst e
  exact hl
theorem goodP_mk_atom (t : ByteArray) : GoodP (.atom t) := by
  unfold Im.atom; rw [GoodP]
  exact ⟨(fun h => by cases h), (fun i hi => by simp at hi), (fun i hi => by simp at hi)⟩
theorem goodP_mk_id {t : ByteArray} {sc : List Int} {fr : Int} (h : GoodI ⟨1, t, sc, fr, []⟩) : GoodP (.id t sc fr) := by
  unfold Im.id; rw [GoodP]
  exact ⟨fun _ => h, (fun i hi => by simp at hi), (fun i hi => by simp at hi)⟩

theorem szs_leY : ∀ (ks : List Fm), (∀ k ∈ ks, (toIm k).sz ≤ k.sz) → Im.szs (toIms ks) ≤ Fm.szs ks
  | [], _ => Nat.le_refl _
  | k :: r, h => by
    have h1 := h k (List.mem_cons_self ..)
    have h2 := szs_leY r fun x hx => h x (List.mem_cons_of_mem _ hx)
    show Im.szs (toIm k :: toIms r) ≤ _
    rw [Im.szs_cons, Fm.szs_cons]; omega
/-- All that is to be known of a form: its names, that its keys are good, and that its names are identifiers. -/
structure Knows (ls : List Fm) (f : Fm) : Prop where
  pn : pnI (ls.map keyF) (toIm f) = qF ls f
  good : GoodP (toIm f)
  ids : ∀ g ∈ namesF ls f, IdOk g
  size : (toIm f).sz ≤ f.sz

theorem knows_all (ls : List Fm) (hl : ∀ g ∈ ls, IdOk g) : ∀ (n : Nat) (f : Fm) (d : Nat), f.sz ≤ n → Fine f d → Knows ls f
  | 0, f, _, hn, _ => by have := Fm.sz_kids f; omega
  | n + 1, f, d, hn, hf => by
    have hsz := Fm.sz_kids f
    have hok := hf.ok
    have hd : d ≤ 60 := by
      rw [okB_eq] at hok
      simp only [Bool.and_eq_true, decide_eq_true_eq] at hok
      exact hok.1.1.1
    by_cases s1 : f.sort = 1
    · have hi := hf.id s1
      have he := hi.eq
      have hn1 : namesF ls f = if (!dotsF f && !blankF f && !amongF ls f) = true then [f] else [] := by rw [namesF_eq, if_pos s1]
      refine ⟨?_, ?_, ?_, ?_⟩
      · rw [toIm_id f s1, pnI_id, ← he]
        unfold qF
        rw [patB_eq, if_pos s1, hn1]
        have h1 : dotsF f = (f.text.toList == [46, 46, 46]) := by unfold dotsF; rw [s1]; rfl
        have h2 : blankF f = (f.text.toList == [95]) := by unfold blankF; rw [s1]; rfl
        rw [h1]
        cases hdt : (f.text.toList == [46, 46, 46]) with
        | true => rfl
        | false =>
          unfold wnF
          rw [among_has hl hi, h2]
          cases (f.text.toList == [95]) <;> cases amongF ls f <;> rfl
      · rw [toIm_id f s1]
        exact goodP_mk_id (by rw [← he]; exact hi.good)
      · intro g hg
        rw [hn1] at hg
        split at hg
        · simp only [List.mem_singleton] at hg; subst hg; exact hi
        · simp at hg
      · rw [toIm_id f s1, Im.sz_eq]
        simp only [Im.id, Im.szs, List.map_nil, List.sum_nil]
        omega
    by_cases s2 : f.sort = 2
    · have hk : f.kids = [] := by
        rw [okB_atom f d hd s2] at hok
        unfold atomFormB at hok
        simp only [Bool.and_eq_true, decide_eq_true_eq] at hok
        exact List.eq_nil_of_length_eq_zero (by omega)
      have hn1 : namesF ls f = [] := by rw [namesF_eq, if_neg s1, hk]; rfl
      refine ⟨?_, ?_, ?_, ?_⟩
      · rw [toIm_atom f s2, pnI_atom]
        unfold qF
        rw [patB_eq, if_neg s1, if_pos s2, hn1]; rfl
      · rw [toIm_atom f s2]; exact goodP_mk_atom _
      · rw [hn1]; intro g hg; simp at hg
      · rw [toIm_atom f s2, Im.sz_eq]
        simp only [Im.atom, Im.szs, List.map_nil, List.sum_nil]
        omega
    by_cases s3 : f.sort = 3
    · rw [okB_list f d hd s3, Bool.and_eq_true] at hok
      have hk := fun k hm => knows_all ls hl n k (d + 1) (by have := sz_memY f.kids k hm; omega) (hf.kid hok.2 k hm)
      have hw := fun k hm => wordI_toIm (oksB_memY f.kids (d + 1) hok.2 k hm)
      have hn1 : namesF ls f = namesS ls f.kids := by rw [namesF_eq, if_neg s1]
      refine ⟨?_, ?_, ?_, ?_⟩
      · rw [toIm_list f s3, pnI_list]
        have e1 : (toIms f.kids).map (dI (ls.map keyF)) = f.kids.map fun k => (dotsF k, qF ls k) := by
          unfold toIms
          rw [List.map_map]
          refine List.map_congr_left fun k hm => ?_
          show (wordI (toIm k) [46, 46, 46], pnI (ls.map keyF) (toIm k)) = _
          rw [hw k hm, (hk k hm).pn]
        unfold listP
        rw [e1, goP_names ls f.kids.length f.kids 0 (-1) false (Nat.le_refl _) rfl (Int.le_refl _) (Or.inl rfl)]
        unfold qF
        rw [patB_eq, if_neg s1, if_neg s2, hn1]
        have hr : repF f = repGo f.kids 0 (-1) := by unfold repF partsF; rw [if_neg (by omega)]
        rw [hr]
        by_cases h2 : repGo f.kids 0 (-1) = -2
        · rw [if_neg (fun h => h.1 h2), if_pos (Or.inl h2)]; rfl
        · rw [if_neg (show ¬ (repGo f.kids 0 (-1) = -2 ∨ f.sort = 4 ∧ dotsF (f.kids.getD (f.kids.length - 1) Fm.no) = true) from fun h => by rcases h with h | h; exact h2 h; omega)]
          by_cases h3 : patsB f.kids = true
          · rw [if_pos ⟨h2, h3⟩, if_pos h3]; rfl
          · rw [if_neg (fun h => h3 h.2), if_neg h3]
      · rw [toIm_list f s3]
        refine goodP_mk_list fun p hp => ?_
        unfold toIms at hp
        obtain ⟨k, hm, rfl⟩ := List.mem_map.1 hp
        exact (hk k hm).good
      · rw [hn1]
        intro g hg
        unfold namesS at hg
        obtain ⟨l, h1, h2⟩ := List.mem_flatten.1 hg
        obtain ⟨k, hm, rfl⟩ := List.mem_map.1 h1
        exact (hk k hm).ids g h2
      · rw [toIm_list f s3, Im.sz_list]
        have := szs_leY f.kids (fun k hm => (hk k hm).size)
        omega
    by_cases s4 : f.sort = 4
    · rw [okB_dots f d hd s4, Bool.and_eq_true, Bool.and_eq_true] at hok
      have hk := fun k hm => knows_all ls hl n k (d + 1) (by have := sz_memY f.kids k hm; omega) (hf.kid hok.1.2 k hm)
      have hw := fun k hm => wordI_toIm (oksB_memY f.kids (d + 1) hok.1.2 k hm)
      have hn1 : namesF ls f = namesS ls f.kids := by rw [namesF_eq, if_neg s1]
      have hpB : patB f = if repF f = -2 ∨ (f.sort = 4 ∧ dotsF (f.kids.getD (f.kids.length - 1) Fm.no) = true) then false else patsB f.kids := by rw [patB_eq, if_neg s1, if_neg s2]
      have hr : repF f = repGo f.kids.dropLast 0 (-1) := by unfold repF partsF; rw [if_pos s4]
      have he := hok.2
      unfold endB at he
      rw [Bool.and_eq_true, decide_eq_true_eq] at he
      have hsz2 : Fm.szs f.kids + 1 ≤ n + 1 := by omega
      have hti := toIm_dots f s4
      rw [hr] at hpB
      have hsort4 : (f.sort = 4) = True := by rw [s4]; simp
      simp only [hsort4, true_and] at hpB
      have hfs : f.sz = 1 + Fm.szs f.kids := by omega
      clear hr hsort4 hok hf
      generalize f.kids = ks at hk hw hn1 hpB he hti hfs
      have hne : ks ≠ [] := by intro e; rw [e] at he; simp at he
      obtain ⟨l, k, rfl⟩ : ∃ l k, ks = l ++ [k] := ⟨ks.dropLast, ks.getLast hne, (List.dropLast_concat_getLast hne).symm⟩
      rw [toIms_appendY, List.dropLast_concat] at hti
      have e1 : ((toIms l ++ [toIm k]).getD ((toIms l ++ [toIm k]).length - 1) Im.no) = toIm k := by simp
      have e2 : ((l ++ [k]).getD ((l ++ [k]).length - 1) Fm.no) = k := by simp
      rw [e1] at hti
      rw [e2, List.dropLast_concat] at hpB
      rw [e2] at he
      have hkk := hk k (by simp)
      have hkl := fun x hx => hk x (List.mem_append_left _ hx)
      have hem : emptyI (toIm k) = false := by
        have h := he.2
        rw [Bool.or_eq_true, decide_eq_true_eq, decide_eq_true_eq] at h
        rcases h with h | h
        · rw [toIm_id k h, emptyI_id]
        · rw [toIm_atom k h, emptyI_atom]
      have hns : namesS ls (l ++ [k]) = namesS ls l ++ namesF ls k := by simp [namesS]
      have hps : patsB (l ++ [k]) = (patsB l && (dotsF k || patB k)) := by simp [patsB]
      refine ⟨?_, ?_, ?_, ?_⟩
      · rw [hti, pnI_dots]
        have e3 : (toIms l).map (dI (ls.map keyF)) = l.map fun k => (dotsF k, qF ls k) := by
          unfold toIms
          rw [List.map_map]
          refine List.map_congr_left fun x hx => ?_
          show (wordI (toIm x) [46, 46, 46], pnI (ls.map keyF) (toIm x)) = _
          rw [hw x (List.mem_append_left _ hx), (hkl x hx).pn]
        unfold listP
        rw [e3, goP_names ls l.length l 0 (-1) false (Nat.le_refl _) rfl (Int.le_refl _) (Or.inl rfl)]
        have hq : qF ls f = if patB f = true then some (namesS ls l ++ namesF ls k) else none := by unfold qF; rw [hn1, hns]
        rw [hq, hpB, hps]
        unfold eI
        rw [hem, hkk.pn]
        unfold qF
        by_cases h2 : repGo l 0 (-1) = -2
        · rw [if_neg (show ¬ (repGo l 0 (-1) ≠ -2 ∧ patsB l = true) from fun h => h.1 h2), if_pos (show repGo l 0 (-1) = -2 ∨ dotsF k = true from Or.inl h2)]; rfl
        · cases h3 : patsB l with
          | false =>
            rw [if_neg (show ¬ (repGo l 0 (-1) ≠ -2 ∧ false = true) from fun h => by cases h.2)]
            cases dotsF k <;> simp [h2]
          | true =>
            rw [if_pos (show repGo l 0 (-1) ≠ -2 ∧ true = true from ⟨h2, rfl⟩)]
            cases h4 : dotsF k with
            | true => rw [dotsF_pat h4]; simp [endP]
            | false => cases h5 : patB k <;> simp [h2, endP]
      · rw [hti]
        refine goodP_mk_dots (fun p hp => ?_) hkk.good
        unfold toIms at hp
        obtain ⟨x, hm, rfl⟩ := List.mem_map.1 hp
        exact (hkl x hm).good
      · rw [hn1]
        intro g hg
        unfold namesS at hg
        obtain ⟨y, h1, h2⟩ := List.mem_flatten.1 hg
        obtain ⟨x, hm, rfl⟩ := List.mem_map.1 h1
        exact (hk x hm).ids g h2
      · rw [hti, Im.sz_dots]
        have h1 := szs_leY l (fun x hm => (hkl x hm).size)
        have h2 := hkk.size
        have h3 : Fm.szs (l ++ [k]) = Fm.szs l + k.sz := by simp [Fm.szs]
        omega
    · rw [okB_none f d s1 s2 s3 s4] at hok; cases hok
end Go.Proofs.YthlacjabelpehaaGreatDoor

namespace Go.Proofs.YthlacjabelpehaaGreatDoor
open Go.RowKit Go.Siskin

theorem onceB_at {ks : List Fm} (h : onceB ks = true) (j : Nat) (hj : j < ks.length) : amongF (ks.take j) ks[j] = false := by
  cases h1 : amongF (ks.take j) ks[j] with
  | false => rfl
  | true => rw [onceB_bad hj h1] at h; cases h
theorem once_nodup {ks : List Fm} (hk : ∀ g ∈ ks, IdOk g) : onceB ks = decide ((ks.map keyF).Nodup) := by
  have hmem : ∀ j (hj : j < ks.length), amongF (ks.take j) ks[j] = decide (keyF ks[j] ∈ (ks.take j).map keyF) := fun j hj => by
    rw [← among_has (fun g hg => hk g (List.mem_of_mem_take hg)) (hk _ (List.getElem_mem hj))]
    unfold hasK
    rw [List.contains_eq_mem]
  by_cases h : (ks.map keyF).Nodup
  · rw [decide_eq_true h]
    refine onceB_good fun j hj => ?_
    rw [hmem j hj, decide_eq_false]
    intro hm
    have e : ks.map keyF = (ks.take j).map keyF ++ (keyF ks[j] :: (ks.drop (j + 1)).map keyF) := by
      rw [← List.map_cons, ← List.drop_eq_getElem_cons hj, ← List.map_append, List.take_append_drop]
    rw [e, List.nodup_append] at h
    exact h.2.2 _ hm _ (List.mem_cons_self ..) rfl
  · rw [decide_eq_false h]
    cases h1 : onceB ks with
    | false => rfl
    | true =>
      exfalso
      apply h
      have hall : ∀ j, j ≤ ks.length → ((ks.take j).map keyF).Nodup := by
        intro j
        induction j with
        | zero => intro _; simp
        | succ j ih =>
          intro hj
          have hj' : j < ks.length := by omega
          rw [List.take_succ_eq_append_getElem hj', List.map_append, List.nodup_append]
          refine ⟨ih (by omega), by simp, fun a ha b hb => ?_⟩
          simp only [List.map_cons, List.map_nil, List.mem_singleton] at hb
          subst hb
          intro e
          subst e
          have h2 := onceB_at h1 j hj'
          rw [hmem j hj', decide_eq_false_iff_not] at h2
          exact h2 ha
      have := hall ks.length (Nat.le_refl _)
      rwa [List.take_length] at this

set_option maxRecDepth 20000 in
set_option maxHeartbeats 2000000 in
theorem patternOf_any (K : List (List UInt8)) (p : Im) (hp2 : p.sz ≤ 1048576) (hgood : GoodP p) (hids : ∀ ns, pnI K p = some ns → ∀ g ∈ ns, IdOk g) (R : Nat → Prop) (w : World) (b : Nat) (v : Value) (hA : InAt R w p v) (hR : ∀ c, R c → c < w.heap.size) (hP : PlY w b K) (hT : TabY w) :
    Calls Tryz.prog 29 #[v, .map (some b)] w fun e w' => ∃ na nn nc m, e = .returned (.tuple #[.agg #[.slice na nn nc, m], .bool (match pnI K p with | none => false | some ns => onceB ns)]) ∧ FnV m ∧ Below w.heap.size w w' := by
  have HR := hid hR
  have HPC := hid (fun W (hW : Below w.heap.size w W) => partY_all K p.sz p (Nat.le_refl _) hp2 hgood R W b v (InAt.keep (hW.on hR) _ hA) (fun c h => by have := hR c h; have := hW.size; omega) (hP.below hW) (hT.below hW rfl))
  have HT := hid hT
  have HID := hid hids
  obtain ⟨vt, vx, rfl⟩ := hA.iface
  clear hA hR hP hT hgood hids
  cases hpk : pnI K p with
  | none =>
    unfold Parted at HPC
    rw [hpk] at HPC
    simp only [Option.isSome_none] at HPC
    clear hpk
    go_enter Tryz.func29, Tryz.ntmps29
    go_wp2_with fail
    refine (HPC.out _ ((Below.refl _ _).alloc (Nat.le_refl _) _)).mono ?_
    rintro e w1 ⟨na, nn, nc, mf, ns, rfl, hfn, -, hnl, hpn, hw⟩
    have HW := hid hw
    have hs1 := hw.size
    simp only [World.size_alloc] at hs1
    have HIDS := hid (fun o : Obj => ids_any ns R (Fresh (w.alloc (.cells #[.slice none 0 0, .nilFunc] 47)) w1) (w1.alloc o) (.slice na nn nc) mf (hpn.keep (fun g hg => Below.heap_alloc _ _ _ hg.2) (fun c hc => Below.heap_alloc _ _ _ (by have := HR.out c hc; omega))) (fun g hg => by have := hg.2; simp; omega) (fun c hc => by have := HR.out c hc; simp; omega) (by omega) hfn)
    have HO1 := hid (fun o : Obj => ownAlloc ((own_new w #[.slice none 0 0, .nilFunc] 47).keep hw (by simp)) o)
    clear hw hpn
    rcases hfn with rfl | ⟨fn, pp, qq, rfl⟩
    · go_wp2_with (go_at_call 40; go_loud (refine (HIDS.out _).mono ?_; rintro e w2 ⟨u, rfl, hir, hw2⟩; have HW2 := hid hw2; have hOB := (own_new w1 #[.slice na nn nc, .nilFunc] 47).keep hw2 (by simp); have HOB : Hid (Own w2.drew w1.heap.size 47 #[.slice na nn nc, .nilFunc]) := hOB; clear hOB; obtain ⟨z0, z1, z2, z3⟩ := yown2 ((HO1.out (.cells #[.slice na nn nc, .nilFunc] 47)).keep hw2 (by simp; omega)); obtain ⟨q0, q1, -⟩ := yown2 HOB.out; obtain ⟨ua, ul, uc, rfl⟩ : ∃ ua ul uc, u = .slice ua ul uc := (by obtain ⟨a, c, h, -⟩ := hir.ids; exact ⟨_, _, _, h⟩); clear hir hw2))
      have L0 : Hid (w2.drew.cell? ⟨w1.heap.size, 0, none⟩ = some (.slice na nn nc) ∧ w2.drew.cell? ⟨w1.heap.size, 1, none⟩ = some .nilFunc) := ⟨q0, q1⟩
      refine wp_region_held_drew (S := fun w' => w'.cell? ⟨w1.heap.size, 0, none⟩ = some (.slice na nn nc) ∧ w'.cell? ⟨w1.heap.size, 1, none⟩ = some .nilFunc) rfl L0.out (fun _ => ?_)
      refine wpAnyH_take (i := 0) (oi := ({ dst := some 17, op := _, type := _, pos := _, after := _, guard := _ } : Oper)) (v := (.agg #[.slice na nn nc, .nilFunc])) rfl (by kernel_rfl) (by kernel_rfl) (by kernel_rfl) (fun _ _ _ h => h) (Or.inl ⟨by rfl, ?_⟩) L0.out ?_
      · intro w hSw; (try dsimp only at hSw); go_simp
      try simp only [Act.put, List.setIfInBounds_toArray, List.set_cons_zero, List.set_cons_succ]
      refine wpAnyH_take (i := 1) (oi := ({ dst := some 18, op := _, type := _, pos := _, after := _, guard := _ } : Oper)) (v := (.bool false)) rfl (by kernel_rfl) (by kernel_rfl) (by kernel_rfl) (fun _ _ _ h => h) (Or.inl ⟨by rfl, ?_⟩) L0.out ?_
      · intro w hSw; (try dsimp only at hSw); go_simp
      try simp only [Act.put, List.setIfInBounds_toArray, List.set_cons_zero, List.set_cons_succ]
      refine wpAnyH_take (i := 2) (oi := ({ dst := some 19, op := _, type := _, pos := _, after := _, guard := _ } : Oper)) (v := (.bool false)) rfl (by kernel_rfl) (by kernel_rfl) (by kernel_rfl) (fun _ _ _ h => h) (Or.inl ⟨by rfl, ?_⟩) L0.out ?_
      · intro w hSw; (try dsimp only at hSw); go_simp
      try simp only [Act.put, List.setIfInBounds_toArray, List.set_cons_zero, List.set_cons_succ]
      refine wpAnyH_take (i := 3) (oi := ({ dst := some 20, op := _, type := _, pos := _, after := _, guard := _ } : Oper)) (v := undef) rfl (by kernel_rfl) (by kernel_rfl) (by kernel_rfl) (fun _ _ _ h => h) (Or.inr ⟨by rfl, rfl⟩) L0.out ?_
      try simp only [Act.put, List.setIfInBounds_toArray, List.set_cons_zero, List.set_cons_succ]
      refine wpAnyH_take (i := 4) (oi := ({ dst := some 21, op := _, type := _, pos := _, after := _, guard := _ } : Oper)) (v := undef) rfl (by kernel_rfl) (by kernel_rfl) (by kernel_rfl) (fun _ _ _ h => h) (Or.inr ⟨by rfl, rfl⟩) L0.out ?_
      try simp only [Act.put, List.setIfInBounds_toArray, List.set_cons_zero, List.set_cons_succ]
      refine wpAnyH_take (i := 5) (oi := ({ dst := some 22, op := _, type := _, pos := _, after := _, guard := _ } : Oper)) (v := undef) rfl (by kernel_rfl) (by kernel_rfl) (by kernel_rfl) (fun _ _ _ h => h) (Or.inr ⟨by rfl, rfl⟩) L0.out ?_
      try simp only [Act.put, List.setIfInBounds_toArray, List.set_cons_zero, List.set_cons_succ]
      refine wpAnyH_take (i := 6) (oi := ({ dst := some 23, op := _, type := _, pos := _, after := _, guard := _ } : Oper)) (v := undef) rfl (by kernel_rfl) (by kernel_rfl) (by kernel_rfl) (fun _ _ _ h => h) (Or.inr ⟨by rfl, rfl⟩) L0.out ?_
      try simp only [Act.put, List.setIfInBounds_toArray, List.set_cons_zero, List.set_cons_succ]
      refine wpAnyH_take (i := 7) (oi := ({ dst := some 24, op := _, type := _, pos := _, after := _, guard := _ } : Oper)) (v := undef) rfl (by kernel_rfl) (by kernel_rfl) (by kernel_rfl) (fun _ _ _ h => h) (Or.inr ⟨by rfl, rfl⟩) L0.out ?_
      try simp only [Act.put, List.setIfInBounds_toArray, List.set_cons_zero, List.set_cons_succ]
      refine wpAnyH_take (i := 8) (oi := ({ dst := some 25, op := _, type := _, pos := _, after := _, guard := _ } : Oper)) (v := undef) rfl (by kernel_rfl) (by kernel_rfl) (by kernel_rfl) (fun _ _ _ h => h) (Or.inr ⟨by rfl, rfl⟩) L0.out ?_
      try simp only [Act.put, List.setIfInBounds_toArray, List.set_cons_zero, List.set_cons_succ]
      refine wpAnyH_take (i := 9) (oi := ({ dst := some 26, op := _, type := _, pos := _, after := _, guard := _ } : Oper)) (v := (.bool false)) rfl (by kernel_rfl) (by kernel_rfl) (by kernel_rfl) (fun _ _ _ h => h) (Or.inl ⟨by rfl, ?_⟩) L0.out ?_
      · intro w hSw; (try dsimp only at hSw); go_simp
      try simp only [Act.put, List.setIfInBounds_toArray, List.set_cons_zero, List.set_cons_succ]
      refine wpAnyH_ready (rs := [10]) (by kernel_rfl) (by simp) ?_
      refine AllReadyH.cons (o := ({ dst := none, op := _, type := _, pos := _, after := _, guard := _ } : Oper)) rfl (fun K hK => ?_) AllReadyH.nil
      go_simp
      have L9 : Hid ((((w2.drew).setCell ⟨w.heap.size, 0, none⟩ (.slice na nn nc)).setCell ⟨w.heap.size, 1, none⟩ .nilFunc).cell? ⟨w1.heap.size, 0, none⟩ = some (.slice na nn nc) ∧ (((w2.drew).setCell ⟨w.heap.size, 0, none⟩ (.slice na nn nc)).setCell ⟨w.heap.size, 1, none⟩ .nilFunc).cell? ⟨w1.heap.size, 1, none⟩ = some .nilFunc) := by
        have hO := ownSet (ownSet HOB.out (p := ⟨w.heap.size, 0, none⟩) (by show w1.heap.size ≠ w.heap.size; omega) (.slice na nn nc)) (p := ⟨w.heap.size, 1, none⟩) (by show w1.heap.size ≠ w.heap.size; omega) .nilFunc
        have h := yown2 hO
        exact ⟨h.1, h.2.1⟩
      refine hK.out _ _ L9.out (fun _ => ?_)
      clear hK K
      try simp only [Act.put, List.setIfInBounds_toArray, List.set_cons_zero, List.set_cons_succ]
      refine wpAnyH_take (i := 11) (oi := ({ dst := some 5, op := _, type := _, pos := _, after := _, guard := _ } : Oper)) (v := (.bool false)) rfl (by kernel_rfl) (by kernel_rfl) (by kernel_rfl) (fun _ _ _ h => h) (Or.inl ⟨by rfl, ?_⟩) L9.out ?_
      · intro w hSw; (try dsimp only at hSw); go_simp
      try simp only [Act.put, List.setIfInBounds_toArray, List.set_cons_zero, List.set_cons_succ]
      refine wpAnyH_done (by kernel_rfl) ?_ _
      go_wp2_with fail
      refine bodyPost_ret (v := .tuple #[.agg #[.slice na nn nc, .nilFunc], .bool false]) (by simp [results, Tryz.results29, go_sem, z0, z1]) rfl ?_
      refine ⟨na, nn, nc, .nilFunc, rfl, Or.inl rfl, ?_⟩
      exact (((((((Below.refl _ _).alloc (Nat.le_refl _) _).trans (HW.out.mono (by simp))).alloc (by omega) _).trans (HW2.out.mono (by simp; omega))).drew.setCell (p := ⟨w.heap.size, 0, none⟩) (Nat.le_refl _) _).setCell (p := ⟨w.heap.size, 1, none⟩) (Nat.le_refl _) _)
    · go_wp2_with (go_at_call 40; go_loud (refine (HIDS.out _).mono ?_; rintro e w2 ⟨u, rfl, hir, hw2⟩; have HW2 := hid hw2; have hOB := (own_new w1 #[.slice na nn nc, (.func fn pp qq)] 47).keep hw2 (by simp); have HOB : Hid (Own w2.drew w1.heap.size 47 #[.slice na nn nc, (.func fn pp qq)]) := hOB; clear hOB; obtain ⟨z0, z1, z2, z3⟩ := yown2 ((HO1.out (.cells #[.slice na nn nc, (.func fn pp qq)] 47)).keep hw2 (by simp; omega)); obtain ⟨q0, q1, -⟩ := yown2 HOB.out; obtain ⟨ua, ul, uc, rfl⟩ : ∃ ua ul uc, u = .slice ua ul uc := (by obtain ⟨a, c, h, -⟩ := hir.ids; exact ⟨_, _, _, h⟩); clear hir hw2))
      have L0 : Hid (w2.drew.cell? ⟨w1.heap.size, 0, none⟩ = some (.slice na nn nc) ∧ w2.drew.cell? ⟨w1.heap.size, 1, none⟩ = some (.func fn pp qq)) := ⟨q0, q1⟩
      refine wp_region_held_drew (S := fun w' => w'.cell? ⟨w1.heap.size, 0, none⟩ = some (.slice na nn nc) ∧ w'.cell? ⟨w1.heap.size, 1, none⟩ = some (.func fn pp qq)) rfl L0.out (fun _ => ?_)
      refine wpAnyH_take (i := 0) (oi := ({ dst := some 17, op := _, type := _, pos := _, after := _, guard := _ } : Oper)) (v := (.agg #[.slice na nn nc, (.func fn pp qq)])) rfl (by kernel_rfl) (by kernel_rfl) (by kernel_rfl) (fun _ _ _ h => h) (Or.inl ⟨by rfl, ?_⟩) L0.out ?_
      · intro w hSw; (try dsimp only at hSw); go_simp
      try simp only [Act.put, List.setIfInBounds_toArray, List.set_cons_zero, List.set_cons_succ]
      refine wpAnyH_take (i := 1) (oi := ({ dst := some 18, op := _, type := _, pos := _, after := _, guard := _ } : Oper)) (v := (.bool false)) rfl (by kernel_rfl) (by kernel_rfl) (by kernel_rfl) (fun _ _ _ h => h) (Or.inl ⟨by rfl, ?_⟩) L0.out ?_
      · intro w hSw; (try dsimp only at hSw); go_simp
      try simp only [Act.put, List.setIfInBounds_toArray, List.set_cons_zero, List.set_cons_succ]
      refine wpAnyH_take (i := 2) (oi := ({ dst := some 19, op := _, type := _, pos := _, after := _, guard := _ } : Oper)) (v := (.bool false)) rfl (by kernel_rfl) (by kernel_rfl) (by kernel_rfl) (fun _ _ _ h => h) (Or.inl ⟨by rfl, ?_⟩) L0.out ?_
      · intro w hSw; (try dsimp only at hSw); go_simp
      try simp only [Act.put, List.setIfInBounds_toArray, List.set_cons_zero, List.set_cons_succ]
      refine wpAnyH_take (i := 3) (oi := ({ dst := some 20, op := _, type := _, pos := _, after := _, guard := _ } : Oper)) (v := undef) rfl (by kernel_rfl) (by kernel_rfl) (by kernel_rfl) (fun _ _ _ h => h) (Or.inr ⟨by rfl, rfl⟩) L0.out ?_
      try simp only [Act.put, List.setIfInBounds_toArray, List.set_cons_zero, List.set_cons_succ]
      refine wpAnyH_take (i := 4) (oi := ({ dst := some 21, op := _, type := _, pos := _, after := _, guard := _ } : Oper)) (v := undef) rfl (by kernel_rfl) (by kernel_rfl) (by kernel_rfl) (fun _ _ _ h => h) (Or.inr ⟨by rfl, rfl⟩) L0.out ?_
      try simp only [Act.put, List.setIfInBounds_toArray, List.set_cons_zero, List.set_cons_succ]
      refine wpAnyH_take (i := 5) (oi := ({ dst := some 22, op := _, type := _, pos := _, after := _, guard := _ } : Oper)) (v := undef) rfl (by kernel_rfl) (by kernel_rfl) (by kernel_rfl) (fun _ _ _ h => h) (Or.inr ⟨by rfl, rfl⟩) L0.out ?_
      try simp only [Act.put, List.setIfInBounds_toArray, List.set_cons_zero, List.set_cons_succ]
      refine wpAnyH_take (i := 6) (oi := ({ dst := some 23, op := _, type := _, pos := _, after := _, guard := _ } : Oper)) (v := undef) rfl (by kernel_rfl) (by kernel_rfl) (by kernel_rfl) (fun _ _ _ h => h) (Or.inr ⟨by rfl, rfl⟩) L0.out ?_
      try simp only [Act.put, List.setIfInBounds_toArray, List.set_cons_zero, List.set_cons_succ]
      refine wpAnyH_take (i := 7) (oi := ({ dst := some 24, op := _, type := _, pos := _, after := _, guard := _ } : Oper)) (v := undef) rfl (by kernel_rfl) (by kernel_rfl) (by kernel_rfl) (fun _ _ _ h => h) (Or.inr ⟨by rfl, rfl⟩) L0.out ?_
      try simp only [Act.put, List.setIfInBounds_toArray, List.set_cons_zero, List.set_cons_succ]
      refine wpAnyH_take (i := 8) (oi := ({ dst := some 25, op := _, type := _, pos := _, after := _, guard := _ } : Oper)) (v := undef) rfl (by kernel_rfl) (by kernel_rfl) (by kernel_rfl) (fun _ _ _ h => h) (Or.inr ⟨by rfl, rfl⟩) L0.out ?_
      try simp only [Act.put, List.setIfInBounds_toArray, List.set_cons_zero, List.set_cons_succ]
      refine wpAnyH_take (i := 9) (oi := ({ dst := some 26, op := _, type := _, pos := _, after := _, guard := _ } : Oper)) (v := (.bool false)) rfl (by kernel_rfl) (by kernel_rfl) (by kernel_rfl) (fun _ _ _ h => h) (Or.inl ⟨by rfl, ?_⟩) L0.out ?_
      · intro w hSw; (try dsimp only at hSw); go_simp
      try simp only [Act.put, List.setIfInBounds_toArray, List.set_cons_zero, List.set_cons_succ]
      refine wpAnyH_ready (rs := [10]) (by kernel_rfl) (by simp) ?_
      refine AllReadyH.cons (o := ({ dst := none, op := _, type := _, pos := _, after := _, guard := _ } : Oper)) rfl (fun K hK => ?_) AllReadyH.nil
      go_simp
      have L9 : Hid ((((w2.drew).setCell ⟨w.heap.size, 0, none⟩ (.slice na nn nc)).setCell ⟨w.heap.size, 1, none⟩ (.func fn pp qq)).cell? ⟨w1.heap.size, 0, none⟩ = some (.slice na nn nc) ∧ (((w2.drew).setCell ⟨w.heap.size, 0, none⟩ (.slice na nn nc)).setCell ⟨w.heap.size, 1, none⟩ (.func fn pp qq)).cell? ⟨w1.heap.size, 1, none⟩ = some (.func fn pp qq)) := by
        have hO := ownSet (ownSet HOB.out (p := ⟨w.heap.size, 0, none⟩) (by show w1.heap.size ≠ w.heap.size; omega) (.slice na nn nc)) (p := ⟨w.heap.size, 1, none⟩) (by show w1.heap.size ≠ w.heap.size; omega) (.func fn pp qq)
        have h := yown2 hO
        exact ⟨h.1, h.2.1⟩
      refine hK.out _ _ L9.out (fun _ => ?_)
      clear hK K
      try simp only [Act.put, List.setIfInBounds_toArray, List.set_cons_zero, List.set_cons_succ]
      refine wpAnyH_take (i := 11) (oi := ({ dst := some 5, op := _, type := _, pos := _, after := _, guard := _ } : Oper)) (v := (.bool false)) rfl (by kernel_rfl) (by kernel_rfl) (by kernel_rfl) (fun _ _ _ h => h) (Or.inl ⟨by rfl, ?_⟩) L9.out ?_
      · intro w hSw; (try dsimp only at hSw); go_simp
      try simp only [Act.put, List.setIfInBounds_toArray, List.set_cons_zero, List.set_cons_succ]
      refine wpAnyH_done (by kernel_rfl) ?_ _
      go_wp2_with fail
      refine bodyPost_ret (v := .tuple #[.agg #[.slice na nn nc, (.func fn pp qq)], .bool false]) (by simp [results, Tryz.results29, go_sem, z0, z1]) rfl ?_
      refine ⟨na, nn, nc, (.func fn pp qq), rfl, Or.inr ⟨_, _, _, rfl⟩, ?_⟩
      exact (((((((Below.refl _ _).alloc (Nat.le_refl _) _).trans (HW.out.mono (by simp))).alloc (by omega) _).trans (HW2.out.mono (by simp; omega))).drew.setCell (p := ⟨w.heap.size, 0, none⟩) (Nat.le_refl _) _).setCell (p := ⟨w.heap.size, 1, none⟩) (Nat.le_refl _) _)
  | some ns0 =>
    have HPK := hid hpk
    unfold Parted at HPC
    rw [hpk] at HPC
    simp only [Option.isSome_some] at HPC
    clear hpk
    go_enter Tryz.func29, Tryz.ntmps29
    go_wp2_with fail
    refine (HPC.out _ ((Below.refl _ _).alloc (Nat.le_refl _) _)).mono ?_
    rintro e w1 ⟨na, nn, nc, mf, ns, rfl, hfn, hns, hnl, hpn, hw⟩
    have hns' : ns = ns0 := hns ns0 rfl
    subst hns'
    have HW := hid hw
    have hs1 := hw.size
    simp only [World.size_alloc] at hs1
    have HIDS := hid (fun o : Obj => ids_any ns R (Fresh (w.alloc (.cells #[.slice none 0 0, .nilFunc] 47)) w1) (w1.alloc o) (.slice na nn nc) mf (hpn.keep (fun g hg => Below.heap_alloc _ _ _ hg.2) (fun c hc => Below.heap_alloc _ _ _ (by have := HR.out c hc; omega))) (fun g hg => by have := hg.2; simp; omega) (fun c hc => by have := HR.out c hc; simp; omega) (by omega) hfn)
    have HO1 := hid (fun o : Obj => ownAlloc ((own_new w #[.slice none 0 0, .nilFunc] 47).keep hw (by simp)) o)
    clear hw hpn hns
    rcases hfn with rfl | ⟨fn, pp, qq, rfl⟩
    · go_wp2_with (go_at_call 40; go_loud (refine (HIDS.out _).mono ?_; rintro e w2 ⟨u, rfl, hir, hw2⟩; have HW2 := hid hw2; have hOB := (own_new w1 #[.slice na nn nc, .nilFunc] 47).keep hw2 (by simp); have HOB : Hid (Own w2.drew w1.heap.size 47 #[.slice na nn nc, .nilFunc]) := hOB; clear hOB; have hOR := (HO1.out (.cells #[.slice na nn nc, .nilFunc] 47)).keep hw2 (by simp; omega); have HOR : Hid (Own w2.drew w.heap.size 47 #[.slice none 0 0, .nilFunc]) := hOR; clear hOR; obtain ⟨q0, q1, -⟩ := yown2 HOB.out; have HIR := hid hir; obtain ⟨ua, ul, uc, hul, rfl⟩ : ∃ ua ul uc, ul = ns.length ∧ u = .slice ua ul uc := (by obtain ⟨a, c, h, -⟩ := hir.ids; exact ⟨_, _, _, rfl, h⟩); have HUL := hid hul; clear hir hw2 hul))
      have hs2 := HW2.out.size
      simp only [World.size_alloc] at hs2
      have hBW2 : Below w.heap.size w w2 := (((((Below.refl _ _).alloc (Nat.le_refl _) _).trans (HW.out.mono (by simp))).alloc (by omega) _).trans (HW2.out.mono (by simp; omega)))
      have HBW2 := hid hBW2
      have HPL := hid (placesOf_any ns R w2.drew (.slice ua ul uc) HIR.out.ids (fun c hc => by have h1 := HR.out c hc; show c < w2.heap.size; omega) (by omega) (fun g hg => (HID.out ns HPK.out g hg).good) (HT.out.below hBW2.drew rfl))
      clear hBW2
      have L0 : Hid (w2.drew.cell? ⟨w1.heap.size, 0, none⟩ = some (.slice na nn nc) ∧ w2.drew.cell? ⟨w1.heap.size, 1, none⟩ = some .nilFunc) := ⟨q0, q1⟩
      refine wp_region_held_drew (S := fun w' => w'.cell? ⟨w1.heap.size, 0, none⟩ = some (.slice na nn nc) ∧ w'.cell? ⟨w1.heap.size, 1, none⟩ = some .nilFunc) rfl L0.out (fun _ => ?_)
      refine wpAnyH_take (i := 0) (oi := ({ dst := some 17, op := _, type := _, pos := _, after := _, guard := _ } : Oper)) (v := (.agg #[.slice na nn nc, .nilFunc])) rfl (by kernel_rfl) (by kernel_rfl) (by kernel_rfl) (fun _ _ _ h => h) (Or.inl ⟨by rfl, ?_⟩) L0.out ?_
      · intro w hSw; (try dsimp only at hSw); go_simp
      try simp only [Act.put, List.setIfInBounds_toArray, List.set_cons_zero, List.set_cons_succ]
      refine wpAnyH_take (i := 1) (oi := ({ dst := some 18, op := _, type := _, pos := _, after := _, guard := _ } : Oper)) (v := (.bool true)) rfl (by kernel_rfl) (by kernel_rfl) (by kernel_rfl) (fun _ _ _ h => h) (Or.inl ⟨by rfl, ?_⟩) L0.out ?_
      · intro w hSw; (try dsimp only at hSw); go_simp
      try simp only [Act.put, List.setIfInBounds_toArray, List.set_cons_zero, List.set_cons_succ]
      refine wpAnyH_take (i := 2) (oi := ({ dst := some 19, op := _, type := _, pos := _, after := _, guard := _ } : Oper)) (v := (.bool true)) rfl (by kernel_rfl) (by kernel_rfl) (by kernel_rfl) (fun _ _ _ h => h) (Or.inl ⟨by rfl, ?_⟩) L0.out ?_
      · intro w hSw; (try dsimp only at hSw); go_simp
      try simp only [Act.put, List.setIfInBounds_toArray, List.set_cons_zero, List.set_cons_succ]
      refine wpAnyH_take (i := 3) (oi := ({ dst := some 20, op := _, type := _, pos := _, after := _, guard := _ } : Oper)) (v := (.slice ua ul uc)) rfl (by kernel_rfl) (by kernel_rfl) (by kernel_rfl) (fun _ _ _ h => h) (Or.inl ⟨by rfl, ?_⟩) L0.out ?_
      · intro w hSw; (try dsimp only at hSw); go_simp
      try simp only [Act.put, List.setIfInBounds_toArray, List.set_cons_zero, List.set_cons_succ]
      refine wpAnyH_take (i := 6) (oi := ({ dst := some 23, op := _, type := _, pos := _, after := _, guard := _ } : Oper)) (v := (.slice ua ul uc)) rfl (by kernel_rfl) (by kernel_rfl) (by kernel_rfl) (fun _ _ _ h => h) (Or.inl ⟨by rfl, ?_⟩) L0.out ?_
      · intro w hSw; (try dsimp only at hSw); go_simp
      try simp only [Act.put, List.setIfInBounds_toArray, List.set_cons_zero, List.set_cons_succ]
      refine wpAnyH_take (i := 7) (oi := ({ dst := some 24, op := _, type := _, pos := _, after := _, guard := _ } : Oper)) (v := (.int .i64 ul)) rfl (by kernel_rfl) (by kernel_rfl) (by kernel_rfl) (fun _ _ _ h => h) (Or.inl ⟨by rfl, ?_⟩) L0.out ?_
      · intro w hSw; (try dsimp only at hSw); go_simp
      try simp only [Act.put, List.setIfInBounds_toArray, List.set_cons_zero, List.set_cons_succ]
      refine wpAnyH_ready (rs := [4]) (by kernel_rfl) (by simp) ?_
      refine AllReadyH.cons (o := ({ dst := some 21, op := _, type := _, pos := _, after := _, guard := _ } : Oper)) rfl (fun K hK => ?_) AllReadyH.nil
      go_simp
      go_at_call 30
      refine HPL.out.mono ?_
      rintro e w3 ⟨bb, rfl, hpl, hw3⟩
      have HW3 := hid hw3
      have HOB := hid (HOB.out.keep hw3 (by show w1.heap.size < w2.heap.size; omega))
      have HOR := hid (HOR.out.keep hw3 (by show w.heap.size < w2.heap.size; omega))
      obtain ⟨z0, z1, z2, z3⟩ := yown2 HOR.out
      obtain ⟨q0, q1, -⟩ := yown2 HOB.out
      have L1 : Hid (w3.cell? ⟨w1.heap.size, 0, none⟩ = some (.slice na nn nc) ∧ w3.cell? ⟨w1.heap.size, 1, none⟩ = some .nilFunc) := ⟨q0, q1⟩
      obtain ⟨mm, hlen, hmn, hml⟩ := hpl.len Tryz.underlying62
      rw [List.length_map] at hmn hml
      have HMN := hid hmn
      clear hpl hw3 hmn
      go_wp2_with fail
      refine hK.out _ _ L1.out (fun _ => ?_)
      clear hK K
      try simp only [Act.put, List.setIfInBounds_toArray, List.set_cons_zero, List.set_cons_succ]
      refine wpAnyH_ready (rs := [5]) (by kernel_rfl) (by simp) ?_
      refine AllReadyH.cons (o := ({ dst := some 22, op := _, type := _, pos := _, after := _, guard := _ } : Oper)) rfl (fun K hK => ?_) AllReadyH.nil
      go_simp
      refine hK.out _ _ L1.out (fun _ => ?_)
      clear hK K hlen
      try simp only [Act.put, List.setIfInBounds_toArray, List.set_cons_zero, List.set_cons_succ]
      have HON := hid (once_nodup (ks := ns) (fun g hg => HID.out ns HPK.out g hg))
      by_cases hN : mm = ul
      · have HON2 : Hid (onceB ns = true) := by
          show _ = _
          rw [HON.out, decide_eq_true (HMN.out.1 (by rw [hN, HUL.out]))]
        subst hN
        refine wpAnyH_take (i := 8) (oi := ({ dst := some 25, op := _, type := _, pos := _, after := _, guard := _ } : Oper)) (v := (.bool true)) rfl (by kernel_rfl) (by kernel_rfl) (by kernel_rfl) (fun _ _ _ h => h) (Or.inl ⟨by rfl, ?_⟩) L1.out ?_
        · intro w hSw; (try dsimp only at hSw); go_simp
        try simp only [Act.put, List.setIfInBounds_toArray, List.set_cons_zero, List.set_cons_succ]
        refine wpAnyH_take (i := 9) (oi := ({ dst := some 26, op := _, type := _, pos := _, after := _, guard := _ } : Oper)) (v := (.bool true)) rfl (by kernel_rfl) (by kernel_rfl) (by kernel_rfl) (fun _ _ _ h => h) (Or.inl ⟨by rfl, ?_⟩) L1.out ?_
        · intro w hSw; (try dsimp only at hSw); go_simp
        try simp only [Act.put, List.setIfInBounds_toArray, List.set_cons_zero, List.set_cons_succ]
        refine wpAnyH_ready (rs := [10]) (by kernel_rfl) (by simp) ?_
        refine AllReadyH.cons (o := ({ dst := none, op := _, type := _, pos := _, after := _, guard := _ } : Oper)) rfl (fun K hK => ?_) AllReadyH.nil
        go_simp
        have L9 : Hid ((((w3).setCell ⟨w.heap.size, 0, none⟩ (.slice na nn nc)).setCell ⟨w.heap.size, 1, none⟩ .nilFunc).cell? ⟨w1.heap.size, 0, none⟩ = some (.slice na nn nc) ∧ (((w3).setCell ⟨w.heap.size, 0, none⟩ (.slice na nn nc)).setCell ⟨w.heap.size, 1, none⟩ .nilFunc).cell? ⟨w1.heap.size, 1, none⟩ = some .nilFunc) := by
          have hO := ownSet (ownSet HOB.out (p := ⟨w.heap.size, 0, none⟩) (by show w1.heap.size ≠ w.heap.size; omega) (.slice na nn nc)) (p := ⟨w.heap.size, 1, none⟩) (by show w1.heap.size ≠ w.heap.size; omega) .nilFunc
          have h := yown2 hO
          exact ⟨h.1, h.2.1⟩
        refine hK.out _ _ L9.out (fun _ => ?_)
        clear hK K
        try simp only [Act.put, List.setIfInBounds_toArray, List.set_cons_zero, List.set_cons_succ]
        refine wpAnyH_take (i := 11) (oi := ({ dst := some 5, op := _, type := _, pos := _, after := _, guard := _ } : Oper)) (v := (.bool true)) rfl (by kernel_rfl) (by kernel_rfl) (by kernel_rfl) (fun _ _ _ h => h) (Or.inl ⟨by rfl, ?_⟩) L9.out ?_
        · intro w hSw; (try dsimp only at hSw); go_simp
        try simp only [Act.put, List.setIfInBounds_toArray, List.set_cons_zero, List.set_cons_succ]
        refine wpAnyH_done (by kernel_rfl) ?_ _
        go_wp2_with fail
        refine bodyPost_ret (v := .tuple #[.agg #[.slice na nn nc, .nilFunc], .bool true]) (by simp [results, Tryz.results29, go_sem, z0, z1]) rfl ?_
        refine ⟨na, nn, nc, .nilFunc, by rw [HON2.out], Or.inl rfl, ?_⟩
        exact ((HBW2.out.drew.trans (HW3.out.mono (by show w.heap.size ≤ w2.heap.size; omega))).setCell (p := ⟨w.heap.size, 0, none⟩) (Nat.le_refl _) _).setCell (p := ⟨w.heap.size, 1, none⟩) (Nat.le_refl _) _
      · have HON2 : Hid (onceB ns = false) := by
          show _ = _
          rw [HON.out, decide_eq_false (fun h => hN (by rw [HUL.out]; exact HMN.out.2 h))]
        have hne : ((mm : Int) == (ul : Int)) = false := by rw [beq_eq_false_iff_ne]; omega
        refine wpAnyH_take (i := 8) (oi := ({ dst := some 25, op := _, type := _, pos := _, after := _, guard := _ } : Oper)) (v := (.bool false)) rfl (by kernel_rfl) (by kernel_rfl) (by kernel_rfl) (fun _ _ _ h => h) (Or.inl ⟨by rfl, ?_⟩) L1.out ?_
        · intro w hSw; (try dsimp only at hSw); go_simp
        try simp only [Act.put, List.setIfInBounds_toArray, List.set_cons_zero, List.set_cons_succ]
        refine wpAnyH_take (i := 9) (oi := ({ dst := some 26, op := _, type := _, pos := _, after := _, guard := _ } : Oper)) (v := (.bool false)) rfl (by kernel_rfl) (by kernel_rfl) (by kernel_rfl) (fun _ _ _ h => h) (Or.inl ⟨by rfl, ?_⟩) L1.out ?_
        · intro w hSw; (try dsimp only at hSw); go_simp
        try simp only [Act.put, List.setIfInBounds_toArray, List.set_cons_zero, List.set_cons_succ]
        refine wpAnyH_ready (rs := [10]) (by kernel_rfl) (by simp) ?_
        refine AllReadyH.cons (o := ({ dst := none, op := _, type := _, pos := _, after := _, guard := _ } : Oper)) rfl (fun K hK => ?_) AllReadyH.nil
        go_simp
        have L9 : Hid ((((w3).setCell ⟨w.heap.size, 0, none⟩ (.slice na nn nc)).setCell ⟨w.heap.size, 1, none⟩ .nilFunc).cell? ⟨w1.heap.size, 0, none⟩ = some (.slice na nn nc) ∧ (((w3).setCell ⟨w.heap.size, 0, none⟩ (.slice na nn nc)).setCell ⟨w.heap.size, 1, none⟩ .nilFunc).cell? ⟨w1.heap.size, 1, none⟩ = some .nilFunc) := by
          have hO := ownSet (ownSet HOB.out (p := ⟨w.heap.size, 0, none⟩) (by show w1.heap.size ≠ w.heap.size; omega) (.slice na nn nc)) (p := ⟨w.heap.size, 1, none⟩) (by show w1.heap.size ≠ w.heap.size; omega) .nilFunc
          have h := yown2 hO
          exact ⟨h.1, h.2.1⟩
        refine hK.out _ _ L9.out (fun _ => ?_)
        clear hK K
        try simp only [Act.put, List.setIfInBounds_toArray, List.set_cons_zero, List.set_cons_succ]
        refine wpAnyH_take (i := 11) (oi := ({ dst := some 5, op := _, type := _, pos := _, after := _, guard := _ } : Oper)) (v := (.bool false)) rfl (by kernel_rfl) (by kernel_rfl) (by kernel_rfl) (fun _ _ _ h => h) (Or.inl ⟨by rfl, ?_⟩) L9.out ?_
        · intro w hSw; (try dsimp only at hSw); go_simp
        try simp only [Act.put, List.setIfInBounds_toArray, List.set_cons_zero, List.set_cons_succ]
        refine wpAnyH_done (by kernel_rfl) ?_ _
        go_wp2_with fail
        refine bodyPost_ret (v := .tuple #[.agg #[.slice na nn nc, .nilFunc], .bool false]) (by simp [results, Tryz.results29, go_sem, z0, z1]) rfl ?_
        refine ⟨na, nn, nc, .nilFunc, by rw [HON2.out], Or.inl rfl, ?_⟩
        exact ((HBW2.out.drew.trans (HW3.out.mono (by show w.heap.size ≤ w2.heap.size; omega))).setCell (p := ⟨w.heap.size, 0, none⟩) (Nat.le_refl _) _).setCell (p := ⟨w.heap.size, 1, none⟩) (Nat.le_refl _) _
    · go_wp2_with (go_at_call 40; go_loud (refine (HIDS.out _).mono ?_; rintro e w2 ⟨u, rfl, hir, hw2⟩; have HW2 := hid hw2; have hOB := (own_new w1 #[.slice na nn nc, (.func fn pp qq)] 47).keep hw2 (by simp); have HOB : Hid (Own w2.drew w1.heap.size 47 #[.slice na nn nc, (.func fn pp qq)]) := hOB; clear hOB; have hOR := (HO1.out (.cells #[.slice na nn nc, (.func fn pp qq)] 47)).keep hw2 (by simp; omega); have HOR : Hid (Own w2.drew w.heap.size 47 #[.slice none 0 0, .nilFunc]) := hOR; clear hOR; obtain ⟨q0, q1, -⟩ := yown2 HOB.out; have HIR := hid hir; obtain ⟨ua, ul, uc, hul, rfl⟩ : ∃ ua ul uc, ul = ns.length ∧ u = .slice ua ul uc := (by obtain ⟨a, c, h, -⟩ := hir.ids; exact ⟨_, _, _, rfl, h⟩); have HUL := hid hul; clear hir hw2 hul))
      have hs2 := HW2.out.size
      simp only [World.size_alloc] at hs2
      have hBW2 : Below w.heap.size w w2 := (((((Below.refl _ _).alloc (Nat.le_refl _) _).trans (HW.out.mono (by simp))).alloc (by omega) _).trans (HW2.out.mono (by simp; omega)))
      have HBW2 := hid hBW2
      have HPL := hid (placesOf_any ns R w2.drew (.slice ua ul uc) HIR.out.ids (fun c hc => by have h1 := HR.out c hc; show c < w2.heap.size; omega) (by omega) (fun g hg => (HID.out ns HPK.out g hg).good) (HT.out.below hBW2.drew rfl))
      clear hBW2
      have L0 : Hid (w2.drew.cell? ⟨w1.heap.size, 0, none⟩ = some (.slice na nn nc) ∧ w2.drew.cell? ⟨w1.heap.size, 1, none⟩ = some (.func fn pp qq)) := ⟨q0, q1⟩
      refine wp_region_held_drew (S := fun w' => w'.cell? ⟨w1.heap.size, 0, none⟩ = some (.slice na nn nc) ∧ w'.cell? ⟨w1.heap.size, 1, none⟩ = some (.func fn pp qq)) rfl L0.out (fun _ => ?_)
      refine wpAnyH_take (i := 0) (oi := ({ dst := some 17, op := _, type := _, pos := _, after := _, guard := _ } : Oper)) (v := (.agg #[.slice na nn nc, (.func fn pp qq)])) rfl (by kernel_rfl) (by kernel_rfl) (by kernel_rfl) (fun _ _ _ h => h) (Or.inl ⟨by rfl, ?_⟩) L0.out ?_
      · intro w hSw; (try dsimp only at hSw); go_simp
      try simp only [Act.put, List.setIfInBounds_toArray, List.set_cons_zero, List.set_cons_succ]
      refine wpAnyH_take (i := 1) (oi := ({ dst := some 18, op := _, type := _, pos := _, after := _, guard := _ } : Oper)) (v := (.bool true)) rfl (by kernel_rfl) (by kernel_rfl) (by kernel_rfl) (fun _ _ _ h => h) (Or.inl ⟨by rfl, ?_⟩) L0.out ?_
      · intro w hSw; (try dsimp only at hSw); go_simp
      try simp only [Act.put, List.setIfInBounds_toArray, List.set_cons_zero, List.set_cons_succ]
      refine wpAnyH_take (i := 2) (oi := ({ dst := some 19, op := _, type := _, pos := _, after := _, guard := _ } : Oper)) (v := (.bool true)) rfl (by kernel_rfl) (by kernel_rfl) (by kernel_rfl) (fun _ _ _ h => h) (Or.inl ⟨by rfl, ?_⟩) L0.out ?_
      · intro w hSw; (try dsimp only at hSw); go_simp
      try simp only [Act.put, List.setIfInBounds_toArray, List.set_cons_zero, List.set_cons_succ]
      refine wpAnyH_take (i := 3) (oi := ({ dst := some 20, op := _, type := _, pos := _, after := _, guard := _ } : Oper)) (v := (.slice ua ul uc)) rfl (by kernel_rfl) (by kernel_rfl) (by kernel_rfl) (fun _ _ _ h => h) (Or.inl ⟨by rfl, ?_⟩) L0.out ?_
      · intro w hSw; (try dsimp only at hSw); go_simp
      try simp only [Act.put, List.setIfInBounds_toArray, List.set_cons_zero, List.set_cons_succ]
      refine wpAnyH_take (i := 6) (oi := ({ dst := some 23, op := _, type := _, pos := _, after := _, guard := _ } : Oper)) (v := (.slice ua ul uc)) rfl (by kernel_rfl) (by kernel_rfl) (by kernel_rfl) (fun _ _ _ h => h) (Or.inl ⟨by rfl, ?_⟩) L0.out ?_
      · intro w hSw; (try dsimp only at hSw); go_simp
      try simp only [Act.put, List.setIfInBounds_toArray, List.set_cons_zero, List.set_cons_succ]
      refine wpAnyH_take (i := 7) (oi := ({ dst := some 24, op := _, type := _, pos := _, after := _, guard := _ } : Oper)) (v := (.int .i64 ul)) rfl (by kernel_rfl) (by kernel_rfl) (by kernel_rfl) (fun _ _ _ h => h) (Or.inl ⟨by rfl, ?_⟩) L0.out ?_
      · intro w hSw; (try dsimp only at hSw); go_simp
      try simp only [Act.put, List.setIfInBounds_toArray, List.set_cons_zero, List.set_cons_succ]
      refine wpAnyH_ready (rs := [4]) (by kernel_rfl) (by simp) ?_
      refine AllReadyH.cons (o := ({ dst := some 21, op := _, type := _, pos := _, after := _, guard := _ } : Oper)) rfl (fun K hK => ?_) AllReadyH.nil
      go_simp
      go_at_call 30
      refine HPL.out.mono ?_
      rintro e w3 ⟨bb, rfl, hpl, hw3⟩
      have HW3 := hid hw3
      have HOB := hid (HOB.out.keep hw3 (by show w1.heap.size < w2.heap.size; omega))
      have HOR := hid (HOR.out.keep hw3 (by show w.heap.size < w2.heap.size; omega))
      obtain ⟨z0, z1, z2, z3⟩ := yown2 HOR.out
      obtain ⟨q0, q1, -⟩ := yown2 HOB.out
      have L1 : Hid (w3.cell? ⟨w1.heap.size, 0, none⟩ = some (.slice na nn nc) ∧ w3.cell? ⟨w1.heap.size, 1, none⟩ = some (.func fn pp qq)) := ⟨q0, q1⟩
      obtain ⟨mm, hlen, hmn, hml⟩ := hpl.len Tryz.underlying62
      rw [List.length_map] at hmn hml
      have HMN := hid hmn
      clear hpl hw3 hmn
      go_wp2_with fail
      refine hK.out _ _ L1.out (fun _ => ?_)
      clear hK K
      try simp only [Act.put, List.setIfInBounds_toArray, List.set_cons_zero, List.set_cons_succ]
      refine wpAnyH_ready (rs := [5]) (by kernel_rfl) (by simp) ?_
      refine AllReadyH.cons (o := ({ dst := some 22, op := _, type := _, pos := _, after := _, guard := _ } : Oper)) rfl (fun K hK => ?_) AllReadyH.nil
      go_simp
      refine hK.out _ _ L1.out (fun _ => ?_)
      clear hK K hlen
      try simp only [Act.put, List.setIfInBounds_toArray, List.set_cons_zero, List.set_cons_succ]
      have HON := hid (once_nodup (ks := ns) (fun g hg => HID.out ns HPK.out g hg))
      by_cases hN : mm = ul
      · have HON2 : Hid (onceB ns = true) := by
          show _ = _
          rw [HON.out, decide_eq_true (HMN.out.1 (by rw [hN, HUL.out]))]
        subst hN
        refine wpAnyH_take (i := 8) (oi := ({ dst := some 25, op := _, type := _, pos := _, after := _, guard := _ } : Oper)) (v := (.bool true)) rfl (by kernel_rfl) (by kernel_rfl) (by kernel_rfl) (fun _ _ _ h => h) (Or.inl ⟨by rfl, ?_⟩) L1.out ?_
        · intro w hSw; (try dsimp only at hSw); go_simp
        try simp only [Act.put, List.setIfInBounds_toArray, List.set_cons_zero, List.set_cons_succ]
        refine wpAnyH_take (i := 9) (oi := ({ dst := some 26, op := _, type := _, pos := _, after := _, guard := _ } : Oper)) (v := (.bool true)) rfl (by kernel_rfl) (by kernel_rfl) (by kernel_rfl) (fun _ _ _ h => h) (Or.inl ⟨by rfl, ?_⟩) L1.out ?_
        · intro w hSw; (try dsimp only at hSw); go_simp
        try simp only [Act.put, List.setIfInBounds_toArray, List.set_cons_zero, List.set_cons_succ]
        refine wpAnyH_ready (rs := [10]) (by kernel_rfl) (by simp) ?_
        refine AllReadyH.cons (o := ({ dst := none, op := _, type := _, pos := _, after := _, guard := _ } : Oper)) rfl (fun K hK => ?_) AllReadyH.nil
        go_simp
        have L9 : Hid ((((w3).setCell ⟨w.heap.size, 0, none⟩ (.slice na nn nc)).setCell ⟨w.heap.size, 1, none⟩ (.func fn pp qq)).cell? ⟨w1.heap.size, 0, none⟩ = some (.slice na nn nc) ∧ (((w3).setCell ⟨w.heap.size, 0, none⟩ (.slice na nn nc)).setCell ⟨w.heap.size, 1, none⟩ (.func fn pp qq)).cell? ⟨w1.heap.size, 1, none⟩ = some (.func fn pp qq)) := by
          have hO := ownSet (ownSet HOB.out (p := ⟨w.heap.size, 0, none⟩) (by show w1.heap.size ≠ w.heap.size; omega) (.slice na nn nc)) (p := ⟨w.heap.size, 1, none⟩) (by show w1.heap.size ≠ w.heap.size; omega) (.func fn pp qq)
          have h := yown2 hO
          exact ⟨h.1, h.2.1⟩
        refine hK.out _ _ L9.out (fun _ => ?_)
        clear hK K
        try simp only [Act.put, List.setIfInBounds_toArray, List.set_cons_zero, List.set_cons_succ]
        refine wpAnyH_take (i := 11) (oi := ({ dst := some 5, op := _, type := _, pos := _, after := _, guard := _ } : Oper)) (v := (.bool true)) rfl (by kernel_rfl) (by kernel_rfl) (by kernel_rfl) (fun _ _ _ h => h) (Or.inl ⟨by rfl, ?_⟩) L9.out ?_
        · intro w hSw; (try dsimp only at hSw); go_simp
        try simp only [Act.put, List.setIfInBounds_toArray, List.set_cons_zero, List.set_cons_succ]
        refine wpAnyH_done (by kernel_rfl) ?_ _
        go_wp2_with fail
        refine bodyPost_ret (v := .tuple #[.agg #[.slice na nn nc, (.func fn pp qq)], .bool true]) (by simp [results, Tryz.results29, go_sem, z0, z1]) rfl ?_
        refine ⟨na, nn, nc, (.func fn pp qq), by rw [HON2.out], Or.inr ⟨_, _, _, rfl⟩, ?_⟩
        exact ((HBW2.out.drew.trans (HW3.out.mono (by show w.heap.size ≤ w2.heap.size; omega))).setCell (p := ⟨w.heap.size, 0, none⟩) (Nat.le_refl _) _).setCell (p := ⟨w.heap.size, 1, none⟩) (Nat.le_refl _) _
      · have HON2 : Hid (onceB ns = false) := by
          show _ = _
          rw [HON.out, decide_eq_false (fun h => hN (by rw [HUL.out]; exact HMN.out.2 h))]
        have hne : ((mm : Int) == (ul : Int)) = false := by rw [beq_eq_false_iff_ne]; omega
        refine wpAnyH_take (i := 8) (oi := ({ dst := some 25, op := _, type := _, pos := _, after := _, guard := _ } : Oper)) (v := (.bool false)) rfl (by kernel_rfl) (by kernel_rfl) (by kernel_rfl) (fun _ _ _ h => h) (Or.inl ⟨by rfl, ?_⟩) L1.out ?_
        · intro w hSw; (try dsimp only at hSw); go_simp
        try simp only [Act.put, List.setIfInBounds_toArray, List.set_cons_zero, List.set_cons_succ]
        refine wpAnyH_take (i := 9) (oi := ({ dst := some 26, op := _, type := _, pos := _, after := _, guard := _ } : Oper)) (v := (.bool false)) rfl (by kernel_rfl) (by kernel_rfl) (by kernel_rfl) (fun _ _ _ h => h) (Or.inl ⟨by rfl, ?_⟩) L1.out ?_
        · intro w hSw; (try dsimp only at hSw); go_simp
        try simp only [Act.put, List.setIfInBounds_toArray, List.set_cons_zero, List.set_cons_succ]
        refine wpAnyH_ready (rs := [10]) (by kernel_rfl) (by simp) ?_
        refine AllReadyH.cons (o := ({ dst := none, op := _, type := _, pos := _, after := _, guard := _ } : Oper)) rfl (fun K hK => ?_) AllReadyH.nil
        go_simp
        have L9 : Hid ((((w3).setCell ⟨w.heap.size, 0, none⟩ (.slice na nn nc)).setCell ⟨w.heap.size, 1, none⟩ (.func fn pp qq)).cell? ⟨w1.heap.size, 0, none⟩ = some (.slice na nn nc) ∧ (((w3).setCell ⟨w.heap.size, 0, none⟩ (.slice na nn nc)).setCell ⟨w.heap.size, 1, none⟩ (.func fn pp qq)).cell? ⟨w1.heap.size, 1, none⟩ = some (.func fn pp qq)) := by
          have hO := ownSet (ownSet HOB.out (p := ⟨w.heap.size, 0, none⟩) (by show w1.heap.size ≠ w.heap.size; omega) (.slice na nn nc)) (p := ⟨w.heap.size, 1, none⟩) (by show w1.heap.size ≠ w.heap.size; omega) (.func fn pp qq)
          have h := yown2 hO
          exact ⟨h.1, h.2.1⟩
        refine hK.out _ _ L9.out (fun _ => ?_)
        clear hK K
        try simp only [Act.put, List.setIfInBounds_toArray, List.set_cons_zero, List.set_cons_succ]
        refine wpAnyH_take (i := 11) (oi := ({ dst := some 5, op := _, type := _, pos := _, after := _, guard := _ } : Oper)) (v := (.bool false)) rfl (by kernel_rfl) (by kernel_rfl) (by kernel_rfl) (fun _ _ _ h => h) (Or.inl ⟨by rfl, ?_⟩) L9.out ?_
        · intro w hSw; (try dsimp only at hSw); go_simp
        try simp only [Act.put, List.setIfInBounds_toArray, List.set_cons_zero, List.set_cons_succ]
        refine wpAnyH_done (by kernel_rfl) ?_ _
        go_wp2_with fail
        refine bodyPost_ret (v := .tuple #[.agg #[.slice na nn nc, (.func fn pp qq)], .bool false]) (by simp [results, Tryz.results29, go_sem, z0, z1]) rfl ?_
        refine ⟨na, nn, nc, (.func fn pp qq), by rw [HON2.out], Or.inr ⟨_, _, _, rfl⟩, ?_⟩
        exact ((HBW2.out.drew.trans (HW3.out.mono (by show w.heap.size ≤ w2.heap.size; omega))).setCell (p := ⟨w.heap.size, 0, none⟩) (Nat.le_refl _) _).setCell (p := ⟨w.heap.size, 1, none⟩) (Nat.le_refl _) _
end Go.Proofs.YthlacjabelpehaaGreatDoor

namespace Go.Siskin
def Reg (B : Nat → Prop) (w w' : World) (b : Nat) : Prop := B b ∨ (w.heap.size ≤ b ∧ b < w'.heap.size)
end Go.Siskin
