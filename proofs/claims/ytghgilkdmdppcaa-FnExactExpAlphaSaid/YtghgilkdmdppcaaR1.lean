/-
  Two parts held against each other but for names, plainly; the numbers of pairs, by name. No program is named.
-/
import Derived.Test.YtghgilkdmdppcaaQ1
namespace Go.Siskin
open Go.RowKit

/-- Two texts are one. -/
def eqT (a b : ByteArray) : Bool := a.toList == b.toList
theorem eqT_iff (a b : ByteArray) : eqT a b = true ↔ a = b := by
  unfold eqT
  rw [beq_iff_eq]
  constructor
  · intro e
    rw [Go.ByteArray.toList_eq, Go.ByteArray.toList_eq] at e
    exact Go.WideShapes.bytes_inj e
  · intro e; rw [e]
theorem eqT_self (a : ByteArray) : eqT a a = true := (eqT_iff _ _).2 rfl
theorem eqT_no {a b : ByteArray} : eqT a b = false ↔ a ≠ b := by
  rw [← Bool.not_eq_true, eqT_iff]

/-- Whether two names stand for the same, the last pair first. -/
def nameE : List (ByteArray × ByteArray) → ByteArray → ByteArray → Bool
  | [], a, b => eqT a b
  | p :: r, a, b => if (eqT p.1 a || eqT p.2 b) = true then (eqT p.1 a && eqT p.2 b) else nameE r a b

/-- The pairs of names, the last first, ahead of those around. -/
def boundE (E : List (ByteArray × ByteArray)) (xs ys : List ByteArray) : List (ByteArray × ByteArray) := (xs.zip ys).reverse ++ E

/-- Whether two texts of a sort are held the same. -/
def textB (E : List (ByteArray × ByteArray)) (s : Int) (a b : ByteArray) : Bool := if s = 2 ∨ s = 6 ∨ s = 9 then nameE E a b else eqT a b

def allE : List (List (ByteArray × ByteArray) → Cm → Bool) → List (ByteArray × ByteArray) → List Cm → Bool
  | [], _, [] => true
  | f :: r, E, d :: q => f E d && allE r E q
  | _, _, _ => false

/-- The same but for names. -/
def alphaC : Cm → List (ByteArray × ByteArray) → Cm → Bool
  | ⟨s, t, r, ns, ks⟩ => fun E d => decide (s = d.sort) && (r == d.rest) && decide (ns.length = d.names.length) && decide (ks.length = d.kids.length) && textB E s t d.text && allE (ks.map fun k => alphaC k) (boundE E ns d.names) d.kids
def alphaS (E : List (ByteArray × ByteArray)) (ks ds : List Cm) : Bool := allE (ks.map alphaC) E ds

theorem alphaC_eq (c d : Cm) (E : List (ByteArray × ByteArray)) : alphaC c E d = (decide (c.sort = d.sort) && (c.rest == d.rest) && decide (c.names.length = d.names.length) && decide (c.kids.length = d.kids.length) && textB E c.sort c.text d.text && alphaS (boundE E c.names d.names) c.kids d.kids) := by
  obtain ⟨s, t, r, ns, ks⟩ := c
  rw [alphaC]; rfl

theorem alphaS_nil (E : List (ByteArray × ByteArray)) : alphaS E [] [] = true := rfl
theorem alphaS_cons (E : List (ByteArray × ByteArray)) (k d : Cm) (ks ds : List Cm) : alphaS E (k :: ks) (d :: ds) = (alphaC k E d && alphaS E ks ds) := rfl
theorem alphaS_len (E : List (ByteArray × ByteArray)) : ∀ (ks ds : List Cm), ks.length ≠ ds.length → alphaS E ks ds = false
  | [], [], h => absurd rfl h
  | [], _ :: _, _ => rfl
  | _ :: _, [], _ => rfl
  | k :: ks, d :: ds, h => by
    rw [alphaS_cons, alphaS_len E ks ds (by intro e; exact h (by simp [e])), Bool.and_false]
theorem alphaS_yes (E : List (ByteArray × ByteArray)) : ∀ (ks ds : List Cm), ks.length = ds.length → (∀ i (h : i < ks.length) (h' : i < ds.length), alphaC ks[i] E ds[i] = true) → alphaS E ks ds = true
  | [], [], _, _ => rfl
  | [], _ :: _, h, _ => absurd h (by simp)
  | _ :: _, [], h, _ => absurd h (by simp)
  | k :: ks, d :: ds, h, hi => by
    have h0 : alphaC k E d = true := hi 0 (by simp) (by simp)
    rw [alphaS_cons, h0, alphaS_yes E ks ds (by simpa using h) (fun i h1 h2 => hi (i + 1) (by simpa using h1) (by simpa using h2)), Bool.and_self]
theorem alphaS_no (E : List (ByteArray × ByteArray)) : ∀ (ks ds : List Cm) (i : Nat) (h : i < ks.length) (h' : i < ds.length), alphaC ks[i] E ds[i] = false → alphaS E ks ds = false
  | [], _, _, h, _, _ => absurd h (Nat.not_lt_zero _)
  | _ :: _, [], _, _, h, _ => absurd h (Nat.not_lt_zero _)
  | k :: ks, d :: ds, 0, _, _, e => by
    have e' : alphaC k E d = false := e
    rw [alphaS_cons, e', Bool.false_and]
  | k :: ks, d :: ds, i + 1, h, h', e => by
    rw [alphaS_cons, alphaS_no E ks ds i (by simpa using h) (by simpa using h') (by simpa using e), Bool.and_false]

/-- One side of a pair. -/
def side (i : Bool) (p : ByteArray × ByteArray) : ByteArray := if i then p.1 else p.2
/-- The numbers of the pairs in which a name is. -/
def nums (T : List (Int × ByteArray × ByteArray)) (i : Bool) (s : ByteArray) : List Int := (T.filter fun x => eqT (side i x.2) s).map Prod.fst
theorem nums_nil (i : Bool) (s : ByteArray) : nums [] i s = [] := rfl
theorem nums_append (T U : List (Int × ByteArray × ByteArray)) (i : Bool) (s : ByteArray) : nums (T ++ U) i s = nums T i s ++ nums U i s := by
  unfold nums; rw [List.filter_append, List.map_append]
theorem nums_one (x : Int × ByteArray × ByteArray) (i : Bool) (s : ByteArray) : nums [x] i s = if eqT (side i x.2) s = true then [x.1] else [] := by
  unfold nums
  rw [List.filter_cons, List.filter_nil]
  split <;> rfl
theorem nums_mem {T : List (Int × ByteArray × ByteArray)} {i : Bool} {s : ByteArray} {n : Int} (h : n ∈ nums T i s) : ∃ x ∈ T, x.1 = n := by
  unfold nums at h
  obtain ⟨x, hx, e⟩ := List.mem_map.1 h
  exact ⟨x, (List.mem_filter.1 hx).1, e⟩

/-- What the program asks of two names. -/
def standB (A : Bool → ByteArray → List Int) (a b : ByteArray) : Bool :=
  match (A true a).getLast?, (A false b).getLast? with
  | none, none => eqT a b
  | some x, some y => decide (x = y)
  | _, _ => false

def envOf (T : List (Int × ByteArray × ByteArray)) : List (ByteArray × ByteArray) := (T.map Prod.snd).reverse
theorem envOf_snoc (T : List (Int × ByteArray × ByteArray)) (x : Int × ByteArray × ByteArray) : envOf (T ++ [x]) = x.2 :: envOf T := by
  unfold envOf; simp

def Asc (T : List (Int × ByteArray × ByteArray)) : Prop := T.Pairwise fun x y => x.1 < y.1

theorem nums_last_snoc (T : List (Int × ByteArray × ByteArray)) (x : Int × ByteArray × ByteArray) (i : Bool) (s : ByteArray) : (nums (T ++ [x]) i s).getLast? = if eqT (side i x.2) s = true then some x.1 else (nums T i s).getLast? := by
  rw [nums_append, nums_one]
  split
  · simp
  · simp

theorem stand_name_rev : ∀ (R : List (Int × ByteArray × ByteArray)) (_ : Asc R.reverse) (a b : ByteArray), standB (nums R.reverse) a b = nameE (envOf R.reverse) a b
  | [], _, a, b => by
    unfold standB; rfl
  | x :: r, h, a, b => by
    rw [List.reverse_cons] at h ⊢
    have hr : Asc r.reverse := (List.pairwise_append.1 h).1
    have hlt : ∀ y ∈ r.reverse, y.1 < x.1 := fun y hy => (List.pairwise_append.1 h).2.2 y hy x (List.mem_singleton.2 rfl)
    have ih := stand_name_rev r hr a b
    rw [envOf_snoc]
    unfold nameE
    unfold standB
    rw [nums_last_snoc, nums_last_snoc]
    have e1 : side true x.2 = x.2.1 := rfl
    have e2 : side false x.2 = x.2.2 := rfl
    rw [e1, e2]
    have big : ∀ i s n, (nums r.reverse i s).getLast? = some n → n < x.1 := fun i s n hn => by
      obtain ⟨y, hy, rfl⟩ := nums_mem (List.mem_of_getLast? hn)
      exact hlt y hy
    cases h1 : eqT x.2.1 a <;> cases h2 : eqT x.2.2 b
    · simp only [Bool.false_eq_true, if_false, Bool.or_self]
      exact ih
    · simp only [Bool.false_eq_true, if_false, if_true, Bool.false_or, Bool.false_and]
      cases h3 : (nums r.reverse true a).getLast? with
      | none => rfl
      | some n =>
        have := big _ _ _ h3
        simp only [decide_eq_false_iff_not]
        omega
    · simp only [Bool.false_eq_true, if_false, if_true, Bool.or_false, Bool.and_false]
      cases h3 : (nums r.reverse false b).getLast? with
      | none => rfl
      | some n =>
        have := big _ _ _ h3
        simp only [decide_eq_false_iff_not]
        omega
    · simp
theorem stand_name (T : List (Int × ByteArray × ByteArray)) (h : Asc T) (a b : ByteArray) : standB (nums T) a b = nameE (envOf T) a b := by
  have := stand_name_rev T.reverse (by rw [List.reverse_reverse]; exact h) a b
  rwa [List.reverse_reverse] at this

/-- Pairs, numbered from p on. -/
def trips : Int → List (ByteArray × ByteArray) → List (Int × ByteArray × ByteArray)
  | _, [] => []
  | p, x :: r => (p, x) :: trips (p + 1) r
theorem trips_snd : ∀ (p : Int) (l : List (ByteArray × ByteArray)), (trips p l).map Prod.snd = l
  | _, [] => rfl
  | p, x :: r => by rw [trips, List.map_cons, trips_snd]
theorem trips_len (p : Int) (l : List (ByteArray × ByteArray)) : (trips p l).length = l.length := by
  have := congrArg List.length (trips_snd p l)
  rwa [List.length_map] at this
theorem trips_snoc : ∀ (p : Int) (l : List (ByteArray × ByteArray)) (x : ByteArray × ByteArray), trips p (l ++ [x]) = trips p l ++ [(p + l.length, x)]
  | p, [], x => by simp [trips]
  | p, y :: r, x => by
    rw [List.cons_append, trips, trips_snoc (p + 1) r x, trips, List.cons_append]
    congr 4
    simp; omega
theorem trips_bound : ∀ (p : Int) (l : List (ByteArray × ByteArray)) (y : Int × ByteArray × ByteArray), y ∈ trips p l → p ≤ y.1 ∧ y.1 < p + l.length
  | _, [], _, h => absurd h (by simp [trips])
  | p, x :: r, y, h => by
    rw [trips, List.mem_cons] at h
    rcases h with rfl | h
    · simp; omega
    · have := trips_bound (p + 1) r y h
      simp; omega
theorem trips_asc : ∀ (p : Int) (l : List (ByteArray × ByteArray)), Asc (trips p l)
  | _, [] => List.Pairwise.nil
  | p, x :: r => by
    rw [trips]
    exact List.Pairwise.cons (fun y hy => by have := trips_bound (p + 1) r y hy; show p < y.1; omega) (trips_asc (p + 1) r)
theorem envOf_bound (T : List (Int × ByteArray × ByteArray)) (p : Int) (xs ys : List ByteArray) : envOf (T ++ trips p (xs.zip ys)) = boundE (envOf T) xs ys := by
  unfold envOf boundE
  rw [List.map_append, List.reverse_append, trips_snd]
/-- Numbers are below p, and ascend. -/
def GoodT (T : List (Int × ByteArray × ByteArray)) (p : Int) : Prop := Asc T ∧ ∀ x ∈ T, x.1 < p
theorem GoodT.more {T : List (Int × ByteArray × ByteArray)} {p : Int} (h : GoodT T p) (l : List (ByteArray × ByteArray)) : GoodT (T ++ trips p l) (p + l.length) := by
  refine ⟨List.pairwise_append.2 ⟨h.1, trips_asc p l, fun x hx y hy => ?_⟩, fun x hx => ?_⟩
  · have h1 := h.2 x hx
    have h2 := trips_bound p l y hy
    show x.1 < y.1
    omega
  · rcases List.mem_append.1 hx with hx | hx
    · have := h.2 x hx; omega
    · exact (trips_bound p l x hx).2
theorem GoodT.mono {T : List (Int × ByteArray × ByteArray)} {p q : Int} (h : GoodT T p) (hq : p ≤ q) : GoodT T q := ⟨h.1, fun x hx => by have := h.2 x hx; omega⟩

theorem nums_trips_len (i : Bool) (s : ByteArray) : ∀ (p : Int) (l : List (ByteArray × ByteArray)), (nums (trips p l) i s).length = (l.map (side i)).countP fun t => eqT t s
  | _, [] => rfl
  | p, x :: r => by
    have h : trips p (x :: r) = [(p, x)] ++ trips (p + 1) r := rfl
    rw [h, nums_append, nums_one, List.length_append, nums_trips_len i s (p + 1) r, List.map_cons, List.countP_cons]
    show _ = _ + if eqT (side i x) s = true then 1 else 0
    cases eqT (side i x) s <;> simp <;> omega
theorem side_true (xs ys : List ByteArray) (h : xs.length = ys.length) : (xs.zip ys).map (side true) = xs := by
  have : (side true) = (Prod.fst : ByteArray × ByteArray → ByteArray) := rfl
  rw [this, List.map_fst_zip (by omega)]
theorem side_false (xs ys : List ByteArray) (h : xs.length = ys.length) : (xs.zip ys).map (side false) = ys := by
  have : (side false) = (Prod.snd : ByteArray × ByteArray → ByteArray) := rfl
  rw [this, List.map_snd_zip (by omega)]

/-- What stands at one name of one side is another list. -/
def updA (A : Bool → ByteArray → List Int) (i : Bool) (t : ByteArray) (l : List Int) : Bool → ByteArray → List Int := fun j s => if j = i ∧ s = t then l else A j s
theorem updA_same (A : Bool → ByteArray → List Int) (i : Bool) (t : ByteArray) (l : List Int) : updA A i t l i t = l := if_pos ⟨rfl, rfl⟩
theorem updA_other (A : Bool → ByteArray → List Int) {i j : Bool} {t s : ByteArray} (l : List Int) (h : ¬ (j = i ∧ s = t)) : updA A i t l j s = A j s := if_neg h

/-- Behind the first k pairs. -/
theorem push_step (T : List (Int × ByteArray × ByteArray)) (p : Int) (l : List (ByteArray × ByteArray)) (k : Nat) (h : k < l.length) (A : Bool → ByteArray → List Int) (hA : A = nums (T ++ trips p (l.take k))) :
    updA (updA A true l[k].1 (A true l[k].1 ++ [p + k])) false l[k].2 (A false l[k].2 ++ [p + k]) = nums (T ++ trips p (l.take (k + 1))) := by
  have e : T ++ trips p (l.take (k + 1)) = (T ++ trips p (l.take k)) ++ [(p + k, l[k])] := by
    rw [List.take_succ_eq_append_getElem h, trips_snoc, List.length_take, Nat.min_eq_left (Nat.le_of_lt h), List.append_assoc]
  funext i s
  rw [e, nums_append, nums_one, ← hA]
  cases i
  · by_cases hs : s = l[k].2
    · subst hs
      rw [updA_same]
      simp [side, eqT_self]
    · rw [updA_other _ _ (fun h => hs h.2), updA_other _ _ (fun h => absurd h.1 (by decide))]
      have : eqT l[k].2 s = false := eqT_no.2 (Ne.symm hs)
      simp [side, this]
  · rw [updA_other _ _ (fun h => absurd h.1 (by decide))]
    by_cases hs : s = l[k].1
    · subst hs
      rw [updA_same]
      simp [side, eqT_self]
    · rw [updA_other _ _ (fun h => hs h.2)]
      have : eqT l[k].1 s = false := eqT_no.2 (Ne.symm hs)
      simp [side, this]

/-- What is left when the first j names were taken away again. -/
def popA (A0 A1 : Bool → ByteArray → List Int) (l : List (ByteArray × ByteArray)) (j : Nat) : Bool → ByteArray → List Int := fun i s => (A1 i s).take ((A0 i s).length + ((l.drop j).map (side i)).countP fun t => eqT t s)

theorem popA_start (T : List (Int × ByteArray × ByteArray)) (p : Int) (l : List (ByteArray × ByteArray)) : popA (nums T) (nums (T ++ trips p l)) l 0 = nums (T ++ trips p l) := by
  funext i s
  unfold popA
  rw [List.drop_zero, nums_append, List.take_of_length_le]
  rw [List.length_append, nums_trips_len]; exact Nat.le_refl _
theorem popA_end (T : List (Int × ByteArray × ByteArray)) (p : Int) (l : List (ByteArray × ByteArray)) (j : Nat) (h : l.length ≤ j) : popA (nums T) (nums (T ++ trips p l)) l j = nums T := by
  funext i s
  unfold popA
  rw [List.drop_eq_nil_of_le h, nums_append]
  simp
theorem popA_has (T : List (Int × ByteArray × ByteArray)) (p : Int) (l : List (ByteArray × ByteArray)) (j : Nat) (i : Bool) (s : ByteArray) : (popA (nums T) (nums (T ++ trips p l)) l j i s).length = (nums T i s).length + ((l.drop j).map (side i)).countP fun t => eqT t s := by
  unfold popA
  rw [List.length_take, nums_append, List.length_append, nums_trips_len]
  have : ((l.drop j).map (side i)).countP (fun t => eqT t s) ≤ (l.map (side i)).countP fun t => eqT t s := by
    apply List.Sublist.countP_le
    exact (List.drop_sublist j l).map _
  omega
theorem popA_pos (T : List (Int × ByteArray × ByteArray)) (p : Int) (l : List (ByteArray × ByteArray)) (j : Nat) (h : j < l.length) (i : Bool) : 1 ≤ (popA (nums T) (nums (T ++ trips p l)) l j i (side i l[j])).length := by
  rw [popA_has, List.drop_eq_getElem_cons h, List.map_cons, List.countP_cons, eqT_self]
  simp; omega
theorem popA_one (A0 A1 : Bool → ByteArray → List Int) (l : List (ByteArray × ByteArray)) (j : Nat) (h : j < l.length) (hlen : ∀ i s, (A0 i s).length + ((l.drop j).map (side i)).countP (fun t => eqT t s) ≤ (A1 i s).length) (i : Bool) (s : ByteArray) :
    popA A0 A1 l (j + 1) i s = if s = side i l[j] then (popA A0 A1 l j i s).dropLast else popA A0 A1 l j i s := by
  have hl := hlen i s
  unfold popA
  rw [List.drop_eq_getElem_cons h, List.map_cons, List.countP_cons] at hl ⊢
  by_cases hs : s = side i l[j]
  · rw [if_pos hs]
    have e : eqT (side i l[j]) s = true := by rw [hs]; exact eqT_self _
    rw [e] at hl ⊢
    simp only [if_true] at hl ⊢
    rw [List.dropLast_eq_take, List.length_take, List.take_take]
    congr 1
    omega
  · rw [if_neg hs]
    have e : eqT (side i l[j]) s = false := eqT_no.2 (Ne.symm hs)
    rw [e]
    simp
theorem pop_step (T : List (Int × ByteArray × ByteArray)) (p : Int) (l : List (ByteArray × ByteArray)) (j : Nat) (h : j < l.length) (A : Bool → ByteArray → List Int) (hA : A = popA (nums T) (nums (T ++ trips p l)) l j) :
    updA (updA A true l[j].1 (A true l[j].1).dropLast) false l[j].2 (A false l[j].2).dropLast = popA (nums T) (nums (T ++ trips p l)) l (j + 1) := by
  have hlen : ∀ i s, (nums T i s).length + ((l.drop j).map (side i)).countP (fun t => eqT t s) ≤ (nums (T ++ trips p l) i s).length := fun i s => by
    have h1 := popA_has T p l j i s
    have h2 : (popA (nums T) (nums (T ++ trips p l)) l j i s).length ≤ (nums (T ++ trips p l) i s).length := by
      unfold popA; rw [List.length_take]; omega
    omega
  funext i s
  rw [popA_one _ _ l j h hlen, ← hA]
  cases i
  · show _ = if s = l[j].2 then _ else _
    by_cases hs : s = l[j].2
    · subst hs; rw [updA_same, if_pos rfl]
    · rw [updA_other _ _ (fun h => hs h.2), updA_other _ _ (fun h => absurd h.1 (by decide)), if_neg hs]
  · show _ = if s = l[j].1 then _ else _
    rw [updA_other _ _ (fun h => absurd h.1 (by decide))]
    by_cases hs : s = l[j].1
    · subst hs; rw [updA_same, if_pos rfl]
    · rw [updA_other _ _ (fun h => hs h.2), if_neg hs]

end Go.Siskin
