/-
  The program's hasOnlyKids, and its opener at an identifier and at an atom. Condition: the form lies in memory, the opener's counter apart from it.
  What stands after some kids have been opened by the program's openAll, and that one kid more keeps it. No program's step is walked here.
  The program's openAll opens all forms of a list, just where all are ok and not too many, if its opener does so of one. Condition: the forms lie in memory, the opener's counter apart from them.
  The program's openList and openDots, if openAll does as it should. Condition: the form lies in memory, the opener's counter apart from it.
  The program's opener opens just the forms that are ok and not too many. Condition: the form lies in memory, the opener's counter apart from it.
  The program's openForm and ExpFormOk say whether a form is ok; what is opened lies in the form's own memory and in new memory. Condition: the form lies in memory, and costs at most 1048576.
  The program's openPattern and ExpPatternOk. Condition: the forms lie in memory, and are not too big.
-/
import Derived.Test.YthlacjabelpehaaGreatDoorPart9
import Derived.Test.YthlacjabelpehaaGreatDoorPart10
import Derived.Test.YthlacjabelpehaaGreatDoorPart13
import Derived.Maps.AppendAt
import Derived.Test.YthlacjabelpehaaGreatDoorPart7
namespace Go.Proofs.YthlacjabelpehaaGreatDoor
open Go.RowKit Go.Siskin

theorem ret_tup {v : Value} {b b' : Bool} (h : b = b') : Ending.returned (.tuple #[v, .bool b]) = .returned (.tuple #[v, .bool b']) := by rw [h]

/-- The world behind a call of the opener whose counter lies in block bo. -/
def Opened (bo : Nat) (w w' : World) (m : Int) : Prop := w.grownBy w' (some bo) ∧ Own w' bo 68 #[.int .i64 m]
def goodB (f : Fm) (d m : Nat) : Bool := okB f d && decide (m + f.sz ≤ 1500)
def goodsB (ks : List Fm) (d m : Nat) : Bool := oksB ks d && decide (m + Fm.szs ks ≤ 1500)

def OpenForm (n : Nat) : Prop := ∀ f : Fm, f.sz ≤ n → ∀ (B : Nat → Prop) (w : World) (c0 c1 c2 c3 c4 : Value) (d m bo : Nat), FormAt B w f c0 c1 c2 c3 c4 → (∀ b, B b → b < w.heap.size ∧ b ≠ bo) → Own w bo 68 #[.int .i64 m] → m ≤ 1500 → d ≤ 61 → f.cost ≤ 1048576 →
    Calls Tryz.prog 36 #[.pointer (some ⟨bo, 0, none⟩), .agg #[c0, c1, c2, c3, c4], .int .i64 d] w fun e w' => ∃ (m' : Int) (v : Value), Opened bo w w' m' ∧ e = .returned (.tuple #[v, .bool (goodB f d m)]) ∧ (goodB f d m = true → m' = m + f.sz ∧ InAt (Reg B w w') w' (toIm f) v)

set_option maxHeartbeats 1000000 in
theorem hasOnlyKids_any (f : Fm) (B : Nat → Prop) (w : World) (c0 c1 c2 c3 c4 : Value) (hA : FormAt B w f c0 c1 c2 c3 c4) :
    Calls Tryz.prog 58 #[.agg #[c0, c1, c2, c3, c4]] w fun e w' => e = .returned (.bool (listFormB f)) ∧ Below w.heap.size w w' := by
  obtain ⟨rfl, rfl, ht, h2, rfl, h4⟩ := (formAt_iff _ _ _ _ _ _ _ _).1 hA
  obtain ⟨a2, k2, rfl, hl2, -⟩ := h2
  obtain ⟨a4, k4, rfl, hl4, -⟩ := h4
  have HX : Hid (listFormB f = (f.text.toList.isEmpty && ((f.scopes.length : Int) == 0) && (f.frm == 0))) := by
    show _ = _
    unfold listFormB
    rw [tl_empty, empty_size]
    have e1 : ((f.scopes.length : Int) == 0) = decide (f.scopes.length = 0) := by rw [Bool.eq_iff_iff, beq_iff_eq, decide_eq_true_eq]; omega
    have e2 : (f.frm == 0) = decide (f.frm = 0) := by rw [Bool.eq_iff_iff, beq_iff_eq, decide_eq_true_eq]
    rw [e1, e2]
    cases decide (f.text.size = 0) <;> cases decide (f.scopes.length = 0) <;> cases decide (f.frm = 0) <;> rfl
  unfold maxLen at hl2
  clear hA
  cases e1 : f.text.toList.isEmpty with
  | false =>
    go_enter Tryz.func58, Tryz.ntmps58
    go_wp2_with fail
    go_ret
    exact ⟨ret_bool (by rw [HX.out, e1]; rfl), (Below.refl _ _).alloc (Nat.le_refl _) _⟩
  | true =>
  cases e2 : ((f.scopes.length : Int) == 0) with
  | false =>
    go_enter Tryz.func58, Tryz.ntmps58
    go_wp2_with fail
    go_ret
    exact ⟨ret_bool (by rw [HX.out, e2]; simp), (Below.refl _ _).alloc (Nat.le_refl _) _⟩
  | true =>
    go_enter Tryz.func58, Tryz.ntmps58
    go_wp2_with fail
    go_ret
    exact ⟨ret_bool (by rw [HX.out, e1, e2]; rfl), (Below.refl _ _).alloc (Nat.le_refl _) _⟩

/-- The world behind the count of one more form, the form's own box laid. -/
def world1 (w : World) (bo m : Nat) (o : Obj) : World := (w.setCell ⟨bo, 0, none⟩ (.int .i64 (m + 1))).alloc o
theorem world1_same {B : Nat → Prop} {w : World} {bo : Nat} (hB : ∀ b, B b → b < w.heap.size ∧ b ≠ bo) (m : Nat) (o : Obj) : SameOn B w (world1 w bo m o) :=
  ((SameOn.refl B w).setCell (fun h => (hB _ h).2 rfl) _).alloc (fun b hb => by have := (hB b hb).1; simp; omega) _
theorem world1_size (w : World) (bo m : Nat) (o : Obj) : (world1 w bo m o).heap.size = w.heap.size + 1 := by simp [world1]
theorem world1_grown (w : World) (bo m : Nat) (o : Obj) : w.grownBy (world1 w bo m o) (some bo) := by
  refine ⟨rfl, rfl, rfl, by rw [world1_size]; omega, fun k hk hne => ?_⟩
  unfold world1
  rw [Below.heap_alloc _ _ _ (by simpa using hk)]
  exact Below.heap_setCell _ _ _ _ (fun e => hne (by rw [e]))
theorem world1_own {w : World} {bo m : Nat} (ho : Own w bo 68 #[.int .i64 m]) (o : Obj) : Own (world1 w bo m o) bo 68 #[.int .i64 (m + 1)] := by
  have h := ho.set 0 (.int .i64 (m + 1))
  have hlt := h.lt
  refine (Below.heap_alloc _ _ _ hlt).trans ?_
  exact h
theorem grown_below {bo : Nat} {w w1 w2 : World} (h : w.grownBy w1 (some bo)) (hb : Below w1.heap.size w1 w2) : w.grownBy w2 (some bo) :=
  ⟨hb.os.trans h.os, hb.tape.trans h.tape, hb.output.trans h.output, Nat.le_trans h.size hb.size, fun k hk hne => (hb.block k (Nat.lt_of_lt_of_le hk h.size)).trans (h.block k hk hne)⟩
theorem opened1 {w w2 : World} {bo m : Nat} {o : Obj} (ho : Own w bo 68 #[.int .i64 m]) (hb : Below (world1 w bo m o).heap.size (world1 w bo m o) w2) : Opened bo w w2 (m + 1) :=
  ⟨grown_below (world1_grown w bo m o) hb, (world1_own ho o).keep hb (world1_own ho o).lt⟩

theorem goodB_id {f : Fm} {d m : Nat} (hm : m < 1500) (hd : d ≤ 60) (hs : f.sort = 1) : goodB f d m = idFormB f := by
  unfold goodB
  rw [okB_id f d hd hs]
  cases h : idFormB f with
  | false => rfl
  | true =>
    unfold idFormB at h
    simp only [Bool.and_eq_true, decide_eq_true_eq] at h
    have h1 := Fm.sz_kids f
    have h2 : f.kids = [] := List.eq_nil_of_length_eq_zero h.2
    rw [h2] at h1
    rw [Fm.szs_nil] at h1
    rw [decide_eq_true (by omega)]; rfl
theorem goodB_atom {f : Fm} {d m : Nat} (hm : m < 1500) (hd : d ≤ 60) (hs : f.sort = 2) : goodB f d m = atomFormB f := by
  unfold goodB
  rw [okB_atom f d hd hs]
  cases h : atomFormB f with
  | false => rfl
  | true =>
    unfold atomFormB at h
    simp only [Bool.and_eq_true, decide_eq_true_eq] at h
    have h1 := Fm.sz_kids f
    have h2 : f.kids = [] := List.eq_nil_of_length_eq_zero (by omega)
    rw [h2] at h1
    rw [Fm.szs_nil] at h1
    rw [decide_eq_true (by omega)]; rfl
theorem sz_one {f : Fm} (h : f.kids.length = 0) : f.sz = 1 := by
  have h1 := Fm.sz_kids f
  rw [List.eq_nil_of_length_eq_zero h] at h1
  simpa [Fm.szs] using h1

set_option maxRecDepth 20000 in
set_option maxHeartbeats 1000000 in
theorem openF_id (f : Fm) (B : Nat → Prop) (w : World) (c0 c1 c2 c3 c4 : Value) (d m bo : Nat) (hA : FormAt B w f c0 c1 c2 c3 c4) (hB : ∀ b, B b → b < w.heap.size ∧ b ≠ bo) (ho : Own w bo 68 #[.int .i64 m]) (hm : m < 1500) (hd : d ≤ 60) (hs : f.sort = 1) :
    Calls Tryz.prog 36 #[.pointer (some ⟨bo, 0, none⟩), .agg #[c0, c1, c2, c3, c4], .int .i64 d] w fun e w' => ∃ (m' : Int) (v : Value), Opened bo w w' m' ∧ e = .returned (.tuple #[v, .bool (goodB f d m)]) ∧ (goodB f d m = true → m' = m + f.sz ∧ InAt (Reg B w w') w' (toIm f) v) := by
  obtain ⟨rfl, rfl, ht, h2, rfl, h4⟩ := (formAt_iff _ _ _ _ _ _ _ _).1 hA
  have q0 := ho.cell 0
  have f0 := ho.frozen 0
  simp at q0
  have hlt := ho.lt
  rw [hs] at hA ⊢
  have HA := hid hA
  have H2 := hid h2
  obtain ⟨a2, k2, rfl, -⟩ := h2
  obtain ⟨a4, k4, rfl, -⟩ := h4
  have HR := hid hB
  have HO := hid ho
  have HG := hid (goodB_id hm hd hs)
  have HT := hid (toIm_id f hs)
  have HS := hid hs
  clear hA hB ho hs
  go_enter Tryz.func36, Tryz.ntmps36
  go_wp2_with fail
  refine (openId_any f B (world1 w bo m _) _ _ _ _ _ (FormAt.keep (world1_same HR.out m _) f HA.out) (fun b hb => by have := (HR.out b hb).1; rw [world1_size]; omega) HS.out).mono ?_
  rintro e w2 ⟨h1, h2, hw⟩
  have HW := hid hw
  clear hw
  cases hi : idFormB f with
  | true =>
    have HI := hid hi
    rw [h1 hi]
    clear h1 h2 hi
    go_wp2_with fail
    go_ret2
    refine ⟨m + 1, _, opened1 HO.out HW.out, ret_tup (by rw [HG.out, HI.out]), fun _ => ⟨?_, ?_⟩⟩
    · have h := HI.out
      unfold idFormB at h
      simp only [Bool.and_eq_true, decide_eq_true_eq] at h
      rw [sz_one h.2]; rfl
    · rw [HT.out]
      rw [InAt_id]
      refine ⟨_, rfl, ht, (H2.out.keep ?_).mono (fun b hb => Or.inl hb)⟩
      exact (world1_same HR.out m _).below HW.out (fun b hb => by have := (HR.out b hb).1; rw [world1_size]; omega)
  | false =>
    have HI := hid hi
    rw [h2 hi]
    clear h1 h2 hi
    go_wp2_with fail
    go_ret2
    exact ⟨m + 1, _, opened1 HO.out HW.out, ret_tup (by rw [HG.out, HI.out]), fun h => absurd (h.symm.trans (HG.out.trans HI.out)) (by decide)⟩

set_option maxRecDepth 20000 in
set_option maxHeartbeats 1000000 in
theorem openF_atom (f : Fm) (B : Nat → Prop) (w : World) (c0 c1 c2 c3 c4 : Value) (d m bo : Nat) (hA : FormAt B w f c0 c1 c2 c3 c4) (hB : ∀ b, B b → b < w.heap.size ∧ b ≠ bo) (ho : Own w bo 68 #[.int .i64 m]) (hm : m < 1500) (hd : d ≤ 60) (hs : f.sort = 2) :
    Calls Tryz.prog 36 #[.pointer (some ⟨bo, 0, none⟩), .agg #[c0, c1, c2, c3, c4], .int .i64 d] w fun e w' => ∃ (m' : Int) (v : Value), Opened bo w w' m' ∧ e = .returned (.tuple #[v, .bool (goodB f d m)]) ∧ (goodB f d m = true → m' = m + f.sz ∧ InAt (Reg B w w') w' (toIm f) v) := by
  obtain ⟨rfl, rfl, ht, h2, rfl, h4⟩ := (formAt_iff _ _ _ _ _ _ _ _).1 hA
  have q0 := ho.cell 0
  have f0 := ho.frozen 0
  simp at q0
  have hlt := ho.lt
  rw [hs] at hA ⊢
  have HA := hid hA
  have H2 := hid h2
  obtain ⟨a2, k2, rfl, -⟩ := h2
  obtain ⟨a4, k4, rfl, -⟩ := h4
  have HR := hid hB
  have HO := hid ho
  have HG := hid (goodB_atom hm hd hs)
  have HT := hid (toIm_atom f hs)
  clear hA hB ho hs
  go_enter Tryz.func36, Tryz.ntmps36
  go_wp2_with fail
  refine (openAtom_any f B (world1 w bo m _) _ _ _ _ _ (FormAt.keep (world1_same HR.out m _) f HA.out)).mono ?_
  rintro e w2 ⟨h1, h2, hw⟩
  have HW := hid hw
  clear hw
  cases hi : atomFormB f with
  | true =>
    have HI := hid hi
    rw [h1 hi]
    clear h1 h2 hi
    go_wp2_with fail
    go_ret2
    refine ⟨m + 1, _, opened1 HO.out HW.out, ret_tup (by rw [HG.out, HI.out]), fun _ => ⟨?_, ?_⟩⟩
    · have h := HI.out
      unfold atomFormB at h
      simp only [Bool.and_eq_true, decide_eq_true_eq] at h
      rw [sz_one (by omega)]; rfl
    · rw [HT.out]
      rw [InAt_atom]
      exact ⟨rfl, ht⟩
  | false =>
    have HI := hid hi
    rw [h2 hi]
    clear h1 h2 hi
    go_wp2_with fail
    go_ret2
    exact ⟨m + 1, _, opened1 HO.out HW.out, ret_tup (by rw [HG.out, HI.out]), fun h => absurd (h.symm.trans (HG.out.trans HI.out)) (by decide)⟩

end Go.Proofs.YthlacjabelpehaaGreatDoor

namespace Go.Proofs.YthlacjabelpehaaGreatDoor
open Go.RowKit Go.Siskin

theorem Tryz.infoIface : (Tryz.prog.info? 54).map (fun i => (i.zero, i.size, i.bytes)) = some (some .nilIface, 1, 16) := by kernel_rfl

def OpenForms (n : Nat) : Prop := ∀ ks : List Fm, Fm.szs ks ≤ n → ∀ (B : Nat → Prop) (w : World) (v : Value) (d m bo : Nat), FormsAt B w v ks → (∀ b, B b → b < w.heap.size ∧ b ≠ bo) → Own w bo 68 #[.int .i64 m] → m ≤ 1500 → d ≤ 61 → ks.length + Fm.costs ks ≤ 1048576 →
    Calls Tryz.prog 59 #[.pointer (some ⟨bo, 0, none⟩), v, .int .i64 d] w fun e w' => ∃ (m' : Int) (a : Option Addr) (len cap : Nat), Opened bo w w' m' ∧ e = .returned (.tuple #[.slice a len cap, .bool (goodsB ks d m)]) ∧
      (goodsB ks d m = true → m' = m + Fm.szs ks ∧ len = ks.length ∧ len ≤ cap ∧ (ks = [] ∨ ∃ g, a = some ⟨g, 0, none⟩ ∧ Reg B w w' g ∧ InRow (Reg B w w') w' g 0 (toIms ks)))

/-- The blocks in which what was opened so far may lie: old ones, and new ones but the row's own. -/
def Reg2 (B : Nat → Prop) (w wr : World) (v : Value) (b : Nat) : Prop := B b ∨ (w.heap.size ≤ b ∧ b < wr.heap.size ∧ v.ownBlock ≠ some b)

theorem ownsRow_grown {w w' : World} {base : Nat} {e : TypeId} {v : Value} {n : Nat} {xs : List Value} {row : Option Nat} (h : w.ownsRow base e 1 v n xs) (hg : w.grownBy w' row) (hr : ∀ k, row = some k → k < base) : w'.ownsRow base e 1 v n xs := by
  obtain ⟨h1, h2⟩ := h
  refine ⟨h1, ?_⟩
  rcases h2 with h2 | ⟨g, cap, cur, e1, e2, e3, e4⟩
  · exact Or.inl h2
  · refine Or.inr ⟨g, cap, cur, e1, e2, ?_, e4⟩
    rw [← e3]
    exact hg.block g (Array.getElem?_eq_some_iff.1 e3).1 (fun e => by have := hr g e.symm; omega)
theorem ownsRow_alloc {w : World} {base : Nat} {e : TypeId} {v : Value} {n : Nat} {xs : List Value} (h : w.ownsRow base e 1 v n xs) (o : Obj) : (w.alloc o).ownsRow base e 1 v n xs :=
  ownsRow_grown h (World.grownBy_alloc w o none) (fun _ e => by cases e)
/-- The row's own block is a new one. -/
theorem ownsRow_block {w : World} {base : Nat} {e : TypeId} {v : Value} {n : Nat} {xs : List Value} (h : w.ownsRow base e 1 v n xs) {b : Nat} (hb : v.ownBlock = some b) : base ≤ b ∧ b < w.heap.size := by
  rcases h.2 with h2 | ⟨g, cap, cur, e1, e2, e3, e4⟩
  · rw [h2.1] at hb; cases hb
  · rw [e1] at hb
    simp only [Value.ownBlock, Option.some.injEq] at hb
    subst hb
    exact ⟨e2, (Array.getElem?_eq_some_iff.1 e3).1⟩

/-- What stands after k kids have been opened. -/
structure AllRel (B : Nat → Prop) (w : World) (bo d m : Nat) (ks : List Fm) (k : Nat) (v : Value) (wr : World) : Prop where
  ok : oksB (ks.take k) d = true
  le : m + Fm.szs (ks.take k) ≤ 1500
  opened : Opened bo w wr ((m + Fm.szs (ks.take k) : Nat) : Int)
  vals : ∃ xs : List Value, wr.ownsRow w.heap.size 54 1 v k xs ∧ ∀ j (hj : j < ks.length), j < k → ∃ x, xs[j]? = some x ∧ InAt (Reg2 B w wr v) wr (toIm ks[j]) x

theorem grown_on {R : Nat → Prop} {a w w' : World} {row : Option Nat} (h : SameOn R a w) (hg : w.grownBy w' row) (hR : ∀ b, R b → b < w.heap.size ∧ some b ≠ row) : SameOn R a w' :=
  fun b hb => (hg.block b (hR b hb).1 (hR b hb).2).trans (h b hb)

/-- One kid more. -/
theorem all_step {B : Nat → Prop} {w wr w1 w2 : World} {bo d m k : Nat} {ks : List Fm} {v v' part : Value} {o o' : Obj} {xs : List Value} (hB : ∀ b, B b → b < w.heap.size ∧ b ≠ bo) (hbo : bo < w.heap.size) (hlt : k < ks.length)
    (ok : oksB (ks.take k) d = true) (opened : Opened bo w wr ((m + Fm.szs (ks.take k) : Nat) : Int))
    (hown : wr.ownsRow w.heap.size 54 1 v k xs) (hvals : ∀ j (hj : j < ks.length), j < k → ∃ x, xs[j]? = some x ∧ InAt (Reg2 B w wr v) wr (toIm ks[j]) x)
    (hgood : goodB ks[k] d (m + Fm.szs (ks.take k)) = true) (h1 : Opened bo (wr.alloc o) w1 (((m + Fm.szs (ks.take k) : Nat) : Int) + ks[k].sz)) (hin : InAt (Reg B (wr.alloc o) w1) w1 (toIm ks[k]) part)
    (hown' : w2.ownsRow w.heap.size 54 1 v' (k + 1) (xs ++ [part])) (hg : (w1.alloc o').grownBy w2 v.ownBlock) (hb : v'.ownBlock = v.ownBlock ∨ v'.ownBlock = some (w1.alloc o').heap.size) :
    AllRel B w bo d m ks (k + 1) v' w2 := by
  have hgd := hgood
  unfold goodB at hgd
  rw [Bool.and_eq_true, decide_eq_true_eq] at hgd
  have hszs := Fm.szs_take ks k hlt
  have s0 := opened.1.size
  have s1 := h1.1.size
  have s2 := hg.size
  simp only [World.size_alloc] at s1 s2
  have hvb : ∀ b, v.ownBlock = some b → w.heap.size ≤ b ∧ b < wr.heap.size := fun b hb => ownsRow_block hown hb
  have hlen : xs.length = k := by have := hown.1; omega
  refine ⟨?_, by omega, ?_, xs ++ [part], hown', ?_⟩
  · rw [oksB_take ks k d hlt, ok, hgd.1]; rfl
  · refine ⟨⟨hg.os.trans (h1.1.os.trans opened.1.os), hg.tape.trans (h1.1.tape.trans opened.1.tape), hg.output.trans (h1.1.output.trans opened.1.output), by omega, fun b hb1 hb2 => ?_⟩, ?_⟩
    · rw [hg.block b (by simp only [World.size_alloc]; omega) (fun e => by have := hvb b e.symm; omega), Below.heap_alloc _ _ _ (by omega), h1.1.block b (by simp only [World.size_alloc]; omega) hb2, Below.heap_alloc _ _ _ (by omega)]
      exact opened.1.block b hb1 hb2
    · have e : ((m + Fm.szs (ks.take (k + 1)) : Nat) : Int) = ((m + Fm.szs (ks.take k) : Nat) : Int) + ks[k].sz := by omega
      rw [e]
      refine (hg.block bo (by simp only [World.size_alloc]; omega) (fun e => by have := hvb bo e.symm; omega)).trans ((Below.heap_alloc _ _ _ (by omega)).trans h1.2)
  · intro j hj hjk
    by_cases e : j = k
    · subst e
      refine ⟨part, by rw [List.getElem?_append_right (by omega), hlen, Nat.sub_self]; rfl, InAt.mono ?_ _ (InAt.keep ?_ _ hin)⟩
      · intro b h
        rcases h with h | h
        · exact Or.inl h
        · refine Or.inr ⟨by have := h.1; simp only [World.size_alloc] at this; omega, by have := h.2; omega, ?_⟩
          rcases hb with hb | hb
          · rw [hb]; intro e; have := hvb b e; have := h.1; simp only [World.size_alloc] at this; omega
          · rw [hb]; intro e; have e := Option.some.inj e; have := h.2; simp only [World.size_alloc] at e; omega
      · refine grown_on ((SameOn.refl _ _).alloc ?_ _) hg ?_
        · intro b h
          rcases h with h | h
          · have := (hB b h).1; omega
          · exact h.2
        · intro b h
          simp only [World.size_alloc]
          rcases h with h | h
          · refine ⟨by have := (hB b h).1; omega, fun e => ?_⟩
            have := hvb b e.symm; have := (hB b h).1; omega
          · refine ⟨by have := h.2; omega, fun e => ?_⟩
            have := hvb b e.symm; have := h.1; simp only [World.size_alloc] at this; omega
    · obtain ⟨x, hx, hix⟩ := hvals j hj (by omega)
      refine ⟨x, by rw [List.getElem?_append_left (by omega)]; exact hx, InAt.mono ?_ _ (InAt.keep ?_ _ hix)⟩
      · intro b h
        rcases h with h | ⟨a1, a2, a3⟩
        · exact Or.inl h
        · refine Or.inr ⟨a1, by omega, ?_⟩
          rcases hb with hb | hb
          · rw [hb]; exact a3
          · rw [hb]; intro e; have e := Option.some.inj e; simp only [World.size_alloc] at e; omega
      · refine grown_on ((grown_on ((SameOn.refl _ _).alloc ?_ _) h1.1 ?_).alloc ?_ _) hg ?_
        · intro b h
          rcases h with h | ⟨a1, a2, a3⟩
          · have := (hB b h).1; omega
          · exact a2
        · intro b h
          simp only [World.size_alloc]
          rcases h with h | ⟨a1, a2, a3⟩
          · exact ⟨by have := (hB b h).1; omega, fun e => (hB b h).2 (Option.some.inj e)⟩
          · exact ⟨by omega, fun e => by have := Option.some.inj e; omega⟩
        · intro b h
          rcases h with h | ⟨a1, a2, a3⟩
          · have := (hB b h).1; omega
          · omega
        · intro b h
          simp only [World.size_alloc]
          rcases h with h | ⟨a1, a2, a3⟩
          · refine ⟨by have := (hB b h).1; omega, fun e => ?_⟩
            have := hvb b e.symm; have := (hB b h).1; omega
          · exact ⟨by omega, fun e => a3 e.symm⟩

end Go.Proofs.YthlacjabelpehaaGreatDoor

namespace Go.Proofs.YthlacjabelpehaaGreatDoor
open Go.RowKit Go.Siskin

theorem goods_bad {ks : List Fm} {d m k : Nat} (hlt : k < ks.length) (h : goodB ks[k] d (m + Fm.szs (ks.take k)) = false) : false = goodsB ks d m := by
  unfold goodB at h
  unfold goodsB
  cases h1 : okB ks[k] d with
  | false => rw [oksB_bad ks k d hlt h1]; rfl
  | true =>
    rw [h1, Bool.true_and, decide_eq_false_iff_not] at h
    have h2 := Fm.szs_take ks k hlt
    have h3 := Fm.szs_take_le ks (k + 1)
    rw [decide_eq_false (p := m + Fm.szs ks ≤ 1500) (by omega)]; simp

theorem one_cell (w : World) (v : Value) (t : TypeId) : ∀ (j : Nat) u, [v][j]? = some u → (w.alloc (.cells #[v] t)).cell? ((⟨w.heap.size, 0, none⟩ : Addr).add j) = some u := by
  intro j u hj
  match j, hj with
  | 0, hj => simp at hj; subst hj; simp [Addr.add]

set_option maxRecDepth 20000 in
set_option maxHeartbeats 2000000 in
theorem openForms_of (n : Nat) (ih : OpenForm n) : OpenForms n := by
  intro ks hks B w v d m bo hv hB ho hm hd hc
  obtain ⟨a, ca, rfl, hla, ha⟩ := hv
  unfold maxLen at hla
  obtain ⟨i, hi, hz0, hz1, hz2⟩ := info_parts Tryz.infoIface
  have Hi := hid hi
  have Hz0 := hid hz0
  have Hz1 := hid hz1
  have Hz2 := hid hz2
  have HI := hid ih
  have HR := hid hB
  have HO := hid ho
  have hbo := ho.lt
  clear hi hz0 hz1 hz2 ih hB ho
  go_enter Tryz.func59, Tryz.ntmps59
  go_wp2_with fail
  go_loopw [8, 15] (fun v i wr => ∃ k : Nat, k ≤ ks.length ∧ i = .int .i64 k ∧ Hid (AllRel B w bo d m ks k v wr)) (fun _ i _ => ks.length - (intOf i).toNat)
  case atStart =>
    refine ⟨0, Nat.zero_le _, rfl, by simp [oksB], by simpa [Fm.szs] using hm, ⟨World.grownBy.refl _ _, by simpa [Fm.szs] using HO.out⟩, [], World.ownsRow_nil _ _ _ _, fun j _ hj => absurd hj (by omega)⟩
  case round =>
    obtain ⟨k, hk, rfl, HA⟩ := hrel
    by_cases hlt : k < ks.length
    · rcases ha with ha | ⟨ba, oa, rfl, hb, ha⟩
      · subst ha; simp at hlt
      have hsz := HA.out.opened.1.size
      have hsame : SameOn B w wr := grown_on (SameOn.refl _ _) HA.out.opened.1 (fun b hb => ⟨(HR.out b hb).1, fun e => (HR.out b hb).2 (Option.some.inj e)⟩)
      obtain ⟨c0, c1, c2, c3, c4, g0, g1, g2, g3, g4, hf⟩ := RowAt.get ks (RowAt.keep hsame hb ks ha) k hlt
      have HC := hid (HI.out ks[k] (Nat.le_trans (Fm.szs_get ks k hlt) hks) B (wr.alloc (.cells #[c0, c1, c2, c3, c4] 31)) c0 c1 c2 c3 c4 d (m + Fm.szs (ks.take k)) bo (FormAt.keep ((SameOn.refl _ _).alloc (fun b hb => by have := (HR.out b hb).1; omega) _) _ hf) (fun b hb => ⟨by have := (HR.out b hb).1; simp; omega, (HR.out b hb).2⟩) ((Below.heap_alloc _ _ _ (by have := HA.out.opened.1.size; omega)).trans HA.out.opened.2) HA.out.le hd (by have := Fm.costs_get ks k hlt; omega))
      obtain ⟨rfl, rfl, -, h2, rfl, h4⟩ := (formAt_iff _ _ _ _ _ _ _ _).1 hf
      obtain ⟨a2, k2, rfl, -⟩ := h2
      obtain ⟨a4, k4, rfl, -⟩ := h4
      clear ha hf HI hsame
      go_wp2_with fail
      refine HC.out.mono ?_
      rintro e w1 ⟨m', part, hop, rfl, hgo⟩
      have HOP := hid hop
      have HGO := hid hgo
      clear hop hgo HC
      cases hgd : goodB ks[k] d (m + Fm.szs (ks.take k)) with
      | false =>
        have HX := hid (goods_bad hlt hgd)
        go_wp2_with fail
        go_ret2
        have h1 := HOP.out
        have h0 := HA.out.opened
        refine ⟨m', none, 0, 0, ⟨⟨h1.1.os.trans h0.1.os, h1.1.tape.trans h0.1.tape, h1.1.output.trans h0.1.output, by have := h1.1.size; simp at this; omega, fun b hb1 hb2 => ?_⟩, h1.2⟩, ret_tup HX.out, fun h => absurd (HX.out.trans h) (by decide)⟩
        rw [h1.1.block b (by simp; omega) hb2, Below.heap_alloc _ _ _ (by omega)]
        exact h0.1.block b hb1 hb2
      | true =>
        obtain ⟨xs, hown, hvals⟩ := HA.out.vals
        have HGD := hid hgd
        obtain ⟨t, x, hpart⟩ := InAt.iface (HGO.out hgd).2
        subst hpart
        have HV := hid hvals
        have HW := hid hown
        have hs1 := HOP.out.1.size
        simp only [World.size_alloc] at hs1
        have hz1 : w.heap.size ≤ w1.heap.size := by omega
        clear hvals hown
        go_wp2_with (at_builtin; refine wpList_append_own_at _ rfl _ _ 98 rfl w.heap.size 54 i .nilIface 1 16 Tryz.underlying98 Hi.out Hz0.out Hz1.out Hz2.out rfl (by decide) _ k xs rfl (ownsRow_alloc (ownsRow_grown (ownsRow_alloc HW.out _) HOP.out.1 (fun b e => by have := Option.some.inj e; omega)) _) ⟨w1.heap.size, 0, none⟩ 1 1 [.iface t x] rfl rfl (one_cell _ _ _) (by intro u hu; simp at hu; subst hu; rfl) (by unfold maxLen; omega) (by omega) (by simp; omega) ?_; intro v' w2 hown' hg hnil hb')
        have h2 := HGO.out HGD.out
        have hop := HOP.out
        rw [h2.1] at hop
        exact ⟨⟨k + 1, by omega, by go_num, all_step HR.out hbo hlt HA.out.ok HA.out.opened HW.out HV.out HGD.out hop h2.2 hown' hg hb'⟩, by simp [intOf]; omega⟩
    · have e : k = ks.length := by omega
      obtain ⟨xs, hown, hvals⟩ := HA.out.vals
      have HOK := hid HA.out.ok
      have HLE := hid HA.out.le
      have HOP := hid HA.out.opened
      subst e
      have HV := hid hvals
      have HW := hid hown
      rw [List.take_length] at HOK HLE HOP
      have HX : Hid (true = goodsB ks d m) := by
        show _ = _
        unfold goodsB; rw [HOK.out, decide_eq_true HLE.out]; rfl
      rcases hown.2 with ⟨rfl, h0⟩ | ⟨g, cap, cur, rfl, e2, e3, e4, e5, e6, e7⟩
      · clear hvals hown
        go_wp2_with fail
        go_ret2
        refine ⟨_, none, 0, 0, HOP.out, ret_tup HX.out, fun _ => ⟨by omega, by omega, by omega, Or.inl (List.eq_nil_of_length_eq_zero h0)⟩⟩
      · have HE := hid e3
        have HE7 := hid e7
        have hlt2 := (Array.getElem?_eq_some_iff.1 e3).1
        clear hvals hown e3 e7
        go_wp2_with fail
        go_ret2
        refine ⟨_, _, _, _, HOP.out, ret_tup HX.out, fun _ => ⟨by omega, rfl, e4, Or.inr ⟨g, rfl, Or.inr ⟨e2, hlt2⟩, InRow.mk _ fun j hj => ?_⟩⟩⟩
        rw [toIms_length] at hj
        obtain ⟨x, hx, hin⟩ := HV.out j hj hj
        refine ⟨x, ?_, ?_⟩
        · rw [Nat.zero_add]
          simp only [World.cell?, HE.out]
          rw [← HE7.out] at hx
          rw [List.getElem?_take, if_pos (by omega)] at hx
          simpa using hx
        · rw [toIms_get ks j hj]
          refine InAt.mono ?_ _ hin
          intro b h
          rcases h with h | ⟨a1, a2, -⟩
          · exact Or.inl h
          · exact Or.inr ⟨a1, a2⟩

end Go.Proofs.YthlacjabelpehaaGreatDoor

namespace Go.Proofs.YthlacjabelpehaaGreatDoor
open Go.RowKit Go.Siskin

theorem same_drewN (R : Nat → Prop) (w : World) (m : Nat) : SameOn R w (w.drewN m) := fun _ _ => rfl
theorem opened_after {bo : Nat} {w w1 w2 : World} {m' : Int} (hb : Below w.heap.size w w1) (h : Opened bo w1 w2 m') : Opened bo w w2 m' :=
  ⟨⟨h.1.os.trans hb.os, h.1.tape.trans hb.tape, h.1.output.trans hb.output, Nat.le_trans hb.size h.1.size, fun k hk hne => (h.1.block k (Nat.lt_of_lt_of_le hk hb.size) hne).trans (hb.block k hk)⟩, h.2⟩
theorem opened_below {bo : Nat} {w w1 : World} {m : Int} (hb : Below w.heap.size w w1) (ho : Own w bo 68 #[.int .i64 m]) : Opened bo w w1 m :=
  ⟨⟨hb.os, hb.tape, hb.output, hb.size, fun k hk _ => hb.block k hk⟩, ho.keep hb ho.lt⟩
theorem reg_after {B : Nat → Prop} {w w1 w2 : World} (hs : w.heap.size ≤ w1.heap.size) : ∀ b, Reg B w1 w2 b → Reg B w w2 b := by
  intro b h
  rcases h with h | h
  · exact Or.inl h
  · exact Or.inr ⟨by omega, h.2⟩

set_option maxRecDepth 20000 in
set_option maxHeartbeats 2000000 in
theorem openList_any (n : Nat) (ih : OpenForms n) (f : Fm) (hf : Fm.szs f.kids ≤ n) (B : Nat → Prop) (w : World) (c0 c1 c2 c3 c4 : Value) (d m bo : Nat) (hA : FormAt B w f c0 c1 c2 c3 c4) (hB : ∀ b, B b → b < w.heap.size ∧ b ≠ bo) (ho : Own w bo 68 #[.int .i64 m]) (hm : m ≤ 1500) (hd : d ≤ 60) (hc : f.cost ≤ 1048576) :
    Calls Tryz.prog 45 #[.pointer (some ⟨bo, 0, none⟩), .agg #[c0, c1, c2, c3, c4], .int .i64 d] w fun e w' => ∃ (m' : Int) (v : Value), Opened bo w w' m' ∧ e = .returned (.tuple #[v, .bool (listFormB f && goodsB f.kids (d + 1) m)]) ∧ ((listFormB f && goodsB f.kids (d + 1) m) = true → m' = m + Fm.szs f.kids ∧ InAt (Reg B w w') w' (.list (toIms f.kids)) v) := by
  have HA := hid hA
  obtain ⟨rfl, rfl, ht, h2, rfl, h4⟩ := (formAt_iff _ _ _ _ _ _ _ _).1 hA
  have H4 := hid h4
  obtain ⟨a2, k2, rfl, -⟩ := h2
  obtain ⟨a4, k4, rfl, hl4, -⟩ := h4
  have HI := hid ih
  have HR := hid hB
  have HO := hid ho
  have HC := hid (Fm.cost_eq f)
  have hbo := ho.lt
  clear hA hB ho ih
  go_enter Tryz.func45, Tryz.ntmps45
  go_wp2_with fail
  refine (hasOnlyKids_any f B _ _ _ _ _ _ (FormAt.keep ((SameOn.refl _ _).alloc (fun b hb => (HR.out b hb).1) _) _ HA.out)).mono ?_
  rintro e w1 ⟨rfl, hw⟩
  obtain ⟨hc1, -⟩ := bcell hw
  have hz1 : w.heap.size < w1.heap.size := by have := hw.size; simp at this; omega
  have HW := hid (((Below.refl w.heap.size w).alloc (Nat.le_refl _) _).trans (hw.mono (by simp)))
  clear hw
  cases hl : listFormB f with
  | false =>
    go_wp2_with fail
    go_ret2
    exact ⟨m, .nilIface, opened_below HW.out HO.out, ret_tup (by rw [hl]; rfl), fun h => by rw [hl] at h; cases h⟩
  | true =>
    go_wp2_with fail
    refine (HI.out f.kids hf B w1 _ (d + 1) m bo (H4.out.keep (HW.out.on (fun b hb => (HR.out b hb).1))) (fun b hb => ⟨by have := (HR.out b hb).1; omega, (HR.out b hb).2⟩) (HO.out.keep HW.out hbo) hm (by omega) (by have := HC.out; omega)).mono ?_
    rintro e w2 ⟨m', a, len, cap, hop, rfl, hgo⟩
    have HOP := hid hop
    have HGO := hid hgo
    clear hop hgo
    go_wp2_with fail
    go_ret2
    refine ⟨m', _, opened_after HW.out HOP.out, ret_tup (by rw [hl, Bool.true_and]), fun h => ?_⟩
    rw [hl, Bool.true_and] at h
    obtain ⟨h1, h2, h3, h4⟩ := HGO.out h
    refine ⟨h1, ?_⟩
    subst h2
    rw [InAt_list]
    refine ⟨a, cap, by rw [toIms_length]; rfl, ⟨by rw [toIms_length]; exact hl4, by rw [toIms_length]; exact h3⟩, ?_⟩
    rcases h4 with h4 | ⟨g, h4, h5, h6⟩
    · exact Or.inl (by rw [h4]; rfl)
    · exact Or.inr ⟨g, 0, h4, reg_after (by omega) g h5, InRow.mono (reg_after (by omega)) _ h6⟩

def dotsB (f : Fm) (d m : Nat) : Bool := listFormB f && endB f.kids && goodsB f.kids (d + 1) m

set_option maxRecDepth 20000 in
set_option maxHeartbeats 4000000 in
theorem openDots_any (n : Nat) (ih : OpenForms n) (f : Fm) (hf : Fm.szs f.kids ≤ n) (B : Nat → Prop) (w : World) (c0 c1 c2 c3 c4 : Value) (d m bo : Nat) (hA : FormAt B w f c0 c1 c2 c3 c4) (hB : ∀ b, B b → b < w.heap.size ∧ b ≠ bo) (ho : Own w bo 68 #[.int .i64 m]) (hm : m ≤ 1500) (hd : d ≤ 60) (hc : f.cost ≤ 1048576) :
    Calls Tryz.prog 46 #[.pointer (some ⟨bo, 0, none⟩), .agg #[c0, c1, c2, c3, c4], .int .i64 d] w fun e w' => ∃ (m' : Int) (v : Value), Opened bo w w' m' ∧ e = .returned (.tuple #[v, .bool (dotsB f d m)]) ∧ (dotsB f d m = true → m' = m + Fm.szs f.kids ∧ InAt (Reg B w w') w' (.dots (toIms f.kids).dropLast ((toIms f.kids).getD ((toIms f.kids).length - 1) Im.no)) v) := by
  have HA := hid hA
  obtain ⟨rfl, rfl, ht, h2, rfl, h4⟩ := (formAt_iff _ _ _ _ _ _ _ _).1 hA
  have H4 := hid h4
  obtain ⟨a2, k2, rfl, -⟩ := h2
  obtain ⟨a4, k4, rfl, hl4, h4⟩ := h4
  have HI := hid ih
  have HR := hid hB
  have HO := hid ho
  have HC := hid (Fm.cost_eq f)
  have hbo := ho.lt
  have hl40 := hl4
  unfold maxLen at hl4
  clear hA hB ho ih
  go_enter Tryz.func46, Tryz.ntmps46
  go_wp2_with fail
  refine (hasOnlyKids_any f B _ _ _ _ _ _ (FormAt.keep ((SameOn.refl _ _).alloc (fun b hb => (HR.out b hb).1) _) _ HA.out)).mono ?_
  rintro e w1 ⟨rfl, hw⟩
  obtain ⟨hc1, -⟩ := bcell hw
  have hz1 : w.heap.size < w1.heap.size := by have := hw.size; simp at this; omega
  have HW := hid (((Below.refl w.heap.size w).alloc (Nat.le_refl _) _).trans (hw.mono (by simp)))
  have HW0 := hid (((SameOn.refl B w).alloc (fun b hb => (HR.out b hb).1) _).below hw (fun b hb => by have := (HR.out b hb).1; simp; omega))
  clear hw
  cases hl : listFormB f with
  | false =>
    go_wp2_with fail
    go_ret2
    exact ⟨m, .nilIface, opened_below HW.out HO.out, ret_tup (by unfold dotsB; rw [hl]; rfl), fun h => by unfold dotsB at h; rw [hl] at h; cases h⟩
  | true =>
  by_cases hn : 1 < f.kids.length
  · rcases h4 with h4 | ⟨ba, oa, rfl, hb, h4⟩
    · rw [h4] at hn; simp at hn
    obtain ⟨c0, c1, c2, c3, c4, g0, -, -, -, -, hf'⟩ := RowAt.get f.kids (RowAt.keep HW0.out hb f.kids h4) (f.kids.length - 1) (by omega)
    obtain ⟨rfl, -⟩ := (formAt_iff _ _ _ _ _ _ _ _).1 hf'
    have HE : Hid (endB f.kids = (decide (f.kids[f.kids.length - 1].sort = 1) || decide (f.kids[f.kids.length - 1].sort = 2))) := by
      show _ = _
      unfold endB
      rw [decide_eq_true hn, List.getD_eq_getElem?_getD, List.getElem?_eq_getElem (by omega)]; rfl
    generalize f.kids[f.kids.length - 1].sort = z at *
    have hn' : (1 : Int) < (f.kids.length : Int) := by omega
    have hn2 : (1 : Int) ≤ (f.kids.length : Int) - 1 := by omega
    clear h4 hf'
    by_cases hz : z = 1 ∨ z = 2
    · have HEt : Hid (endB f.kids = true) := by
        show _ = _
        rw [HE.out]; rcases hz with hz | hz <;> rw [hz] <;> rfl
      clear HE
      rcases hz with rfl | rfl
      all_goals
        go_wp2_with fail
        refine (HI.out f.kids hf B w1 _ (d + 1) m bo (H4.out.keep HW0.out) (fun b hb => ⟨by have := (HR.out b hb).1; omega, (HR.out b hb).2⟩) (HO.out.keep HW.out hbo) hm (by omega) (by have := HC.out; omega)).mono ?_
        rintro e w2 ⟨m', a, len, cap, hop, rfl, hgo⟩
        have HOP := hid hop
        have HGO := hid hgo
        clear hop hgo
        cases hg : goodsB f.kids (d + 1) m with
        | false =>
          go_wp2_with fail
          go_ret2
          exact ⟨m', .nilIface, opened_after HW.out HOP.out, ret_tup (by unfold dotsB; rw [hg]; simp), fun h => by unfold dotsB at h; rw [hg] at h; simp at h⟩
        | true =>
          obtain ⟨e1, rfl, e3, e4⟩ := HGO.out hg
          rcases e4 with e4 | ⟨g, rfl, e5, e6⟩
          · rw [e4] at hn; simp at hn
          obtain ⟨x, hx, hin⟩ := InRow.get _ e6 (f.kids.length - 1) (by rw [toIms_length]; omega)
          obtain ⟨t, y, rfl⟩ := InAt.iface hin
          rw [Nat.zero_add] at hx
          have HIN := hid hin
          have H6 := hid e6
          have H1 := hid e1
          clear hin e6 e1
          go_wp2_with fail
          go_quiet (fail)
          go_wp2_with fail
          go_ret2
          refine ⟨m', _, ?_, ret_tup (by unfold dotsB; rw [hl, HEt.out, hg]; rfl), fun _ => ⟨H1.out, ?_⟩⟩
          · have h := opened_after HW.out HOP.out
            exact ⟨⟨h.1.os, h.1.tape, h.1.output, h.1.size, h.1.block⟩, h.2⟩
          · rw [InAt_dots]
            have hlen : (toIms f.kids).dropLast.length = f.kids.length - 1 := by rw [List.length_dropLast, toIms_length]
            refine ⟨some ⟨g, 0, none⟩, f.kids.length - 1, .iface t y, by rw [hlen]; rfl, ⟨by rw [hlen]; omega, by rw [hlen]; omega⟩, Or.inr ⟨g, 0, rfl, reg_after (by omega) g e5, ?_⟩, ?_⟩
            · refine InRow.mk _ fun i hi => ?_
              obtain ⟨x', hx', hi'⟩ := InRow.get _ H6.out i (by rw [hlen] at hi; rw [toIms_length]; omega)
              exact ⟨x', hx', by rw [List.getElem_dropLast]; exact InAt.mono (reg_after (by omega)) _ (InAt.keep (same_drewN _ _ _) _ hi')⟩
            · rw [List.getD_eq_getElem?_getD, List.getElem?_eq_getElem (by rw [toIms_length]; omega)]
              have h := HIN.out
              simp only [toIms_length]
              exact InAt.mono (reg_after (by omega)) _ (InAt.keep (same_drewN _ _ _) _ h)
    · have HEf : Hid (endB f.kids = false) := by
        show _ = _
        rw [HE.out, decide_eq_false (fun h => hz (Or.inl h)), decide_eq_false (fun h => hz (Or.inr h))]; rfl
      have z1 : (z != 1) = true := by simp; omega
      have z2 : (z != 2) = true := by simp; omega
      clear HE hz
      go_wp2_with fail
      go_ret2
      exact ⟨m, .nilIface, opened_below HW.out HO.out, ret_tup (by unfold dotsB; rw [HEf.out]; simp), fun h => by unfold dotsB at h; rw [HEf.out] at h; simp at h⟩
  · have HEf : Hid (endB f.kids = false) := by
      show _ = _
      unfold endB; rw [decide_eq_false hn]; rfl
    have hn2 : (f.kids.length : Int) - 1 < 1 := by omega
    go_wp2_with fail
    go_ret2
    exact ⟨m, .nilIface, opened_below HW.out HO.out, ret_tup (by unfold dotsB; rw [HEf.out]; simp), fun h => by unfold dotsB at h; rw [HEf.out] at h; simp at h⟩

end Go.Proofs.YthlacjabelpehaaGreatDoor

namespace Go.Proofs.YthlacjabelpehaaGreatDoor
open Go.RowKit Go.Siskin

theorem opened_world1 {w w2 : World} {bo m : Nat} {o : Obj} {m' : Int} (h : Opened bo (world1 w bo m o) w2 m') : Opened bo w w2 m' := by
  have g := world1_grown w bo m o
  exact ⟨⟨h.1.os.trans g.os, h.1.tape.trans g.tape, h.1.output.trans g.output, Nat.le_trans g.size h.1.size, fun k hk hne => (h.1.block k (Nat.lt_of_lt_of_le hk g.size) hne).trans (g.block k hk hne)⟩, h.2⟩

theorem goodB_list {f : Fm} {d : Nat} (m : Nat) (hd : d ≤ 60) (hs : f.sort = 3) : goodB f d m = (listFormB f && goodsB f.kids (d + 1) (m + 1)) := by
  have h := Fm.sz_kids f
  have e : decide (m + f.sz ≤ 1500) = decide (m + 1 + Fm.szs f.kids ≤ 1500) := decide_eq_decide.2 (by omega)
  unfold goodB goodsB
  rw [okB_list f d hd hs, e, Bool.and_assoc]
theorem goodB_dots {f : Fm} {d : Nat} (m : Nat) (hd : d ≤ 60) (hs : f.sort = 4) : goodB f d m = dotsB f d (m + 1) := by
  have h := Fm.sz_kids f
  have e : decide (m + f.sz ≤ 1500) = decide (m + 1 + Fm.szs f.kids ≤ 1500) := decide_eq_decide.2 (by omega)
  unfold goodB dotsB goodsB
  rw [okB_dots f d hd hs, e]
  cases listFormB f <;> cases oksB f.kids (d + 1) <;> cases endB f.kids <;> simp

set_option maxRecDepth 20000 in
set_option maxHeartbeats 1000000 in
theorem openF_list (n : Nat) (ih : OpenForms n) (f : Fm) (hf : f.sz ≤ n + 1) (B : Nat → Prop) (w : World) (c0 c1 c2 c3 c4 : Value) (d m bo : Nat) (hA : FormAt B w f c0 c1 c2 c3 c4) (hB : ∀ b, B b → b < w.heap.size ∧ b ≠ bo) (ho : Own w bo 68 #[.int .i64 m]) (hm : m < 1500) (hd : d ≤ 60) (hc : f.cost ≤ 1048576) (hs : f.sort = 3) :
    Calls Tryz.prog 36 #[.pointer (some ⟨bo, 0, none⟩), .agg #[c0, c1, c2, c3, c4], .int .i64 d] w fun e w' => ∃ (m' : Int) (v : Value), Opened bo w w' m' ∧ e = .returned (.tuple #[v, .bool (goodB f d m)]) ∧ (goodB f d m = true → m' = m + f.sz ∧ InAt (Reg B w w') w' (toIm f) v) := by
  obtain ⟨rfl, rfl, ht, h2, rfl, h4⟩ := (formAt_iff _ _ _ _ _ _ _ _).1 hA
  have q0 := ho.cell 0
  have f0 := ho.frozen 0
  simp at q0
  have hlt := ho.lt
  rw [hs] at hA ⊢
  have HA := hid hA
  obtain ⟨a2, k2, rfl, -⟩ := h2
  obtain ⟨a4, k4, rfl, -⟩ := h4
  have HR := hid hB
  have HO := hid ho
  have HG := hid (goodB_list m hd hs)
  have HT := hid (toIm_list f hs)
  have HS := hid (Fm.sz_kids f)
  have HI := hid ih
  clear hA hB ho hs ih
  go_enter Tryz.func36, Tryz.ntmps36
  go_wp2_with fail
  refine (openList_any n HI.out f (by have := HS.out; omega) B (world1 w bo m _) _ _ _ _ _ d (m + 1) bo (FormAt.keep (world1_same HR.out m _) f HA.out) (fun b hb => ⟨by have := (HR.out b hb).1; rw [world1_size]; omega, (HR.out b hb).2⟩) (world1_own HO.out _) (by omega) hd hc).mono ?_
  rintro e w2 ⟨m', v, hop, rfl, hgo⟩
  have HOP := hid hop
  have HGO := hid hgo
  clear hop hgo
  go_wp2_with fail
  go_ret2
  refine ⟨m', v, opened_world1 HOP.out, ret_tup HG.out.symm, fun h => ?_⟩
  obtain ⟨h1, h2⟩ := HGO.out (HG.out.symm.trans h)
  refine ⟨by have := HS.out; omega, ?_⟩
  rw [HT.out]
  exact InAt.mono (reg_after (by rw [world1_size]; omega)) _ h2

set_option maxRecDepth 20000 in
set_option maxHeartbeats 1000000 in
theorem openF_dots (n : Nat) (ih : OpenForms n) (f : Fm) (hf : f.sz ≤ n + 1) (B : Nat → Prop) (w : World) (c0 c1 c2 c3 c4 : Value) (d m bo : Nat) (hA : FormAt B w f c0 c1 c2 c3 c4) (hB : ∀ b, B b → b < w.heap.size ∧ b ≠ bo) (ho : Own w bo 68 #[.int .i64 m]) (hm : m < 1500) (hd : d ≤ 60) (hc : f.cost ≤ 1048576) (hs : f.sort = 4) :
    Calls Tryz.prog 36 #[.pointer (some ⟨bo, 0, none⟩), .agg #[c0, c1, c2, c3, c4], .int .i64 d] w fun e w' => ∃ (m' : Int) (v : Value), Opened bo w w' m' ∧ e = .returned (.tuple #[v, .bool (goodB f d m)]) ∧ (goodB f d m = true → m' = m + f.sz ∧ InAt (Reg B w w') w' (toIm f) v) := by
  obtain ⟨rfl, rfl, ht, h2, rfl, h4⟩ := (formAt_iff _ _ _ _ _ _ _ _).1 hA
  have q0 := ho.cell 0
  have f0 := ho.frozen 0
  simp at q0
  have hlt := ho.lt
  rw [hs] at hA ⊢
  have HA := hid hA
  obtain ⟨a2, k2, rfl, -⟩ := h2
  obtain ⟨a4, k4, rfl, -⟩ := h4
  have HR := hid hB
  have HO := hid ho
  have HG := hid (goodB_dots m hd hs)
  have HT := hid (toIm_dots f hs)
  have HS := hid (Fm.sz_kids f)
  have HI := hid ih
  clear hA hB ho hs ih
  go_enter Tryz.func36, Tryz.ntmps36
  go_wp2_with fail
  refine (openDots_any n HI.out f (by have := HS.out; omega) B (world1 w bo m _) _ _ _ _ _ d (m + 1) bo (FormAt.keep (world1_same HR.out m _) f HA.out) (fun b hb => ⟨by have := (HR.out b hb).1; rw [world1_size]; omega, (HR.out b hb).2⟩) (world1_own HO.out _) (by omega) hd hc).mono ?_
  rintro e w2 ⟨m', v, hop, rfl, hgo⟩
  have HOP := hid hop
  have HGO := hid hgo
  clear hop hgo
  go_wp2_with fail
  go_ret2
  refine ⟨m', v, opened_world1 HOP.out, ret_tup HG.out.symm, fun h => ?_⟩
  obtain ⟨h1, h2⟩ := HGO.out (HG.out.symm.trans h)
  refine ⟨by have := HS.out; omega, ?_⟩
  rw [HT.out]
  exact InAt.mono (reg_after (by rw [world1_size]; omega)) _ h2

set_option maxRecDepth 20000 in
set_option maxHeartbeats 2000000 in
theorem openForm_of (n : Nat) (ih : OpenForms n) : OpenForm (n + 1) := by
  intro f hf B w c0 c1 c2 c3 c4 d m bo hA hB ho hm hd hc
  by_cases hm2 : m < 1500
  · by_cases hd2 : d ≤ 60
    · by_cases s1 : f.sort = 1
      · exact openF_id f B w c0 c1 c2 c3 c4 d m bo hA hB ho hm2 hd2 s1
      by_cases s2 : f.sort = 2
      · exact openF_atom f B w c0 c1 c2 c3 c4 d m bo hA hB ho hm2 hd2 s2
      by_cases s3 : f.sort = 3
      · exact openF_list n ih f hf B w c0 c1 c2 c3 c4 d m bo hA hB ho hm2 hd2 hc s3
      by_cases s4 : f.sort = 4
      · exact openF_dots n ih f hf B w c0 c1 c2 c3 c4 d m bo hA hB ho hm2 hd2 hc s4
      have HX : Hid (false = goodB f d m) := by
        show _ = _
        unfold goodB; rw [okB_none f d s1 s2 s3 s4]; rfl
      obtain ⟨rfl, rfl, ht, h2, rfl, h4⟩ := (formAt_iff _ _ _ _ _ _ _ _).1 hA
      have q0 := ho.cell 0
      have f0 := ho.frozen 0
      simp at q0
      have hlt := ho.lt
      have HO := hid ho
      have b1 : (f.sort == 1) = false := by simpa using s1
      have b2 : (f.sort == 2) = false := by simpa using s2
      have b3 : (f.sort == 3) = false := by simpa using s3
      have b4 : (f.sort == 4) = false := by simpa using s4
      clear hA h2 h4 s1 s2 s3 s4 hB ih ho
      go_enter Tryz.func36, Tryz.ntmps36
      go_wp2_with fail
      go_ret2
      exact ⟨m + 1, .nilIface, opened1 HO.out (Below.refl _ _), ret_tup HX.out, fun h => absurd (HX.out.trans h) (by decide)⟩
    · have HX : Hid (false = goodB f d m) := by
        show _ = _
        unfold goodB; rw [okB_deep f d (by omega)]; rfl
      have q0 := ho.cell 0
      have f0 := ho.frozen 0
      simp at q0
      have hlt := ho.lt
      have HO := hid ho
      have hd3 : 60 < (d : Int) := by omega
      clear hA hB ih ho
      go_enter Tryz.func36, Tryz.ntmps36
      go_wp2_with fail
      go_ret2
      exact ⟨m + 1, .nilIface, opened1 HO.out (Below.refl _ _), ret_tup HX.out, fun h => absurd (HX.out.trans h) (by decide)⟩
  · have HX : Hid (false = goodB f d m) := by
      show _ = _
      have := Fm.sz_kids f
      unfold goodB; rw [decide_eq_false (p := m + f.sz ≤ 1500) (by omega)]; simp
    have q0 := ho.cell 0
    have f0 := ho.frozen 0
    simp at q0
    have hlt := ho.lt
    have HO := hid ho
    have hm3 : 1500 < (m : Int) + 1 := by omega
    clear hA hB ih ho
    go_enter Tryz.func36, Tryz.ntmps36
    go_wp2_with fail
    go_ret2
    exact ⟨m + 1, .nilIface, opened1 HO.out (Below.refl _ _), ret_tup HX.out, fun h => absurd (HX.out.trans h) (by decide)⟩

theorem openForm_all : ∀ n, OpenForm n ∧ OpenForms n
  | 0 => by
    have h : OpenForm 0 := fun f hf => by have := Fm.sz_kids f; omega
    exact ⟨h, openForms_of 0 h⟩
  | n + 1 => by
    have h := openForm_of n (openForm_all n).2
    exact ⟨h, openForms_of (n + 1) h⟩

end Go.Proofs.YthlacjabelpehaaGreatDoor

namespace Go.Proofs.YthlacjabelpehaaGreatDoor
open Go.RowKit Go.Siskin

theorem good_ok (f : Fm) : goodB f 0 0 = formOk f := by
  unfold goodB formOk; rw [Nat.zero_add]

/-- The program's way into a form: just where it is ok; what comes out lies in the form's own memory and in new memory. -/
theorem openForm_any (f : Fm) (B : Nat → Prop) (w : World) (c0 c1 c2 c3 c4 : Value) (hA : FormAt B w f c0 c1 c2 c3 c4) (hB : ∀ b, B b → b < w.heap.size) (hc : f.cost ≤ 1048576) :
    Calls Tryz.prog 27 #[.agg #[c0, c1, c2, c3, c4]] w fun e w' => ∃ v, e = .returned (.tuple #[v, .bool (formOk f)]) ∧ Below w.heap.size w w' ∧ (formOk f = true → InAt (Reg B w w') w' (toIm f) v) := by
  have H := hid (fun o1 : Obj => (openForm_all f.sz).1 f (Nat.le_refl _) B ((w.alloc o1).alloc (.cells #[.int .i64 0] 68)) c0 c1 c2 c3 c4 0 0 (w.heap.size + 1) (FormAt.keep (((SameOn.refl _ _).alloc hB _).alloc (fun b hb => by have := hB b hb; simp; omega) _) _ hA) (fun b hb => by have := hB b hb; simp; omega) (by have := own_new (w.alloc o1) #[.int .i64 0] 68; simpa using this) (by omega) (by omega) hc)
  obtain ⟨rfl, rfl, ht, h2, rfl, h4⟩ := (formAt_iff _ _ _ _ _ _ _ _).1 hA
  obtain ⟨a2, k2, rfl, -⟩ := h2
  obtain ⟨a4, k4, rfl, -⟩ := h4
  clear hA hB
  go_enter Tryz.func27, Tryz.ntmps27
  go_wp2_with fail
  refine (H.out _).mono ?_
  rintro e w2 ⟨m', v, hop, rfl, hgo⟩
  have HOP := hid hop
  have HGO := hid hgo
  clear hop hgo H
  go_wp2_with fail
  go_ret2
  have h := HOP.out
  have hs := h.1.size
  simp only [World.size_alloc] at hs
  refine ⟨v, ret_tup (good_ok f), ⟨h.1.os, h.1.tape, h.1.output, by omega, fun k hk => ?_⟩, fun hg => ?_⟩
  · rw [h.1.block k (by simp; omega) (fun e => by have := Option.some.inj e; omega), Below.heap_alloc _ _ _ (by simp; omega), Below.heap_alloc _ _ _ hk]
  · obtain ⟨-, h2⟩ := HGO.out ((good_ok f).trans hg)
    exact InAt.mono (reg_after (by simp; omega)) _ h2

end Go.Proofs.YthlacjabelpehaaGreatDoor

namespace Go.Proofs.YthlacjabelpehaaGreatDoor
open Go.RowKit Go.Siskin

theorem idOk_of {g : Fm} (h : idBY g = true) (hf : FitF g) (hc : g.cost ≤ 1048576) : IdOk g := by
  have hs : g.sort = 1 := by
    by_cases e : g.sort = 1
    · exact e
    · rw [idB_other g e] at h; cases h
  rw [idB_prog g hs, Bool.and_eq_true] at h
  refine ⟨hs, h.1, ((fitF_iff g).1 hf).1, ?_⟩
  have h2 := Fm.cost_eq g
  omega
theorem idsB_all {ls : List Fm} (h : idsB ls = true) : ∀ g ∈ ls, idBY g = true := by
  intro g hg
  obtain ⟨i, hi, rfl⟩ := List.getElem_of_mem hg
  cases h1 : idBY ls[i] with
  | true => rfl
  | false => rw [← idsB_bad hi h1] at h; cases h

set_option maxRecDepth 20000 in
set_option maxHeartbeats 2000000 in
theorem openPattern_any (f : Fm) (ls : List Fm) (B : Nat → Prop) (w : World) (c0 c1 c2 c3 c4 lv : Value) (hA : FormAt B w f c0 c1 c2 c3 c4) (hV : FormsAt B w lv ls) (hB : ∀ b, B b → b < w.heap.size) (hc : f.cost ≤ 1048576) (hcl : ls.length + Fm.costs ls ≤ 1048576) (hfit : FitF f) (hfits : ∀ g ∈ ls, FitF g) (hT : TabY w) :
    Calls Tryz.prog 19 #[.agg #[c0, c1, c2, c3, c4], lv] w fun e w' => ∃ na nn nc m, e = .returned (.tuple #[.agg #[.slice na nn nc, m], .bool (patOk f ls)]) ∧ FnV m ∧ Below w.heap.size w w' := by
  have HR := hid hB
  have HT := hid hT
  have HOF := hid (fun W (hW : Below w.heap.size w W) => openForm_any f B W c0 c1 c2 c3 c4 (FormAt.keep (hW.on hB) _ hA) (fun b h => by have := hB b h; have := hW.size; omega) hc)
  have HOL := hid (fun W (hW : Below w.heap.size w W) => openLiterals_any ls B W lv (hV.keep (hW.on hB)) (fun b h => by have := hB b h; have := hW.size; omega) (by omega))
  have HLS : Hid (idsB ls = true → ∀ g ∈ ls, IdOk g) := fun h g hg => by
    refine idOk_of (idsB_all h g hg) (hfits g hg) ?_
    obtain ⟨i, hi, rfl⟩ := List.getElem_of_mem hg
    have := Fm.costs_get ls i hi
    omega
  have HKN : Hid (formOk f = true → idsB ls = true → Knows ls f ∧ f.sz ≤ 1500) := fun h1 h2 => by
    unfold formOk at h1
    rw [Bool.and_eq_true, decide_eq_true_eq] at h1
    exact ⟨knows_all ls (HLS.out h2) f.sz f 0 (Nat.le_refl _) ⟨h1.1, hfit, hc⟩, h1.2⟩
  obtain ⟨rfl, rfl, -, h2, rfl, h4⟩ := (formAt_iff _ _ _ _ _ _ _ _).1 hA
  obtain ⟨a2, k2, rfl, -⟩ := h2
  obtain ⟨a4, k4, rfl, -⟩ := h4
  obtain ⟨la, lk, rfl, -⟩ := hV
  have HA := hid (((Below.refl w.heap.size w).alloc (Nat.le_refl _) (.cells #[.int .i64 f.sort, .string f.text, .slice a2 f.scopes.length k2, .int .i64 f.frm, .slice a4 f.kids.length k4] 31)).alloc (by simp) (.cells #[.slice none 0 0, .nilFunc] 47))
  have HO1 := hid (own_new2 w (.cells #[.int .i64 f.sort, .string f.text, .slice a2 f.scopes.length k2, .int .i64 f.frm, .slice a4 f.kids.length k4] 31) #[.slice none 0 0, .nilFunc] 47)
  unfold patOk
  clear hA hB hT hfit hfits
  cases hok : formOk f with
  | false =>
    rw [hok] at HOF
    go_enter Tryz.func19, Tryz.ntmps19
    go_wp2_with (first
      | (go_at_call 27; refine (HOF.out _ HA.out).mono ?_; rintro e w1 ⟨v, rfl, hw, -⟩; have HW1 := hid hw; have HA1 := hid (HA.out.trans (hw.mono HA.out.size)); clear hw)
      | (go_at_call 28; refine (HOL.out _ HA1.out).mono ?_; rintro e w2 ⟨u, rfl, -, hw⟩; have HA2 := hid (HA1.out.trans (hw.mono HA1.out.size)); have hs2 := HW1.out.size; simp only [World.size_alloc] at hs2; have HO2 := hid ((HO1.out.keep HW1.out (by simp)).keep hw (by omega)); obtain ⟨z0, z1, z2, z3⟩ := yown2 HO2.out; clear hw))
    refine bodyPost_ret (v := .tuple #[.agg #[.slice none 0 0, .nilFunc], .bool false]) (by simp [results, Tryz.results19, go_sem, z0, z1]) rfl ?_
    refine ⟨none, 0, 0, .nilFunc, by simp, Or.inl rfl, ?_⟩
    exact (HA2.out.setCell (p := ⟨w.heap.size + 1, 0, none⟩) (by show w.heap.size ≤ w.heap.size + 1; omega) _).setCell (p := ⟨w.heap.size + 1, 1, none⟩) (by show w.heap.size ≤ w.heap.size + 1; omega) _
  | true =>
    rw [hok] at HOF
    cases hls : idsB ls with
    | false =>
      rw [hls] at HOL
      go_enter Tryz.func19, Tryz.ntmps19
      go_wp2_with (first
        | (go_at_call 27; refine (HOF.out _ HA.out).mono ?_; rintro e w1 ⟨v, rfl, hw, -⟩; have HW1 := hid hw; have HA1 := hid (HA.out.trans (hw.mono HA.out.size)); clear hw)
        | (go_at_call 28; refine (HOL.out _ HA1.out).mono ?_; rintro e w2 ⟨u, rfl, -, hw⟩; have HA2 := hid (HA1.out.trans (hw.mono HA1.out.size)); have hs2 := HW1.out.size; simp only [World.size_alloc] at hs2; have HO2 := hid ((HO1.out.keep HW1.out (by simp)).keep hw (by omega)); obtain ⟨z0, z1, z2, z3⟩ := yown2 HO2.out; clear hw))
      refine bodyPost_ret (v := .tuple #[.agg #[.slice none 0 0, .nilFunc], .bool false]) (by simp [results, Tryz.results19, go_sem, z0, z1]) rfl ?_
      refine ⟨none, 0, 0, .nilFunc, by simp, Or.inl rfl, ?_⟩
      exact (HA2.out.setCell (p := ⟨w.heap.size + 1, 0, none⟩) (by show w.heap.size ≤ w.heap.size + 1; omega) _).setCell (p := ⟨w.heap.size + 1, 1, none⟩) (by show w.heap.size ≤ w.heap.size + 1; omega) _
    | true =>
      rw [hls] at HOL
      have HKN2 := hid (HKN.out hok hls)
      have HLS2 := hid (HLS.out hls)
      go_enter Tryz.func19, Tryz.ntmps19
      go_wp2_with (first
        | (go_at_call 27; refine (HOF.out _ HA.out).mono ?_; rintro e w1 ⟨v, rfl, hw, hin⟩; have HIN := hid (hin (by first | trivial | rfl)); have HW1 := hid hw; have HA1 := hid (HA.out.trans (hw.mono HA.out.size)); clear hw hin)
        | (go_at_call 28; (refine (HOL.out _ HA1.out).mono ?_; rintro e w2 ⟨u, rfl, hir, hw⟩; have HIR := hid (hir trivial); have HW2 := hid hw; have HA2 := hid (HA1.out.trans (hw.mono HA1.out.size)); have hs2 := HW1.out.size; simp only [World.size_alloc] at hs2; have HO2 := hid ((HO1.out.keep HW1.out (by simp)).keep hw (by omega)); clear hw hir))
        | (go_at_call 30; (refine (placesOf_any ls B w2 u HIR.out.ids (fun b h => by have := HR.out b h; have := HA2.out.size; omega) (by omega) (fun g hg => (HLS2.out g hg).good) (HT.out.below HA2.out rfl)).mono ?_; rintro e w3 ⟨bb, rfl, hpl, hw⟩; have HPL := hid hpl; have HW3 := hid hw; have HA3 := hid (HA2.out.trans (hw.mono HA2.out.size)); have hs3 := HW2.out.size; have HO3 := hid (HO2.out.keep hw (by omega)); clear hw hpl)))
      have hs2' := HW2.out.size
      have hs3' := HW3.out.size
      have hs1' := HW1.out.size
      simp only [World.size_alloc] at hs1'
      have HPO := hid (patternOf_any (ls.map keyF) (toIm f) (by have h1 := HKN2.out.1.size; have h2 := HKN2.out.2; omega) HKN2.out.1.good (fun ns e => by
        rw [HKN2.out.1.pn] at e
        unfold qF at e
        split at e
        · exact (Option.some.inj e) ▸ HKN2.out.1.ids
        · cases e) _ w3 bb v (InAt.keep ((HW2.out.trans (HW3.out.mono HW2.out.size)).on (fun c hc => by
          rcases hc with hc | hc
          · have := HR.out c hc; omega
          · exact hc.2)) _ HIN.out) (fun c hc => by
          rcases hc with hc | hc
          · have := HR.out c hc; omega
          · have := hc.2; omega) HPL.out (HT.out.below HA3.out rfl))
      have HRES : Hid ((match pnI (ls.map keyF) (toIm f) with | none => false | some ns => onceB ns) = (true && true && patB f && onceB (namesF ls f))) := by
        show _ = _
        rw [HKN2.out.1.pn]
        unfold qF
        cases patB f <;> rfl
      obtain ⟨res, hres⟩ : ∃ res, res = (true && true && patB f && onceB (namesF ls f)) := ⟨_, rfl⟩
      have HPO2 : Hid (Calls Tryz.prog 29 #[v, .map (some bb)] w3 fun e w' => ∃ na nn nc m, e = .returned (.tuple #[.agg #[.slice na nn nc, m], .bool res]) ∧ FnV m ∧ Below w3.heap.size w3 w') := HPO.out.mono (fun e w' h => by
        obtain ⟨na, nn, nc, m, he, h1, h2⟩ := h
        exact ⟨na, nn, nc, m, he.trans (congrArg (fun z => Ending.returned (.tuple #[.agg #[.slice na nn nc, m], .bool z])) (HRES.out.trans hres.symm)), h1, h2⟩)
      have HRS := hid hres
      clear hres HRES HPO
      refine HPO2.out.mono ?_
      rintro e w4 ⟨na, nn, nc, mf, rfl, hfn, hw⟩
      have HA4 := hid (HA3.out.trans (hw.mono HA3.out.size))
      obtain ⟨z0, z1, z2, z3⟩ := yown2 (HO3.out.keep hw (by omega))
      clear hw
      rcases hfn with rfl | ⟨fn, pp, qq, rfl⟩
      · go_wp2_with fail
        refine bodyPost_ret (v := .tuple #[.agg #[.slice na nn nc, .nilFunc], .bool res]) (by simp [results, Tryz.results19, go_sem, z0, z1]) rfl ?_
        exact ⟨na, nn, nc, _, by rw [HRS.out], Or.inl rfl, (HA4.out.setCell (p := ⟨w.heap.size + 1, 0, none⟩) (by show w.heap.size ≤ w.heap.size + 1; omega) _).setCell (p := ⟨w.heap.size + 1, 1, none⟩) (by show w.heap.size ≤ w.heap.size + 1; omega) _⟩
      · go_wp2_with fail
        refine bodyPost_ret (v := .tuple #[.agg #[.slice na nn nc, .func fn pp qq], .bool res]) (by simp [results, Tryz.results19, go_sem, z0, z1]) rfl ?_
        exact ⟨na, nn, nc, _, by rw [HRS.out], Or.inr ⟨_, _, _, rfl⟩, (HA4.out.setCell (p := ⟨w.heap.size + 1, 0, none⟩) (by show w.heap.size ≤ w.heap.size + 1; omega) _).setCell (p := ⟨w.heap.size + 1, 1, none⟩) (by show w.heap.size ≤ w.heap.size + 1; omega) _⟩

set_option maxRecDepth 20000 in
set_option maxHeartbeats 2000000 in
theorem implPatternOk_any (f : Fm) (ls : List Fm) (B : Nat → Prop) (w : World) (c0 c1 c2 c3 c4 lv : Value) (hA : FormAt B w f c0 c1 c2 c3 c4) (hV : FormsAt B w lv ls) (hB : ∀ b, B b → b < w.heap.size) (hc : f.cost ≤ 1048576) (hcl : ls.length + Fm.costs ls ≤ 1048576) (hfit : FitF f) (hfits : ∀ g ∈ ls, FitF g) (hT : TabY w) :
    Calls Tryz.prog 9 #[.agg #[c0, c1, c2, c3, c4], lv] w fun e w' => e = .returned (.bool (patOk f ls)) ∧ Below w.heap.size w w' := by
  have HOP := hid (fun W (hW : Below w.heap.size w W) => openPattern_any f ls B W c0 c1 c2 c3 c4 lv (FormAt.keep (hW.on hB) _ hA) (hV.keep (hW.on hB)) (fun b h => by have := hB b h; have := hW.size; omega) hc hcl hfit hfits (hT.below hW rfl))
  obtain ⟨rfl, rfl, -, h2, rfl, h4⟩ := (formAt_iff _ _ _ _ _ _ _ _).1 hA
  obtain ⟨a2, k2, rfl, -⟩ := h2
  obtain ⟨a4, k4, rfl, -⟩ := h4
  obtain ⟨la, lk, rfl, -⟩ := hV
  obtain ⟨res, hres⟩ : ∃ res, res = patOk f ls := ⟨_, rfl⟩
  rw [← hres] at HOP ⊢
  clear hA hB hT hfit hfits hres
  go_enter Tryz.func9, Tryz.ntmps9
  go_wp2_with fail
  refine (HOP.out _ ((Below.refl _ _).alloc (Nat.le_refl _) _)).mono ?_
  rintro e w1 ⟨na, nn, nc, mf, rfl, hfn, hw⟩
  have HW := hid hw
  have hs1 := hw.size
  simp only [World.size_alloc] at hs1
  clear hw
  rcases hfn with rfl | ⟨fn, pp, qq, rfl⟩
  all_goals
    go_wp2_with fail
    go_ret
    exact ⟨rfl, (((Below.refl _ _).alloc (Nat.le_refl _) _).trans (HW.out.mono (by simp))).alloc (by omega) _⟩
end Go.Proofs.YthlacjabelpehaaGreatDoor
