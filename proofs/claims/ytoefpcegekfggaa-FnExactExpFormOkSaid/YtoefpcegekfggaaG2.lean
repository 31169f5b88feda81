/- The program's hasOnlyKids, and its opener at an identifier and at an atom. Condition: the form lies in memory, the opener's counter apart from it. -/
import Derived.Test.YtoefpcegekfggaaG1
import Derived.Test.YtoefpcegekfggaaIn
import Derived.Test.YtoefpcegekfggaaRg
namespace Go.Proofs.Ytoefpcegekfggaa
open Go.RowKit Go.Siskin

theorem ret_tup {v : Value} {b b' : Bool} (h : b = b') : Ending.returned (.tuple #[v, .bool b]) = .returned (.tuple #[v, .bool b']) := by rw [h]

/-- The world behind a call of the opener whose counter lies in block bo. -/
def Opened (bo : Nat) (w w' : World) (m : Int) : Prop := w.grownBy w' (some bo) ∧ Own w' bo 77 #[.int .i64 m]
def goodB (f : Fm) (d m : Nat) : Bool := okB f d && decide (m + f.sz ≤ 1500)
def goodsB (ks : List Fm) (d m : Nat) : Bool := oksB ks d && decide (m + Fm.szs ks ≤ 1500)

def OpenForm (n : Nat) : Prop := ∀ f : Fm, f.sz ≤ n → ∀ (B : Nat → Prop) (w : World) (c0 c1 c2 c3 c4 : Value) (d m bo : Nat), FormAt B w f c0 c1 c2 c3 c4 → (∀ b, B b → b < w.heap.size ∧ b ≠ bo) → Own w bo 77 #[.int .i64 m] → m ≤ 1500 → d ≤ 61 → f.cost ≤ 1048576 →
    Calls Try.prog 37 #[.pointer (some ⟨bo, 0, none⟩), .agg #[c0, c1, c2, c3, c4], .int .i64 d] w fun e w' => ∃ (m' : Int) (v : Value), Opened bo w w' m' ∧ e = .returned (.tuple #[v, .bool (goodB f d m)]) ∧ (goodB f d m = true → m' = m + f.sz ∧ InAt (Reg B w w') w' (toIm f) v)

set_option maxHeartbeats 1000000 in
theorem hasOnlyKids_any (f : Fm) (B : Nat → Prop) (w : World) (c0 c1 c2 c3 c4 : Value) (hA : FormAt B w f c0 c1 c2 c3 c4) :
    Calls Try.prog 62 #[.agg #[c0, c1, c2, c3, c4]] w fun e w' => e = .returned (.bool (listFormB f)) ∧ Below w.heap.size w w' := by
  obtain ⟨rfl, rfl, ht, h2, rfl, h4⟩ := (formAt_iff _ _ _ _ _ _ _ _).1 hA
  obtain ⟨a2, k2, rfl, hl2, -⟩ := h2
  obtain ⟨a4, k4, rfl, hl4, -⟩ := h4
  have HX : Hid (listFormB f = (f.text.toList.isEmpty && ((f.scopes.length : Int) == 0) && (f.frm == 0))) := by
    show _ = _
    unfold listFormB
    rw [tl_empty, empty_size]
    have e1 : ((f.scopes.length : Int) == 0) = decide (f.scopes.length = 0) := by rw [Bool.eq_iff_iff, beq_iff_eq, decide_eq_true_eq]; omega
    have e2 : (f.frm == 0) = decide (f.frm = 0) := by rw [Bool.eq_iff_iff, beq_iff_eq, decide_eq_true_eq]
    rw [e1, e2]
    cases decide (f.text.size = 0) <;> cases decide (f.scopes.length = 0) <;> cases decide (f.frm = 0) <;> rfl
  unfold maxLen at hl2
  clear hA
  cases e1 : f.text.toList.isEmpty with
  | false =>
    go_enter Try.func62, Try.ntmps62
    go_wp2_with fail
    go_ret
    exact ⟨ret_bool (by rw [HX.out, e1]; rfl), (Below.refl _ _).alloc (Nat.le_refl _) _⟩
  | true =>
  cases e2 : ((f.scopes.length : Int) == 0) with
  | false =>
    go_enter Try.func62, Try.ntmps62
    go_wp2_with fail
    go_ret
    exact ⟨ret_bool (by rw [HX.out, e2]; simp), (Below.refl _ _).alloc (Nat.le_refl _) _⟩
  | true =>
    go_enter Try.func62, Try.ntmps62
    go_wp2_with fail
    go_ret
    exact ⟨ret_bool (by rw [HX.out, e1, e2]; rfl), (Below.refl _ _).alloc (Nat.le_refl _) _⟩

/-- The world behind the count of one more form, the form's own box laid. -/
def world1 (w : World) (bo m : Nat) (o : Obj) : World := (w.setCell ⟨bo, 0, none⟩ (.int .i64 (m + 1))).alloc o
theorem world1_same {B : Nat → Prop} {w : World} {bo : Nat} (hB : ∀ b, B b → b < w.heap.size ∧ b ≠ bo) (m : Nat) (o : Obj) : SameOn B w (world1 w bo m o) :=
  ((SameOn.refl B w).setCell (fun h => (hB _ h).2 rfl) _).alloc (fun b hb => by have := (hB b hb).1; simp; omega) _
theorem world1_size (w : World) (bo m : Nat) (o : Obj) : (world1 w bo m o).heap.size = w.heap.size + 1 := by simp [world1]
theorem world1_grown (w : World) (bo m : Nat) (o : Obj) : w.grownBy (world1 w bo m o) (some bo) := by
  refine ⟨rfl, rfl, rfl, by rw [world1_size]; omega, fun k hk hne => ?_⟩
  unfold world1
  rw [Below.heap_alloc _ _ _ (by simpa using hk)]
  exact Below.heap_setCell _ _ _ _ (fun e => hne (by rw [e]))
theorem world1_own {w : World} {bo m : Nat} (ho : Own w bo 77 #[.int .i64 m]) (o : Obj) : Own (world1 w bo m o) bo 77 #[.int .i64 (m + 1)] := by
  have h := ho.set 0 (.int .i64 (m + 1))
  have hlt := h.lt
  refine (Below.heap_alloc _ _ _ hlt).trans ?_
  exact h
theorem grown_below {bo : Nat} {w w1 w2 : World} (h : w.grownBy w1 (some bo)) (hb : Below w1.heap.size w1 w2) : w.grownBy w2 (some bo) :=
  ⟨hb.os.trans h.os, hb.tape.trans h.tape, hb.output.trans h.output, Nat.le_trans h.size hb.size, fun k hk hne => (hb.block k (Nat.lt_of_lt_of_le hk h.size)).trans (h.block k hk hne)⟩
theorem opened1 {w w2 : World} {bo m : Nat} {o : Obj} (ho : Own w bo 77 #[.int .i64 m]) (hb : Below (world1 w bo m o).heap.size (world1 w bo m o) w2) : Opened bo w w2 (m + 1) :=
  ⟨grown_below (world1_grown w bo m o) hb, (world1_own ho o).keep hb (world1_own ho o).lt⟩

theorem goodB_id {f : Fm} {d m : Nat} (hm : m < 1500) (hd : d ≤ 60) (hs : f.sort = 1) : goodB f d m = idFormB f := by
  unfold goodB
  rw [okB_id f d hd hs]
  cases h : idFormB f with
  | false => rfl
  | true =>
    unfold idFormB at h
    simp only [Bool.and_eq_true, decide_eq_true_eq] at h
    have h1 := Fm.sz_kids f
    have h2 : f.kids = [] := List.eq_nil_of_length_eq_zero h.2
    rw [h2] at h1
    rw [Fm.szs_nil] at h1
    rw [decide_eq_true (by omega)]; rfl
theorem goodB_atom {f : Fm} {d m : Nat} (hm : m < 1500) (hd : d ≤ 60) (hs : f.sort = 2) : goodB f d m = atomFormB f := by
  unfold goodB
  rw [okB_atom f d hd hs]
  cases h : atomFormB f with
  | false => rfl
  | true =>
    unfold atomFormB at h
    simp only [Bool.and_eq_true, decide_eq_true_eq] at h
    have h1 := Fm.sz_kids f
    have h2 : f.kids = [] := List.eq_nil_of_length_eq_zero (by omega)
    rw [h2] at h1
    rw [Fm.szs_nil] at h1
    rw [decide_eq_true (by omega)]; rfl
theorem sz_one {f : Fm} (h : f.kids.length = 0) : f.sz = 1 := by
  have h1 := Fm.sz_kids f
  rw [List.eq_nil_of_length_eq_zero h] at h1
  simpa [Fm.szs] using h1

set_option maxRecDepth 20000 in
set_option maxHeartbeats 1000000 in
theorem openF_id (f : Fm) (B : Nat → Prop) (w : World) (c0 c1 c2 c3 c4 : Value) (d m bo : Nat) (hA : FormAt B w f c0 c1 c2 c3 c4) (hB : ∀ b, B b → b < w.heap.size ∧ b ≠ bo) (ho : Own w bo 77 #[.int .i64 m]) (hm : m < 1500) (hd : d ≤ 60) (hs : f.sort = 1) :
    Calls Try.prog 37 #[.pointer (some ⟨bo, 0, none⟩), .agg #[c0, c1, c2, c3, c4], .int .i64 d] w fun e w' => ∃ (m' : Int) (v : Value), Opened bo w w' m' ∧ e = .returned (.tuple #[v, .bool (goodB f d m)]) ∧ (goodB f d m = true → m' = m + f.sz ∧ InAt (Reg B w w') w' (toIm f) v) := by
  obtain ⟨rfl, rfl, ht, h2, rfl, h4⟩ := (formAt_iff _ _ _ _ _ _ _ _).1 hA
  have q0 := ho.cell 0
  have f0 := ho.frozen 0
  simp at q0
  have hlt := ho.lt
  rw [hs] at hA ⊢
  have HA := hid hA
  have H2 := hid h2
  obtain ⟨a2, k2, rfl, -⟩ := h2
  obtain ⟨a4, k4, rfl, -⟩ := h4
  have HR := hid hB
  have HO := hid ho
  have HG := hid (goodB_id hm hd hs)
  have HT := hid (toIm_id f hs)
  have HS := hid hs
  clear hA hB ho hs
  go_enter Try.func37, Try.ntmps37
  go_wp2_with fail
  refine (openId_any f B (world1 w bo m _) _ _ _ _ _ (FormAt.keep (world1_same HR.out m _) f HA.out) (fun b hb => by have := (HR.out b hb).1; rw [world1_size]; omega) HS.out).mono ?_
  rintro e w2 ⟨h1, h2, hw⟩
  have HW := hid hw
  clear hw
  cases hi : idFormB f with
  | true =>
    have HI := hid hi
    rw [h1 hi]
    clear h1 h2 hi
    go_wp2_with fail
    go_ret2
    refine ⟨m + 1, _, opened1 HO.out HW.out, ret_tup (by rw [HG.out, HI.out]), fun _ => ⟨?_, ?_⟩⟩
    · have h := HI.out
      unfold idFormB at h
      simp only [Bool.and_eq_true, decide_eq_true_eq] at h
      rw [sz_one h.2]; rfl
    · rw [HT.out]
      rw [InAt_id]
      refine ⟨_, rfl, ht, (H2.out.keep ?_).mono (fun b hb => Or.inl hb)⟩
      exact (world1_same HR.out m _).below HW.out (fun b hb => by have := (HR.out b hb).1; rw [world1_size]; omega)
  | false =>
    have HI := hid hi
    rw [h2 hi]
    clear h1 h2 hi
    go_wp2_with fail
    go_ret2
    exact ⟨m + 1, _, opened1 HO.out HW.out, ret_tup (by rw [HG.out, HI.out]), fun h => absurd (h.symm.trans (HG.out.trans HI.out)) (by decide)⟩

set_option maxRecDepth 20000 in
set_option maxHeartbeats 1000000 in
theorem openF_atom (f : Fm) (B : Nat → Prop) (w : World) (c0 c1 c2 c3 c4 : Value) (d m bo : Nat) (hA : FormAt B w f c0 c1 c2 c3 c4) (hB : ∀ b, B b → b < w.heap.size ∧ b ≠ bo) (ho : Own w bo 77 #[.int .i64 m]) (hm : m < 1500) (hd : d ≤ 60) (hs : f.sort = 2) :
    Calls Try.prog 37 #[.pointer (some ⟨bo, 0, none⟩), .agg #[c0, c1, c2, c3, c4], .int .i64 d] w fun e w' => ∃ (m' : Int) (v : Value), Opened bo w w' m' ∧ e = .returned (.tuple #[v, .bool (goodB f d m)]) ∧ (goodB f d m = true → m' = m + f.sz ∧ InAt (Reg B w w') w' (toIm f) v) := by
  obtain ⟨rfl, rfl, ht, h2, rfl, h4⟩ := (formAt_iff _ _ _ _ _ _ _ _).1 hA
  have q0 := ho.cell 0
  have f0 := ho.frozen 0
  simp at q0
  have hlt := ho.lt
  rw [hs] at hA ⊢
  have HA := hid hA
  have H2 := hid h2
  obtain ⟨a2, k2, rfl, -⟩ := h2
  obtain ⟨a4, k4, rfl, -⟩ := h4
  have HR := hid hB
  have HO := hid ho
  have HG := hid (goodB_atom hm hd hs)
  have HT := hid (toIm_atom f hs)
  clear hA hB ho hs
  go_enter Try.func37, Try.ntmps37
  go_wp2_with fail
  refine (openAtom_any f B (world1 w bo m _) _ _ _ _ _ (FormAt.keep (world1_same HR.out m _) f HA.out)).mono ?_
  rintro e w2 ⟨h1, h2, hw⟩
  have HW := hid hw
  clear hw
  cases hi : atomFormB f with
  | true =>
    have HI := hid hi
    rw [h1 hi]
    clear h1 h2 hi
    go_wp2_with fail
    go_ret2
    refine ⟨m + 1, _, opened1 HO.out HW.out, ret_tup (by rw [HG.out, HI.out]), fun _ => ⟨?_, ?_⟩⟩
    · have h := HI.out
      unfold atomFormB at h
      simp only [Bool.and_eq_true, decide_eq_true_eq] at h
      rw [sz_one (by omega)]; rfl
    · rw [HT.out]
      rw [InAt_atom]
      exact ⟨rfl, ht⟩
  | false =>
    have HI := hid hi
    rw [h2 hi]
    clear h1 h2 hi
    go_wp2_with fail
    go_ret2
    exact ⟨m + 1, _, opened1 HO.out HW.out, ret_tup (by rw [HG.out, HI.out]), fun h => absurd (h.symm.trans (HG.out.trans HI.out)) (by decide)⟩

end Go.Proofs.Ytoefpcegekfggaa
