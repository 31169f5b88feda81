/-
  The model's l1ScopesOk and the program's isAscending and areScopes return whether scopes are ascending, none below 0. Condition: the slice lies in memory as IntsAt says.
  The law's toIntS returns a copy in new memory. Condition: the slice lies in memory, and is not too long.
  The law's szExpForm and szExpFormS take from a number what a form costs. Condition: the form lies in memory as FormAt says.
  The model's l1AtomOk returns, at every text, whether it is an atom; the world is as it was. Condition: the text's size is one that a Go string can have.
  The program's isDigits and hasBytesFrom return what the plain functions say of the text; the world is as it was. Condition: the text's size is one that a Go string can have.
-/
import Derived.Test.YtkpamgabhlplfaaPart1
import Derived.Lib.Strings
namespace Go.Proofs.Ytkpamgabhlplfaa
open Go.RowKit Go.Siskin

theorem scopes_no {xs : List Int} (h : ¬ (AscTo xs xs.length ∧ NonTo xs xs.length)) : false = scopesB xs := by
  rw [eq_comm, Bool.eq_false_iff]; intro e; exact h ((scopes_iff xs).1 e)
theorem asc_no {xs : List Int} (h : ¬ AscTo xs xs.length) : false = ascB xs := by
  rw [eq_comm, Bool.eq_false_iff]; intro e; exact h ((asc_iff xs).1 e)
theorem getD_get {xs : List Int} {k : Nat} (h : k < xs.length) : xs.getD k 0 = xs[k] := by simp [List.getD_eq_getElem?_getD, h]

theorem asc_step {xs : List Int} {k : Nat} (h : AscTo xs k) (hk : k = 0 ∨ xs.getD (k - 1) 0 < xs.getD k 0) : AscTo xs (k + 1) := by
  intro i hi
  by_cases e : i + 1 < k
  · exact h i e
  · have : i + 1 = k := by omega
    subst this
    rcases hk with hk | hk
    · omega
    · simpa using hk
theorem non_step {xs : List Int} {k : Nat} (h : NonTo xs k) (hk : 0 ≤ xs.getD k 0) : NonTo xs (k + 1) := by
  intro i hi
  by_cases e : i < k
  · exact h i e
  · have : i = k := by omega
    subst this; exact hk

set_option maxHeartbeats 1000000 in
theorem l1ScopesOk_any (B : Nat → Prop) (va : Value) (xs : List Int) (w : World) (ha : IntsAt B w va xs) :
    Calls Try.prog 65 #[va] w fun e w' => e = .returned (.bool (scopesB xs)) ∧ ∃ n, w' = w.drewN n := by
  obtain ⟨a, ca, rfl, hla, ha⟩ := ha
  unfold maxLen at hla
  go_enter Try.func65, Try.ntmps65
  go_wp2_with fail
  go_loopw [3] (fun i wr => (∃ n, wr = w.drewN n) ∧ ∃ k : Nat, k ≤ xs.length ∧ i = .int .i64 k ∧ Hid (AscTo xs k ∧ NonTo xs k)) (fun i _ => xs.length - (intOf i).toNat)
  case atStart => exact ⟨⟨0, rfl⟩, 0, Nat.zero_le _, rfl, fun i hi => absurd hi (by omega), fun i hi => absurd hi (by omega)⟩
  case round =>
    obtain ⟨⟨n, rfl⟩, k, hk, rfl, HA⟩ := hrel
    by_cases hlt : k < xs.length
    · rcases ha with ha | ⟨ba, oa, rfl, _, ha⟩
      · subst ha; simp at hlt
      have ga := ha k hlt
      rw [getD_get hlt] at ga
      by_cases h1 : xs[k] < 0
      · have hd : decide (xs[k] < 0) = true := decide_eq_true h1
        have HX : Hid (false = scopesB xs) := scopes_no fun h => by
          have := h.2 k hlt; rw [getD_get hlt] at this; omega
        clear ha
        go_wp2_with fail
        go_quiet (fail)
        go_wp2_with fail
        go_ret
        exact ⟨ret_bool HX.out, n + nq, by simp⟩
      have hd : decide (xs[k] < 0) = false := decide_eq_false h1
      cases k with
      | succ j =>
        have gb := ha j (by omega)
        rw [getD_get (by omega)] at gb
        have hd2 : decide (0 < ((j + 1 : Nat) : Int)) = true := decide_eq_true (by omega)
        clear ha
        by_cases h3 : xs[j + 1] ≤ xs[j]
        · have HX : Hid (false = scopesB xs) := scopes_no fun h => by
            have := h.1 j (by omega); rw [getD_get (by omega), getD_get hlt] at this; omega
          go_wp2_with fail
          go_quiet (fail)
          go_wp2_with fail
          go_ret
          exact ⟨ret_bool HX.out, n + nq, by simp⟩
        · have HA' : Hid (AscTo xs (j + 1 + 1) ∧ NonTo xs (j + 1 + 1)) := ⟨asc_step HA.out.1 (Or.inr (by rw [Nat.add_sub_cancel, getD_get (by omega), getD_get hlt]; omega)), non_step HA.out.2 (by rw [getD_get hlt]; omega)⟩
          go_wp2_with fail
          go_quiet (fail)
          go_wp2_with fail
          exact ⟨⟨⟨n + nq, rfl⟩, j + 1 + 1, by omega, by go_num, HA'⟩, by simp [intOf]; omega⟩
      | zero =>
        have HA' : Hid (AscTo xs (0 + 1) ∧ NonTo xs (0 + 1)) := ⟨asc_step HA.out.1 (Or.inl rfl), non_step HA.out.2 (by rw [getD_get hlt]; omega)⟩
        rw [Nat.add_zero] at ga
        clear ha
        go_wp2_with fail
        go_quiet (fail)
        go_wp2_with fail
        exact ⟨⟨⟨n + nq, rfl⟩, 1, by omega, by go_num, HA'⟩, by simp [intOf]; omega⟩
    · go_wp2_with fail
      go_ret
      have e : k = xs.length := by omega
      exact ⟨ret_bool (by rw [eq_comm, scopes_iff, ← e]; exact HA.out), n, rfl⟩

set_option maxHeartbeats 1000000 in
theorem isAscending_any (B : Nat → Prop) (va : Value) (xs : List Int) (w : World) (ha : IntsAt B w va xs) :
    Calls Try.prog 57 #[va] w fun e w' => e = .returned (.bool (ascB xs)) ∧ ∃ n, w' = w.drewN n := by
  obtain ⟨a, ca, rfl, hla, ha⟩ := ha
  unfold maxLen at hla
  go_enter Try.func57, Try.ntmps57
  go_wp2_with fail
  go_loopw [3] (fun i wr => (∃ n, wr = w.drewN n) ∧ ∃ k : Nat, k ≤ xs.length ∧ i = .int .i64 ((k : Int) + 1) ∧ Hid (AscTo xs (k + 1))) (fun i _ => xs.length + 1 - (intOf i).toNat)
  case atStart => exact ⟨⟨0, rfl⟩, 0, Nat.zero_le _, rfl, fun i hi => absurd hi (by omega)⟩
  case round =>
    obtain ⟨⟨n, rfl⟩, j, hk, rfl, HA⟩ := hrel
    by_cases hlt : j + 1 < xs.length
    · rcases ha with ha | ⟨ba, oa, rfl, _, ha⟩
      · subst ha; simp at hlt
      have ga := ha (j + 1) hlt
      have gb := ha j (by omega)
      rw [getD_get hlt] at ga
      rw [getD_get (by omega)] at gb
      clear ha
      by_cases h3 : xs[j + 1] ≤ xs[j]
      · have HX : Hid (false = ascB xs) := asc_no fun h => by
          have := h j (by omega); rw [getD_get (by omega), getD_get hlt] at this; omega
        go_wp2_with fail
        go_quiet (fail)
        go_wp2_with fail
        go_ret
        exact ⟨ret_bool HX.out, n + nq, by simp⟩
      · have HA' : Hid (AscTo xs (j + 1 + 1)) := asc_step HA.out (Or.inr (by rw [Nat.add_sub_cancel, getD_get (by omega), getD_get hlt]; omega))
        go_wp2_with fail
        go_quiet (fail)
        go_wp2_with fail
        exact ⟨⟨⟨n + nq, rfl⟩, j + 1, by omega, by go_num, HA'⟩, by simp [intOf]; omega⟩
    · go_wp2_with fail
      go_ret
      exact ⟨ret_bool (by rw [eq_comm, asc_iff]; exact fun i hi => HA.out i (by omega)), n, rfl⟩

set_option maxHeartbeats 1000000 in
theorem areScopes_any (B : Nat → Prop) (va : Value) (xs : List Int) (w : World) (ha : IntsAt B w va xs) :
    Calls Try.prog 89 #[va] w fun e w' => e = .returned (.bool (scopesB xs)) ∧ ∃ n, w' = w.drewN n := by
  have ha0 := ha
  obtain ⟨a, ca, rfl, hla, ha⟩ := ha
  unfold maxLen at hla
  cases h1 : ascB xs with
  | false =>
    go_enter Try.func89, Try.ntmps89
    go_wp2_with (go_at_call 57; refine (isAscending_any B _ xs _ ha0).mono ?_; rintro e w' ⟨rfl, n, rfl⟩)
    go_ret
    exact ⟨ret_bool (by unfold scopesB; rw [h1]; rfl), n, rfl⟩
  | true =>
    by_cases h2 : xs = []
    · subst h2
      go_enter Try.func89, Try.ntmps89
      go_wp2_with (go_at_call 57; refine (isAscending_any B _ [] _ ha0).mono ?_; rintro e w' ⟨rfl, n, rfl⟩)
      go_ret
      exact ⟨ret_bool rfl, n, rfl⟩
    · rcases ha with ha | ⟨ba, oa, rfl, _, ha⟩
      · exact absurd ha h2
      have hlt : 0 < xs.length := by cases xs with | nil => exact absurd rfl h2 | cons _ _ => simp
      have ga := ha 0 hlt
      rw [getD_get hlt, Nat.add_zero] at ga
      clear ha
      have hne : ((xs.length : Int) == 0) = false := by simp; omega
      have HX : Hid (scopesB xs = decide (0 ≤ xs[0])) := by
        show _ = _
        unfold scopesB; rw [h1, Bool.true_and, Bool.eq_iff_iff, List.all_eq_true, decide_eq_true_eq]
        constructor
        · intro h; exact of_decide_eq_true (h _ (List.getElem_mem hlt))
        · intro h x hx
          obtain ⟨i, hi, rfl⟩ := List.getElem_of_mem hx
          have hasc := (asc_iff xs).1 h1
          have : ∀ j (hj : j < xs.length), 0 ≤ xs[j] := by
            intro j
            induction j with
            | zero => intro _; exact h
            | succ j ih =>
              intro hj
              have a1 := ih (by omega)
              have a2 := hasc j hj
              rw [getD_get (by omega), getD_get hj] at a2
              omega
          exact decide_eq_true (this i hi)
      go_enter Try.func89, Try.ntmps89
      go_wp2_with (go_at_call 57; refine (isAscending_any B _ xs _ ha0).mono ?_; rintro e w' ⟨rfl, n, rfl⟩)
      go_ret
      exact ⟨ret_bool HX.out.symm, n, rfl⟩

end Go.Proofs.Ytkpamgabhlplfaa

namespace Go.Proofs.Ytkpamgabhlplfaa
open Go.RowKit Go.Siskin

theorem Try.infoInt : (Try.prog.info? 3).map (fun i => (i.zero, i.size, i.bytes)) = some (some (.int .i64 0), 1, 8) := by kernel_rfl
theorem Try.infoForm : (Try.prog.info? 30).map (fun i => (i.zero, i.size, i.bytes)) = some (some (.agg #[.int .i64 0, .string ⟨#[]⟩, .slice none 0 0, .int .i64 0, .slice none 0 0]), 5, 80) := by kernel_rfl

theorem set_step {cs : Array Value} {xs : List Int} {k : Nat} (hcs : cs.size = xs.length) (hlt : k < xs.length) {x : Int} (hx : xs.getD k 0 = x) (hg : ∀ j, j < k → cs[j]? = some (.int .i64 (xs.getD j 0))) :
    ∀ j, j < k + 1 → (cs.setIfInBounds k (.int .i64 x))[j]? = some (.int .i64 (xs.getD j 0)) := by
  intro j hj
  by_cases e : j = k
  · subst e; rw [Array.getElem?_setIfInBounds, if_pos rfl, if_pos (by omega), hx]
  · rw [Array.getElem?_setIfInBounds, if_neg (by omega)]; exact hg j (by omega)

set_option maxHeartbeats 1000000 in
theorem toIntS_any (B : Nat → Prop) (va : Value) (xs : List Int) (w : World) (ha : IntsAt B w va xs) (hB : ∀ b, B b → b < w.heap.size) (hn : xs.length ≤ 1048576) :
    Calls Try.prog 27 #[va] w fun e w' => ∃ v, e = .returned v ∧ IntsAt (Fresh w w') w' v xs ∧ Below w.heap.size w w' := by
  obtain ⟨a, ca, rfl, hla, ha⟩ := ha
  unfold maxLen at hla
  obtain ⟨i, hi, hz0, hz1, hz2⟩ := info_parts Try.infoInt
  have Hi := hid hi
  have Hz0 := hid hz0
  have Hz1 := hid hz1
  have Hz2 := hid hz2
  clear hi hz0 hz1 hz2
  go_enter Try.func27, Try.ntmps27
  go_wp2_with (at_make; refine wpList_make_new _ rfl _ _ 22 rfl 3 i (.int .i64 0) 1 Try.underlying22 Hi.out Hz0.out Hz1.out .i64 .i64 xs.length rfl rfl (by rw [Hz2.out]; omega) (by unfold maxLen; omega) ?_)
  go_loopw [4] (fun i wr => ∃ k : Nat, k ≤ xs.length ∧ i = .int .i64 k ∧ Hid (∃ cs : Array Value, Own wr w.heap.size 3 cs ∧ cs.size = xs.length ∧ (∀ j, j < k → cs[j]? = some (.int .i64 (xs.getD j 0))) ∧ Below w.heap.size w wr)) (fun i _ => xs.length - (intOf i).toNat)
  case atStart => exact ⟨0, Nat.zero_le _, rfl, _, own_new _ _ _, size_madeCells _ _, fun j hj => absurd hj (by omega), (Below.refl _ _).alloc (Nat.le_refl _) _⟩
  case round =>
    obtain ⟨k, hk, rfl, HA⟩ := hrel
    obtain ⟨cs, ho, hcs, hgot, hbel⟩ := HA.out
    have HO := hid ho
    have HG := hid hgot
    have HB := hid hbel
    by_cases hlt : k < xs.length
    · rcases ha with ha | ⟨ba, oa, rfl, hb, ha⟩
      · subst ha; simp at hlt
      have ga := (hbel.cell (p := ⟨ba, oa + k, none⟩) (hB ba hb)).trans (ha k hlt)
      rw [getD_get hlt] at ga
      have gc := ho.cell k
      rw [Array.getElem?_eq_getElem (by omega)] at gc
      have gf := ho.frozen k
      have HX : Hid (xs.getD k 0 = xs[k]) := getD_get hlt
      clear ha HA ho hgot hbel
      go_wp2_with fail
      exact ⟨⟨k + 1, by omega, by go_num, _, HO.out.set k _, by simp [hcs], set_step hcs hlt HX.out HG.out, HB.out.setCell (Nat.le_refl _) _⟩, by simp [intOf]; omega⟩
    · clear HA ho hgot hbel
      go_wp2_with fail
      go_ret
      refine ⟨_, rfl, ?_, HB.out⟩
      refine ⟨_, _, rfl, by unfold maxLen; omega, Or.inr ⟨w.heap.size, 0, rfl, ⟨Nat.le_refl _, HO.out.lt⟩, fun j hj => ?_⟩⟩
      rw [Nat.zero_add, HO.out.cell]
      exact HG.out j (by omega)

end Go.Proofs.Ytkpamgabhlplfaa

namespace Go.Proofs.Ytkpamgabhlplfaa
open Go.RowKit Go.Siskin

theorem szI_two (a b : Nat) (l : Int) : szI (a + b) l = if szI a l < 0 then -1 else szI b (szI a l) := by
  unfold szI
  by_cases h1 : l - a < 0
  · rw [if_pos h1, if_pos (by omega), if_pos (by omega)]
  · rw [if_neg h1, if_neg h1]
    by_cases h2 : l - a - b < 0
    · rw [if_pos h2, if_pos (by omega)]
    · rw [if_neg h2, if_neg (by omega)]; omega
theorem szI_ge (a : Nat) (l : Int) : -1 ≤ szI a l ∧ (0 ≤ l → szI a l ≤ l) := by
  unfold szI
  by_cases h1 : l - a < 0
  · rw [if_pos h1]; omega
  · rw [if_neg h1]; omega

theorem szI_neg (a : Nat) (l : Int) : szI a l < 0 ↔ l - a < 0 := by
  unfold szI
  by_cases h1 : l - a < 0
  · rw [if_pos h1]; omega
  · rw [if_neg h1]
theorem szI_minus (a : Nat) (l : Int) : szI a l = -1 ↔ l - a < 0 := by
  unfold szI
  by_cases h1 : l - a < 0
  · rw [if_pos h1]; omega
  · rw [if_neg h1]; omega
theorem szI_pos (a : Nat) (l : Int) (h : ¬ szI a l < 0) : szI a l = l - a := by
  unfold szI at h ⊢
  by_cases h1 : l - a < 0
  · rw [if_pos h1] at h; omega
  · rw [if_neg h1]

def SzForm (n : Nat) : Prop := ∀ f : Fm, f.sz ≤ n → ∀ (B : Nat → Prop) (w : World) (c0 c1 c2 c3 c4 : Value) (left : Int), FormAt B w f c0 c1 c2 c3 c4 → (∀ b, B b → b < w.heap.size) → 0 ≤ left → left ≤ 1048576 →
    Calls Try.prog 7 #[.agg #[c0, c1, c2, c3, c4], .int .i64 left] w fun e w' => e = .returned (.int .i64 (szI f.cost left)) ∧ Below w.heap.size w w'
def SzForms (n : Nat) : Prop := ∀ ks : List Fm, Fm.szs ks ≤ n → ∀ (B : Nat → Prop) (w : World) (v : Value) (left : Int), FormsAt B w v ks → (∀ b, B b → b < w.heap.size) → 0 ≤ left → left ≤ 1048576 →
    Calls Try.prog 25 #[v, .int .i64 left] w fun e w' => e = .returned (.int .i64 (szI (ks.length + Fm.costs ks) left)) ∧ Below w.heap.size w w'

set_option maxHeartbeats 1000000 in
theorem szForms_of (n : Nat) (ih : SzForm n) : SzForms n := by
  intro ks hks B w v left hv hB h0 h1
  obtain ⟨a, ca, rfl, hla, ha⟩ := hv
  unfold maxLen at hla
  have HI := hid ih
  clear ih
  by_cases hn : left - ks.length < 0
  · go_enter Try.func25, Try.ntmps25
    go_wp2_with fail
    go_ret
    exact ⟨ret_int (by unfold szI; rw [if_pos (by omega)]), Below.refl _ _⟩
  go_enter Try.func25, Try.ntmps25
  go_wp2_with fail
  go_loopw [1, 5] (fun l i wr => ∃ k : Nat, k ≤ ks.length ∧ i = .int .i64 k ∧ ∃ m : Int, l = .int .i64 m ∧ 0 ≤ m ∧ m ≤ 1048576 ∧ Hid (m = left - ks.length - Fm.costs (ks.take k)) ∧ Hid (Below w.heap.size w wr)) (fun _ i _ => ks.length - (intOf i).toNat)
  case atStart => exact ⟨0, Nat.zero_le _, rfl, _, rfl, by omega, by omega, by show _ = _; simp [Fm.costs], Below.refl _ _⟩
  case round =>
    obtain ⟨k, hk, rfl, m, rfl, hm0, hm1, HM, HB⟩ := hrel
    by_cases hlt : k < ks.length
    · rcases ha with ha | ⟨ba, oa, rfl, hb, ha⟩
      · subst ha; simp at hlt
      obtain ⟨c0, c1, c2, c3, c4, g0, g1, g2, g3, g4, hf⟩ := RowAt.get ks (RowAt.keep (HB.out.on hB) hb ks ha) k hlt
      have hsz := HB.out.size
      have hc := HI.out ks[k] (Nat.le_trans (Fm.szs_get ks k hlt) hks) B wr c0 c1 c2 c3 c4 m hf (fun b hb => by have := hB b hb; omega) hm0 hm1
      have HC := hid hc
      have HT := hid (Fm.costs_take ks k hlt)
      have HL := hid (Fm.costs_take_le ks (k + 1))
      clear hc ha hf HI
      by_cases hneg : szI ks[k].cost m < 0
      · go_wp2_with (go_at_call 7; refine HC.out.mono ?_; rintro e w' ⟨rfl, hw⟩)
        go_ret
        refine ⟨ret_int ?_, HB.out.trans (hw.mono (by omega))⟩
        have h1 := HM.out
        have h2 := HT.out
        have h3 := HL.out
        have h4 := (szI_neg _ _).1 hneg
        exact ((szI_minus _ _).2 (by omega)).symm
      · go_wp2_with (go_at_call 7; refine HC.out.mono ?_; rintro e w' ⟨rfl, hw⟩)
        have h1 := HM.out
        have h2 := HT.out
        have h4 := szI_pos _ _ (Int.not_lt.2 hneg)
        have h5 := (szI_ge ks[k].cost m).2 hm0
        exact ⟨⟨k + 1, by omega, by go_num, _, rfl, by omega, by omega, by show _ = _; rw [h4, h2]; omega, HB.out.trans (hw.mono (by omega))⟩, by simp [intOf]; omega⟩
    · go_wp2_with fail
      go_ret
      exact ⟨ret_int (by
        have h := HM.out
        rw [List.take_of_length_le (by omega)] at h
        unfold szI; rw [if_neg (by omega)]; omega), HB.out⟩

set_option maxHeartbeats 1000000 in
theorem szForm_of (n : Nat) (ih : SzForms n) : SzForm (n + 1) := by
  intro f hf B w c0 c1 c2 c3 c4 left hA hB h0 h1
  obtain ⟨rfl, rfl, ht, h2, rfl, h4⟩ := (formAt_iff _ _ _ _ _ _ _ _).1 hA
  obtain ⟨sa, sc, rfl, hsl, h2⟩ := h2
  clear h2
  have hsl0 := hsl.1
  have ht0 := ht
  unfold maxLen at ht
  have HC := hid (Fm.cost_eq f)
  have HS := hid (Fm.sz_kids f)
  by_cases k1 : left - f.text.size < 0
  · go_enter Try.func7, Try.ntmps7
    go_wp2_with fail
    go_ret
    have := HC.out
    exact ⟨ret_int ((szI_minus _ _).2 (by omega)).symm, (Below.refl _ _).alloc (Nat.le_refl _) _⟩
  by_cases k2 : szI f.scopes.length (left - f.text.size) < 0
  · go_enter Try.func7, Try.ntmps7
    go_wp2_with (go_at_call 24; refine (szIntS_any _ _ _ _ _ (by omega) (by omega) hsl0).mono ?_; rintro e w' ⟨rfl, hw⟩; rw [hw]; clear hw w')
    go_ret
    have := HC.out
    have := (szI_neg _ _).1 k2
    exact ⟨ret_int ((szI_minus _ _).2 (by omega)).symm, (Below.refl _ _).alloc (Nat.le_refl _) _⟩
  have HP := hid (szI_pos _ _ k2)
  have hle := (szI_ge f.scopes.length (left - f.text.size)).2 (by omega)
  have HK := hid (ih f.kids (by have := HS.out; omega) B (w.alloc (.cells #[.int .i64 f.sort, .string f.text, .slice sa f.scopes.length sc, .int .i64 f.frm, c4] 25)) c4 (szI f.scopes.length (left - f.text.size)) (h4.keep ((SameOn.refl _ _).alloc hB _)) (fun b hb => by have := hB b hb; simp; omega) (by omega) (by omega))
  clear ih h4 hA
  by_cases k3 : szI (f.kids.length + Fm.costs f.kids) (szI f.scopes.length (left - f.text.size)) < 0
  · go_enter Try.func7, Try.ntmps7
    go_wp2_with (first
      | (go_at_call 24; refine (szIntS_any _ _ _ _ _ (by omega) (by omega) hsl0).mono ?_; rintro e w' ⟨rfl, hw⟩; rw [hw]; clear hw w')
      | (go_at_call 25; refine HK.out.mono ?_; rintro e w' ⟨rfl, hw⟩))
    go_ret
    have h1 := HC.out
    have h2 := HP.out
    have h3 := (szI_neg _ _).1 k3
    exact ⟨ret_int ((szI_minus _ _).2 (by omega)).symm, ((Below.refl _ _).alloc (Nat.le_refl _) _).trans (hw.mono (by simp))⟩
  · go_enter Try.func7, Try.ntmps7
    go_wp2_with (first
      | (go_at_call 24; refine (szIntS_any _ _ _ _ _ (by omega) (by omega) hsl0).mono ?_; rintro e w' ⟨rfl, hw⟩; rw [hw]; clear hw w')
      | (go_at_call 25; refine HK.out.mono ?_; rintro e w' ⟨rfl, hw⟩))
    go_ret
    have h1 := HC.out
    have h2 := HP.out
    have h3 := szI_pos _ _ (Int.not_lt.2 k3)
    refine ⟨ret_int ?_, ((Below.refl _ _).alloc (Nat.le_refl _) _).trans (hw.mono (by simp))⟩
    rw [h3, h2, szI_pos _ _ (by rw [szI_neg]; omega)]; omega

theorem szForm_all : ∀ n, SzForm n ∧ SzForms n
  | 0 => by
    have h : SzForm 0 := fun f hf => by have := Fm.sz_kids f; omega
    exact ⟨h, szForms_of 0 h⟩
  | n + 1 => by
    have h := szForm_of n (szForm_all n).2
    exact ⟨h, szForms_of (n + 1) h⟩

/-- The law's own count of a form. -/
theorem szExpForm_any (f : Fm) (B : Nat → Prop) (w : World) (c0 c1 c2 c3 c4 : Value) (left : Int) (h : FormAt B w f c0 c1 c2 c3 c4) (hB : ∀ b, B b → b < w.heap.size) (h0 : 0 ≤ left) (h1 : left ≤ 1048576) :
    Calls Try.prog 7 #[.agg #[c0, c1, c2, c3, c4], .int .i64 left] w fun e w' => e = .returned (.int .i64 (szI f.cost left)) ∧ Below w.heap.size w w' :=
  (szForm_all f.sz).1 f (Nat.le_refl _) B w c0 c1 c2 c3 c4 left h hB h0 h1

end Go.Proofs.Ytkpamgabhlplfaa

namespace Go.Proofs.Ytkpamgabhlplfaa
open Go.RowKit Go.Siskin

theorem tl_beq (s : ByteArray) (l : List UInt8) : (s.toList == l) = (s.data.toList == l) := by rw [Go.ByteArray.toList_eq]
theorem tail_take (s : ByteArray) : List.take (s.size - 1) s.data.toList.tail = s.data.toList.drop 1 := by
  rw [List.drop_one, List.take_of_length_le (by simp)]

set_option maxHeartbeats 400000 in
theorem l1AtomOk_string (s : ByteArray) (w : World) (hs : s.size ≤ maxLen) (h1 : (s.toList == [35, 116]) = false) (h2 : (s.toList == [35, 102]) = false) (h3 : digitsB s.data.toList = false) (h4 : Hid (minusB s.data.toList = false))
    (h5 : 1 < s.size) (h6 : ((s[0]'(by omega)).toNat : Int) = 34) (h7 : ((s[s.size - 1]'(by omega)).toNat : Int) = 34) :
    Calls Try.prog 66 #[.string s] w fun e w' => e = .returned (.bool (atomB s.data.toList)) ∧ w' = w := by
  have hs0 := hs
  unfold maxLen at hs
  have hA : Hid (atomB s.data.toList = innersB ((s.data.toList.take (s.size - 1)).drop 1)) := by
    show _ = _
    unfold atomB
    rw [← tl_beq, ← tl_beq, h1, h2, h3, h4.out, string_parts s (by omega), decide_eq_true h6, decide_eq_true h7]
    rfl
  clear h4
  go_enter Try.func66, Try.ntmps66
  go_wp2_with (go_at_call 87; refine (l1Digits_any _ _ hs0).mono ?_; rintro e w' ⟨rfl, rfl⟩)
  go_loop [3] (fun i => ∃ k : Nat, 1 ≤ k ∧ k ≤ s.size - 1 ∧ i = .int .i64 k ∧ Hid (((s.data.toList.take k).drop 1).all innerB = true)) (fun i => s.size - (intOf i).toNat)
  case atStart => exact ⟨1, Nat.le_refl _, by omega, rfl, by show _ = _; rw [List.drop_of_length_le (by simp; omega)]; rfl⟩
  case round =>
    obtain ⟨k, hk1, hk, rfl, HA⟩ := hrel
    by_cases hlt : k < s.size - 1
    · have hlt' : k < s.size := by omega
      have bad : Hid (((s[k].toNat : Int) = 34 ∨ (s[k].toNat : Int) < 32 ∨ 126 < (s[k].toNat : Int)) → false = atomB s.data.toList) := by
        intro hb
        rw [hA.out]; exact (all_mid_false s k (s.size - 1) hk1 hlt (by omega) innerB (inner_no _ hb)).symm
      by_cases a1 : (s[k].toNat : Int) = 34
      · go_wp2_with fail
        go_ret
        exact ⟨ret_bool (bad.out (Or.inl a1)), rfl⟩
      by_cases a2 : (s[k].toNat : Int) < 32
      · go_wp2_with fail
        go_ret
        exact ⟨ret_bool (bad.out (Or.inr (Or.inl a2))), rfl⟩
      by_cases a3 : 126 < (s[k].toNat : Int)
      · go_wp2_with fail
        go_ret
        exact ⟨ret_bool (bad.out (Or.inr (Or.inr a3))), rfl⟩
      have HI : Hid (innerB s[k] = true) := inner_yes _ a1 a2 a3
      go_wp2_with fail
      go_round
      case rel => exact ⟨k + 1, by omega, by omega, by go_num, by show _ = _; rw [all_mid_succ s k hk1 hlt', HA.out, HI.out]; rfl⟩
      case measure => simp [intOf]; omega
    · go_wp2_with fail
      go_ret
      have e : k = s.size - 1 := by omega
      exact ⟨ret_bool (by rw [hA.out, ← e]; exact HA.out.symm), rfl⟩

set_option maxHeartbeats 4000000 in
theorem l1AtomOk_any (s : ByteArray) (w : World) (hs : s.size ≤ maxLen) :
    Calls Try.prog 66 #[.string s] w fun e w' => e = .returned (.bool (atomB s.data.toList)) ∧ w' = w := by
  have hs0 := hs
  have hs1 : (s.extract 1 s.size).size ≤ maxLen := by simp; omega
  have HT : Hid (atomB s.data.toList = (s.toList == [35, 116] || s.toList == [35, 102] || digitsB s.data.toList || minusB s.data.toList || stringB s.data.toList)) := by
    show _ = _
    rw [tl_beq, tl_beq]; rfl
  unfold maxLen at hs
  cases h1 : (s.toList == [35, 116]) with
  | true =>
    go_enter Try.func66, Try.ntmps66
    go_wp2_with fail
    go_ret
    exact ⟨ret_bool (by rw [HT.out, h1]; rfl), rfl⟩
  | false =>
  cases h2 : (s.toList == [35, 102]) with
  | true =>
    go_enter Try.func66, Try.ntmps66
    go_wp2_with fail
    go_ret
    exact ⟨ret_bool (by rw [HT.out, h2]; simp), rfl⟩
  | false =>
  cases h3 : digitsB s.data.toList with
  | true =>
    go_enter Try.func66, Try.ntmps66
    go_wp2_with (go_at_call 87; refine (l1Digits_any _ _ hs0).mono ?_; rintro e w' ⟨rfl, rfl⟩)
    go_ret
    exact ⟨ret_bool (by rw [HT.out, h3]; simp), rfl⟩
  | false =>
  by_cases h5 : 1 < s.size
  · by_cases h6 : ((s[0]'(by omega)).toNat : Int) = 45
    · have HM := minus_int s h5
      rw [decide_eq_true h6, Bool.true_and] at HM
      have HS : Hid (stringB s.data.toList = false) := by
        show _ = _
        rw [string_parts s h5, decide_eq_false (by omega)]; rfl
      cases h7 : digitsB (List.take (s.size - 1) s.data.toList.tail) with
      | true =>
        rw [← tail_take, h7] at HM
        have HM' : Hid (minusB s.data.toList = true) := HM
        clear HM
        go_enter Try.func66, Try.ntmps66
        go_wp2_with (go_at_call 87; refine (l1Digits_any _ _ (by first | exact hs0 | exact hs1)).mono ?_; rintro e w' ⟨rfl, rfl⟩)
        go_ret
        exact ⟨ret_bool (by rw [HT.out, HM'.out]; simp), rfl⟩
      | false =>
        rw [← tail_take, h7] at HM
        have HM' : Hid (minusB s.data.toList = false) := HM
        clear HM
        go_enter Try.func66, Try.ntmps66
        go_wp2_with (go_at_call 87; refine (l1Digits_any _ _ (by first | exact hs0 | exact hs1)).mono ?_; rintro e w' ⟨rfl, rfl⟩)
        go_ret
        exact ⟨ret_bool (by rw [HT.out, HM'.out, HS.out, h1, h2, h3]; rfl), rfl⟩
    · have HM : Hid (minusB s.data.toList = false) := by
        show _ = _
        rw [minus_int s h5, decide_eq_false h6]; rfl
      by_cases h7 : ((s[0]'(by omega)).toNat : Int) = 34
      · by_cases h8 : ((s[s.size - 1]'(by omega)).toNat : Int) = 34
        · exact l1AtomOk_string s w hs0 h1 h2 h3 HM h5 h7 h8
        · have HS : Hid (stringB s.data.toList = false) := by
            show _ = _
            rw [string_parts s h5, decide_eq_false h8]; simp
          have h9 : (((s[s.size - 1]'(by omega)).toNat : Int) != 34) = true := by simpa using h8
          go_enter Try.func66, Try.ntmps66
          go_wp2_with (go_at_call 87; refine (l1Digits_any _ _ hs0).mono ?_; rintro e w' ⟨rfl, rfl⟩)
          go_ret
          exact ⟨ret_bool (by rw [HT.out, HM.out, HS.out, h1, h2, h3]; rfl), rfl⟩
      · have HS : Hid (stringB s.data.toList = false) := by
          show _ = _
          rw [string_parts s h5, decide_eq_false h7]; rfl
        go_enter Try.func66, Try.ntmps66
        go_wp2_with (go_at_call 87; refine (l1Digits_any _ _ hs0).mono ?_; rintro e w' ⟨rfl, rfl⟩)
        go_ret
        exact ⟨ret_bool (by rw [HT.out, HM.out, HS.out, h1, h2, h3]; rfl), rfl⟩
  · have HM : Hid (minusB s.data.toList = false) := minus_short s h5
    have HS : Hid (stringB s.data.toList = false) := string_short s (by omega)
    go_enter Try.func66, Try.ntmps66
    go_wp2_with (go_at_call 87; refine (l1Digits_any _ _ hs0).mono ?_; rintro e w' ⟨rfl, rfl⟩)
    go_ret
    exact ⟨ret_bool (by rw [HT.out, HM.out, HS.out, h1, h2, h3]; rfl), rfl⟩
end Go.Proofs.Ytkpamgabhlplfaa

namespace Go.Proofs.Ytkpamgabhlplfaa
open Go.RowKit Go.Siskin

set_option maxHeartbeats 400000 in
theorem isDigits_any (s : ByteArray) (w : World) (hs : s.size ≤ maxLen) :
    Calls Try.prog 111 #[.string s] w fun e w' => e = .returned (.bool (digitsB s.data.toList)) ∧ w' = w := by
  unfold maxLen at hs
  go_enter Try.func111, Try.ntmps111
  go_wp2_with fail
  go_loop [6] (fun i => ∃ k : Nat, k ≤ s.size ∧ i = .int .i64 k ∧ Hid ((s.data.toList.take k).all digitB = true)) (fun i => s.size - (intOf i).toNat)
  case atStart => exact ⟨0, Nat.zero_le _, rfl, rfl⟩
  case round =>
    obtain ⟨k, hk, rfl, HA⟩ := hrel
    by_cases hlt : k < s.size
    · by_cases a1 : (s[k].toNat : Int) < 48
      · go_wp2_with fail
        go_ret
        exact ⟨ret_bool (digits_bad s k hlt (by omega)).symm, rfl⟩
      by_cases a2 : 57 < (s[k].toNat : Int)
      · go_wp2_with fail
        go_ret
        exact ⟨ret_bool (digits_bad s k hlt (by omega)).symm, rfl⟩
      have HI : Hid (digitB s[k] = true) := digit_yes _ a1 a2
      go_wp2_with fail
      go_round
      case rel => exact ⟨k + 1, by omega, by go_num, by show _ = _; rw [all_take_succ s k hlt, HA.out, HI.out]; rfl⟩
      case measure => simp [intOf]; omega
    · go_wp2_with fail
      go_ret
      exact ⟨ret_bool (by rw [digits_end' s k hlt HA.out, Go.ByteArray.toList_eq]), rfl⟩

def fromC (least : Nat) (c : UInt8) : Bool := decide (least ≤ c.toNat) && decide (c.toNat ≤ 126)
set_option maxHeartbeats 400000 in
theorem hasBytesFrom_any (n : Nat) (s : ByteArray) (w : World) (hs : s.size ≤ maxLen) :
    Calls Try.prog 109 #[.int .u8 n, .string s] w fun e w' => e = .returned (.bool (fromB n s.data.toList)) ∧ w' = w := by
  unfold maxLen at hs
  go_enter Try.func109, Try.ntmps109
  go_wp2_with fail
  go_loop [8] (fun i => ∃ k : Nat, k ≤ s.size ∧ i = .int .i64 k ∧ Hid ((s.data.toList.take k).all (fromC n) = true)) (fun i => s.size - (intOf i).toNat)
  case atStart => exact ⟨0, Nat.zero_le _, rfl, rfl⟩
  case round =>
    obtain ⟨k, hk, rfl, HA⟩ := hrel
    by_cases hlt : k < s.size
    · have bad : Hid (((s[k].toNat : Int) < n ∨ 126 < (s[k].toNat : Int)) → false = fromB n s.data.toList) := by
        intro hb
        exact (all_false s k hlt (fromC n) (by unfold fromC; simp; omega)).symm
      by_cases a1 : (s[k].toNat : Int) < n
      · go_wp2_with fail
        go_ret
        exact ⟨ret_bool (bad.out (by omega)), rfl⟩
      by_cases a2 : 126 < (s[k].toNat : Int)
      · go_wp2_with fail
        go_ret
        exact ⟨ret_bool (bad.out (by omega)), rfl⟩
      have HI : Hid (fromC n s[k] = true) := by show _ = _; unfold fromC; simp; omega
      go_wp2_with fail
      go_round
      case rel => exact ⟨k + 1, by omega, by go_num, by show _ = _; rw [all_take_succ s k hlt, HA.out, HI.out]; rfl⟩
      case measure => simp [intOf]; omega
    · go_wp2_with fail
      go_ret
      exact ⟨ret_bool (all_true s k hlt (fromC n) HA.out).symm, rfl⟩

end Go.Proofs.Ytkpamgabhlplfaa
