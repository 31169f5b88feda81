/-
  The law's szStringS, szExpCore and szExpCoreS take from a number what a part costs. Condition: the part lies in memory as CoreAt says.
-/
import Derived.Test.YtghgilkdmdppcaaF1
import Derived.Test.YtghgilkdmdppcaaQ2
namespace Go.Proofs.Ytghgilkdmdppcaa
open Go.RowKit Go.Siskin

set_option maxHeartbeats 1000000 in
theorem szStringS_any (B : Nat → Prop) (va : Value) (xs : List ByteArray) (left : Int) (w : World) (ha : StrsAt B w va xs) (h0 : 0 ≤ left) (h1 : left ≤ 1048576) :
    Calls Try.prog 16 #[va, .int .i64 left] w fun e w' => e = .returned (.int .i64 (szI (strc xs) left)) ∧ w' = w := by
  obtain ⟨a, ca, rfl, hla, hmx, ha⟩ := ha
  obtain ⟨hla, -⟩ := hla
  unfold maxLen at hla
  have HS := hid (show strc xs = xs.length + (xs.map ByteArray.size).sum from rfl)
  by_cases hn : left - xs.length < 0
  · go_enter Try.func16, Try.ntmps16
    go_wp2_with fail
    go_ret
    exact ⟨ret_int ((szI_minus _ _).2 (by have := HS.out; omega)).symm, rfl⟩
  go_enter Try.func16, Try.ntmps16
  go_wp2_with fail
  go_loopw [1, 5] (fun l i wr => Hid (wr = w) ∧ ∃ k : Nat, k ≤ xs.length ∧ i = .int .i64 k ∧ ∃ m : Int, l = .int .i64 m ∧ 0 ≤ m ∧ m ≤ 1048576 ∧ Hid (m = left - xs.length - ((xs.take k).map ByteArray.size).sum)) (fun _ i _ => xs.length - (intOf i).toNat)
  case atStart => exact ⟨rfl, 0, Nat.zero_le _, rfl, _, rfl, by omega, by omega, by show _ = _; simp⟩
  case round =>
    obtain ⟨HW, k, hk, rfl, m, rfl, hm0, hm1, HM⟩ := hrel
    by_cases hlt : k < xs.length
    · rcases ha with ha | ⟨ba, oa, rfl, hb, ha⟩
      · subst ha; simp at hlt
      have hc := ha k hlt
      rw [← HW.out] at hc
      have hx := hmx k hlt
      unfold maxLen at hx
      have HT := hid (sums_take xs k hlt)
      have HL := hid (sums_take_le xs (k + 1))
      clear ha hmx
      by_cases hneg : m - xs[k].size < 0
      · go_wp2_with fail
        go_ret
        refine ⟨ret_int ?_, HW.out⟩
        have h1 := HM.out
        have h2 := HT.out
        have h3 := HL.out
        exact ((szI_minus _ _).2 (by have := HS.out; omega)).symm
      · go_wp2_with fail
        have h1 := HM.out
        have h2 := HT.out
        exact ⟨⟨HW, k + 1, by omega, by go_num, _, rfl, by omega, by omega, by show _ = _; rw [h2]; omega⟩, by simp [intOf]; omega⟩
    · go_wp2_with fail
      go_ret
      exact ⟨ret_int (by
        have h := HM.out
        rw [List.take_of_length_le (by omega)] at h
        rw [szI_pos _ _ (by rw [szI_neg]; have := HS.out; omega)]; have := HS.out; omega), HW.out⟩

def SzCore (n : Nat) : Prop := ∀ f : Cm, f.sz ≤ n → ∀ (B : Nat → Prop) (w : World) (c0 c1 c2 c3 c4 : Value) (left : Int), CoreAt B w f c0 c1 c2 c3 c4 → (∀ b, B b → b < w.heap.size) → 0 ≤ left → left ≤ 1048576 →
    Calls Try.prog 9 #[.agg #[c0, c1, c2, c3, c4], .int .i64 left] w fun e w' => e = .returned (.int .i64 (szI f.cost left)) ∧ Below w.heap.size w w'
def SzCores (n : Nat) : Prop := ∀ ks : List Cm, Cm.szs ks ≤ n → ∀ (B : Nat → Prop) (w : World) (v : Value) (left : Int), CoresAt B w v ks → (∀ b, B b → b < w.heap.size) → 0 ≤ left → left ≤ 1048576 →
    Calls Try.prog 4 #[v, .int .i64 left] w fun e w' => e = .returned (.int .i64 (szI (ks.length + Cm.costs ks) left)) ∧ Below w.heap.size w w'

set_option maxHeartbeats 1000000 in
theorem szCores_of (n : Nat) (ih : SzCore n) : SzCores n := by
  intro ks hks B w v left hv hB h0 h1
  obtain ⟨a, ca, rfl, hla, ha⟩ := hv
  unfold maxLen at hla
  have HI := hid ih
  clear ih
  by_cases hn : left - ks.length < 0
  · go_enter Try.func4, Try.ntmps4
    go_wp2_with fail
    go_ret
    exact ⟨ret_int (by unfold szI; rw [if_pos (by omega)]), Below.refl _ _⟩
  go_enter Try.func4, Try.ntmps4
  go_wp2_with fail
  go_loopw [1, 5] (fun l i wr => ∃ k : Nat, k ≤ ks.length ∧ i = .int .i64 k ∧ ∃ m : Int, l = .int .i64 m ∧ 0 ≤ m ∧ m ≤ 1048576 ∧ Hid (m = left - ks.length - Cm.costs (ks.take k)) ∧ Hid (Below w.heap.size w wr)) (fun _ i _ => ks.length - (intOf i).toNat)
  case atStart => exact ⟨0, Nat.zero_le _, rfl, _, rfl, by omega, by omega, by show _ = _; simp [Cm.costs], Below.refl _ _⟩
  case round =>
    obtain ⟨k, hk, rfl, m, rfl, hm0, hm1, HM, HB⟩ := hrel
    by_cases hlt : k < ks.length
    · rcases ha with ha | ⟨ba, oa, rfl, hb, ha⟩
      · subst ha; simp at hlt
      obtain ⟨c0, c1, c2, c3, c4, g0, g1, g2, g3, g4, hf⟩ := CRowAt.get ks (CRowAt.keep (HB.out.on hB) hb ks ha) k hlt
      have hsz := HB.out.size
      have hc := HI.out ks[k] (Nat.le_trans (Cm.szs_get ks k hlt) hks) B wr c0 c1 c2 c3 c4 m hf (fun b hb => by have := hB b hb; omega) hm0 hm1
      have HC := hid hc
      have HT := hid (Cm.costs_take ks k hlt)
      have HL := hid (Cm.costs_take_le ks (k + 1))
      clear hc ha hf HI
      by_cases hneg : szI ks[k].cost m < 0
      · go_wp2_with (go_at_call 9; refine HC.out.mono ?_; rintro e w' ⟨rfl, hw⟩)
        go_ret
        refine ⟨ret_int ?_, HB.out.trans (hw.mono (by omega))⟩
        have h1 := HM.out
        have h2 := HT.out
        have h3 := HL.out
        have h4 := (szI_neg _ _).1 hneg
        exact ((szI_minus _ _).2 (by omega)).symm
      · go_wp2_with (go_at_call 9; refine HC.out.mono ?_; rintro e w' ⟨rfl, hw⟩)
        have h1 := HM.out
        have h2 := HT.out
        have h4 := szI_pos _ _ (Int.not_lt.2 hneg)
        have h5 := (szI_ge ks[k].cost m).2 hm0
        exact ⟨⟨k + 1, by omega, by go_num, _, rfl, by omega, by omega, by show _ = _; rw [h4, h2]; omega, HB.out.trans (hw.mono (by omega))⟩, by simp [intOf]; omega⟩
    · go_wp2_with fail
      go_ret
      exact ⟨ret_int (by
        have h := HM.out
        rw [List.take_of_length_le (by omega)] at h
        unfold szI; rw [if_neg (by omega)]; omega), HB.out⟩

set_option maxHeartbeats 1000000 in
theorem szCore_of (n : Nat) (ih : SzCores n) : SzCore (n + 1) := by
  intro f hf B w c0 c1 c2 c3 c4 left hA hB h0 h1
  obtain ⟨rfl, rfl, ht, rfl, h3, h4⟩ := (coreAt_iff _ _ _ _ _ _ _ _).1 hA
  have hst : ∀ t, Hid (StrsAt B (w.alloc (.cells #[.int .i64 f.sort, .string f.text, .bool f.rest, c3, c4] t)) c3 f.names) := fun t => h3.keep ((SameOn.refl _ _).alloc hB _)
  have H3 := hid (hst 31)
  obtain ⟨sa, sc, rfl, -⟩ := h3
  clear hst
  have ht0 := ht
  unfold maxLen at ht
  have HC := hid (Cm.cost_eq f)
  have HS := hid (Cm.sz_kids f)
  by_cases k1 : left - f.text.size < 0
  · go_enter Try.func9, Try.ntmps9
    go_wp2_with fail
    go_ret
    have := HC.out
    exact ⟨ret_int ((szI_minus _ _).2 (by omega)).symm, (Below.refl _ _).alloc (Nat.le_refl _) _⟩
  by_cases k2 : szI (strc f.names) (left - f.text.size) < 0
  · go_enter Try.func9, Try.ntmps9
    go_wp2_with (go_at_call 16; refine (szStringS_any B _ f.names _ _ H3.out.out (by omega) (by omega)).mono ?_; rintro e w' ⟨rfl, hw⟩; rw [hw]; clear hw w')
    go_ret
    have := HC.out
    have := (szI_neg _ _).1 k2
    exact ⟨ret_int ((szI_minus _ _).2 (by omega)).symm, (Below.refl _ _).alloc (Nat.le_refl _) _⟩
  have HP := hid (szI_pos _ _ k2)
  have hle := (szI_ge (strc f.names) (left - f.text.size)).2 (by omega)
  have HK := hid (ih f.kids (by have := HS.out; omega) B (w.alloc (.cells #[.int .i64 f.sort, .string f.text, .bool f.rest, .slice sa f.names.length sc, c4] 31)) c4 (szI (strc f.names) (left - f.text.size)) (h4.keep ((SameOn.refl _ _).alloc hB _)) (fun b hb => by have := hB b hb; simp; omega) (by omega) (by omega))
  clear ih h4 hA
  by_cases k3 : szI (f.kids.length + Cm.costs f.kids) (szI (strc f.names) (left - f.text.size)) < 0
  · go_enter Try.func9, Try.ntmps9
    go_wp2_with (first
      | (go_at_call 16; refine (szStringS_any B _ f.names _ _ H3.out.out (by omega) (by omega)).mono ?_; rintro e w' ⟨rfl, hw⟩; rw [hw]; clear hw w')
      | (go_at_call 4; refine HK.out.mono ?_; rintro e w' ⟨rfl, hw⟩))
    go_ret
    have h1 := HC.out
    have h2 := HP.out
    have h3 := (szI_neg _ _).1 k3
    exact ⟨ret_int ((szI_minus _ _).2 (by omega)).symm, ((Below.refl _ _).alloc (Nat.le_refl _) _).trans (hw.mono (by simp))⟩
  · go_enter Try.func9, Try.ntmps9
    go_wp2_with (first
      | (go_at_call 16; refine (szStringS_any B _ f.names _ _ H3.out.out (by omega) (by omega)).mono ?_; rintro e w' ⟨rfl, hw⟩; rw [hw]; clear hw w')
      | (go_at_call 4; refine HK.out.mono ?_; rintro e w' ⟨rfl, hw⟩))
    go_ret
    have h1 := HC.out
    have h2 := HP.out
    have h3 := szI_pos _ _ (Int.not_lt.2 k3)
    refine ⟨ret_int ?_, ((Below.refl _ _).alloc (Nat.le_refl _) _).trans (hw.mono (by simp))⟩
    rw [h3, h2, szI_pos _ _ (by rw [szI_neg]; omega)]; omega

theorem szCore_all : ∀ n, SzCore n ∧ SzCores n
  | 0 => by
    have h : SzCore 0 := fun f hf => by have := Cm.sz_kids f; omega
    exact ⟨h, szCores_of 0 h⟩
  | n + 1 => by
    have h := szCore_of n (szCore_all n).2
    exact ⟨h, szCores_of (n + 1) h⟩

/-- The law's own count of a form. -/
theorem szExpCore_any (f : Cm) (B : Nat → Prop) (w : World) (c0 c1 c2 c3 c4 : Value) (left : Int) (h : CoreAt B w f c0 c1 c2 c3 c4) (hB : ∀ b, B b → b < w.heap.size) (h0 : 0 ≤ left) (h1 : left ≤ 1048576) :
    Calls Try.prog 9 #[.agg #[c0, c1, c2, c3, c4], .int .i64 left] w fun e w' => e = .returned (.int .i64 (szI f.cost left)) ∧ Below w.heap.size w w' :=
  (szCore_all f.sz).1 f (Nat.le_refl _) B w c0 c1 c2 c3 c4 left h hB h0 h1

end Go.Proofs.Ytghgilkdmdppcaa
