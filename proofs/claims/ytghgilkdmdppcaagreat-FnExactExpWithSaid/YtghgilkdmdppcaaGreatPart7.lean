/-
  The law's szExpForm and szExpFormS take from a number what a form costs. Condition: the form lies in memory as FormAt says.
  The model's l1AtomOk returns, at every text, whether it is an atom; the world is as it was. Condition: the text's size is one that a Go string can have.
  The program's isDigits and hasBytesFrom return what the plain functions say of the text; the world is as it was. Condition: the text's size is one that a Go string can have.
-/
import Derived.Test.YtghgilkdmdppcaaGreatPart6
import Derived.Test.YtghgilkdmdppcaaGreatPart1
import Derived.Lib.Strings
namespace Go.Proofs.YtghgilkdmdppcaaGreat
open Go.RowKit Go.Siskin

theorem szI_two (a b : Nat) (l : Int) : szI (a + b) l = if szI a l < 0 then -1 else szI b (szI a l) := by
  unfold szI
  by_cases h1 : l - a < 0
  · rw [if_pos h1, if_pos (by omega), if_pos (by omega)]
  · rw [if_neg h1, if_neg h1]
    by_cases h2 : l - a - b < 0
    · rw [if_pos h2, if_pos (by omega)]
    · rw [if_neg h2, if_neg (by omega)]; omega
theorem szI_ge (a : Nat) (l : Int) : -1 ≤ szI a l ∧ (0 ≤ l → szI a l ≤ l) := by
  unfold szI
  by_cases h1 : l - a < 0
  · rw [if_pos h1]; omega
  · rw [if_neg h1]; omega

theorem szI_neg (a : Nat) (l : Int) : szI a l < 0 ↔ l - a < 0 := by
  unfold szI
  by_cases h1 : l - a < 0
  · rw [if_pos h1]; omega
  · rw [if_neg h1]
theorem szI_minus (a : Nat) (l : Int) : szI a l = -1 ↔ l - a < 0 := by
  unfold szI
  by_cases h1 : l - a < 0
  · rw [if_pos h1]; omega
  · rw [if_neg h1]; omega
theorem szI_pos (a : Nat) (l : Int) (h : ¬ szI a l < 0) : szI a l = l - a := by
  unfold szI at h ⊢
  by_cases h1 : l - a < 0
  · rw [if_pos h1] at h; omega
  · rw [if_neg h1]

def SzForm (n : Nat) : Prop := ∀ f : Fm, f.sz ≤ n → ∀ (B : Nat → Prop) (w : World) (c0 c1 c2 c3 c4 : Value) (left : Int), FormAt B w f c0 c1 c2 c3 c4 → (∀ b, B b → b < w.heap.size) → 0 ≤ left → left ≤ 1048576 →
    Calls Tryz.prog 5 #[.agg #[c0, c1, c2, c3, c4], .int .i64 left] w fun e w' => e = .returned (.int .i64 (szI f.cost left)) ∧ Below w.heap.size w w'
def SzForms (n : Nat) : Prop := ∀ ks : List Fm, Fm.szs ks ≤ n → ∀ (B : Nat → Prop) (w : World) (v : Value) (left : Int), FormsAt B w v ks → (∀ b, B b → b < w.heap.size) → 0 ≤ left → left ≤ 1048576 →
    Calls Tryz.prog 15 #[v, .int .i64 left] w fun e w' => e = .returned (.int .i64 (szI (ks.length + Fm.costs ks) left)) ∧ Below w.heap.size w w'

set_option maxHeartbeats 1000000 in
theorem szForms_of (n : Nat) (ih : SzForm n) : SzForms n := by
  intro ks hks B w v left hv hB h0 h1
  obtain ⟨a, ca, rfl, hla, ha⟩ := hv
  unfold maxLen at hla
  have HI := hid ih
  clear ih
  by_cases hn : left - ks.length < 0
  · go_enter Tryz.func15, Tryz.ntmps15
    go_wp2_with fail
    go_ret
    exact ⟨ret_int (by unfold szI; rw [if_pos (by omega)]), Below.refl _ _⟩
  go_enter Tryz.func15, Tryz.ntmps15
  go_wp2_with fail
  go_loopw [1, 5] (fun l i wr => ∃ k : Nat, k ≤ ks.length ∧ i = .int .i64 k ∧ ∃ m : Int, l = .int .i64 m ∧ 0 ≤ m ∧ m ≤ 1048576 ∧ Hid (m = left - ks.length - Fm.costs (ks.take k)) ∧ Hid (Below w.heap.size w wr)) (fun _ i _ => ks.length - (intOf i).toNat)
  case atStart => exact ⟨0, Nat.zero_le _, rfl, _, rfl, by omega, by omega, by show _ = _; simp [Fm.costs], Below.refl _ _⟩
  case round =>
    obtain ⟨k, hk, rfl, m, rfl, hm0, hm1, HM, HB⟩ := hrel
    by_cases hlt : k < ks.length
    · rcases ha with ha | ⟨ba, oa, rfl, hb, ha⟩
      · subst ha; simp at hlt
      obtain ⟨c0, c1, c2, c3, c4, g0, g1, g2, g3, g4, hf⟩ := RowAt.get ks (RowAt.keep (HB.out.on hB) hb ks ha) k hlt
      have hsz := HB.out.size
      have hc := HI.out ks[k] (Nat.le_trans (Fm.szs_get ks k hlt) hks) B wr c0 c1 c2 c3 c4 m hf (fun b hb => by have := hB b hb; omega) hm0 hm1
      have HC := hid hc
      have HT := hid (Fm.costs_take ks k hlt)
      have HL := hid (Fm.costs_take_le ks (k + 1))
      clear hc ha hf HI
      by_cases hneg : szI ks[k].cost m < 0
      · go_wp2_with (go_at_call 5; refine HC.out.mono ?_; rintro e w' ⟨rfl, hw⟩)
        go_ret
        refine ⟨ret_int ?_, HB.out.trans (hw.mono (by omega))⟩
        have h1 := HM.out
        have h2 := HT.out
        have h3 := HL.out
        have h4 := (szI_neg _ _).1 hneg
        exact ((szI_minus _ _).2 (by omega)).symm
      · go_wp2_with (go_at_call 5; refine HC.out.mono ?_; rintro e w' ⟨rfl, hw⟩)
        have h1 := HM.out
        have h2 := HT.out
        have h4 := szI_pos _ _ (Int.not_lt.2 hneg)
        have h5 := (szI_ge ks[k].cost m).2 hm0
        exact ⟨⟨k + 1, by omega, by go_num, _, rfl, by omega, by omega, by show _ = _; rw [h4, h2]; omega, HB.out.trans (hw.mono (by omega))⟩, by simp [intOf]; omega⟩
    · go_wp2_with fail
      go_ret
      exact ⟨ret_int (by
        have h := HM.out
        rw [List.take_of_length_le (by omega)] at h
        unfold szI; rw [if_neg (by omega)]; omega), HB.out⟩

set_option maxHeartbeats 1000000 in
theorem szForm_of (n : Nat) (ih : SzForms n) : SzForm (n + 1) := by
  intro f hf B w c0 c1 c2 c3 c4 left hA hB h0 h1
  obtain ⟨rfl, rfl, ht, h2, rfl, h4⟩ := (formAt_iff _ _ _ _ _ _ _ _).1 hA
  obtain ⟨sa, sc, rfl, hsl, h2⟩ := h2
  clear h2
  have hsl0 := hsl.1
  have ht0 := ht
  unfold maxLen at ht
  have HC := hid (Fm.cost_eq f)
  have HS := hid (Fm.sz_kids f)
  by_cases k1 : left - f.text.size < 0
  · go_enter Tryz.func5, Tryz.ntmps5
    go_wp2_with fail
    go_ret
    have := HC.out
    exact ⟨ret_int ((szI_minus _ _).2 (by omega)).symm, (Below.refl _ _).alloc (Nat.le_refl _) _⟩
  by_cases k2 : szI f.scopes.length (left - f.text.size) < 0
  · go_enter Tryz.func5, Tryz.ntmps5
    go_wp2_with (go_at_call 14; refine (szIntS_any _ _ _ _ _ (by omega) (by omega) hsl0).mono ?_; rintro e w' ⟨rfl, hw⟩; rw [hw]; clear hw w')
    go_ret
    have := HC.out
    have := (szI_neg _ _).1 k2
    exact ⟨ret_int ((szI_minus _ _).2 (by omega)).symm, (Below.refl _ _).alloc (Nat.le_refl _) _⟩
  have HP := hid (szI_pos _ _ k2)
  have hle := (szI_ge f.scopes.length (left - f.text.size)).2 (by omega)
  have HK := hid (ih f.kids (by have := HS.out; omega) B (w.alloc (.cells #[.int .i64 f.sort, .string f.text, .slice sa f.scopes.length sc, .int .i64 f.frm, c4] 25)) c4 (szI f.scopes.length (left - f.text.size)) (h4.keep ((SameOn.refl _ _).alloc hB _)) (fun b hb => by have := hB b hb; simp; omega) (by omega) (by omega))
  clear ih h4 hA
  by_cases k3 : szI (f.kids.length + Fm.costs f.kids) (szI f.scopes.length (left - f.text.size)) < 0
  · go_enter Tryz.func5, Tryz.ntmps5
    go_wp2_with (first
      | (go_at_call 14; refine (szIntS_any _ _ _ _ _ (by omega) (by omega) hsl0).mono ?_; rintro e w' ⟨rfl, hw⟩; rw [hw]; clear hw w')
      | (go_at_call 15; refine HK.out.mono ?_; rintro e w' ⟨rfl, hw⟩))
    go_ret
    have h1 := HC.out
    have h2 := HP.out
    have h3 := (szI_neg _ _).1 k3
    exact ⟨ret_int ((szI_minus _ _).2 (by omega)).symm, ((Below.refl _ _).alloc (Nat.le_refl _) _).trans (hw.mono (by simp))⟩
  · go_enter Tryz.func5, Tryz.ntmps5
    go_wp2_with (first
      | (go_at_call 14; refine (szIntS_any _ _ _ _ _ (by omega) (by omega) hsl0).mono ?_; rintro e w' ⟨rfl, hw⟩; rw [hw]; clear hw w')
      | (go_at_call 15; refine HK.out.mono ?_; rintro e w' ⟨rfl, hw⟩))
    go_ret
    have h1 := HC.out
    have h2 := HP.out
    have h3 := szI_pos _ _ (Int.not_lt.2 k3)
    refine ⟨ret_int ?_, ((Below.refl _ _).alloc (Nat.le_refl _) _).trans (hw.mono (by simp))⟩
    rw [h3, h2, szI_pos _ _ (by rw [szI_neg]; omega)]; omega

theorem szForm_all : ∀ n, SzForm n ∧ SzForms n
  | 0 => by
    have h : SzForm 0 := fun f hf => by have := Fm.sz_kids f; omega
    exact ⟨h, szForms_of 0 h⟩
  | n + 1 => by
    have h := szForm_of n (szForm_all n).2
    exact ⟨h, szForms_of (n + 1) h⟩

/-- The law's own count of a form. -/
theorem szExpForm_any (f : Fm) (B : Nat → Prop) (w : World) (c0 c1 c2 c3 c4 : Value) (left : Int) (h : FormAt B w f c0 c1 c2 c3 c4) (hB : ∀ b, B b → b < w.heap.size) (h0 : 0 ≤ left) (h1 : left ≤ 1048576) :
    Calls Tryz.prog 5 #[.agg #[c0, c1, c2, c3, c4], .int .i64 left] w fun e w' => e = .returned (.int .i64 (szI f.cost left)) ∧ Below w.heap.size w w' :=
  (szForm_all f.sz).1 f (Nat.le_refl _) B w c0 c1 c2 c3 c4 left h hB h0 h1

end Go.Proofs.YtghgilkdmdppcaaGreat

namespace Go.Proofs.YtghgilkdmdppcaaGreat
open Go.RowKit Go.Siskin

theorem tl_beq (s : ByteArray) (l : List UInt8) : (s.toList == l) = (s.data.toList == l) := by rw [Go.ByteArray.toList_eq]
theorem tail_take (s : ByteArray) : List.take (s.size - 1) s.data.toList.tail = s.data.toList.drop 1 := by
  rw [List.drop_one, List.take_of_length_le (by simp)]

set_option maxHeartbeats 400000 in
theorem l1AtomOk_string (s : ByteArray) (w : World) (hs : s.size ≤ maxLen) (h1 : (s.toList == [35, 116]) = false) (h2 : (s.toList == [35, 102]) = false) (h3 : digitsB s.data.toList = false) (h4 : Hid (minusB s.data.toList = false))
    (h5 : 1 < s.size) (h6 : ((s[0]'(by omega)).toNat : Int) = 34) (h7 : ((s[s.size - 1]'(by omega)).toNat : Int) = 34) :
    Calls Tryz.prog 44 #[.string s] w fun e w' => e = .returned (.bool (atomB s.data.toList)) ∧ w' = w := by
  have hs0 := hs
  unfold maxLen at hs
  have hA : Hid (atomB s.data.toList = innersB ((s.data.toList.take (s.size - 1)).drop 1)) := by
    show _ = _
    unfold atomB
    rw [← tl_beq, ← tl_beq, h1, h2, h3, h4.out, string_parts s (by omega), decide_eq_true h6, decide_eq_true h7]
    rfl
  clear h4
  go_enter Tryz.func44, Tryz.ntmps44
  go_wp2_with (go_at_call 50; refine (l1Digits_any _ _ hs0).mono ?_; rintro e w' ⟨rfl, rfl⟩)
  go_loop [3] (fun i => ∃ k : Nat, 1 ≤ k ∧ k ≤ s.size - 1 ∧ i = .int .i64 k ∧ Hid (((s.data.toList.take k).drop 1).all innerB = true)) (fun i => s.size - (intOf i).toNat)
  case atStart => exact ⟨1, Nat.le_refl _, by omega, rfl, by show _ = _; rw [List.drop_of_length_le (by simp; omega)]; rfl⟩
  case round =>
    obtain ⟨k, hk1, hk, rfl, HA⟩ := hrel
    by_cases hlt : k < s.size - 1
    · have hlt' : k < s.size := by omega
      have bad : Hid (((s[k].toNat : Int) = 34 ∨ (s[k].toNat : Int) < 32 ∨ 126 < (s[k].toNat : Int)) → false = atomB s.data.toList) := by
        intro hb
        rw [hA.out]; exact (all_mid_false s k (s.size - 1) hk1 hlt (by omega) innerB (inner_no _ hb)).symm
      by_cases a1 : (s[k].toNat : Int) = 34
      · go_wp2_with fail
        go_ret
        exact ⟨ret_bool (bad.out (Or.inl a1)), rfl⟩
      by_cases a2 : (s[k].toNat : Int) < 32
      · go_wp2_with fail
        go_ret
        exact ⟨ret_bool (bad.out (Or.inr (Or.inl a2))), rfl⟩
      by_cases a3 : 126 < (s[k].toNat : Int)
      · go_wp2_with fail
        go_ret
        exact ⟨ret_bool (bad.out (Or.inr (Or.inr a3))), rfl⟩
      have HI : Hid (innerB s[k] = true) := inner_yes _ a1 a2 a3
      go_wp2_with fail
      go_round
      case rel => exact ⟨k + 1, by omega, by omega, by go_num, by show _ = _; rw [all_mid_succ s k hk1 hlt', HA.out, HI.out]; rfl⟩
      case measure => simp [intOf]; omega
    · go_wp2_with fail
      go_ret
      have e : k = s.size - 1 := by omega
      exact ⟨ret_bool (by rw [hA.out, ← e]; exact HA.out.symm), rfl⟩

set_option maxHeartbeats 4000000 in
theorem l1AtomOk_any (s : ByteArray) (w : World) (hs : s.size ≤ maxLen) :
    Calls Tryz.prog 44 #[.string s] w fun e w' => e = .returned (.bool (atomB s.data.toList)) ∧ w' = w := by
  have hs0 := hs
  have hs1 : (s.extract 1 s.size).size ≤ maxLen := by simp; omega
  have HT : Hid (atomB s.data.toList = (s.toList == [35, 116] || s.toList == [35, 102] || digitsB s.data.toList || minusB s.data.toList || stringB s.data.toList)) := by
    show _ = _
    rw [tl_beq, tl_beq]; rfl
  unfold maxLen at hs
  cases h1 : (s.toList == [35, 116]) with
  | true =>
    go_enter Tryz.func44, Tryz.ntmps44
    go_wp2_with fail
    go_ret
    exact ⟨ret_bool (by rw [HT.out, h1]; rfl), rfl⟩
  | false =>
  cases h2 : (s.toList == [35, 102]) with
  | true =>
    go_enter Tryz.func44, Tryz.ntmps44
    go_wp2_with fail
    go_ret
    exact ⟨ret_bool (by rw [HT.out, h2]; simp), rfl⟩
  | false =>
  cases h3 : digitsB s.data.toList with
  | true =>
    go_enter Tryz.func44, Tryz.ntmps44
    go_wp2_with (go_at_call 50; refine (l1Digits_any _ _ hs0).mono ?_; rintro e w' ⟨rfl, rfl⟩)
    go_ret
    exact ⟨ret_bool (by rw [HT.out, h3]; simp), rfl⟩
  | false =>
  by_cases h5 : 1 < s.size
  · by_cases h6 : ((s[0]'(by omega)).toNat : Int) = 45
    · have HM := minus_int s h5
      rw [decide_eq_true h6, Bool.true_and] at HM
      have HS : Hid (stringB s.data.toList = false) := by
        show _ = _
        rw [string_parts s h5, decide_eq_false (by omega)]; rfl
      cases h7 : digitsB (List.take (s.size - 1) s.data.toList.tail) with
      | true =>
        rw [← tail_take, h7] at HM
        have HM' : Hid (minusB s.data.toList = true) := HM
        clear HM
        go_enter Tryz.func44, Tryz.ntmps44
        go_wp2_with (go_at_call 50; refine (l1Digits_any _ _ (by first | exact hs0 | exact hs1)).mono ?_; rintro e w' ⟨rfl, rfl⟩)
        go_ret
        exact ⟨ret_bool (by rw [HT.out, HM'.out]; simp), rfl⟩
      | false =>
        rw [← tail_take, h7] at HM
        have HM' : Hid (minusB s.data.toList = false) := HM
        clear HM
        go_enter Tryz.func44, Tryz.ntmps44
        go_wp2_with (go_at_call 50; refine (l1Digits_any _ _ (by first | exact hs0 | exact hs1)).mono ?_; rintro e w' ⟨rfl, rfl⟩)
        go_ret
        exact ⟨ret_bool (by rw [HT.out, HM'.out, HS.out, h1, h2, h3]; rfl), rfl⟩
    · have HM : Hid (minusB s.data.toList = false) := by
        show _ = _
        rw [minus_int s h5, decide_eq_false h6]; rfl
      by_cases h7 : ((s[0]'(by omega)).toNat : Int) = 34
      · by_cases h8 : ((s[s.size - 1]'(by omega)).toNat : Int) = 34
        · exact l1AtomOk_string s w hs0 h1 h2 h3 HM h5 h7 h8
        · have HS : Hid (stringB s.data.toList = false) := by
            show _ = _
            rw [string_parts s h5, decide_eq_false h8]; simp
          have h9 : (((s[s.size - 1]'(by omega)).toNat : Int) != 34) = true := by simpa using h8
          go_enter Tryz.func44, Tryz.ntmps44
          go_wp2_with (go_at_call 50; refine (l1Digits_any _ _ hs0).mono ?_; rintro e w' ⟨rfl, rfl⟩)
          go_ret
          exact ⟨ret_bool (by rw [HT.out, HM.out, HS.out, h1, h2, h3]; rfl), rfl⟩
      · have HS : Hid (stringB s.data.toList = false) := by
          show _ = _
          rw [string_parts s h5, decide_eq_false h7]; rfl
        go_enter Tryz.func44, Tryz.ntmps44
        go_wp2_with (go_at_call 50; refine (l1Digits_any _ _ hs0).mono ?_; rintro e w' ⟨rfl, rfl⟩)
        go_ret
        exact ⟨ret_bool (by rw [HT.out, HM.out, HS.out, h1, h2, h3]; rfl), rfl⟩
  · have HM : Hid (minusB s.data.toList = false) := minus_short s h5
    have HS : Hid (stringB s.data.toList = false) := string_short s (by omega)
    go_enter Tryz.func44, Tryz.ntmps44
    go_wp2_with (go_at_call 50; refine (l1Digits_any _ _ hs0).mono ?_; rintro e w' ⟨rfl, rfl⟩)
    go_ret
    exact ⟨ret_bool (by rw [HT.out, HM.out, HS.out, h1, h2, h3]; rfl), rfl⟩
end Go.Proofs.YtghgilkdmdppcaaGreat

namespace Go.Proofs.YtghgilkdmdppcaaGreat
open Go.RowKit Go.Siskin

set_option maxHeartbeats 400000 in
theorem isDigits_any (s : ByteArray) (w : World) (hs : s.size ≤ maxLen) :
    Calls Tryz.prog 68 #[.string s] w fun e w' => e = .returned (.bool (digitsB s.data.toList)) ∧ w' = w := by
  unfold maxLen at hs
  go_enter Tryz.func68, Tryz.ntmps68
  go_wp2_with fail
  go_loop [6] (fun i => ∃ k : Nat, k ≤ s.size ∧ i = .int .i64 k ∧ Hid ((s.data.toList.take k).all digitB = true)) (fun i => s.size - (intOf i).toNat)
  case atStart => exact ⟨0, Nat.zero_le _, rfl, rfl⟩
  case round =>
    obtain ⟨k, hk, rfl, HA⟩ := hrel
    by_cases hlt : k < s.size
    · by_cases a1 : (s[k].toNat : Int) < 48
      · go_wp2_with fail
        go_ret
        exact ⟨ret_bool (digits_bad s k hlt (by omega)).symm, rfl⟩
      by_cases a2 : 57 < (s[k].toNat : Int)
      · go_wp2_with fail
        go_ret
        exact ⟨ret_bool (digits_bad s k hlt (by omega)).symm, rfl⟩
      have HI : Hid (digitB s[k] = true) := digit_yes _ a1 a2
      go_wp2_with fail
      go_round
      case rel => exact ⟨k + 1, by omega, by go_num, by show _ = _; rw [all_take_succ s k hlt, HA.out, HI.out]; rfl⟩
      case measure => simp [intOf]; omega
    · go_wp2_with fail
      go_ret
      exact ⟨ret_bool (by rw [digits_end' s k hlt HA.out, Go.ByteArray.toList_eq]), rfl⟩

def fromC (least : Nat) (c : UInt8) : Bool := decide (least ≤ c.toNat) && decide (c.toNat ≤ 126)
set_option maxHeartbeats 400000 in
theorem hasBytesFrom_any (n : Nat) (s : ByteArray) (w : World) (hs : s.size ≤ maxLen) :
    Calls Tryz.prog 65 #[.int .u8 n, .string s] w fun e w' => e = .returned (.bool (fromB n s.data.toList)) ∧ w' = w := by
  unfold maxLen at hs
  go_enter Tryz.func65, Tryz.ntmps65
  go_wp2_with fail
  go_loop [8] (fun i => ∃ k : Nat, k ≤ s.size ∧ i = .int .i64 k ∧ Hid ((s.data.toList.take k).all (fromC n) = true)) (fun i => s.size - (intOf i).toNat)
  case atStart => exact ⟨0, Nat.zero_le _, rfl, rfl⟩
  case round =>
    obtain ⟨k, hk, rfl, HA⟩ := hrel
    by_cases hlt : k < s.size
    · have bad : Hid (((s[k].toNat : Int) < n ∨ 126 < (s[k].toNat : Int)) → false = fromB n s.data.toList) := by
        intro hb
        exact (all_false s k hlt (fromC n) (by unfold fromC; simp; omega)).symm
      by_cases a1 : (s[k].toNat : Int) < n
      · go_wp2_with fail
        go_ret
        exact ⟨ret_bool (bad.out (by omega)), rfl⟩
      by_cases a2 : 126 < (s[k].toNat : Int)
      · go_wp2_with fail
        go_ret
        exact ⟨ret_bool (bad.out (by omega)), rfl⟩
      have HI : Hid (fromC n s[k] = true) := by show _ = _; unfold fromC; simp; omega
      go_wp2_with fail
      go_round
      case rel => exact ⟨k + 1, by omega, by go_num, by show _ = _; rw [all_take_succ s k hlt, HA.out, HI.out]; rfl⟩
      case measure => simp [intOf]; omega
    · go_wp2_with fail
      go_ret
      exact ⟨ret_bool (all_true s k hlt (fromC n) HA.out).symm, rfl⟩

end Go.Proofs.YtghgilkdmdppcaaGreat
