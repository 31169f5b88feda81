/-
  The model's l1IdOk returns, at every text, whether it is an identifier; the world is as it was. Condition: the text's size is one that a Go string can have.
  The model's l1Size returns how many forms a form is. Condition: the form lies in memory, and is not too great.
  The program's isStringText and isAtomText return, at every text, whether it is a string, and whether it is an atom that is not too long; the world is as it was. Condition: the text's size is one that a Go string can have.
  The program's isIdText returns, at every text, whether it is an identifier that is not too long; nothing that was there has turned. Condition: the text's size is one that a Go string can have.
  The program's openId and openAtom take just the identifiers and atoms that are ok. Condition: the form lies in memory as FormAt says.
  The program's hasOnlyKids, and its opener at an identifier and at an atom. Condition: the form lies in memory, the opener's counter apart from it.
-/
import Derived.Test.YtjbejnibiebjgaaGreatPart7
import Derived.Test.YtjbejnibiebjgaaGreatShelf
import Derived.Test.YtjbejnibiebjgaaGreatPart6
import Derived.Test.YtjbejnibiebjgaaGreatPart1
namespace Go.Proofs.YtjbejnibiebjgaaGreat
open Go.RowKit Go.Siskin

theorem tl_empty (s : ByteArray) : s.toList.isEmpty = s.data.toList.isEmpty := by rw [Go.ByteArray.toList_eq]

set_option maxHeartbeats 4000000 in
theorem l1IdOk_any (s : ByteArray) (w : World) (hs : s.size ≤ maxLen) :
    Calls Tryz.prog 38 #[.string s] w fun e w' => e = .returned (.bool (idB s.data.toList)) ∧ w' = w := by
  have hs0 := hs
  have HT : Hid (idB s.data.toList = (!(s.toList.isEmpty || s.toList == [46] || atomB s.data.toList || s.data.toList.head? == some 35) && s.data.toList.all wordB)) := by
    show _ = _
    rw [tl_beq, tl_empty]; rfl
  unfold maxLen at hs
  cases h0 : s.toList.isEmpty with
  | true =>
    go_enter Tryz.func38, Tryz.ntmps38
    go_wp2_with fail
    go_ret
    exact ⟨ret_bool (by rw [HT.out, h0]; rfl), rfl⟩
  | false =>
  have h9 : 0 < s.size := by
    by_cases e : s.size = 0
    · rw [tl_empty, empty_size, decide_eq_true e] at h0; cases h0
    · omega
  cases h1 : (s.toList == [46]) with
  | true =>
    go_enter Tryz.func38, Tryz.ntmps38
    go_wp2_with fail
    go_ret
    exact ⟨ret_bool (by rw [HT.out, h1]; simp), rfl⟩
  | false =>
  cases h2 : atomB s.data.toList with
  | true =>
    go_enter Tryz.func38, Tryz.ntmps38
    go_wp2_with (go_at_call 40; refine (l1AtomOk_any _ _ hs0).mono ?_; rintro e w' ⟨rfl, hw⟩; rw [hw]; clear hw w')
    go_ret
    exact ⟨ret_bool (by rw [HT.out, h2]; simp), rfl⟩
  | false =>
  by_cases h3 : (s[0].toNat : Int) = 35
  · have HH : Hid ((s.data.toList.head? == some 35) = true) := by
      show _ = _
      rw [head_size s h9]; exact (u8_some s[0] 35 (by decide)).trans (decide_eq_true h3)
    go_enter Tryz.func38, Tryz.ntmps38
    go_wp2_with (go_at_call 40; refine (l1AtomOk_any _ _ hs0).mono ?_; rintro e w' ⟨rfl, hw⟩; rw [hw]; clear hw w')
    go_ret
    exact ⟨ret_bool (by rw [HT.out, HH.out]; simp), rfl⟩
  have HH : Hid (idB s.data.toList = s.data.toList.all wordB) := by
    show _ = _
    rw [HT.out, h0, h1, h2, head_size s h9, show (some s[0] == some 35) = false from (u8_some s[0] 35 (by decide)).trans (decide_eq_false h3)]; rfl
  clear HT
  have h3' : ((s[0].toNat : Int) == 35) = false := by simpa using h3
  go_enter Tryz.func38, Tryz.ntmps38
  go_wp2_with (go_at_call 40; refine (l1AtomOk_any _ _ hs0).mono ?_; rintro e w' ⟨rfl, hw⟩; rw [hw]; clear hw w')
  go_loop [3] (fun i => ∃ k : Nat, k ≤ s.size ∧ i = .int .i64 k ∧ Hid ((s.data.toList.take k).all wordB = true)) (fun i => s.size - (intOf i).toNat)
  case atStart => exact ⟨0, Nat.zero_le _, rfl, rfl⟩
  case round =>
    obtain ⟨k, hk, rfl, HA⟩ := hrel
    by_cases hlt : k < s.size
    · have bad : Hid ((endsB s[k] = true ∨ (s[k].toNat : Int) < 33 ∨ 126 < (s[k].toNat : Int) ∨ (s[k].toNat : Int) = 126) → false = idB s.data.toList) := by
        intro hb
        rw [HH.out]; exact (all_false s k hlt wordB (word_no _ hb)).symm
      cases a0 : endsB s[k] with
      | true =>
        go_wp2_with (go_at_call 51; refine (l1Ends_any _ _).mono ?_; rintro e w' ⟨rfl, hw⟩; rw [hw]; clear hw w')
        go_ret
        exact ⟨ret_bool (bad.out (Or.inl a0)), rfl⟩
      | false =>
      by_cases a1 : (s[k].toNat : Int) < 33
      · go_wp2_with (go_at_call 51; refine (l1Ends_any _ _).mono ?_; rintro e w' ⟨rfl, hw⟩; rw [hw]; clear hw w')
        go_ret
        exact ⟨ret_bool (bad.out (Or.inr (Or.inl a1))), rfl⟩
      by_cases a2 : 126 < (s[k].toNat : Int)
      · go_wp2_with (go_at_call 51; refine (l1Ends_any _ _).mono ?_; rintro e w' ⟨rfl, hw⟩; rw [hw]; clear hw w')
        go_ret
        exact ⟨ret_bool (bad.out (Or.inr (Or.inr (Or.inl a2)))), rfl⟩
      by_cases a3 : (s[k].toNat : Int) = 126
      · have b1 : 125 < (s[k].toNat : Int) := by omega
        have A3 : Hid _ := a3
        clear a3
        go_wp2_with (go_at_call 51; refine (l1Ends_any _ _).mono ?_; rintro e w' ⟨rfl, hw⟩; rw [hw]; clear hw w')
        · go_ret
          exact ⟨ret_bool (bad.out (Or.inr (Or.inr (Or.inr A3.out)))), rfl⟩
        · rename_i hx
          exact absurd hx.2 (by rw [A3.out]; decide)
      have HI : Hid (wordB s[k] = true) := word_yes _ a0 a1 a2 a3
      have a4 : ((s[k].toNat : Int) == 126) = false := by simpa using a3
      go_wp2_with (go_at_call 51; refine (l1Ends_any _ _).mono ?_; rintro e w' ⟨rfl, hw⟩; rw [hw]; clear hw w')
      go_round
      case rel => exact ⟨k + 1, by omega, by go_num, by show _ = _; rw [all_take_succ s k hlt, HA.out, HI.out]; rfl⟩
      case measure => simp [intOf]; omega
    · go_wp2_with fail
      go_ret
      exact ⟨ret_bool (by rw [HH.out]; exact (all_true s k hlt wordB HA.out).symm), rfl⟩

end Go.Proofs.YtjbejnibiebjgaaGreat

namespace Go.Proofs.YtjbejnibiebjgaaGreat
open Go.RowKit Go.Siskin

def SizeForm (n : Nat) : Prop := ∀ f : Fm, f.sz ≤ n → ∀ (B : Nat → Prop) (w : World) (c0 c1 c2 c3 c4 : Value), FormAt B w f c0 c1 c2 c3 c4 → (∀ b, B b → b < w.heap.size) → f.sz ≤ 2000000 →
    Calls Tryz.prog 25 #[.agg #[c0, c1, c2, c3, c4]] w fun e w' => e = .returned (.int .i64 f.sz) ∧ Below w.heap.size w w'

set_option maxHeartbeats 1000000 in
theorem sizeForm_of (n : Nat) (ih : SizeForm n) : SizeForm (n + 1) := by
  intro f hf B w c0 c1 c2 c3 c4 hA hB h0
  obtain ⟨rfl, rfl, ht, h2, rfl, h4⟩ := (formAt_iff _ _ _ _ _ _ _ _).1 hA
  have HS := hid (Fm.sz_kids f)
  have H4 := hid h4
  have HI := hid ih
  have HR := hid hB
  obtain ⟨a, ca, rfl, hla, ha⟩ := h4
  unfold maxLen at hla
  clear hA ih hB h2
  go_enter Tryz.func25, Tryz.ntmps25
  go_wp2_with fail
  go_loopw [3, 4] (fun s i wr => ∃ k : Nat, k ≤ f.kids.length ∧ i = .int .i64 k ∧ ∃ m : Nat, s = .int .i64 m ∧ m ≤ 2000000 ∧ Hid (m = 1 + Fm.szs (f.kids.take k)) ∧ Hid (Below (w.heap.size + 1) (w.alloc (.cells #[.int .i64 f.sort, .string f.text, c2, .int .i64 f.frm, .slice a f.kids.length ca] 26)) wr)) (fun _ i _ => f.kids.length - (intOf i).toNat)
  case atStart => exact ⟨0, Nat.zero_le _, rfl, 1, rfl, by omega, by show _ = _; simp [Fm.szs], Below.refl _ _⟩
  case round =>
    obtain ⟨k, hk, rfl, m, rfl, hm, HM, HB⟩ := hrel
    have hcell : ∀ o, wr.cell? ⟨w.heap.size, o, none⟩ = (w.alloc (.cells #[.int .i64 f.sort, .string f.text, c2, .int .i64 f.frm, .slice a f.kids.length ca] 26)).cell? ⟨w.heap.size, o, none⟩ := fun o => HB.out.cell (p := ⟨w.heap.size, o, none⟩) (by simp)
    by_cases hlt : k < f.kids.length
    · rcases ha with ha | ⟨ba, oa, rfl, hb, ha⟩
      · rw [ha] at hlt; simp at hlt
      have hrow := RowAt.keep (((SameOn.refl _ _).alloc HR.out _).below HB.out (fun b hb => by have := HR.out b hb; omega)) hb f.kids ha
      obtain ⟨c0, c1, c2', c3, c4, g0, g1, g2, g3, g4, hf'⟩ := RowAt.get f.kids hrow k hlt
      have HT := hid (Fm.szs_take f.kids k hlt)
      have HL := hid (Fm.szs_take_le f.kids (k + 1))
      have hsz := HB.out.size
      have HC := hid (HI.out f.kids[k] (by have := Fm.szs_get f.kids k hlt; have := HS.out; omega) B wr c0 c1 c2' c3 c4 hf' (fun b hb => by have := HR.out b hb; simp at hsz; omega) (by have := Fm.szs_get f.kids k hlt; have := HS.out; omega))
      have hle : (f.kids[k].sz : Int) ≤ 2000000 := by have := Fm.szs_get f.kids k hlt; have := HS.out; omega
      clear ha hrow hf' HI
      go_wp2_with (go_at_call 25; refine HC.out.mono ?_; rintro e w' ⟨rfl, hw⟩)
      have h1 := HM.out
      have h2 := HT.out
      have h3 := HL.out
      have h4 := HS.out
      exact ⟨⟨k + 1, by omega, by go_num, m + f.kids[k].sz, by go_num, by omega, by show _ = _; omega, HB.out.trans (hw.mono (by simpa using hsz))⟩, by simp [intOf]; omega⟩
    · go_wp2_with fail
      go_ret
      refine ⟨ret_int ?_, ((Below.refl _ _).alloc (Nat.le_refl _) _).trans (HB.out.mono (by omega))⟩
      have h1 := HM.out
      have h2 := HS.out
      rw [List.take_of_length_le (by omega)] at h1
      omega

theorem sizeForm_all : ∀ n, SizeForm n
  | 0 => fun f hf => by have := Fm.sz_kids f; omega
  | n + 1 => sizeForm_of n (sizeForm_all n)

theorem l1Size_any (f : Fm) (B : Nat → Prop) (w : World) (c0 c1 c2 c3 c4 : Value) (h : FormAt B w f c0 c1 c2 c3 c4) (hB : ∀ b, B b → b < w.heap.size) (h0 : f.sz ≤ 2000000) :
    Calls Tryz.prog 25 #[.agg #[c0, c1, c2, c3, c4]] w fun e w' => e = .returned (.int .i64 f.sz) ∧ Below w.heap.size w w' :=
  sizeForm_all f.sz f (Nat.le_refl _) B w c0 c1 c2 c3 c4 h hB h0

end Go.Proofs.YtjbejnibiebjgaaGreat

namespace Go.Proofs.YtjbejnibiebjgaaGreat
open Go.RowKit Go.Siskin

/- ### The program's -/

theorem mid_list (s : ByteArray) : List.take (s.size - 1 - 1) s.data.toList.tail = (s.data.toList.drop 1).dropLast := by
  rw [List.dropLast_eq_take, List.drop_one, List.length_tail, show s.data.toList.length = s.size from by simp]

set_option maxHeartbeats 4000000 in
theorem isStringText_any (s : ByteArray) (w : World) (hs : s.size ≤ maxLen) :
    Calls Tryz.prog 68 #[.string s] w fun e w' => e = .returned (.bool (stringB s.data.toList)) ∧ w' = w := by
  have hs0 := hs
  unfold maxLen at hs
  by_cases h1 : s.size < 2
  · have HS : Hid (stringB s.data.toList = false) := string_short s h1
    go_enter Tryz.func68, Tryz.ntmps68
    go_wp2_with fail
    go_ret
    exact ⟨ret_bool HS.out.symm, rfl⟩
  have hl : s.data.toList.length = s.size := by simp
  by_cases h2 : ((s[0]'(by omega)).toNat : Int) = 34
  · by_cases h3 : ((s[s.size - 1]'(by omega)).toNat : Int) = 34
    · have HS : Hid ((fromB 32 s.data.toList && !(List.take (s.size - 1 - 1) s.data.toList.tail).contains 34) = stringB s.data.toList) := by
        show _ = _
        rw [mid_list]
        refine string_two _ (by omega) ?_ ?_
        · rw [head_size s (by omega)]; exact congrArg some (UInt8.toNat_inj.1 (by show _ = 34; omega))
        · rw [last_size s (by omega)]; exact congrArg some (UInt8.toNat_inj.1 (by show _ = 34; omega))
      cases h4 : fromB 32 s.data.toList with
      | false =>
        go_enter Tryz.func68, Tryz.ntmps68
        go_wp2_with (go_at_call 63; refine (hasBytesFrom_any 32 _ _ hs0).mono ?_; rintro e w' ⟨rfl, hw⟩; rw [hw]; clear hw w')
        go_ret
        exact ⟨ret_bool (by rw [← HS.out, h4]; rfl), rfl⟩
      | true =>
        go_enter Tryz.func68, Tryz.ntmps68
        go_wp2_with (first
          | (go_at_call 63; refine (hasBytesFrom_any 32 _ _ hs0).mono ?_; rintro e w' ⟨rfl, hw⟩; rw [hw]; clear hw w')
          | (go_at_call 71; refine (Tryz.strings_Contains_one _ _ _).mono ?_; rintro e w' ⟨rfl, hw⟩; rw [hw]; clear hw w'))
        go_ret
        exact ⟨ret_bool (by rw [← HS.out, h4, Lib.contains_iff_indexByte]; rfl), rfl⟩
    · have HS : Hid (stringB s.data.toList = false) := by
        show _ = _
        rw [string_parts s (by omega), decide_eq_false h3]; simp
      have h9 : (((s[s.size - 1]'(by omega)).toNat : Int) != 34) = true := by simpa using h3
      go_enter Tryz.func68, Tryz.ntmps68
      go_wp2_with fail
      go_ret
      exact ⟨ret_bool HS.out.symm, rfl⟩
  · have HS : Hid (stringB s.data.toList = false) := by
      show _ = _
      rw [string_parts s (by omega), decide_eq_false h2]; rfl
    have h9 : (((s[0]'(by omega)).toNat : Int) != 34) = true := by simpa using h2
    go_enter Tryz.func68, Tryz.ntmps68
    go_wp2_with fail
    go_ret
    exact ⟨ret_bool HS.out.symm, rfl⟩

theorem trim_minus (l : List UInt8) : Lib.trimPrefix l [45] = (if l.head? = some 45 then l.drop 1 else l) := by
  unfold Lib.trimPrefix Lib.hasPrefix
  cases l with
  | nil => simp
  | cons a r =>
    by_cases h : a = 45
    · subst h; simp
    · simp [h]; intro e; exact absurd e.symm h

/-- An atom that is not too long. -/
def atom40 (l : List UInt8) : Bool := decide (l.length ≤ 40) && atomB l

set_option maxHeartbeats 4000000 in
theorem isAtomText_any (s : ByteArray) (w : World) (hs : s.size ≤ maxLen) :
    Calls Tryz.prog 58 #[.string s] w fun e w' => e = .returned (.bool (atom40 s.data.toList)) ∧ w' = w := by
  have hs0 := hs
  have HT : Hid (atom40 s.data.toList = (decide (s.size ≤ 40) && (s.toList == [35, 116] || s.toList == [35, 102] || digitsB (Lib.trimPrefix s.data.toList [45]) || stringB s.data.toList))) := by
    show _ = _
    rw [tl_beq, tl_beq, trim_minus, digits_trim]
    unfold atom40 atomB
    rw [show s.data.toList.length = s.size from by simp]
    simp only [Bool.or_assoc]
  unfold maxLen at hs
  by_cases h0 : 40 < s.size
  · go_enter Tryz.func58, Tryz.ntmps58
    go_wp2_with fail
    go_ret
    exact ⟨ret_bool (by rw [HT.out, decide_eq_false (by omega)]; rfl), rfl⟩
  have h0' : (s.size : Int) ≤ 40 := by omega
  have HT' : Hid (atom40 s.data.toList = ((s.toList == [35, 116] || s.toList == [35, 102] || digitsB (Lib.trimPrefix s.data.toList [45]) || stringB s.data.toList))) := by
    show _ = _
    rw [HT.out, decide_eq_true (by omega), Bool.true_and]
  clear HT h0
  have hs2 : (⟨(Lib.trimPrefix s.data.toList [45]).toArray⟩ : ByteArray).size ≤ maxLen := by
    rw [trim_minus]
    show ((if s.data.toList.head? = some 45 then s.data.toList.drop 1 else s.data.toList).toArray).size ≤ maxLen
    have hl : s.data.toList.length = s.size := by simp
    split
    · rw [List.size_toArray, List.length_drop, hl]; omega
    · rw [List.size_toArray, hl]; omega
  cases h1 : (s.toList == [35, 116]) with
  | true =>
    go_enter Tryz.func58, Tryz.ntmps58
    go_wp2_with fail
    go_ret
    exact ⟨ret_bool (by rw [HT'.out, h1]; rfl), rfl⟩
  | false =>
  cases h2 : (s.toList == [35, 102]) with
  | true =>
    go_enter Tryz.func58, Tryz.ntmps58
    go_wp2_with fail
    go_ret
    exact ⟨ret_bool (by rw [HT'.out, h2]; simp), rfl⟩
  | false =>
  cases h3 : digitsB (Lib.trimPrefix s.data.toList [45]) with
  | true =>
    go_enter Tryz.func58, Tryz.ntmps58
    go_wp2_with (first
      | (go_at_call 67; refine (Tryz.strings_TrimPrefix _ _ _).mono ?_; rintro e w' ⟨rfl, hw⟩; rw [hw]; clear hw w')
      | (go_at_call 66; refine (isDigits_any _ _ hs2).mono ?_; rintro e w' ⟨rfl, hw⟩; rw [hw]; clear hw w'))
    go_ret
    exact ⟨ret_bool (by rw [HT'.out, h3]; simp), rfl⟩
  | false =>
    go_enter Tryz.func58, Tryz.ntmps58
    go_wp2_with (first
      | (go_at_call 67; refine (Tryz.strings_TrimPrefix _ _ _).mono ?_; rintro e w' ⟨rfl, hw⟩; rw [hw]; clear hw w')
      | (go_at_call 66; refine (isDigits_any _ _ hs2).mono ?_; rintro e w' ⟨rfl, hw⟩; rw [hw]; clear hw w')
      | (go_at_call 68; refine (isStringText_any _ _ hs0).mono ?_; rintro e w' ⟨rfl, hw⟩; rw [hw]; clear hw w'))
    go_ret
    exact ⟨ret_bool (by rw [HT'.out, h1, h2, h3]; rfl), rfl⟩


end Go.Proofs.YtjbejnibiebjgaaGreat

namespace Go.Proofs.YtjbejnibiebjgaaGreat
open Go.RowKit Go.Siskin

/-- An identifier that is not too long. -/
def id40 (l : List UInt8) : Bool := decide (l.length ≤ 40) && idB l

theorem any_contains (l m : List UInt8) : Lib.containsAny l m = l.any fun c => m.contains c := by
  unfold Lib.containsAny
  induction l with
  | nil => simp [Lib.indexAny]
  | cons b r ih =>
    rw [List.any_cons, ← ih]
    have h := Lib.indexAny_ge m r
    rw [show Lib.indexAny (b :: r) m = (if m.contains b then 0 else if Lib.indexAny r m == -1 then -1 else Lib.indexAny r m + 1) from rfl]
    by_cases hc : m.contains b = true
    · rw [if_pos hc, hc]; simp
    · rw [if_neg hc]
      have hc' : m.contains b = false := by simpa using hc
      rw [hc', Bool.false_or]
      by_cases h1 : Lib.indexAny r m = -1
      · rw [h1]; simp
      · rw [if_neg (by simpa using h1)]
        rw [decide_eq_true (by omega), decide_eq_true (by omega)]

theorem from_ascii (s : ByteArray) (h : fromB 33 s.data.toList = true) : ∀ (j : Nat) b, s.data.toList[j]? = some b → b.toNat < 128 := by
  intro j b hb
  have := List.all_eq_true.1 h b (List.mem_of_getElem? hb)
  simp at this; omega

theorem marks_ascii : ∀ (j : Nat) b, (⟨#[40, 41, 34, 39, 126]⟩ : ByteArray).data.toList[j]? = some b → b.toNat < 128 := by
  intro j b hb
  have : ([40, 41, 34, 39, 126] : List UInt8).all (fun b => decide (b.toNat < 128)) = true := by decide
  exact of_decide_eq_true (List.all_eq_true.1 this b (List.mem_of_getElem? hb))

set_option maxHeartbeats 4000000 in
theorem isIdText_any (s : ByteArray) (w : World) (hs : s.size ≤ maxLen) :
    Calls Tryz.prog 56 #[.string s] w fun e w' => e = .returned (.bool (id40 s.data.toList)) ∧ Below w.heap.size w w' := by
  have hs0 := hs
  have hl : s.data.toList.length = s.size := by simp
  have HT : Hid (id40 s.data.toList = (decide (s.size ≤ 40) && (!(s.toList.isEmpty || s.toList == [46] || atomB s.data.toList || s.data.toList.head? == some 35) && s.data.toList.all wordB))) := by
    show _ = _
    rw [tl_beq, tl_empty]; unfold id40; rw [hl]; rfl
  unfold maxLen at hs
  cases h0 : s.toList.isEmpty with
  | true =>
    go_enter Tryz.func56, Tryz.ntmps56
    go_wp2_with fail
    go_ret
    exact ⟨ret_bool (by rw [HT.out, h0]; simp), Below.refl _ _⟩
  | false =>
  have h9 : 0 < s.size := by
    by_cases e : s.size = 0
    · rw [tl_empty, empty_size, decide_eq_true e] at h0; cases h0
    · omega
  by_cases h40 : 40 < s.size
  · go_enter Tryz.func56, Tryz.ntmps56
    go_wp2_with fail
    go_ret
    exact ⟨ret_bool (by rw [HT.out, decide_eq_false (by omega)]; rfl), Below.refl _ _⟩
  have h40' : (s.size : Int) ≤ 40 := by omega
  cases h1 : (s.toList == [46]) with
  | true =>
    go_enter Tryz.func56, Tryz.ntmps56
    go_wp2_with fail
    go_ret
    exact ⟨ret_bool (by rw [HT.out, h1]; simp), Below.refl _ _⟩
  | false =>
  by_cases h3 : (s[0].toNat : Int) = 35
  · have HH : Hid ((s.data.toList.head? == some 35) = true) := by
      show _ = _
      rw [head_size s h9]; exact (u8_some s[0] 35 (by decide)).trans (decide_eq_true h3)
    go_enter Tryz.func56, Tryz.ntmps56
    go_wp2_with fail
    go_ret
    exact ⟨ret_bool (by rw [HT.out, HH.out]; simp), Below.refl _ _⟩
  have h3' : ((s[0].toNat : Int) == 35) = false := by simpa using h3
  have HH : Hid ((s.data.toList.head? == some 35) = false) := by
    show _ = _
    rw [head_size s h9]; exact (u8_some s[0] 35 (by decide)).trans (decide_eq_false h3)
  cases h2 : atom40 s.data.toList with
  | true =>
    have HA : Hid (atomB s.data.toList = true) := by
      show _ = _
      unfold atom40 at h2; simp at h2; exact h2.2
    go_enter Tryz.func56, Tryz.ntmps56
    go_wp2_with (go_at_call 58; refine (isAtomText_any _ _ hs0).mono ?_; rintro e w' ⟨rfl, hw⟩; rw [hw]; clear hw w')
    go_ret
    exact ⟨ret_bool (by rw [HT.out, HA.out]; simp), Below.refl _ _⟩
  | false =>
  have HA : Hid (atomB s.data.toList = false) := by
    show _ = _
    unfold atom40 at h2; rw [hl, decide_eq_true (by omega)] at h2; simpa using h2
  have HF : Hid (id40 s.data.toList = (fromB 33 s.data.toList && !Lib.containsAny s.data.toList [40, 41, 34, 39, 126])) := by
    show _ = _
    rw [HT.out, h0, h1, HA.out, HH.out, any_contains, words_two, decide_eq_true (by omega)]; rfl
  clear HT HA HH
  cases h4 : fromB 33 s.data.toList with
  | false =>
    go_enter Tryz.func56, Tryz.ntmps56
    go_wp2_with (first
      | (go_at_call 58; refine (isAtomText_any _ _ hs0).mono ?_; rintro e w' ⟨rfl, hw⟩; rw [hw]; clear hw w')
      | (go_at_call 63; refine (hasBytesFrom_any 33 _ _ hs0).mono ?_; rintro e w' ⟨rfl, hw⟩; rw [hw]; clear hw w'))
    go_ret
    exact ⟨ret_bool (by rw [HF.out, h4]; rfl), Below.refl _ _⟩
  | true =>
    have ha := from_ascii s h4
    have HAS : Hid _ := ha
    clear ha
    go_enter Tryz.func56, Tryz.ntmps56
    go_wp2_with (first
      | (go_at_call 58; refine (isAtomText_any _ _ hs0).mono ?_; rintro e w' ⟨rfl, hw⟩; rw [hw]; clear hw w')
      | (go_at_call 63; refine (hasBytesFrom_any 33 _ _ hs0).mono ?_; rintro e w' ⟨rfl, hw⟩; rw [hw]; clear hw w')
      | (go_at_call 64; refine (Tryz.strings_ContainsAny_laid _ _ _ (by omega) (by decide) HAS.out marks_ascii).mono ?_; rintro e w' ⟨rfl, hw⟩))
    go_ret
    exact ⟨ret_bool (by rw [HF.out, h4]; rfl), hw⟩
end Go.Proofs.YtjbejnibiebjgaaGreat

namespace Go.Proofs.YtjbejnibiebjgaaGreat
open Go.RowKit Go.Siskin

theorem belowN' {B : Nat} {a w : World} (h : Below B a w) (n : Nat) : Below B a (w.drewN n) := h.trans ⟨rfl, rfl, rfl, Nat.le_refl _, fun _ _ => rfl⟩

theorem len_size (s : ByteArray) : s.data.toList.length = s.size := by simp
theorem idF_1 {f : Fm} (h : ¬ id40 f.text.data.toList = true) : false = idFormB f := by
  unfold idFormB; unfold id40 at h; rw [len_size] at h
  cases h1 : idB f.text.data.toList <;> cases h2 : decide (f.text.size ≤ 40) <;> simp_all
theorem idF_3 {f : Fm} (h : f.frm < 0) : false = idFormB f := by
  unfold idFormB; rw [decide_eq_false (p := 0 ≤ f.frm) (by omega)]; simp
theorem idF_4 {f : Fm} (h : ¬ scopesB f.scopes = true) : false = idFormB f := by
  unfold idFormB; rw [show scopesB f.scopes = false from by simpa using h]; simp
theorem idF_5 {f : Fm} (h : 0 < f.kids.length) : false = idFormB f := by
  unfold idFormB; rw [decide_eq_false (p := f.kids.length = 0) (by omega)]; simp
theorem idF_0 {f : Fm} (h1 : id40 f.text.data.toList = true) (h2 : scopesB f.scopes = true) (h3 : 0 ≤ f.frm) (h4 : f.kids.length = 0) : idFormB f = true := by
  unfold idFormB; unfold id40 at h1; rw [len_size, Bool.and_eq_true] at h1
  rw [h1.1, h1.2, h2, decide_eq_true h3, decide_eq_true h4]; rfl
theorem atF_1 {f : Fm} (h : ¬ atom40 f.text.data.toList = true) : false = atomFormB f := by
  unfold atomFormB; unfold atom40 at h; rw [len_size] at h
  cases h1 : atomB f.text.data.toList <;> cases h2 : decide (f.text.size ≤ 40) <;> simp_all
theorem atF_2 {f : Fm} (h : 0 < f.scopes.length) : false = atomFormB f := by
  unfold atomFormB; rw [decide_eq_false (p := f.scopes.length + f.kids.length = 0) (by omega)]; simp
theorem atF_3 {f : Fm} (h : ¬ f.frm = 0) : false = atomFormB f := by
  unfold atomFormB; rw [decide_eq_false (p := f.frm = 0) h]; simp
theorem atF_4 {f : Fm} (h : 0 < f.kids.length) : false = atomFormB f := by
  unfold atomFormB; rw [decide_eq_false (p := f.scopes.length + f.kids.length = 0) (by omega)]; simp
theorem atF_0 {f : Fm} (h1 : atom40 f.text.data.toList = true) (h2 : f.scopes.length = 0) (h3 : f.frm = 0) (h4 : f.kids.length = 0) : atomFormB f = true := by
  unfold atomFormB; unfold atom40 at h1; rw [len_size, Bool.and_eq_true] at h1
  rw [h1.1, h1.2, decide_eq_true h3, decide_eq_true (by omega)]; rfl

set_option maxHeartbeats 1000000 in
theorem openAtom_any (f : Fm) (B : Nat → Prop) (w : World) (c0 c1 c2 c3 c4 : Value) (hA : FormAt B w f c0 c1 c2 c3 c4) :
    Calls Tryz.prog 48 #[.agg #[c0, c1, c2, c3, c4]] w fun e w' => (atomFormB f = true → e = .returned (.tuple #[.iface 90 (.agg #[c1]), .bool true])) ∧ (atomFormB f = false → e = .returned (.tuple #[.nilIface, .bool false])) ∧ Below w.heap.size w w' := by
  obtain ⟨rfl, rfl, ht, h2, rfl, h4⟩ := (formAt_iff _ _ _ _ _ _ _ _).1 hA
  obtain ⟨a2, k2, rfl, hl2, -⟩ := h2
  obtain ⟨a4, k4, rfl, hl4, -⟩ := h4
  have Hht := hid ht
  unfold maxLen at hl2 hl4 ht
  clear hA
  cases e1 : atom40 f.text.data.toList with
  | false =>
    go_enter Tryz.func48, Tryz.ntmps48
    go_wp2_with (go_at_call 58; refine (isAtomText_any _ _ Hht.out).mono ?_; rintro e w' ⟨rfl, hw⟩; rw [hw]; clear hw w')
    go_ret2
    exact ⟨fun hx => absurd ((atF_1 (by rw [e1]; decide)).trans hx) (by decide), fun _ => rfl, (Below.refl _ _).alloc (Nat.le_refl _) _⟩
  | true =>
  by_cases e2 : 0 < f.scopes.length
  · have e2' : 0 < (f.scopes.length : Int) := by omega
    go_enter Tryz.func48, Tryz.ntmps48
    go_wp2_with (go_at_call 58; refine (isAtomText_any _ _ Hht.out).mono ?_; rintro e w' ⟨rfl, hw⟩; rw [hw]; clear hw w')
    go_ret2
    exact ⟨fun hx => absurd ((atF_2 e2).trans hx) (by decide), fun _ => rfl, (Below.refl _ _).alloc (Nat.le_refl _) _⟩
  have e2' : f.scopes.length = 0 := by omega
  rw [e2']
  by_cases e3 : f.frm = 0
  · rw [e3]
    by_cases e4 : 0 < f.kids.length
    · have e4' : 0 < (f.kids.length : Int) := by omega
      clear e2' e2
      go_enter Tryz.func48, Tryz.ntmps48
      go_wp2_with (go_at_call 58; refine (isAtomText_any _ _ Hht.out).mono ?_; rintro e w' ⟨rfl, hw⟩; rw [hw]; clear hw w')
      go_ret2
      exact ⟨fun hx => absurd ((atF_4 e4).trans hx) (by decide), fun _ => rfl, (Below.refl _ _).alloc (Nat.le_refl _) _⟩
    · have e4' : f.kids.length = 0 := by omega
      rw [e4']
      have HY := hid (atF_0 e1 e2' e3 e4')
      clear e2' e2 e3 e4 e4'
      go_enter Tryz.func48, Tryz.ntmps48
      go_wp2_with (go_at_call 58; refine (isAtomText_any _ _ Hht.out).mono ?_; rintro e w' ⟨rfl, hw⟩; rw [hw]; clear hw w')
      go_ret2
      exact ⟨fun _ => rfl, fun hx => absurd (hx.symm.trans HY.out) (by decide), (Below.refl _ _).alloc (Nat.le_refl _) _⟩
  · have e3' : (f.frm != 0) = true := by simpa using e3
    clear e2' e2
    go_enter Tryz.func48, Tryz.ntmps48
    go_wp2_with (go_at_call 58; refine (isAtomText_any _ _ Hht.out).mono ?_; rintro e w' ⟨rfl, hw⟩; rw [hw]; clear hw w')
    go_ret2
    exact ⟨fun hx => absurd ((atF_3 e3).trans hx) (by decide), fun _ => rfl, (Below.refl _ _).alloc (Nat.le_refl _) _⟩

set_option maxHeartbeats 1000000 in
theorem openId_any (f : Fm) (B : Nat → Prop) (w : World) (c0 c1 c2 c3 c4 : Value) (hA : FormAt B w f c0 c1 c2 c3 c4) (hB : ∀ b, B b → b < w.heap.size) (hs : f.sort = 1) :
    Calls Tryz.prog 47 #[.agg #[c0, c1, c2, c3, c4]] w fun e w' => (idFormB f = true → e = .returned (.tuple #[.agg #[c1, c2, c3], .bool true])) ∧ (idFormB f = false → e = .returned (.tuple #[.agg #[.string ⟨#[]⟩, .slice none 0 0, .int .i64 0], .bool false])) ∧ Below w.heap.size w w' := by
  have HA := hid hA
  obtain ⟨rfl, rfl, ht, h2, rfl, h4⟩ := (formAt_iff _ _ _ _ _ _ _ _).1 hA
  have H2 := hid h2
  have HR := hid hB
  obtain ⟨a2, k2, rfl, hl2, -⟩ := h2
  obtain ⟨a4, k4, rfl, hl4, -⟩ := h4
  have Hht := hid ht
  unfold maxLen at hl2 hl4 ht
  rw [hs] at HA ⊢
  clear hA hB
  go_enter Tryz.func47, Tryz.ntmps47
  go_wp2_with fail
  refine (isIdText_any _ _ Hht.out).mono ?_
  rintro e w1 ⟨rfl, hw⟩
  obtain ⟨hc1, hf1⟩ := bcell hw
  have hz1 : w.heap.size + 1 < w1.heap.size := by have := hw.size; simp at this; omega
  have HW := hid hw
  have HT := hid ((((Below.refl w.heap.size w).alloc (Nat.le_refl _) _).alloc (by simp) _).trans (hw.mono (by simp; omega)))
  clear hw
  go_wp2_with (go_at_call 57; refine (areScopes_any B _ f.scopes _ (H2.out.keep ((((SameOn.refl _ _).alloc HR.out _).alloc (fun b hb => by have := HR.out b hb; simp; omega) _).below HW.out (fun b hb => by have := HR.out b hb; simp; omega)))).mono ?_; rintro e w' ⟨rfl, m, rfl⟩)
  · refine bodyPost_ret (v := .tuple #[.agg #[.string ⟨#[]⟩, .slice none 0 0, .int .i64 0], .bool false]) (by simp [results, Tryz.results47, go_sem, hc1]) rfl ?_
    exact ⟨fun hx => absurd ((idF_5 (by omega)).trans hx) (by decide), fun _ => rfl, ((((belowN' HT.out m).setCell (by simp) _).setCell (by simp) _).setCell (by simp) _)⟩
  · refine bodyPost_ret (v := .tuple #[.agg #[.string f.text, .slice a2 f.scopes.length k2, .int .i64 f.frm], .bool true]) (by simp [results, Tryz.results47, go_sem, hc1]) rfl ?_
    exact ⟨fun _ => rfl, fun hx => absurd (hx.symm.trans (idF_0 ‹_› ‹_› (by omega) (by omega))) (by decide), ((((belowN' HT.out m).setCell (by simp) _).setCell (by simp) _).setCell (by simp) _)⟩
  · refine bodyPost_ret (v := .tuple #[.agg #[.string ⟨#[]⟩, .slice none 0 0, .int .i64 0], .bool false]) (by simp [results, Tryz.results47, go_sem, hc1]) rfl ?_
    exact ⟨fun hx => absurd ((idF_3 ‹_›).trans hx) (by decide), fun _ => rfl, ((((belowN' HT.out m).setCell (by simp) _).setCell (by simp) _).setCell (by simp) _)⟩
  · refine bodyPost_ret (v := .tuple #[.agg #[.string ⟨#[]⟩, .slice none 0 0, .int .i64 0], .bool false]) (by simp [results, Tryz.results47, go_sem, hc1]) rfl ?_
    exact ⟨fun hx => absurd ((idF_4 ‹_›).trans hx) (by decide), fun _ => rfl, ((((belowN' HT.out m).setCell (by simp) _).setCell (by simp) _).setCell (by simp) _)⟩
  · refine bodyPost_ret (v := .tuple #[.agg #[.string ⟨#[]⟩, .slice none 0 0, .int .i64 0], .bool false]) (by simp [results, Tryz.results47, go_sem, hc1]) rfl ?_
    exact ⟨fun hx => absurd ((idF_1 ‹_›).trans hx) (by decide), fun _ => rfl, (((HT.out.setCell (by simp) _).setCell (by simp) _).setCell (by simp) _)⟩

end Go.Proofs.YtjbejnibiebjgaaGreat

namespace Go.Proofs.YtjbejnibiebjgaaGreat
open Go.RowKit Go.Siskin

theorem ret_tup {v : Value} {b b' : Bool} (h : b = b') : Ending.returned (.tuple #[v, .bool b]) = .returned (.tuple #[v, .bool b']) := by rw [h]

/-- The world behind a call of the opener whose counter lies in block bo. -/
def Opened (bo : Nat) (w w' : World) (m : Int) : Prop := w.grownBy w' (some bo) ∧ Own w' bo 69 #[.int .i64 m]
def goodB (f : Fm) (d m : Nat) : Bool := okB f d && decide (m + f.sz ≤ 1500)
def goodsB (ks : List Fm) (d m : Nat) : Bool := oksB ks d && decide (m + Fm.szs ks ≤ 1500)

def OpenForm (n : Nat) : Prop := ∀ f : Fm, f.sz ≤ n → ∀ (B : Nat → Prop) (w : World) (c0 c1 c2 c3 c4 : Value) (d m bo : Nat), FormAt B w f c0 c1 c2 c3 c4 → (∀ b, B b → b < w.heap.size ∧ b ≠ bo) → Own w bo 69 #[.int .i64 m] → m ≤ 1500 → d ≤ 61 → f.cost ≤ 1048576 →
    Calls Tryz.prog 37 #[.pointer (some ⟨bo, 0, none⟩), .agg #[c0, c1, c2, c3, c4], .int .i64 d] w fun e w' => ∃ (m' : Int) (v : Value), Opened bo w w' m' ∧ e = .returned (.tuple #[v, .bool (goodB f d m)]) ∧ (goodB f d m = true → m' = m + f.sz ∧ InAt (Reg B w w') w' (toIm f) v)

set_option maxHeartbeats 1000000 in
theorem hasOnlyKids_any (f : Fm) (B : Nat → Prop) (w : World) (c0 c1 c2 c3 c4 : Value) (hA : FormAt B w f c0 c1 c2 c3 c4) :
    Calls Tryz.prog 59 #[.agg #[c0, c1, c2, c3, c4]] w fun e w' => e = .returned (.bool (listFormB f)) ∧ Below w.heap.size w w' := by
  obtain ⟨rfl, rfl, ht, h2, rfl, h4⟩ := (formAt_iff _ _ _ _ _ _ _ _).1 hA
  obtain ⟨a2, k2, rfl, hl2, -⟩ := h2
  obtain ⟨a4, k4, rfl, hl4, -⟩ := h4
  have HX : Hid (listFormB f = (f.text.toList.isEmpty && ((f.scopes.length : Int) == 0) && (f.frm == 0))) := by
    show _ = _
    unfold listFormB
    rw [tl_empty, empty_size]
    have e1 : ((f.scopes.length : Int) == 0) = decide (f.scopes.length = 0) := by rw [Bool.eq_iff_iff, beq_iff_eq, decide_eq_true_eq]; omega
    have e2 : (f.frm == 0) = decide (f.frm = 0) := by rw [Bool.eq_iff_iff, beq_iff_eq, decide_eq_true_eq]
    rw [e1, e2]
    cases decide (f.text.size = 0) <;> cases decide (f.scopes.length = 0) <;> cases decide (f.frm = 0) <;> rfl
  unfold maxLen at hl2
  clear hA
  cases e1 : f.text.toList.isEmpty with
  | false =>
    go_enter Tryz.func59, Tryz.ntmps59
    go_wp2_with fail
    go_ret
    exact ⟨ret_bool (by rw [HX.out, e1]; rfl), (Below.refl _ _).alloc (Nat.le_refl _) _⟩
  | true =>
  cases e2 : ((f.scopes.length : Int) == 0) with
  | false =>
    go_enter Tryz.func59, Tryz.ntmps59
    go_wp2_with fail
    go_ret
    exact ⟨ret_bool (by rw [HX.out, e2]; simp), (Below.refl _ _).alloc (Nat.le_refl _) _⟩
  | true =>
    go_enter Tryz.func59, Tryz.ntmps59
    go_wp2_with fail
    go_ret
    exact ⟨ret_bool (by rw [HX.out, e1, e2]; rfl), (Below.refl _ _).alloc (Nat.le_refl _) _⟩

/-- The world behind the count of one more form, the form's own box laid. -/
def world1 (w : World) (bo m : Nat) (o : Obj) : World := (w.setCell ⟨bo, 0, none⟩ (.int .i64 (m + 1))).alloc o
theorem world1_same {B : Nat → Prop} {w : World} {bo : Nat} (hB : ∀ b, B b → b < w.heap.size ∧ b ≠ bo) (m : Nat) (o : Obj) : SameOn B w (world1 w bo m o) :=
  ((SameOn.refl B w).setCell (fun h => (hB _ h).2 rfl) _).alloc (fun b hb => by have := (hB b hb).1; simp; omega) _
theorem world1_size (w : World) (bo m : Nat) (o : Obj) : (world1 w bo m o).heap.size = w.heap.size + 1 := by simp [world1]
theorem world1_grown (w : World) (bo m : Nat) (o : Obj) : w.grownBy (world1 w bo m o) (some bo) := by
  refine ⟨rfl, rfl, rfl, by rw [world1_size]; omega, fun k hk hne => ?_⟩
  unfold world1
  rw [Below.heap_alloc _ _ _ (by simpa using hk)]
  exact Below.heap_setCell _ _ _ _ (fun e => hne (by rw [e]))
theorem world1_own {w : World} {bo m : Nat} (ho : Own w bo 69 #[.int .i64 m]) (o : Obj) : Own (world1 w bo m o) bo 69 #[.int .i64 (m + 1)] := by
  have h := ho.set 0 (.int .i64 (m + 1))
  have hlt := h.lt
  refine (Below.heap_alloc _ _ _ hlt).trans ?_
  exact h
theorem grown_below {bo : Nat} {w w1 w2 : World} (h : w.grownBy w1 (some bo)) (hb : Below w1.heap.size w1 w2) : w.grownBy w2 (some bo) :=
  ⟨hb.os.trans h.os, hb.tape.trans h.tape, hb.output.trans h.output, Nat.le_trans h.size hb.size, fun k hk hne => (hb.block k (Nat.lt_of_lt_of_le hk h.size)).trans (h.block k hk hne)⟩
theorem opened1 {w w2 : World} {bo m : Nat} {o : Obj} (ho : Own w bo 69 #[.int .i64 m]) (hb : Below (world1 w bo m o).heap.size (world1 w bo m o) w2) : Opened bo w w2 (m + 1) :=
  ⟨grown_below (world1_grown w bo m o) hb, (world1_own ho o).keep hb (world1_own ho o).lt⟩

theorem goodB_id {f : Fm} {d m : Nat} (hm : m < 1500) (hd : d ≤ 60) (hs : f.sort = 1) : goodB f d m = idFormB f := by
  unfold goodB
  rw [okB_id f d hd hs]
  cases h : idFormB f with
  | false => rfl
  | true =>
    unfold idFormB at h
    simp only [Bool.and_eq_true, decide_eq_true_eq] at h
    have h1 := Fm.sz_kids f
    have h2 : f.kids = [] := List.eq_nil_of_length_eq_zero h.2
    rw [h2] at h1
    rw [Fm.szs_nil] at h1
    rw [decide_eq_true (by omega)]; rfl
theorem goodB_atom {f : Fm} {d m : Nat} (hm : m < 1500) (hd : d ≤ 60) (hs : f.sort = 2) : goodB f d m = atomFormB f := by
  unfold goodB
  rw [okB_atom f d hd hs]
  cases h : atomFormB f with
  | false => rfl
  | true =>
    unfold atomFormB at h
    simp only [Bool.and_eq_true, decide_eq_true_eq] at h
    have h1 := Fm.sz_kids f
    have h2 : f.kids = [] := List.eq_nil_of_length_eq_zero (by omega)
    rw [h2] at h1
    rw [Fm.szs_nil] at h1
    rw [decide_eq_true (by omega)]; rfl
theorem sz_one {f : Fm} (h : f.kids.length = 0) : f.sz = 1 := by
  have h1 := Fm.sz_kids f
  rw [List.eq_nil_of_length_eq_zero h] at h1
  simpa [Fm.szs] using h1

set_option maxRecDepth 20000 in
set_option maxHeartbeats 1000000 in
theorem openF_id (f : Fm) (B : Nat → Prop) (w : World) (c0 c1 c2 c3 c4 : Value) (d m bo : Nat) (hA : FormAt B w f c0 c1 c2 c3 c4) (hB : ∀ b, B b → b < w.heap.size ∧ b ≠ bo) (ho : Own w bo 69 #[.int .i64 m]) (hm : m < 1500) (hd : d ≤ 60) (hs : f.sort = 1) :
    Calls Tryz.prog 37 #[.pointer (some ⟨bo, 0, none⟩), .agg #[c0, c1, c2, c3, c4], .int .i64 d] w fun e w' => ∃ (m' : Int) (v : Value), Opened bo w w' m' ∧ e = .returned (.tuple #[v, .bool (goodB f d m)]) ∧ (goodB f d m = true → m' = m + f.sz ∧ InAt (Reg B w w') w' (toIm f) v) := by
  obtain ⟨rfl, rfl, ht, h2, rfl, h4⟩ := (formAt_iff _ _ _ _ _ _ _ _).1 hA
  have q0 := ho.cell 0
  have f0 := ho.frozen 0
  simp at q0
  have hlt := ho.lt
  rw [hs] at hA ⊢
  have HA := hid hA
  have H2 := hid h2
  obtain ⟨a2, k2, rfl, -⟩ := h2
  obtain ⟨a4, k4, rfl, -⟩ := h4
  have HR := hid hB
  have HO := hid ho
  have HG := hid (goodB_id hm hd hs)
  have HT := hid (toIm_id f hs)
  have HS := hid hs
  clear hA hB ho hs
  go_enter Tryz.func37, Tryz.ntmps37
  go_wp2_with fail
  refine (openId_any f B (world1 w bo m _) _ _ _ _ _ (FormAt.keep (world1_same HR.out m _) f HA.out) (fun b hb => by have := (HR.out b hb).1; rw [world1_size]; omega) HS.out).mono ?_
  rintro e w2 ⟨h1, h2, hw⟩
  have HW := hid hw
  clear hw
  cases hi : idFormB f with
  | true =>
    have HI := hid hi
    rw [h1 hi]
    clear h1 h2 hi
    go_wp2_with fail
    go_ret2
    refine ⟨m + 1, _, opened1 HO.out HW.out, ret_tup (by rw [HG.out, HI.out]), fun _ => ⟨?_, ?_⟩⟩
    · have h := HI.out
      unfold idFormB at h
      simp only [Bool.and_eq_true, decide_eq_true_eq] at h
      rw [sz_one h.2]; rfl
    · rw [HT.out]
      rw [InAt_id]
      refine ⟨_, rfl, ht, (H2.out.keep ?_).mono (fun b hb => Or.inl hb)⟩
      exact (world1_same HR.out m _).below HW.out (fun b hb => by have := (HR.out b hb).1; rw [world1_size]; omega)
  | false =>
    have HI := hid hi
    rw [h2 hi]
    clear h1 h2 hi
    go_wp2_with fail
    go_ret2
    exact ⟨m + 1, _, opened1 HO.out HW.out, ret_tup (by rw [HG.out, HI.out]), fun h => absurd (h.symm.trans (HG.out.trans HI.out)) (by decide)⟩

set_option maxRecDepth 20000 in
set_option maxHeartbeats 1000000 in
theorem openF_atom (f : Fm) (B : Nat → Prop) (w : World) (c0 c1 c2 c3 c4 : Value) (d m bo : Nat) (hA : FormAt B w f c0 c1 c2 c3 c4) (hB : ∀ b, B b → b < w.heap.size ∧ b ≠ bo) (ho : Own w bo 69 #[.int .i64 m]) (hm : m < 1500) (hd : d ≤ 60) (hs : f.sort = 2) :
    Calls Tryz.prog 37 #[.pointer (some ⟨bo, 0, none⟩), .agg #[c0, c1, c2, c3, c4], .int .i64 d] w fun e w' => ∃ (m' : Int) (v : Value), Opened bo w w' m' ∧ e = .returned (.tuple #[v, .bool (goodB f d m)]) ∧ (goodB f d m = true → m' = m + f.sz ∧ InAt (Reg B w w') w' (toIm f) v) := by
  obtain ⟨rfl, rfl, ht, h2, rfl, h4⟩ := (formAt_iff _ _ _ _ _ _ _ _).1 hA
  have q0 := ho.cell 0
  have f0 := ho.frozen 0
  simp at q0
  have hlt := ho.lt
  rw [hs] at hA ⊢
  have HA := hid hA
  have H2 := hid h2
  obtain ⟨a2, k2, rfl, -⟩ := h2
  obtain ⟨a4, k4, rfl, -⟩ := h4
  have HR := hid hB
  have HO := hid ho
  have HG := hid (goodB_atom hm hd hs)
  have HT := hid (toIm_atom f hs)
  clear hA hB ho hs
  go_enter Tryz.func37, Tryz.ntmps37
  go_wp2_with fail
  refine (openAtom_any f B (world1 w bo m _) _ _ _ _ _ (FormAt.keep (world1_same HR.out m _) f HA.out)).mono ?_
  rintro e w2 ⟨h1, h2, hw⟩
  have HW := hid hw
  clear hw
  cases hi : atomFormB f with
  | true =>
    have HI := hid hi
    rw [h1 hi]
    clear h1 h2 hi
    go_wp2_with fail
    go_ret2
    refine ⟨m + 1, _, opened1 HO.out HW.out, ret_tup (by rw [HG.out, HI.out]), fun _ => ⟨?_, ?_⟩⟩
    · have h := HI.out
      unfold atomFormB at h
      simp only [Bool.and_eq_true, decide_eq_true_eq] at h
      rw [sz_one (by omega)]; rfl
    · rw [HT.out]
      rw [InAt_atom]
      exact ⟨rfl, ht⟩
  | false =>
    have HI := hid hi
    rw [h2 hi]
    clear h1 h2 hi
    go_wp2_with fail
    go_ret2
    exact ⟨m + 1, _, opened1 HO.out HW.out, ret_tup (by rw [HG.out, HI.out]), fun h => absurd (h.symm.trans (HG.out.trans HI.out)) (by decide)⟩

end Go.Proofs.YtjbejnibiebjgaaGreat
