/-
  The model's l1IdOk returns, at every text, whether it is an identifier; the world is as it was. Condition: the text's size is one that a Go string can have.
  The model's l1Size returns how many forms a form is. Condition: the form lies in memory, and is not too great.
  The model's l1Ok of an identifier and of an atom returns whether it is ok. Condition: the form lies in memory as FormAt says.
  The model's l1Ok and ExpFormOk return whether a form is ok. Condition: the form lies in memory, and costs at most 1048576.
  The model's l3Ints, l3Same, l3Among, l3Dots, l3Blank, l3Parts, l3Repeat: which identifiers are the same, what is dots. Condition: the forms lie in memory as FormAt says.
  Memory: a form as it lies in memory, each list of kids with room for them (FormAt, and how much room there is). No program is named.
  The model's l3Parts, l3Repeat and l3PatternOk. Condition: the form lies in memory as FormAt says, and is ok.
-/
import Derived.Test.YthlacjabelpehaaGreatDoorPart5
import Derived.Test.YthlacjabelpehaaGreatDoorShelf
import Derived.Deep.RegionWith
import Derived.Deep.RegionHeld3
import Derived.BigQuiet
import Derived.Test.YthlacjabelpehaaGreatDoorPart1
namespace Go.Proofs.YthlacjabelpehaaGreatDoor
open Go.RowKit Go.Siskin

theorem tl_empty (s : ByteArray) : s.toList.isEmpty = s.data.toList.isEmpty := by rw [Go.ByteArray.toList_eq]

set_option maxHeartbeats 4000000 in
theorem l1IdOk_any (s : ByteArray) (w : World) (hs : s.size ≤ maxLen) :
    Calls Tryz.prog 31 #[.string s] w fun e w' => e = .returned (.bool (idB s.data.toList)) ∧ w' = w := by
  have hs0 := hs
  have HT : Hid (idB s.data.toList = (!(s.toList.isEmpty || s.toList == [46] || atomB s.data.toList || s.data.toList.head? == some 35) && s.data.toList.all wordB)) := by
    show _ = _
    rw [tl_beq, tl_empty]; rfl
  unfold maxLen at hs
  cases h0 : s.toList.isEmpty with
  | true =>
    go_enter Tryz.func31, Tryz.ntmps31
    go_wp2_with fail
    go_ret
    exact ⟨ret_bool (by rw [HT.out, h0]; rfl), rfl⟩
  | false =>
  have h9 : 0 < s.size := by
    by_cases e : s.size = 0
    · rw [tl_empty, empty_size, decide_eq_true e] at h0; cases h0
    · omega
  cases h1 : (s.toList == [46]) with
  | true =>
    go_enter Tryz.func31, Tryz.ntmps31
    go_wp2_with fail
    go_ret
    exact ⟨ret_bool (by rw [HT.out, h1]; simp), rfl⟩
  | false =>
  cases h2 : atomB s.data.toList with
  | true =>
    go_enter Tryz.func31, Tryz.ntmps31
    go_wp2_with (go_at_call 33; refine (l1AtomOk_any _ _ hs0).mono ?_; rintro e w' ⟨rfl, hw⟩; rw [hw]; clear hw w')
    go_ret
    exact ⟨ret_bool (by rw [HT.out, h2]; simp), rfl⟩
  | false =>
  by_cases h3 : (s[0].toNat : Int) = 35
  · have HH : Hid ((s.data.toList.head? == some 35) = true) := by
      show _ = _
      rw [head_size s h9]; exact (u8_some s[0] 35 (by decide)).trans (decide_eq_true h3)
    go_enter Tryz.func31, Tryz.ntmps31
    go_wp2_with (go_at_call 33; refine (l1AtomOk_any _ _ hs0).mono ?_; rintro e w' ⟨rfl, hw⟩; rw [hw]; clear hw w')
    go_ret
    exact ⟨ret_bool (by rw [HT.out, HH.out]; simp), rfl⟩
  have HH : Hid (idB s.data.toList = s.data.toList.all wordB) := by
    show _ = _
    rw [HT.out, h0, h1, h2, head_size s h9, show (some s[0] == some 35) = false from (u8_some s[0] 35 (by decide)).trans (decide_eq_false h3)]; rfl
  clear HT
  have h3' : ((s[0].toNat : Int) == 35) = false := by simpa using h3
  go_enter Tryz.func31, Tryz.ntmps31
  go_wp2_with (go_at_call 33; refine (l1AtomOk_any _ _ hs0).mono ?_; rintro e w' ⟨rfl, hw⟩; rw [hw]; clear hw w')
  go_loop [3] (fun i => ∃ k : Nat, k ≤ s.size ∧ i = .int .i64 k ∧ Hid ((s.data.toList.take k).all wordB = true)) (fun i => s.size - (intOf i).toNat)
  case atStart => exact ⟨0, Nat.zero_le _, rfl, rfl⟩
  case round =>
    obtain ⟨k, hk, rfl, HA⟩ := hrel
    by_cases hlt : k < s.size
    · have bad : Hid ((endsB s[k] = true ∨ (s[k].toNat : Int) < 33 ∨ 126 < (s[k].toNat : Int) ∨ (s[k].toNat : Int) = 126) → false = idB s.data.toList) := by
        intro hb
        rw [HH.out]; exact (all_false s k hlt wordB (word_no _ hb)).symm
      cases a0 : endsB s[k] with
      | true =>
        go_wp2_with (go_at_call 42; refine (l1Ends_any _ _).mono ?_; rintro e w' ⟨rfl, hw⟩; rw [hw]; clear hw w')
        go_ret
        exact ⟨ret_bool (bad.out (Or.inl a0)), rfl⟩
      | false =>
      by_cases a1 : (s[k].toNat : Int) < 33
      · go_wp2_with (go_at_call 42; refine (l1Ends_any _ _).mono ?_; rintro e w' ⟨rfl, hw⟩; rw [hw]; clear hw w')
        go_ret
        exact ⟨ret_bool (bad.out (Or.inr (Or.inl a1))), rfl⟩
      by_cases a2 : 126 < (s[k].toNat : Int)
      · go_wp2_with (go_at_call 42; refine (l1Ends_any _ _).mono ?_; rintro e w' ⟨rfl, hw⟩; rw [hw]; clear hw w')
        go_ret
        exact ⟨ret_bool (bad.out (Or.inr (Or.inr (Or.inl a2)))), rfl⟩
      by_cases a3 : (s[k].toNat : Int) = 126
      · have b1 : 125 < (s[k].toNat : Int) := by omega
        have A3 : Hid _ := a3
        clear a3
        go_wp2_with (go_at_call 42; refine (l1Ends_any _ _).mono ?_; rintro e w' ⟨rfl, hw⟩; rw [hw]; clear hw w')
        · go_ret
          exact ⟨ret_bool (bad.out (Or.inr (Or.inr (Or.inr A3.out)))), rfl⟩
        · rename_i hx
          exact absurd hx.2 (by rw [A3.out]; decide)
      have HI : Hid (wordB s[k] = true) := word_yes _ a0 a1 a2 a3
      have a4 : ((s[k].toNat : Int) == 126) = false := by simpa using a3
      go_wp2_with (go_at_call 42; refine (l1Ends_any _ _).mono ?_; rintro e w' ⟨rfl, hw⟩; rw [hw]; clear hw w')
      go_round
      case rel => exact ⟨k + 1, by omega, by go_num, by show _ = _; rw [all_take_succ s k hlt, HA.out, HI.out]; rfl⟩
      case measure => simp [intOf]; omega
    · go_wp2_with fail
      go_ret
      exact ⟨ret_bool (by rw [HH.out]; exact (all_true s k hlt wordB HA.out).symm), rfl⟩

end Go.Proofs.YthlacjabelpehaaGreatDoor

namespace Go.Proofs.YthlacjabelpehaaGreatDoor
open Go.RowKit Go.Siskin

def SizeForm (n : Nat) : Prop := ∀ f : Fm, f.sz ≤ n → ∀ (B : Nat → Prop) (w : World) (c0 c1 c2 c3 c4 : Value), FormAt B w f c0 c1 c2 c3 c4 → (∀ b, B b → b < w.heap.size) → f.sz ≤ 2000000 →
    Calls Tryz.prog 22 #[.agg #[c0, c1, c2, c3, c4]] w fun e w' => e = .returned (.int .i64 f.sz) ∧ Below w.heap.size w w'

set_option maxHeartbeats 1000000 in
theorem sizeForm_of (n : Nat) (ih : SizeForm n) : SizeForm (n + 1) := by
  intro f hf B w c0 c1 c2 c3 c4 hA hB h0
  obtain ⟨rfl, rfl, ht, h2, rfl, h4⟩ := (formAt_iff _ _ _ _ _ _ _ _).1 hA
  have HS := hid (Fm.sz_kids f)
  have H4 := hid h4
  have HI := hid ih
  have HR := hid hB
  obtain ⟨a, ca, rfl, hla, ha⟩ := h4
  unfold maxLen at hla
  clear hA ih hB h2
  go_enter Tryz.func22, Tryz.ntmps22
  go_wp2_with fail
  go_loopw [3, 4] (fun s i wr => ∃ k : Nat, k ≤ f.kids.length ∧ i = .int .i64 k ∧ ∃ m : Nat, s = .int .i64 m ∧ m ≤ 2000000 ∧ Hid (m = 1 + Fm.szs (f.kids.take k)) ∧ Hid (Below (w.heap.size + 1) (w.alloc (.cells #[.int .i64 f.sort, .string f.text, c2, .int .i64 f.frm, .slice a f.kids.length ca] 31)) wr)) (fun _ i _ => f.kids.length - (intOf i).toNat)
  case atStart => exact ⟨0, Nat.zero_le _, rfl, 1, rfl, by omega, by show _ = _; simp [Fm.szs], Below.refl _ _⟩
  case round =>
    obtain ⟨k, hk, rfl, m, rfl, hm, HM, HB⟩ := hrel
    have hcell : ∀ o, wr.cell? ⟨w.heap.size, o, none⟩ = (w.alloc (.cells #[.int .i64 f.sort, .string f.text, c2, .int .i64 f.frm, .slice a f.kids.length ca] 31)).cell? ⟨w.heap.size, o, none⟩ := fun o => HB.out.cell (p := ⟨w.heap.size, o, none⟩) (by simp)
    by_cases hlt : k < f.kids.length
    · rcases ha with ha | ⟨ba, oa, rfl, hb, ha⟩
      · rw [ha] at hlt; simp at hlt
      have hrow := RowAt.keep (((SameOn.refl _ _).alloc HR.out _).below HB.out (fun b hb => by have := HR.out b hb; omega)) hb f.kids ha
      obtain ⟨c0, c1, c2', c3, c4, g0, g1, g2, g3, g4, hf'⟩ := RowAt.get f.kids hrow k hlt
      have HT := hid (Fm.szs_take f.kids k hlt)
      have HL := hid (Fm.szs_take_le f.kids (k + 1))
      have hsz := HB.out.size
      have HC := hid (HI.out f.kids[k] (by have := Fm.szs_get f.kids k hlt; have := HS.out; omega) B wr c0 c1 c2' c3 c4 hf' (fun b hb => by have := HR.out b hb; simp at hsz; omega) (by have := Fm.szs_get f.kids k hlt; have := HS.out; omega))
      have hle : (f.kids[k].sz : Int) ≤ 2000000 := by have := Fm.szs_get f.kids k hlt; have := HS.out; omega
      clear ha hrow hf' HI
      go_wp2_with (go_at_call 22; refine HC.out.mono ?_; rintro e w' ⟨rfl, hw⟩)
      have h1 := HM.out
      have h2 := HT.out
      have h3 := HL.out
      have h4 := HS.out
      exact ⟨⟨k + 1, by omega, by go_num, m + f.kids[k].sz, by go_num, by omega, by show _ = _; omega, HB.out.trans (hw.mono (by simpa using hsz))⟩, by simp [intOf]; omega⟩
    · go_wp2_with fail
      go_ret
      refine ⟨ret_int ?_, ((Below.refl _ _).alloc (Nat.le_refl _) _).trans (HB.out.mono (by omega))⟩
      have h1 := HM.out
      have h2 := HS.out
      rw [List.take_of_length_le (by omega)] at h1
      omega

theorem sizeForm_all : ∀ n, SizeForm n
  | 0 => fun f hf => by have := Fm.sz_kids f; omega
  | n + 1 => sizeForm_of n (sizeForm_all n)

theorem l1Size_any (f : Fm) (B : Nat → Prop) (w : World) (c0 c1 c2 c3 c4 : Value) (h : FormAt B w f c0 c1 c2 c3 c4) (hB : ∀ b, B b → b < w.heap.size) (h0 : f.sz ≤ 2000000) :
    Calls Tryz.prog 22 #[.agg #[c0, c1, c2, c3, c4]] w fun e w' => e = .returned (.int .i64 f.sz) ∧ Below w.heap.size w w' :=
  sizeForm_all f.sz f (Nat.le_refl _) B w c0 c1 c2 c3 c4 h hB h0

end Go.Proofs.YthlacjabelpehaaGreatDoor

namespace Go.Proofs.YthlacjabelpehaaGreatDoor
open Go.RowKit Go.Siskin

theorem belowM {B : Nat} {a w : World} (h : Below B a w) (n : Nat) : Below B a (w.drewN n) := h.trans ⟨rfl, rfl, rfl, Nat.le_refl _, fun _ _ => rfl⟩

theorem idForm_0 {f : Fm} (h1 : idB f.text.data.toList = true) (h2 : (f.text.size : Int) ≤ 40) (h3 : 0 ≤ f.frm) (h4 : scopesB f.scopes = true) : ((f.kids.length : Int) == 0) = idFormB f := by
  unfold idFormB; rw [h1, h4, decide_eq_true (by omega), decide_eq_true h3]
  by_cases h : f.kids.length = 0
  · rw [decide_eq_true h, h]; rfl
  · rw [decide_eq_false h, Bool.and_false, beq_eq_false_iff_ne]; omega
theorem idForm_1 {f : Fm} (h : ¬ idB f.text.data.toList = true) : false = idFormB f := by
  unfold idFormB; rw [show idB f.text.data.toList = false from by simpa using h]; rfl
theorem idForm_2 {f : Fm} (h : 40 < (f.text.size : Int)) : false = idFormB f := by
  unfold idFormB; rw [decide_eq_false (p := f.text.size ≤ 40) (by omega)]; simp
theorem idForm_3 {f : Fm} (h : f.frm < 0) : false = idFormB f := by
  unfold idFormB; rw [decide_eq_false (p := 0 ≤ f.frm) (by omega)]; simp
theorem idForm_4 {f : Fm} (h : ¬ scopesB f.scopes = true) : false = idFormB f := by
  unfold idFormB; rw [show scopesB f.scopes = false from by simpa using h]; simp
theorem atomForm_0 {f : Fm} (h1 : atomB f.text.data.toList = true) (h2 : (f.text.size : Int) ≤ 40) (h3 : f.frm = 0) : ((f.scopes.length + f.kids.length : Int) == 0) = atomFormB f := by
  unfold atomFormB; rw [h1, decide_eq_true (by omega), decide_eq_true h3]
  by_cases h : f.scopes.length + f.kids.length = 0
  · rw [decide_eq_true h, beq_iff_eq.2 (by omega)]; rfl
  · rw [decide_eq_false h, Bool.and_false, beq_eq_false_iff_ne]; omega
theorem atomForm_1 {f : Fm} (h : ¬ atomB f.text.data.toList = true) : false = atomFormB f := by
  unfold atomFormB; rw [show atomB f.text.data.toList = false from by simpa using h]; rfl
theorem atomForm_2 {f : Fm} (h : 40 < (f.text.size : Int)) : false = atomFormB f := by
  unfold atomFormB; rw [decide_eq_false (p := f.text.size ≤ 40) (by omega)]; simp
theorem atomForm_3 {f : Fm} (h : ¬ f.frm = 0) : false = atomFormB f := by
  unfold atomFormB; rw [decide_eq_false (p := f.frm = 0) (by omega)]; simp

def OkForm (n : Nat) : Prop := ∀ f : Fm, f.sz ≤ n → ∀ (B : Nat → Prop) (w : World) (c0 c1 c2 c3 c4 : Value) (d : Nat), FormAt B w f c0 c1 c2 c3 c4 → (∀ b, B b → b < w.heap.size) → d ≤ 100 → f.cost ≤ 1048576 →
    Calls Tryz.prog 21 #[.agg #[c0, c1, c2, c3, c4], .int .i64 d] w fun e w' => e = .returned (.bool (okB f d)) ∧ Below w.heap.size w w'

set_option maxHeartbeats 1000000 in
theorem okForm_id (f : Fm) (B : Nat → Prop) (w : World) (c0 c1 c2 c3 c4 : Value) (d : Nat) (hA : FormAt B w f c0 c1 c2 c3 c4) (hB : ∀ b, B b → b < w.heap.size) (hd : d ≤ 60) (hs : f.sort = 1) :
    Calls Tryz.prog 21 #[.agg #[c0, c1, c2, c3, c4], .int .i64 d] w fun e w' => e = .returned (.bool (okB f d)) ∧ Below w.heap.size w w' := by
  obtain ⟨rfl, rfl, ht, h2, rfl, h4⟩ := (formAt_iff _ _ _ _ _ _ _ _).1 hA
  rw [hs]
  have H2 := hid h2
  have HR := hid hB
  obtain ⟨a2, k2, rfl, hl2, -⟩ := h2
  obtain ⟨a4, k4, rfl, hl4, -⟩ := h4
  have HX := hid (okB_id f d hd hs)
  have Hht := hid ht
  unfold maxLen at hl2 hl4 ht
  clear hA hB hs
  go_enter Tryz.func21, Tryz.ntmps21
  go_wp2_with (first
    | (go_at_call 31; refine (l1IdOk_any _ _ Hht.out).mono ?_; rintro e w' ⟨rfl, hw⟩; rw [hw]; clear hw w')
    | (go_at_call 32; refine (l1ScopesOk_any B _ f.scopes _ (H2.out.keep ((SameOn.refl _ _).alloc HR.out _))).mono ?_; rintro e w' ⟨rfl, m, rfl⟩))
  all_goals go_ret
  all_goals refine ⟨ret_bool ?_, ?_⟩
  all_goals first
    | exact (Below.refl _ _).alloc (Nat.le_refl _) _
    | exact belowM ((Below.refl _ _).alloc (Nat.le_refl _) _) _
    | skip
  all_goals rw [HX.out]
  all_goals first
    | exact idForm_0 ‹_› ‹_› ‹_› ‹_›
    | exact idForm_1 ‹_›
    | exact idForm_2 ‹_›
    | exact idForm_3 ‹_›
    | exact idForm_4 ‹_›

set_option maxHeartbeats 1000000 in
theorem okForm_atom (f : Fm) (B : Nat → Prop) (w : World) (c0 c1 c2 c3 c4 : Value) (d : Nat) (hA : FormAt B w f c0 c1 c2 c3 c4) (hd : d ≤ 60) (hs : f.sort = 2) (hc : f.cost ≤ 1048576) :
    Calls Tryz.prog 21 #[.agg #[c0, c1, c2, c3, c4], .int .i64 d] w fun e w' => e = .returned (.bool (okB f d)) ∧ Below w.heap.size w w' := by
  obtain ⟨rfl, rfl, ht, h2, rfl, h4⟩ := (formAt_iff _ _ _ _ _ _ _ _).1 hA
  rw [hs]
  obtain ⟨a2, k2, rfl, hl2, -⟩ := h2
  obtain ⟨a4, k4, rfl, hl4, -⟩ := h4
  have HX := hid (okB_atom f d hd hs)
  have Hht := hid ht
  clear hA hs
  have hb1 : f.scopes.length ≤ 1048576 := by have := Fm.cost_eq f; omega
  have hb2 : f.kids.length ≤ 1048576 := by have := Fm.cost_eq f; omega
  · unfold maxLen at hl2 hl4 ht
    go_enter Tryz.func21, Tryz.ntmps21
    go_wp2_with (go_at_call 33; refine (l1AtomOk_any _ _ Hht.out).mono ?_; rintro e w' ⟨rfl, hw⟩; rw [hw]; clear hw w')
    all_goals go_ret
    all_goals refine ⟨ret_bool ?_, (Below.refl _ _).alloc (Nat.le_refl _) _⟩
    all_goals rw [HX.out]
    all_goals first
      | exact atomForm_0 ‹_› ‹_› ‹_›
      | exact atomForm_1 ‹_›
      | exact atomForm_2 ‹_›
      | exact atomForm_3 ‹_›

end Go.Proofs.YthlacjabelpehaaGreatDoor

namespace Go.Proofs.YthlacjabelpehaaGreatDoor
open Go.RowKit Go.Siskin

theorem listForm_1 {f : Fm} (h : f.text.toList.isEmpty = false) : false = listFormB f := by
  unfold listFormB
  rw [tl_empty, empty_size] at h
  rw [h]; rfl
theorem listForm_2 {f : Fm} (h : ¬ f.frm = 0) : false = listFormB f := by
  unfold listFormB; rw [decide_eq_false h]; simp
theorem listForm_3 {f : Fm} (h : 0 < f.scopes.length) : false = listFormB f := by
  unfold listFormB; rw [decide_eq_false (p := f.scopes.length = 0) (by omega)]; simp
theorem listForm_0 {f : Fm} (h1 : f.text.toList.isEmpty = true) (h2 : f.frm = 0) (h3 : f.scopes.length = 0) : listFormB f = true := by
  unfold listFormB
  rw [tl_empty, empty_size] at h1
  rw [h1, decide_eq_true h2, decide_eq_true h3]; rfl


set_option maxHeartbeats 1000000 in
theorem okForm_bad3 (f : Fm) (B : Nat → Prop) (w : World) (c0 c1 c2 c3 c4 : Value) (d : Nat) (hA : FormAt B w f c0 c1 c2 c3 c4) (hd : d ≤ 60) (hs : f.sort = 3) (hl : listFormB f = false) :
    Calls Tryz.prog 21 #[.agg #[c0, c1, c2, c3, c4], .int .i64 d] w fun e w' => e = .returned (.bool (okB f d)) ∧ Below w.heap.size w w' := by
  obtain ⟨rfl, rfl, ht, h2, rfl, h4⟩ := (formAt_iff _ _ _ _ _ _ _ _).1 hA
  rw [hs]
  obtain ⟨a2, k2, rfl, hl2, -⟩ := h2
  obtain ⟨a4, k4, rfl, hl4, -⟩ := h4
  have HX : Hid (false = okB f d) := by
    show _ = _
    rw [okB_list f d hd hs, hl]; rfl
  have HL := hid hl
  unfold maxLen at hl2 hl4 ht
  clear hA hs hl
  cases e1 : f.text.toList.isEmpty with
  | false =>
    go_enter Tryz.func21, Tryz.ntmps21
    go_wp2_with fail
    go_ret
    exact ⟨ret_bool HX.out, (Below.refl _ _).alloc (Nat.le_refl _) _⟩
  | true =>
  by_cases e2 : f.frm = 0
  · rw [e2]
    by_cases e3 : 0 < f.scopes.length
    · have HE := hid e2
      clear e2
      go_enter Tryz.func21, Tryz.ntmps21
      go_wp2_with fail
      go_ret
      exact ⟨ret_bool HX.out, (Below.refl _ _).alloc (Nat.le_refl _) _⟩
    · exact absurd HL.out (by rw [listForm_0 e1 e2 (by omega)]; simp)
  · have e2' : (f.frm != 0) = true := by simpa using e2
    go_enter Tryz.func21, Tryz.ntmps21
    go_wp2_with fail
    go_ret
    exact ⟨ret_bool HX.out, (Below.refl _ _).alloc (Nat.le_refl _) _⟩

set_option maxHeartbeats 2000000 in
theorem okForm_list3 (n : Nat) (ih : OkForm n) (f : Fm) (hf : f.sz ≤ n + 1) (B : Nat → Prop) (w : World) (c0 c1 c2 c3 c4 : Value) (d : Nat) (hA : FormAt B w f c0 c1 c2 c3 c4) (hB : ∀ b, B b → b < w.heap.size) (hd : d ≤ 60) (hs : f.sort = 3) (hl : listFormB f = true) (hcost : f.cost ≤ 1048576) :
    Calls Tryz.prog 21 #[.agg #[c0, c1, c2, c3, c4], .int .i64 d] w fun e w' => e = .returned (.bool (okB f d)) ∧ Below w.heap.size w w' := by
  obtain ⟨rfl, rfl, ht, h2, rfl, h4⟩ := (formAt_iff _ _ _ _ _ _ _ _).1 hA
  have HX := hid (okB_list f d hd hs)
  rw [hs]
  have HS := hid (Fm.sz_kids f)
  have HC := hid (Fm.cost_eq f)
  have HI := hid ih
  have HR := hid hB
  have HL := hid hl
  have e1 : f.text.toList.isEmpty = true := by
    rw [tl_empty, empty_size]; unfold listFormB at hl; simp only [Bool.and_eq_true, decide_eq_true_eq] at hl; exact decide_eq_true hl.1.1
  have e2 : f.frm = 0 := by unfold listFormB at hl; simp only [Bool.and_eq_true, decide_eq_true_eq] at hl; exact hl.1.2
  have e3 : f.scopes.length = 0 := by unfold listFormB at hl; simp only [Bool.and_eq_true, decide_eq_true_eq] at hl; exact hl.2
  obtain ⟨a2, k2, rfl, hl2, -⟩ := h2
  obtain ⟨a4, k4, rfl, hl4, ha⟩ := h4
  unfold maxLen at hl4
  rw [e2, e3]
  clear hA ih hB hl hl2 ht hs e2 e3
  go_enter Tryz.func21, Tryz.ntmps21
  go_wp2_with fail
  go_loopw [5] (fun i wr => ∃ k : Nat, k ≤ f.kids.length ∧ i = .int .i64 k ∧ Hid (oksB (f.kids.take k) (d + 1) = true) ∧ Hid (Below (w.heap.size + 1) (w.alloc (.cells #[.int .i64 3, .string f.text, .slice a2 0 k2, .int .i64 0, .slice a4 f.kids.length k4] 31)) wr)) (fun i _ => f.kids.length - (intOf i).toNat)
  case atStart => exact ⟨0, Nat.zero_le _, rfl, by show _ = _; simp [oksB], Below.refl _ _⟩
  case round =>
    obtain ⟨k, hk, rfl, HO, HB⟩ := hrel
    have hcell : ∀ o, wr.cell? ⟨w.heap.size, o, none⟩ = (w.alloc (.cells #[.int .i64 3, .string f.text, .slice a2 0 k2, .int .i64 0, .slice a4 f.kids.length k4] 31)).cell? ⟨w.heap.size, o, none⟩ := fun o => HB.out.cell (p := ⟨w.heap.size, o, none⟩) (by simp)
    by_cases hlt : k < f.kids.length
    · rcases ha with ha | ⟨ba, oa, rfl, hb, ha⟩
      · rw [ha] at hlt; simp at hlt
      have hrow := RowAt.keep (((SameOn.refl _ _).alloc HR.out _).below HB.out (fun b hb => by have := HR.out b hb; omega)) hb f.kids ha
      obtain ⟨c0, c1, c2, c3, c4, g0, g1, g2, g3, g4, hf'⟩ := RowAt.get f.kids hrow k hlt
      have hsz := HB.out.size
      have HC' := hid (HI.out f.kids[k] (by have := Fm.szs_get f.kids k hlt; have := HS.out; omega) B wr c0 c1 c2 c3 c4 (d + 1) hf' (fun b hb => by have := HR.out b hb; simp at hsz; omega) (by omega) (by have := Fm.costs_get f.kids k hlt; have := HC.out; omega))
      have HT := hid (oksB_take f.kids k (d + 1) hlt)
      clear ha hrow hf' HI
      cases hok : okB f.kids[k] (d + 1) with
      | false =>
        have HY := hid (oksB_bad f.kids k (d + 1) hlt hok)
        go_wp2_with (go_at_call 21; refine HC'.out.mono ?_; rintro e w' ⟨rfl, hw⟩)
        go_ret
        refine ⟨ret_bool (by rw [HX.out, HY.out]; simp), ?_⟩
        exact ((Below.refl _ _).alloc (Nat.le_refl _) _).trans ((HB.out.trans (hw.mono (by simpa using hsz))).mono (by omega))
      | true =>
        go_wp2_with (go_at_call 21; refine HC'.out.mono ?_; rintro e w' ⟨rfl, hw⟩)
        exact ⟨⟨k + 1, by omega, by go_num, by show _ = _; rw [HT.out, HO.out, hok]; rfl, HB.out.trans (hw.mono (by simpa using hsz))⟩, by simp [intOf]; omega⟩
    · have HK : Hid (oksB f.kids (d + 1) = true) := by
        have h := HO.out
        rw [List.take_of_length_le (by omega)] at h
        exact h
      have HLo := hid (((Below.refl w.heap.size w).alloc (Nat.le_refl _) (.cells #[.int .i64 3, .string f.text, .slice a2 0 k2, .int .i64 0, .slice a4 f.kids.length k4] 31)).trans (HB.out.mono (by omega)))
      go_wp2_with fail
      go_ret
      exact ⟨ret_bool (by rw [HX.out, HK.out, HL.out]; rfl), HLo.out⟩


set_option maxHeartbeats 1000000 in
theorem okForm_bad4 (f : Fm) (B : Nat → Prop) (w : World) (c0 c1 c2 c3 c4 : Value) (d : Nat) (hA : FormAt B w f c0 c1 c2 c3 c4) (hd : d ≤ 60) (hs : f.sort = 4) (hl : listFormB f = false) :
    Calls Tryz.prog 21 #[.agg #[c0, c1, c2, c3, c4], .int .i64 d] w fun e w' => e = .returned (.bool (okB f d)) ∧ Below w.heap.size w w' := by
  obtain ⟨rfl, rfl, ht, h2, rfl, h4⟩ := (formAt_iff _ _ _ _ _ _ _ _).1 hA
  rw [hs]
  obtain ⟨a2, k2, rfl, hl2, -⟩ := h2
  obtain ⟨a4, k4, rfl, hl4, -⟩ := h4
  have HX : Hid (false = okB f d) := by
    show _ = _
    rw [okB_dots f d hd hs, hl]; rfl
  have HL := hid hl
  unfold maxLen at hl2 hl4 ht
  clear hA hs hl
  cases e1 : f.text.toList.isEmpty with
  | false =>
    go_enter Tryz.func21, Tryz.ntmps21
    go_wp2_with fail
    go_ret
    exact ⟨ret_bool HX.out, (Below.refl _ _).alloc (Nat.le_refl _) _⟩
  | true =>
  by_cases e2 : f.frm = 0
  · rw [e2]
    by_cases e3 : 0 < f.scopes.length
    · have HE := hid e2
      clear e2
      go_enter Tryz.func21, Tryz.ntmps21
      go_wp2_with fail
      go_ret
      exact ⟨ret_bool HX.out, (Below.refl _ _).alloc (Nat.le_refl _) _⟩
    · exact absurd HL.out (by rw [listForm_0 e1 e2 (by omega)]; simp)
  · have e2' : (f.frm != 0) = true := by simpa using e2
    go_enter Tryz.func21, Tryz.ntmps21
    go_wp2_with fail
    go_ret
    exact ⟨ret_bool HX.out, (Below.refl _ _).alloc (Nat.le_refl _) _⟩

set_option maxHeartbeats 2000000 in
theorem okForm_list4 (n : Nat) (ih : OkForm n) (f : Fm) (hf : f.sz ≤ n + 1) (B : Nat → Prop) (w : World) (c0 c1 c2 c3 c4 : Value) (d : Nat) (hA : FormAt B w f c0 c1 c2 c3 c4) (hB : ∀ b, B b → b < w.heap.size) (hd : d ≤ 60) (hs : f.sort = 4) (hl : listFormB f = true) (hcost : f.cost ≤ 1048576) :
    Calls Tryz.prog 21 #[.agg #[c0, c1, c2, c3, c4], .int .i64 d] w fun e w' => e = .returned (.bool (okB f d)) ∧ Below w.heap.size w w' := by
  obtain ⟨rfl, rfl, ht, h2, rfl, h4⟩ := (formAt_iff _ _ _ _ _ _ _ _).1 hA
  have HX := hid (okB_dots f d hd hs)
  rw [hs]
  have HS := hid (Fm.sz_kids f)
  have HC := hid (Fm.cost_eq f)
  have HI := hid ih
  have HR := hid hB
  have HL := hid hl
  have e1 : f.text.toList.isEmpty = true := by
    rw [tl_empty, empty_size]; unfold listFormB at hl; simp only [Bool.and_eq_true, decide_eq_true_eq] at hl; exact decide_eq_true hl.1.1
  have e2 : f.frm = 0 := by unfold listFormB at hl; simp only [Bool.and_eq_true, decide_eq_true_eq] at hl; exact hl.1.2
  have e3 : f.scopes.length = 0 := by unfold listFormB at hl; simp only [Bool.and_eq_true, decide_eq_true_eq] at hl; exact hl.2
  obtain ⟨a2, k2, rfl, hl2, -⟩ := h2
  obtain ⟨a4, k4, rfl, hl4, ha⟩ := h4
  unfold maxLen at hl4
  rw [e2, e3]
  clear hA ih hB hl hl2 ht hs e2 e3
  go_enter Tryz.func21, Tryz.ntmps21
  go_wp2_with fail
  go_loopw [5] (fun i wr => ∃ k : Nat, k ≤ f.kids.length ∧ i = .int .i64 k ∧ Hid (oksB (f.kids.take k) (d + 1) = true) ∧ Hid (Below (w.heap.size + 1) (w.alloc (.cells #[.int .i64 4, .string f.text, .slice a2 0 k2, .int .i64 0, .slice a4 f.kids.length k4] 31)) wr)) (fun i _ => f.kids.length - (intOf i).toNat)
  case atStart => exact ⟨0, Nat.zero_le _, rfl, by show _ = _; simp [oksB], Below.refl _ _⟩
  case round =>
    obtain ⟨k, hk, rfl, HO, HB⟩ := hrel
    have hcell : ∀ o, wr.cell? ⟨w.heap.size, o, none⟩ = (w.alloc (.cells #[.int .i64 4, .string f.text, .slice a2 0 k2, .int .i64 0, .slice a4 f.kids.length k4] 31)).cell? ⟨w.heap.size, o, none⟩ := fun o => HB.out.cell (p := ⟨w.heap.size, o, none⟩) (by simp)
    by_cases hlt : k < f.kids.length
    · rcases ha with ha | ⟨ba, oa, rfl, hb, ha⟩
      · rw [ha] at hlt; simp at hlt
      have hrow := RowAt.keep (((SameOn.refl _ _).alloc HR.out _).below HB.out (fun b hb => by have := HR.out b hb; omega)) hb f.kids ha
      obtain ⟨c0, c1, c2, c3, c4, g0, g1, g2, g3, g4, hf'⟩ := RowAt.get f.kids hrow k hlt
      have hsz := HB.out.size
      have HC' := hid (HI.out f.kids[k] (by have := Fm.szs_get f.kids k hlt; have := HS.out; omega) B wr c0 c1 c2 c3 c4 (d + 1) hf' (fun b hb => by have := HR.out b hb; simp at hsz; omega) (by omega) (by have := Fm.costs_get f.kids k hlt; have := HC.out; omega))
      have HT := hid (oksB_take f.kids k (d + 1) hlt)
      clear ha hrow hf' HI
      cases hok : okB f.kids[k] (d + 1) with
      | false =>
        have HY := hid (oksB_bad f.kids k (d + 1) hlt hok)
        go_wp2_with (go_at_call 21; refine HC'.out.mono ?_; rintro e w' ⟨rfl, hw⟩)
        go_ret
        refine ⟨ret_bool (by rw [HX.out, HY.out]; simp), ?_⟩
        exact ((Below.refl _ _).alloc (Nat.le_refl _) _).trans ((HB.out.trans (hw.mono (by simpa using hsz))).mono (by omega))
      | true =>
        go_wp2_with (go_at_call 21; refine HC'.out.mono ?_; rintro e w' ⟨rfl, hw⟩)
        exact ⟨⟨k + 1, by omega, by go_num, by show _ = _; rw [HT.out, HO.out, hok]; rfl, HB.out.trans (hw.mono (by simpa using hsz))⟩, by simp [intOf]; omega⟩
    · have HK : Hid (oksB f.kids (d + 1) = true) := by
        have h := HO.out
        rw [List.take_of_length_le (by omega)] at h
        exact h
      have HLo := hid (((Below.refl w.heap.size w).alloc (Nat.le_refl _) (.cells #[.int .i64 4, .string f.text, .slice a2 0 k2, .int .i64 0, .slice a4 f.kids.length k4] 31)).trans (HB.out.mono (by omega)))
      by_cases hn : 1 < f.kids.length
      · rcases ha with ha | ⟨ba, oa, rfl, hb, ha⟩
        · rw [ha] at hn; simp at hn
        have hrow := RowAt.keep (((SameOn.refl _ _).alloc HR.out _).below HB.out (fun b hb => by have := HR.out b hb; omega)) hb f.kids ha
        obtain ⟨c0, c1, c2, c3, c4, g0, -, -, -, -, hf'⟩ := RowAt.get f.kids hrow (f.kids.length - 1) (by omega)
        obtain ⟨rfl, -⟩ := (formAt_iff _ _ _ _ _ _ _ _).1 hf'
        have HE : Hid (endB f.kids = (decide (f.kids[f.kids.length - 1].sort = 1) || decide (f.kids[f.kids.length - 1].sort = 2))) := by
          show _ = _
          unfold endB
          rw [decide_eq_true hn, List.getD_eq_getElem?_getD, List.getElem?_eq_getElem (by omega)]; rfl
        have HY : Hid (okB f d = (decide (f.kids[f.kids.length - 1].sort = 1) || decide (f.kids[f.kids.length - 1].sort = 2))) := by
          show _ = _
          rw [HX.out, HK.out, HL.out, HE.out]; rfl
        generalize f.kids[f.kids.length - 1].sort = z at *
        have hn' : (1 : Int) < (f.kids.length : Int) := by omega
        clear ha hrow hf' HI HE
        go_wp2_with fail
        · rename_i hz
          go_ret
          exact ⟨ret_bool (by rw [HY.out, hz]; rfl), HLo.out⟩
        · rename_i hz _
          go_ret
          refine ⟨ret_bool ?_, HLo.out⟩
          rw [HY.out, decide_eq_false hz]
          by_cases h2 : z = 2
          · rw [h2]; rfl
          · rw [decide_eq_false h2, beq_eq_false_iff_ne.2 h2, beq_eq_false_iff_ne.2 hz]
      · have HE : Hid (endB f.kids = false) := by
          show _ = _
          unfold endB; rw [decide_eq_false hn]; rfl
        go_wp2_with fail
        go_ret
        exact ⟨ret_bool (by rw [HX.out, HE.out]; simp), HLo.out⟩

set_option maxHeartbeats 1000000 in
theorem okForm_of (n : Nat) (ih : OkForm n) : OkForm (n + 1) := by
  intro f hf B w c0 c1 c2 c3 c4 d hA hB hd hc
  by_cases h60 : 60 < d
  · have HX := hid (okB_deep f d h60)
    go_enter Tryz.func21, Tryz.ntmps21
    go_wp2_with fail
    go_ret
    exact ⟨ret_bool HX.out.symm, (Below.refl _ _).alloc (Nat.le_refl _) _⟩
  by_cases s1 : f.sort = 1
  · exact okForm_id f B w c0 c1 c2 c3 c4 d hA hB (by omega) s1
  by_cases s2 : f.sort = 2
  · exact okForm_atom f B w c0 c1 c2 c3 c4 d hA (by omega) s2 hc
  by_cases s3 : f.sort = 3
  · cases hl : listFormB f with
    | false => exact okForm_bad3 f B w c0 c1 c2 c3 c4 d hA (by omega) s3 hl
    | true => exact okForm_list3 n ih f hf B w c0 c1 c2 c3 c4 d hA hB (by omega) s3 hl hc
  by_cases s4 : f.sort = 4
  · cases hl : listFormB f with
    | false => exact okForm_bad4 f B w c0 c1 c2 c3 c4 d hA (by omega) s4 hl
    | true => exact okForm_list4 n ih f hf B w c0 c1 c2 c3 c4 d hA hB (by omega) s4 hl hc
  have HX := hid (okB_none f d s1 s2 s3 s4)
  obtain ⟨rfl, rfl, ht, h2, rfl, h4⟩ := (formAt_iff _ _ _ _ _ _ _ _).1 hA
  have b1 : (f.sort == 1) = false := by simpa using s1
  have b2 : (f.sort == 2) = false := by simpa using s2
  have b3 : (f.sort == 3) = false := by simpa using s3
  have b4 : (f.sort == 4) = false := by simpa using s4
  clear hA h2 h4 s1 s2 s3 s4 hB ih
  go_enter Tryz.func21, Tryz.ntmps21
  go_wp2_with fail
  go_ret
  exact ⟨ret_bool HX.out.symm, (Below.refl _ _).alloc (Nat.le_refl _) _⟩

theorem okForm_all : ∀ n, OkForm n
  | 0 => fun f hf => by have := Fm.sz_kids f; omega
  | n + 1 => okForm_of n (okForm_all n)

/-- The model's ExpFormOk: ok, and not too many forms. -/
def formOk (f : Fm) : Bool := okB f 0 && decide (f.sz ≤ 1500)

set_option maxHeartbeats 1000000 in
theorem specFormOk_any (f : Fm) (B : Nat → Prop) (w : World) (c0 c1 c2 c3 c4 : Value) (hA : FormAt B w f c0 c1 c2 c3 c4) (hB : ∀ b, B b → b < w.heap.size) (hc : f.cost ≤ 1048576) :
    Calls Tryz.prog 13 #[.agg #[c0, c1, c2, c3, c4]] w fun e w' => e = .returned (.bool (formOk f)) ∧ Below w.heap.size w w' := by
  have H1 := hid (okForm_all f.sz f (Nat.le_refl _) B (w.alloc (.cells #[c0, c1, c2, c3, c4] 31)) c0 c1 c2 c3 c4 0 (FormAt.keep ((SameOn.refl _ _).alloc hB _) _ hA) (fun b hb => by have := hB b hb; simp; omega) (by omega) hc)
  have hsz : f.sz ≤ 2000000 := by have := Fm.sz_le f; omega
  have HA := hid hA
  have HR := hid hB
  obtain ⟨rfl, rfl, -, h2, rfl, h4⟩ := (formAt_iff _ _ _ _ _ _ _ _).1 hA
  obtain ⟨a2, k2, rfl, -⟩ := h2
  obtain ⟨a4, k4, rfl, -⟩ := h4
  clear hA hB
  cases h0 : okB f 0 with
  | false =>
    go_enter Tryz.func13, Tryz.ntmps13
    go_wp2_with (go_at_call 21; refine H1.out.mono ?_; rintro e w1 ⟨rfl, hw⟩)
    go_ret
    exact ⟨ret_bool (by unfold formOk; rw [h0]; rfl), ((Below.refl _ _).alloc (Nat.le_refl _) _).trans (hw.mono (by simp))⟩
  | true =>
    go_enter Tryz.func13, Tryz.ntmps13
    go_wp2_with fail
    refine H1.out.mono ?_
    rintro e w1 ⟨rfl, hw⟩
    rw [h0]
    obtain ⟨hc1, -⟩ := bcell hw
    have hz1 : w.heap.size < w1.heap.size := by have := hw.size; simp at this; omega
    have HW := hid hw
    clear hw
    go_wp2_with fail
    refine (l1Size_any f B w1 _ _ _ _ _ (FormAt.keep (((SameOn.refl _ _).alloc HR.out _).below HW.out (fun b hb => by have := HR.out b hb; simp; omega)) _ HA.out) (fun b hb => by have := HR.out b hb; omega) hsz).mono ?_
    rintro e w2 ⟨rfl, hw2⟩
    go_wp2_with fail
    go_ret
    refine ⟨ret_bool ?_, (((Below.refl _ _).alloc (Nat.le_refl _) _).trans (HW.out.mono (by simp))).trans (hw2.mono (by omega))⟩
    unfold formOk; rw [h0, Bool.true_and]; exact decide_eq_decide.2 (by omega)

end Go.Proofs.YthlacjabelpehaaGreatDoor

namespace Go.Proofs.YthlacjabelpehaaGreatDoor
open Go.RowKit Go.Siskin

set_option maxHeartbeats 1000000 in
theorem l3Ints_any (B : Nat → Prop) (va vb : Value) (xs ys : List Int) (w : World) (ha : IntsAt B w va xs) (hb : IntsAt B w vb ys) :
    Calls Tryz.prog 35 #[va, vb] w fun e w' => e = .returned (.bool (xs == ys)) ∧ ∃ n, w' = w.drewN n := by
  obtain ⟨a, ca, rfl, hla, ha⟩ := ha
  obtain ⟨b, cb, rfl, hlb, hb⟩ := hb
  unfold maxLen at hla hlb
  by_cases hn : xs.length = ys.length
  · go_enter Tryz.func35, Tryz.ntmps35
    have hn' : ((xs.length : Int) != (ys.length : Int)) = false := by simp [hn]
    have HN : Hid _ := hn
    clear hn
    go_wp2_with fail
    go_loopw [5] (fun i wr => (∃ n, wr = w.drewN n) ∧ ∃ k : Nat, k ≤ xs.length ∧ i = .int .i64 k ∧ Hid (xs.take k = ys.take k)) (fun i _ => xs.length - (intOf i).toNat)
    case atStart => exact ⟨⟨0, rfl⟩, 0, Nat.zero_le _, rfl, rfl⟩
    case round =>
      obtain ⟨⟨n, rfl⟩, k, hk, rfl, HA⟩ := hrel
      by_cases hlt : k < xs.length
      · rcases ha with ha | ⟨ba, oa, rfl, _, ha⟩
        · subst ha; simp at hlt
        rcases hb with hb | ⟨bb, ob, rfl, _, hb⟩
        · have := HN.out; rw [hb] at this; simp at this; subst this; simp at hlt
        have hlt2 : k < ys.length := by have := HN.out; omega
        have ga := ha k hlt
        have gb := hb k hlt2
        clear ha hb
        go_wp2_with fail
        go_quiet (fail)
        go_wp2_with fail
        · go_ret
          rename_i hx
          exact ⟨ret_bool (eq_bad xs ys k hlt hlt2 hx).symm, n + nq, by simp⟩
        · rename_i hx
          exact ⟨⟨⟨n + nq, rfl⟩, k + 1, by omega, by go_num, eq_step xs ys k hlt hlt2 HA.out hx⟩, by simp [intOf]; omega⟩
      · go_wp2_with fail
        go_ret
        exact ⟨ret_bool (eq_end xs ys k hlt HN.out HA.out).symm, n, rfl⟩
  · have hn' : ((xs.length : Int) != (ys.length : Int)) = true := by simp; omega
    go_enter Tryz.func35, Tryz.ntmps35
    go_wp2_with fail
    go_ret
    exact ⟨ret_bool (by rw [eq_comm, beq_eq_false_iff_ne]; intro e; exact hn (congrArg _ e)), 0, rfl⟩

/-- Dots: an identifier of three points. -/
def dotsF (f : Fm) : Bool := (f.sort == 1) && (f.text.toList == [46, 46, 46])
/-- A blank. -/
def blankF (f : Fm) : Bool := (f.sort == 1) && (f.text.toList == [95])
/-- The same identifier: text and scopes. -/
def sameF (f g : Fm) : Bool := (f.sort == 1) && (g.sort == 1) && (f.text.toList == g.text.toList) && (f.scopes == g.scopes)
def amongF (l : List Fm) (f : Fm) : Bool := l.any fun g => sameF g f

theorem yown5 {w : World} {g : Nat} {e : TypeId} {c0 c1 c2 c3 c4 : Value} (h : Own w g e #[c0, c1, c2, c3, c4]) :
    w.cell? ⟨g, 0, none⟩ = some c0 ∧ w.cell? ⟨g, 1, none⟩ = some c1 ∧ w.cell? ⟨g, 2, none⟩ = some c2 ∧ w.cell? ⟨g, 3, none⟩ = some c3 ∧ w.cell? ⟨g, 4, none⟩ = some c4 :=
  ⟨(h.cell 0).trans (by simp), (h.cell 1).trans (by simp), (h.cell 2).trans (by simp), (h.cell 3).trans (by simp), (h.cell 4).trans (by simp)⟩

set_option maxRecDepth 20000 in
set_option maxHeartbeats 1000000 in
theorem l3Dots_any (f : Fm) (B : Nat → Prop) (w : World) (c0 c1 c2 c3 c4 : Value) (hA : FormAt B w f c0 c1 c2 c3 c4) :
    Calls Tryz.prog 23 #[.agg #[c0, c1, c2, c3, c4]] w fun e w' => e = .returned (.bool (dotsF f)) ∧ Below w.heap.size w w' := by
  obtain ⟨rfl, rfl, ht, h2, rfl, h4⟩ := (formAt_iff _ _ _ _ _ _ _ _).1 hA
  obtain ⟨a2, k2, rfl, -⟩ := h2
  obtain ⟨a4, k4, rfl, -⟩ := h4
  clear hA
  unfold dotsF
  cases h1 : (f.sort == 1) <;> cases h2 : (f.text.toList == [46, 46, 46])
  all_goals
    go_enter Tryz.func23, Tryz.ntmps23
    go_wp2_with fail
    go_ret
    exact ⟨rfl, (Below.refl _ _).alloc (Nat.le_refl _) _⟩

set_option maxRecDepth 20000 in
set_option maxHeartbeats 1000000 in
theorem l3Blank_any (f : Fm) (B : Nat → Prop) (w : World) (c0 c1 c2 c3 c4 : Value) (hA : FormAt B w f c0 c1 c2 c3 c4) :
    Calls Tryz.prog 24 #[.agg #[c0, c1, c2, c3, c4]] w fun e w' => e = .returned (.bool (blankF f)) ∧ Below w.heap.size w w' := by
  obtain ⟨rfl, rfl, ht, h2, rfl, h4⟩ := (formAt_iff _ _ _ _ _ _ _ _).1 hA
  obtain ⟨a2, k2, rfl, -⟩ := h2
  obtain ⟨a4, k4, rfl, -⟩ := h4
  clear hA
  unfold blankF
  cases h1 : (f.sort == 1) <;> cases h2 : (f.text.toList == [95])
  all_goals
    go_enter Tryz.func24, Tryz.ntmps24
    go_wp2_with fail
    go_ret
    exact ⟨rfl, (Below.refl _ _).alloc (Nat.le_refl _) _⟩

set_option maxRecDepth 20000 in
set_option maxHeartbeats 2000000 in
theorem l3Same_any (f g : Fm) (B : Nat → Prop) (w : World) (c0 c1 c2 c3 c4 d0 d1 d2 d3 d4 : Value) (hA : FormAt B w f c0 c1 c2 c3 c4) (hG : FormAt B w g d0 d1 d2 d3 d4) (hB : ∀ b, B b → b < w.heap.size) :
    Calls Tryz.prog 26 #[.agg #[c0, c1, c2, c3, c4], .agg #[d0, d1, d2, d3, d4]] w fun e w' => e = .returned (.bool (sameF f g)) ∧ Below w.heap.size w w' := by
  obtain ⟨rfl, rfl, ht, h2, rfl, h4⟩ := (formAt_iff _ _ _ _ _ _ _ _).1 hA
  obtain ⟨rfl, rfl, ht', h2', rfl, h4'⟩ := (formAt_iff _ _ _ _ _ _ _ _).1 hG
  have H2 := hid h2
  have H2' := hid h2'
  obtain ⟨a2, k2, rfl, -⟩ := h2
  obtain ⟨a4, k4, rfl, -⟩ := h4
  obtain ⟨a2', k2', rfl, -⟩ := h2'
  obtain ⟨a4', k4', rfl, -⟩ := h4'
  obtain ⟨V, hV⟩ : ∃ V, V = (w.alloc (.cells #[.int .i64 f.sort, .string f.text, .slice a2 f.scopes.length k2, .int .i64 f.frm, .slice a4 f.kids.length k4] 31)).alloc (.cells #[.int .i64 g.sort, .string g.text, .slice a2' g.scopes.length k2', .int .i64 g.frm, .slice a4' g.kids.length k4'] 31) := ⟨_, rfl⟩
  have hBV : Below w.heap.size w V := by rw [hV]; exact ((Below.refl _ _).alloc (Nat.le_refl _) _).alloc (by simp) _
  have HBV := hid hBV
  have HQ := hid (l3Ints_any B _ _ f.scopes g.scopes V (H2.out.keep (hBV.on hB)) (H2'.out.keep (hBV.on hB)))
  have hV' := hV.symm
  have O0 : Own V w.heap.size 31 #[.int .i64 f.sort, .string f.text, .slice a2 f.scopes.length k2, .int .i64 f.frm, .slice a4 f.kids.length k4] := by
    rw [hV]; exact (Below.heap_alloc _ _ _ (by simp)).trans (own_new _ _ _)
  have O1 : Own V (w.heap.size + 1) 31 #[.int .i64 g.sort, .string g.text, .slice a2' g.scopes.length k2', .int .i64 g.frm, .slice a4' g.kids.length k4'] := by
    have h := own_new (w.alloc (.cells #[.int .i64 f.sort, .string f.text, .slice a2 f.scopes.length k2, .int .i64 f.frm, .slice a4 f.kids.length k4] 31)) #[.int .i64 g.sort, .string g.text, .slice a2' g.scopes.length k2', .int .i64 g.frm, .slice a4' g.kids.length k4'] 31
    rw [World.size_alloc] at h
    rw [hV]; exact h
  obtain ⟨v0, v1, v2, v3, v4⟩ := yown5 O0
  obtain ⟨u0, u1, u2, u3, u4⟩ := yown5 O1
  clear hA hG hB hBV O0 O1 hV
  unfold sameF
  cases h1 : (f.sort == 1) with
  | false =>
    go_enter Tryz.func26, Tryz.ntmps26
    go_wp2_with fail
    go_ret
    exact ⟨rfl, HBV.out⟩
  | true =>
  cases h2 : (g.sort == 1) with
  | false =>
    go_enter Tryz.func26, Tryz.ntmps26
    go_wp2_with fail
    go_ret
    exact ⟨rfl, HBV.out⟩
  | true =>
  cases h3 : (f.text.toList == g.text.toList) with
  | false =>
    go_enter Tryz.func26, Tryz.ntmps26
    go_wp2_with fail
    go_ret
    exact ⟨rfl, HBV.out⟩
  | true =>
    go_enter Tryz.func26, Tryz.ntmps26
    go_wp2_with fail
    refine HQ.out.mono ?_
    rintro e w1 ⟨rfl, m, hw1⟩
    rw [hw1]
    clear hw1 w1
    go_wp2_with fail
    go_ret
    exact ⟨ret_bool (by simp), HBV.out.trans ⟨rfl, rfl, rfl, Nat.le_refl _, fun _ _ => rfl⟩⟩

theorem among_yes {l : List Fm} {f : Fm} {k : Nat} (h : k < l.length) (hs : sameF l[k] f = true) : true = amongF l f := by
  unfold amongF
  exact (List.any_eq_true.2 ⟨l[k], List.getElem_mem h, hs⟩).symm
theorem among_no {l : List Fm} {f : Fm} (h : ∀ j (hj : j < l.length), sameF l[j] f = false) : false = amongF l f := by
  unfold amongF
  symm
  rw [List.any_eq_false]
  intro x hx
  obtain ⟨j, hj, e⟩ := List.mem_iff_getElem.1 hx
  have := h j hj
  rw [e] at this
  rw [this]; decide

set_option maxRecDepth 20000 in
set_option maxHeartbeats 2000000 in
theorem l3Among_any (ks : List Fm) (f : Fm) (B : Nat → Prop) (w : World) (v c0 c1 c2 c3 c4 : Value) (hv : FormsAt B w v ks) (hA : FormAt B w f c0 c1 c2 c3 c4) (hB : ∀ b, B b → b < w.heap.size) :
    Calls Tryz.prog 17 #[v, .agg #[c0, c1, c2, c3, c4]] w fun e w' => e = .returned (.bool (amongF ks f)) ∧ Below w.heap.size w w' := by
  obtain ⟨a, ca, rfl, hla, ha⟩ := hv
  have HA := hid hA
  have HR := hid hB
  obtain ⟨rfl, rfl, ht, h2, rfl, h4⟩ := (formAt_iff _ _ _ _ _ _ _ _).1 hA
  obtain ⟨a2, k2, rfl, -⟩ := h2
  obtain ⟨a4, k4, rfl, -⟩ := h4
  unfold maxLen at hla
  clear hA hB
  go_enter Tryz.func17, Tryz.ntmps17
  go_wp2_with fail
  go_loopw [5] (fun i wr => ∃ k : Nat, k ≤ ks.length ∧ i = .int .i64 k ∧ Hid (Below (w.heap.size + 1) (w.alloc (.cells #[.int .i64 f.sort, .string f.text, .slice a2 f.scopes.length k2, .int .i64 f.frm, .slice a4 f.kids.length k4] 31)) wr) ∧ Hid (∀ j (hj : j < ks.length), j < k → sameF ks[j] f = false)) (fun i _ => ks.length - (intOf i).toNat)
  case atStart => exact ⟨0, Nat.zero_le _, rfl, Below.refl _ _, fun j _ hj => absurd hj (by omega)⟩
  case round =>
    obtain ⟨k, hk, rfl, HB, HN⟩ := hrel
    have hsz : w.heap.size + 1 ≤ wr.heap.size := by have := HB.out.size; simpa using this
    have HBw := hid (((Below.refl w.heap.size w).alloc (Nat.le_refl _) _).trans (HB.out.mono (by omega)))
    by_cases hlt : k < ks.length
    · rcases ha with ha | ⟨ba, oa, rfl, hb, ha⟩
      · subst ha; simp at hlt
      obtain ⟨d0, d1, d2, d3, d4, e0, e1, e2, e3, e4, hf⟩ := RowAt.get ks (RowAt.keep (HBw.out.on HR.out) hb ks ha) k hlt
      obtain ⟨v0, v1, v2, v3, v4⟩ := yown5 (show Own wr w.heap.size _ _ from ((own_new w _ _).keep HB.out (by omega)))
      have HC := hid (l3Same_any ks[k] f B wr.drew d0 d1 d2 d3 d4 _ _ _ _ _ (FormAt.keep (SameOn.drew _ _) _ hf) (FormAt.keep ((HBw.out.on HR.out).trans (SameOn.drew _ _)) _ HA.out) (fun b hb => by have h1 := HR.out b hb; show b < wr.heap.size; omega))
      have hsw : wr.drew.heap.size = wr.heap.size := rfl
      rw [hsw] at HC
      clear ha hf hsw
      cases hx : sameF ks[k] f with
      | true =>
        rw [hx] at HC
        have HY := hid (among_yes hlt hx)
        clear hx
        go_wp2_with fail
        go_region_with (go_at_call 26; refine HC.out.mono ?_; rintro e w1 ⟨rfl, hw⟩; have HW := hid hw; clear hw)
        all_goals go_wp2_with fail
        all_goals go_ret
        all_goals exact ⟨ret_bool HY.out, (HBw.out.drew).trans (HW.out.mono (by omega))⟩
      | false =>
        rw [hx] at HC
        have HX := hid hx
        clear hx
        go_wp2_with fail
        go_region_with (go_at_call 26; refine HC.out.mono ?_; rintro e w1 ⟨rfl, hw⟩; have HW := hid hw; clear hw)
        all_goals go_wp2_with fail
        all_goals
          refine ⟨⟨k + 1, by omega, by go_num, HB.out.drew.trans (HW.out.mono hsz), fun j hj hjk => ?_⟩, by simp [intOf]; omega⟩
          by_cases e : j = k
          · subst e; exact HX.out
          · exact HN.out j hj (by omega)
    · go_wp2_with fail
      go_ret
      exact ⟨ret_bool (among_no fun j hj => HN.out j hj (by omega)), HBw.out⟩
end Go.Proofs.YthlacjabelpehaaGreatDoor

namespace Go.Siskin
open Go.RowKit

def FqAt (B : Nat → Prop) (w : World) : Fm → Value → Value → Value → Value → Value → Prop
  | ⟨s, t, sc, fr, ks⟩, c0, c1, c2, c3, c4 => c0 = .int .i64 s ∧ c1 = .string t ∧ t.size ≤ maxLen ∧ IntsAt B w c2 sc ∧ c3 = .int .i64 fr ∧
      ∃ a cap, c4 = .slice a ks.length cap ∧ (ks.length ≤ maxLen ∧ ks.length ≤ cap) ∧ (ks = [] ∨ ∃ b o, a = some ⟨b, o, none⟩ ∧ B b ∧ ∀ (i : Nat) (hi : i < ks.length),
        ∃ k0 k1 k2 k3 k4, w.cell? ⟨b, o + i * 5, none⟩ = some k0 ∧ w.cell? ⟨b, o + i * 5 + 1, none⟩ = some k1 ∧ w.cell? ⟨b, o + i * 5 + 2, none⟩ = some k2 ∧ w.cell? ⟨b, o + i * 5 + 3, none⟩ = some k3 ∧ w.cell? ⟨b, o + i * 5 + 4, none⟩ = some k4 ∧
          (have := List.sizeOf_lt_of_mem (List.getElem_mem hi); FqAt B w ks[i] k0 k1 k2 k3 k4))

def FqRow (B : Nat → Prop) (w : World) (b o : Nat) (ks : List Fm) : Prop := ∀ (i : Nat) (hi : i < ks.length),
  ∃ k0 k1 k2 k3 k4, w.cell? ⟨b, o + i * 5, none⟩ = some k0 ∧ w.cell? ⟨b, o + i * 5 + 1, none⟩ = some k1 ∧ w.cell? ⟨b, o + i * 5 + 2, none⟩ = some k2 ∧ w.cell? ⟨b, o + i * 5 + 3, none⟩ = some k3 ∧ w.cell? ⟨b, o + i * 5 + 4, none⟩ = some k4 ∧ FqAt B w ks[i] k0 k1 k2 k3 k4
/-- A slice of forms, with room for them. -/
def FqsAt (B : Nat → Prop) (w : World) (v : Value) (ks : List Fm) : Prop :=
  ∃ a cap, v = .slice a ks.length cap ∧ (ks.length ≤ maxLen ∧ ks.length ≤ cap) ∧ (ks = [] ∨ ∃ b o, a = some ⟨b, o, none⟩ ∧ B b ∧ FqRow B w b o ks)

theorem fqAt_iff (B : Nat → Prop) (w : World) (f : Fm) (c0 c1 c2 c3 c4 : Value) : FqAt B w f c0 c1 c2 c3 c4 ↔
    c0 = .int .i64 f.sort ∧ c1 = .string f.text ∧ f.text.size ≤ maxLen ∧ IntsAt B w c2 f.scopes ∧ c3 = .int .i64 f.frm ∧ FqsAt B w c4 f.kids := by
  obtain ⟨s, t, sc, fr, ks⟩ := f
  rw [FqAt]; rfl

theorem fqkeep_upto {B : Nat → Prop} {w w' : World} (hb : SameOn B w w') : ∀ (n : Nat) (f : Fm), f.sz ≤ n → ∀ {c0 c1 c2 c3 c4 : Value}, FqAt B w f c0 c1 c2 c3 c4 → FqAt B w' f c0 c1 c2 c3 c4
  | 0, f, hn, _, _, _, _, _, _ => by have := Fm.sz_kids f; omega
  | n + 1, f, hn, c0, c1, c2, c3, c4, h => by
    have hsz := Fm.sz_kids f
    rw [fqAt_iff] at h ⊢
    obtain ⟨h0, h1, h2, h3, h4, a, cap, h5, h6, h7⟩ := h
    refine ⟨h0, h1, h2, h3.keep hb, h4, a, cap, h5, h6, ?_⟩
    rcases h7 with h7 | ⟨b, o, h7, h8, h9⟩
    · exact Or.inl h7
    · refine Or.inr ⟨b, o, h7, h8, fun i hi => ?_⟩
      obtain ⟨k0, k1, k2, k3, k4, e0, e1, e2, e3, e4, e5⟩ := h9 i hi
      exact ⟨k0, k1, k2, k3, k4, (hb.cell h8 _).trans e0, (hb.cell h8 _).trans e1, (hb.cell h8 _).trans e2, (hb.cell h8 _).trans e3, (hb.cell h8 _).trans e4, fqkeep_upto hb n _ (by have := Fm.szs_get f.kids i hi; omega) e5⟩
theorem fqmono_upto {B B' : Nat → Prop} {w : World} (hb : ∀ b, B b → B' b) : ∀ (n : Nat) (f : Fm), f.sz ≤ n → ∀ {c0 c1 c2 c3 c4 : Value}, FqAt B w f c0 c1 c2 c3 c4 → FqAt B' w f c0 c1 c2 c3 c4
  | 0, f, hn, _, _, _, _, _, _ => by have := Fm.sz_kids f; omega
  | n + 1, f, hn, c0, c1, c2, c3, c4, h => by
    have hsz := Fm.sz_kids f
    rw [fqAt_iff] at h ⊢
    obtain ⟨h0, h1, h2, h3, h4, a, cap, h5, h6, h7⟩ := h
    refine ⟨h0, h1, h2, h3.mono hb, h4, a, cap, h5, h6, ?_⟩
    rcases h7 with h7 | ⟨b, o, h7, h8, h9⟩
    · exact Or.inl h7
    · refine Or.inr ⟨b, o, h7, hb b h8, fun i hi => ?_⟩
      obtain ⟨k0, k1, k2, k3, k4, e0, e1, e2, e3, e4, e5⟩ := h9 i hi
      exact ⟨k0, k1, k2, k3, k4, e0, e1, e2, e3, e4, fqmono_upto hb n _ (by have := Fm.szs_get f.kids i hi; omega) e5⟩
theorem fqform_upto {B : Nat → Prop} {w : World} : ∀ (n : Nat) (f : Fm), f.sz ≤ n → ∀ {c0 c1 c2 c3 c4 : Value}, FqAt B w f c0 c1 c2 c3 c4 → FormAt B w f c0 c1 c2 c3 c4
  | 0, f, hn, _, _, _, _, _, _ => by have := Fm.sz_kids f; omega
  | n + 1, f, hn, c0, c1, c2, c3, c4, h => by
    have hsz := Fm.sz_kids f
    rw [fqAt_iff] at h
    rw [formAt_iff]
    obtain ⟨h0, h1, h2, h3, h4, a, cap, h5, h6, h7⟩ := h
    refine ⟨h0, h1, h2, h3, h4, a, cap, h5, h6.1, ?_⟩
    rcases h7 with h7 | ⟨b, o, h7, h8, h9⟩
    · exact Or.inl h7
    · refine Or.inr ⟨b, o, h7, h8, fun i hi => ?_⟩
      obtain ⟨k0, k1, k2, k3, k4, e0, e1, e2, e3, e4, e5⟩ := h9 i hi
      exact ⟨k0, k1, k2, k3, k4, e0, e1, e2, e3, e4, fqform_upto n _ (by have := Fm.szs_get f.kids i hi; omega) e5⟩
theorem FqAt.keep {B : Nat → Prop} {w w' : World} {f : Fm} {c0 c1 c2 c3 c4 : Value} (h : FqAt B w f c0 c1 c2 c3 c4) (hb : SameOn B w w') : FqAt B w' f c0 c1 c2 c3 c4 := fqkeep_upto hb f.sz f (Nat.le_refl _) h
theorem FqAt.mono {B B' : Nat → Prop} {w : World} {f : Fm} {c0 c1 c2 c3 c4 : Value} (h : FqAt B w f c0 c1 c2 c3 c4) (hb : ∀ b, B b → B' b) : FqAt B' w f c0 c1 c2 c3 c4 := fqmono_upto hb f.sz f (Nat.le_refl _) h
theorem FqAt.form {B : Nat → Prop} {w : World} {f : Fm} {c0 c1 c2 c3 c4 : Value} (h : FqAt B w f c0 c1 c2 c3 c4) : FormAt B w f c0 c1 c2 c3 c4 := fqform_upto f.sz f (Nat.le_refl _) h
theorem FqRow.keep {B : Nat → Prop} {w w' : World} {b o : Nat} {ks : List Fm} (h : FqRow B w b o ks) (hb : SameOn B w w') (hB : B b) : FqRow B w' b o ks := fun i hi => by
  obtain ⟨k0, k1, k2, k3, k4, e0, e1, e2, e3, e4, e5⟩ := h i hi
  exact ⟨k0, k1, k2, k3, k4, (hb.cell hB _).trans e0, (hb.cell hB _).trans e1, (hb.cell hB _).trans e2, (hb.cell hB _).trans e3, (hb.cell hB _).trans e4, e5.keep hb⟩
theorem FqRow.mono {B B' : Nat → Prop} {w : World} {b o : Nat} {ks : List Fm} (h : FqRow B w b o ks) (hb : ∀ b, B b → B' b) : FqRow B' w b o ks := fun i hi => by
  obtain ⟨k0, k1, k2, k3, k4, e0, e1, e2, e3, e4, e5⟩ := h i hi
  exact ⟨k0, k1, k2, k3, k4, e0, e1, e2, e3, e4, e5.mono hb⟩
theorem FqRow.take {B : Nat → Prop} {w : World} {b o : Nat} {ks : List Fm} (h : FqRow B w b o ks) (n : Nat) : FqRow B w b o (ks.take n) := fun i hi => by
  rw [List.length_take] at hi
  obtain ⟨k0, k1, k2, k3, k4, e0, e1, e2, e3, e4, e5⟩ := h i (by omega)
  exact ⟨k0, k1, k2, k3, k4, e0, e1, e2, e3, e4, by rw [List.getElem_take]; exact e5⟩
theorem FqsAt.keep {B : Nat → Prop} {w w' : World} {v : Value} {ks : List Fm} (h : FqsAt B w v ks) (hb : SameOn B w w') : FqsAt B w' v ks := by
  obtain ⟨a, cap, h5, h6, h7⟩ := h
  exact ⟨a, cap, h5, h6, h7.imp id fun ⟨b, o, e1, e2, e3⟩ => ⟨b, o, e1, e2, e3.keep hb e2⟩⟩
theorem FqsAt.mono {B B' : Nat → Prop} {w : World} {v : Value} {ks : List Fm} (h : FqsAt B w v ks) (hb : ∀ b, B b → B' b) : FqsAt B' w v ks := by
  obtain ⟨a, cap, h5, h6, h7⟩ := h
  exact ⟨a, cap, h5, h6, h7.imp id fun ⟨b, o, e1, e2, e3⟩ => ⟨b, o, e1, hb b e2, e3.mono hb⟩⟩
theorem FqsAt.forms {B : Nat → Prop} {w : World} {v : Value} {ks : List Fm} (h : FqsAt B w v ks) : FormsAt B w v ks := by
  obtain ⟨a, cap, h5, h6, h7⟩ := h
  exact ⟨a, cap, h5, h6.1, h7.imp id fun ⟨b, o, e1, e2, e3⟩ => ⟨b, o, e1, e2, RowAt.mk _ fun i hi => by
    obtain ⟨k0, k1, k2, k3, k4, e0, e1, e2, e3, e4, e5⟩ := e3 i hi
    exact ⟨k0, k1, k2, k3, k4, e0, e1, e2, e3, e4, e5.form⟩⟩⟩
end Go.Siskin

namespace Go.Proofs.YthlacjabelpehaaGreatDoor
open Go.RowKit Go.Siskin

/-- The parts of a list, without what it ends in. -/
def partsF (f : Fm) : List Fm := if f.sort = 4 then f.kids.dropLast else f.kids
/-- The place of the part that is repeated, from place i on. -/
def repGo : List Fm → Nat → Int → Int
  | [], _, p => p
  | f :: r, i, p => if dotsF f = true then (if 0 ≤ p ∨ i = 0 then -2 else repGo r (i + 1) ((i : Int) - 1)) else repGo r (i + 1) p
def repF (f : Fm) : Int := repGo (partsF f) 0 (-1)
/-- A pattern that is ok, but for names that are there twice. -/
def patB : Fm → Bool
  | ⟨s, t, sc, fr, ks⟩ => if s = 1 then !dotsF ⟨s, t, sc, fr, ks⟩ else if s = 2 then true else if repF ⟨s, t, sc, fr, ks⟩ = -2 ∨ (s = 4 ∧ dotsF (ks.getD (ks.length - 1) Fm.no) = true) then false else (ks.map fun k => dotsF k || patB k).all id
def patsB (ks : List Fm) : Bool := (ks.map fun k => dotsF k || patB k).all id
theorem patB_eq (f : Fm) : patB f = if f.sort = 1 then !dotsF f else if f.sort = 2 then true else if repF f = -2 ∨ (f.sort = 4 ∧ dotsF (f.kids.getD (f.kids.length - 1) Fm.no) = true) then false else patsB f.kids := by
  obtain ⟨s, t, sc, fr, ks⟩ := f
  rw [patB]; rfl
theorem patsB_bad : ∀ (ks : List Fm) (k : Nat) (h : k < ks.length), dotsF ks[k] = false → patB ks[k] = false → patsB ks = false
  | [], _, h, _, _ => absurd h (Nat.not_lt_zero _)
  | a :: r, 0, _, h1, h2 => by
    have h1' : dotsF a = false := h1
    have h2' : patB a = false := h2
    show ((dotsF a || patB a) && patsB r) = false
    rw [h1', h2']; rfl
  | a :: r, k + 1, h, h1, h2 => by
    show ((dotsF a || patB a) && patsB r) = false
    rw [patsB_bad r k (by simpa using h) (by simpa using h1) (by simpa using h2), Bool.and_false]
theorem patsB_good : ∀ (ks : List Fm), (∀ j (hj : j < ks.length), (dotsF ks[j] || patB ks[j]) = true) → patsB ks = true
  | [], _ => rfl
  | a :: r, h => by
    have h0 : (dotsF a || patB a) = true := h 0 (by simp)
    show ((dotsF a || patB a) && patsB r) = true
    rw [h0, patsB_good r fun j hj => h (j + 1) (Nat.succ_lt_succ hj)]; rfl

theorem parts_take (f : Fm) : partsF f = if f.sort = 4 then f.kids.take (f.kids.length - 1) else f.kids := by
  unfold partsF
  rw [List.dropLast_eq_take]

set_option maxRecDepth 20000 in
set_option maxHeartbeats 1000000 in
theorem l3Parts_any (f : Fm) (B : Nat → Prop) (w : World) (c0 c1 c2 c3 c4 : Value) (hA : FqAt B w f c0 c1 c2 c3 c4) (hB : ∀ b, B b → b < w.heap.size) (h4 : f.sort = 4 → 1 ≤ f.kids.length) :
    Calls Tryz.prog 34 #[.agg #[c0, c1, c2, c3, c4]] w fun e w' => ∃ u, e = .returned u ∧ FqsAt B w' u (partsF f) ∧ Below w.heap.size w w' := by
  have HA := hid hA
  have HR := hid hB
  obtain ⟨rfl, rfl, ht, h2, rfl, hk⟩ := (fqAt_iff _ _ _ _ _ _ _ _).1 hA
  have HK := hid hk
  obtain ⟨a2, k2, rfl, -⟩ := h2
  obtain ⟨a4, k4, rfl, ⟨hl, hc⟩, hrow⟩ := hk
  have HRow := hid hrow
  unfold maxLen at hl
  clear hA hB hrow
  by_cases h : f.sort = 4
  · have hp := h4 h
    have hs : (f.sort == 4) = true := by simpa using h
    have HP : Hid (partsF f = f.kids.take (f.kids.length - 1)) := by show _ = _; rw [parts_take, if_pos h]
    obtain ⟨q, hq⟩ : ∃ q, f.kids.length = q + 1 := ⟨f.kids.length - 1, by omega⟩
    have HQ := hid hq
    clear h h4
    rw [hq] at hl hc ⊢
    clear hq hp
    go_enter Tryz.func34, Tryz.ntmps34
    go_wp2_with fail
    go_ret
    refine ⟨_, rfl, ?_, (Below.refl _ _).alloc (Nat.le_refl _) _⟩
    have hlen : (f.kids.take (f.kids.length - 1)).length = q := by rw [List.length_take, HQ.out]; omega
    rw [HP.out]
    refine FqsAt.keep (w := w) ⟨a4, k4, by rw [hlen]; rfl, ⟨by rw [hlen]; unfold maxLen; omega, by rw [hlen]; omega⟩, ?_⟩ ((SameOn.refl _ _).alloc HR.out _)
    rcases HRow.out with h | ⟨b, o, e1, e2, e3⟩
    · have := HQ.out; rw [h] at this; simp at this
    · exact Or.inr ⟨b, o, e1, e2, e3.take _⟩
  · have hs : (f.sort == 4) = false := by simpa using h
    have HP : Hid (partsF f = f.kids) := by show _ = _; unfold partsF; rw [if_neg h]
    clear h h4
    go_enter Tryz.func34, Tryz.ntmps34
    go_wp2_with fail
    go_ret
    refine ⟨_, rfl, ?_, (Below.refl _ _).alloc (Nat.le_refl _) _⟩
    rw [HP.out]
    exact HK.out.keep ((SameOn.refl _ _).alloc HR.out _)

theorem repGo_at (l : List Fm) (k : Nat) (h : k < l.length) (p : Int) : repGo (l.drop k) k p = if dotsF l[k] = true then (if 0 ≤ p ∨ k = 0 then -2 else repGo (l.drop (k + 1)) (k + 1) ((k : Int) - 1)) else repGo (l.drop (k + 1)) (k + 1) p := by
  rw [List.drop_eq_getElem_cons h, repGo]

set_option maxRecDepth 20000 in
set_option maxHeartbeats 2000000 in
theorem l3Repeat_any (f : Fm) (B : Nat → Prop) (w : World) (c0 c1 c2 c3 c4 : Value) (hA : FqAt B w f c0 c1 c2 c3 c4) (hB : ∀ b, B b → b < w.heap.size) (h4 : f.sort = 4 → 1 ≤ f.kids.length) (hn : f.kids.length ≤ 1048576) :
    Calls Tryz.prog 25 #[.agg #[c0, c1, c2, c3, c4]] w fun e w' => e = .returned (.int .i64 (repF f)) ∧ Below w.heap.size w w' := by
  have HR := hid hB
  have hle : (partsF f).length ≤ 1048576 := by
    rw [parts_take]
    split
    · rw [List.length_take]; omega
    · exact hn
  have HQ := hid (l3Parts_any f B (w.alloc (.cells #[c0, c1, c2, c3, c4] 31)) c0 c1 c2 c3 c4 (hA.keep ((SameOn.refl _ _).alloc hB _)) (fun b hb => by have := hB b hb; simp; omega) h4)
  obtain ⟨rfl, rfl, ht, h2, rfl, hk⟩ := (fqAt_iff _ _ _ _ _ _ _ _).1 hA
  obtain ⟨a2, k2, rfl, -⟩ := h2
  obtain ⟨a4, k4, rfl, -⟩ := hk
  obtain ⟨ps, hps⟩ : ∃ ps, ps = partsF f := ⟨_, rfl⟩
  have HRE : Hid (repF f = repGo ps 0 (-1)) := by show _ = _; unfold repF; rw [hps]
  rw [← hps] at HQ hle
  clear hA hB hps h4 hn
  go_enter Tryz.func25, Tryz.ntmps25
  go_wp2_with fail
  refine HQ.out.mono ?_
  rintro e w1 ⟨u, rfl, hu, hw1⟩
  simp only [World.size_alloc] at hw1
  have HB1 := hid (((Below.refl w.heap.size w).alloc (Nat.le_refl _) _).trans (hw1.mono (by omega)))
  have s1 := hw1.size
  simp only [World.size_alloc] at s1
  obtain ⟨a, ca, rfl, hla, ha⟩ := hu
  have HRow := hid ha
  clear hw1 HQ ha
  go_wp2_with fail
  go_loopw [3, 5] (fun p i wr => ∃ k : Nat, k ≤ ps.length ∧ i = .int .i64 k ∧ ∃ q : Int, p = .int .i64 q ∧ -1 ≤ q ∧ q ≤ 1048576 ∧ Hid (repF f = repGo (ps.drop k) k q) ∧ Hid (Below w1.heap.size w1 wr)) (fun _ i _ => ps.length - (intOf i).toNat)
  case atStart => exact ⟨0, Nat.zero_le _, rfl, -1, rfl, by omega, by omega, by show _ = _; rw [List.drop_zero]; exact HRE.out, Below.refl _ _⟩
  case round =>
    obtain ⟨k, hk, rfl, q, rfl, hq0, hq1, HE, HB⟩ := hrel
    have hsz := HB.out.size
    by_cases hlt : k < ps.length
    · rcases HRow.out with ha | ⟨ba, oa, rfl, hb, ha⟩
      · rw [ha] at hlt; simp at hlt
      obtain ⟨d0, d1, d2, d3, d4, e0, e1, e2, e3, e4, hf⟩ := (ha.keep (HB.out.on fun b hb => by have := HR.out b hb; omega) hb) k hlt
      have HC := hid (l3Dots_any ps[k] B wr d0 d1 d2 d3 d4 hf.form)
      have HGo := hid (repGo_at ps k hlt q)
      clear ha hf
      cases hx : dotsF ps[k] with
      | true =>
        rw [hx] at HC
        have hgo := HGo.out
        rw [hx, if_pos rfl] at hgo
        have HGo := hid hgo
        clear hgo hx
        by_cases hp : 0 ≤ q
        · have HX := hid (HE.out.trans (HGo.out.trans (if_pos (Or.inl hp))))
          go_wp2_with (go_at_call 23; refine HC.out.mono ?_; rintro e w2 ⟨rfl, hw⟩; have HW := hid hw; clear hw)
          go_ret
          exact ⟨by rw [HX.out]; rfl, HB1.out.trans ((HB.out.trans (HW.out.mono hsz)).mono (by omega))⟩
        by_cases hk0 : k = 0
        · have HX := hid (HE.out.trans (HGo.out.trans (if_pos (Or.inr hk0))))
          have hk0' : ((k : Int) == 0) = true := by simpa using hk0
          clear hk0
          go_wp2_with (go_at_call 23; refine HC.out.mono ?_; rintro e w2 ⟨rfl, hw⟩; have HW := hid hw; clear hw)
          go_ret
          exact ⟨by rw [HX.out]; rfl, HB1.out.trans ((HB.out.trans (HW.out.mono hsz)).mono (by omega))⟩
        · have HX := hid (HE.out.trans (HGo.out.trans (if_neg (by omega))))
          have hk0' : ((k : Int) == 0) = false := by simpa using hk0
          go_wp2_with (go_at_call 23; refine HC.out.mono ?_; rintro e w2 ⟨rfl, hw⟩; have HW := hid hw; clear hw)
          exact ⟨⟨k + 1, by omega, by go_num, (k : Int) - 1, by go_num, by omega, by omega, HX, HB.out.trans (HW.out.mono hsz)⟩, by simp [intOf]; omega⟩
      | false =>
        rw [hx] at HC
        have hgo := HGo.out
        rw [hx, if_neg (by decide)] at hgo
        have HX := hid (HE.out.trans hgo)
        clear hgo hx
        go_wp2_with (go_at_call 23; refine HC.out.mono ?_; rintro e w2 ⟨rfl, hw⟩; have HW := hid hw; clear hw)
        exact ⟨⟨k + 1, by omega, by go_num, q, rfl, hq0, hq1, HX, HB.out.trans (HW.out.mono hsz)⟩, by simp [intOf]; omega⟩
    · have HX : Hid (repF f = q) := by
        show _ = _
        rw [HE.out, List.drop_eq_nil_of_le (by omega)]; rfl
      go_wp2_with fail
      go_ret
      exact ⟨by rw [HX.out]; rfl, HB1.out.trans (HB.out.mono (by omega))⟩

theorem kidsF_len {f : Fm} {d : Nat} (h : okB f d = true) : f.sort = 4 → 2 ≤ f.kids.length := fun hs => by
  rw [okB_eq, Bool.and_eq_true] at h
  have h2 := h.2
  unfold tailB endB at h2
  rw [hs] at h2
  simp at h2
  omega
theorem okB_kid {f : Fm} {d : Nat} (h : okB f d = true) (i : Nat) (hi : i < f.kids.length) : okB f.kids[i] (d + 1) = true := by
  rw [okB_eq, Bool.and_eq_true, Bool.and_eq_true] at h
  have h2 := h.1.2
  cases hx : okB f.kids[i] (d + 1) with
  | true => rfl
  | false => rw [oksB_bad f.kids i (d + 1) hi hx] at h2; cases h2

def PatM (n : Nat) : Prop := ∀ f : Fm, f.sz ≤ n → f.cost ≤ 1048576 → ∀ d, okB f d = true → ∀ (B : Nat → Prop) (w : World) (c0 c1 c2 c3 c4 : Value), FqAt B w f c0 c1 c2 c3 c4 → (∀ b, B b → b < w.heap.size) →
  Calls Tryz.prog 15 #[.agg #[c0, c1, c2, c3, c4]] w fun e w' => e = .returned (.bool (patB f)) ∧ Below w.heap.size w w'

end Go.Proofs.YthlacjabelpehaaGreatDoor
