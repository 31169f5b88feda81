/-
  The program's showCore and ExpCoreShow. Condition: the part lies in memory, every list in a block of its own, and costs at most 1048576.
  Plain functions on texts (lists of bytes): what the document's chapter 1 calls an atom and an identifier, as the verifier's model reckons it and as the program does, and that both are one. No condition; no program is named.
  The contracts of the functions over texts: the model's (l1Blank, l1Ends, l1Digits, l1AtomOk, l1IdOk) and the program's (isDigits, hasBytesFrom): each returns what the plain function says of the text's bytes; the world is as it was.
  What the document calls an ok form, as a plain function on trees. No program is named.
  The law's szIntS and eqIntS over slices of ints return what their plain functions say. Condition: the slices lie in memory as IntsAt says.
  The model's l1ScopesOk and the program's isAscending and areScopes return whether scopes are ascending, none below 0. Condition: the slice lies in memory as IntsAt says.
  The law's toIntS returns a copy in new memory. Condition: the slice lies in memory, and is not too long.
  The law's szExpForm and szExpFormS take from a number what a form costs. Condition: the form lies in memory as FormAt says.
  The law's toExpForm copies a form into new memory, if toExpFormS does so of its kids. Condition: the form lies in memory, and costs at most 1048576.
  The law's toExpForm and toExpFormS copy forms into new memory. Condition: the forms lie in memory, and cost at most 1048576.
  The model's l5Head, l5Params and ExpCoreShow show a part. Condition: the part lies in memory, and what is shown is not too long.
-/
import Derived.Test.YtmmkoohgniambaaPart3
import Derived.Test.YtmmkoohgniambaaProg
import Derived.WalkKit
import Derived.WalkSpells
import Derived.WalkLawsBesides
import Derived.Test.YtmmkoohgniambaaPart1
import Derived.Deep.QuietTactic
import Derived.BigQuiet
import Derived.Deep.Draws
namespace Go.Proofs.Ytmmkoohgniambaa
open Go.RowKit Go.Siskin

set_option maxRecDepth 20000 in
set_option maxHeartbeats 600000 in
theorem showCore_any (c : Cm) (R : Nat → Prop) (w : World) (c0 c1 c2 c3 c4 : Value) (hA : CoreAt R w c c0 c1 c2 c3 c4) (hR : ∀ x, R x → x < w.heap.size) (hl : (showC c).length ≤ 900000000) :
    Calls Try.prog 20 #[.agg #[c0, c1, c2, c3, c4]] w fun e w' => e = .returned (.string ⟨(showC c).toArray⟩) ∧ Below w.heap.size w w' := by
  have HA := hid hA
  have HR := hid hR
  obtain ⟨rfl, rfl, ht, rfl, h3, h4⟩ := (coreAt_iff _ _ _ _ _ _ _ _).1 hA
  obtain ⟨a3, k3, rfl, -⟩ := h3
  obtain ⟨a4, k4, rfl, -⟩ := h4
  obtain ⟨W, hW⟩ : ∃ W, W = (w.alloc (.cells #[.int .i64 c.sort, .string c.text, .bool c.rest, .slice a3 c.names.length k3, .slice a4 c.kids.length k4] 30)).alloc (.cells shNil 59) := ⟨_, rfl⟩
  have hWs : W.heap.size = w.heap.size + 2 := by rw [hW]; simp
  have HWB : Hid (Below w.heap.size w W) := by
    show Below _ _ _
    rw [hW]; exact ((Below.refl _ _).alloc (Nat.le_refl _) _).alloc (by simp) _
  have O0 : Hid (Own W w.heap.size 30 #[.int .i64 c.sort, .string c.text, .bool c.rest, .slice a3 c.names.length k3, .slice a4 c.kids.length k4]) := by
    show Own _ _ _ _
    rw [hW]
    exact (Below.heap_alloc _ _ _ (by simp)).trans (own_new _ _ _)
  have O1 : Hid (Own W (w.heap.size + 1) 59 shNil) := by
    show Own _ _ _ _
    have h := own_new (w.alloc (.cells #[.int .i64 c.sort, .string c.text, .bool c.rest, .slice a3 c.names.length k3, .slice a4 c.kids.length k4] 30)) shNil 59
    rw [World.size_alloc] at h
    rw [hW]; exact h
  have HQ := hid (ways_any (w.heap.size + 1) W)
  clear hA hR
  go_enter Try.func20, Try.ntmps20
  go_wp2_with fail
  rw [← hW]
  refine HQ.out.mono ?_
  rintro e w1 ⟨rfl, hw1⟩
  have s1 := hw1.size
  have HB1 := hid hw1
  have P0 := hid (O0.out.keep hw1 (by omega))
  have P1 := hid (O1.out.keep hw1 (by omega))
  have x2 : w1.cell? ⟨w.heap.size + 1, 2, none⟩ = some .nilFunc := (P1.out.cell 2).trans rfl
  have y2 := P1.out.frozen 2
  have x3 : w1.cell? ⟨w.heap.size + 1, 3, none⟩ = some .nilFunc := (P1.out.cell 3).trans rfl
  have y3 := P1.out.frozen 3
  have x4 : w1.cell? ⟨w.heap.size + 1, 4, none⟩ = some .nilFunc := (P1.out.cell 4).trans rfl
  have y4 := P1.out.frozen 4
  have x5 : w1.cell? ⟨w.heap.size + 1, 5, none⟩ = some .nilFunc := (P1.out.cell 5).trans rfl
  have y5 := P1.out.frozen 5
  have x6 : w1.cell? ⟨w.heap.size + 1, 6, none⟩ = some .nilFunc := (P1.out.cell 6).trans rfl
  have y6 := P1.out.frozen 6
  have x7 : w1.cell? ⟨w.heap.size + 1, 7, none⟩ = some .nilFunc := (P1.out.cell 7).trans rfl
  have y7 := P1.out.frozen 7
  have x8 : w1.cell? ⟨w.heap.size + 1, 8, none⟩ = some .nilFunc := (P1.out.cell 8).trans rfl
  have y8 := P1.out.frozen 8
  have x9 : w1.cell? ⟨w.heap.size + 1, 9, none⟩ = some .nilFunc := (P1.out.cell 9).trans rfl
  have y9 := P1.out.frozen 9
  have x10 : w1.cell? ⟨w.heap.size + 1, 10, none⟩ = some .nilFunc := (P1.out.cell 10).trans rfl
  have y10 := P1.out.frozen 10
  have x11 : w1.cell? ⟨w.heap.size + 1, 11, none⟩ = some .nilFunc := (P1.out.cell 11).trans rfl
  have y11 := P1.out.frozen 11
  have OV := shPut_own w1 _ P1.out
  have BV := shPut_below w1 (w.heap.size + 1)
  have sV := shPut_size w1 (w.heap.size + 1)
  obtain ⟨V, hV⟩ : ∃ V, V = shPut w1 (w.heap.size + 1) := ⟨_, rfl⟩
  rw [← hV] at OV BV sV
  have HOV := hid OV
  have HBV := hid BV
  have HWV : Hid (Below w.heap.size w V) := (HWB.out.trans (HB1.out.mono (by omega))).trans (BV.mono (by omega))
  have OC : Hid (Own V w.heap.size 30 #[.int .i64 c.sort, .string c.text, .bool c.rest, .slice a3 c.names.length k3, .slice a4 c.kids.length k4]) := P0.out.keep BV (by omega)
  have hisS : isS (w.heap.size + 1) (w.heap.size + 1) [] V := Or.inl ⟨Nat.le_refl _, .slice none 0 0, OV, World.ownsRow_nil _ _ _ _, by simp [Value.ownBlock]⟩
  have HQ2 := hid ((show_all c.sz).2.1 c (Nat.le_refl _) R V _ _ _ _ _ (w.heap.size + 1) (w.heap.size + 1) [] (CoreAt.keep (HWV.out.on HR.out) _ HA.out) (fun x hx => by have := HR.out x hx; omega) hisS (by omega) (by simp; omega))
  obtain ⟨z0, z1, z2, z3, z4⟩ := cown5 OC.out
  clear hw1 HQ hW OV BV hisS
  unfold shPut at hV
  have hV' := hV.symm
  clear hV
  go_wp2_with fail
  refine HQ2.out.mono ?_
  rintro e w2 ⟨rfl, hb2, hw2⟩
  have HB2 := hid hb2
  have HW2 := hid hw2
  have s2 := hw2.1.size
  clear hb2 hw2 HQ2 hV' z0 z1 z2 z3 z4 x2 y2 x3 y3 x4 y4 x5 y5 x6 y6 x7 y7 x8 y8 x9 y9 x10 y10 x11 y11
  have HQ3 := hid (string_any (w.heap.size + 1) (w.heap.size + 1) (showC c) w2 (by have h := HB2.out; rw [List.nil_append] at h; exact h) (by omega))
  go_wp2_with fail
  refine HQ3.out.mono ?_
  rintro e w3 ⟨rfl, hw3⟩
  have HW3 := hid hw3
  clear hw3 HQ3
  go_wp2_with fail
  go_ret
  exact ⟨rfl, (HWV.out.trans (HW2.out.1.mono (by omega))).trans (HW3.out.mono (by omega))⟩

set_option maxRecDepth 20000 in
set_option maxHeartbeats 600000 in
theorem implCoreShow_any (c : Cm) (S : Nat → Prop) (w : World) (c3 c4 : Value) (hT : CTree w c S c3 c4) (hS : ∀ x, S x → x < w.heap.size) (hc : c.cost ≤ 1048576) :
    Calls Try.prog 8 #[.agg #[.int .i64 c.sort, .string c.text, .bool c.rest, c3, c4]] w fun e w' => e = .returned (.string ⟨(showC c).toArray⟩) ∧ Below w.heap.size w w' := by
  have hsz := Cm.sz_le c
  have hlen := showC_len c
  have hce := Cm.cost_eq c
  obtain ⟨W, hW⟩ : ∃ W, W = w.alloc (.cells #[.int .i64 c.sort, .string c.text, .bool c.rest, c3, c4] 30) := ⟨_, rfl⟩
  have hBW : Below w.heap.size w W := by rw [hW]; exact (Below.refl _ _).alloc (Nat.le_refl _) _
  have hsW : W.heap.size = w.heap.size + 1 := by rw [hW]; simp
  have O0 : Hid (Own W w.heap.size 30 #[.int .i64 c.sort, .string c.text, .bool c.rest, c3, c4]) := by
    show Own _ _ _ _
    rw [hW]; exact own_new _ _ _
  have HBW := hid hBW
  have HF := hid (hT.form (by unfold maxLen; omega))
  have HS := hid hS
  obtain ⟨h1, h2, h3⟩ := (ctree_iff _ _ _ _ _).1 hT
  have HQ := hid (haveEndTop_any c.kids _ W c4 (h3.keep (hBW.on fun x hx => hS x hx.1)) (fun x hx => by have := hS x hx.1; omega) (by omega))
  obtain ⟨⟨a3, k3, rfl⟩, a4, k4, rfl⟩ := ctshape hT
  have hl9 : (showC c).length ≤ 900000000 := by omega
  clear hT h1 h2 h3 hS hBW hsz hlen hce
  obtain ⟨v0, v1, v2, v3, v4⟩ := cown5 O0.out
  have hW' := hW.symm
  clear hW
  go_enter Try.func8, Try.ntmps8
  go_wp2_with fail
  refine HQ.out.mono ?_
  rintro e w1 ⟨rfl, hw1⟩
  have s1 := hw1.size
  have HB1 := hid hw1
  obtain ⟨z0, z1, z2, z3, z4⟩ := cown5 (O0.out.keep hw1 (by omega))
  have HQ2 := hid (showCore_any c S w1 _ _ _ _ _ (CoreAt.keep ((HBW.out.trans (hw1.mono (by omega))).on HS.out) _ HF.out) (fun x hx => by have := HS.out x hx; omega) hl9)
  clear hw1 HQ hW' v0 v1 v2 v3 v4
  go_wp2_with fail
  refine HQ2.out.mono ?_
  rintro e w2 ⟨rfl, hw2⟩
  have HB2 := hid hw2
  clear hw2 HQ2
  go_wp2_with fail
  go_ret
  exact ⟨rfl, (HBW.out.trans (HB1.out.mono (by omega))).trans (HB2.out.mono (by omega))⟩

end Go.Proofs.Ytmmkoohgniambaa

namespace Go.Siskin

/-- A blank between pieces. -/
def blankB (c : UInt8) : Bool := c == 32 || c == 10
/-- What ends a word. -/
def endsB (c : UInt8) : Bool := blankB c || c == 40 || c == 41 || c == 34 || c == 39
def digitB (c : UInt8) : Bool := decide (48 ≤ c.toNat) && decide (c.toNat ≤ 57)
/-- Digits alone, one at least. -/
def digitsB (l : List UInt8) : Bool := l.all digitB && !l.isEmpty
/-- All bytes are in least .. 126. -/
def fromB (least : Nat) (l : List UInt8) : Bool := l.all fun c => decide (least ≤ c.toNat) && decide (c.toNat ≤ 126)
/-- What may stand inside a string. -/
def innerB (c : UInt8) : Bool := !(c == 34) && decide (32 ≤ c.toNat) && decide (c.toNat ≤ 126)
def innersB (l : List UInt8) : Bool := l.all innerB
/-- The text of a string, its quotes with it. -/
def stringB (l : List UInt8) : Bool :=
  decide (2 ≤ l.length) && (l.head? == some 34) && (l.getLast? == some 34) && innersB (l.drop 1).dropLast
/-- Digits behind a '-', if there is one (the model's way: a '-' wants something behind it). -/
def minusB (l : List UInt8) : Bool := decide (1 < l.length) && (l.head? == some 45) && digitsB (l.drop 1)
/-- An atom, as the model reckons it. -/
def atomB (l : List UInt8) : Bool := l == [35, 116] || l == [35, 102] || digitsB l || minusB l || stringB l
def wordB (c : UInt8) : Bool := !(endsB c) && decide (33 ≤ c.toNat) && decide (c.toNat ≤ 126) && !(c == 126)
/-- An identifier, as the model reckons it. -/
def idB (l : List UInt8) : Bool := !(l.isEmpty || l == [46] || atomB l || l.head? == some 35) && l.all wordB

/- ### The program's way -/

theorem digits_trim (l : List UInt8) : digitsB (if l.head? = some 45 then l.drop 1 else l) = (digitsB l || minusB l) := by
  by_cases h : l.head? = some 45
  · rw [if_pos h]
    cases l with
    | nil => simp at h
    | cons a r =>
      simp at h; subst h
      have e : digitsB (45 :: r) = false := by simp [digitsB, digitB]
      rw [e]
      cases r with
      | nil => simp [minusB, digitsB]
      | cons b r => simp [minusB]
  · rw [if_neg h]
    have e : minusB l = false := by
      unfold minusB
      have : (l.head? == some 45) = false := by simpa using h
      rw [this]; simp
    rw [e]; simp

/- ### Loops over a text -/

theorem all_take_succ (s : ByteArray) (k : Nat) (h : k < s.size) (p : UInt8 → Bool) : (s.data.toList.take (k + 1)).all p = ((s.data.toList.take k).all p && p s[k]) := by
  rw [List.take_succ_eq_append_getElem (by simpa using h), List.all_append]
  simp; rfl

theorem all_false (s : ByteArray) (k : Nat) (h : k < s.size) (p : UInt8 → Bool) (hp : p s[k] = false) : s.data.toList.all p = false := by
  rw [List.all_eq_false]
  exact ⟨s[k], List.mem_of_getElem (i := k) (h := by simpa using h) rfl, by simp [hp]⟩

theorem all_true (s : ByteArray) (k : Nat) (h : ¬ k < s.size) (p : UInt8 → Bool) (hk : (s.data.toList.take k).all p = true) : s.data.toList.all p = true := by
  rwa [List.take_of_length_le (by simpa using h)] at hk

theorem u8_beq (c : UInt8) (n : Nat) (h : n < 256) : (c == UInt8.ofNat n) = ((c.toNat : Int) == (n : Int)) := by
  rw [Bool.eq_iff_iff]; simp [← UInt8.toNat_inj]; omega

theorem blank_int (c : UInt8) : blankB c = (((c.toNat : Int) == 32) || ((c.toNat : Int) == 10)) := by
  unfold blankB; exact congr (congrArg _ (u8_beq c 32 (by decide))) (u8_beq c 10 (by decide))

theorem ends_int (c : UInt8) : endsB c = (blankB c || ((c.toNat : Int) == 40) || ((c.toNat : Int) == 41) || ((c.toNat : Int) == 34) || ((c.toNat : Int) == 39)) := by
  have e1 := u8_beq c 40 (by decide)
  have e2 := u8_beq c 41 (by decide)
  have e3 := u8_beq c 34 (by decide)
  have e4 := u8_beq c 39 (by decide)
  unfold endsB
  exact congr (congrArg _ (congr (congrArg _ (congr (congrArg _ (congr (congrArg _ rfl) e1)) e2)) e3)) e4

theorem digit_yes (c : UInt8) (h1 : ¬ (c.toNat : Int) < 48) (h2 : ¬ 57 < (c.toNat : Int)) : digitB c = true := by
  unfold digitB; simp; omega
theorem digit_no (c : UInt8) (h : (c.toNat : Int) < 48 ∨ 57 < (c.toNat : Int)) : digitB c = false := by
  unfold digitB; simp; omega

theorem digits_bad (s : ByteArray) (k : Nat) (h : k < s.size) (hb : (s[k].toNat : Int) < 48 ∨ 57 < (s[k].toNat : Int)) : digitsB s.data.toList = false := by
  unfold digitsB; rw [all_false s k h digitB (digit_no _ hb)]; rfl

theorem empty_size (s : ByteArray) : s.data.toList.isEmpty = decide (s.size = 0) := by
  rw [show s.size = s.data.toList.length from by simp]
  cases s.data.toList <;> simp

theorem digits_end (s : ByteArray) (k : Nat) (h : ¬ k < s.size) (hk : (s.data.toList.take k).all digitB = true) : digitsB s.data.toList = decide (0 < s.size) := by
  unfold digitsB; rw [all_true s k h digitB hk, empty_size]
  by_cases e : s.size = 0
  · rw [decide_eq_true e, decide_eq_false (by omega)]; rfl
  · rw [decide_eq_false e, decide_eq_true (by omega)]; rfl

theorem data_get (s : ByteArray) (k : Nat) (h : k < s.size) : s.data.toList[k]? = some s[k] := by
  rw [List.getElem?_eq_getElem (by simpa using h)]; rfl

theorem all_mid_succ (s : ByteArray) (k : Nat) (h1 : 1 ≤ k) (h : k < s.size) (p : UInt8 → Bool) : ((s.data.toList.take (k + 1)).drop 1).all p = (((s.data.toList.take k).drop 1).all p && p s[k]) := by
  rw [List.take_succ_eq_append_getElem (by simpa using h), List.drop_append_of_le_length (by simp; omega), List.all_append]
  simp; rfl

theorem all_mid_false (s : ByteArray) (k m : Nat) (h1 : 1 ≤ k) (hk : k < m) (h : m ≤ s.size) (p : UInt8 → Bool) (hp : p (s[k]'(by omega)) = false) : ((s.data.toList.take m).drop 1).all p = false := by
  rw [List.all_eq_false]
  refine ⟨s[k]'(by omega), ?_, by simp [hp]⟩
  refine List.mem_of_getElem? (i := k - 1) ?_
  rw [List.getElem?_drop, List.getElem?_take, if_pos (by omega), show 1 + (k - 1) = k by omega]
  exact data_get s k (by omega)

theorem u8_some (c : UInt8) (n : Nat) (h : n < 256) : (some c == some (UInt8.ofNat n)) = decide ((c.toNat : Int) = (n : Int)) := by
  rw [Bool.eq_iff_iff]; simp [← UInt8.toNat_inj]; omega

theorem head_size (s : ByteArray) (h : 0 < s.size) : s.data.toList.head? = some s[0] := by
  rw [List.head?_eq_getElem?]; exact data_get s 0 h

theorem last_size (s : ByteArray) (h : 0 < s.size) : s.data.toList.getLast? = some (s[s.size - 1]'(by omega)) := by
  rw [List.getLast?_eq_getElem?, show s.data.toList.length = s.size from by simp]; exact data_get s _ (by omega)

theorem string_parts (s : ByteArray) (h : 2 ≤ s.size) : stringB s.data.toList = (decide (((s[0]'(by omega)).toNat : Int) = 34) && decide (((s[s.size - 1]'(by omega)).toNat : Int) = 34) && innersB ((s.data.toList.take (s.size - 1)).drop 1)) := by
  unfold stringB
  have hl : s.data.toList.length = s.size := by simp
  rw [head_size s (by omega), last_size s (by omega), hl, decide_eq_true h, Bool.true_and]
  have e1 := u8_some (s[0]'(by omega)) 34 (by decide)
  have e2 := u8_some (s[s.size - 1]'(by omega)) 34 (by decide)
  have e3 : (s.data.toList.drop 1).dropLast = (s.data.toList.take (s.size - 1)).drop 1 := by
    rw [List.dropLast_eq_take, List.length_drop, hl, List.take_drop, show 1 + (s.size - 1 - 1) = s.size - 1 by omega]
  rw [e3]
  exact congr (congrArg _ (congr (congrArg _ e1) e2)) rfl

theorem string_short (s : ByteArray) (h : s.size < 2) : stringB s.data.toList = false := by
  unfold stringB
  rw [show s.data.toList.length = s.size from by simp, decide_eq_false (by omega)]; rfl

theorem inner_yes (c : UInt8) (h1 : ¬ (c.toNat : Int) = 34) (h2 : ¬ (c.toNat : Int) < 32) (h3 : ¬ 126 < (c.toNat : Int)) : innerB c = true := by
  have e := u8_beq c 34 (by decide)
  have e' : (c == 34) = false := by rw [show (34 : UInt8) = UInt8.ofNat 34 from rfl, e]; simp; omega
  unfold innerB; rw [e']; simp; omega
theorem inner_no (c : UInt8) (h : (c.toNat : Int) = 34 ∨ (c.toNat : Int) < 32 ∨ 126 < (c.toNat : Int)) : innerB c = false := by
  have e := u8_beq c 34 (by decide)
  unfold innerB
  rcases h with h | h
  · have e' : (c == 34) = true := by rw [show (34 : UInt8) = UInt8.ofNat 34 from rfl, e]; simp; omega
    rw [e']; simp
  · simp; omega

theorem minus_short (s : ByteArray) (h : ¬ 1 < s.size) : minusB s.data.toList = false := by
  unfold minusB
  rw [show s.data.toList.length = s.size from by simp, decide_eq_false h]; rfl
theorem minus_int (s : ByteArray) (h : 1 < s.size) : minusB s.data.toList = (decide (((s[0]'(by omega)).toNat : Int) = 45) && digitsB (s.data.toList.drop 1)) := by
  unfold minusB
  have e1 := u8_some (s[0]'(by omega)) 45 (by decide)
  rw [show s.data.toList.length = s.size from by simp, decide_eq_true h, head_size s (by omega)]
  exact congr (congrArg _ (by rw [Bool.true_and]; exact e1)) rfl

theorem digits_end' (s : ByteArray) (k : Nat) (h : ¬ k < s.size) (hk : (s.data.toList.take k).all digitB = true) : digitsB s.data.toList = !s.data.toList.isEmpty := by
  unfold digitsB; rw [all_true s k h digitB hk]; rfl

theorem word_yes (c : UInt8) (h0 : endsB c = false) (h1 : ¬ (c.toNat : Int) < 33) (h2 : ¬ 126 < (c.toNat : Int)) (h3 : ¬ (c.toNat : Int) = 126) : wordB c = true := by
  have e' : (c == 126) = false := by rw [show (126 : UInt8) = UInt8.ofNat 126 from rfl, u8_beq c 126 (by decide)]; simp; omega
  unfold wordB; rw [e', h0]; simp; omega
theorem word_no (c : UInt8) (h : endsB c = true ∨ (c.toNat : Int) < 33 ∨ 126 < (c.toNat : Int) ∨ (c.toNat : Int) = 126) : wordB c = false := by
  unfold wordB
  rcases h with h | h | h | h
  · rw [h]; rfl
  · simp; omega
  · simp; omega
  · have e' : (c == 126) = true := by rw [show (126 : UInt8) = UInt8.ofNat 126 from rfl, u8_beq c 126 (by decide)]; simp; omega
    rw [e']; simp

/-- What the program asks of a word's bytes. -/
theorem words_two (l : List UInt8) : (fromB 33 l && !(l.any fun c => [40, 41, 34, 39, 126].contains c)) = l.all wordB := by
  induction l with
  | nil => rfl
  | cons c r ih =>
    have e : wordB c = (decide (33 ≤ c.toNat) && decide (c.toNat ≤ 126) && !([40, 41, 34, 39, 126].contains c)) := by
      unfold wordB endsB blankB
      rw [Bool.eq_iff_iff]
      simp [← UInt8.toNat_inj]
      omega
    rw [List.all_cons, e, ← ih]
    unfold fromB
    rw [List.all_cons, List.any_cons]
    cases decide (33 ≤ c.toNat) <;> cases decide (c.toNat ≤ 126) <;> cases ([40, 41, 34, 39, 126].contains c) <;> simp

/-- What the program asks of a string's bytes. -/
theorem string_two (l : List UInt8) (h : 2 ≤ l.length) (h1 : l.head? = some 34) (h2 : l.getLast? = some 34) : (fromB 32 l && !((l.drop 1).dropLast.contains 34)) = stringB l := by
  have e : ∃ m, l = 34 :: (m ++ [34]) := by
    cases l with
    | nil => simp at h1
    | cons a r =>
      simp at h1; subst h1
      have hr : r ≠ [] := by intro e; subst e; simp at h
      refine ⟨r.dropLast, ?_⟩
      have h3 : r.getLast hr = 34 := by
        rw [List.getLast?_eq_some_getLast (by simp)] at h2
        rw [List.getLast_cons hr] at h2
        exact Option.some.inj h2
      have := List.dropLast_concat_getLast hr
      rw [h3] at this
      rw [this]
  obtain ⟨m, rfl⟩ := e
  have e2 : ((34 :: (m ++ [34])).drop 1).dropLast = m := by simp
  unfold stringB
  rw [e2, h1, h2, decide_eq_true h]
  have e3 : fromB 32 (34 :: (m ++ [34])) = fromB 32 m := by unfold fromB; simp
  rw [e3]
  have e4 : (fromB 32 m && !m.contains 34) = innersB m := by
    clear h h1 h2 e2 e3
    induction m with
    | nil => rfl
    | cons c r ih =>
      unfold fromB innersB at *
      rw [List.all_cons, List.all_cons, ← ih, List.contains_cons]
      unfold innerB
      have e5 : (34 == c) = (c == 34) := by rw [Bool.eq_iff_iff]; simp; exact eq_comm
      rw [e5]
      cases decide (32 ≤ c.toNat) <;> cases decide (c.toNat ≤ 126) <;> cases (c == 34) <;> simp
  rw [e4]
  simp

end Go.Siskin

namespace Go.Proofs.Ytmmkoohgniambaa
open Go.RowKit Go.Siskin

theorem ret_bool {a b : Bool} (h : a = b) : Ending.returned (.bool a) = .returned (.bool b) := by rw [h]
theorem ret_int {k : IntKind} {a b : Int} (h : a = b) : Ending.returned (.int k a) = .returned (.int k b) := by rw [h]

end Go.Proofs.Ytmmkoohgniambaa

namespace Go.Siskin

def ascB : List Int → Bool
  | [] => true
  | [_] => true
  | a :: b :: r => decide (a < b) && ascB (b :: r)
/-- Scopes: ascending, none below 0. -/
def scopesB (xs : List Int) : Bool := ascB xs && xs.all fun x => decide (0 ≤ x)

def idFormB (f : Fm) : Bool := idB f.text.data.toList && decide (f.text.size ≤ 40) && decide (0 ≤ f.frm) && scopesB f.scopes && decide (f.kids.length = 0)
def atomFormB (f : Fm) : Bool := atomB f.text.data.toList && decide (f.text.size ≤ 40) && decide (f.frm = 0) && decide (f.scopes.length + f.kids.length = 0)
def listFormB (f : Fm) : Bool := decide (f.text.size = 0) && decide (f.frm = 0) && decide (f.scopes.length = 0)
/-- What is asked of a form's own fields. -/
def headB (f : Fm) : Bool := if f.sort = 1 then idFormB f else if f.sort = 2 then atomFormB f else if f.sort = 3 then listFormB f else if f.sort = 4 then listFormB f else false
/-- What is asked of the last kid of a list that ends in something else. -/
def endB (ks : List Fm) : Bool := decide (1 < ks.length) && (decide ((ks.getD (ks.length - 1) Fm.no).sort = 1) || decide ((ks.getD (ks.length - 1) Fm.no).sort = 2))
def tailB (f : Fm) : Bool := decide (f.sort ≠ 4) || endB f.kids

/-- An ok form, deep forms within others. -/
def okB : Fm → Nat → Bool
  | ⟨s, t, sc, fr, ks⟩, d => decide (d ≤ 60) && headB ⟨s, t, sc, fr, ks⟩ && (ks.map fun k => okB k (d + 1)).all id && tailB ⟨s, t, sc, fr, ks⟩
def oksB (ks : List Fm) (d : Nat) : Bool := (ks.map fun k => okB k d).all id
theorem oksB_nil (d : Nat) : oksB [] d = true := rfl
theorem oksB_cons (k : Fm) (r : List Fm) (d : Nat) : oksB (k :: r) d = (okB k d && oksB r d) := rfl

theorem okB_eq (f : Fm) (d : Nat) : okB f d = (decide (d ≤ 60) && headB f && oksB f.kids (d + 1) && tailB f) := by
  obtain ⟨s, t, sc, fr, ks⟩ := f
  rw [okB]; rfl
theorem oksB_take (ks : List Fm) (k d : Nat) (h : k < ks.length) : oksB (ks.take (k + 1)) d = (oksB (ks.take k) d && okB ks[k] d) := by
  rw [List.take_succ_eq_append_getElem h]; unfold oksB
  simp only [List.map_append, List.all_append, List.map_cons, List.map_nil, List.all_cons, List.all_nil, Bool.and_true, id]
theorem oksB_bad : ∀ (ks : List Fm) (k d : Nat) (h : k < ks.length), okB ks[k] d = false → oksB ks d = false
  | [], _, _, h, _ => absurd h (Nat.not_lt_zero _)
  | a :: r, 0, d, _, hb => by rw [oksB_cons]; simp at hb; rw [hb]; rfl
  | a :: r, k + 1, d, h, hb => by rw [oksB_cons, oksB_bad r k d (by simpa using h) (by simpa using hb)]; simp

theorem okB_deep (f : Fm) (d : Nat) (h : 60 < d) : okB f d = false := by rw [okB_eq, decide_eq_false (by omega)]; rfl
theorem okB_id (f : Fm) (d : Nat) (h : d ≤ 60) (hs : f.sort = 1) : okB f d = idFormB f := by
  have h1 : tailB f = true := by unfold tailB; rw [hs]; rfl
  have h2 : headB f = idFormB f := by unfold headB; rw [if_pos hs]
  rw [okB_eq, decide_eq_true h, h1, h2]
  cases hk : f.kids with
  | nil => simp [oksB_nil]
  | cons a r => unfold idFormB; rw [hk]; simp
theorem okB_atom (f : Fm) (d : Nat) (h : d ≤ 60) (hs : f.sort = 2) : okB f d = atomFormB f := by
  have h1 : tailB f = true := by unfold tailB; rw [hs]; rfl
  have h2 : headB f = atomFormB f := by unfold headB; rw [if_neg (by omega), if_pos hs]
  rw [okB_eq, decide_eq_true h, h1, h2]
  cases hk : f.kids with
  | nil => simp [oksB_nil]
  | cons a r => unfold atomFormB; rw [hk]; simp
theorem okB_list (f : Fm) (d : Nat) (h : d ≤ 60) (hs : f.sort = 3) : okB f d = (listFormB f && oksB f.kids (d + 1)) := by
  have h1 : tailB f = true := by unfold tailB; rw [hs]; rfl
  have h2 : headB f = listFormB f := by unfold headB; rw [if_neg (by omega), if_neg (by omega), if_pos hs]
  rw [okB_eq, decide_eq_true h, h1, h2]; simp
theorem okB_dots (f : Fm) (d : Nat) (h : d ≤ 60) (hs : f.sort = 4) : okB f d = (listFormB f && oksB f.kids (d + 1) && endB f.kids) := by
  have h1 : tailB f = endB f.kids := by unfold tailB; rw [hs]; rfl
  have h2 : headB f = listFormB f := by unfold headB; rw [if_neg (by omega), if_neg (by omega), if_neg (by omega), if_pos hs]
  rw [okB_eq, decide_eq_true h, h1, h2]; simp
theorem okB_none (f : Fm) (d : Nat) (h1 : f.sort ≠ 1) (h2 : f.sort ≠ 2) (h3 : f.sort ≠ 3) (h4 : f.sort ≠ 4) : okB f d = false := by
  rw [okB_eq]; unfold headB; rw [if_neg h1, if_neg h2, if_neg h3, if_neg h4]; simp

end Go.Siskin

namespace Go.Proofs.Ytmmkoohgniambaa
open Go.RowKit Go.Siskin

def szI (n : Nat) (left : Int) : Int := if left - n < 0 then -1 else left - n

theorem eq_bad (xs ys : List Int) (k : Nat) (h : k < xs.length) (h2 : k < ys.length) (hx : (xs[k] != ys[k]) = true) : (xs == ys) = false := by
  rw [beq_eq_false_iff_ne]
  intro e; subst e; simp at hx
theorem eq_step (xs ys : List Int) (k : Nat) (h : k < xs.length) (h2 : k < ys.length) (he : xs.take k = ys.take k) (hx : (xs[k] != ys[k]) = false) : xs.take (k + 1) = ys.take (k + 1) := by
  rw [List.take_succ_eq_append_getElem h, List.take_succ_eq_append_getElem h2, he]
  simp at hx; rw [hx]
theorem eq_end (xs ys : List Int) (k : Nat) (h : ¬ k < xs.length) (hn : xs.length = ys.length) (he : xs.take k = ys.take k) : (xs == ys) = true := by
  rw [List.take_of_length_le (by omega), List.take_of_length_le (by omega)] at he
  subst he; simp

/-- ascending up to place k, by index -/
def AscTo (xs : List Int) (k : Nat) : Prop := ∀ i, i + 1 < k → (xs.getD i 0) < (xs.getD (i + 1) 0)
def NonTo (xs : List Int) (k : Nat) : Prop := ∀ i, i < k → 0 ≤ xs.getD i 0

theorem asc_iff : ∀ xs : List Int, ascB xs = true ↔ AscTo xs xs.length
  | [] => by simp [ascB, AscTo]
  | [a] => by simp [ascB, AscTo]
  | a :: b :: r => by
    have ih := asc_iff (b :: r)
    unfold ascB
    rw [Bool.and_eq_true, ih, decide_eq_true_eq]
    constructor
    · rintro ⟨h1, h2⟩ i hi
      cases i with
      | zero => simpa using h1
      | succ i => have := h2 i (by simp at hi ⊢; omega); simpa using this
    · intro h
      refine ⟨by simpa using h 0 (by simp), fun i hi => ?_⟩
      have := h (i + 1) (by simp at hi ⊢; omega)
      simpa using this

theorem scopes_iff (xs : List Int) : scopesB xs = true ↔ AscTo xs xs.length ∧ NonTo xs xs.length := by
  unfold scopesB
  rw [Bool.and_eq_true, asc_iff, List.all_eq_true]
  refine and_congr Iff.rfl ⟨fun h i hi => ?_, fun h x hx => ?_⟩
  · have := h (xs[i]) (List.getElem_mem hi)
    simpa [List.getD_eq_getElem?_getD, hi] using this
  · obtain ⟨i, hi, rfl⟩ := List.getElem_of_mem hx
    have := h i hi
    simpa [List.getD_eq_getElem?_getD, hi] using this

end Go.Proofs.Ytmmkoohgniambaa

namespace Go.Proofs.Ytmmkoohgniambaa
open Go.RowKit Go.Siskin

theorem scopes_no {xs : List Int} (h : ¬ (AscTo xs xs.length ∧ NonTo xs xs.length)) : false = scopesB xs := by
  rw [eq_comm, Bool.eq_false_iff]; intro e; exact h ((scopes_iff xs).1 e)
theorem asc_no {xs : List Int} (h : ¬ AscTo xs xs.length) : false = ascB xs := by
  rw [eq_comm, Bool.eq_false_iff]; intro e; exact h ((asc_iff xs).1 e)
theorem getD_get {xs : List Int} {k : Nat} (h : k < xs.length) : xs.getD k 0 = xs[k] := by simp [List.getD_eq_getElem?_getD, h]

theorem asc_step {xs : List Int} {k : Nat} (h : AscTo xs k) (hk : k = 0 ∨ xs.getD (k - 1) 0 < xs.getD k 0) : AscTo xs (k + 1) := by
  intro i hi
  by_cases e : i + 1 < k
  · exact h i e
  · have : i + 1 = k := by omega
    subst this
    rcases hk with hk | hk
    · omega
    · simpa using hk
theorem non_step {xs : List Int} {k : Nat} (h : NonTo xs k) (hk : 0 ≤ xs.getD k 0) : NonTo xs (k + 1) := by
  intro i hi
  by_cases e : i < k
  · exact h i e
  · have : i = k := by omega
    subst this; exact hk

end Go.Proofs.Ytmmkoohgniambaa

namespace Go.Proofs.Ytmmkoohgniambaa
open Go.RowKit Go.Siskin

theorem Try.infoInt : (Try.prog.info? 3).map (fun i => (i.zero, i.size, i.bytes)) = some (some (.int .i64 0), 1, 8) := by kernel_rfl
theorem set_step {cs : Array Value} {xs : List Int} {k : Nat} (hcs : cs.size = xs.length) (hlt : k < xs.length) {x : Int} (hx : xs.getD k 0 = x) (hg : ∀ j, j < k → cs[j]? = some (.int .i64 (xs.getD j 0))) :
    ∀ j, j < k + 1 → (cs.setIfInBounds k (.int .i64 x))[j]? = some (.int .i64 (xs.getD j 0)) := by
  intro j hj
  by_cases e : j = k
  · subst e; rw [Array.getElem?_setIfInBounds, if_pos rfl, if_pos (by omega), hx]
  · rw [Array.getElem?_setIfInBounds, if_neg (by omega)]; exact hg j (by omega)

end Go.Proofs.Ytmmkoohgniambaa

namespace Go.Proofs.Ytmmkoohgniambaa
open Go.RowKit Go.Siskin

theorem szI_two (a b : Nat) (l : Int) : szI (a + b) l = if szI a l < 0 then -1 else szI b (szI a l) := by
  unfold szI
  by_cases h1 : l - a < 0
  · rw [if_pos h1, if_pos (by omega), if_pos (by omega)]
  · rw [if_neg h1, if_neg h1]
    by_cases h2 : l - a - b < 0
    · rw [if_pos h2, if_pos (by omega)]
    · rw [if_neg h2, if_neg (by omega)]; omega
theorem szI_ge (a : Nat) (l : Int) : -1 ≤ szI a l ∧ (0 ≤ l → szI a l ≤ l) := by
  unfold szI
  by_cases h1 : l - a < 0
  · rw [if_pos h1]; omega
  · rw [if_neg h1]; omega

theorem szI_neg (a : Nat) (l : Int) : szI a l < 0 ↔ l - a < 0 := by
  unfold szI
  by_cases h1 : l - a < 0
  · rw [if_pos h1]; omega
  · rw [if_neg h1]
theorem szI_minus (a : Nat) (l : Int) : szI a l = -1 ↔ l - a < 0 := by
  unfold szI
  by_cases h1 : l - a < 0
  · rw [if_pos h1]; omega
  · rw [if_neg h1]; omega
theorem szI_pos (a : Nat) (l : Int) (h : ¬ szI a l < 0) : szI a l = l - a := by
  unfold szI at h ⊢
  by_cases h1 : l - a < 0
  · rw [if_pos h1] at h; omega
  · rw [if_neg h1]

end Go.Proofs.Ytmmkoohgniambaa

namespace Go.Proofs.Ytmmkoohgniambaa
open Go.RowKit Go.Siskin

end Go.Proofs.Ytmmkoohgniambaa

namespace Go.Proofs.Ytmmkoohgniambaa
open Go.RowKit Go.Siskin

/-- The first k forms stand in a block of the call's own; what they lead to lies behind it. -/
def Got (g : Nat) (wr : World) (cs : Array Value) (ks : List Fm) (k : Nat) : Prop :=
  ∀ j (hj : j < ks.length), j < k → ∃ d0 d1 d2 d3 d4, cs[j * 5]? = some d0 ∧ cs[j * 5 + 1]? = some d1 ∧ cs[j * 5 + 2]? = some d2 ∧ cs[j * 5 + 3]? = some d3 ∧ cs[j * 5 + 4]? = some d4 ∧ FormAt (fun b => g < b ∧ b < wr.heap.size) wr ks[j] d0 d1 d2 d3 d4

/-- Five cells in a row. -/
def put5 (w : World) (g o : Nat) (d0 d1 d2 d3 d4 : Value) : World :=
  ((((w.setCell ⟨g, o, none⟩ d0).setCell ⟨g, o + 1, none⟩ d1).setCell ⟨g, o + 2, none⟩ d2).setCell ⟨g, o + 3, none⟩ d3).setCell ⟨g, o + 4, none⟩ d4
def arr5 (cs : Array Value) (o : Nat) (d0 d1 d2 d3 d4 : Value) : Array Value :=
  ((((cs.setIfInBounds o d0).setIfInBounds (o + 1) d1).setIfInBounds (o + 2) d2).setIfInBounds (o + 3) d3).setIfInBounds (o + 4) d4

theorem put5_own {w : World} {g : Nat} {e : TypeId} {cs : Array Value} (h : Own w g e cs) (o : Nat) (d0 d1 d2 d3 d4 : Value) : Own (put5 w g o d0 d1 d2 d3 d4) g e (arr5 cs o d0 d1 d2 d3 d4) :=
  ((((h.set o d0).set (o + 1) d1).set (o + 2) d2).set (o + 3) d3).set (o + 4) d4
theorem put5_size (w : World) (g o : Nat) (d0 d1 d2 d3 d4 : Value) : (put5 w g o d0 d1 d2 d3 d4).heap.size = w.heap.size := by simp [put5]
theorem put5_same {R : Nat → Prop} {a w : World} (h : SameOn R a w) {g : Nat} (hg : ¬ R g) (o : Nat) (d0 d1 d2 d3 d4 : Value) : SameOn R a (put5 w g o d0 d1 d2 d3 d4) :=
  ((((h.setCell hg _).setCell hg _).setCell hg _).setCell hg _).setCell hg _
theorem put5_below {B : Nat} {a w : World} (h : Below B a w) {g : Nat} (hg : B ≤ g) (o : Nat) (d0 d1 d2 d3 d4 : Value) : Below B a (put5 w g o d0 d1 d2 d3 d4) :=
  ((((h.setCell hg _).setCell hg _).setCell hg _).setCell hg _).setCell hg _
theorem arr5_size (cs : Array Value) (o : Nat) (d0 d1 d2 d3 d4 : Value) : (arr5 cs o d0 d1 d2 d3 d4).size = cs.size := by simp [arr5]
theorem arr5_out {cs : Array Value} {o : Nat} (d0 d1 d2 d3 d4 : Value) {i : Nat} (h : i < o ∨ o + 5 ≤ i) : (arr5 cs o d0 d1 d2 d3 d4)[i]? = cs[i]? := by
  unfold arr5
  rw [Array.getElem?_setIfInBounds, if_neg (by omega), Array.getElem?_setIfInBounds, if_neg (by omega), Array.getElem?_setIfInBounds, if_neg (by omega), Array.getElem?_setIfInBounds, if_neg (by omega), Array.getElem?_setIfInBounds, if_neg (by omega)]
theorem arr5_in {cs : Array Value} {o : Nat} (d0 d1 d2 d3 d4 : Value) (h : o + 5 ≤ cs.size) :
    (arr5 cs o d0 d1 d2 d3 d4)[o]? = some d0 ∧ (arr5 cs o d0 d1 d2 d3 d4)[o + 1]? = some d1 ∧ (arr5 cs o d0 d1 d2 d3 d4)[o + 2]? = some d2 ∧ (arr5 cs o d0 d1 d2 d3 d4)[o + 3]? = some d3 ∧ (arr5 cs o d0 d1 d2 d3 d4)[o + 4]? = some d4 := by
  unfold arr5
  refine ⟨?_, ?_, ?_, ?_, ?_⟩ <;> simp [Array.getElem?_setIfInBounds] <;> omega

theorem got_step {g k : Nat} {wr w1 : World} {cs : Array Value} {ks : List Fm} {d0 d1 d2 d3 d4 : Value} (hcs : cs.size = ks.length * 5) (hlt : k < ks.length) (hg : g < wr.heap.size) (hb : Below wr.heap.size wr w1)
    (hf : FormAt (Fresh wr w1) w1 ks[k] d0 d1 d2 d3 d4) (got : Got g wr cs ks k) : Got g (put5 w1 g (k * 5) d0 d1 d2 d3 d4) (arr5 cs (k * 5) d0 d1 d2 d3 d4) ks (k + 1) := by
  intro j hj hjk
  have hs := hb.size
  by_cases e : j = k
  · subst e
    obtain ⟨e0, e1, e2, e3, e4⟩ := arr5_in (cs := cs) (o := j * 5) d0 d1 d2 d3 d4 (by omega)
    refine ⟨d0, d1, d2, d3, d4, e0, e1, e2, e3, e4, FormAt.mono ?_ _ (FormAt.keep (put5_same (SameOn.refl _ _) ?_ _ _ _ _ _ _) _ hf)⟩
    · intro b h; have h1 := h.1; have h2 := h.2; rw [put5_size]; exact ⟨by omega, h2⟩
    · intro h; have h1 := h.1; omega
  · obtain ⟨x0, x1, x2, x3, x4, e0, e1, e2, e3, e4, hx⟩ := got j hj (by omega)
    refine ⟨x0, x1, x2, x3, x4, ?_, ?_, ?_, ?_, ?_, FormAt.mono ?_ _ (FormAt.keep (put5_same ((SameOn.refl _ _).below hb ?_) ?_ _ _ _ _ _ _) _ hx)⟩
    · rw [arr5_out _ _ _ _ _ (by omega)]; exact e0
    · rw [arr5_out _ _ _ _ _ (by omega)]; exact e1
    · rw [arr5_out _ _ _ _ _ (by omega)]; exact e2
    · rw [arr5_out _ _ _ _ _ (by omega)]; exact e3
    · rw [arr5_out _ _ _ _ _ (by omega)]; exact e4
    · intro b h; rw [put5_size]; exact ⟨h.1, by omega⟩
    · intro b h; exact h.2
    · intro h; omega

end Go.Proofs.Ytmmkoohgniambaa

namespace Go.Proofs.Ytmmkoohgniambaa
open Go.RowKit Go.Siskin

set_option maxHeartbeats 1000000 in
theorem l5Head_any (s : Int) (w : World) : Calls Try.prog 16 #[.int .i64 s] w fun e w' => e = .returned (.string ⟨(headB s).toArray⟩) ∧ w' = w := by
  by_cases h5 : s = 5
  · subst h5
    go_enter Try.func16, Try.ntmps16
    go_wp2_with fail
    go_ret
    exact ⟨rfl, rfl⟩
  by_cases h6 : s = 6
  · subst h6
    go_enter Try.func16, Try.ntmps16
    go_wp2_with fail
    go_ret
    exact ⟨rfl, rfl⟩
  by_cases h7 : s = 7
  · subst h7
    go_enter Try.func16, Try.ntmps16
    go_wp2_with fail
    go_ret
    exact ⟨rfl, rfl⟩
  by_cases h9 : s = 9
  · subst h9
    go_enter Try.func16, Try.ntmps16
    go_wp2_with fail
    go_ret
    exact ⟨rfl, rfl⟩
  have HX : Hid (headB s = []) := by show headB s = []; unfold headB; rw [if_neg h5, if_neg h6, if_neg h7, if_neg h9]
  have b5 : (s == 5) = false := by simpa using h5
  have b6 : (s == 6) = false := by simpa using h6
  have b7 : (s == 7) = false := by simpa using h7
  have b9 : (s == 9) = false := by simpa using h9
  clear h5 h6 h7 h9
  go_enter Try.func16, Try.ntmps16
  go_wp2_with fail
  go_ret
  exact ⟨by rw [HX.out]; rfl, rfl⟩

theorem par_len {b zs : List UInt8} (h : zs = [40] ++ b) (hl : b.length + 2 ≤ 1000000000) : (zs.length : Int) ≤ 1000000000 := by
  rw [h]; simp only [List.length_append, List.length_cons, List.length_nil]; omega
theorem par_eq {xs a b c p q ys zs : List UInt8} (hx : xs = [40] ++ a) (ht : b = a ++ (c ++ ys)) (hc : c = p ++ q) (hz : zs = xs ++ (p ++ q) ++ ys) : zs = [40] ++ b := by
  rw [hz, hx, ht, hc]; simp

set_option maxRecDepth 20000 in
set_option maxHeartbeats 4000000 in
theorem l5Params_any (B : Nat → Prop) (v : Value) (ns : List ByteArray) (r : Bool) (w : World) (h : StrsAt B w v ns) (hl : (parB ns r).length ≤ 1000000000) :
    Calls Try.prog 17 #[v, .bool r] w fun e w' => e = .returned (.string ⟨(parB ns r).toArray⟩) ∧ w' = w := by
  obtain ⟨a, ca, rfl, hla, -, ha⟩ := h
  obtain ⟨hla, -⟩ := hla
  unfold maxLen at hla
  have HX := hid (show parB ns r = [40] ++ joinP r ns.length 0 (ns.map fun x => x.data.toList) ++ [41] from rfl)
  have HL : Hid ((joinP r ns.length 0 (ns.map fun x => x.data.toList)).length + 2 ≤ 1000000000) := by
    show _ ≤ _
    have h := hl
    rw [HX.out] at h
    simp only [List.length_append, List.length_cons, List.length_nil] at h
    omega
  clear hl
  go_enter Try.func17, Try.ntmps17
  go_wp2_with fail
  go_loopw [5, 6] (fun o i wr => Hid (wr = w) ∧ ∃ k : Nat, k ≤ ns.length ∧ i = .int .i64 k ∧ ∃ xs : List UInt8, o = .string ⟨xs.toArray⟩ ∧ (xs.length : Int) ≤ 1000000000 ∧ Hid (xs = [40] ++ joinP r ns.length 0 ((ns.map fun x => x.data.toList).take k))) (fun _ i _ => ns.length - (intOf i).toNat)
  case atStart => exact ⟨rfl, 0, Nat.zero_le _, rfl, [40], rfl, by simp, by show _ = _; simp [joinP]⟩
  case round =>
    obtain ⟨HW, k, hk, rfl, xs, rfl, hxs, HO⟩ := hrel
    by_cases hlt : k < ns.length
    · rcases ha with ha | ⟨ba, oa, rfl, hb, ha⟩
      · subst ha; simp at hlt
      have hc := ha k hlt
      rw [← HW.out, ← ceta ns[k]] at hc
      have HT := hid (joinP_take r ns.length (ns.map fun x => x.data.toList) k (by simpa using hlt))
      have hle := joinP_le r ns.length (ns.map fun x => x.data.toList) 0 (k + 1)
      have hle1 : (joinP r ns.length 0 ((ns.map fun x => x.data.toList).take (k + 1))).length + 2 ≤ 1000000000 := by have := HL.out; omega
      have HLE := hid hle1
      have hget : (ns.map fun x => x.data.toList)[k]'(by simpa using hlt) = ns[k].data.toList := by simp
      obtain ⟨ys, hys⟩ : ∃ ys, ys = ns[k].data.toList := ⟨_, rfl⟩
      rw [hget, ← hys] at HT
      rw [← hys] at hc
      have hy : (ys.length : Int) ≤ 1000000000 := by
        have h3 := hle1
        rw [HT.out] at h3
        simp only [List.length_append] at h3
        omega
      have HCD := hid (fun (p q : List UInt8) (h1 : (if 0 < k then [(32 : UInt8)] else []) = p) (h2 : (if r = true ∧ k + 1 = ns.length then [(46 : UInt8), 32] else []) = q) => show (if 0 < k then [(32 : UInt8)] else []) ++ (if r = true ∧ k + 1 = ns.length then [(46 : UInt8), 32] else []) = p ++ q by rw [h1, h2])
      clear ha hle hle1 hget hys
      by_cases hk0 : 0 < k
      · have hk0' : (0 : Int) < (k : Int) := by omega
        have HP := hid (if_pos (c := 0 < k) hk0 : (if 0 < k then [(32 : UInt8)] else []) = [32])
        cases r with
        | true =>
          by_cases h4 : k + 1 = ns.length
          · have b5 : ((k : Int) + 1 == (ns.length : Int)) = true := by simp; omega
            have HQ := hid (if_pos (c := true = true ∧ k + 1 = ns.length) ⟨rfl, h4⟩ : (if true = true ∧ k + 1 = ns.length then [(46 : UInt8), 32] else []) = [46, 32])
            clear h4
            go_wp2_with fail
            exact ⟨⟨HW, k + 1, by omega, by go_num, _, capp3 xs [32] [46, 32] ys, par_len (par_eq HO.out HT.out (HCD.out _ _ HP.out HQ.out) (by simp)) HLE.out, par_eq HO.out HT.out (HCD.out _ _ HP.out HQ.out) (by simp)⟩, by simp [intOf]; omega⟩
          · have b5 : ((k : Int) + 1 == (ns.length : Int)) = false := by simp; omega
            have HQ := hid (if_neg (c := true = true ∧ k + 1 = ns.length) (fun h => h4 h.2) : (if true = true ∧ k + 1 = ns.length then [(46 : UInt8), 32] else []) = [])
            clear h4
            go_wp2_with fail
            exact ⟨⟨HW, k + 1, by omega, by go_num, _, capp2 xs [32] ys, par_len (par_eq HO.out HT.out (HCD.out _ _ HP.out HQ.out) (by simp)) HLE.out, par_eq HO.out HT.out (HCD.out _ _ HP.out HQ.out) (by simp)⟩, by simp [intOf]; omega⟩
        | false =>
          have HQ := hid (if_neg (c := false = true ∧ k + 1 = ns.length) (fun h => by cases h.1) : (if false = true ∧ k + 1 = ns.length then [(46 : UInt8), 32] else []) = [])
          go_wp2_with fail
          exact ⟨⟨HW, k + 1, by omega, by go_num, _, capp2 xs [32] ys, par_len (par_eq HO.out HT.out (HCD.out _ _ HP.out HQ.out) (by simp)) HLE.out, par_eq HO.out HT.out (HCD.out _ _ HP.out HQ.out) (by simp)⟩, by simp [intOf]; omega⟩
      · have hk0' : ¬ (0 : Int) < (k : Int) := by omega
        have HP := hid (if_neg (c := 0 < k) hk0 : (if 0 < k then [(32 : UInt8)] else []) = [])
        cases r with
        | true =>
          by_cases h4 : k + 1 = ns.length
          · have b5 : ((k : Int) + 1 == (ns.length : Int)) = true := by simp; omega
            have HQ := hid (if_pos (c := true = true ∧ k + 1 = ns.length) ⟨rfl, h4⟩ : (if true = true ∧ k + 1 = ns.length then [(46 : UInt8), 32] else []) = [46, 32])
            clear h4
            go_wp2_with fail
            exact ⟨⟨HW, k + 1, by omega, by go_num, _, capp2 xs [46, 32] ys, par_len (par_eq HO.out HT.out (HCD.out _ _ HP.out HQ.out) (by simp)) HLE.out, par_eq HO.out HT.out (HCD.out _ _ HP.out HQ.out) (by simp)⟩, by simp [intOf]; omega⟩
          · have b5 : ((k : Int) + 1 == (ns.length : Int)) = false := by simp; omega
            have HQ := hid (if_neg (c := true = true ∧ k + 1 = ns.length) (fun h => h4 h.2) : (if true = true ∧ k + 1 = ns.length then [(46 : UInt8), 32] else []) = [])
            clear h4
            go_wp2_with fail
            exact ⟨⟨HW, k + 1, by omega, by go_num, _, capp1 xs ys, par_len (par_eq HO.out HT.out (HCD.out _ _ HP.out HQ.out) (by simp)) HLE.out, par_eq HO.out HT.out (HCD.out _ _ HP.out HQ.out) (by simp)⟩, by simp [intOf]; omega⟩
        | false =>
          have HQ := hid (if_neg (c := false = true ∧ k + 1 = ns.length) (fun h => by cases h.1) : (if false = true ∧ k + 1 = ns.length then [(46 : UInt8), 32] else []) = [])
          go_wp2_with fail
          exact ⟨⟨HW, k + 1, by omega, by go_num, _, capp1 xs ys, par_len (par_eq HO.out HT.out (HCD.out _ _ HP.out HQ.out) (by simp)) HLE.out, par_eq HO.out HT.out (HCD.out _ _ HP.out HQ.out) (by simp)⟩, by simp [intOf]; omega⟩
    · have h := HO.out
      rw [List.take_of_length_le (by simp; omega)] at h
      have HO' := hid h
      clear h
      go_wp2_with fail
      go_ret
      refine ⟨?_, HW.out⟩
      rw [HX.out, ← HO'.out]
      exact congrArg Ending.returned (capp1 xs [41])

end Go.Proofs.Ytmmkoohgniambaa
