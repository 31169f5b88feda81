/-
  Plain functions on texts (lists of bytes): what the document's chapter 1 calls an atom and an identifier, as the verifier's model reckons it and as the program does, and that both are one. No condition; no program is named.
  The contracts of the functions over texts: the model's (l1Blank, l1Ends, l1Digits, l1AtomOk, l1IdOk) and the program's (isDigits, hasBytesFrom): each returns what the plain function says of the text's bytes; the world is as it was.
  What the document calls an ok form, as a plain function on trees. No program is named.
-/
import Derived.Test.YtbbffhpppacihaaDoorProg
import Derived.WalkKit
import Derived.WalkSpells
import Derived.WalkLawsBesides
import Derived.Test.YtbbffhpppacihaaDoorPart1
namespace Go.Siskin

/-- A blank between pieces. -/
def blankB (c : UInt8) : Bool := c == 32 || c == 10
/-- What ends a word. -/
def endsB (c : UInt8) : Bool := blankB c || c == 40 || c == 41 || c == 34 || c == 39
def digitB (c : UInt8) : Bool := decide (48 ≤ c.toNat) && decide (c.toNat ≤ 57)
/-- Digits alone, one at least. -/
def digitsB (l : List UInt8) : Bool := l.all digitB && !l.isEmpty
/-- All bytes are in least .. 126. -/
def fromB (least : Nat) (l : List UInt8) : Bool := l.all fun c => decide (least ≤ c.toNat) && decide (c.toNat ≤ 126)
/-- What may stand inside a string. -/
def innerB (c : UInt8) : Bool := !(c == 34) && decide (32 ≤ c.toNat) && decide (c.toNat ≤ 126)
def innersB (l : List UInt8) : Bool := l.all innerB
/-- The text of a string, its quotes with it. -/
def stringB (l : List UInt8) : Bool :=
  decide (2 ≤ l.length) && (l.head? == some 34) && (l.getLast? == some 34) && innersB (l.drop 1).dropLast
/-- Digits behind a '-', if there is one (the model's way: a '-' wants something behind it). -/
def minusB (l : List UInt8) : Bool := decide (1 < l.length) && (l.head? == some 45) && digitsB (l.drop 1)
/-- An atom, as the model reckons it. -/
def atomB (l : List UInt8) : Bool := l == [35, 116] || l == [35, 102] || digitsB l || minusB l || stringB l
def wordB (c : UInt8) : Bool := !(endsB c) && decide (33 ≤ c.toNat) && decide (c.toNat ≤ 126) && !(c == 126)
/-- An identifier, as the model reckons it. -/
def idB (l : List UInt8) : Bool := !(l.isEmpty || l == [46] || atomB l || l.head? == some 35) && l.all wordB

/- ### The program's way -/

theorem digits_trim (l : List UInt8) : digitsB (if l.head? = some 45 then l.drop 1 else l) = (digitsB l || minusB l) := by
  by_cases h : l.head? = some 45
  · rw [if_pos h]
    cases l with
    | nil => simp at h
    | cons a r =>
      simp at h; subst h
      have e : digitsB (45 :: r) = false := by simp [digitsB, digitB]
      rw [e]
      cases r with
      | nil => simp [minusB, digitsB]
      | cons b r => simp [minusB]
  · rw [if_neg h]
    have e : minusB l = false := by
      unfold minusB
      have : (l.head? == some 45) = false := by simpa using h
      rw [this]; simp
    rw [e]; simp

/- ### Loops over a text -/

theorem all_take_succ (s : ByteArray) (k : Nat) (h : k < s.size) (p : UInt8 → Bool) : (s.data.toList.take (k + 1)).all p = ((s.data.toList.take k).all p && p s[k]) := by
  rw [List.take_succ_eq_append_getElem (by simpa using h), List.all_append]
  simp; rfl

theorem all_false (s : ByteArray) (k : Nat) (h : k < s.size) (p : UInt8 → Bool) (hp : p s[k] = false) : s.data.toList.all p = false := by
  rw [List.all_eq_false]
  exact ⟨s[k], List.mem_of_getElem (i := k) (h := by simpa using h) rfl, by simp [hp]⟩

theorem all_true (s : ByteArray) (k : Nat) (h : ¬ k < s.size) (p : UInt8 → Bool) (hk : (s.data.toList.take k).all p = true) : s.data.toList.all p = true := by
  rwa [List.take_of_length_le (by simpa using h)] at hk

theorem u8_beq (c : UInt8) (n : Nat) (h : n < 256) : (c == UInt8.ofNat n) = ((c.toNat : Int) == (n : Int)) := by
  rw [Bool.eq_iff_iff]; simp [← UInt8.toNat_inj]; omega

theorem blank_int (c : UInt8) : blankB c = (((c.toNat : Int) == 32) || ((c.toNat : Int) == 10)) := by
  unfold blankB; exact congr (congrArg _ (u8_beq c 32 (by decide))) (u8_beq c 10 (by decide))

theorem ends_int (c : UInt8) : endsB c = (blankB c || ((c.toNat : Int) == 40) || ((c.toNat : Int) == 41) || ((c.toNat : Int) == 34) || ((c.toNat : Int) == 39)) := by
  have e1 := u8_beq c 40 (by decide)
  have e2 := u8_beq c 41 (by decide)
  have e3 := u8_beq c 34 (by decide)
  have e4 := u8_beq c 39 (by decide)
  unfold endsB
  exact congr (congrArg _ (congr (congrArg _ (congr (congrArg _ (congr (congrArg _ rfl) e1)) e2)) e3)) e4

theorem digit_yes (c : UInt8) (h1 : ¬ (c.toNat : Int) < 48) (h2 : ¬ 57 < (c.toNat : Int)) : digitB c = true := by
  unfold digitB; simp; omega
theorem digit_no (c : UInt8) (h : (c.toNat : Int) < 48 ∨ 57 < (c.toNat : Int)) : digitB c = false := by
  unfold digitB; simp; omega

theorem digits_bad (s : ByteArray) (k : Nat) (h : k < s.size) (hb : (s[k].toNat : Int) < 48 ∨ 57 < (s[k].toNat : Int)) : digitsB s.data.toList = false := by
  unfold digitsB; rw [all_false s k h digitB (digit_no _ hb)]; rfl

theorem empty_size (s : ByteArray) : s.data.toList.isEmpty = decide (s.size = 0) := by
  rw [show s.size = s.data.toList.length from by simp]
  cases s.data.toList <;> simp

theorem digits_end (s : ByteArray) (k : Nat) (h : ¬ k < s.size) (hk : (s.data.toList.take k).all digitB = true) : digitsB s.data.toList = decide (0 < s.size) := by
  unfold digitsB; rw [all_true s k h digitB hk, empty_size]
  by_cases e : s.size = 0
  · rw [decide_eq_true e, decide_eq_false (by omega)]; rfl
  · rw [decide_eq_false e, decide_eq_true (by omega)]; rfl

theorem data_get (s : ByteArray) (k : Nat) (h : k < s.size) : s.data.toList[k]? = some s[k] := by
  rw [List.getElem?_eq_getElem (by simpa using h)]; rfl

theorem all_mid_succ (s : ByteArray) (k : Nat) (h1 : 1 ≤ k) (h : k < s.size) (p : UInt8 → Bool) : ((s.data.toList.take (k + 1)).drop 1).all p = (((s.data.toList.take k).drop 1).all p && p s[k]) := by
  rw [List.take_succ_eq_append_getElem (by simpa using h), List.drop_append_of_le_length (by simp; omega), List.all_append]
  simp; rfl

theorem all_mid_false (s : ByteArray) (k m : Nat) (h1 : 1 ≤ k) (hk : k < m) (h : m ≤ s.size) (p : UInt8 → Bool) (hp : p (s[k]'(by omega)) = false) : ((s.data.toList.take m).drop 1).all p = false := by
  rw [List.all_eq_false]
  refine ⟨s[k]'(by omega), ?_, by simp [hp]⟩
  refine List.mem_of_getElem? (i := k - 1) ?_
  rw [List.getElem?_drop, List.getElem?_take, if_pos (by omega), show 1 + (k - 1) = k by omega]
  exact data_get s k (by omega)

theorem u8_some (c : UInt8) (n : Nat) (h : n < 256) : (some c == some (UInt8.ofNat n)) = decide ((c.toNat : Int) = (n : Int)) := by
  rw [Bool.eq_iff_iff]; simp [← UInt8.toNat_inj]; omega

theorem head_size (s : ByteArray) (h : 0 < s.size) : s.data.toList.head? = some s[0] := by
  rw [List.head?_eq_getElem?]; exact data_get s 0 h

theorem last_size (s : ByteArray) (h : 0 < s.size) : s.data.toList.getLast? = some (s[s.size - 1]'(by omega)) := by
  rw [List.getLast?_eq_getElem?, show s.data.toList.length = s.size from by simp]; exact data_get s _ (by omega)

theorem string_parts (s : ByteArray) (h : 2 ≤ s.size) : stringB s.data.toList = (decide (((s[0]'(by omega)).toNat : Int) = 34) && decide (((s[s.size - 1]'(by omega)).toNat : Int) = 34) && innersB ((s.data.toList.take (s.size - 1)).drop 1)) := by
  unfold stringB
  have hl : s.data.toList.length = s.size := by simp
  rw [head_size s (by omega), last_size s (by omega), hl, decide_eq_true h, Bool.true_and]
  have e1 := u8_some (s[0]'(by omega)) 34 (by decide)
  have e2 := u8_some (s[s.size - 1]'(by omega)) 34 (by decide)
  have e3 : (s.data.toList.drop 1).dropLast = (s.data.toList.take (s.size - 1)).drop 1 := by
    rw [List.dropLast_eq_take, List.length_drop, hl, List.take_drop, show 1 + (s.size - 1 - 1) = s.size - 1 by omega]
  rw [e3]
  exact congr (congrArg _ (congr (congrArg _ e1) e2)) rfl

theorem string_short (s : ByteArray) (h : s.size < 2) : stringB s.data.toList = false := by
  unfold stringB
  rw [show s.data.toList.length = s.size from by simp, decide_eq_false (by omega)]; rfl

theorem inner_yes (c : UInt8) (h1 : ¬ (c.toNat : Int) = 34) (h2 : ¬ (c.toNat : Int) < 32) (h3 : ¬ 126 < (c.toNat : Int)) : innerB c = true := by
  have e := u8_beq c 34 (by decide)
  have e' : (c == 34) = false := by rw [show (34 : UInt8) = UInt8.ofNat 34 from rfl, e]; simp; omega
  unfold innerB; rw [e']; simp; omega
theorem inner_no (c : UInt8) (h : (c.toNat : Int) = 34 ∨ (c.toNat : Int) < 32 ∨ 126 < (c.toNat : Int)) : innerB c = false := by
  have e := u8_beq c 34 (by decide)
  unfold innerB
  rcases h with h | h
  · have e' : (c == 34) = true := by rw [show (34 : UInt8) = UInt8.ofNat 34 from rfl, e]; simp; omega
    rw [e']; simp
  · simp; omega

theorem minus_short (s : ByteArray) (h : ¬ 1 < s.size) : minusB s.data.toList = false := by
  unfold minusB
  rw [show s.data.toList.length = s.size from by simp, decide_eq_false h]; rfl
theorem minus_int (s : ByteArray) (h : 1 < s.size) : minusB s.data.toList = (decide (((s[0]'(by omega)).toNat : Int) = 45) && digitsB (s.data.toList.drop 1)) := by
  unfold minusB
  have e1 := u8_some (s[0]'(by omega)) 45 (by decide)
  rw [show s.data.toList.length = s.size from by simp, decide_eq_true h, head_size s (by omega)]
  exact congr (congrArg _ (by rw [Bool.true_and]; exact e1)) rfl

theorem digits_end' (s : ByteArray) (k : Nat) (h : ¬ k < s.size) (hk : (s.data.toList.take k).all digitB = true) : digitsB s.data.toList = !s.data.toList.isEmpty := by
  unfold digitsB; rw [all_true s k h digitB hk]; rfl

theorem word_yes (c : UInt8) (h0 : endsB c = false) (h1 : ¬ (c.toNat : Int) < 33) (h2 : ¬ 126 < (c.toNat : Int)) (h3 : ¬ (c.toNat : Int) = 126) : wordB c = true := by
  have e' : (c == 126) = false := by rw [show (126 : UInt8) = UInt8.ofNat 126 from rfl, u8_beq c 126 (by decide)]; simp; omega
  unfold wordB; rw [e', h0]; simp; omega
theorem word_no (c : UInt8) (h : endsB c = true ∨ (c.toNat : Int) < 33 ∨ 126 < (c.toNat : Int) ∨ (c.toNat : Int) = 126) : wordB c = false := by
  unfold wordB
  rcases h with h | h | h | h
  · rw [h]; rfl
  · simp; omega
  · simp; omega
  · have e' : (c == 126) = true := by rw [show (126 : UInt8) = UInt8.ofNat 126 from rfl, u8_beq c 126 (by decide)]; simp; omega
    rw [e']; simp

/-- What the program asks of a word's bytes. -/
theorem words_two (l : List UInt8) : (fromB 33 l && !(l.any fun c => [40, 41, 34, 39, 126].contains c)) = l.all wordB := by
  induction l with
  | nil => rfl
  | cons c r ih =>
    have e : wordB c = (decide (33 ≤ c.toNat) && decide (c.toNat ≤ 126) && !([40, 41, 34, 39, 126].contains c)) := by
      unfold wordB endsB blankB
      rw [Bool.eq_iff_iff]
      simp [← UInt8.toNat_inj]
      omega
    rw [List.all_cons, e, ← ih]
    unfold fromB
    rw [List.all_cons, List.any_cons]
    cases decide (33 ≤ c.toNat) <;> cases decide (c.toNat ≤ 126) <;> cases ([40, 41, 34, 39, 126].contains c) <;> simp

/-- What the program asks of a string's bytes. -/
theorem string_two (l : List UInt8) (h : 2 ≤ l.length) (h1 : l.head? = some 34) (h2 : l.getLast? = some 34) : (fromB 32 l && !((l.drop 1).dropLast.contains 34)) = stringB l := by
  have e : ∃ m, l = 34 :: (m ++ [34]) := by
    cases l with
    | nil => simp at h1
    | cons a r =>
      simp at h1; subst h1
      have hr : r ≠ [] := by intro e; subst e; simp at h
      refine ⟨r.dropLast, ?_⟩
      have h3 : r.getLast hr = 34 := by
        rw [List.getLast?_eq_some_getLast (by simp)] at h2
        rw [List.getLast_cons hr] at h2
        exact Option.some.inj h2
      have := List.dropLast_concat_getLast hr
      rw [h3] at this
      rw [this]
  obtain ⟨m, rfl⟩ := e
  have e2 : ((34 :: (m ++ [34])).drop 1).dropLast = m := by simp
  unfold stringB
  rw [e2, h1, h2, decide_eq_true h]
  have e3 : fromB 32 (34 :: (m ++ [34])) = fromB 32 m := by unfold fromB; simp
  rw [e3]
  have e4 : (fromB 32 m && !m.contains 34) = innersB m := by
    clear h h1 h2 e2 e3
    induction m with
    | nil => rfl
    | cons c r ih =>
      unfold fromB innersB at *
      rw [List.all_cons, List.all_cons, ← ih, List.contains_cons]
      unfold innerB
      have e5 : (34 == c) = (c == 34) := by rw [Bool.eq_iff_iff]; simp; exact eq_comm
      rw [e5]
      cases decide (32 ≤ c.toNat) <;> cases decide (c.toNat ≤ 126) <;> cases (c == 34) <;> simp
  rw [e4]
  simp

end Go.Siskin

namespace Go.Proofs.YtbbffhpppacihaaDoor
open Go.RowKit Go.Siskin

theorem ret_bool {a b : Bool} (h : a = b) : Ending.returned (.bool a) = .returned (.bool b) := by rw [h]
theorem ret_int {k : IntKind} {a b : Int} (h : a = b) : Ending.returned (.int k a) = .returned (.int k b) := by rw [h]

end Go.Proofs.YtbbffhpppacihaaDoor

namespace Go.Siskin

def ascB : List Int → Bool
  | [] => true
  | [_] => true
  | a :: b :: r => decide (a < b) && ascB (b :: r)
/-- Scopes: ascending, none below 0. -/
def scopesB (xs : List Int) : Bool := ascB xs && xs.all fun x => decide (0 ≤ x)

def idFormB (f : Fm) : Bool := idB f.text.data.toList && decide (f.text.size ≤ 40) && decide (0 ≤ f.frm) && scopesB f.scopes && decide (f.kids.length = 0)
def atomFormB (f : Fm) : Bool := atomB f.text.data.toList && decide (f.text.size ≤ 40) && decide (f.frm = 0) && decide (f.scopes.length + f.kids.length = 0)
def listFormB (f : Fm) : Bool := decide (f.text.size = 0) && decide (f.frm = 0) && decide (f.scopes.length = 0)
/-- What is asked of a form's own fields. -/
def headB (f : Fm) : Bool := if f.sort = 1 then idFormB f else if f.sort = 2 then atomFormB f else if f.sort = 3 then listFormB f else if f.sort = 4 then listFormB f else false
/-- What is asked of the last kid of a list that ends in something else. -/
def endB (ks : List Fm) : Bool := decide (1 < ks.length) && (decide ((ks.getD (ks.length - 1) Fm.no).sort = 1) || decide ((ks.getD (ks.length - 1) Fm.no).sort = 2))
def tailB (f : Fm) : Bool := decide (f.sort ≠ 4) || endB f.kids

/-- An ok form, deep forms within others. -/
def okB : Fm → Nat → Bool
  | ⟨s, t, sc, fr, ks⟩, d => decide (d ≤ 60) && headB ⟨s, t, sc, fr, ks⟩ && (ks.map fun k => okB k (d + 1)).all id && tailB ⟨s, t, sc, fr, ks⟩
def oksB (ks : List Fm) (d : Nat) : Bool := (ks.map fun k => okB k d).all id
theorem oksB_nil (d : Nat) : oksB [] d = true := rfl
theorem oksB_cons (k : Fm) (r : List Fm) (d : Nat) : oksB (k :: r) d = (okB k d && oksB r d) := rfl

theorem okB_eq (f : Fm) (d : Nat) : okB f d = (decide (d ≤ 60) && headB f && oksB f.kids (d + 1) && tailB f) := by
  obtain ⟨s, t, sc, fr, ks⟩ := f
  rw [okB]; rfl
theorem oksB_take (ks : List Fm) (k d : Nat) (h : k < ks.length) : oksB (ks.take (k + 1)) d = (oksB (ks.take k) d && okB ks[k] d) := by
  rw [List.take_succ_eq_append_getElem h]; unfold oksB
  simp only [List.map_append, List.all_append, List.map_cons, List.map_nil, List.all_cons, List.all_nil, Bool.and_true, id]
theorem oksB_bad : ∀ (ks : List Fm) (k d : Nat) (h : k < ks.length), okB ks[k] d = false → oksB ks d = false
  | [], _, _, h, _ => absurd h (Nat.not_lt_zero _)
  | a :: r, 0, d, _, hb => by rw [oksB_cons]; simp at hb; rw [hb]; rfl
  | a :: r, k + 1, d, h, hb => by rw [oksB_cons, oksB_bad r k d (by simpa using h) (by simpa using hb)]; simp

theorem okB_deep (f : Fm) (d : Nat) (h : 60 < d) : okB f d = false := by rw [okB_eq, decide_eq_false (by omega)]; rfl
theorem okB_id (f : Fm) (d : Nat) (h : d ≤ 60) (hs : f.sort = 1) : okB f d = idFormB f := by
  have h1 : tailB f = true := by unfold tailB; rw [hs]; rfl
  have h2 : headB f = idFormB f := by unfold headB; rw [if_pos hs]
  rw [okB_eq, decide_eq_true h, h1, h2]
  cases hk : f.kids with
  | nil => simp [oksB_nil]
  | cons a r => unfold idFormB; rw [hk]; simp
theorem okB_atom (f : Fm) (d : Nat) (h : d ≤ 60) (hs : f.sort = 2) : okB f d = atomFormB f := by
  have h1 : tailB f = true := by unfold tailB; rw [hs]; rfl
  have h2 : headB f = atomFormB f := by unfold headB; rw [if_neg (by omega), if_pos hs]
  rw [okB_eq, decide_eq_true h, h1, h2]
  cases hk : f.kids with
  | nil => simp [oksB_nil]
  | cons a r => unfold atomFormB; rw [hk]; simp
theorem okB_list (f : Fm) (d : Nat) (h : d ≤ 60) (hs : f.sort = 3) : okB f d = (listFormB f && oksB f.kids (d + 1)) := by
  have h1 : tailB f = true := by unfold tailB; rw [hs]; rfl
  have h2 : headB f = listFormB f := by unfold headB; rw [if_neg (by omega), if_neg (by omega), if_pos hs]
  rw [okB_eq, decide_eq_true h, h1, h2]; simp
theorem okB_dots (f : Fm) (d : Nat) (h : d ≤ 60) (hs : f.sort = 4) : okB f d = (listFormB f && oksB f.kids (d + 1) && endB f.kids) := by
  have h1 : tailB f = endB f.kids := by unfold tailB; rw [hs]; rfl
  have h2 : headB f = listFormB f := by unfold headB; rw [if_neg (by omega), if_neg (by omega), if_neg (by omega), if_pos hs]
  rw [okB_eq, decide_eq_true h, h1, h2]; simp
theorem okB_none (f : Fm) (d : Nat) (h1 : f.sort ≠ 1) (h2 : f.sort ≠ 2) (h3 : f.sort ≠ 3) (h4 : f.sort ≠ 4) : okB f d = false := by
  rw [okB_eq]; unfold headB; rw [if_neg h1, if_neg h2, if_neg h3, if_neg h4]; simp

end Go.Siskin
