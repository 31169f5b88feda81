/-
  Plain functions on texts (lists of bytes): what the document's chapter 1 calls an atom and an identifier, as the verifier's model reckons it and as the program does, and that both are one. No condition; no program is named.
  The contracts of the functions over texts: the model's (l1Blank, l1Ends, l1Digits, l1AtomOk, l1IdOk) and the program's (isDigits, hasBytesFrom): each returns what the plain function says of the text's bytes; the world is as it was.
  Memory: blocks of the call's own; a slice of ints; a form (a tree of structs and slices) as it lies in memory below a block number. No program is named.
  What the document calls an ok form, as a plain function on trees. No program is named.
  The law's szIntS and eqIntS over slices of ints return what their plain functions say. Condition: the slices lie in memory as IntsAt says.
  Blocks that were there, and those that are new. No program is named.
-/
import Derived.Test.YtbbffhpppacihaaDoorProg
import Derived.WalkKit
import Derived.WalkSpells
import Derived.WalkLawsBesides
import Derived.Deep.QuietTactic
import Derived.BigQuiet
import Derived.Deep.Draws
namespace Go.Siskin

/-- A blank between pieces. -/
def blankB (c : UInt8) : Bool := c == 32 || c == 10
/-- What ends a word. -/
def endsB (c : UInt8) : Bool := blankB c || c == 40 || c == 41 || c == 34 || c == 39
def digitB (c : UInt8) : Bool := decide (48 ≤ c.toNat) && decide (c.toNat ≤ 57)
/-- Digits alone, one at least. -/
def digitsB (l : List UInt8) : Bool := l.all digitB && !l.isEmpty
/-- All bytes are in least .. 126. -/
def fromB (least : Nat) (l : List UInt8) : Bool := l.all fun c => decide (least ≤ c.toNat) && decide (c.toNat ≤ 126)
/-- What may stand inside a string. -/
def innerB (c : UInt8) : Bool := !(c == 34) && decide (32 ≤ c.toNat) && decide (c.toNat ≤ 126)
def innersB (l : List UInt8) : Bool := l.all innerB
/-- The text of a string, its quotes with it. -/
def stringB (l : List UInt8) : Bool :=
  decide (2 ≤ l.length) && (l.head? == some 34) && (l.getLast? == some 34) && innersB (l.drop 1).dropLast
/-- Digits behind a '-', if there is one (the model's way: a '-' wants something behind it). -/
def minusB (l : List UInt8) : Bool := decide (1 < l.length) && (l.head? == some 45) && digitsB (l.drop 1)
/-- An atom, as the model reckons it. -/
def atomB (l : List UInt8) : Bool := l == [35, 116] || l == [35, 102] || digitsB l || minusB l || stringB l
def wordB (c : UInt8) : Bool := !(endsB c) && decide (33 ≤ c.toNat) && decide (c.toNat ≤ 126) && !(c == 126)
/-- An identifier, as the model reckons it. -/
def idB (l : List UInt8) : Bool := !(l.isEmpty || l == [46] || atomB l || l.head? == some 35) && l.all wordB

/- ### The program's way -/

theorem digits_trim (l : List UInt8) : digitsB (if l.head? = some 45 then l.drop 1 else l) = (digitsB l || minusB l) := by
  by_cases h : l.head? = some 45
  · rw [if_pos h]
    cases l with
    | nil => simp at h
    | cons a r =>
      simp at h; subst h
      have e : digitsB (45 :: r) = false := by simp [digitsB, digitB]
      rw [e]
      cases r with
      | nil => simp [minusB, digitsB]
      | cons b r => simp [minusB]
  · rw [if_neg h]
    have e : minusB l = false := by
      unfold minusB
      have : (l.head? == some 45) = false := by simpa using h
      rw [this]; simp
    rw [e]; simp

/- ### Loops over a text -/

theorem all_take_succ (s : ByteArray) (k : Nat) (h : k < s.size) (p : UInt8 → Bool) : (s.data.toList.take (k + 1)).all p = ((s.data.toList.take k).all p && p s[k]) := by
  rw [List.take_succ_eq_append_getElem (by simpa using h), List.all_append]
  simp; rfl

theorem all_false (s : ByteArray) (k : Nat) (h : k < s.size) (p : UInt8 → Bool) (hp : p s[k] = false) : s.data.toList.all p = false := by
  rw [List.all_eq_false]
  exact ⟨s[k], List.mem_of_getElem (i := k) (h := by simpa using h) rfl, by simp [hp]⟩

theorem all_true (s : ByteArray) (k : Nat) (h : ¬ k < s.size) (p : UInt8 → Bool) (hk : (s.data.toList.take k).all p = true) : s.data.toList.all p = true := by
  rwa [List.take_of_length_le (by simpa using h)] at hk

theorem u8_beq (c : UInt8) (n : Nat) (h : n < 256) : (c == UInt8.ofNat n) = ((c.toNat : Int) == (n : Int)) := by
  rw [Bool.eq_iff_iff]; simp [← UInt8.toNat_inj]; omega

theorem blank_int (c : UInt8) : blankB c = (((c.toNat : Int) == 32) || ((c.toNat : Int) == 10)) := by
  unfold blankB; exact congr (congrArg _ (u8_beq c 32 (by decide))) (u8_beq c 10 (by decide))

theorem ends_int (c : UInt8) : endsB c = (blankB c || ((c.toNat : Int) == 40) || ((c.toNat : Int) == 41) || ((c.toNat : Int) == 34) || ((c.toNat : Int) == 39)) := by
  have e1 := u8_beq c 40 (by decide)
  have e2 := u8_beq c 41 (by decide)
  have e3 := u8_beq c 34 (by decide)
  have e4 := u8_beq c 39 (by decide)
  unfold endsB
  exact congr (congrArg _ (congr (congrArg _ (congr (congrArg _ (congr (congrArg _ rfl) e1)) e2)) e3)) e4

theorem digit_yes (c : UInt8) (h1 : ¬ (c.toNat : Int) < 48) (h2 : ¬ 57 < (c.toNat : Int)) : digitB c = true := by
  unfold digitB; simp; omega
theorem digit_no (c : UInt8) (h : (c.toNat : Int) < 48 ∨ 57 < (c.toNat : Int)) : digitB c = false := by
  unfold digitB; simp; omega

theorem digits_bad (s : ByteArray) (k : Nat) (h : k < s.size) (hb : (s[k].toNat : Int) < 48 ∨ 57 < (s[k].toNat : Int)) : digitsB s.data.toList = false := by
  unfold digitsB; rw [all_false s k h digitB (digit_no _ hb)]; rfl

theorem empty_size (s : ByteArray) : s.data.toList.isEmpty = decide (s.size = 0) := by
  rw [show s.size = s.data.toList.length from by simp]
  cases s.data.toList <;> simp

theorem digits_end (s : ByteArray) (k : Nat) (h : ¬ k < s.size) (hk : (s.data.toList.take k).all digitB = true) : digitsB s.data.toList = decide (0 < s.size) := by
  unfold digitsB; rw [all_true s k h digitB hk, empty_size]
  by_cases e : s.size = 0
  · rw [decide_eq_true e, decide_eq_false (by omega)]; rfl
  · rw [decide_eq_false e, decide_eq_true (by omega)]; rfl

theorem data_get (s : ByteArray) (k : Nat) (h : k < s.size) : s.data.toList[k]? = some s[k] := by
  rw [List.getElem?_eq_getElem (by simpa using h)]; rfl

theorem all_mid_succ (s : ByteArray) (k : Nat) (h1 : 1 ≤ k) (h : k < s.size) (p : UInt8 → Bool) : ((s.data.toList.take (k + 1)).drop 1).all p = (((s.data.toList.take k).drop 1).all p && p s[k]) := by
  rw [List.take_succ_eq_append_getElem (by simpa using h), List.drop_append_of_le_length (by simp; omega), List.all_append]
  simp; rfl

theorem all_mid_false (s : ByteArray) (k m : Nat) (h1 : 1 ≤ k) (hk : k < m) (h : m ≤ s.size) (p : UInt8 → Bool) (hp : p (s[k]'(by omega)) = false) : ((s.data.toList.take m).drop 1).all p = false := by
  rw [List.all_eq_false]
  refine ⟨s[k]'(by omega), ?_, by simp [hp]⟩
  refine List.mem_of_getElem? (i := k - 1) ?_
  rw [List.getElem?_drop, List.getElem?_take, if_pos (by omega), show 1 + (k - 1) = k by omega]
  exact data_get s k (by omega)

theorem u8_some (c : UInt8) (n : Nat) (h : n < 256) : (some c == some (UInt8.ofNat n)) = decide ((c.toNat : Int) = (n : Int)) := by
  rw [Bool.eq_iff_iff]; simp [← UInt8.toNat_inj]; omega

theorem head_size (s : ByteArray) (h : 0 < s.size) : s.data.toList.head? = some s[0] := by
  rw [List.head?_eq_getElem?]; exact data_get s 0 h

theorem last_size (s : ByteArray) (h : 0 < s.size) : s.data.toList.getLast? = some (s[s.size - 1]'(by omega)) := by
  rw [List.getLast?_eq_getElem?, show s.data.toList.length = s.size from by simp]; exact data_get s _ (by omega)

theorem string_parts (s : ByteArray) (h : 2 ≤ s.size) : stringB s.data.toList = (decide (((s[0]'(by omega)).toNat : Int) = 34) && decide (((s[s.size - 1]'(by omega)).toNat : Int) = 34) && innersB ((s.data.toList.take (s.size - 1)).drop 1)) := by
  unfold stringB
  have hl : s.data.toList.length = s.size := by simp
  rw [head_size s (by omega), last_size s (by omega), hl, decide_eq_true h, Bool.true_and]
  have e1 := u8_some (s[0]'(by omega)) 34 (by decide)
  have e2 := u8_some (s[s.size - 1]'(by omega)) 34 (by decide)
  have e3 : (s.data.toList.drop 1).dropLast = (s.data.toList.take (s.size - 1)).drop 1 := by
    rw [List.dropLast_eq_take, List.length_drop, hl, List.take_drop, show 1 + (s.size - 1 - 1) = s.size - 1 by omega]
  rw [e3]
  exact congr (congrArg _ (congr (congrArg _ e1) e2)) rfl

theorem string_short (s : ByteArray) (h : s.size < 2) : stringB s.data.toList = false := by
  unfold stringB
  rw [show s.data.toList.length = s.size from by simp, decide_eq_false (by omega)]; rfl

theorem inner_yes (c : UInt8) (h1 : ¬ (c.toNat : Int) = 34) (h2 : ¬ (c.toNat : Int) < 32) (h3 : ¬ 126 < (c.toNat : Int)) : innerB c = true := by
  have e := u8_beq c 34 (by decide)
  have e' : (c == 34) = false := by rw [show (34 : UInt8) = UInt8.ofNat 34 from rfl, e]; simp; omega
  unfold innerB; rw [e']; simp; omega
theorem inner_no (c : UInt8) (h : (c.toNat : Int) = 34 ∨ (c.toNat : Int) < 32 ∨ 126 < (c.toNat : Int)) : innerB c = false := by
  have e := u8_beq c 34 (by decide)
  unfold innerB
  rcases h with h | h
  · have e' : (c == 34) = true := by rw [show (34 : UInt8) = UInt8.ofNat 34 from rfl, e]; simp; omega
    rw [e']; simp
  · simp; omega

theorem minus_short (s : ByteArray) (h : ¬ 1 < s.size) : minusB s.data.toList = false := by
  unfold minusB
  rw [show s.data.toList.length = s.size from by simp, decide_eq_false h]; rfl
theorem minus_int (s : ByteArray) (h : 1 < s.size) : minusB s.data.toList = (decide (((s[0]'(by omega)).toNat : Int) = 45) && digitsB (s.data.toList.drop 1)) := by
  unfold minusB
  have e1 := u8_some (s[0]'(by omega)) 45 (by decide)
  rw [show s.data.toList.length = s.size from by simp, decide_eq_true h, head_size s (by omega)]
  exact congr (congrArg _ (by rw [Bool.true_and]; exact e1)) rfl

theorem digits_end' (s : ByteArray) (k : Nat) (h : ¬ k < s.size) (hk : (s.data.toList.take k).all digitB = true) : digitsB s.data.toList = !s.data.toList.isEmpty := by
  unfold digitsB; rw [all_true s k h digitB hk]; rfl

theorem word_yes (c : UInt8) (h0 : endsB c = false) (h1 : ¬ (c.toNat : Int) < 33) (h2 : ¬ 126 < (c.toNat : Int)) (h3 : ¬ (c.toNat : Int) = 126) : wordB c = true := by
  have e' : (c == 126) = false := by rw [show (126 : UInt8) = UInt8.ofNat 126 from rfl, u8_beq c 126 (by decide)]; simp; omega
  unfold wordB; rw [e', h0]; simp; omega
theorem word_no (c : UInt8) (h : endsB c = true ∨ (c.toNat : Int) < 33 ∨ 126 < (c.toNat : Int) ∨ (c.toNat : Int) = 126) : wordB c = false := by
  unfold wordB
  rcases h with h | h | h | h
  · rw [h]; rfl
  · simp; omega
  · simp; omega
  · have e' : (c == 126) = true := by rw [show (126 : UInt8) = UInt8.ofNat 126 from rfl, u8_beq c 126 (by decide)]; simp; omega
    rw [e']; simp

/-- What the program asks of a word's bytes. -/
theorem words_two (l : List UInt8) : (fromB 33 l && !(l.any fun c => [40, 41, 34, 39, 126].contains c)) = l.all wordB := by
  induction l with
  | nil => rfl
  | cons c r ih =>
    have e : wordB c = (decide (33 ≤ c.toNat) && decide (c.toNat ≤ 126) && !([40, 41, 34, 39, 126].contains c)) := by
      unfold wordB endsB blankB
      rw [Bool.eq_iff_iff]
      simp [← UInt8.toNat_inj]
      omega
    rw [List.all_cons, e, ← ih]
    unfold fromB
    rw [List.all_cons, List.any_cons]
    cases decide (33 ≤ c.toNat) <;> cases decide (c.toNat ≤ 126) <;> cases ([40, 41, 34, 39, 126].contains c) <;> simp

/-- What the program asks of a string's bytes. -/
theorem string_two (l : List UInt8) (h : 2 ≤ l.length) (h1 : l.head? = some 34) (h2 : l.getLast? = some 34) : (fromB 32 l && !((l.drop 1).dropLast.contains 34)) = stringB l := by
  have e : ∃ m, l = 34 :: (m ++ [34]) := by
    cases l with
    | nil => simp at h1
    | cons a r =>
      simp at h1; subst h1
      have hr : r ≠ [] := by intro e; subst e; simp at h
      refine ⟨r.dropLast, ?_⟩
      have h3 : r.getLast hr = 34 := by
        rw [List.getLast?_eq_some_getLast (by simp)] at h2
        rw [List.getLast_cons hr] at h2
        exact Option.some.inj h2
      have := List.dropLast_concat_getLast hr
      rw [h3] at this
      rw [this]
  obtain ⟨m, rfl⟩ := e
  have e2 : ((34 :: (m ++ [34])).drop 1).dropLast = m := by simp
  unfold stringB
  rw [e2, h1, h2, decide_eq_true h]
  have e3 : fromB 32 (34 :: (m ++ [34])) = fromB 32 m := by unfold fromB; simp
  rw [e3]
  have e4 : (fromB 32 m && !m.contains 34) = innersB m := by
    clear h h1 h2 e2 e3
    induction m with
    | nil => rfl
    | cons c r ih =>
      unfold fromB innersB at *
      rw [List.all_cons, List.all_cons, ← ih, List.contains_cons]
      unfold innerB
      have e5 : (34 == c) = (c == 34) := by rw [Bool.eq_iff_iff]; simp; exact eq_comm
      rw [e5]
      cases decide (32 ≤ c.toNat) <;> cases decide (c.toNat ≤ 126) <;> cases (c == 34) <;> simp
  rw [e4]
  simp

end Go.Siskin

namespace Go.Proofs.YtbbffhpppacihaaDoor
open Go.RowKit Go.Siskin

theorem ret_bool {a b : Bool} (h : a = b) : Ending.returned (.bool a) = .returned (.bool b) := by rw [h]
theorem ret_int {k : IntKind} {a b : Int} (h : a = b) : Ending.returned (.int k a) = .returned (.int k b) := by rw [h]

end Go.Proofs.YtbbffhpppacihaaDoor

namespace Go.Siskin
open Go.RowKit

/-- A fact kept from the walk. -/
theorem hid {p : Prop} (h : p) : Hid p := h

/-- A block of cells, nothing of it frozen. -/
def Own (w : World) (g : Nat) (e : TypeId) (cs : Array Value) : Prop := w.heap[g]? = some (.cells cs e (0, 0))

theorem Own.cell {w : World} {g : Nat} {e : TypeId} {cs : Array Value} (h : Own w g e cs) (i : Nat) : w.cell? ⟨g, i, none⟩ = cs[i]? := by
  unfold Own at h; simp [World.cell?, h]
theorem Own.frozen {w : World} {g : Nat} {e : TypeId} {cs : Array Value} (h : Own w g e cs) (i : Nat) : w.frozen? ⟨g, i, none⟩ = false := by
  unfold Own at h; simp [World.frozen?, h]
theorem Own.set {w : World} {g : Nat} {e : TypeId} {cs : Array Value} (h : Own w g e cs) (i : Nat) (v : Value) : Own (w.setCell ⟨g, i, none⟩ v) g e (cs.setIfInBounds i v) := by
  unfold Own at h ⊢; simp [World.setCell, Array.getElem?_modify, h]
theorem Own.keep {B : Nat} {w w' : World} {g : Nat} {e : TypeId} {cs : Array Value} (h : Own w g e cs) (hb : Below B w w') (hg : g < B) : Own w' g e cs := (hb.block g hg).trans h
theorem Own.lt {w : World} {g : Nat} {e : TypeId} {cs : Array Value} (h : Own w g e cs) : g < w.heap.size := by
  unfold Own at h
  exact (Array.getElem?_eq_some_iff.1 h).1
theorem own_new (w : World) (cs : Array Value) (e : TypeId) : Own (w.alloc (.cells cs e)) w.heap.size e cs := by
  show (w.heap.push (.cells cs e))[w.heap.size]? = _
  simp

/-- What lies below B reads as it did. -/
theorem bcell {W w1 : World} (hb : Below W.heap.size W w1) : (∀ b o, b < W.heap.size → w1.cell? ⟨b, o, none⟩ = W.cell? ⟨b, o, none⟩) ∧ (∀ b o, b < W.heap.size → w1.frozen? ⟨b, o, none⟩ = W.frozen? ⟨b, o, none⟩) :=
  ⟨fun b o h => hb.cell (p := ⟨b, o, none⟩) h, fun b o h => hb.frozen (p := ⟨b, o, none⟩) h⟩

/-- 'make([]T, n)': a new block of n zero elements. -/
theorem wpList_make_new {P : Program} (w : World) {ops : Array Oper} {rest : List Oper} {o : Oper} {a : Act} {Q : Exit → Act → World → Prop}
    (hg : o.guard = none) (l c : Operand) (t : TypeId) (hop : o.op = Op.makeSlice t l c)
    (e : TypeId) (i : TypeInfo) (z : Value) (size : Nat) (h1 : P.underlying t = some (.slice e)) (h2 : P.info? e = some i) (h3 : i.zero = some z) (h4 : i.size = size)
    (kl kc : IntKind) (n : Nat) (hl : a.eval l = .int kl (n : Int)) (hc : a.eval c = .int kc (n : Int)) (b2 : i.bytes * n ≤ 281474976710656) (b3 : n ≤ maxLen)
    (hK : wpList P ops Q rest (a.put o.dst (.slice (some ⟨w.heap.size, 0, none⟩) n n)) (w.alloc (.cells (madeCells z.cells (n * size)) e))) :
    wpList P ops Q (o :: rest) a w := by
  refine wpList_plain hg fun K hK' => ?_
  subst h4
  have h63 : (n : Int) ≤ 9223372036854775807 := by
    have h := b3
    simp [maxLen] at h
    omega
  have hb' : (i.bytes : Int) * (n : Int) ≤ 281474976710656 := by
    have h : ((i.bytes * n : Nat) : Int) ≤ 281474976710656 := by omega
    rwa [Int.natCast_mul] at h
  have hr := run_make (P := P) w t e i z h1 h2 h3 kl kc n n (by omega) (Int.le_refl _) hb' h63
  simp only [Int.toNat_natCast] at hr
  unfold Oper.wp
  simp [execOp, hop, hl, hc, hr, Result.andThen]
  exact hK' _ _ hK

/-- The blocks of R are the same in two worlds. -/
def SameOn (R : Nat → Prop) (w w' : World) : Prop := ∀ b, R b → w'.heap[b]? = w.heap[b]?
theorem SameOn.refl (R : Nat → Prop) (w : World) : SameOn R w w := fun _ _ => rfl
theorem SameOn.trans {R : Nat → Prop} {a b c : World} (h : SameOn R a b) (k : SameOn R b c) : SameOn R a c := fun i hi => (k i hi).trans (h i hi)
theorem SameOn.alloc {R : Nat → Prop} {a w : World} (h : SameOn R a w) (hR : ∀ b, R b → b < w.heap.size) (o : Obj) : SameOn R a (w.alloc o) :=
  fun b hb => (Below.heap_alloc w o b (hR b hb)).trans (h b hb)
theorem SameOn.setCell {R : Nat → Prop} {a w : World} (h : SameOn R a w) {p : Addr} (hp : ¬ R p.block) (u : Value) : SameOn R a (w.setCell p u) :=
  fun b hb => (Below.heap_setCell w p u b (fun e => hp (e ▸ hb))).trans (h b hb)
theorem SameOn.below {R : Nat → Prop} {a w w' : World} (h : SameOn R a w) {N : Nat} (hb : Below N w w') (hR : ∀ b, R b → b < N) : SameOn R a w' :=
  fun b hb' => (hb.block b (hR b hb')).trans (h b hb')
theorem _root_.Go.RowKit.Below.on {R : Nat → Prop} {w w' : World} {N : Nat} (hb : Below N w w') (hR : ∀ b, R b → b < N) : SameOn R w w' := (SameOn.refl R w).below hb hR
theorem SameOn.cell {R : Nat → Prop} {w w' : World} (h : SameOn R w w') {b : Nat} (hb : R b) (o : Nat) : w'.cell? ⟨b, o, none⟩ = w.cell? ⟨b, o, none⟩ := World.cell?_of_block (w := w) (h b hb)
theorem SameOn.drew (R : Nat → Prop) (w : World) : SameOn R w w.drew := fun _ _ => rfl
/-- The blocks that are new in w'. -/
def Fresh (w w' : World) (b : Nat) : Prop := w.heap.size ≤ b ∧ b < w'.heap.size

/-- A slice of ints that lies in blocks of R. -/
def IntsAt (B : Nat → Prop) (w : World) (v : Value) (xs : List Int) : Prop :=
  ∃ a cap, v = .slice a xs.length cap ∧ (xs.length ≤ maxLen ∧ xs.length ≤ cap) ∧ (xs = [] ∨ ∃ b o, a = some ⟨b, o, none⟩ ∧ B b ∧ ∀ i, i < xs.length → w.cell? ⟨b, o + i, none⟩ = some (.int .i64 (xs.getD i 0)))

theorem IntsAt.keep {B : Nat → Prop} {w w' : World} {v : Value} {xs : List Int} (h : IntsAt B w v xs) (hb : SameOn B w w') : IntsAt B w' v xs := by
  obtain ⟨a, cap, e, hl, h⟩ := h
  refine ⟨a, cap, e, hl, ?_⟩
  rcases h with h | ⟨b, o, e, hB, h⟩
  · exact Or.inl h
  · exact Or.inr ⟨b, o, e, hB, fun i hi => (hb.cell hB (o + i)).trans (h i hi)⟩
theorem IntsAt.mono {B B' : Nat → Prop} {w : World} {v : Value} {xs : List Int} (h : IntsAt B w v xs) (hb : ∀ b, B b → B' b) : IntsAt B' w v xs := by
  obtain ⟨a, cap, e, hl, h⟩ := h
  refine ⟨a, cap, e, hl, ?_⟩
  rcases h with h | ⟨b, o, e, hB, h⟩
  · exact Or.inl h
  · exact Or.inr ⟨b, o, e, hb b hB, h⟩

/-- A form: its sort, its text, its scopes, its From, its kids. -/
structure Fm where
  sort : Int
  text : ByteArray
  scopes : List Int
  frm : Int
  kids : List Fm

/-- No form. -/
def Fm.no : Fm := ⟨0, ⟨#[]⟩, [], 0, []⟩

/-- How many forms a form is. -/
def Fm.sz : Fm → Nat
  | ⟨_, _, _, _, ks⟩ => 1 + (ks.map fun k => k.sz).sum
def Fm.szs (ks : List Fm) : Nat := (ks.map Fm.sz).sum
/-- What the law's own count takes of a form. -/
def Fm.cost : Fm → Nat
  | ⟨_, t, sc, _, ks⟩ => t.size + sc.length + ks.length + (ks.map fun k => k.cost).sum
def Fm.costs (ks : List Fm) : Nat := (ks.map Fm.cost).sum

theorem Fm.szs_nil : Fm.szs [] = 0 := rfl
theorem Fm.szs_cons (k : Fm) (r : List Fm) : Fm.szs (k :: r) = k.sz + Fm.szs r := by simp [Fm.szs]
theorem Fm.costs_nil : Fm.costs [] = 0 := rfl
theorem Fm.costs_cons (k : Fm) (r : List Fm) : Fm.costs (k :: r) = k.cost + Fm.costs r := by simp [Fm.costs]
theorem Fm.sz_kids (f : Fm) : f.sz = 1 + Fm.szs f.kids := by
  obtain ⟨s, t, sc, fr, ks⟩ := f
  rw [Fm.sz]; rfl
theorem Fm.cost_eq (f : Fm) : f.cost = f.text.size + f.scopes.length + f.kids.length + Fm.costs f.kids := by
  obtain ⟨s, t, sc, fr, ks⟩ := f
  rw [Fm.cost]; rfl

/-- A form's five cells, and what they lead to, all in blocks of B. -/
def FormAt (B : Nat → Prop) (w : World) : Fm → Value → Value → Value → Value → Value → Prop
  | ⟨s, t, sc, fr, ks⟩, c0, c1, c2, c3, c4 => c0 = .int .i64 s ∧ c1 = .string t ∧ t.size ≤ maxLen ∧ IntsAt B w c2 sc ∧ c3 = .int .i64 fr ∧
      ∃ a cap, c4 = .slice a ks.length cap ∧ ks.length ≤ maxLen ∧ (ks = [] ∨ ∃ b o, a = some ⟨b, o, none⟩ ∧ B b ∧ ∀ (i : Nat) (hi : i < ks.length),
        ∃ k0 k1 k2 k3 k4, w.cell? ⟨b, o + i * 5, none⟩ = some k0 ∧ w.cell? ⟨b, o + i * 5 + 1, none⟩ = some k1 ∧ w.cell? ⟨b, o + i * 5 + 2, none⟩ = some k2 ∧ w.cell? ⟨b, o + i * 5 + 3, none⟩ = some k3 ∧ w.cell? ⟨b, o + i * 5 + 4, none⟩ = some k4 ∧
          (have := List.sizeOf_lt_of_mem (List.getElem_mem hi); FormAt B w ks[i] k0 k1 k2 k3 k4))

/-- Forms that lie side by side from a cell on. -/
def RowAt (B : Nat → Prop) (w : World) (b o : Nat) (ks : List Fm) : Prop := ∀ (i : Nat) (hi : i < ks.length),
  ∃ k0 k1 k2 k3 k4, w.cell? ⟨b, o + i * 5, none⟩ = some k0 ∧ w.cell? ⟨b, o + i * 5 + 1, none⟩ = some k1 ∧ w.cell? ⟨b, o + i * 5 + 2, none⟩ = some k2 ∧ w.cell? ⟨b, o + i * 5 + 3, none⟩ = some k3 ∧ w.cell? ⟨b, o + i * 5 + 4, none⟩ = some k4 ∧ FormAt B w ks[i] k0 k1 k2 k3 k4

/-- A slice of forms. -/
def FormsAt (B : Nat → Prop) (w : World) (v : Value) (ks : List Fm) : Prop :=
  ∃ a cap, v = .slice a ks.length cap ∧ ks.length ≤ maxLen ∧ (ks = [] ∨ ∃ b o, a = some ⟨b, o, none⟩ ∧ B b ∧ RowAt B w b o ks)

theorem formAt_iff (B : Nat → Prop) (w : World) (f : Fm) (c0 c1 c2 c3 c4 : Value) : FormAt B w f c0 c1 c2 c3 c4 ↔
    c0 = .int .i64 f.sort ∧ c1 = .string f.text ∧ f.text.size ≤ maxLen ∧ IntsAt B w c2 f.scopes ∧ c3 = .int .i64 f.frm ∧ FormsAt B w c4 f.kids := by
  obtain ⟨s, t, sc, fr, ks⟩ := f
  rw [FormAt]; rfl

theorem RowAt.get {B : Nat → Prop} {w : World} {b : Nat} (ks : List Fm) {o : Nat} (h : RowAt B w b o ks) (i : Nat) (hi : i < ks.length) :
    ∃ c0 c1 c2 c3 c4, w.cell? ⟨b, o + i * 5, none⟩ = some c0 ∧ w.cell? ⟨b, o + i * 5 + 1, none⟩ = some c1 ∧ w.cell? ⟨b, o + i * 5 + 2, none⟩ = some c2 ∧ w.cell? ⟨b, o + i * 5 + 3, none⟩ = some c3 ∧ w.cell? ⟨b, o + i * 5 + 4, none⟩ = some c4 ∧ FormAt B w ks[i] c0 c1 c2 c3 c4 := h i hi
theorem RowAt.mk {B : Nat → Prop} {w : World} {b : Nat} (ks : List Fm) {o : Nat} (h : ∀ (i : Nat) (hi : i < ks.length),
    ∃ c0 c1 c2 c3 c4, w.cell? ⟨b, o + i * 5, none⟩ = some c0 ∧ w.cell? ⟨b, o + i * 5 + 1, none⟩ = some c1 ∧ w.cell? ⟨b, o + i * 5 + 2, none⟩ = some c2 ∧ w.cell? ⟨b, o + i * 5 + 3, none⟩ = some c3 ∧ w.cell? ⟨b, o + i * 5 + 4, none⟩ = some c4 ∧ FormAt B w ks[i] c0 c1 c2 c3 c4) : RowAt B w b o ks := h

theorem Fm.szs_get : ∀ (ks : List Fm) (i : Nat) (hi : i < ks.length), ks[i].sz ≤ Fm.szs ks
  | [], _, hi => absurd hi (Nat.not_lt_zero _)
  | k :: r, 0, _ => by rw [Fm.szs_cons]; simp
  | k :: r, i + 1, hi => by
    have := Fm.szs_get r i (by simpa using hi)
    simp only [List.getElem_cons_succ, Fm.szs_cons]; omega
theorem Fm.costs_get : ∀ (ks : List Fm) (i : Nat) (hi : i < ks.length), ks[i].cost ≤ Fm.costs ks
  | [], _, hi => absurd hi (Nat.not_lt_zero _)
  | k :: r, 0, _ => by rw [Fm.costs_cons]; simp
  | k :: r, i + 1, hi => by
    have := Fm.costs_get r i (by simpa using hi)
    simp only [List.getElem_cons_succ, Fm.costs_cons]; omega

theorem keep_upto {B : Nat → Prop} {w w' : World} (hb : SameOn B w w') : ∀ (n : Nat) (f : Fm), f.sz ≤ n → ∀ {c0 c1 c2 c3 c4 : Value}, FormAt B w f c0 c1 c2 c3 c4 → FormAt B w' f c0 c1 c2 c3 c4
  | 0, f, hn, _, _, _, _, _, _ => by have := Fm.sz_kids f; omega
  | n + 1, f, hn, c0, c1, c2, c3, c4, h => by
    have hsz := Fm.sz_kids f
    rw [formAt_iff] at h ⊢
    obtain ⟨h0, h1, h2, h3, h4, a, cap, h5, h6, h7⟩ := h
    refine ⟨h0, h1, h2, h3.keep hb, h4, a, cap, h5, h6, ?_⟩
    rcases h7 with h7 | ⟨b, o, h7, h8, h9⟩
    · exact Or.inl h7
    · refine Or.inr ⟨b, o, h7, h8, fun i hi => ?_⟩
      obtain ⟨k0, k1, k2, k3, k4, e0, e1, e2, e3, e4, e5⟩ := h9 i hi
      exact ⟨k0, k1, k2, k3, k4, (hb.cell h8 _).trans e0, (hb.cell h8 _).trans e1, (hb.cell h8 _).trans e2, (hb.cell h8 _).trans e3, (hb.cell h8 _).trans e4, keep_upto hb n _ (by have := Fm.szs_get f.kids i hi; omega) e5⟩
theorem mono_upto {B B' : Nat → Prop} {w : World} (hb : ∀ b, B b → B' b) : ∀ (n : Nat) (f : Fm), f.sz ≤ n → ∀ {c0 c1 c2 c3 c4 : Value}, FormAt B w f c0 c1 c2 c3 c4 → FormAt B' w f c0 c1 c2 c3 c4
  | 0, f, hn, _, _, _, _, _, _ => by have := Fm.sz_kids f; omega
  | n + 1, f, hn, c0, c1, c2, c3, c4, h => by
    have hsz := Fm.sz_kids f
    rw [formAt_iff] at h ⊢
    obtain ⟨h0, h1, h2, h3, h4, a, cap, h5, h6, h7⟩ := h
    refine ⟨h0, h1, h2, h3.mono hb, h4, a, cap, h5, h6, ?_⟩
    rcases h7 with h7 | ⟨b, o, h7, h8, h9⟩
    · exact Or.inl h7
    · refine Or.inr ⟨b, o, h7, hb b h8, fun i hi => ?_⟩
      obtain ⟨k0, k1, k2, k3, k4, e0, e1, e2, e3, e4, e5⟩ := h9 i hi
      exact ⟨k0, k1, k2, k3, k4, e0, e1, e2, e3, e4, mono_upto hb n _ (by have := Fm.szs_get f.kids i hi; omega) e5⟩

theorem FormAt.keep {B : Nat → Prop} {w w' : World} (hb : SameOn B w w') (f : Fm) {c0 c1 c2 c3 c4 : Value} (h : FormAt B w f c0 c1 c2 c3 c4) : FormAt B w' f c0 c1 c2 c3 c4 := keep_upto hb f.sz f (Nat.le_refl _) h
theorem FormAt.mono {B B' : Nat → Prop} {w : World} (hb : ∀ b, B b → B' b) (f : Fm) {c0 c1 c2 c3 c4 : Value} (h : FormAt B w f c0 c1 c2 c3 c4) : FormAt B' w f c0 c1 c2 c3 c4 := mono_upto hb f.sz f (Nat.le_refl _) h
theorem RowAt.keep {B : Nat → Prop} {w w' : World} (hb : SameOn B w w') {b : Nat} (hB : B b) (ks : List Fm) {o : Nat} (h : RowAt B w b o ks) : RowAt B w' b o ks := fun i hi => by
  obtain ⟨k0, k1, k2, k3, k4, e0, e1, e2, e3, e4, e5⟩ := h i hi
  exact ⟨k0, k1, k2, k3, k4, (hb.cell hB _).trans e0, (hb.cell hB _).trans e1, (hb.cell hB _).trans e2, (hb.cell hB _).trans e3, (hb.cell hB _).trans e4, FormAt.keep hb _ e5⟩
theorem RowAt.mono {B B' : Nat → Prop} {w : World} (hb : ∀ b, B b → B' b) {b : Nat} (ks : List Fm) {o : Nat} (h : RowAt B w b o ks) : RowAt B' w b o ks := fun i hi => by
  obtain ⟨k0, k1, k2, k3, k4, e0, e1, e2, e3, e4, e5⟩ := h i hi
  exact ⟨k0, k1, k2, k3, k4, e0, e1, e2, e3, e4, FormAt.mono hb _ e5⟩
theorem FormsAt.keep {B : Nat → Prop} {w w' : World} (hb : SameOn B w w') {v : Value} {ks : List Fm} (h : FormsAt B w v ks) : FormsAt B w' v ks := by
  obtain ⟨a, cap, e, hl, h⟩ := h
  refine ⟨a, cap, e, hl, ?_⟩
  rcases h with h | ⟨b, o, e, hB, h⟩
  · exact Or.inl h
  · exact Or.inr ⟨b, o, e, hB, RowAt.keep hb hB ks h⟩
theorem FormsAt.mono {B B' : Nat → Prop} {w : World} (hb : ∀ b, B b → B' b) {v : Value} {ks : List Fm} (h : FormsAt B w v ks) : FormsAt B' w v ks := by
  obtain ⟨a, cap, e, hl, h⟩ := h
  refine ⟨a, cap, e, hl, ?_⟩
  rcases h with h | ⟨b, o, e, hB, h⟩
  · exact Or.inl h
  · exact Or.inr ⟨b, o, e, hb b hB, RowAt.mono hb ks h⟩

theorem Fm.costs_take (ks : List Fm) (k : Nat) (h : k < ks.length) : Fm.costs (ks.take (k + 1)) = Fm.costs (ks.take k) + ks[k].cost := by
  rw [List.take_succ_eq_append_getElem h]; unfold Fm.costs
  simp only [List.map_append, List.sum_append, List.map_cons, List.map_nil, List.sum_cons, List.sum_nil, Nat.add_zero]
theorem Fm.szs_take (ks : List Fm) (k : Nat) (h : k < ks.length) : Fm.szs (ks.take (k + 1)) = Fm.szs (ks.take k) + ks[k].sz := by
  rw [List.take_succ_eq_append_getElem h]; unfold Fm.szs
  simp only [List.map_append, List.sum_append, List.map_cons, List.map_nil, List.sum_cons, List.sum_nil, Nat.add_zero]
theorem Fm.costs_take_le : ∀ (ks : List Fm) (k : Nat), Fm.costs (ks.take k) ≤ Fm.costs ks
  | [], k => by simp
  | a :: r, 0 => by simp [Fm.costs]
  | a :: r, k + 1 => by have := Fm.costs_take_le r k; simp only [List.take_succ_cons, Fm.costs_cons]; omega
theorem Fm.szs_take_le : ∀ (ks : List Fm) (k : Nat), Fm.szs (ks.take k) ≤ Fm.szs ks
  | [], k => by simp
  | a :: r, 0 => by simp [Fm.szs]
  | a :: r, k + 1 => by have := Fm.szs_take_le r k; simp only [List.take_succ_cons, Fm.szs_cons]; omega
theorem sz_upto : ∀ (n : Nat) (f : Fm), f.sz ≤ n → f.sz ≤ 1 + f.cost
  | 0, f, hn => by have := Fm.sz_kids f; omega
  | n + 1, f, hn => by
    have h1 := Fm.sz_kids f
    have h2 := Fm.cost_eq f
    have h3 : ∀ ks : List Fm, Fm.szs ks ≤ n → Fm.szs ks ≤ ks.length + Fm.costs ks := by
      intro ks
      induction ks with
      | nil => intro _; simp [Fm.szs]
      | cons k r ih =>
        intro hk
        rw [Fm.szs_cons] at hk ⊢
        rw [Fm.costs_cons, List.length_cons]
        have := sz_upto n k (by omega)
        have := ih (by omega)
        omega
    have := h3 f.kids (by omega)
    omega
theorem Fm.sz_le (f : Fm) : f.sz ≤ 1 + f.cost := sz_upto f.sz f (Nat.le_refl _)

end Go.Siskin

namespace Go.Siskin

def ascB : List Int → Bool
  | [] => true
  | [_] => true
  | a :: b :: r => decide (a < b) && ascB (b :: r)
/-- Scopes: ascending, none below 0. -/
def scopesB (xs : List Int) : Bool := ascB xs && xs.all fun x => decide (0 ≤ x)

def idFormB (f : Fm) : Bool := idB f.text.data.toList && decide (f.text.size ≤ 40) && decide (0 ≤ f.frm) && scopesB f.scopes && decide (f.kids.length = 0)
def atomFormB (f : Fm) : Bool := atomB f.text.data.toList && decide (f.text.size ≤ 40) && decide (f.frm = 0) && decide (f.scopes.length + f.kids.length = 0)
def listFormB (f : Fm) : Bool := decide (f.text.size = 0) && decide (f.frm = 0) && decide (f.scopes.length = 0)
/-- What is asked of a form's own fields. -/
def headB (f : Fm) : Bool := if f.sort = 1 then idFormB f else if f.sort = 2 then atomFormB f else if f.sort = 3 then listFormB f else if f.sort = 4 then listFormB f else false
/-- What is asked of the last kid of a list that ends in something else. -/
def endB (ks : List Fm) : Bool := decide (1 < ks.length) && (decide ((ks.getD (ks.length - 1) Fm.no).sort = 1) || decide ((ks.getD (ks.length - 1) Fm.no).sort = 2))
def tailB (f : Fm) : Bool := decide (f.sort ≠ 4) || endB f.kids

/-- An ok form, deep forms within others. -/
def okB : Fm → Nat → Bool
  | ⟨s, t, sc, fr, ks⟩, d => decide (d ≤ 60) && headB ⟨s, t, sc, fr, ks⟩ && (ks.map fun k => okB k (d + 1)).all id && tailB ⟨s, t, sc, fr, ks⟩
def oksB (ks : List Fm) (d : Nat) : Bool := (ks.map fun k => okB k d).all id
theorem oksB_nil (d : Nat) : oksB [] d = true := rfl
theorem oksB_cons (k : Fm) (r : List Fm) (d : Nat) : oksB (k :: r) d = (okB k d && oksB r d) := rfl

theorem okB_eq (f : Fm) (d : Nat) : okB f d = (decide (d ≤ 60) && headB f && oksB f.kids (d + 1) && tailB f) := by
  obtain ⟨s, t, sc, fr, ks⟩ := f
  rw [okB]; rfl
theorem oksB_take (ks : List Fm) (k d : Nat) (h : k < ks.length) : oksB (ks.take (k + 1)) d = (oksB (ks.take k) d && okB ks[k] d) := by
  rw [List.take_succ_eq_append_getElem h]; unfold oksB
  simp only [List.map_append, List.all_append, List.map_cons, List.map_nil, List.all_cons, List.all_nil, Bool.and_true, id]
theorem oksB_bad : ∀ (ks : List Fm) (k d : Nat) (h : k < ks.length), okB ks[k] d = false → oksB ks d = false
  | [], _, _, h, _ => absurd h (Nat.not_lt_zero _)
  | a :: r, 0, d, _, hb => by rw [oksB_cons]; simp at hb; rw [hb]; rfl
  | a :: r, k + 1, d, h, hb => by rw [oksB_cons, oksB_bad r k d (by simpa using h) (by simpa using hb)]; simp

theorem okB_deep (f : Fm) (d : Nat) (h : 60 < d) : okB f d = false := by rw [okB_eq, decide_eq_false (by omega)]; rfl
theorem okB_id (f : Fm) (d : Nat) (h : d ≤ 60) (hs : f.sort = 1) : okB f d = idFormB f := by
  have h1 : tailB f = true := by unfold tailB; rw [hs]; rfl
  have h2 : headB f = idFormB f := by unfold headB; rw [if_pos hs]
  rw [okB_eq, decide_eq_true h, h1, h2]
  cases hk : f.kids with
  | nil => simp [oksB_nil]
  | cons a r => unfold idFormB; rw [hk]; simp
theorem okB_atom (f : Fm) (d : Nat) (h : d ≤ 60) (hs : f.sort = 2) : okB f d = atomFormB f := by
  have h1 : tailB f = true := by unfold tailB; rw [hs]; rfl
  have h2 : headB f = atomFormB f := by unfold headB; rw [if_neg (by omega), if_pos hs]
  rw [okB_eq, decide_eq_true h, h1, h2]
  cases hk : f.kids with
  | nil => simp [oksB_nil]
  | cons a r => unfold atomFormB; rw [hk]; simp
theorem okB_list (f : Fm) (d : Nat) (h : d ≤ 60) (hs : f.sort = 3) : okB f d = (listFormB f && oksB f.kids (d + 1)) := by
  have h1 : tailB f = true := by unfold tailB; rw [hs]; rfl
  have h2 : headB f = listFormB f := by unfold headB; rw [if_neg (by omega), if_neg (by omega), if_pos hs]
  rw [okB_eq, decide_eq_true h, h1, h2]; simp
theorem okB_dots (f : Fm) (d : Nat) (h : d ≤ 60) (hs : f.sort = 4) : okB f d = (listFormB f && oksB f.kids (d + 1) && endB f.kids) := by
  have h1 : tailB f = endB f.kids := by unfold tailB; rw [hs]; rfl
  have h2 : headB f = listFormB f := by unfold headB; rw [if_neg (by omega), if_neg (by omega), if_neg (by omega), if_pos hs]
  rw [okB_eq, decide_eq_true h, h1, h2]; simp
theorem okB_none (f : Fm) (d : Nat) (h1 : f.sort ≠ 1) (h2 : f.sort ≠ 2) (h3 : f.sort ≠ 3) (h4 : f.sort ≠ 4) : okB f d = false := by
  rw [okB_eq]; unfold headB; rw [if_neg h1, if_neg h2, if_neg h3, if_neg h4]; simp

end Go.Siskin

namespace Go.Proofs.YtbbffhpppacihaaDoor
open Go.RowKit Go.Siskin

def szI (n : Nat) (left : Int) : Int := if left - n < 0 then -1 else left - n

theorem eq_bad (xs ys : List Int) (k : Nat) (h : k < xs.length) (h2 : k < ys.length) (hx : (xs[k] != ys[k]) = true) : (xs == ys) = false := by
  rw [beq_eq_false_iff_ne]
  intro e; subst e; simp at hx
theorem eq_step (xs ys : List Int) (k : Nat) (h : k < xs.length) (h2 : k < ys.length) (he : xs.take k = ys.take k) (hx : (xs[k] != ys[k]) = false) : xs.take (k + 1) = ys.take (k + 1) := by
  rw [List.take_succ_eq_append_getElem h, List.take_succ_eq_append_getElem h2, he]
  simp at hx; rw [hx]
theorem eq_end (xs ys : List Int) (k : Nat) (h : ¬ k < xs.length) (hn : xs.length = ys.length) (he : xs.take k = ys.take k) : (xs == ys) = true := by
  rw [List.take_of_length_le (by omega), List.take_of_length_le (by omega)] at he
  subst he; simp

/-- ascending up to place k, by index -/
def AscTo (xs : List Int) (k : Nat) : Prop := ∀ i, i + 1 < k → (xs.getD i 0) < (xs.getD (i + 1) 0)
def NonTo (xs : List Int) (k : Nat) : Prop := ∀ i, i < k → 0 ≤ xs.getD i 0

theorem asc_iff : ∀ xs : List Int, ascB xs = true ↔ AscTo xs xs.length
  | [] => by simp [ascB, AscTo]
  | [a] => by simp [ascB, AscTo]
  | a :: b :: r => by
    have ih := asc_iff (b :: r)
    unfold ascB
    rw [Bool.and_eq_true, ih, decide_eq_true_eq]
    constructor
    · rintro ⟨h1, h2⟩ i hi
      cases i with
      | zero => simpa using h1
      | succ i => have := h2 i (by simp at hi ⊢; omega); simpa using this
    · intro h
      refine ⟨by simpa using h 0 (by simp), fun i hi => ?_⟩
      have := h (i + 1) (by simp at hi ⊢; omega)
      simpa using this

theorem scopes_iff (xs : List Int) : scopesB xs = true ↔ AscTo xs xs.length ∧ NonTo xs xs.length := by
  unfold scopesB
  rw [Bool.and_eq_true, asc_iff, List.all_eq_true]
  refine and_congr Iff.rfl ⟨fun h i hi => ?_, fun h x hx => ?_⟩
  · have := h (xs[i]) (List.getElem_mem hi)
    simpa [List.getD_eq_getElem?_getD, hi] using this
  · obtain ⟨i, hi, rfl⟩ := List.getElem_of_mem hx
    have := h i hi
    simpa [List.getD_eq_getElem?_getD, hi] using this

end Go.Proofs.YtbbffhpppacihaaDoor

namespace Go.Siskin
def Reg (B : Nat → Prop) (w w' : World) (b : Nat) : Prop := B b ∨ (w.heap.size ≤ b ∧ b < w'.heap.size)
end Go.Siskin
