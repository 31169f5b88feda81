/-
  Keys of identifiers: a key tells text and scopes apart. No program is named.
  The program's key of an identifier. Condition: its scopes lie in memory, are numbers of the machine from nought on, and the table of powers stands.
  Binds (a text, scopes, a name) as they lie in memory. No program is named.
  A map from texts to values, as it lies in memory: what it holds at each text. No program is named.
  A map from keys to places, as it lies in memory: at a key the first place of it in a list. No program is named.
  The model's l1ScopesOk and the program's isAscending and areScopes return whether scopes are ascending, none below 0. Condition: the slice lies in memory as IntsAt says.
  The law's toIntS returns a copy in new memory. Condition: the slice lies in memory, and is not too long.
  The law's szExpForm and szExpFormS take from a number what a form costs. Condition: the form lies in memory as FormAt says.
  The model's l1AtomOk returns, at every text, whether it is an atom; the world is as it was. Condition: the text's size is one that a Go string can have.
  The program's isDigits and hasBytesFrom return what the plain functions say of the text; the world is as it was. Condition: the text's size is one that a Go string can have.
-/
import Derived.Lib.ItoaNum
import Derived.Lib.ItoaLen
import Derived.Test.YthlacjabelpehaaGreatDoorPart1
import Derived.Test.YthlacjabelpehaaGreatDoorBW
import Derived.Test.YthlacjabelpehaaGreatDoorShelf4
import Derived.Maps.OwnOps
import Derived.Maps.AppendAt
import Derived.Maps.Views
import Derived.StringKeys
import Derived.Maps.OwnSet
import Derived.Lib.Strings
namespace Go.Siskin

/-- Behind the text: a space and its numeral for each scope. -/
def keyTail : List Int → List UInt8
  | [] => []
  | s :: ss => 32 :: (Lib.itoa s ++ keyTail ss)
def keyL (t : ByteArray) (sc : List Int) : List UInt8 := t.data.toList ++ keyTail sc

theorem keyTail_append (a b : List Int) : keyTail (a ++ b) = keyTail a ++ keyTail b := by
  induction a with
  | nil => rfl
  | cons s ss ih => simp [keyTail, ih]
theorem keyTail_one (s : Int) : keyTail [s] = 32 :: Lib.itoa s := by simp [keyTail]
theorem keyTail_length (a : List Int) (h : ∀ s ∈ a, 0 ≤ s ∧ s ≤ 9223372036854775807) : (keyTail a).length ≤ 22 * a.length := by
  induction a with
  | nil => simp [keyTail]
  | cons s ss ih =>
    have h1 := ih fun x hx => h x (List.mem_cons_of_mem _ hx)
    have h2 := h s (List.mem_cons_self ..)
    have h3 := Lib.itoa_length_le s (by omega) (by omega)
    simp only [keyTail, List.length_cons, List.length_append]
    omega

theorem dg_toNat {d : Nat} (h : d < 10) : (UInt8.ofNat (48 + d)).toNat = 48 + d := by
  simp only [UInt8.toNat_ofNat']
  omega
theorem decDigits_ge (u : Nat) : ∀ c ∈ Lib.decDigits u, 48 ≤ c.toNat := by
  induction u using Nat.strongRecOn with
  | ind u ih =>
    rw [Lib.decDigits]
    by_cases h : u < 10
    · rw [dif_pos h]
      intro c hc
      simp only [List.mem_singleton] at hc
      subst hc
      rw [dg_toNat h]; omega
    · rw [dif_neg h]
      intro c hc
      rcases List.mem_append.1 hc with hc | hc
      · exact ih (u / 10) (by omega) c hc
      · simp only [List.mem_singleton] at hc
        subst hc
        rw [dg_toNat (by omega)]; omega
def decVal (l : List UInt8) : Nat := l.foldl (fun a c => a * 10 + (c.toNat - 48)) 0
theorem decVal_digits (u : Nat) : decVal (Lib.decDigits u) = u := by
  induction u using Nat.strongRecOn with
  | ind u ih =>
    rw [Lib.decDigits]
    by_cases h : u < 10
    · rw [dif_pos h]
      simp only [decVal, List.foldl_cons, List.foldl_nil, dg_toNat h]; omega
    · rw [dif_neg h]
      have := ih (u / 10) (by omega)
      unfold decVal at this ⊢
      rw [List.foldl_append, this]
      simp only [List.foldl_cons, List.foldl_nil, dg_toNat (show u % 10 < 10 by omega)]; omega
theorem itoa_at {s : Int} (h : 0 ≤ s) : Lib.itoa s = Lib.decDigits s.toNat := by unfold Lib.itoa; rw [if_neg (by omega)]
theorem itoa_inj {s t : Int} (hs : 0 ≤ s) (ht : 0 ≤ t) (h : Lib.itoa s = Lib.itoa t) : s = t := by
  rw [itoa_at hs, itoa_at ht] at h
  have := congrArg decVal h
  rw [decVal_digits, decVal_digits] at this
  omega
theorem itoa_nosp {s : Int} (hs : 0 ≤ s) : ∀ c ∈ Lib.itoa s, c ≠ 32 := by
  rw [itoa_at hs]
  intro c hc e
  have := decDigits_ge _ c hc
  subst e
  revert this; decide

/-- Nothing, or a space ahead. -/
def Sp (x : List UInt8) : Prop := x = [] ∨ ∃ y, x = 32 :: y
theorem keyTail_sp (a : List Int) : Sp (keyTail a) := by
  cases a with
  | nil => exact Or.inl rfl
  | cons s ss => exact Or.inr ⟨_, rfl⟩
theorem split_inj : ∀ (a b x y : List UInt8), (∀ c ∈ a, c ≠ 32) → (∀ c ∈ b, c ≠ 32) → Sp x → Sp y → a ++ x = b ++ y → a = b ∧ x = y
  | [], [], x, y, _, _, _, _, h => ⟨rfl, by simpa using h⟩
  | [], d :: b, x, y, _, hb, hx, _, h => by
    exfalso
    rcases hx with rfl | ⟨z, rfl⟩
    · simp at h
    · simp only [List.nil_append, List.cons_append, List.cons.injEq] at h
      exact hb d (List.mem_cons_self ..) h.1.symm
  | d :: a, [], x, y, ha, _, _, hy, h => by
    exfalso
    rcases hy with rfl | ⟨z, rfl⟩
    · simp at h
    · simp only [List.nil_append, List.cons_append, List.cons.injEq] at h
      exact ha d (List.mem_cons_self ..) h.1
  | c :: a, d :: b, x, y, ha, hb, hx, hy, h => by
    simp only [List.cons_append, List.cons.injEq] at h
    obtain ⟨e1, e2⟩ := split_inj a b x y (fun z hz => ha z (List.mem_cons_of_mem _ hz)) (fun z hz => hb z (List.mem_cons_of_mem _ hz)) hx hy h.2
    exact ⟨by rw [h.1, e1], e2⟩
theorem keyTail_inj : ∀ (a b : List Int), (∀ s ∈ a, 0 ≤ s) → (∀ s ∈ b, 0 ≤ s) → keyTail a = keyTail b → a = b
  | [], [], _, _, _ => rfl
  | [], s :: b, _, _, h => by simp [keyTail] at h
  | s :: a, [], _, _, h => by simp [keyTail] at h
  | s :: a, t :: b, ha, hb, h => by
    simp only [keyTail, List.cons.injEq, true_and] at h
    obtain ⟨e1, e2⟩ := split_inj _ _ _ _ (itoa_nosp (ha s (List.mem_cons_self ..))) (itoa_nosp (hb t (List.mem_cons_self ..))) (keyTail_sp a) (keyTail_sp b) h
    rw [itoa_inj (ha s (List.mem_cons_self ..)) (hb t (List.mem_cons_self ..)) e1, keyTail_inj a b (fun z hz => ha z (List.mem_cons_of_mem _ hz)) (fun z hz => hb z (List.mem_cons_of_mem _ hz)) e2]
/-- A key tells text and scopes, if no text has a space and no scope is below nought. -/
theorem keyL_inj {t t' : ByteArray} {a b : List Int} (ht : ∀ c ∈ t.data.toList, c ≠ 32) (ht' : ∀ c ∈ t'.data.toList, c ≠ 32) (ha : ∀ s ∈ a, 0 ≤ s) (hb : ∀ s ∈ b, 0 ≤ s) (h : keyL t a = keyL t' b) : t.data.toList = t'.data.toList ∧ a = b := by
  obtain ⟨e1, e2⟩ := split_inj _ _ _ _ ht ht' (keyTail_sp a) (keyTail_sp b) h
  exact ⟨e1, keyTail_inj a b ha hb e2⟩
end Go.Siskin

namespace Go.Proofs.YthlacjabelpehaaGreatDoor
open Go.RowKit Go.Siskin

/-- The table of powers of ten stands. -/
def TabY (w : World) : Prop := Lib.TabIs Tryz.prog w "internal/strconv.uint64pow10" .u64 Lib.pow10Tab
theorem TabY.below {w w' : World} {n : Nat} (h : TabY w) (hb : Below n w w') (hn : n = w.heap.size) : TabY w' := by
  subst hn
  unfold TabY Lib.TabIs World.var? at *
  cases hg : Tryz.prog.globalNamed "internal/strconv.uint64pow10" with
  | none => simp [hg] at h
  | some g =>
    simp only [hg, Option.bind_some] at h ⊢
    have hlt : g < w.heap.size := by
      rcases Nat.lt_or_ge g w.heap.size with h' | h'
      · exact h'
      · rw [Array.getElem?_eq_none h'] at h; simp at h
    rw [hb.block g hlt]
    exact h

abbrev isY (B b : Nat) (l : List UInt8) (w : World) : Prop := Lib.IsBuilder 92 5 B b (Lib.byteCells l) w
theorem isY_keep {B b : Nat} {l : List UInt8} {w w' : World} (h : isY B b l w) (hb : Below w.heap.size w w') : isY B b l w' := by
  have key : ∀ p, Lib.BuilderAt 92 5 B b p (Lib.byteCells l) w → Lib.BuilderAt 92 5 B b p (Lib.byteCells l) w' := by
    rintro p ⟨h1, v, h2, h3, h4⟩
    have hg : w.grownBy w' none := ⟨hb.os, hb.tape, hb.output, hb.size, fun i hi _ => hb.block i hi⟩
    exact ⟨h1, v, (hb.block _ (Array.getElem?_eq_some_iff.1 h2).1).trans h2, h3.kept hg (by cases v.ownBlock <;> simp), h4⟩
  rcases h with h | h
  · exact Or.inl (key _ h)
  · exact Or.inr (key _ h)
theorem writeY (B b : Nat) (l : List UInt8) (s : ByteArray) (w : World) (h : isY B b l w) (hlen : l.length + s.size ≤ 140737488355328) (hBw : B ≤ w.heap.size) :
    Calls Tryz.prog 53 #[.pointer (some ⟨b, 0, none⟩), .string s] w fun e w' => e = .returned (.tuple #[.int .i64 s.size, .nilIface]) ∧ isY B b (l ++ s.data.toList) w' ∧ Below B w w' := by
  refine (writeString_any B b (Lib.byteCells l) s w h (by simpa [Lib.byteCells] using hlen) hBw).mono ?_
  rintro e w' ⟨he, h1, h2⟩
  refine ⟨he, Or.inr ?_, h2.1⟩
  have e1 : Lib.byteCells (l ++ s.data.toList) = Lib.byteCells l ++ Lib.strCells s := by simp [Lib.byteCells, Lib.strCells]
  rw [e1]; exact h1
theorem itoaY (n : Int) (h0 : 0 ≤ n) (h1 : n ≤ 9223372036854775807) (w : World) (h : TabY w) :
    Calls Tryz.prog 54 #[.int .i64 n] w fun e w' => e = .returned (.string ⟨(Lib.itoa n).toArray⟩) ∧ Below w.heap.size w w' := by
  refine (Tryz.strconv_Itoa n (by omega) h1 w h).mono ?_
  rintro e w' ⟨rfl, k, os, rfl⟩
  refine ⟨rfl, rfl, rfl, rfl, by simp [Go.Sort.grow, World.drewN], fun b hb => ?_⟩
  simp only [Go.Sort.grow, World.drewN]
  rw [Array.getElem?_append_left hb]

set_option maxRecDepth 20000 in
set_option maxHeartbeats 1000000 in
theorem key_any (t : ByteArray) (sc : List Int) (fr : Int) (c2 : Value) (B : Nat → Prop) (w : World) (h2 : IntsAt B w c2 sc) (hB : ∀ b, B b → b < w.heap.size) (ht : t.size ≤ 1000) (hl : sc.length ≤ 1048576)
    (hs : ∀ s ∈ sc, 0 ≤ s ∧ s ≤ 9223372036854775807) (hT : TabY w) :
    Calls Tryz.prog 41 #[.agg #[.string t, c2, .int .i64 fr]] w fun e w' => e = .returned (.string ⟨(keyL t sc).toArray⟩) ∧ Below w.heap.size w w' := by
  obtain ⟨a, ca, rfl, hla, ha⟩ := h2
  have HR := hid hB
  have HS := hid hs
  have HT := hid hT
  have HGet : Hid (∀ w', Below w.heap.size w w' → ∀ i (hi : i < sc.length), ∃ b o, a = some ⟨b, o, none⟩ ∧ w'.cell? ⟨b, o + i, none⟩ = some (.int .i64 sc[i])) := fun w' hb i hi => by
    rcases ha with h | ⟨b, o, e1, e2, e3⟩
    · rw [h] at hi; simp at hi
    · refine ⟨b, o, e1, ?_⟩
      rw [hb.cell (p := ⟨b, o + i, none⟩) (HR.out b e2), e3 i hi]
      simp [List.getD, hi]
  have hla1 := hla.1
  have hla2 := hla.2
  unfold maxLen at hla1
  clear hB ha hs hT hla
  go_enter Tryz.func41, Tryz.ntmps41
  go_wp2_with fail
  refine (writeY (w.heap.size + 1) (w.heap.size + 1) [] t _ (by have h := Lib.fresh_isBuilder 92 5 (w.alloc (.cells #[.string t, .slice a sc.length ca, .int .i64 fr] 73)); rw [World.size_alloc] at h; exact h) (by rw [List.length_nil]; omega) (by simp)).mono ?_
  rintro e w1 ⟨rfl, hb1, hw1⟩
  have HB1 := hid hb1
  have hsz1 := hw1.size
  simp only [World.size_alloc] at hsz1
  have HW1 := hid ((((Below.refl w.heap.size w).alloc (Nat.le_refl _) _).alloc (by simp) _).trans (hw1.mono (by omega)))
  have m0 := (hw1.cell (p := ⟨w.heap.size, 1, none⟩) (by simp))
  clear hb1 hw1
  go_wp2_with fail
  go_loopw [13] (fun i wr => ∃ k : Nat, k ≤ sc.length ∧ i = .int .i64 k ∧ Hid (isY (w.heap.size + 1) (w.heap.size + 1) (t.data.toList ++ keyTail (sc.take k)) wr) ∧ Hid (Below w.heap.size w wr) ∧ w.heap.size + 2 ≤ wr.heap.size) (fun i _ => sc.length - (intOf i).toNat)
  case atStart =>
    refine ⟨0, Nat.zero_le _, rfl, ?_, HW1, hsz1⟩
    have h := HB1.out
    show isY _ _ _ _
    simpa [keyTail] using h
  case round =>
    obtain ⟨k, hk, rfl, HQ, HB, hsz⟩ := hrel
    by_cases hlt : k < sc.length
    · obtain ⟨b', o', hab, g0⟩ := HGet.out _ HB.out k hlt
      subst hab
      have hsk := HS.out sc[k] (List.getElem_mem hlt)
      have HI := hid (itoaY sc[k] hsk.1 hsk.2 wr (HT.out.below HB.out rfl))
      have hlen : (keyTail (sc.take k)).length ≤ 22 * 1048576 := by
        have := keyTail_length (sc.take k) fun s h => HS.out s (List.mem_of_mem_take h)
        rw [List.length_take] at this
        omega
      have hil := Lib.itoa_length_le sc[k] (by omega) (by omega)
      have hil2 : (⟨(Lib.itoa sc[k]).toArray⟩ : ByteArray).size ≤ 21 := by show (Lib.itoa sc[k]).toArray.size ≤ 21; rw [List.size_toArray]; exact hil
      go_wp2_with fail
      refine HI.out.mono ?_
      rintro e w2 ⟨rfl, hw⟩
      have HW2 := hid hw
      have hs2 := hw.size
      clear hw
      go_wp2_with fail
      refine (writeY (w.heap.size + 1) (w.heap.size + 1) _ _ w2 (isY_keep HQ.out HW2.out) ?_ (by omega)).mono ?_
      · rw [List.length_append, ByteArray.size_append]
        have h1 : t.data.toList.length = t.size := by rw [Array.length_toList]; rfl
        have h2 : (⟨#[32]⟩ : ByteArray).size = 1 := rfl
        omega
      rintro e w3 ⟨rfl, hb3, hw3⟩
      have HB3 := hid hb3
      have HW3 := hid hw3
      have hs3 := hw3.size
      clear hb3 hw3
      go_wp2_with fail
      refine ⟨⟨k + 1, by omega, by go_num, ?_, (HB.out.trans (HW2.out.mono (by omega))).trans (HW3.out.mono (by omega)), by omega⟩, by simp [intOf]; omega⟩
      show isY _ _ _ _
      rw [List.take_succ_eq_append_getElem hlt, keyTail_append, keyTail_one]
      have h := HB3.out
      have e1 : ((⟨#[32]⟩ : ByteArray) ++ (⟨(Lib.itoa sc[k]).toArray⟩ : ByteArray)).data.toList = 32 :: Lib.itoa sc[k] := by rw [ByteArray.data_append]; simp
      rw [e1, List.append_assoc] at h
      exact h
    · have hkk : k = sc.length := by omega
      subst hkk
      rw [List.take_length] at HQ
      have HST := hid (Tryz.Builder_String_any (w.heap.size + 1) (w.heap.size + 1) _ wr HQ.out (by omega))
      go_wp2_with fail
      refine HST.out.mono ?_
      rintro e w2 ⟨rfl, hw⟩
      have HW2 := hid hw
      clear hw
      go_wp2_with fail
      go_ret
      exact ⟨rfl, HB.out.trans (HW2.out.mono (by omega))⟩
end Go.Proofs.YthlacjabelpehaaGreatDoor

namespace Go.Siskin
open Go.RowKit

/-- A bind: its text, its scopes, its name. -/
structure Bd where
  text : ByteArray
  scopes : List Int
  name : ByteArray

def Bd.no : Bd := ⟨⟨#[]⟩, [], ⟨#[]⟩⟩
/-- What the law's own count takes of a bind. -/
def Bd.cost (d : Bd) : Nat := d.text.size + d.scopes.length + d.name.size
def Bd.costs (ks : List Bd) : Nat := (ks.map Bd.cost).sum

theorem Bd.costs_cons (k : Bd) (r : List Bd) : Bd.costs (k :: r) = k.cost + Bd.costs r := by simp [Bd.costs]
theorem Bd.costs_take (ks : List Bd) (k : Nat) (h : k < ks.length) : Bd.costs (ks.take (k + 1)) = Bd.costs (ks.take k) + ks[k].cost := by
  rw [List.take_succ_eq_append_getElem h]; unfold Bd.costs
  simp only [List.map_append, List.sum_append, List.map_cons, List.map_nil, List.sum_cons, List.sum_nil, Nat.add_zero]
theorem Bd.costs_take_le : ∀ (ks : List Bd) (k : Nat), Bd.costs (ks.take k) ≤ Bd.costs ks
  | [], k => by simp
  | a :: r, 0 => by simp [Bd.costs]
  | a :: r, k + 1 => by have := Bd.costs_take_le r k; simp only [List.take_succ_cons, Bd.costs_cons]; omega
theorem Bd.costs_get : ∀ (ks : List Bd) (i : Nat) (hi : i < ks.length), ks[i].cost ≤ Bd.costs ks
  | [], _, hi => absurd hi (Nat.not_lt_zero _)
  | k :: r, 0, _ => by rw [Bd.costs_cons]; simp
  | k :: r, i + 1, hi => by
    have := Bd.costs_get r i (by simpa using hi)
    simp only [List.getElem_cons_succ, Bd.costs_cons]; omega

/-- A bind's three cells, and what they lead to, all in blocks of B. -/
def BindAt (B : Nat → Prop) (w : World) (d : Bd) (c0 c1 c2 : Value) : Prop :=
  c0 = .string d.text ∧ d.text.size ≤ maxLen ∧ IntsAt B w c1 d.scopes ∧ c2 = .string d.name ∧ d.name.size ≤ maxLen
/-- Binds that lie side by side from a cell on. -/
def BRowAt (B : Nat → Prop) (w : World) (b o : Nat) (ks : List Bd) : Prop := ∀ (i : Nat) (hi : i < ks.length),
  ∃ k0 k1 k2, w.cell? ⟨b, o + i * 3, none⟩ = some k0 ∧ w.cell? ⟨b, o + i * 3 + 1, none⟩ = some k1 ∧ w.cell? ⟨b, o + i * 3 + 2, none⟩ = some k2 ∧ BindAt B w ks[i] k0 k1 k2
/-- A slice of binds. -/
def BindsAt (B : Nat → Prop) (w : World) (v : Value) (ks : List Bd) : Prop :=
  ∃ a cap, v = .slice a ks.length cap ∧ ks.length ≤ maxLen ∧ (ks = [] ∨ ∃ b o, a = some ⟨b, o, none⟩ ∧ B b ∧ BRowAt B w b o ks)

theorem BindAt.keep {B : Nat → Prop} {w w' : World} (hb : SameOn B w w') {d : Bd} {c0 c1 c2 : Value} (h : BindAt B w d c0 c1 c2) : BindAt B w' d c0 c1 c2 :=
  ⟨h.1, h.2.1, h.2.2.1.keep hb, h.2.2.2⟩
theorem BindAt.mono {B B' : Nat → Prop} {w : World} (hb : ∀ b, B b → B' b) {d : Bd} {c0 c1 c2 : Value} (h : BindAt B w d c0 c1 c2) : BindAt B' w d c0 c1 c2 :=
  ⟨h.1, h.2.1, h.2.2.1.mono hb, h.2.2.2⟩
theorem BRowAt.keep {B : Nat → Prop} {w w' : World} (hb : SameOn B w w') {b : Nat} (hB : B b) {ks : List Bd} {o : Nat} (h : BRowAt B w b o ks) : BRowAt B w' b o ks := fun i hi => by
  obtain ⟨k0, k1, k2, e0, e1, e2, e3⟩ := h i hi
  exact ⟨k0, k1, k2, (hb.cell hB _).trans e0, (hb.cell hB _).trans e1, (hb.cell hB _).trans e2, e3.keep hb⟩
theorem BRowAt.mono {B B' : Nat → Prop} {w : World} (hb : ∀ b, B b → B' b) {b : Nat} {ks : List Bd} {o : Nat} (h : BRowAt B w b o ks) : BRowAt B' w b o ks := fun i hi => by
  obtain ⟨k0, k1, k2, e0, e1, e2, e3⟩ := h i hi
  exact ⟨k0, k1, k2, e0, e1, e2, e3.mono hb⟩
theorem BindsAt.keep {B : Nat → Prop} {w w' : World} (hb : SameOn B w w') {v : Value} {ks : List Bd} (h : BindsAt B w v ks) : BindsAt B w' v ks := by
  obtain ⟨a, cap, e, hl, h⟩ := h
  refine ⟨a, cap, e, hl, ?_⟩
  rcases h with h | ⟨b, o, e, hB, h⟩
  · exact Or.inl h
  · exact Or.inr ⟨b, o, e, hB, h.keep hb hB⟩
theorem BindsAt.mono {B B' : Nat → Prop} {w : World} (hb : ∀ b, B b → B' b) {v : Value} {ks : List Bd} (h : BindsAt B w v ks) : BindsAt B' w v ks := by
  obtain ⟨a, cap, e, hl, h⟩ := h
  refine ⟨a, cap, e, hl, ?_⟩
  rcases h with h | ⟨b, o, e, hB, h⟩
  · exact Or.inl h
  · exact Or.inr ⟨b, o, e, hb b hB, h.mono hb⟩

end Go.Siskin

namespace Go.Siskin
open Go.RowKit Go.Maps Go.WideMaps

/-- An element is read as itself. -/
def asIs (v : Value) : Option (DataW Value × List MemPlace) := some (.held v, [])
def keyLit (s : ByteArray) : Lit := .string s.data.toList

theorem keyLit_inj {s t : ByteArray} (h : keyLit s = keyLit t) : s = t := by
  unfold keyLit at h
  simp only [Lit.string.injEq] at h
  have h2 : s.data = t.data := Array.ext' h
  cases s; cases t; simp_all

/-- What is read at a text: what G has there, or z. -/
def atIs (G : ByteArray → Option Value) (s : ByteArray) (z : DataW Value) : DataW Value :=
  match G s with
  | some v => .held v
  | none => z

/-- Block b is a map from texts of at most n entries; at a text it holds what G says, or nothing. -/
def MapAt (P : Program) (k : TypeId) (w : World) (b n : Nat) (G : ByteArray → Option Value) : Prop :=
  ∃ D : DataW Value, w.ownsMap P k asIs b n D ∧ IsMap D ∧ ∀ s z, D.atKey (keyLit s) z = atIs G s z

/-- With one more. -/
def putG (G : ByteArray → Option Value) (s : ByteArray) (v : Value) : ByteArray → Option Value := fun t => if t.data.toList = s.data.toList then some v else G t

theorem putG_same (G : ByteArray → Option Value) (s : ByteArray) (v : Value) : putG G s v s = some v := if_pos rfl
theorem putG_other {G : ByteArray → Option Value} {s t : ByteArray} (h : t ≠ s) (v : Value) : putG G s v t = G t := if_neg fun e => h (keyLit_inj (by unfold keyLit; rw [e]))

section
variable {P : Program} {k : TypeId} {w w' : World} {b n : Nat} {G : ByteArray → Option Value}

theorem mapAt_made (w : World) (P : Program) (k : TypeId) : MapAt P k (w.alloc (.map #[] 0)) w.heap.size 0 (fun _ => none) :=
  ⟨.map [], World.ownsMap_made w P k asIs, isMap_empty, fun _ _ => rfl⟩

theorem MapAt.lt (h : MapAt P k w b n G) : b < w.heap.size := by
  obtain ⟨D, h, -⟩ := h
  exact h.lt

theorem MapAt.keep (h : MapAt P k w b n G) (hb : SameOn (fun i => i = b) w w') : MapAt P k w' b n G := by
  obtain ⟨D, ⟨es, clock, h1, h2⟩, h3⟩ := h
  exact ⟨D, ⟨es, clock, (hb b rfl).trans h1, h2⟩, h3⟩

theorem MapAt.look {t e : TypeId} (h : MapAt P k w b n G) (hk : P.underlying k = some .string) (ht : P.underlying t = some (.map k e)) {z : Value} (hz : (zeroValue e).run P w = .ok z w) {s : ByteArray} (hs : s.size ≤ maxLen) :
    (Instr.lookup t (.map (some b)) (.string s) false).run P w = .ok ((G s).getD z) w := by
  obtain ⟨D, h1, h2, h3⟩ := h
  obtain ⟨v, ps, hr, hv⟩ := h1.lookup (string_keyed hk) ht hz (zd := .held z) (zp := []) rfl (keyOf_string_mk hk hs)
  have h4 := h3 s (.held z)
  unfold keyLit at h4
  rw [h4] at hv
  have h5 : DataW.held v = atIs G s (.held z) := congrArg Prod.fst (Option.some.inj hv)
  rw [hr]
  unfold atIs at h5
  cases hG : G s with
  | none => rw [hG] at h5; cases h5; rfl
  | some u => rw [hG] at h5; cases h5; rfl

theorem MapAt.put {t e : TypeId} (h : MapAt P k w b n G) (hk : P.underlying k = some .string) (ht : P.underlying t = some (.map k e)) (hn : n < maxLen) {s : ByteArray} (hs : s.size ≤ maxLen) (v : Value) :
    ∃ w', (Instr.mapUpdate t (.map (some b)) (.string s) v).run P w = .ok () w' ∧ MapAt P k w' b (n + 1) (putG G s v) ∧ w.grownBy w' (some b) := by
  obtain ⟨D, h1, h2, h3⟩ := h
  have hkey := keyOf_string_mk (P := P) (k := k) hk hs
  obtain ⟨w', hr, h4, h5⟩ := h1.update (string_keyed hk) ht hn (val := v) (d := .held v) (ps := []) hkey rfl
  refine ⟨w', hr, ⟨_, h4, h2.put _ _, fun t z => ?_⟩, h5⟩
  by_cases e : t = s
  · subst e
    unfold keyLit atIs
    rw [putG_same, atKey_put_same h2 ((string_keyed hk).key hkey)]
  · unfold atIs
    rw [putG_other e]
    have hne : keyLit t ≠ .string s.data.toList := fun h => e (keyLit_inj h)
    rw [atKey_put_other hne, h3 t z]; rfl

/-- At the operation: a look-up. -/
theorem wpList_look (w : World) {ops : Array Oper} {rest : List Oper} {o : Oper} {a : Act} {Q : Exit → Act → World → Prop}
    (hg : o.guard = none) (m x : Operand) (t : TypeId) (hop : o.op = Op.lookup t m x false)
    (k e : TypeId) (hk : P.underlying k = some .string) (ht : P.underlying t = some (.map k e)) (z : Value) (hz : (zeroValue e).run P w = .ok z w) (b n : Nat) (G : ByteArray → Option Value)
    (hm : a.eval m = .map (some b)) (h : MapAt P k w b n G) (s : ByteArray) (hx : a.eval x = .string s) (hs : s.size ≤ maxLen)
    (hK : wpList P ops Q rest (a.put o.dst ((G s).getD z)) w) :
    wpList P ops Q (o :: rest) a w := by
  refine wpList_plain hg fun K' hK' => ?_
  have hr := h.look hk ht hz hs
  unfold Oper.wp
  simp [execOp, hop, hm, hx, hr, Result.andThen]
  exact hK' _ _ hK

/-- At the operation: a store. -/
theorem wpList_store (w : World) {ops : Array Oper} {rest : List Oper} {o : Oper} {a : Act} {Q : Exit → Act → World → Prop}
    (hg : o.guard = none) (m x y : Operand) (t : TypeId) (hop : o.op = Op.mapUpdate t m x y)
    (k e : TypeId) (hk : P.underlying k = some .string) (ht : P.underlying t = some (.map k e)) (b n : Nat) (G : ByteArray → Option Value)
    (hm : a.eval m = .map (some b)) (h : MapAt P k w b n G) (hn : n < maxLen) (s : ByteArray) (v : Value) (hx : a.eval x = .string s) (hy : a.eval y = v) (hs : s.size ≤ maxLen)
    (hK : ∀ w', MapAt P k w' b (n + 1) (putG G s v) → w.grownBy w' (some b) → wpList P ops Q rest (a.put o.dst undef) w') :
    wpList P ops Q (o :: rest) a w := by
  refine wpList_plain hg fun K' hK' => ?_
  obtain ⟨w', hr, h1, h2⟩ := h.put hk ht hn hs v
  unfold Oper.wp
  simp [execOp, hop, hm, hx, hy, hr, Result.andThen]
  exact hK' _ _ (hK w' h1 h2)
end

end Go.Siskin

namespace Go.Siskin
open Go.RowKit Go.Maps Go.WideMaps

/-- The first place of a key; nought, if it is not there. -/
def plc (K : List (List UInt8)) (s : List UInt8) : Nat := if K.contains s then K.idxOf s else 0

/-- It is there. -/
def hasK (K : List (List UInt8)) (s : List UInt8) : Bool := K.contains s

/-- Block b is a map that has at each key of a list its first place. -/
def PlacesAt (P : Program) (k : TypeId) (w : World) (b : Nat) (K : List (List UInt8)) : Prop :=
  ∃ D : DataW Value, w.ownsMap P k asIs b K.length D ∧ IsMap D ∧ (∀ s : ByteArray, has D (keyLit s) = K.contains s.data.toList) ∧ (∀ (s : ByteArray) z, D.atKey (keyLit s) z = if K.contains s.data.toList then .held (.int .i64 (K.idxOf s.data.toList : Nat)) else z) ∧ (size D = K.length ↔ K.Nodup) ∧ size D ≤ K.length

section
variable {P : Program} {k : TypeId} {w w' : World} {b : Nat} {K : List (List UInt8)}

theorem placesAt_made (w : World) (P : Program) (k : TypeId) : PlacesAt P k (w.alloc (.map #[] 0)) w.heap.size [] :=
  ⟨.map [], World.ownsMap_made w P k asIs, isMap_empty, fun _ => rfl, fun _ _ => rfl, ⟨fun _ => List.nodup_nil, fun _ => rfl⟩, Nat.le_refl _⟩
theorem PlacesAt.lt (h : PlacesAt P k w b K) : b < w.heap.size := by
  obtain ⟨D, h, -⟩ := h
  exact h.lt
theorem PlacesAt.keep (h : PlacesAt P k w b K) (hb : SameOn (fun i => i = b) w w') : PlacesAt P k w' b K := by
  obtain ⟨D, ⟨es, clock, h1, h2⟩, h3⟩ := h
  exact ⟨D, ⟨es, clock, (hb b rfl).trans h1, h2⟩, h3⟩
theorem PlacesAt.below (h : PlacesAt P k w b K) (hb : Below w.heap.size w w') : PlacesAt P k w' b K :=
  h.keep (hb.on fun i e => by rw [e]; exact h.lt)

theorem PlacesAt.look {t e : TypeId} (h : PlacesAt P k w b K) (hk : P.underlying k = some .string) (ht : P.underlying t = some (.map k e)) (hz : (zeroValue e).run P w = .ok (.int .i64 0) w) {s : ByteArray} (hs : s.size ≤ maxLen) :
    (Instr.lookup t (.map (some b)) (.string s) true).run P w = .ok (.tuple #[.int .i64 (plc K s.data.toList : Nat), .bool (hasK K s.data.toList)]) w := by
  obtain ⟨D, h1, -, h3, h4, -⟩ := h
  obtain ⟨v, ps, hr, hv⟩ := h1.look_ok (string_keyed hk) ht hz (zd := .held (.int .i64 0)) (zp := []) rfl (keyOf_string_mk hk hs)
  have h5 := h3 s
  have h6 := h4 s (.held (.int .i64 0))
  unfold keyLit at h5 h6
  rw [h6] at hv
  unfold hasK
  rw [hr, h5]
  have h7 : DataW.held v = (if K.contains s.data.toList then .held (.int .i64 (K.idxOf s.data.toList : Nat)) else .held (.int .i64 0) : DataW Value) := congrArg Prod.fst (Option.some.inj hv)
  unfold plc
  cases hc : K.contains s.data.toList with
  | true => rw [hc] at h7; simp only [if_true, DataW.held.injEq] at h7; rw [h7]; rfl
  | false => rw [hc] at h7; simp only [Bool.false_eq_true, if_false, DataW.held.injEq] at h7; rw [h7]; rfl

theorem PlacesAt.len {t e : TypeId} (h : PlacesAt P k w b K) (ht : P.underlying t = some (.map k e)) : ∃ m : Nat, (∀ ty, (Builtin.len_ #[t] ty #[.map (some b)]).run P w = .ok (.int .i64 m) w) ∧ (m = K.length ↔ K.Nodup) ∧ m ≤ K.length := by
  obtain ⟨D, h1, -, -, -, h5, h6⟩ := h
  exact ⟨size D, fun ty => h1.len ht ty, h5, h6⟩

/-- One that is there: nothing is put. -/
theorem PlacesAt.again (h : PlacesAt P k w b K) {s : List UInt8} (hs : K.contains s = true) : PlacesAt P k w b (K ++ [s]) := by
  obtain ⟨D, h1, h2, h3, h4, h5, h6⟩ := h
  have hm : s ∈ K := by simpa using hs
  refine ⟨D, h1.mono (by simp), h2, fun t => ?_, fun t z => ?_, ?_, by simp; omega⟩
  · rw [h3]
    simp only [List.contains_eq_mem, List.mem_append, List.mem_singleton]
    by_cases e : t.data.toList = s
    · rw [e]; simp [hm]
    · simp [e]
  · rw [h4]
    by_cases e : t.data.toList ∈ K
    · rw [List.idxOf_append, if_pos e]
      simp [e]
    · have e2 : ¬ t.data.toList = s := fun h => e (h ▸ hm)
      simp [e, e2]
  · constructor
    · intro h; simp at h; omega
    · intro h
      rw [List.nodup_append] at h
      exact absurd rfl (h.2.2 s hm s (List.mem_singleton_self _))

theorem PlacesAt.put {t e : TypeId} (h : PlacesAt P k w b K) (hk : P.underlying k = some .string) (ht : P.underlying t = some (.map k e)) (hn : K.length < maxLen) {s : ByteArray} (hs : s.size ≤ maxLen) (hc : K.contains s.data.toList = false) :
    ∃ w', (Instr.mapUpdate t (.map (some b)) (.string s) (.int .i64 K.length)).run P w = .ok () w' ∧ PlacesAt P k w' b (K ++ [s.data.toList]) ∧ w.grownBy w' (some b) := by
  obtain ⟨D, h1, h2, h3, h4, h5, h6⟩ := h
  have hkey := keyOf_string_mk (P := P) (k := k) hk hs
  have hnm : s.data.toList ∉ K := by simpa using hc
  obtain ⟨w', hr, q1, q2⟩ := h1.update (string_keyed hk) ht hn (val := .int .i64 K.length) (d := .held (.int .i64 K.length)) (ps := []) hkey rfl
  have hD : has D (.string s.data.toList) = false := (h3 s).trans hc
  have hsz := size_put (k := .string s.data.toList) (h1.tidy (string_keyed hk)) (DataW.held (Value.int .i64 K.length))
  rw [hD] at hsz
  simp only [Bool.false_eq_true, if_false] at hsz
  refine ⟨w', hr, ⟨_, by rw [List.length_append]; exact q1, h2.put _ _, fun u => ?_, fun u z => ?_, ?_, by rw [hsz]; simp; omega⟩, q2⟩
  · by_cases e : u = s
    · subst e
      unfold keyLit
      rw [has_put_same h2 ((string_keyed hk).key hkey)]
      simp
    · have hne : keyLit u ≠ .string s.data.toList := fun h => e (keyLit_inj h)
      have hnl : u.data.toList ≠ s.data.toList := fun h => e (keyLit_inj (by unfold keyLit; rw [h]))
      rw [has_put_other hne, h3]
      simp [hnl]
  · by_cases e : u = s
    · subst e
      unfold keyLit
      rw [atKey_put_same h2 ((string_keyed hk).key hkey)]
      rw [List.idxOf_append, if_neg hnm]
      simp
    · have hne : keyLit u ≠ .string s.data.toList := fun h => e (keyLit_inj h)
      have hnl : u.data.toList ≠ s.data.toList := fun h => e (keyLit_inj (by unfold keyLit; rw [h]))
      rw [atKey_put_other hne, h4]
      by_cases hm : u.data.toList ∈ K
      · rw [List.idxOf_append, if_pos hm]; simp [hm]
      · simp [hm, hnl]
  · rw [hsz, List.length_append, List.length_singleton, List.nodup_append]
    constructor
    · intro h
      refine ⟨h5.1 (by omega), by simp, fun a ha b hb => ?_⟩
      simp only [List.mem_singleton] at hb
      subst hb
      exact fun e => hnm (e ▸ ha)
    · intro h
      have := h5.2 h.1
      omega

/-- At the operation: a store. -/
theorem wpList_place (w : World) {ops : Array Oper} {rest : List Oper} {o : Oper} {a : Act} {Q : Exit → Act → World → Prop}
    (hg : o.guard = none) (m x y : Operand) (t : TypeId) (hop : o.op = Op.mapUpdate t m x y)
    (k e : TypeId) (hk : P.underlying k = some .string) (ht : P.underlying t = some (.map k e)) (b : Nat) (K : List (List UInt8))
    (hm : a.eval m = .map (some b)) (h : PlacesAt P k w b K) (hn : K.length < maxLen) (s : ByteArray) (hx : a.eval x = .string s) (hy : a.eval y = .int .i64 K.length) (hs : s.size ≤ maxLen) (hc : K.contains s.data.toList = false)
    (hK : ∀ w', PlacesAt P k w' b (K ++ [s.data.toList]) → w.grownBy w' (some b) → wpList P ops Q rest (a.put o.dst undef) w') :
    wpList P ops Q (o :: rest) a w := by
  refine wpList_plain hg fun K' hK' => ?_
  obtain ⟨w', hr, h1, h2⟩ := h.put hk ht hn hs hc
  unfold Oper.wp
  simp [execOp, hop, hm, hx, hy, hr, Result.andThen]
  exact hK' _ _ (hK w' h1 h2)
end
end Go.Siskin

namespace Go.Proofs.YthlacjabelpehaaGreatDoor
open Go.RowKit Go.Siskin

theorem scopes_no {xs : List Int} (h : ¬ (AscTo xs xs.length ∧ NonTo xs xs.length)) : false = scopesB xs := by
  rw [eq_comm, Bool.eq_false_iff]; intro e; exact h ((scopes_iff xs).1 e)
theorem asc_no {xs : List Int} (h : ¬ AscTo xs xs.length) : false = ascB xs := by
  rw [eq_comm, Bool.eq_false_iff]; intro e; exact h ((asc_iff xs).1 e)
theorem getD_get {xs : List Int} {k : Nat} (h : k < xs.length) : xs.getD k 0 = xs[k] := by simp [List.getD_eq_getElem?_getD, h]

theorem asc_step {xs : List Int} {k : Nat} (h : AscTo xs k) (hk : k = 0 ∨ xs.getD (k - 1) 0 < xs.getD k 0) : AscTo xs (k + 1) := by
  intro i hi
  by_cases e : i + 1 < k
  · exact h i e
  · have : i + 1 = k := by omega
    subst this
    rcases hk with hk | hk
    · omega
    · simpa using hk
theorem non_step {xs : List Int} {k : Nat} (h : NonTo xs k) (hk : 0 ≤ xs.getD k 0) : NonTo xs (k + 1) := by
  intro i hi
  by_cases e : i < k
  · exact h i e
  · have : i = k := by omega
    subst this; exact hk

set_option maxHeartbeats 1000000 in
theorem l1ScopesOk_any (B : Nat → Prop) (va : Value) (xs : List Int) (w : World) (ha : IntsAt B w va xs) :
    Calls Tryz.prog 32 #[va] w fun e w' => e = .returned (.bool (scopesB xs)) ∧ ∃ n, w' = w.drewN n := by
  obtain ⟨a, ca, rfl, hla, ha⟩ := ha
  unfold maxLen at hla
  go_enter Tryz.func32, Tryz.ntmps32
  go_wp2_with fail
  go_loopw [3] (fun i wr => (∃ n, wr = w.drewN n) ∧ ∃ k : Nat, k ≤ xs.length ∧ i = .int .i64 k ∧ Hid (AscTo xs k ∧ NonTo xs k)) (fun i _ => xs.length - (intOf i).toNat)
  case atStart => exact ⟨⟨0, rfl⟩, 0, Nat.zero_le _, rfl, fun i hi => absurd hi (by omega), fun i hi => absurd hi (by omega)⟩
  case round =>
    obtain ⟨⟨n, rfl⟩, k, hk, rfl, HA⟩ := hrel
    by_cases hlt : k < xs.length
    · rcases ha with ha | ⟨ba, oa, rfl, _, ha⟩
      · subst ha; simp at hlt
      have ga := ha k hlt
      rw [getD_get hlt] at ga
      by_cases h1 : xs[k] < 0
      · have hd : decide (xs[k] < 0) = true := decide_eq_true h1
        have HX : Hid (false = scopesB xs) := scopes_no fun h => by
          have := h.2 k hlt; rw [getD_get hlt] at this; omega
        clear ha
        go_wp2_with fail
        go_quiet (fail)
        go_wp2_with fail
        go_ret
        exact ⟨ret_bool HX.out, n + nq, by simp⟩
      have hd : decide (xs[k] < 0) = false := decide_eq_false h1
      cases k with
      | succ j =>
        have gb := ha j (by omega)
        rw [getD_get (by omega)] at gb
        have hd2 : decide (0 < ((j + 1 : Nat) : Int)) = true := decide_eq_true (by omega)
        clear ha
        by_cases h3 : xs[j + 1] ≤ xs[j]
        · have HX : Hid (false = scopesB xs) := scopes_no fun h => by
            have := h.1 j (by omega); rw [getD_get (by omega), getD_get hlt] at this; omega
          go_wp2_with fail
          go_quiet (fail)
          go_wp2_with fail
          go_ret
          exact ⟨ret_bool HX.out, n + nq, by simp⟩
        · have HA' : Hid (AscTo xs (j + 1 + 1) ∧ NonTo xs (j + 1 + 1)) := ⟨asc_step HA.out.1 (Or.inr (by rw [Nat.add_sub_cancel, getD_get (by omega), getD_get hlt]; omega)), non_step HA.out.2 (by rw [getD_get hlt]; omega)⟩
          go_wp2_with fail
          go_quiet (fail)
          go_wp2_with fail
          exact ⟨⟨⟨n + nq, rfl⟩, j + 1 + 1, by omega, by go_num, HA'⟩, by simp [intOf]; omega⟩
      | zero =>
        have HA' : Hid (AscTo xs (0 + 1) ∧ NonTo xs (0 + 1)) := ⟨asc_step HA.out.1 (Or.inl rfl), non_step HA.out.2 (by rw [getD_get hlt]; omega)⟩
        rw [Nat.add_zero] at ga
        clear ha
        go_wp2_with fail
        go_quiet (fail)
        go_wp2_with fail
        exact ⟨⟨⟨n + nq, rfl⟩, 1, by omega, by go_num, HA'⟩, by simp [intOf]; omega⟩
    · go_wp2_with fail
      go_ret
      have e : k = xs.length := by omega
      exact ⟨ret_bool (by rw [eq_comm, scopes_iff, ← e]; exact HA.out), n, rfl⟩

set_option maxHeartbeats 1000000 in
theorem isAscending_any (B : Nat → Prop) (va : Value) (xs : List Int) (w : World) (ha : IntsAt B w va xs) :
    Calls Tryz.prog 62 #[va] w fun e w' => e = .returned (.bool (ascB xs)) ∧ ∃ n, w' = w.drewN n := by
  obtain ⟨a, ca, rfl, hla, ha⟩ := ha
  unfold maxLen at hla
  go_enter Tryz.func62, Tryz.ntmps62
  go_wp2_with fail
  go_loopw [3] (fun i wr => (∃ n, wr = w.drewN n) ∧ ∃ k : Nat, k ≤ xs.length ∧ i = .int .i64 ((k : Int) + 1) ∧ Hid (AscTo xs (k + 1))) (fun i _ => xs.length + 1 - (intOf i).toNat)
  case atStart => exact ⟨⟨0, rfl⟩, 0, Nat.zero_le _, rfl, fun i hi => absurd hi (by omega)⟩
  case round =>
    obtain ⟨⟨n, rfl⟩, j, hk, rfl, HA⟩ := hrel
    by_cases hlt : j + 1 < xs.length
    · rcases ha with ha | ⟨ba, oa, rfl, _, ha⟩
      · subst ha; simp at hlt
      have ga := ha (j + 1) hlt
      have gb := ha j (by omega)
      rw [getD_get hlt] at ga
      rw [getD_get (by omega)] at gb
      clear ha
      by_cases h3 : xs[j + 1] ≤ xs[j]
      · have HX : Hid (false = ascB xs) := asc_no fun h => by
          have := h j (by omega); rw [getD_get (by omega), getD_get hlt] at this; omega
        go_wp2_with fail
        go_quiet (fail)
        go_wp2_with fail
        go_ret
        exact ⟨ret_bool HX.out, n + nq, by simp⟩
      · have HA' : Hid (AscTo xs (j + 1 + 1)) := asc_step HA.out (Or.inr (by rw [Nat.add_sub_cancel, getD_get (by omega), getD_get hlt]; omega))
        go_wp2_with fail
        go_quiet (fail)
        go_wp2_with fail
        exact ⟨⟨⟨n + nq, rfl⟩, j + 1, by omega, by go_num, HA'⟩, by simp [intOf]; omega⟩
    · go_wp2_with fail
      go_ret
      exact ⟨ret_bool (by rw [eq_comm, asc_iff]; exact fun i hi => HA.out i (by omega)), n, rfl⟩

set_option maxHeartbeats 1000000 in
theorem areScopes_any (B : Nat → Prop) (va : Value) (xs : List Int) (w : World) (ha : IntsAt B w va xs) :
    Calls Tryz.prog 48 #[va] w fun e w' => e = .returned (.bool (scopesB xs)) ∧ ∃ n, w' = w.drewN n := by
  have ha0 := ha
  obtain ⟨a, ca, rfl, hla, ha⟩ := ha
  unfold maxLen at hla
  cases h1 : ascB xs with
  | false =>
    go_enter Tryz.func48, Tryz.ntmps48
    go_wp2_with (go_at_call 62; refine (isAscending_any B _ xs _ ha0).mono ?_; rintro e w' ⟨rfl, n, rfl⟩)
    go_ret
    exact ⟨ret_bool (by unfold scopesB; rw [h1]; rfl), n, rfl⟩
  | true =>
    by_cases h2 : xs = []
    · subst h2
      go_enter Tryz.func48, Tryz.ntmps48
      go_wp2_with (go_at_call 62; refine (isAscending_any B _ [] _ ha0).mono ?_; rintro e w' ⟨rfl, n, rfl⟩)
      go_ret
      exact ⟨ret_bool rfl, n, rfl⟩
    · rcases ha with ha | ⟨ba, oa, rfl, _, ha⟩
      · exact absurd ha h2
      have hlt : 0 < xs.length := by cases xs with | nil => exact absurd rfl h2 | cons _ _ => simp
      have ga := ha 0 hlt
      rw [getD_get hlt, Nat.add_zero] at ga
      clear ha
      have hne : ((xs.length : Int) == 0) = false := by simp; omega
      have HX : Hid (scopesB xs = decide (0 ≤ xs[0])) := by
        show _ = _
        unfold scopesB; rw [h1, Bool.true_and, Bool.eq_iff_iff, List.all_eq_true, decide_eq_true_eq]
        constructor
        · intro h; exact of_decide_eq_true (h _ (List.getElem_mem hlt))
        · intro h x hx
          obtain ⟨i, hi, rfl⟩ := List.getElem_of_mem hx
          have hasc := (asc_iff xs).1 h1
          have : ∀ j (hj : j < xs.length), 0 ≤ xs[j] := by
            intro j
            induction j with
            | zero => intro _; exact h
            | succ j ih =>
              intro hj
              have a1 := ih (by omega)
              have a2 := hasc j hj
              rw [getD_get (by omega), getD_get hj] at a2
              omega
          exact decide_eq_true (this i hi)
      go_enter Tryz.func48, Tryz.ntmps48
      go_wp2_with (go_at_call 62; refine (isAscending_any B _ xs _ ha0).mono ?_; rintro e w' ⟨rfl, n, rfl⟩)
      go_ret
      exact ⟨ret_bool HX.out.symm, n, rfl⟩

end Go.Proofs.YthlacjabelpehaaGreatDoor

namespace Go.Proofs.YthlacjabelpehaaGreatDoor
open Go.RowKit Go.Siskin

theorem Tryz.infoInt : (Tryz.prog.info? 3).map (fun i => (i.zero, i.size, i.bytes)) = some (some (.int .i64 0), 1, 8) := by kernel_rfl
theorem Tryz.infoForm : (Tryz.prog.info? 31).map (fun i => (i.zero, i.size, i.bytes)) = some (some (.agg #[.int .i64 0, .string ⟨#[]⟩, .slice none 0 0, .int .i64 0, .slice none 0 0]), 5, 80) := by kernel_rfl

theorem set_step {cs : Array Value} {xs : List Int} {k : Nat} (hcs : cs.size = xs.length) (hlt : k < xs.length) {x : Int} (hx : xs.getD k 0 = x) (hg : ∀ j, j < k → cs[j]? = some (.int .i64 (xs.getD j 0))) :
    ∀ j, j < k + 1 → (cs.setIfInBounds k (.int .i64 x))[j]? = some (.int .i64 (xs.getD j 0)) := by
  intro j hj
  by_cases e : j = k
  · subst e; rw [Array.getElem?_setIfInBounds, if_pos rfl, if_pos (by omega), hx]
  · rw [Array.getElem?_setIfInBounds, if_neg (by omega)]; exact hg j (by omega)

set_option maxHeartbeats 1000000 in
theorem toIntS_any (B : Nat → Prop) (va : Value) (xs : List Int) (w : World) (ha : IntsAt B w va xs) (hB : ∀ b, B b → b < w.heap.size) (hn : xs.length ≤ 1048576) :
    Calls Tryz.prog 18 #[va] w fun e w' => ∃ v, e = .returned v ∧ IntsAt (Fresh w w') w' v xs ∧ Below w.heap.size w w' := by
  obtain ⟨a, ca, rfl, hla, ha⟩ := ha
  unfold maxLen at hla
  obtain ⟨i, hi, hz0, hz1, hz2⟩ := info_parts Tryz.infoInt
  have Hi := hid hi
  have Hz0 := hid hz0
  have Hz1 := hid hz1
  have Hz2 := hid hz2
  clear hi hz0 hz1 hz2
  go_enter Tryz.func18, Tryz.ntmps18
  go_wp2_with (at_make; refine wpList_make_new _ rfl _ _ 22 rfl 3 i (.int .i64 0) 1 Tryz.underlying22 Hi.out Hz0.out Hz1.out .i64 .i64 xs.length rfl rfl (by rw [Hz2.out]; omega) (by unfold maxLen; omega) ?_)
  go_loopw [4] (fun i wr => ∃ k : Nat, k ≤ xs.length ∧ i = .int .i64 k ∧ Hid (∃ cs : Array Value, Own wr w.heap.size 3 cs ∧ cs.size = xs.length ∧ (∀ j, j < k → cs[j]? = some (.int .i64 (xs.getD j 0))) ∧ Below w.heap.size w wr)) (fun i _ => xs.length - (intOf i).toNat)
  case atStart => exact ⟨0, Nat.zero_le _, rfl, _, own_new _ _ _, size_madeCells _ _, fun j hj => absurd hj (by omega), (Below.refl _ _).alloc (Nat.le_refl _) _⟩
  case round =>
    obtain ⟨k, hk, rfl, HA⟩ := hrel
    obtain ⟨cs, ho, hcs, hgot, hbel⟩ := HA.out
    have HO := hid ho
    have HG := hid hgot
    have HB := hid hbel
    by_cases hlt : k < xs.length
    · rcases ha with ha | ⟨ba, oa, rfl, hb, ha⟩
      · subst ha; simp at hlt
      have ga := (hbel.cell (p := ⟨ba, oa + k, none⟩) (hB ba hb)).trans (ha k hlt)
      rw [getD_get hlt] at ga
      have gc := ho.cell k
      rw [Array.getElem?_eq_getElem (by omega)] at gc
      have gf := ho.frozen k
      have HX : Hid (xs.getD k 0 = xs[k]) := getD_get hlt
      clear ha HA ho hgot hbel
      go_wp2_with fail
      exact ⟨⟨k + 1, by omega, by go_num, _, HO.out.set k _, by simp [hcs], set_step hcs hlt HX.out HG.out, HB.out.setCell (Nat.le_refl _) _⟩, by simp [intOf]; omega⟩
    · clear HA ho hgot hbel
      go_wp2_with fail
      go_ret
      refine ⟨_, rfl, ?_, HB.out⟩
      refine ⟨_, _, rfl, by unfold maxLen; omega, Or.inr ⟨w.heap.size, 0, rfl, ⟨Nat.le_refl _, HO.out.lt⟩, fun j hj => ?_⟩⟩
      rw [Nat.zero_add, HO.out.cell]
      exact HG.out j (by omega)

end Go.Proofs.YthlacjabelpehaaGreatDoor

namespace Go.Proofs.YthlacjabelpehaaGreatDoor
open Go.RowKit Go.Siskin

theorem szI_two (a b : Nat) (l : Int) : szI (a + b) l = if szI a l < 0 then -1 else szI b (szI a l) := by
  unfold szI
  by_cases h1 : l - a < 0
  · rw [if_pos h1, if_pos (by omega), if_pos (by omega)]
  · rw [if_neg h1, if_neg h1]
    by_cases h2 : l - a - b < 0
    · rw [if_pos h2, if_pos (by omega)]
    · rw [if_neg h2, if_neg (by omega)]; omega
theorem szI_ge (a : Nat) (l : Int) : -1 ≤ szI a l ∧ (0 ≤ l → szI a l ≤ l) := by
  unfold szI
  by_cases h1 : l - a < 0
  · rw [if_pos h1]; omega
  · rw [if_neg h1]; omega

theorem szI_neg (a : Nat) (l : Int) : szI a l < 0 ↔ l - a < 0 := by
  unfold szI
  by_cases h1 : l - a < 0
  · rw [if_pos h1]; omega
  · rw [if_neg h1]
theorem szI_minus (a : Nat) (l : Int) : szI a l = -1 ↔ l - a < 0 := by
  unfold szI
  by_cases h1 : l - a < 0
  · rw [if_pos h1]; omega
  · rw [if_neg h1]; omega
theorem szI_pos (a : Nat) (l : Int) (h : ¬ szI a l < 0) : szI a l = l - a := by
  unfold szI at h ⊢
  by_cases h1 : l - a < 0
  · rw [if_pos h1] at h; omega
  · rw [if_neg h1]

def SzForm (n : Nat) : Prop := ∀ f : Fm, f.sz ≤ n → ∀ (B : Nat → Prop) (w : World) (c0 c1 c2 c3 c4 : Value) (left : Int), FormAt B w f c0 c1 c2 c3 c4 → (∀ b, B b → b < w.heap.size) → 0 ≤ left → left ≤ 1048576 →
    Calls Tryz.prog 4 #[.agg #[c0, c1, c2, c3, c4], .int .i64 left] w fun e w' => e = .returned (.int .i64 (szI f.cost left)) ∧ Below w.heap.size w w'
def SzForms (n : Nat) : Prop := ∀ ks : List Fm, Fm.szs ks ≤ n → ∀ (B : Nat → Prop) (w : World) (v : Value) (left : Int), FormsAt B w v ks → (∀ b, B b → b < w.heap.size) → 0 ≤ left → left ≤ 1048576 →
    Calls Tryz.prog 5 #[v, .int .i64 left] w fun e w' => e = .returned (.int .i64 (szI (ks.length + Fm.costs ks) left)) ∧ Below w.heap.size w w'

set_option maxHeartbeats 1000000 in
theorem szForms_of (n : Nat) (ih : SzForm n) : SzForms n := by
  intro ks hks B w v left hv hB h0 h1
  obtain ⟨a, ca, rfl, hla, ha⟩ := hv
  unfold maxLen at hla
  have HI := hid ih
  clear ih
  by_cases hn : left - ks.length < 0
  · go_enter Tryz.func5, Tryz.ntmps5
    go_wp2_with fail
    go_ret
    exact ⟨ret_int (by unfold szI; rw [if_pos (by omega)]), Below.refl _ _⟩
  go_enter Tryz.func5, Tryz.ntmps5
  go_wp2_with fail
  go_loopw [1, 5] (fun l i wr => ∃ k : Nat, k ≤ ks.length ∧ i = .int .i64 k ∧ ∃ m : Int, l = .int .i64 m ∧ 0 ≤ m ∧ m ≤ 1048576 ∧ Hid (m = left - ks.length - Fm.costs (ks.take k)) ∧ Hid (Below w.heap.size w wr)) (fun _ i _ => ks.length - (intOf i).toNat)
  case atStart => exact ⟨0, Nat.zero_le _, rfl, _, rfl, by omega, by omega, by show _ = _; simp [Fm.costs], Below.refl _ _⟩
  case round =>
    obtain ⟨k, hk, rfl, m, rfl, hm0, hm1, HM, HB⟩ := hrel
    by_cases hlt : k < ks.length
    · rcases ha with ha | ⟨ba, oa, rfl, hb, ha⟩
      · subst ha; simp at hlt
      obtain ⟨c0, c1, c2, c3, c4, g0, g1, g2, g3, g4, hf⟩ := RowAt.get ks (RowAt.keep (HB.out.on hB) hb ks ha) k hlt
      have hsz := HB.out.size
      have hc := HI.out ks[k] (Nat.le_trans (Fm.szs_get ks k hlt) hks) B wr c0 c1 c2 c3 c4 m hf (fun b hb => by have := hB b hb; omega) hm0 hm1
      have HC := hid hc
      have HT := hid (Fm.costs_take ks k hlt)
      have HL := hid (Fm.costs_take_le ks (k + 1))
      clear hc ha hf HI
      by_cases hneg : szI ks[k].cost m < 0
      · go_wp2_with (go_at_call 4; refine HC.out.mono ?_; rintro e w' ⟨rfl, hw⟩)
        go_ret
        refine ⟨ret_int ?_, HB.out.trans (hw.mono (by omega))⟩
        have h1 := HM.out
        have h2 := HT.out
        have h3 := HL.out
        have h4 := (szI_neg _ _).1 hneg
        exact ((szI_minus _ _).2 (by omega)).symm
      · go_wp2_with (go_at_call 4; refine HC.out.mono ?_; rintro e w' ⟨rfl, hw⟩)
        have h1 := HM.out
        have h2 := HT.out
        have h4 := szI_pos _ _ (Int.not_lt.2 hneg)
        have h5 := (szI_ge ks[k].cost m).2 hm0
        exact ⟨⟨k + 1, by omega, by go_num, _, rfl, by omega, by omega, by show _ = _; rw [h4, h2]; omega, HB.out.trans (hw.mono (by omega))⟩, by simp [intOf]; omega⟩
    · go_wp2_with fail
      go_ret
      exact ⟨ret_int (by
        have h := HM.out
        rw [List.take_of_length_le (by omega)] at h
        unfold szI; rw [if_neg (by omega)]; omega), HB.out⟩

set_option maxHeartbeats 1000000 in
theorem szForm_of (n : Nat) (ih : SzForms n) : SzForm (n + 1) := by
  intro f hf B w c0 c1 c2 c3 c4 left hA hB h0 h1
  obtain ⟨rfl, rfl, ht, h2, rfl, h4⟩ := (formAt_iff _ _ _ _ _ _ _ _).1 hA
  obtain ⟨sa, sc, rfl, hsl, h2⟩ := h2
  clear h2
  have hsl0 := hsl.1
  have ht0 := ht
  unfold maxLen at ht
  have HC := hid (Fm.cost_eq f)
  have HS := hid (Fm.sz_kids f)
  by_cases k1 : left - f.text.size < 0
  · go_enter Tryz.func4, Tryz.ntmps4
    go_wp2_with fail
    go_ret
    have := HC.out
    exact ⟨ret_int ((szI_minus _ _).2 (by omega)).symm, (Below.refl _ _).alloc (Nat.le_refl _) _⟩
  by_cases k2 : szI f.scopes.length (left - f.text.size) < 0
  · go_enter Tryz.func4, Tryz.ntmps4
    go_wp2_with (go_at_call 12; refine (szIntS_any _ _ _ _ _ (by omega) (by omega) hsl0).mono ?_; rintro e w' ⟨rfl, hw⟩; rw [hw]; clear hw w')
    go_ret
    have := HC.out
    have := (szI_neg _ _).1 k2
    exact ⟨ret_int ((szI_minus _ _).2 (by omega)).symm, (Below.refl _ _).alloc (Nat.le_refl _) _⟩
  have HP := hid (szI_pos _ _ k2)
  have hle := (szI_ge f.scopes.length (left - f.text.size)).2 (by omega)
  have HK := hid (ih f.kids (by have := HS.out; omega) B (w.alloc (.cells #[.int .i64 f.sort, .string f.text, .slice sa f.scopes.length sc, .int .i64 f.frm, c4] 25)) c4 (szI f.scopes.length (left - f.text.size)) (h4.keep ((SameOn.refl _ _).alloc hB _)) (fun b hb => by have := hB b hb; simp; omega) (by omega) (by omega))
  clear ih h4 hA
  by_cases k3 : szI (f.kids.length + Fm.costs f.kids) (szI f.scopes.length (left - f.text.size)) < 0
  · go_enter Tryz.func4, Tryz.ntmps4
    go_wp2_with (first
      | (go_at_call 12; refine (szIntS_any _ _ _ _ _ (by omega) (by omega) hsl0).mono ?_; rintro e w' ⟨rfl, hw⟩; rw [hw]; clear hw w')
      | (go_at_call 5; refine HK.out.mono ?_; rintro e w' ⟨rfl, hw⟩))
    go_ret
    have h1 := HC.out
    have h2 := HP.out
    have h3 := (szI_neg _ _).1 k3
    exact ⟨ret_int ((szI_minus _ _).2 (by omega)).symm, ((Below.refl _ _).alloc (Nat.le_refl _) _).trans (hw.mono (by simp))⟩
  · go_enter Tryz.func4, Tryz.ntmps4
    go_wp2_with (first
      | (go_at_call 12; refine (szIntS_any _ _ _ _ _ (by omega) (by omega) hsl0).mono ?_; rintro e w' ⟨rfl, hw⟩; rw [hw]; clear hw w')
      | (go_at_call 5; refine HK.out.mono ?_; rintro e w' ⟨rfl, hw⟩))
    go_ret
    have h1 := HC.out
    have h2 := HP.out
    have h3 := szI_pos _ _ (Int.not_lt.2 k3)
    refine ⟨ret_int ?_, ((Below.refl _ _).alloc (Nat.le_refl _) _).trans (hw.mono (by simp))⟩
    rw [h3, h2, szI_pos _ _ (by rw [szI_neg]; omega)]; omega

theorem szForm_all : ∀ n, SzForm n ∧ SzForms n
  | 0 => by
    have h : SzForm 0 := fun f hf => by have := Fm.sz_kids f; omega
    exact ⟨h, szForms_of 0 h⟩
  | n + 1 => by
    have h := szForm_of n (szForm_all n).2
    exact ⟨h, szForms_of (n + 1) h⟩

/-- The law's own count of a form. -/
theorem szExpForm_any (f : Fm) (B : Nat → Prop) (w : World) (c0 c1 c2 c3 c4 : Value) (left : Int) (h : FormAt B w f c0 c1 c2 c3 c4) (hB : ∀ b, B b → b < w.heap.size) (h0 : 0 ≤ left) (h1 : left ≤ 1048576) :
    Calls Tryz.prog 4 #[.agg #[c0, c1, c2, c3, c4], .int .i64 left] w fun e w' => e = .returned (.int .i64 (szI f.cost left)) ∧ Below w.heap.size w w' :=
  (szForm_all f.sz).1 f (Nat.le_refl _) B w c0 c1 c2 c3 c4 left h hB h0 h1

end Go.Proofs.YthlacjabelpehaaGreatDoor

namespace Go.Proofs.YthlacjabelpehaaGreatDoor
open Go.RowKit Go.Siskin

theorem tl_beq (s : ByteArray) (l : List UInt8) : (s.toList == l) = (s.data.toList == l) := by rw [Go.ByteArray.toList_eq]
theorem tail_take (s : ByteArray) : List.take (s.size - 1) s.data.toList.tail = s.data.toList.drop 1 := by
  rw [List.drop_one, List.take_of_length_le (by simp)]

set_option maxHeartbeats 400000 in
theorem l1AtomOk_string (s : ByteArray) (w : World) (hs : s.size ≤ maxLen) (h1 : (s.toList == [35, 116]) = false) (h2 : (s.toList == [35, 102]) = false) (h3 : digitsB s.data.toList = false) (h4 : Hid (minusB s.data.toList = false))
    (h5 : 1 < s.size) (h6 : ((s[0]'(by omega)).toNat : Int) = 34) (h7 : ((s[s.size - 1]'(by omega)).toNat : Int) = 34) :
    Calls Tryz.prog 33 #[.string s] w fun e w' => e = .returned (.bool (atomB s.data.toList)) ∧ w' = w := by
  have hs0 := hs
  unfold maxLen at hs
  have hA : Hid (atomB s.data.toList = innersB ((s.data.toList.take (s.size - 1)).drop 1)) := by
    show _ = _
    unfold atomB
    rw [← tl_beq, ← tl_beq, h1, h2, h3, h4.out, string_parts s (by omega), decide_eq_true h6, decide_eq_true h7]
    rfl
  clear h4
  go_enter Tryz.func33, Tryz.ntmps33
  go_wp2_with (go_at_call 43; refine (l1Digits_any _ _ hs0).mono ?_; rintro e w' ⟨rfl, rfl⟩)
  go_loop [3] (fun i => ∃ k : Nat, 1 ≤ k ∧ k ≤ s.size - 1 ∧ i = .int .i64 k ∧ Hid (((s.data.toList.take k).drop 1).all innerB = true)) (fun i => s.size - (intOf i).toNat)
  case atStart => exact ⟨1, Nat.le_refl _, by omega, rfl, by show _ = _; rw [List.drop_of_length_le (by simp; omega)]; rfl⟩
  case round =>
    obtain ⟨k, hk1, hk, rfl, HA⟩ := hrel
    by_cases hlt : k < s.size - 1
    · have hlt' : k < s.size := by omega
      have bad : Hid (((s[k].toNat : Int) = 34 ∨ (s[k].toNat : Int) < 32 ∨ 126 < (s[k].toNat : Int)) → false = atomB s.data.toList) := by
        intro hb
        rw [hA.out]; exact (all_mid_false s k (s.size - 1) hk1 hlt (by omega) innerB (inner_no _ hb)).symm
      by_cases a1 : (s[k].toNat : Int) = 34
      · go_wp2_with fail
        go_ret
        exact ⟨ret_bool (bad.out (Or.inl a1)), rfl⟩
      by_cases a2 : (s[k].toNat : Int) < 32
      · go_wp2_with fail
        go_ret
        exact ⟨ret_bool (bad.out (Or.inr (Or.inl a2))), rfl⟩
      by_cases a3 : 126 < (s[k].toNat : Int)
      · go_wp2_with fail
        go_ret
        exact ⟨ret_bool (bad.out (Or.inr (Or.inr a3))), rfl⟩
      have HI : Hid (innerB s[k] = true) := inner_yes _ a1 a2 a3
      go_wp2_with fail
      go_round
      case rel => exact ⟨k + 1, by omega, by omega, by go_num, by show _ = _; rw [all_mid_succ s k hk1 hlt', HA.out, HI.out]; rfl⟩
      case measure => simp [intOf]; omega
    · go_wp2_with fail
      go_ret
      have e : k = s.size - 1 := by omega
      exact ⟨ret_bool (by rw [hA.out, ← e]; exact HA.out.symm), rfl⟩

set_option maxHeartbeats 4000000 in
theorem l1AtomOk_any (s : ByteArray) (w : World) (hs : s.size ≤ maxLen) :
    Calls Tryz.prog 33 #[.string s] w fun e w' => e = .returned (.bool (atomB s.data.toList)) ∧ w' = w := by
  have hs0 := hs
  have hs1 : (s.extract 1 s.size).size ≤ maxLen := by simp; omega
  have HT : Hid (atomB s.data.toList = (s.toList == [35, 116] || s.toList == [35, 102] || digitsB s.data.toList || minusB s.data.toList || stringB s.data.toList)) := by
    show _ = _
    rw [tl_beq, tl_beq]; rfl
  unfold maxLen at hs
  cases h1 : (s.toList == [35, 116]) with
  | true =>
    go_enter Tryz.func33, Tryz.ntmps33
    go_wp2_with fail
    go_ret
    exact ⟨ret_bool (by rw [HT.out, h1]; rfl), rfl⟩
  | false =>
  cases h2 : (s.toList == [35, 102]) with
  | true =>
    go_enter Tryz.func33, Tryz.ntmps33
    go_wp2_with fail
    go_ret
    exact ⟨ret_bool (by rw [HT.out, h2]; simp), rfl⟩
  | false =>
  cases h3 : digitsB s.data.toList with
  | true =>
    go_enter Tryz.func33, Tryz.ntmps33
    go_wp2_with (go_at_call 43; refine (l1Digits_any _ _ hs0).mono ?_; rintro e w' ⟨rfl, rfl⟩)
    go_ret
    exact ⟨ret_bool (by rw [HT.out, h3]; simp), rfl⟩
  | false =>
  by_cases h5 : 1 < s.size
  · by_cases h6 : ((s[0]'(by omega)).toNat : Int) = 45
    · have HM := minus_int s h5
      rw [decide_eq_true h6, Bool.true_and] at HM
      have HS : Hid (stringB s.data.toList = false) := by
        show _ = _
        rw [string_parts s h5, decide_eq_false (by omega)]; rfl
      cases h7 : digitsB (List.take (s.size - 1) s.data.toList.tail) with
      | true =>
        rw [← tail_take, h7] at HM
        have HM' : Hid (minusB s.data.toList = true) := HM
        clear HM
        go_enter Tryz.func33, Tryz.ntmps33
        go_wp2_with (go_at_call 43; refine (l1Digits_any _ _ (by first | exact hs0 | exact hs1)).mono ?_; rintro e w' ⟨rfl, rfl⟩)
        go_ret
        exact ⟨ret_bool (by rw [HT.out, HM'.out]; simp), rfl⟩
      | false =>
        rw [← tail_take, h7] at HM
        have HM' : Hid (minusB s.data.toList = false) := HM
        clear HM
        go_enter Tryz.func33, Tryz.ntmps33
        go_wp2_with (go_at_call 43; refine (l1Digits_any _ _ (by first | exact hs0 | exact hs1)).mono ?_; rintro e w' ⟨rfl, rfl⟩)
        go_ret
        exact ⟨ret_bool (by rw [HT.out, HM'.out, HS.out, h1, h2, h3]; rfl), rfl⟩
    · have HM : Hid (minusB s.data.toList = false) := by
        show _ = _
        rw [minus_int s h5, decide_eq_false h6]; rfl
      by_cases h7 : ((s[0]'(by omega)).toNat : Int) = 34
      · by_cases h8 : ((s[s.size - 1]'(by omega)).toNat : Int) = 34
        · exact l1AtomOk_string s w hs0 h1 h2 h3 HM h5 h7 h8
        · have HS : Hid (stringB s.data.toList = false) := by
            show _ = _
            rw [string_parts s h5, decide_eq_false h8]; simp
          have h9 : (((s[s.size - 1]'(by omega)).toNat : Int) != 34) = true := by simpa using h8
          go_enter Tryz.func33, Tryz.ntmps33
          go_wp2_with (go_at_call 43; refine (l1Digits_any _ _ hs0).mono ?_; rintro e w' ⟨rfl, rfl⟩)
          go_ret
          exact ⟨ret_bool (by rw [HT.out, HM.out, HS.out, h1, h2, h3]; rfl), rfl⟩
      · have HS : Hid (stringB s.data.toList = false) := by
          show _ = _
          rw [string_parts s h5, decide_eq_false h7]; rfl
        go_enter Tryz.func33, Tryz.ntmps33
        go_wp2_with (go_at_call 43; refine (l1Digits_any _ _ hs0).mono ?_; rintro e w' ⟨rfl, rfl⟩)
        go_ret
        exact ⟨ret_bool (by rw [HT.out, HM.out, HS.out, h1, h2, h3]; rfl), rfl⟩
  · have HM : Hid (minusB s.data.toList = false) := minus_short s h5
    have HS : Hid (stringB s.data.toList = false) := string_short s (by omega)
    go_enter Tryz.func33, Tryz.ntmps33
    go_wp2_with (go_at_call 43; refine (l1Digits_any _ _ hs0).mono ?_; rintro e w' ⟨rfl, rfl⟩)
    go_ret
    exact ⟨ret_bool (by rw [HT.out, HM.out, HS.out, h1, h2, h3]; rfl), rfl⟩
end Go.Proofs.YthlacjabelpehaaGreatDoor

namespace Go.Proofs.YthlacjabelpehaaGreatDoor
open Go.RowKit Go.Siskin

set_option maxHeartbeats 400000 in
theorem isDigits_any (s : ByteArray) (w : World) (hs : s.size ≤ maxLen) :
    Calls Tryz.prog 75 #[.string s] w fun e w' => e = .returned (.bool (digitsB s.data.toList)) ∧ w' = w := by
  unfold maxLen at hs
  go_enter Tryz.func75, Tryz.ntmps75
  go_wp2_with fail
  go_loop [6] (fun i => ∃ k : Nat, k ≤ s.size ∧ i = .int .i64 k ∧ Hid ((s.data.toList.take k).all digitB = true)) (fun i => s.size - (intOf i).toNat)
  case atStart => exact ⟨0, Nat.zero_le _, rfl, rfl⟩
  case round =>
    obtain ⟨k, hk, rfl, HA⟩ := hrel
    by_cases hlt : k < s.size
    · by_cases a1 : (s[k].toNat : Int) < 48
      · go_wp2_with fail
        go_ret
        exact ⟨ret_bool (digits_bad s k hlt (by omega)).symm, rfl⟩
      by_cases a2 : 57 < (s[k].toNat : Int)
      · go_wp2_with fail
        go_ret
        exact ⟨ret_bool (digits_bad s k hlt (by omega)).symm, rfl⟩
      have HI : Hid (digitB s[k] = true) := digit_yes _ a1 a2
      go_wp2_with fail
      go_round
      case rel => exact ⟨k + 1, by omega, by go_num, by show _ = _; rw [all_take_succ s k hlt, HA.out, HI.out]; rfl⟩
      case measure => simp [intOf]; omega
    · go_wp2_with fail
      go_ret
      exact ⟨ret_bool (by rw [digits_end' s k hlt HA.out, Go.ByteArray.toList_eq]), rfl⟩

def fromC (least : Nat) (c : UInt8) : Bool := decide (least ≤ c.toNat) && decide (c.toNat ≤ 126)
set_option maxHeartbeats 400000 in
theorem hasBytesFrom_any (n : Nat) (s : ByteArray) (w : World) (hs : s.size ≤ maxLen) :
    Calls Tryz.prog 60 #[.int .u8 n, .string s] w fun e w' => e = .returned (.bool (fromB n s.data.toList)) ∧ w' = w := by
  unfold maxLen at hs
  go_enter Tryz.func60, Tryz.ntmps60
  go_wp2_with fail
  go_loop [8] (fun i => ∃ k : Nat, k ≤ s.size ∧ i = .int .i64 k ∧ Hid ((s.data.toList.take k).all (fromC n) = true)) (fun i => s.size - (intOf i).toNat)
  case atStart => exact ⟨0, Nat.zero_le _, rfl, rfl⟩
  case round =>
    obtain ⟨k, hk, rfl, HA⟩ := hrel
    by_cases hlt : k < s.size
    · have bad : Hid (((s[k].toNat : Int) < n ∨ 126 < (s[k].toNat : Int)) → false = fromB n s.data.toList) := by
        intro hb
        exact (all_false s k hlt (fromC n) (by unfold fromC; simp; omega)).symm
      by_cases a1 : (s[k].toNat : Int) < n
      · go_wp2_with fail
        go_ret
        exact ⟨ret_bool (bad.out (by omega)), rfl⟩
      by_cases a2 : 126 < (s[k].toNat : Int)
      · go_wp2_with fail
        go_ret
        exact ⟨ret_bool (bad.out (by omega)), rfl⟩
      have HI : Hid (fromC n s[k] = true) := by show _ = _; unfold fromC; simp; omega
      go_wp2_with fail
      go_round
      case rel => exact ⟨k + 1, by omega, by go_num, by show _ = _; rw [all_take_succ s k hlt, HA.out, HI.out]; rfl⟩
      case measure => simp [intOf]; omega
    · go_wp2_with fail
      go_ret
      exact ⟨ret_bool (all_true s k hlt (fromC n) HA.out).symm, rfl⟩

end Go.Proofs.YthlacjabelpehaaGreatDoor
