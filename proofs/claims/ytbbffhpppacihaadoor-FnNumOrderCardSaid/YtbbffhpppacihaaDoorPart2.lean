/-
  The drawing reader: pick tells a number below a bound, of tells one of a list of texts, l11Open makes a reader. Condition: the reader and its bytes lie in memory apart, and it has not picked too often.
  The drawing reader of the numbers: pick, of, l11Open. Condition: the reader and its bytes lie in memory apart, and it has not picked too often.
  Plain numbers: a number in so many decimal digits, and its numeral. No condition; no program is named.
  The model's l11Trim and l11At over numbers in decimal digits. Condition: the texts are numbers in so many digits.
  The model's l11Text and l11Small: digits from the right as a numeral, and the numeral of a small number. Condition: the digits lie in memory as IntsAt says.
  The model's l11Small: the numeral of a number of the machine.
-/
import Derived.Test.YtbbffhpppacihaaDoorPart1
import Derived.BigQuiet
import Derived.Maps.AppendAt
import Derived.Deep.AppendLies
import Derived.Lib.ItoaNum
import Derived.Test.YtbbffhpppacihaaDoorProg
import Derived.WalkKit
import Derived.WalkSpells
import Derived.WalkLawsBesides
import Derived.Lib.Strings
import Derived.Laws.IdiomStrings
import Derived.Deep.RegionHeld3
import Derived.Deep.RegionLaw
namespace Go.Proofs.YtbbffhpppacihaaDoor
open Go.RowKit Go.Siskin

/-- Bytes that lie in blocks of R. -/
def BytesAt (R : Nat → Prop) (w : World) (v : Value) (n : Nat) : Prop :=
  ∃ a cap, v = .slice a n cap ∧ (n ≤ cap ∧ cap ≤ maxLen) ∧ (n = 0 ∨ ∃ b o, a = some ⟨b, o, none⟩ ∧ R b ∧ ∀ i, i < n → ∃ x : Nat, x < 256 ∧ w.cell? ⟨b, o + i, none⟩ = some (.int .u8 x))
theorem BytesAt.keep {R : Nat → Prop} {w w' : World} {v : Value} {n : Nat} (h : BytesAt R w v n) (hb : SameOn R w w') : BytesAt R w' v n := by
  obtain ⟨a, cap, e, hl, h⟩ := h
  refine ⟨a, cap, e, hl, ?_⟩
  rcases h with h | ⟨b, o, e, hB, h⟩
  · exact Or.inl h
  · refine Or.inr ⟨b, o, e, hB, fun i hi => ?_⟩
    obtain ⟨x, hx, hc⟩ := h i hi
    exact ⟨x, hx, (hb.cell hB (o + i)).trans hc⟩

/-- Behind picks: all is as it was but the reader's block rb, which has picked p times, and what is new. -/
def Picked (rb : Nat) (v : Value) (w w' : World) (p : Nat) : Prop := w.grownBy w' (some rb) ∧ Own w' rb 132 #[v, .int .i64 p]

theorem picked_one {w : World} {rb p : Nat} {v : Value} (ho : Own w rb 132 #[v, .int .i64 p]) : Picked rb v w (w.setCell ⟨rb, 1, none⟩ (.int .i64 ((p : Int) + 1))) (p + 1) := by
  refine ⟨⟨rfl, rfl, rfl, by simp, fun i _ hne => Below.heap_setCell w _ _ i fun e => hne (congrArg some e)⟩, ?_⟩
  have h := ho.set 1 (.int .i64 ((p : Int) + 1))
  simpa using h

theorem picked_draw {rb : Nat} {v : Value} {w w' : World} {p : Nat} (h : Picked rb v w w' p) (n : Nat) : Picked rb v w (w'.drewN n) p := ⟨⟨h.1.os, h.1.tape, h.1.output, h.1.size, h.1.block⟩, h.2⟩

theorem bits_xor_i64 (a b : Nat) (ha : a < 4611686018427387904) (hb : b < 4611686018427387904) : bits .xor .i64 (a : Int) (b : Int) = ((a ^^^ b : Nat) : Int) := by
  have hx : a ^^^ b < 2 ^ 62 := Nat.xor_lt_two_pow (by omega) (by omega)
  have h1 : (BitVec.ofInt 64 (a : Int)).toNat = a := by
    rw [BitVec.ofInt_natCast, BitVec.toNat_ofNat]; exact Nat.mod_eq_of_lt (by omega)
  have h2 : (BitVec.ofInt 64 (b : Int)).toNat = b := by
    rw [BitVec.ofInt_natCast, BitVec.toNat_ofNat]; exact Nat.mod_eq_of_lt (by omega)
  show IntKind.i64.wrap ((BitVec.ofInt 64 (a : Int) ^^^ BitVec.ofInt 64 (b : Int)).toNat : Int) = _
  rw [BitVec.toNat_xor, h1, h2]
  simp [IntKind.wrap, IntKind.bits, IntKind.signed]
  omega

set_option maxRecDepth 20000 in
set_option maxHeartbeats 1000000 in
theorem pick_any (R : Nat → Prop) (w : World) (rb n p k : Nat) (v : Value) (hv : BytesAt R w v n) (hn : n ≤ 2000) (hr : ¬ R rb) (ho : Own w rb 132 #[v, .int .i64 p]) (hp : p ≤ 1000000) (hk : 1 ≤ k) (hk2 : k ≤ 1000) :
    Calls Tryd.prog 76 #[.pointer (some ⟨rb, 0, none⟩), .int .i64 k] w fun e w' => ∃ m : Nat, m < k ∧ e = .returned (.int .i64 m) ∧ Picked rb v w w' (p + 1) ∧ w'.heap.size = w.heap.size := by
  obtain ⟨a, cap, rfl, -, hv⟩ := hv
  have q0 := ho.cell 0
  have q1 := ho.cell 1
  have f1 := ho.frozen 1
  simp at q0 q1
  have HO := hid ho
  clear ho
  have hk' : ¬ (k : Int) < 1 := by omega
  have hk0 : (k : Int) ≠ 0 := by omega
  by_cases h0 : n = 0
  · subst h0
    go_enter Tryd.func76, Tryd.ntmps76
    go_wp2_with fail
    go_ret
    exact ⟨0, by omega, rfl, picked_one HO.out, by simp⟩
  · rcases hv with hv | ⟨b, o, rfl, hb, hv⟩
    · exact absurd hv h0
    have hne : b ≠ rb := fun e => hr (e ▸ hb)
    by_cases hlt : p < n
    · obtain ⟨x, hx, gx⟩ := hv p hlt
      go_enter Tryd.func76, Tryd.ntmps76
      go_wp2_with fail
      go_ret
      exact ⟨x % k, Nat.mod_lt _ (by omega), by simp, picked_one HO.out, by simp⟩
    · obtain ⟨x, hx, gx⟩ := hv (p % n) (Nat.mod_lt _ (by omega))
      obtain ⟨y, hy, gy⟩ := hv ((p * 7 + 3) % n) (Nat.mod_lt _ (by omega))
      have e1 : (p : Int) % (n : Int) = ((p % n : Nat) : Int) := by simp
      have e2 : ((p : Int) * 7 + 3) % (n : Int) = (((p * 7 + 3) % n : Nat) : Int) := by simp
      have m1 : p % n < n := Nat.mod_lt _ (by omega)
      have m2 : (p * 7 + 3) % n < n := Nat.mod_lt _ (by omega)
      have e3 : (p : Int) / (n : Int) = ((p / n : Nat) : Int) := by simp
      have m3 : p / n ≤ p := Nat.div_le_self _ _
      generalize p % n = i1 at *
      generalize (p * 7 + 3) % n = i2 at *
      generalize p / n = i3 at *
      go_enter Tryd.func76, Tryd.ntmps76
      go_wp2_with fail
      go_quiet (fail)
      obtain ⟨X, hX, hXl⟩ : ∃ X : Nat, ((x : Int) * 131 + (y : Int) * 1117 + (p : Int) * 29 + (i3 : Int) * 53) = (X : Int) ∧ X < 1000000000 := ⟨x * 131 + y * 1117 + p * 29 + i3 * 53, by omega, by omega⟩
      rw [hX]
      have hq : (X : Int) / 64 = ((X / 64 : Nat) : Int) := by omega
      have hbx : bits .xor .i64 (X : Int) ((X / 64 : Nat) : Int) = ((X ^^^ X / 64 : Nat) : Int) := bits_xor_i64 _ _ (by omega) (by omega)
      have hz : X ^^^ X / 64 < 2 ^ 30 := Nat.xor_lt_two_pow (by omega) (by omega)
      generalize X / 64 = Y at *
      generalize X ^^^ Y = Z at *
      clear hX
      go_wp2_with fail
      go_ret
      exact ⟨Z % k, Nat.mod_lt _ (by omega), by simp, picked_draw (picked_one HO.out) _, by simp⟩

end Go.Proofs.YtbbffhpppacihaaDoor

namespace Go.Proofs.YtbbffhpppacihaaDoor
open Go.RowKit Go.Siskin

/-- A reader: its block apart from the bytes that it reads, not too often used. -/
structure RdAt (R : Nat → Prop) (w : World) (rb n p : Nat) (v : Value) : Prop where
  bytes : BytesAt R w v n
  len : n ≤ 2000
  off : ¬ R rb
  low : ∀ b, R b → b < w.heap.size
  own : Own w rb 132 #[v, .int .i64 p]
  few : p ≤ 1000000

theorem RdAt.picked {R : Nat → Prop} {w w' : World} {rb n p q : Nat} {v : Value} (h : RdAt R w rb n p v) (hp : Picked rb v w w' q) (hq : q ≤ 1000000) : RdAt R w' rb n q v :=
  ⟨h.bytes.keep fun b hb => hp.1.block b (h.low b hb) fun e => h.off (by cases e; exact hb), h.len, h.off, fun b hb => Nat.lt_of_lt_of_le (h.low b hb) hp.1.size, hp.2, hq⟩
theorem Picked.trans {rb : Nat} {v : Value} {a b c : World} {p q : Nat} (h : Picked rb v a b p) (k : Picked rb v b c q) : Picked rb v a c q := ⟨h.1.trans k.1, k.2⟩
/-- Over what is new. -/
theorem Picked.below {rb : Nat} {v : Value} {a b c : World} {p : Nat} (h : Picked rb v a b p) {N : Nat} (k : Below N b c) (hN : a.heap.size ≤ N) (hr : rb < a.heap.size) : Picked rb v a c p :=
  ⟨⟨k.os.trans h.1.os, k.tape.trans h.1.tape, k.output.trans h.1.output, Nat.le_trans h.1.size k.size, fun i hi hne => (k.block i (by omega)).trans (h.1.block i hi hne)⟩, h.2.keep k (by omega)⟩
theorem RdAt.now {R : Nat → Prop} {w : World} {rb n p : Nat} {v : Value} (h : RdAt R w rb n p v) : Picked rb v w w p := ⟨World.grownBy.refl _ _, h.own⟩
theorem RdAt.below {R : Nat → Prop} {w w' : World} {rb n p : Nat} {v : Value} (h : RdAt R w rb n p v) (k : Below w.heap.size w w') : RdAt R w' rb n p v := h.picked (h.now.below k (Nat.le_refl _) h.own.lt) h.few
theorem RdAt.alloc {R : Nat → Prop} {w : World} {rb n p : Nat} {v : Value} (h : RdAt R w rb n p v) (o : Obj) : RdAt R (w.alloc o) rb n p v := h.below ((Below.refl _ _).alloc (Nat.le_refl _) _)

theorem _root_.Go.Siskin.Own.more {w : World} {g : Nat} {e : TypeId} {cs : Array Value} (h : Own w g e cs) (hg : g < w.heap.size) (o : Obj) : Own (w.alloc o) g e cs := h.keep ((Below.refl w.heap.size w).alloc (Nat.le_refl _) _) hg
theorem _root_.Go.Siskin.Own.picked {w w' : World} {g : Nat} {e : TypeId} {cs : Array Value} (h : Own w g e cs) {rb q : Nat} {v : Value} (hp : Picked rb v w w' q) (hg : g ≠ rb) : Own w' g e cs := (hp.1.block g h.lt fun e => hg (by cases e; rfl)).trans h

theorem _root_.Go.Siskin.Own.far {w w' : World} {g : Nat} {e : TypeId} {cs : Array Value} (h : Own w g e cs) {row : Option Nat} (hg : w.grownBy w' row) (hne : some g ≠ row) : Own w' g e cs := (hg.block g h.lt hne).trans h
theorem RdAt.far {R : Nat → Prop} {w w' : World} {rb n p : Nat} {v : Value} (h : RdAt R w rb n p v) {row : Option Nat} (hg : w.grownBy w' row) (hr : ∀ g, row = some g → ¬ R g ∧ g ≠ rb) : RdAt R w' rb n p v :=
  ⟨h.bytes.keep fun b hb => hg.block b (h.low b hb) fun e => (hr b e.symm).1 hb, h.len, h.off, fun b hb => Nat.lt_of_lt_of_le (h.low b hb) hg.size, h.own.far hg fun e => (hr rb e.symm).2 rfl, h.few⟩
theorem Picked.far {rb : Nat} {v : Value} {a b c : World} {p : Nat} (h : Picked rb v a b p) {row : Option Nat} (hg : b.grownBy c row) (hr : ∀ g, row = some g → a.heap.size ≤ g) (hrb : rb < a.heap.size) : Picked rb v a c p :=
  ⟨⟨hg.os.trans h.1.os, hg.tape.trans h.1.tape, hg.output.trans h.1.output, Nat.le_trans h.1.size hg.size, fun i hi hne => (hg.block i (Nat.lt_of_lt_of_le hi h.1.size) fun e => by have := hr i e.symm; omega).trans (h.1.block i hi hne)⟩, h.2.far hg fun e => by have := hr rb e.symm; omega⟩
theorem grown_set (w : World) (g i : Nat) (x : Value) : w.grownBy (w.setCell ⟨g, i, none⟩ x) (some g) :=
  ⟨rfl, rfl, rfl, by simp, fun j _ hne => Below.heap_setCell w _ _ j fun e => hne (congrArg some e)⟩

/-- Five cells, written one by one. -/
def wr5 (w : World) (g : Nat) (c0 c1 c2 c3 c4 : Value) : World := ((((w.setCell ⟨g, 0, none⟩ c0).setCell ⟨g, 1, none⟩ c1).setCell ⟨g, 2, none⟩ c2).setCell ⟨g, 3, none⟩ c3).setCell ⟨g, 4, none⟩ c4
theorem wr5_grown (w : World) (g : Nat) (c0 c1 c2 c3 c4 : Value) : w.grownBy (wr5 w g c0 c1 c2 c3 c4) (some g) :=
  ((((grown_set w g 0 c0).trans (grown_set _ g 1 c1)).trans (grown_set _ g 2 c2)).trans (grown_set _ g 3 c3)).trans (grown_set _ g 4 c4)
theorem wr5_size (w : World) (g : Nat) (c0 c1 c2 c3 c4 : Value) : (wr5 w g c0 c1 c2 c3 c4).heap.size = w.heap.size := by simp [wr5]

theorem pick_rd {R : Nat → Prop} {w : World} {rb n p : Nat} {v : Value} (h : RdAt R w rb n p v) (k : Nat) (hk : 1 ≤ k) (hk2 : k ≤ 1000) :
    Calls Tryd.prog 76 #[.pointer (some ⟨rb, 0, none⟩), .int .i64 k] w fun e w' => ∃ m : Nat, m < k ∧ e = .returned (.int .i64 m) ∧ Picked rb v w w' (p + 1) ∧ w'.heap.size = w.heap.size :=
  pick_any R w rb n p k v h.bytes h.len h.off h.own h.few hk hk2

set_option maxHeartbeats 1000000 in
theorem of_rd {R : Nat → Prop} {w : World} {rb n p : Nat} {v : Value} (h : RdAt R w rb n p v) (lb : Nat) (ss : List ByteArray) (h1 : 1 ≤ ss.length) (h2 : ss.length ≤ 100) (hl : lb ≠ rb) (hlt : lb < w.heap.size) (hc : ∀ (i : Nat) (hi : i < ss.length), w.cell? ⟨lb, i, none⟩ = some (.string ss[i])) :
    Calls Tryd.prog 111 #[.pointer (some ⟨rb, 0, none⟩), .slice (some ⟨lb, 0, none⟩) ss.length ss.length] w fun e w' => ∃ s, s ∈ ss ∧ e = .returned (.string s) ∧ Picked rb v w w' (p + 1) ∧ w'.heap.size = w.heap.size := by
  have HR := hid h
  clear h
  go_enter Tryd.func111, Tryd.ntmps111
  go_wp2_with (go_at_call 76; refine (pick_rd HR.out ss.length h1 (by omega)).mono ?_; rintro e w1 ⟨m, hm, rfl, hp, hs⟩; have hcell := (World.cell?_of_block (w := w) (hp.1.block lb hlt (fun e => hl (by cases e; rfl))) : w1.cell? ⟨lb, m, none⟩ = _).trans (hc m hm); have HP := hid hp; clear hp)
  go_ret
  exact ⟨ss[m], List.getElem_mem hm, rfl, HP.out, hs⟩

set_option maxHeartbeats 1000000 in
theorem l11Open_any (R : Nat → Prop) (w : World) (n : Nat) (v : Value) (hv : BytesAt R w v n) (hn : n ≤ 1048576) (hR : ∀ b, R b → b < w.heap.size) :
    Calls Tryd.prog 74 #[v] w fun e w' => ∃ n' v', e = .returned (.pointer (some ⟨w.heap.size, 0, none⟩)) ∧ RdAt R w' w.heap.size n' 0 v' ∧ Below w.heap.size w w' := by
  obtain ⟨a, cap, rfl, ⟨hl1, hl2⟩, h⟩ := hv
  have HR := hid hR
  clear hR
  by_cases hb : 2000 < n
  · rcases h with h | ⟨b, o, rfl, hB, h⟩
    · omega
    have HC := hid h
    have hl3 := hl2
    unfold maxLen at hl3
    clear h
    go_enter Tryd.func74, Tryd.ntmps74
    go_wp2_with fail
    go_ret
    refine ⟨2000, .slice (some ⟨b, o, none⟩) 2000 cap, rfl, ⟨BytesAt.keep (w := w) ⟨_, cap, rfl, ⟨by omega, hl2⟩, Or.inr ⟨b, o, rfl, hB, fun i hi => HC.out i (by omega)⟩⟩ ((SameOn.refl _ _).alloc HR.out _), by omega, fun h => by have := HR.out _ h; omega, fun b hb => by have := HR.out b hb; simp; omega, own_new _ _ _, by omega⟩, (Below.refl _ _).alloc (Nat.le_refl _) _⟩
  · have HC := hid h
    clear h
    go_enter Tryd.func74, Tryd.ntmps74
    go_wp2_with fail
    go_ret
    refine ⟨n, .slice a n cap, rfl, ⟨BytesAt.keep ⟨a, cap, rfl, ⟨hl1, hl2⟩, HC.out⟩ ((SameOn.refl _ _).alloc HR.out _), by omega, fun h => by have := HR.out _ h; omega, fun b hb => by have := HR.out b hb; simp; omega, own_new _ _ _, by omega⟩, (Below.refl _ _).alloc (Nat.le_refl _) _⟩
end Go.Proofs.YtbbffhpppacihaaDoor

namespace Go.Siskin

/-- The last m decimal digits of v, the first ahead. -/
def digL (m v : Nat) : List UInt8 := (List.range m).map fun t => Lib.dg v (m - 1 - t)
def digT (m v : Nat) : ByteArray := ⟨(digL m v).toArray⟩
/-- The numeral of v. -/
def dec (v : Nat) : ByteArray := digT (Lib.nDigits v) v

theorem digL_length (m v : Nat) : (digL m v).length = m := by simp [digL]
theorem digT_size (m v : Nat) : (digT m v).size = m := by
  show (digL m v).toArray.size = m
  rw [List.size_toArray, digL_length]
theorem dec_size (v : Nat) : (dec v).size = Lib.nDigits v := digT_size _ _
theorem dg_nat (v j : Nat) : (Lib.dg v j).toNat = 48 + v / 10 ^ j % 10 := by
  unfold Lib.dg
  have : v / 10 ^ j % 10 < 10 := Nat.mod_lt _ (by decide)
  simp; omega
theorem digT_get (m v k : Nat) (h : k < (digT m v).size) : (digT m v)[k] = Lib.dg v (m - 1 - k) := by
  show (digL m v).toArray[k] = _
  simp [digL]
theorem digT_nat (m v k : Nat) (h : k < (digT m v).size) : ((digT m v)[k].toNat : Int) = 48 + ((v / 10 ^ (m - 1 - k) % 10 : Nat) : Int) := by
  rw [digT_get, dg_nat]; omega
theorem dec_list (v : Nat) : (dec v).data.toList = Lib.decDigits v := by
  show (digL (Lib.nDigits v) v).toArray.toList = _
  rw [List.toList_toArray, Lib.decDigits_eq]; rfl
theorem dec_eq (v : Nat) : dec v = ⟨(Lib.decDigits v).toArray⟩ := by
  unfold dec digT; rw [Lib.decDigits_eq]; rfl
theorem dec_small {v : Nat} (h : v < 10) : dec v = ⟨#[UInt8.ofNat (48 + v)]⟩ := by
  rw [dec_eq, Lib.decDigits, dif_pos h]
theorem dec_big {v : Nat} (h : ¬ v < 10) : dec v = dec (v / 10) ++ ⟨#[UInt8.ofNat (48 + v % 10)]⟩ := by
  rw [dec_eq, Lib.decDigits, dif_neg h, dec_eq]
  apply ByteArray.ext
  rw [ByteArray.data_append]; simp

theorem ba_ext {a b : ByteArray} (h : a.data.toList = b.data.toList) : a = b := by
  apply ByteArray.ext
  exact Array.toList_inj.1 h

theorem digL_succ (m v : Nat) : digL (m + 1) v = digL m (v / 10) ++ [UInt8.ofNat (48 + v % 10)] := by
  unfold digL
  rw [List.range_succ, List.map_append]
  congr 1
  · refine List.map_congr_left fun t ht => ?_
    have ht' : t < m := List.mem_range.1 ht
    rw [show m + 1 - 1 - t = (m - 1 - t) + 1 by omega, Lib.dg_succ]
  · simp [Lib.dg]
theorem digT_snoc (m v d : Nat) (h : d < 10) : digT m v ++ ⟨#[UInt8.ofNat (48 + d)]⟩ = digT (m + 1) (v * 10 + d) := by
  apply ba_ext
  rw [ByteArray.data_append]
  show (((digL m v).toArray) ++ #[UInt8.ofNat (48 + d)]).toList = (digL (m + 1) (v * 10 + d)).toArray.toList
  rw [digL_succ, show (v * 10 + d) / 10 = v by omega, show (v * 10 + d) % 10 = d by omega]; simp
theorem digT_drop (m v k : Nat) : (digT m v).extract k m = digT (m - k) v := by
  apply ba_ext
  rw [ByteArray.data_extract, Array.toList_extract]
  show ((digL m v).toArray.toList.drop k).take (m - k) = (digL (m - k) v).toArray.toList
  rw [List.toList_toArray, List.toList_toArray]
  apply List.ext_getElem
  · simp [digL]
  · intro i h1 h2
    simp [digL] at h1 h2 ⊢
    congr 1; omega
theorem nDigits_of {m v : Nat} (h1 : v < 10 ^ m) (h2 : m = 1 ∨ (0 < m ∧ v / 10 ^ (m - 1) % 10 ≠ 0)) : Lib.nDigits v = m := by
  rcases h2 with rfl | ⟨h0, h2⟩
  · exact Lib.nDigits_small (by simpa using h1)
  · obtain ⟨k, rfl⟩ : ∃ k, m = k + 1 := ⟨m - 1, by omega⟩
    refine Lib.nDigits_unique k v ?_ h1
    rcases Nat.lt_or_ge v (10 ^ k) with h | h
    · rw [Nat.add_sub_cancel, Nat.div_eq_of_lt h] at h2; simp at h2
    · exact h
theorem digT_dec {m v : Nat} (h1 : v < 10 ^ m) (h2 : m = 1 ∨ (0 < m ∧ v / 10 ^ (m - 1) % 10 ≠ 0)) : digT m v = dec v := by
  unfold dec; rw [nDigits_of h1 h2]
theorem pow_le_dec {v : Nat} (h : 0 < v) : 10 ^ (Lib.nDigits v - 1) ≤ v := by
  induction v using Nat.strongRecOn with
  | _ v ih =>
    by_cases hv : v < 10
    · rw [Lib.nDigits_small hv]; simp; omega
    · rw [Lib.nDigits_big hv]
      have := ih (v / 10) (by omega) (by omega)
      have hp := Lib.nDigits_pos (v / 10)
      obtain ⟨k, hk⟩ : ∃ k, Lib.nDigits (v / 10) = k + 1 := ⟨Lib.nDigits (v / 10) - 1, by omega⟩
      rw [hk] at this ⊢
      simp only [Nat.add_sub_cancel] at this ⊢
      rw [Nat.pow_succ]; omega
theorem dec_top {v : Nat} (h : 0 < v) : v / 10 ^ (Lib.nDigits v - 1) % 10 ≠ 0 := by
  have h1 := pow_le_dec h
  have h2 := Lib.lt_pow_nDigits v
  have h3 := Lib.nDigits_pos v
  obtain ⟨k, hk⟩ : ∃ k, Lib.nDigits v = k + 1 := ⟨Lib.nDigits v - 1, by omega⟩
  rw [hk] at h1 h2 ⊢
  simp only [Nat.add_sub_cancel] at h1 ⊢
  rw [Nat.pow_succ] at h2
  have hp : 0 < 10 ^ k := Nat.pow_pos (by decide)
  have a1 : 0 < v / 10 ^ k := Nat.div_pos h1 hp
  have a2 : v / 10 ^ k < 10 := Nat.div_lt_of_lt_mul h2
  rw [Nat.mod_eq_of_lt a2]; omega
theorem nDigits_mono {a b : Nat} (h : a ≤ b) : Lib.nDigits a ≤ Lib.nDigits b := by
  by_cases ha : a = 0
  · subst ha; rw [Lib.nDigits_small (by decide)]; exact Lib.nDigits_pos b
  · have h1 := pow_le_dec (v := a) (by omega)
    have h2 := Lib.lt_pow_nDigits b
    have h3 : 10 ^ (Lib.nDigits a - 1) < 10 ^ Lib.nDigits b := by omega
    have h4 := (Nat.pow_lt_pow_iff_right (by decide)).1 h3
    omega
theorem nDigits_le {v m : Nat} (h : v < 10 ^ m) (hm : 0 < m) : Lib.nDigits v ≤ m := by
  by_cases hv : v = 0
  · subst hv; rw [Lib.nDigits_small (by decide)]; exact hm
  · have h1 := pow_le_dec (v := v) (by omega)
    have h3 : 10 ^ (Lib.nDigits v - 1) < 10 ^ m := by omega
    have h4 := (Nat.pow_lt_pow_iff_right (by decide)).1 h3
    omega
theorem high_zero {v j : Nat} (h : Lib.nDigits v ≤ j) : v / 10 ^ j = 0 := by
  apply Nat.div_eq_of_lt
  exact Nat.lt_of_lt_of_le (Lib.lt_pow_nDigits v) (Nat.pow_le_pow_right (by decide) h)

theorem dec_inj {a b : Nat} (h : dec a = dec b) : a = b := by
  induction a using Nat.strongRecOn generalizing b with
  | _ a ih =>
    have hs : Lib.nDigits a = Lib.nDigits b := by rw [← dec_size, ← dec_size, h]
    by_cases ha : a < 10
    · by_cases hb : b < 10
      · rw [dec_small ha, dec_small hb] at h
        have h := congrArg (fun x : ByteArray => x.data.toList) h
        simp at h
        have := congrArg UInt8.toNat h
        simp at this; omega
      · rw [Lib.nDigits_small ha, Lib.nDigits_big hb] at hs
        have := Lib.nDigits_pos (b / 10); omega
    · by_cases hb : b < 10
      · rw [Lib.nDigits_small hb, Lib.nDigits_big ha] at hs
        have := Lib.nDigits_pos (a / 10); omega
      · rw [dec_big ha, dec_big hb] at h
        have h := congrArg (fun x : ByteArray => x.data.toList) h
        simp [ByteArray.data_append] at h
        have e1 := ih (a / 10) (by omega) (b := b / 10) (ByteArray.ext h.1)
        have := congrArg UInt8.toNat h.2
        simp at this; omega
end Go.Siskin

namespace Go.Proofs.YtbbffhpppacihaaDoor
open Go.RowKit Go.Siskin

theorem ret_boolz {a b : Bool} (h : a = b) : Ending.returned (.bool a) = .returned (.bool b) := by rw [h]
theorem ret_intz {k : IntKind} {a b : Int} (h : a = b) : Ending.returned (.int k a) = .returned (.int k b) := by rw [h]
theorem ret_strz {a b : ByteArray} (h : a = b) : Ending.returned (.string a) = .returned (.string b) := by rw [h]

set_option maxHeartbeats 400000 in
theorem l11At_any (m v k : Nat) (w : World) (hm : m ≤ maxLen) (hk : k ≤ maxLen) (hv : v < 10 ^ m) :
    Calls Tryd.prog 86 #[.string (digT m v), .int .i64 k] w fun e w' => e = .returned (.int .i64 ((v / 10 ^ k % 10 : Nat) : Int)) ∧ w' = w := by
  have hsz := digT_size m v
  have hsz' : ((digT m v).size : Int) = m := by rw [hsz]
  unfold maxLen at hm hk
  have HV := hid hv
  clear hv
  by_cases h : m ≤ k
  · have HE : Hid (v / 10 ^ k % 10 = 0) := by
      show _ = _
      rw [Nat.div_eq_of_lt (Nat.lt_of_lt_of_le HV.out (Nat.pow_le_pow_right (by decide) h))]
    go_enter Tryd.func86, Tryd.ntmps86
    go_wp2_with fail
    go_ret
    exact ⟨ret_intz (by rw [HE.out]; rfl), rfl⟩
  · have hd := digT_nat m v (m - 1 - k) (by omega)
    rw [show m - 1 - (m - 1 - k) = k by omega] at hd
    have hlt : v / 10 ^ k % 10 < 10 := Nat.mod_lt _ (by decide)
    generalize hc : (digT m v)[m - 1 - k]'(by omega) = c at hd
    have HC := hid hc
    clear hc
    go_enter Tryd.func86, Tryd.ntmps86
    go_wp2_with fail
    go_ret
    refine ⟨ret_intz ?_, rfl⟩
    rw [HC.out, hd]; omega

set_option maxHeartbeats 400000 in
theorem l11Trim_any (m v : Nat) (w : World) (hm : m ≤ maxLen) (hm0 : 0 < m) (hv : v < 10 ^ m) :
    Calls Tryd.prog 62 #[.string (digT m v)] w fun e w' => e = .returned (.string (dec v)) ∧ w' = w := by
  have hsz := digT_size m v
  have hsz' : ((digT m v).size : Int) = m := by rw [hsz]
  unfold maxLen at hm
  have HV := hid hv
  clear hv
  go_enter Tryd.func62, Tryd.ntmps62
  go_wp2_with fail
  go_loop [3] (fun i => ∃ k : Nat, k < m ∧ i = .int .i64 k ∧ Hid (v < 10 ^ (m - k))) (fun i => m - (intOf i).toNat)
  case atStart => exact ⟨0, hm0, rfl, HV.out⟩
  case round =>
    obtain ⟨k, hk, rfl, HA⟩ := hrel
    have hd := digT_nat m v k (by omega)
    by_cases hlt : k + 1 < m
    · by_cases hz : v / 10 ^ (m - 1 - k) % 10 = 0
      · have hd2 : (((digT m v)[k]'(by omega)).toNat : Int) == 48 := by rw [hd, hz]; rfl
        have HN : Hid (v < 10 ^ (m - (k + 1))) := by
          show _ < _
          have h1 := HA.out
          rw [show m - k = (m - 1 - k) + 1 by omega, Nat.pow_succ] at h1
          have h2 : v / 10 ^ (m - 1 - k) < 10 := Nat.div_lt_of_lt_mul h1
          rw [Nat.mod_eq_of_lt h2] at hz
          rw [show m - (k + 1) = m - 1 - k by omega]
          rcases Nat.div_eq_zero_iff.1 hz with h | h
          · have := Nat.pow_pos (n := m - 1 - k) (show 0 < 10 by decide); omega
          · exact h
        clear hd
        go_wp2_with fail
        go_round
        case rel => exact ⟨k + 1, by omega, by go_num, HN⟩
        case measure => simp [intOf]; omega
      · have hd2 : ((((digT m v)[k]'(by omega)).toNat : Int) == 48) = false := by
          rw [hd, beq_eq_false_iff_ne]
          generalize v / 10 ^ (m - 1 - k) % 10 = x at hz
          omega
        have HN : Hid ((digT m v).extract k m = dec v) := by
          show _ = _
          rw [digT_drop]
          exact digT_dec HA.out (Or.inr ⟨by omega, by rw [show m - k - 1 = m - 1 - k by omega]; exact hz⟩)
        clear hd
        go_wp2_with fail
        go_ret
        exact ⟨ret_strz HN.out, rfl⟩
    · have HN : Hid ((digT m v).extract k m = dec v) := by
        show _ = _
        rw [digT_drop]
        exact digT_dec HA.out (Or.inl (by omega))
      clear hd
      go_wp2_with fail
      go_ret
      exact ⟨ret_strz HN.out, rfl⟩
end Go.Proofs.YtbbffhpppacihaaDoor

namespace Go.Proofs.YtbbffhpppacihaaDoor
open Go.RowKit Go.Siskin

theorem Tryd.infoByteZ : (Tryd.prog.info? 5).map (fun i => (i.zero, i.size, i.bytes)) = some (some (.int .u8 0), 1, 1) := by kernel_rfl
theorem info_partsZ {P : Program} {t : TypeId} {z : Option Value} {s b : Nat} (h : (P.info? t).map (fun i => (i.zero, i.size, i.bytes)) = some (z, s, b)) : ∃ i, P.info? t = some i ∧ i.zero = z ∧ i.size = s ∧ i.bytes = b := by
  obtain ⟨i, hi, he⟩ := Option.map_eq_some_iff.1 h
  simp only [Prod.mk.injEq] at he
  exact ⟨i, hi, he.1, he.2.1, he.2.2⟩

/-- Digits from the right. -/
def lowD : List Nat → Nat
  | [] => 0
  | d :: r => d + 10 * lowD r
def OkD (ds : List Nat) : Prop := ∀ d ∈ ds, d < 10
theorem lowD_lt : ∀ ds : List Nat, OkD ds → lowD ds < 10 ^ ds.length
  | [], _ => by simp [lowD]
  | d :: r, h => by
    have h1 := lowD_lt r (fun x hx => h x (List.mem_cons_of_mem _ hx))
    have h2 := h d (List.mem_cons_self ..)
    rw [lowD, List.length_cons, Nat.pow_succ]; omega
theorem lowD_append : ∀ (ds : List Nat) (x : Nat), lowD (ds ++ [x]) = lowD ds + x * 10 ^ ds.length
  | [], x => by simp [lowD]
  | d :: r, x => by
    rw [List.cons_append, lowD, lowD_append r x, lowD, List.length_cons, Nat.pow_succ, Nat.mul_add, Nat.mul_comm (10 ^ r.length) 10, ← Nat.mul_assoc, ← Nat.mul_assoc, Nat.mul_comm 10 x]; omega
theorem lowD_get : ∀ (ds : List Nat) (k : Nat) (h : k < ds.length), OkD ds → lowD ds / 10 ^ k % 10 = ds[k]
  | d :: r, 0, _, h => by
    have := h d (List.mem_cons_self ..)
    simp [lowD]; omega
  | d :: r, k + 1, hk, h => by
    have h0 := h d (List.mem_cons_self ..)
    have h1 := lowD_get r k (by simpa using hk) (fun x hx => h x (List.mem_cons_of_mem _ hx))
    rw [lowD, Nat.pow_succ, Nat.mul_comm (10 ^ k) 10, ← Nat.div_div_eq_div_mul, show (d + 10 * lowD r) / 10 = lowD r by omega, h1]; rfl

theorem conv_dig (W : World) (g cap : Nat) (l : List UInt8) (cs : Array Value) (e : TypeId) (ho : Own W g e cs) (hl : ∀ j (h : j < l.length), cs[j]? = some (.int .u8 (l[j].toNat : Int))) :
    (convert 34 9 (.slice (some ⟨g, 0, none⟩) l.length cap)).run Tryd.prog W = .ok (.string ⟨l.toArray⟩) W :=
  run_convert_bytes_back (P := Tryd.prog) W 34 9 5 ⟨g, 0, none⟩ cap l Tryd.underlying34 Tryd.underlying5 Tryd.underlying9 (fun j hj => by
    have h := ho.cell j
    rw [show (⟨g, 0, none⟩ : Addr).add j = ⟨g, j, none⟩ by unfold Addr.add; split <;> simp_all]
    exact h.trans (hl j hj))

set_option maxRecDepth 20000 in
set_option maxHeartbeats 1000000 in
theorem l11Text_any (ds : List Nat) (B : Nat → Prop) (va : Value) (w : World) (ha : IntsAt B w va (ds.map fun d : Nat => (d : Int))) (hB : ∀ b, B b → b < w.heap.size) (hn : ds.length ≤ 1048576) (hd : OkD ds) :
    Calls Tryd.prog 87 #[va] w fun e w' => e = .returned (.string (dec (lowD ds))) ∧ Below w.heap.size w w' := by
  obtain ⟨a, ca, rfl, hla, ha⟩ := ha
  rw [List.length_map] at *
  obtain ⟨i, hi, hz0, hz1, hz2⟩ := info_partsZ Tryd.infoByteZ
  have Hi := hid hi
  have Hz0 := hid hz0
  have Hz1 := hid hz1
  have Hz2 := hid hz2
  have HD := hid hd
  have HBB := hid hB
  clear hi hz0 hz1 hz2 hla hd hB
  generalize hL : ds.length = L at *
  go_enter Tryd.func87, Tryd.ntmps87
  go_wp2_with (at_make; refine wpList_make_new _ rfl _ _ 34 rfl 5 i (.int .u8 0) 1 Tryd.underlying34 Hi.out Hz0.out Hz1.out .i64 .i64 L rfl rfl (by rw [Hz2.out]; omega) (by unfold maxLen; omega) ?_)
  go_loopw [4] (fun i wr => ∃ k : Nat, k ≤ L ∧ i = .int .i64 k ∧ Hid (∃ cs : Array Value, Own wr w.heap.size 5 cs ∧ cs.size = L ∧ (∀ j, L - k ≤ j → j < L → cs[j]? = some (.int .u8 ((Lib.dg (lowD ds) (L - 1 - j)).toNat : Int))) ∧ Below w.heap.size w wr)) (fun i _ => L - (intOf i).toNat)
  case atStart => exact ⟨0, Nat.zero_le _, rfl, _, own_new _ _ _, by simp [size_madeCells], fun j h1 h2 => absurd h2 (by omega), (Below.refl _ _).alloc (Nat.le_refl _) _⟩
  case round =>
    obtain ⟨k, hk, rfl, HA⟩ := hrel
    obtain ⟨cs, ho, hcs, hgot, hbel⟩ := HA.out
    have HO := hid ho
    have HG := hid hgot
    have HB := hid hbel
    have HCS := hid hcs
    by_cases hlt : k < L
    · rcases ha with ha | ⟨ba, oa, rfl, hb, ha⟩
      · have := List.map_eq_nil_iff.1 ha; subst this; simp at hL; omega
      have hk' : k < ds.length := by omega
      have ga := (hbel.cell (p := ⟨ba, oa + k, none⟩) (HBB.out ba hb)).trans (ha k hlt)
      rw [show (ds.map fun d : Nat => (d : Int)).getD k 0 = (ds[k] : Int) by simp [List.getD_eq_getElem?_getD, hk']] at ga
      have gc := ho.cell (L - 1 - k)
      rw [Array.getElem?_eq_getElem (by omega)] at gc
      have gf := ho.frozen (L - 1 - k)
      have hdk : ds[k] < 10 := HD.out _ (List.getElem_mem hk')
      have HX : Hid (lowD ds / 10 ^ k % 10 = ds[k]) := lowD_get ds k hk' HD.out
      generalize ds[k] = x at *
      generalize hgd : cs[L - 1 - k] = old at gc
      clear ha HA ho hgot hbel hcs hgd
      go_wp2_with fail
      refine ⟨⟨k + 1, by omega, by go_num, _, HO.out.set (L - 1 - k) _, by simp [HCS.out], ?_, HB.out.setCell (Nat.le_refl _) _⟩, by simp [intOf]; omega⟩
      intro j h1 h2
      by_cases e : j = L - 1 - k
      · subst e
        rw [Array.getElem?_setIfInBounds, if_pos rfl, if_pos (by rw [HCS.out]; omega), show L - 1 - (L - 1 - k) = k by omega, dg_nat, HX.out]
        congr 2 <;> omega
      · rw [Array.getElem?_setIfInBounds, if_neg (by omega)]; exact HG.out j (by omega) h2
    · clear HA ho hgot hbel hcs
      obtain rfl : k = L := by omega
      by_cases h0 : k = 0
      · subst h0
        have : ds = [] := List.length_eq_zero_iff.1 hL
        subst this
        have HZ : Hid ((⟨#[48]⟩ : ByteArray) = dec (lowD [])) := by show _ = _; rw [dec_small (by simp [lowD])]; rfl
        go_wp2_with fail
        go_ret
        exact ⟨ret_strz HZ.out, HB.out⟩
      · have h0' : ((k : Int) == 0) = false := by rw [beq_eq_false_iff_ne]; omega
        have hcv := conv_dig wr w.heap.size k (digL k (lowD ds)) cs 5 HO.out (fun j h => by
          rw [digL_length] at h
          rw [HG.out j (by omega) h]
          simp [digL])
        rw [digL_length] at hcv
        have HT := hid (l11Trim_any k (lowD ds) wr (by unfold maxLen; omega) (by omega) (by rw [← hL]; exact lowD_lt ds HD.out))
        have hcv' : (convert 34 9 (.slice (some ⟨w.heap.size, 0, none⟩) k k)).run Tryd.prog wr = .ok (.string (digT k (lowD ds))) wr := hcv
        clear hcv
        go_wp2_with (go_at_call 62; refine HT.out.mono ?_; rintro e w' ⟨rfl, rfl⟩)
        go_ret
        exact ⟨rfl, HB.out⟩
end Go.Proofs.YtbbffhpppacihaaDoor

namespace Go.Proofs.YtbbffhpppacihaaDoor
open Go.RowKit Go.Siskin

theorem conv_one (W : World) (b : Nat) (x : Int) (c : UInt8) (hc : (c.toNat : Int) = x) (hg : W.cell? ⟨b, 0, none⟩ = some (.int .u8 x)) :
    (convert 34 9 (.slice (some ⟨b, 0, none⟩) 1 1)).run Tryd.prog W = .ok (.string ⟨#[c]⟩) W :=
  run_convert_bytes_back (P := Tryd.prog) W 34 9 5 ⟨b, 0, none⟩ 1 [c] Tryd.underlying34 Tryd.underlying5 Tryd.underlying9 (fun j hj => by
    simp at hj; subst hj
    rw [show (⟨b, 0, none⟩ : Addr).add 0 = ⟨b, 0, none⟩ by simp [Addr.add], hg]
    simp [hc])
theorem cell_newz (w : World) (v : Value) (e : TypeId) : (w.alloc (.cells #[v] e)).cell? ⟨w.heap.size, 0, none⟩ = some v := (own_new w #[v] e).cell 0

set_option maxRecDepth 20000 in
set_option maxHeartbeats 1000000 in
theorem l11Small_any (n : Nat) : ∀ (w : World) (_ : n ≤ 9223372036854775807),
    Calls Tryd.prog 114 #[.int .i64 n] w fun e w' => e = .returned (.string (dec n)) ∧ Below w.heap.size w w' := by
  induction n using Nat.strongRecOn with
  | _ n ih =>
    intro w hn
    by_cases h : n < 10
    · obtain ⟨c, hc⟩ : ∃ c : UInt8, c = UInt8.ofNat (48 + n) := ⟨_, rfl⟩
      have hcn : (c.toNat : Int) = 48 + (n : Int) := by rw [hc]; simp; omega
      have hcv := conv_one (w.alloc (.cells #[.int .u8 (48 + (n : Int))] 5)) w.heap.size (48 + n) c hcn (cell_newz w _ _)
      have HD : Hid ((⟨#[c]⟩ : ByteArray) = dec n) := by show _ = _; rw [hc, dec_small h]
      clear hc hcn
      go_enter Tryd.func114, Tryd.ntmps114
      go_wp2_with fail
      go_ret
      exact ⟨ret_strz HD.out, (Below.refl _ _).alloc (Nat.le_refl _) _⟩
    · have HI : Hid (∀ w, Calls Tryd.prog 114 #[.int .i64 ((n : Int) / 10)] w fun e w' => e = .returned (.string (dec (n / 10))) ∧ Below w.heap.size w w') := by
        show ∀ w, _
        intro w
        rw [show (n : Int) / 10 = ((n / 10 : Nat) : Int) by omega]
        exact ih (n / 10) (by omega) w (by omega)
      obtain ⟨c, hc⟩ : ∃ c : UInt8, c = UInt8.ofNat (48 + n % 10) := ⟨_, rfl⟩
      have HD : Hid (dec (n / 10) ++ (⟨#[c]⟩ : ByteArray) = dec n) := by show _ = _; rw [hc, dec_big h]
      have HC : Hid ((c.toNat : Int) = 48 + ((n % 10 : Nat) : Int)) := by show _ = _; rw [hc]; simp; omega
      have hwr : IntKind.i64.wrap ((n : Int) / 10) = (n : Int) / 10 := by simp [IntKind.wrap, IntKind.bits, IntKind.signed]; omega
      clear ih hc
      go_enter Tryd.func114, Tryd.ntmps114
      go_wp2_with fail
      have hcv : ∀ (W : World) (b : Nat), W.cell? ⟨b, 0, none⟩ = some (.int .u8 (48 + (n : Int) % 10)) → (convert 34 9 (.slice (some ⟨b, 0, none⟩) 1 1)).run Tryd.prog W = .ok (.string ⟨#[c]⟩) W := fun W b h => conv_one W b _ c (by rw [HC.out]; omega) h
      have hx : IntKind.u8.wrap (IntKind.i64.wrap (48 + (n : Int).tmod 10)) = 48 + (n : Int) % 10 := by
        rw [Int.tmod_eq_emod_of_nonneg (by omega)]
        simp [IntKind.wrap, IntKind.bits, IntKind.signed]; omega
      have hds : (dec (n / 10)).size ≤ 20 := by rw [dec_size]; exact nDigits_le (by omega) (by omega)
      go_region_with (first
        | (go_at_call 114
           go_loud (
            refine (HI.out _).mono ?_
            rintro e w1 ⟨rfl, hb⟩
            have q := bcell hb
            have s1 := hb.size
            have HB := hid hb
            clear hb)))
      all_goals go_wp2_with fail
      all_goals go_ret
      · exact ⟨ret_strz HD.out, ((Below.refl w.heap.size w).drew.trans HB.out).alloc (by have : w.heap.size ≤ w1.heap.size := s1; omega) _⟩
      all_goals exact ⟨ret_strz HD.out, (((Below.refl w.heap.size w).alloc (Nat.le_refl _) _).drew.trans (HB.out.mono (by simp)))⟩
end Go.Proofs.YtbbffhpppacihaaDoor
