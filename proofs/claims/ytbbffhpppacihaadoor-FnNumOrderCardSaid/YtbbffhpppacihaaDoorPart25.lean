/-
  The drawing reader: pick tells a number below a bound, of tells one of a list of texts, l11Open makes a reader. Condition: the reader and its bytes lie in memory apart, and it has not picked too often.
  The drawing reader of the numbers: pick, of, l11Open. Condition: the reader and its bytes lie in memory apart, and it has not picked too often.
  The drawing of digits, l16Digits. Condition: the reader and its bytes lie in memory apart, and it has not picked too often.
  The drawing of a number, l16Num. Condition: the reader and its bytes lie in memory apart, and it has not picked too often.
  The model's l11Many: a text so many times; only how long it is. Condition: a short text, at most 100 times.
-/
import Derived.Test.YtbbffhpppacihaaDoorPart23
import Derived.Test.YtbbffhpppacihaaDoorPart24
import Derived.BigQuiet
import Derived.Maps.AppendAt
import Derived.Deep.AppendLies
import Derived.Test.YtbbffhpppacihaaDoorPart1
import Derived.Test.YtbbffhpppacihaaDoorPart12
import Derived.Test.YtbbffhpppacihaaDoorPart17
namespace Go.Proofs.YtbbffhpppacihaaDoor
open Go.RowKit Go.Siskin

/-- Bytes that lie in blocks of R. -/
def BytesAt (R : Nat → Prop) (w : World) (v : Value) (n : Nat) : Prop :=
  ∃ a cap, v = .slice a n cap ∧ (n ≤ cap ∧ cap ≤ maxLen) ∧ (n = 0 ∨ ∃ b o, a = some ⟨b, o, none⟩ ∧ R b ∧ ∀ i, i < n → ∃ x : Nat, x < 256 ∧ w.cell? ⟨b, o + i, none⟩ = some (.int .u8 x))
theorem BytesAt.keep {R : Nat → Prop} {w w' : World} {v : Value} {n : Nat} (h : BytesAt R w v n) (hb : SameOn R w w') : BytesAt R w' v n := by
  obtain ⟨a, cap, e, hl, h⟩ := h
  refine ⟨a, cap, e, hl, ?_⟩
  rcases h with h | ⟨b, o, e, hB, h⟩
  · exact Or.inl h
  · refine Or.inr ⟨b, o, e, hB, fun i hi => ?_⟩
    obtain ⟨x, hx, hc⟩ := h i hi
    exact ⟨x, hx, (hb.cell hB (o + i)).trans hc⟩

/-- Behind picks: all is as it was but the reader's block rb, which has picked p times, and what is new. -/
def Picked (rb : Nat) (v : Value) (w w' : World) (p : Nat) : Prop := w.grownBy w' (some rb) ∧ Own w' rb 132 #[v, .int .i64 p]

theorem picked_one {w : World} {rb p : Nat} {v : Value} (ho : Own w rb 132 #[v, .int .i64 p]) : Picked rb v w (w.setCell ⟨rb, 1, none⟩ (.int .i64 ((p : Int) + 1))) (p + 1) := by
  refine ⟨⟨rfl, rfl, rfl, by simp, fun i _ hne => Below.heap_setCell w _ _ i fun e => hne (congrArg some e)⟩, ?_⟩
  have h := ho.set 1 (.int .i64 ((p : Int) + 1))
  simpa using h

theorem picked_draw {rb : Nat} {v : Value} {w w' : World} {p : Nat} (h : Picked rb v w w' p) (n : Nat) : Picked rb v w (w'.drewN n) p := ⟨⟨h.1.os, h.1.tape, h.1.output, h.1.size, h.1.block⟩, h.2⟩

theorem bits_xor_i64 (a b : Nat) (ha : a < 4611686018427387904) (hb : b < 4611686018427387904) : bits .xor .i64 (a : Int) (b : Int) = ((a ^^^ b : Nat) : Int) := by
  have hx : a ^^^ b < 2 ^ 62 := Nat.xor_lt_two_pow (by omega) (by omega)
  have h1 : (BitVec.ofInt 64 (a : Int)).toNat = a := by
    rw [BitVec.ofInt_natCast, BitVec.toNat_ofNat]; exact Nat.mod_eq_of_lt (by omega)
  have h2 : (BitVec.ofInt 64 (b : Int)).toNat = b := by
    rw [BitVec.ofInt_natCast, BitVec.toNat_ofNat]; exact Nat.mod_eq_of_lt (by omega)
  show IntKind.i64.wrap ((BitVec.ofInt 64 (a : Int) ^^^ BitVec.ofInt 64 (b : Int)).toNat : Int) = _
  rw [BitVec.toNat_xor, h1, h2]
  simp [IntKind.wrap, IntKind.bits, IntKind.signed]
  omega

set_option maxRecDepth 20000 in
set_option maxHeartbeats 1000000 in
theorem pick_any (R : Nat → Prop) (w : World) (rb n p k : Nat) (v : Value) (hv : BytesAt R w v n) (hn : n ≤ 2000) (hr : ¬ R rb) (ho : Own w rb 132 #[v, .int .i64 p]) (hp : p ≤ 1000000) (hk : 1 ≤ k) (hk2 : k ≤ 1000) :
    Calls Tryd.prog 76 #[.pointer (some ⟨rb, 0, none⟩), .int .i64 k] w fun e w' => ∃ m : Nat, m < k ∧ e = .returned (.int .i64 m) ∧ Picked rb v w w' (p + 1) ∧ w'.heap.size = w.heap.size := by
  obtain ⟨a, cap, rfl, -, hv⟩ := hv
  have q0 := ho.cell 0
  have q1 := ho.cell 1
  have f1 := ho.frozen 1
  simp at q0 q1
  have HO := hid ho
  clear ho
  have hk' : ¬ (k : Int) < 1 := by omega
  have hk0 : (k : Int) ≠ 0 := by omega
  by_cases h0 : n = 0
  · subst h0
    go_enter Tryd.func76, Tryd.ntmps76
    go_wp2_with fail
    go_ret
    exact ⟨0, by omega, rfl, picked_one HO.out, by simp⟩
  · rcases hv with hv | ⟨b, o, rfl, hb, hv⟩
    · exact absurd hv h0
    have hne : b ≠ rb := fun e => hr (e ▸ hb)
    by_cases hlt : p < n
    · obtain ⟨x, hx, gx⟩ := hv p hlt
      go_enter Tryd.func76, Tryd.ntmps76
      go_wp2_with fail
      go_ret
      exact ⟨x % k, Nat.mod_lt _ (by omega), by simp, picked_one HO.out, by simp⟩
    · obtain ⟨x, hx, gx⟩ := hv (p % n) (Nat.mod_lt _ (by omega))
      obtain ⟨y, hy, gy⟩ := hv ((p * 7 + 3) % n) (Nat.mod_lt _ (by omega))
      have e1 : (p : Int) % (n : Int) = ((p % n : Nat) : Int) := by simp
      have e2 : ((p : Int) * 7 + 3) % (n : Int) = (((p * 7 + 3) % n : Nat) : Int) := by simp
      have m1 : p % n < n := Nat.mod_lt _ (by omega)
      have m2 : (p * 7 + 3) % n < n := Nat.mod_lt _ (by omega)
      have e3 : (p : Int) / (n : Int) = ((p / n : Nat) : Int) := by simp
      have m3 : p / n ≤ p := Nat.div_le_self _ _
      generalize p % n = i1 at *
      generalize (p * 7 + 3) % n = i2 at *
      generalize p / n = i3 at *
      go_enter Tryd.func76, Tryd.ntmps76
      go_wp2_with fail
      go_quiet (fail)
      obtain ⟨X, hX, hXl⟩ : ∃ X : Nat, ((x : Int) * 131 + (y : Int) * 1117 + (p : Int) * 29 + (i3 : Int) * 53) = (X : Int) ∧ X < 1000000000 := ⟨x * 131 + y * 1117 + p * 29 + i3 * 53, by omega, by omega⟩
      rw [hX]
      have hq : (X : Int) / 64 = ((X / 64 : Nat) : Int) := by omega
      have hbx : bits .xor .i64 (X : Int) ((X / 64 : Nat) : Int) = ((X ^^^ X / 64 : Nat) : Int) := bits_xor_i64 _ _ (by omega) (by omega)
      have hz : X ^^^ X / 64 < 2 ^ 30 := Nat.xor_lt_two_pow (by omega) (by omega)
      generalize X / 64 = Y at *
      generalize X ^^^ Y = Z at *
      clear hX
      go_wp2_with fail
      go_ret
      exact ⟨Z % k, Nat.mod_lt _ (by omega), by simp, picked_draw (picked_one HO.out) _, by simp⟩

end Go.Proofs.YtbbffhpppacihaaDoor

namespace Go.Proofs.YtbbffhpppacihaaDoor
open Go.RowKit Go.Siskin

/-- A reader: its block apart from the bytes that it reads, not too often used. -/
structure RdAt (R : Nat → Prop) (w : World) (rb n p : Nat) (v : Value) : Prop where
  bytes : BytesAt R w v n
  len : n ≤ 2000
  off : ¬ R rb
  low : ∀ b, R b → b < w.heap.size
  own : Own w rb 132 #[v, .int .i64 p]
  few : p ≤ 1000000

theorem RdAt.picked {R : Nat → Prop} {w w' : World} {rb n p q : Nat} {v : Value} (h : RdAt R w rb n p v) (hp : Picked rb v w w' q) (hq : q ≤ 1000000) : RdAt R w' rb n q v :=
  ⟨h.bytes.keep fun b hb => hp.1.block b (h.low b hb) fun e => h.off (by cases e; exact hb), h.len, h.off, fun b hb => Nat.lt_of_lt_of_le (h.low b hb) hp.1.size, hp.2, hq⟩
theorem Picked.trans {rb : Nat} {v : Value} {a b c : World} {p q : Nat} (h : Picked rb v a b p) (k : Picked rb v b c q) : Picked rb v a c q := ⟨h.1.trans k.1, k.2⟩
/-- Over what is new. -/
theorem Picked.below {rb : Nat} {v : Value} {a b c : World} {p : Nat} (h : Picked rb v a b p) {N : Nat} (k : Below N b c) (hN : a.heap.size ≤ N) (hr : rb < a.heap.size) : Picked rb v a c p :=
  ⟨⟨k.os.trans h.1.os, k.tape.trans h.1.tape, k.output.trans h.1.output, Nat.le_trans h.1.size k.size, fun i hi hne => (k.block i (by omega)).trans (h.1.block i hi hne)⟩, h.2.keep k (by omega)⟩
theorem RdAt.now {R : Nat → Prop} {w : World} {rb n p : Nat} {v : Value} (h : RdAt R w rb n p v) : Picked rb v w w p := ⟨World.grownBy.refl _ _, h.own⟩
theorem RdAt.below {R : Nat → Prop} {w w' : World} {rb n p : Nat} {v : Value} (h : RdAt R w rb n p v) (k : Below w.heap.size w w') : RdAt R w' rb n p v := h.picked (h.now.below k (Nat.le_refl _) h.own.lt) h.few
theorem RdAt.alloc {R : Nat → Prop} {w : World} {rb n p : Nat} {v : Value} (h : RdAt R w rb n p v) (o : Obj) : RdAt R (w.alloc o) rb n p v := h.below ((Below.refl _ _).alloc (Nat.le_refl _) _)

theorem _root_.Go.Siskin.Own.more {w : World} {g : Nat} {e : TypeId} {cs : Array Value} (h : Own w g e cs) (hg : g < w.heap.size) (o : Obj) : Own (w.alloc o) g e cs := h.keep ((Below.refl w.heap.size w).alloc (Nat.le_refl _) _) hg
theorem _root_.Go.Siskin.Own.picked {w w' : World} {g : Nat} {e : TypeId} {cs : Array Value} (h : Own w g e cs) {rb q : Nat} {v : Value} (hp : Picked rb v w w' q) (hg : g ≠ rb) : Own w' g e cs := (hp.1.block g h.lt fun e => hg (by cases e; rfl)).trans h

theorem _root_.Go.Siskin.Own.far {w w' : World} {g : Nat} {e : TypeId} {cs : Array Value} (h : Own w g e cs) {row : Option Nat} (hg : w.grownBy w' row) (hne : some g ≠ row) : Own w' g e cs := (hg.block g h.lt hne).trans h
theorem RdAt.far {R : Nat → Prop} {w w' : World} {rb n p : Nat} {v : Value} (h : RdAt R w rb n p v) {row : Option Nat} (hg : w.grownBy w' row) (hr : ∀ g, row = some g → ¬ R g ∧ g ≠ rb) : RdAt R w' rb n p v :=
  ⟨h.bytes.keep fun b hb => hg.block b (h.low b hb) fun e => (hr b e.symm).1 hb, h.len, h.off, fun b hb => Nat.lt_of_lt_of_le (h.low b hb) hg.size, h.own.far hg fun e => (hr rb e.symm).2 rfl, h.few⟩
theorem Picked.far {rb : Nat} {v : Value} {a b c : World} {p : Nat} (h : Picked rb v a b p) {row : Option Nat} (hg : b.grownBy c row) (hr : ∀ g, row = some g → a.heap.size ≤ g) (hrb : rb < a.heap.size) : Picked rb v a c p :=
  ⟨⟨hg.os.trans h.1.os, hg.tape.trans h.1.tape, hg.output.trans h.1.output, Nat.le_trans h.1.size hg.size, fun i hi hne => (hg.block i (Nat.lt_of_lt_of_le hi h.1.size) fun e => by have := hr i e.symm; omega).trans (h.1.block i hi hne)⟩, h.2.far hg fun e => by have := hr rb e.symm; omega⟩
theorem grown_set (w : World) (g i : Nat) (x : Value) : w.grownBy (w.setCell ⟨g, i, none⟩ x) (some g) :=
  ⟨rfl, rfl, rfl, by simp, fun j _ hne => Below.heap_setCell w _ _ j fun e => hne (congrArg some e)⟩

/-- Five cells, written one by one. -/
def wr5 (w : World) (g : Nat) (c0 c1 c2 c3 c4 : Value) : World := ((((w.setCell ⟨g, 0, none⟩ c0).setCell ⟨g, 1, none⟩ c1).setCell ⟨g, 2, none⟩ c2).setCell ⟨g, 3, none⟩ c3).setCell ⟨g, 4, none⟩ c4
theorem wr5_grown (w : World) (g : Nat) (c0 c1 c2 c3 c4 : Value) : w.grownBy (wr5 w g c0 c1 c2 c3 c4) (some g) :=
  ((((grown_set w g 0 c0).trans (grown_set _ g 1 c1)).trans (grown_set _ g 2 c2)).trans (grown_set _ g 3 c3)).trans (grown_set _ g 4 c4)
theorem wr5_size (w : World) (g : Nat) (c0 c1 c2 c3 c4 : Value) : (wr5 w g c0 c1 c2 c3 c4).heap.size = w.heap.size := by simp [wr5]

theorem pick_rd {R : Nat → Prop} {w : World} {rb n p : Nat} {v : Value} (h : RdAt R w rb n p v) (k : Nat) (hk : 1 ≤ k) (hk2 : k ≤ 1000) :
    Calls Tryd.prog 76 #[.pointer (some ⟨rb, 0, none⟩), .int .i64 k] w fun e w' => ∃ m : Nat, m < k ∧ e = .returned (.int .i64 m) ∧ Picked rb v w w' (p + 1) ∧ w'.heap.size = w.heap.size :=
  pick_any R w rb n p k v h.bytes h.len h.off h.own h.few hk hk2

set_option maxHeartbeats 1000000 in
theorem of_rd {R : Nat → Prop} {w : World} {rb n p : Nat} {v : Value} (h : RdAt R w rb n p v) (lb : Nat) (ss : List ByteArray) (h1 : 1 ≤ ss.length) (h2 : ss.length ≤ 100) (hl : lb ≠ rb) (hlt : lb < w.heap.size) (hc : ∀ (i : Nat) (hi : i < ss.length), w.cell? ⟨lb, i, none⟩ = some (.string ss[i])) :
    Calls Tryd.prog 111 #[.pointer (some ⟨rb, 0, none⟩), .slice (some ⟨lb, 0, none⟩) ss.length ss.length] w fun e w' => ∃ s, s ∈ ss ∧ e = .returned (.string s) ∧ Picked rb v w w' (p + 1) ∧ w'.heap.size = w.heap.size := by
  have HR := hid h
  clear h
  go_enter Tryd.func111, Tryd.ntmps111
  go_wp2_with (go_at_call 76; refine (pick_rd HR.out ss.length h1 (by omega)).mono ?_; rintro e w1 ⟨m, hm, rfl, hp, hs⟩; have hcell := (World.cell?_of_block (w := w) (hp.1.block lb hlt (fun e => hl (by cases e; rfl))) : w1.cell? ⟨lb, m, none⟩ = _).trans (hc m hm); have HP := hid hp; clear hp)
  go_ret
  exact ⟨ss[m], List.getElem_mem hm, rfl, HP.out, hs⟩

set_option maxHeartbeats 1000000 in
theorem l11Open_any (R : Nat → Prop) (w : World) (n : Nat) (v : Value) (hv : BytesAt R w v n) (hn : n ≤ 1048576) (hR : ∀ b, R b → b < w.heap.size) :
    Calls Tryd.prog 74 #[v] w fun e w' => ∃ n' v', e = .returned (.pointer (some ⟨w.heap.size, 0, none⟩)) ∧ RdAt R w' w.heap.size n' 0 v' ∧ Below w.heap.size w w' := by
  obtain ⟨a, cap, rfl, ⟨hl1, hl2⟩, h⟩ := hv
  have HR := hid hR
  clear hR
  by_cases hb : 2000 < n
  · rcases h with h | ⟨b, o, rfl, hB, h⟩
    · omega
    have HC := hid h
    have hl3 := hl2
    unfold maxLen at hl3
    clear h
    go_enter Tryd.func74, Tryd.ntmps74
    go_wp2_with fail
    go_ret
    refine ⟨2000, .slice (some ⟨b, o, none⟩) 2000 cap, rfl, ⟨BytesAt.keep (w := w) ⟨_, cap, rfl, ⟨by omega, hl2⟩, Or.inr ⟨b, o, rfl, hB, fun i hi => HC.out i (by omega)⟩⟩ ((SameOn.refl _ _).alloc HR.out _), by omega, fun h => by have := HR.out _ h; omega, fun b hb => by have := HR.out b hb; simp; omega, own_new _ _ _, by omega⟩, (Below.refl _ _).alloc (Nat.le_refl _) _⟩
  · have HC := hid h
    clear h
    go_enter Tryd.func74, Tryd.ntmps74
    go_wp2_with fail
    go_ret
    refine ⟨n, .slice a n cap, rfl, ⟨BytesAt.keep ⟨a, cap, rfl, ⟨hl1, hl2⟩, HC.out⟩ ((SameOn.refl _ _).alloc HR.out _), by omega, fun h => by have := HR.out _ h; omega, fun b hb => by have := HR.out b hb; simp; omega, own_new _ _ _, by omega⟩, (Below.refl _ _).alloc (Nat.le_refl _) _⟩
end Go.Proofs.YtbbffhpppacihaaDoor

namespace Go.Proofs.YtbbffhpppacihaaDoor
open Go.RowKit Go.Siskin

theorem grown_of_below {w w' : World} (h : Below w.heap.size w w') (row : Option Nat) : w.grownBy w' row := ⟨h.os, h.tape, h.output, h.size, fun i hi _ => h.block i hi⟩

/-- The list that a few are drawn of. -/
abbrev fewL : List ByteArray := [⟨#[48]⟩, ⟨#[49]⟩, ⟨#[50]⟩, ⟨#[49, 48]⟩, ⟨#[49, 48, 48]⟩, ⟨#[57, 57, 57]⟩, ⟨#[49, 48, 48, 48]⟩]
theorem few_dec {s : ByteArray} (h : s ∈ fewL) : ∃ x, s = dec x ∧ Lib.nDigits x ≤ 60 := by
  have e0 : dec 0 = ⟨#[48]⟩ := dec_small (by decide)
  have e1 : dec 1 = ⟨#[49]⟩ := dec_small (by decide)
  have e2 : dec 2 = ⟨#[50]⟩ := dec_small (by decide)
  have e9 : dec 9 = ⟨#[57]⟩ := dec_small (by decide)
  have e10 : dec 10 = ⟨#[49, 48]⟩ := by rw [dec_big (by decide), show 10 / 10 = 1 from rfl, e1]; rfl
  have e99 : dec 99 = ⟨#[57, 57]⟩ := by rw [dec_big (by decide), show 99 / 10 = 9 from rfl, e9]; rfl
  have e100 : dec 100 = ⟨#[49, 48, 48]⟩ := by rw [dec_big (by decide), show 100 / 10 = 10 from rfl, e10]; rfl
  have e999 : dec 999 = ⟨#[57, 57, 57]⟩ := by rw [dec_big (by decide), show 999 / 10 = 99 from rfl, e99]; rfl
  have e1000 : dec 1000 = ⟨#[49, 48, 48, 48]⟩ := by rw [dec_big (by decide), show 1000 / 10 = 100 from rfl, e100]; rfl
  have hd : ∀ x, x < 10000 → Lib.nDigits x ≤ 60 := fun x h => Nat.le_trans (nDigits_le (m := 4) h (by decide)) (by decide)
  simp only [List.mem_cons, List.not_mem_nil, or_false] at h
  rcases h with rfl | rfl | rfl | rfl | rfl | rfl | rfl
  · exact ⟨0, e0.symm, hd _ (by decide)⟩
  · exact ⟨1, e1.symm, hd _ (by decide)⟩
  · exact ⟨2, e2.symm, hd _ (by decide)⟩
  · exact ⟨10, e10.symm, hd _ (by decide)⟩
  · exact ⟨100, e100.symm, hd _ (by decide)⟩
  · exact ⟨999, e999.symm, hd _ (by decide)⟩
  · exact ⟨1000, e1000.symm, hd _ (by decide)⟩

set_option maxRecDepth 20000 in
set_option maxHeartbeats 2000000 in
theorem l16Digits_rd {R : Nat → Prop} {w : World} {rb n p : Nat} {v : Value} (h : RdAt R w rb n p v) (hp : p ≤ 900000) :
    Calls Tryd.prog 102 #[.pointer (some ⟨rb, 0, none⟩)] w fun e w' => ∃ x q : Nat, Lib.nDigits x ≤ 60 ∧ e = .returned (.string (dec x)) ∧ q ≤ p + 70 ∧ Picked rb v w w' q := by
  have HR := hid h
  have hrb := h.own.lt
  have HRn := hid h.now
  clear h
  go_enter Tryd.func102, Tryd.ntmps102
  go_wp2_with fail
  refine (pick_rd HR.out 4 (by omega) (by omega)).mono ?_
  rintro e w1 ⟨m1, hm1, rfl, hp1, -⟩
  have HR1 := hid (HR.out.picked hp1 (by omega))
  have HP1 := hid (HRn.out.trans hp1)
  clear hp1
  go_wp2_with fail
  refine (pick_rd HR1.out 8 (by omega) (by omega)).mono ?_
  rintro e w2 ⟨k, hk, rfl, hp2, -⟩
  have HR2 := hid (HR1.out.picked hp2 (by omega))
  have HP2 := hid (HP1.out.trans hp2)
  clear hp2
  have hcase : k = 0 ∨ k = 1 ∨ k = 2 ∨ 3 ≤ k := by omega
  have hstart : digT 0 0 = ⟨#[]⟩ := rfl
  have HStart := hid hstart
  clear hstart
  rcases hcase with rfl | rfl | rfl | hk3
  · go_wp2_with fail
    refine (pick_rd HR2.out 30 (by omega) (by omega)).mono ?_
    rintro e w3 ⟨m, hm, rfl, hp3, -⟩
    have HR3 := hid (HR2.out.picked hp3 (by omega))
    have HP3 := hid (HP2.out.trans hp3)
    clear hp3
    go_wp2_with fail
    obtain ⟨N, hN, h1, h60⟩ : ∃ N : Nat, 1 + (m : Int) = (N : Int) ∧ 1 ≤ N ∧ N ≤ 60 := ⟨1 + m, by omega, by omega, by omega⟩
    rw [hN]
    clear hN
    go_loopw [4, 5] (fun o i wr => ∃ j x q : Nat, o = .string (digT j x) ∧ i = .int .i64 j ∧ j ≤ N ∧ q ≤ p + 3 + j ∧ Hid (x < 10 ^ j) ∧ Hid (RdAt R wr rb n q v) ∧ Hid (Picked rb v w wr q)) (fun _ i _ => N - (intOf i).toNat)
    case atStart => exact ⟨0, 0, p + 1 + 1 + 1, by rw [HStart.out], rfl, Nat.zero_le _, by omega, by show 0 < 10 ^ 0; decide, HR3.out, HP3.out⟩
    case round =>
      obtain ⟨j, x, q, rfl, rfl, hj, hq, HX, HRr, HPr⟩ := hrel
      by_cases hlt : j < N
      · have hsz : (digT j x).size ≤ 60 := by rw [digT_size]; omega
        have HSn := hid (fun d (hd : d < 10) => digT_snoc j x d hd)
        generalize digT j x = DJ at *
        go_wp2_with fail
        refine (pick_rd HRr.out 10 (by omega) (by omega)).mono ?_
        rintro e w4 ⟨d, hd, rfl, hp4, -⟩
        have HR4 := hid (HRr.out.picked hp4 (by omega))
        have HP4 := hid (HPr.out.trans hp4)
        have HSm := hid (fun w => l11Small_any d w (by omega))
        rw [dec_small hd] at HSm
        have HSn2 := hid (HSn.out d hd)
        have hs1 : (⟨#[UInt8.ofNat (48 + d)]⟩ : ByteArray).size = 1 := rfl
        generalize (⟨#[UInt8.ofNat (48 + d)]⟩ : ByteArray) = SD at *
        have hcat : ¬ ((9223372036854775807 : Nat) < DJ.size + SD.size) := by omega
        clear hp4
        go_wp2_with fail
        refine (HSm.out _).mono ?_
        rintro e w5 ⟨rfl, hw5⟩
        have HR5 := hid (HR4.out.below hw5)
        have HP5 := hid (HP4.out.below hw5 HP4.out.1.size hrb)
        clear hw5
        go_wp2_with fail
        have HX2 : Hid (x * 10 + d < 10 ^ (j + 1)) := by
          show _ < _
          have := HX.out
          rw [Nat.pow_succ]; omega
        go_roundw
        case rel => exact ⟨j + 1, x * 10 + d, q + 1, by rw [HSn2.out], by go_num, hlt, by omega, HX2.out, HR5.out, HP5.out⟩
        case measure => simp [intOf]; omega
      · obtain rfl : j = N := by omega
        have HTr := hid (fun w => l11Trim_any j x w (Nat.le_trans h60 (by decide)) (by omega) HX.out)
        generalize digT j x = DJ at *
        go_wp2_with fail
        refine (HTr.out _).mono ?_
        rintro e w' ⟨rfl, hw⟩
        obtain rfl := hw.symm
        go_wp2_with fail
        go_ret
        exact ⟨x, q, Nat.le_trans (nDigits_le HX.out (by omega)) h60, rfl, by omega, HPr.out⟩
  · go_wp2_with fail
    refine (pick_rd HR2.out 3 (by omega) (by omega)).mono ?_
    rintro e w3 ⟨m, hm, rfl, hp3, -⟩
    have HR3 := hid (HR2.out.picked hp3 (by omega))
    have HP3 := hid (HP2.out.trans hp3)
    clear hp3
    go_wp2_with fail
    obtain ⟨N, hN, h1, h60⟩ : ∃ N : Nat, 60 - (m : Int) = (N : Int) ∧ 1 ≤ N ∧ N ≤ 60 := ⟨60 - m, by omega, by omega, by omega⟩
    rw [hN]
    clear hN
    go_loopw [4, 5] (fun o i wr => ∃ j x q : Nat, o = .string (digT j x) ∧ i = .int .i64 j ∧ j ≤ N ∧ q ≤ p + 3 + j ∧ Hid (x < 10 ^ j) ∧ Hid (RdAt R wr rb n q v) ∧ Hid (Picked rb v w wr q)) (fun _ i _ => N - (intOf i).toNat)
    case atStart => exact ⟨0, 0, p + 1 + 1 + 1, by rw [HStart.out], rfl, Nat.zero_le _, by omega, by show 0 < 10 ^ 0; decide, HR3.out, HP3.out⟩
    case round =>
      obtain ⟨j, x, q, rfl, rfl, hj, hq, HX, HRr, HPr⟩ := hrel
      by_cases hlt : j < N
      · have hsz : (digT j x).size ≤ 60 := by rw [digT_size]; omega
        have HSn := hid (fun d (hd : d < 10) => digT_snoc j x d hd)
        generalize digT j x = DJ at *
        go_wp2_with fail
        refine (pick_rd HRr.out 10 (by omega) (by omega)).mono ?_
        rintro e w4 ⟨d, hd, rfl, hp4, -⟩
        have HR4 := hid (HRr.out.picked hp4 (by omega))
        have HP4 := hid (HPr.out.trans hp4)
        have HSm := hid (fun w => l11Small_any d w (by omega))
        rw [dec_small hd] at HSm
        have HSn2 := hid (HSn.out d hd)
        have hs1 : (⟨#[UInt8.ofNat (48 + d)]⟩ : ByteArray).size = 1 := rfl
        generalize (⟨#[UInt8.ofNat (48 + d)]⟩ : ByteArray) = SD at *
        have hcat : ¬ ((9223372036854775807 : Nat) < DJ.size + SD.size) := by omega
        clear hp4
        go_wp2_with fail
        refine (HSm.out _).mono ?_
        rintro e w5 ⟨rfl, hw5⟩
        have HR5 := hid (HR4.out.below hw5)
        have HP5 := hid (HP4.out.below hw5 HP4.out.1.size hrb)
        clear hw5
        go_wp2_with fail
        have HX2 : Hid (x * 10 + d < 10 ^ (j + 1)) := by
          show _ < _
          have := HX.out
          rw [Nat.pow_succ]; omega
        go_roundw
        case rel => exact ⟨j + 1, x * 10 + d, q + 1, by rw [HSn2.out], by go_num, hlt, by omega, HX2.out, HR5.out, HP5.out⟩
        case measure => simp [intOf]; omega
      · obtain rfl : j = N := by omega
        have HTr := hid (fun w => l11Trim_any j x w (Nat.le_trans h60 (by decide)) (by omega) HX.out)
        generalize digT j x = DJ at *
        go_wp2_with fail
        refine (HTr.out _).mono ?_
        rintro e w' ⟨rfl, hw⟩
        obtain rfl := hw.symm
        go_wp2_with fail
        go_ret
        exact ⟨x, q, Nat.le_trans (nDigits_le HX.out (by omega)) h60, rfl, by omega, HPr.out⟩
  · go_wp2_with fail
    refine (of_rd (HR2.out.alloc _) w2.heap.size fewL (by simp) (by simp) (by have := HR2.out.own.lt; omega) (by simp) (fun i hi => by rcases i with _ | _ | _ | _ | _ | _ | _ | i <;> first | (simp; done) | (simp at hi; omega))).mono ?_
    rintro e w3 ⟨s, hs, rfl, hp3, -⟩
    have HP3 := hid ((HP2.out.below ((Below.refl w2.heap.size w2).alloc (Nat.le_refl _) _) HP2.out.1.size hrb).trans hp3)
    obtain ⟨x, rfl, hx⟩ := few_dec hs
    clear hs hp3
    go_wp2_with fail
    go_ret
    exact ⟨x, _, hx, rfl, by omega, HP3.out⟩
  · have hk5 : k = 3 ∨ k = 4 ∨ k = 5 ∨ k = 6 ∨ k = 7 := by omega
    clear hk3 hk
    have HR3 := hid HR2.out
    have HP3 := hid HP2.out
    rcases hk5 with rfl | rfl | rfl | rfl | rfl
    all_goals
      go_wp2_with fail
      obtain ⟨N, hN, h1, h60⟩ : ∃ N : Nat, 1 + (m1 : Int) = (N : Int) ∧ 1 ≤ N ∧ N ≤ 60 := ⟨1 + m1, by omega, by omega, by omega⟩
      rw [hN]
      clear hN
      go_loopw [4, 5] (fun o i wr => ∃ j x q : Nat, o = .string (digT j x) ∧ i = .int .i64 j ∧ j ≤ N ∧ q ≤ p + 3 + j ∧ Hid (x < 10 ^ j) ∧ Hid (RdAt R wr rb n q v) ∧ Hid (Picked rb v w wr q)) (fun _ i _ => N - (intOf i).toNat)
      case atStart => exact ⟨0, 0, p + 1 + 1, by rw [HStart.out], rfl, Nat.zero_le _, by omega, by show 0 < 10 ^ 0; decide, HR3.out, HP3.out⟩
      case round =>
        obtain ⟨j, x, q, rfl, rfl, hj, hq, HX, HRr, HPr⟩ := hrel
        by_cases hlt : j < N
        · have hsz : (digT j x).size ≤ 60 := by rw [digT_size]; omega
          have HSn := hid (fun d (hd : d < 10) => digT_snoc j x d hd)
          generalize digT j x = DJ at *
          go_wp2_with fail
          refine (pick_rd HRr.out 10 (by omega) (by omega)).mono ?_
          rintro e w4 ⟨d, hd, rfl, hp4, -⟩
          have HR4 := hid (HRr.out.picked hp4 (by omega))
          have HP4 := hid (HPr.out.trans hp4)
          have HSm := hid (fun w => l11Small_any d w (by omega))
          rw [dec_small hd] at HSm
          have HSn2 := hid (HSn.out d hd)
          have hs1 : (⟨#[UInt8.ofNat (48 + d)]⟩ : ByteArray).size = 1 := rfl
          generalize (⟨#[UInt8.ofNat (48 + d)]⟩ : ByteArray) = SD at *
          have hcat : ¬ ((9223372036854775807 : Nat) < DJ.size + SD.size) := by omega
          clear hp4
          go_wp2_with fail
          refine (HSm.out _).mono ?_
          rintro e w5 ⟨rfl, hw5⟩
          have HR5 := hid (HR4.out.below hw5)
          have HP5 := hid (HP4.out.below hw5 HP4.out.1.size hrb)
          clear hw5
          go_wp2_with fail
          have HX2 : Hid (x * 10 + d < 10 ^ (j + 1)) := by
            show _ < _
            have := HX.out
            rw [Nat.pow_succ]; omega
          go_roundw
          case rel => exact ⟨j + 1, x * 10 + d, q + 1, by rw [HSn2.out], by go_num, hlt, by omega, HX2.out, HR5.out, HP5.out⟩
          case measure => simp [intOf]; omega
        · obtain rfl : j = N := by omega
          have HTr := hid (fun w => l11Trim_any j x w (Nat.le_trans h60 (by decide)) (by omega) HX.out)
          generalize digT j x = DJ at *
          go_wp2_with fail
          refine (HTr.out _).mono ?_
          rintro e w' ⟨rfl, hw⟩
          obtain rfl := hw.symm
          go_wp2_with fail
          go_ret
          exact ⟨x, q, Nat.le_trans (nDigits_le HX.out (by omega)) h60, rfl, by omega, HPr.out⟩
end Go.Proofs.YtbbffhpppacihaaDoor

namespace Go.Proofs.YtbbffhpppacihaaDoor
open Go.RowKit Go.Siskin

theorem make_parts (neg : Bool) (u d : Nat) : (∃ n A B, makeV neg u d = .tuple #[.agg #[.bool n, .string (dec A), .string (dec B)], .bool true] ∧ Lib.nDigits A ≤ 60 ∧ Lib.nDigits B ≤ 60) ∨ makeV neg u d = noNum := by
  unfold makeV
  split
  · exact Or.inr rfl
  · unfold closedV
    split
    · rename_i h; exact Or.inl ⟨_, _, _, rfl, h.1, h.2⟩
    · exact Or.inr rfl

/-- Behind stores into what is new, and a box. -/
theorem num_picked {rb q : Nat} {v : Value} {w W : World} (h : Picked rb v w W q) (hrb : rb < w.heap.size) (x y z : Value) (o : Obj) : Picked rb v w ((((W.setCell ⟨w.heap.size, 0, none⟩ x).setCell ⟨w.heap.size, 1, none⟩ y).setCell ⟨w.heap.size, 2, none⟩ z).alloc o) q := by
  have h1 := h.far (row := some w.heap.size) (((grown_set W w.heap.size 0 x).trans (grown_set _ w.heap.size 1 y)).trans (grown_set _ w.heap.size 2 z)) (fun g e => by cases e; exact Nat.le_refl _) hrb
  exact h1.below ((Below.refl _ _).alloc (Nat.le_refl _) o) h1.1.size hrb

set_option maxRecDepth 20000 in
set_option maxHeartbeats 2000000 in
theorem l16Num_rd {R : Nat → Prop} {w : World} {rb n p : Nat} {v : Value} (h : RdAt R w rb n p v) (hp : p ≤ 800000) :
    Calls Tryd.prog 97 #[.pointer (some ⟨rb, 0, none⟩)] w fun e w' => ∃ (neg : Bool) (A B q : Nat), Lib.nDigits A ≤ 60 ∧ Lib.nDigits B ≤ 60 ∧ e = .returned (.agg #[.bool neg, .string (dec A), .string (dec B)]) ∧ q ≤ p + 150 ∧ Picked rb v w w' q := by
  have hrb := h.own.lt
  have hne : w.heap.size ≠ rb := by omega
  have HR0 := hid (h.alloc (.cells #[.bool false, .string ⟨#[]⟩, .string ⟨#[]⟩] 25))
  have HP0 := hid (h.now.below ((Below.refl w.heap.size w).alloc (Nat.le_refl _) (.cells #[.bool false, .string ⟨#[]⟩, .string ⟨#[]⟩] 25)) (Nat.le_refl _) hrb)
  have HO0 := hid (own_new w #[.bool false, .string ⟨#[]⟩, .string ⟨#[]⟩] 25)
  have H1 := hid dec_one
  have e7 : dec 7 = ⟨#[55]⟩ := dec_small (by decide)
  have H7 := hid e7
  clear h e7
  go_enter Tryd.func97, Tryd.ntmps97
  go_wp2_with fail
  refine (pick_rd HR0.out 2 (by omega) (by omega)).mono ?_
  rintro e w1 ⟨m, hm, rfl, hp1, -⟩
  have HR1 := hid (HR0.out.picked hp1 (by omega))
  have HP1 := hid (HP0.out.trans hp1)
  have HO1 := hid (HO0.out.picked hp1 hne)
  clear hp1
  have hm2 : m = 0 ∨ m = 1 := by omega
  clear hm
  rcases hm2 with rfl | rfl
  · go_wp2_with fail
    refine (l16Digits_rd HR1.out (by omega)).mono ?_
    rintro e w2 ⟨D, q, hD, rfl, hq, hp2⟩
    have HR2 := hid (HR1.out.picked hp2 (by omega))
    have HP2 := hid (HP1.out.trans hp2)
    have HO2 := hid (HO1.out.picked hp2 hne)
    have hq1 : q ≤ p + 71 := by omega
    clear hp2 hq
    go_wp2_with fail
    refine (pick_rd HR2.out 2 (by omega) (by omega)).mono ?_
    rintro e w3 ⟨m2, hm2, rfl, hp3, -⟩
    have HR3 := hid (HR2.out.picked hp3 (by omega))
    have HP3 := hid (HP2.out.trans hp3)
    have HO3 := hid (HO2.out.picked hp3 hne)
    clear hp3 hm2
    obtain ⟨sg, hsg⟩ : ∃ b, ((m2 : Int) == 0) = b := ⟨_, rfl⟩
    go_wp2_with fail
    refine (l16Digits_rd HR3.out (by omega)).mono ?_
    rintro e w4 ⟨U, q4, hU, rfl, hq4, hp4⟩
    have HR4 := hid (HR3.out.picked hp4 (by omega))
    have HP4 := hid (HP3.out.trans hp4)
    have HO4 := hid (HO3.out.picked hp4 hne)
    have hq5 : q4 ≤ p + 150 := by omega
    clear hp4 hq4
    have HMk := hid (fun w => l12Make_any sg U D w (by omega) (by omega))
    rcases make_parts sg U D with ⟨ng, A, B, hmk, hA, hB⟩ | hmk
    all_goals
      rw [hmk] at HMk
      clear hmk
      go_wp2_with fail
      refine (HMk.out _).mono ?_
      rintro e w5 ⟨rfl, hw5⟩
      have HP5 := hid (HP4.out.below hw5 HP4.out.1.size hrb)
      have hO5 := HO4.out.keep hw5 HO4.out.lt
      have hlt := hO5.lt
      obtain ⟨r0, r1, r2⟩ := own3 hO5
      have f0 := hO5.frozen 0
      have f1 := hO5.frozen 1
      have f2 := hO5.frozen 2
      clear hw5
      go_wp2_with fail
    · refine bodyPost_ret (v := .agg #[.bool ng, .string (dec A), .string (dec B)]) (by simp [results, Tryd.results97, go_sem, r0, r1, r2, hlt]) rfl ⟨ng, A, B, q4, hA, hB, rfl, hq5, ?_⟩
      exact num_picked HP5.out hrb _ _ _ _
    · have h7 := H7.out
      refine bodyPost_ret (v := .agg #[.bool false, .string ⟨#[55]⟩, .string ⟨#[49]⟩]) (by simp [results, Tryd.results97, go_sem, r0, r1, r2, hlt]) rfl ⟨false, 7, 1, q4, by rw [Lib.nDigits_small (by decide)]; decide, by rw [Lib.nDigits_small (by decide)]; decide, by rw [h7, H1.out], hq5, ?_⟩
      exact num_picked HP5.out hrb _ _ _ _
  · have hD : Lib.nDigits 1 ≤ 60 := by rw [Lib.nDigits_small (by decide)]; decide
    have HR2 := HR1
    have HP2 := HP1
    have HO2 := HO1
    go_wp2_with fail
    refine (pick_rd HR2.out 2 (by omega) (by omega)).mono ?_
    rintro e w3 ⟨m2, hm2, rfl, hp3, -⟩
    have HR3 := hid (HR2.out.picked hp3 (by omega))
    have HP3 := hid (HP2.out.trans hp3)
    have HO3 := hid (HO2.out.picked hp3 hne)
    clear hp3 hm2
    obtain ⟨sg, hsg⟩ : ∃ b, ((m2 : Int) == 0) = b := ⟨_, rfl⟩
    go_wp2_with fail
    refine (l16Digits_rd HR3.out (by omega)).mono ?_
    rintro e w4 ⟨U, q4, hU, rfl, hq4, hp4⟩
    have HR4 := hid (HR3.out.picked hp4 (by omega))
    have HP4 := hid (HP3.out.trans hp4)
    have HO4 := hid (HO3.out.picked hp4 hne)
    have hq5 : q4 ≤ p + 150 := by omega
    clear hp4 hq4
    have HMk := hid (fun w => l12Make_any sg U 1 w (by omega) (by omega))
    rw [H1.out] at HMk
    rcases make_parts sg U 1 with ⟨ng, A, B, hmk, hA, hB⟩ | hmk
    all_goals
      rw [hmk] at HMk
      clear hmk
      go_wp2_with fail
      refine (HMk.out _).mono ?_
      rintro e w5 ⟨rfl, hw5⟩
      have HP5 := hid (HP4.out.below hw5 HP4.out.1.size hrb)
      have hO5 := HO4.out.keep hw5 HO4.out.lt
      have hlt := hO5.lt
      obtain ⟨r0, r1, r2⟩ := own3 hO5
      have f0 := hO5.frozen 0
      have f1 := hO5.frozen 1
      have f2 := hO5.frozen 2
      clear hw5
      go_wp2_with fail
    · refine bodyPost_ret (v := .agg #[.bool ng, .string (dec A), .string (dec B)]) (by simp [results, Tryd.results97, go_sem, r0, r1, r2, hlt]) rfl ⟨ng, A, B, q4, hA, hB, rfl, hq5, ?_⟩
      exact num_picked HP5.out hrb _ _ _ _
    · have h7 := H7.out
      refine bodyPost_ret (v := .agg #[.bool false, .string ⟨#[55]⟩, .string ⟨#[49]⟩]) (by simp [results, Tryd.results97, go_sem, r0, r1, r2, hlt]) rfl ⟨false, 7, 1, q4, by rw [Lib.nDigits_small (by decide)]; decide, by rw [Lib.nDigits_small (by decide)]; decide, by rw [h7, H1.out], hq5, ?_⟩
      exact num_picked HP5.out hrb _ _ _ _
end Go.Proofs.YtbbffhpppacihaaDoor

namespace Go.Proofs.YtbbffhpppacihaaDoor
open Go.RowKit Go.Siskin

set_option maxRecDepth 20000 in
set_option maxHeartbeats 1000000 in
theorem l11Many_any (s : ByteArray) (n : Nat) (w : World) (hs : s.size ≤ 10) (hn : n ≤ 100) :
    Calls Tryd.prog 112 #[.string s, .int .i64 (n : Int)] w fun e w' => ∃ t : ByteArray, e = .returned (.string t) ∧ t.size ≤ 1000 ∧ w' = w := by
  have h0 : s.size * n + 0 ≤ 1000 := by
    have := Nat.mul_le_mul hs hn
    omega
  go_enter Tryd.func112, Tryd.ntmps112
  go_wp2_with fail
  go_loopw [0, 1, 5] (fun a b o wr => ∃ (S O : ByteArray) (k : Nat), a = .string S ∧ b = .int .i64 (k : Int) ∧ o = .string O ∧ Hid (S.size * k + O.size ≤ 1000) ∧ k ≤ 100 ∧ wr = w) (fun _ b _ _ => (intOf b).toNat)
  case atStart => exact ⟨s, ⟨#[]⟩, n, rfl, rfl, rfl, h0, hn, rfl⟩
  case round =>
    obtain ⟨S, O, k, rfl, rfl, rfl, HS, hk, rfl⟩ := hrel
    rcases Nat.eq_zero_or_pos k with rfl | hk0
    · go_wp2_with fail
      go_ret
      exact ⟨O, rfl, by have := HS.out; omega, rfl⟩
    · have hS : S.size ≤ 1000 := by
        have h1 := HS.out
        have h2 := Nat.mul_le_mul_left S.size hk0
        omega
      have hO : O.size ≤ 1000 := by have h1 := HS.out; omega
      have c1 : ¬ ((9223372036854775807 : Nat) < O.size + S.size) := by omega
      have c2 : ¬ ((9223372036854775807 : Nat) < S.size + S.size) := by omega
      have hq : (k : Int) / 2 = ((k / 2 : Nat) : Int) := by omega
      have hd := Nat.div_add_mod k 2
      have hpar := Nat.mod_two_eq_zero_or_one k
      have hkk : (k : Int) % 2 = ((k % 2 : Nat) : Int) := by omega
      rcases hpar with h2 | h2
      · rw [h2] at hkk hd
        obtain ⟨j, hj⟩ : ∃ j, k / 2 = j := ⟨_, rfl⟩
        rw [hj] at hq hd
        go_wp2_with fail
        go_roundw
        case rel =>
          refine ⟨S ++ S, O, j, rfl, rfl, rfl, ?_, by omega, trivial⟩
          have h1 := HS.out
          have e : k = j + j := by omega
          show _ ≤ _
          rw [e, Nat.mul_add] at h1
          rw [ByteArray.size_append, Nat.add_mul]
          exact h1
        case measure => simp [intOf]; omega
      · rw [h2] at hkk hd
        obtain ⟨j, hj⟩ : ∃ j, k / 2 = j := ⟨_, rfl⟩
        rw [hj] at hq hd
        go_wp2_with fail
        go_roundw
        case rel =>
          refine ⟨S ++ S, O ++ S, j, rfl, rfl, rfl, ?_, by omega, trivial⟩
          have h1 := HS.out
          have e : k = j + j + 1 := by omega
          show _ ≤ _
          rw [e, Nat.mul_add, Nat.mul_add, Nat.mul_one] at h1
          rw [ByteArray.size_append, ByteArray.size_append, Nat.add_mul]
          omega
        case measure => simp [intOf]; omega
end Go.Proofs.YtbbffhpppacihaaDoor
