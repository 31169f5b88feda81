/-
  The drawing reader: pick tells a number below a bound, of tells one of a list of texts, l1Open makes a reader. Condition: the reader and its bytes lie in memory apart, and it has not picked too often.
  The drawing of an identifier, l8Id, and what it needs: of, l1Open. Condition: the reader and its bytes lie in memory apart, and it has not picked too often.
  Rows of forms that a call makes; appending ints from whatever slice. No program's step is walked here.
-/
import Derived.Test.YtjbejnibiebjgaaGreatPart1
import Derived.BigQuiet
import Derived.Maps.AppendAt
import Derived.Deep.AppendLies
import Derived.Deep.AppendSrc
namespace Go.Proofs.YtjbejnibiebjgaaGreat
open Go.RowKit Go.Siskin

/-- Bytes that lie in blocks of R. -/
def BytesAt (R : Nat → Prop) (w : World) (v : Value) (n : Nat) : Prop :=
  ∃ a cap, v = .slice a n cap ∧ (n ≤ cap ∧ cap ≤ maxLen) ∧ (n = 0 ∨ ∃ b o, a = some ⟨b, o, none⟩ ∧ R b ∧ ∀ i, i < n → ∃ x : Nat, x < 256 ∧ w.cell? ⟨b, o + i, none⟩ = some (.int .u8 x))
theorem BytesAt.keep {R : Nat → Prop} {w w' : World} {v : Value} {n : Nat} (h : BytesAt R w v n) (hb : SameOn R w w') : BytesAt R w' v n := by
  obtain ⟨a, cap, e, hl, h⟩ := h
  refine ⟨a, cap, e, hl, ?_⟩
  rcases h with h | ⟨b, o, e, hB, h⟩
  · exact Or.inl h
  · refine Or.inr ⟨b, o, e, hB, fun i hi => ?_⟩
    obtain ⟨x, hx, hc⟩ := h i hi
    exact ⟨x, hx, (hb.cell hB (o + i)).trans hc⟩

/-- Behind picks: all is as it was but the reader's block rb, which has picked p times, and what is new. -/
def Picked (rb : Nat) (v : Value) (w w' : World) (p : Nat) : Prop := w.grownBy w' (some rb) ∧ Own w' rb 54 #[v, .int .i64 p]

theorem picked_one {w : World} {rb p : Nat} {v : Value} (ho : Own w rb 54 #[v, .int .i64 p]) : Picked rb v w (w.setCell ⟨rb, 1, none⟩ (.int .i64 ((p : Int) + 1))) (p + 1) := by
  refine ⟨⟨rfl, rfl, rfl, by simp, fun i _ hne => Below.heap_setCell w _ _ i fun e => hne (congrArg some e)⟩, ?_⟩
  have h := ho.set 1 (.int .i64 ((p : Int) + 1))
  simpa using h

theorem picked_draw {rb : Nat} {v : Value} {w w' : World} {p : Nat} (h : Picked rb v w w' p) (n : Nat) : Picked rb v w (w'.drewN n) p := ⟨⟨h.1.os, h.1.tape, h.1.output, h.1.size, h.1.block⟩, h.2⟩

theorem bits_xor_i64 (a b : Nat) (ha : a < 4611686018427387904) (hb : b < 4611686018427387904) : bits .xor .i64 (a : Int) (b : Int) = ((a ^^^ b : Nat) : Int) := by
  have hx : a ^^^ b < 2 ^ 62 := Nat.xor_lt_two_pow (by omega) (by omega)
  have h1 : (BitVec.ofInt 64 (a : Int)).toNat = a := by
    rw [BitVec.ofInt_natCast, BitVec.toNat_ofNat]; exact Nat.mod_eq_of_lt (by omega)
  have h2 : (BitVec.ofInt 64 (b : Int)).toNat = b := by
    rw [BitVec.ofInt_natCast, BitVec.toNat_ofNat]; exact Nat.mod_eq_of_lt (by omega)
  show IntKind.i64.wrap ((BitVec.ofInt 64 (a : Int) ^^^ BitVec.ofInt 64 (b : Int)).toNat : Int) = _
  rw [BitVec.toNat_xor, h1, h2]
  simp [IntKind.wrap, IntKind.bits, IntKind.signed]
  omega

set_option maxRecDepth 20000 in
set_option maxHeartbeats 1000000 in
theorem pick_any (R : Nat → Prop) (w : World) (rb n p k : Nat) (v : Value) (hv : BytesAt R w v n) (hn : n ≤ 2000) (hr : ¬ R rb) (ho : Own w rb 54 #[v, .int .i64 p]) (hp : p ≤ 1000000) (hk : 1 ≤ k) (hk2 : k ≤ 1000) :
    Calls Tryz.prog 15 #[.pointer (some ⟨rb, 0, none⟩), .int .i64 k] w fun e w' => ∃ m : Nat, m < k ∧ e = .returned (.int .i64 m) ∧ Picked rb v w w' (p + 1) ∧ w'.heap.size = w.heap.size := by
  obtain ⟨a, cap, rfl, -, hv⟩ := hv
  have q0 := ho.cell 0
  have q1 := ho.cell 1
  have f1 := ho.frozen 1
  simp at q0 q1
  have HO := hid ho
  clear ho
  have hk' : ¬ (k : Int) < 1 := by omega
  have hk0 : (k : Int) ≠ 0 := by omega
  by_cases h0 : n = 0
  · subst h0
    go_enter Tryz.func15, Tryz.ntmps15
    go_wp2_with fail
    go_ret
    exact ⟨0, by omega, rfl, picked_one HO.out, by simp⟩
  · rcases hv with hv | ⟨b, o, rfl, hb, hv⟩
    · exact absurd hv h0
    have hne : b ≠ rb := fun e => hr (e ▸ hb)
    by_cases hlt : p < n
    · obtain ⟨x, hx, gx⟩ := hv p hlt
      go_enter Tryz.func15, Tryz.ntmps15
      go_wp2_with fail
      go_ret
      exact ⟨x % k, Nat.mod_lt _ (by omega), by simp, picked_one HO.out, by simp⟩
    · obtain ⟨x, hx, gx⟩ := hv (p % n) (Nat.mod_lt _ (by omega))
      obtain ⟨y, hy, gy⟩ := hv ((p * 7 + 3) % n) (Nat.mod_lt _ (by omega))
      have e1 : (p : Int) % (n : Int) = ((p % n : Nat) : Int) := by simp
      have e2 : ((p : Int) * 7 + 3) % (n : Int) = (((p * 7 + 3) % n : Nat) : Int) := by simp
      have m1 : p % n < n := Nat.mod_lt _ (by omega)
      have m2 : (p * 7 + 3) % n < n := Nat.mod_lt _ (by omega)
      have e3 : (p : Int) / (n : Int) = ((p / n : Nat) : Int) := by simp
      have m3 : p / n ≤ p := Nat.div_le_self _ _
      generalize p % n = i1 at *
      generalize (p * 7 + 3) % n = i2 at *
      generalize p / n = i3 at *
      go_enter Tryz.func15, Tryz.ntmps15
      go_wp2_with fail
      go_quiet (fail)
      obtain ⟨X, hX, hXl⟩ : ∃ X : Nat, ((x : Int) * 131 + (y : Int) * 1117 + (p : Int) * 29 + (i3 : Int) * 53) = (X : Int) ∧ X < 1000000000 := ⟨x * 131 + y * 1117 + p * 29 + i3 * 53, by omega, by omega⟩
      rw [hX]
      have hq : (X : Int) / 64 = ((X / 64 : Nat) : Int) := by omega
      have hbx : bits .xor .i64 (X : Int) ((X / 64 : Nat) : Int) = ((X ^^^ X / 64 : Nat) : Int) := bits_xor_i64 _ _ (by omega) (by omega)
      have hz : X ^^^ X / 64 < 2 ^ 30 := Nat.xor_lt_two_pow (by omega) (by omega)
      generalize X / 64 = Y at *
      generalize X ^^^ Y = Z at *
      clear hX
      go_wp2_with fail
      go_ret
      exact ⟨Z % k, Nat.mod_lt _ (by omega), by simp, picked_draw (picked_one HO.out) _, by simp⟩

end Go.Proofs.YtjbejnibiebjgaaGreat

namespace Go.Proofs.YtjbejnibiebjgaaGreat
open Go.RowKit Go.Siskin

/-- A reader: its block apart from the bytes that it reads, not too often used. -/
structure RdAt (R : Nat → Prop) (w : World) (rb n p : Nat) (v : Value) : Prop where
  bytes : BytesAt R w v n
  len : n ≤ 2000
  off : ¬ R rb
  low : ∀ b, R b → b < w.heap.size
  own : Own w rb 54 #[v, .int .i64 p]
  few : p ≤ 1000000

theorem RdAt.picked {R : Nat → Prop} {w w' : World} {rb n p q : Nat} {v : Value} (h : RdAt R w rb n p v) (hp : Picked rb v w w' q) (hq : q ≤ 1000000) : RdAt R w' rb n q v :=
  ⟨h.bytes.keep fun b hb => hp.1.block b (h.low b hb) fun e => h.off (by cases e; exact hb), h.len, h.off, fun b hb => Nat.lt_of_lt_of_le (h.low b hb) hp.1.size, hp.2, hq⟩
theorem Picked.trans {rb : Nat} {v : Value} {a b c : World} {p q : Nat} (h : Picked rb v a b p) (k : Picked rb v b c q) : Picked rb v a c q := ⟨h.1.trans k.1, k.2⟩
/-- Over what is new. -/
theorem Picked.below {rb : Nat} {v : Value} {a b c : World} {p : Nat} (h : Picked rb v a b p) {N : Nat} (k : Below N b c) (hN : a.heap.size ≤ N) (hr : rb < a.heap.size) : Picked rb v a c p :=
  ⟨⟨k.os.trans h.1.os, k.tape.trans h.1.tape, k.output.trans h.1.output, Nat.le_trans h.1.size k.size, fun i hi hne => (k.block i (by omega)).trans (h.1.block i hi hne)⟩, h.2.keep k (by omega)⟩
theorem RdAt.now {R : Nat → Prop} {w : World} {rb n p : Nat} {v : Value} (h : RdAt R w rb n p v) : Picked rb v w w p := ⟨World.grownBy.refl _ _, h.own⟩
theorem RdAt.below {R : Nat → Prop} {w w' : World} {rb n p : Nat} {v : Value} (h : RdAt R w rb n p v) (k : Below w.heap.size w w') : RdAt R w' rb n p v := h.picked (h.now.below k (Nat.le_refl _) h.own.lt) h.few
theorem RdAt.alloc {R : Nat → Prop} {w : World} {rb n p : Nat} {v : Value} (h : RdAt R w rb n p v) (o : Obj) : RdAt R (w.alloc o) rb n p v := h.below ((Below.refl _ _).alloc (Nat.le_refl _) _)

theorem _root_.Go.Siskin.Own.more {w : World} {g : Nat} {e : TypeId} {cs : Array Value} (h : Own w g e cs) (hg : g < w.heap.size) (o : Obj) : Own (w.alloc o) g e cs := h.keep ((Below.refl w.heap.size w).alloc (Nat.le_refl _) _) hg
theorem _root_.Go.Siskin.Own.picked {w w' : World} {g : Nat} {e : TypeId} {cs : Array Value} (h : Own w g e cs) {rb q : Nat} {v : Value} (hp : Picked rb v w w' q) (hg : g ≠ rb) : Own w' g e cs := (hp.1.block g h.lt fun e => hg (by cases e; rfl)).trans h

theorem _root_.Go.Siskin.Own.far {w w' : World} {g : Nat} {e : TypeId} {cs : Array Value} (h : Own w g e cs) {row : Option Nat} (hg : w.grownBy w' row) (hne : some g ≠ row) : Own w' g e cs := (hg.block g h.lt hne).trans h
theorem RdAt.far {R : Nat → Prop} {w w' : World} {rb n p : Nat} {v : Value} (h : RdAt R w rb n p v) {row : Option Nat} (hg : w.grownBy w' row) (hr : ∀ g, row = some g → ¬ R g ∧ g ≠ rb) : RdAt R w' rb n p v :=
  ⟨h.bytes.keep fun b hb => hg.block b (h.low b hb) fun e => (hr b e.symm).1 hb, h.len, h.off, fun b hb => Nat.lt_of_lt_of_le (h.low b hb) hg.size, h.own.far hg fun e => (hr rb e.symm).2 rfl, h.few⟩
theorem Picked.far {rb : Nat} {v : Value} {a b c : World} {p : Nat} (h : Picked rb v a b p) {row : Option Nat} (hg : b.grownBy c row) (hr : ∀ g, row = some g → a.heap.size ≤ g) (hrb : rb < a.heap.size) : Picked rb v a c p :=
  ⟨⟨hg.os.trans h.1.os, hg.tape.trans h.1.tape, hg.output.trans h.1.output, Nat.le_trans h.1.size hg.size, fun i hi hne => (hg.block i (Nat.lt_of_lt_of_le hi h.1.size) fun e => by have := hr i e.symm; omega).trans (h.1.block i hi hne)⟩, h.2.far hg fun e => by have := hr rb e.symm; omega⟩
theorem grown_set (w : World) (g i : Nat) (x : Value) : w.grownBy (w.setCell ⟨g, i, none⟩ x) (some g) :=
  ⟨rfl, rfl, rfl, by simp, fun j _ hne => Below.heap_setCell w _ _ j fun e => hne (congrArg some e)⟩

/-- Five cells, written one by one. -/
def wr5 (w : World) (g : Nat) (c0 c1 c2 c3 c4 : Value) : World := ((((w.setCell ⟨g, 0, none⟩ c0).setCell ⟨g, 1, none⟩ c1).setCell ⟨g, 2, none⟩ c2).setCell ⟨g, 3, none⟩ c3).setCell ⟨g, 4, none⟩ c4
theorem wr5_grown (w : World) (g : Nat) (c0 c1 c2 c3 c4 : Value) : w.grownBy (wr5 w g c0 c1 c2 c3 c4) (some g) :=
  ((((grown_set w g 0 c0).trans (grown_set _ g 1 c1)).trans (grown_set _ g 2 c2)).trans (grown_set _ g 3 c3)).trans (grown_set _ g 4 c4)
theorem wr5_size (w : World) (g : Nat) (c0 c1 c2 c3 c4 : Value) : (wr5 w g c0 c1 c2 c3 c4).heap.size = w.heap.size := by simp [wr5]

theorem pick_rd {R : Nat → Prop} {w : World} {rb n p : Nat} {v : Value} (h : RdAt R w rb n p v) (k : Nat) (hk : 1 ≤ k) (hk2 : k ≤ 1000) :
    Calls Tryz.prog 15 #[.pointer (some ⟨rb, 0, none⟩), .int .i64 k] w fun e w' => ∃ m : Nat, m < k ∧ e = .returned (.int .i64 m) ∧ Picked rb v w w' (p + 1) ∧ w'.heap.size = w.heap.size :=
  pick_any R w rb n p k v h.bytes h.len h.off h.own h.few hk hk2

set_option maxHeartbeats 1000000 in
theorem of_rd {R : Nat → Prop} {w : World} {rb n p : Nat} {v : Value} (h : RdAt R w rb n p v) (lb : Nat) (ss : List ByteArray) (h1 : 1 ≤ ss.length) (h2 : ss.length ≤ 100) (hl : lb ≠ rb) (hlt : lb < w.heap.size) (hc : ∀ (i : Nat) (hi : i < ss.length), w.cell? ⟨lb, i, none⟩ = some (.string ss[i])) :
    Calls Tryz.prog 43 #[.pointer (some ⟨rb, 0, none⟩), .slice (some ⟨lb, 0, none⟩) ss.length ss.length] w fun e w' => ∃ s, s ∈ ss ∧ e = .returned (.string s) ∧ Picked rb v w w' (p + 1) ∧ w'.heap.size = w.heap.size := by
  have HR := hid h
  clear h
  go_enter Tryz.func43, Tryz.ntmps43
  go_wp2_with (go_at_call 15; refine (pick_rd HR.out ss.length h1 (by omega)).mono ?_; rintro e w1 ⟨m, hm, rfl, hp, hs⟩; have hcell := (World.cell?_of_block (w := w) (hp.1.block lb hlt (fun e => hl (by cases e; rfl))) : w1.cell? ⟨lb, m, none⟩ = _).trans (hc m hm); have HP := hid hp; clear hp)
  go_ret
  exact ⟨ss[m], List.getElem_mem hm, rfl, HP.out, hs⟩

set_option maxHeartbeats 1000000 in
theorem l1Open_any (R : Nat → Prop) (w : World) (n : Nat) (v : Value) (hv : BytesAt R w v n) (hn : n ≤ 1048576) (hR : ∀ b, R b → b < w.heap.size) :
    Calls Tryz.prog 13 #[v] w fun e w' => ∃ n' v', e = .returned (.pointer (some ⟨w.heap.size, 0, none⟩)) ∧ RdAt R w' w.heap.size n' 0 v' ∧ Below w.heap.size w w' := by
  obtain ⟨a, cap, rfl, ⟨hl1, hl2⟩, h⟩ := hv
  have HR := hid hR
  clear hR
  by_cases hb : 2000 < n
  · rcases h with h | ⟨b, o, rfl, hB, h⟩
    · omega
    have HC := hid h
    have hl3 := hl2
    unfold maxLen at hl3
    clear h
    go_enter Tryz.func13, Tryz.ntmps13
    go_wp2_with fail
    go_ret
    refine ⟨2000, .slice (some ⟨b, o, none⟩) 2000 cap, rfl, ⟨BytesAt.keep (w := w) ⟨_, cap, rfl, ⟨by omega, hl2⟩, Or.inr ⟨b, o, rfl, hB, fun i hi => HC.out i (by omega)⟩⟩ ((SameOn.refl _ _).alloc HR.out _), by omega, fun h => by have := HR.out _ h; omega, fun b hb => by have := HR.out b hb; simp; omega, own_new _ _ _, by omega⟩, (Below.refl _ _).alloc (Nat.le_refl _) _⟩
  · have HC := hid h
    clear h
    go_enter Tryz.func13, Tryz.ntmps13
    go_wp2_with fail
    go_ret
    refine ⟨n, .slice a n cap, rfl, ⟨BytesAt.keep ⟨a, cap, rfl, ⟨hl1, hl2⟩, HC.out⟩ ((SameOn.refl _ _).alloc HR.out _), by omega, fun h => by have := HR.out _ h; omega, fun b hb => by have := HR.out b hb; simp; omega, own_new _ _ _, by omega⟩, (Below.refl _ _).alloc (Nat.le_refl _) _⟩

theorem row_ints {w : World} {base n : Nat} {v : Value} {xs : List Int} (h : w.ownsRow base 3 1 v n (xs.map (Value.int .i64))) (hn : xs.length ≤ maxLen) {B : Nat → Prop} (hB : ∀ g, base ≤ g → g < w.heap.size → B g) : IntsAt B w v xs := by
  have hl := h.1
  rw [List.length_map] at hl
  rcases h.2 with ⟨rfl, h0⟩ | ⟨g, cap, cur, rfl, hb, hg, hcap, -, -, -⟩
  · have : xs = [] := List.length_eq_zero_iff.1 (by omega)
    subst this
    exact ⟨none, 0, rfl, ⟨Nat.zero_le _, Nat.le_refl _⟩, Or.inl rfl⟩
  · refine ⟨some ⟨g, 0, none⟩, cap, by rw [hl, Nat.mul_one], ⟨hn, by omega⟩, Or.inr ⟨g, 0, rfl, hB g hb (Array.getElem?_eq_some_iff.1 hg).1, fun i hi => ?_⟩⟩
    have k := h.cells (g := g) rfl i (.int .i64 (xs.getD i 0)) (by rw [List.getElem?_map, List.getElem?_eq_getElem hi, List.getD_eq_getElem?_getD, List.getElem?_eq_getElem hi]; rfl)
    rw [Go.WideShapes.add_plain] at k
    exact k

theorem Tryz.infoIntE : (Tryz.prog.info? 3).map (fun i => (i.zero, i.size, i.bytes)) = some (some (.int .i64 0), 1, 8) := by kernel_rfl

set_option maxRecDepth 20000 in
set_option maxHeartbeats 2000000 in
theorem l8Id_any {R : Nat → Prop} {w : World} {rb n p : Nat} {v : Value} (h : RdAt R w rb n p v) (hp : p ≤ 900000) :
    Calls Tryz.prog 42 #[.pointer (some ⟨rb, 0, none⟩)] w fun e w' => ∃ (c0 c1 c2 c3 c4 : Value) (f : Fm) (q : Nat), e = .returned (.agg #[c0, c1, c2, c3, c4]) ∧ FormAt (Fresh w w') w' f c0 c1 c2 c3 c4 ∧ f.sort = 1 ∧ f.kids = [] ∧ f.cost ≤ 7 ∧ q ≤ p + 5 ∧ Picked rb v w w' q := by
  have HR := hid h
  have hrb := h.own.lt
  clear h
  obtain ⟨i0, hi, hz0, hz1, hz2⟩ := info_parts Tryz.infoIntE
  have Hi := hid hi
  have Hz0 := hid hz0
  have Hz1 := hid hz1
  have Hz2 := hid hz2
  clear hi hz0 hz1 hz2
  go_enter Tryz.func42, Tryz.ntmps42
  go_wp2_with fail
  refine (of_rd ((HR.out.alloc _).alloc _) (w.heap.size + 1) [⟨#[97]⟩, ⟨#[98]⟩, ⟨#[99]⟩, ⟨#[101, 108, 115, 101]⟩] (by simp) (by simp) (by omega) (by simp) (fun i hi => by rcases i with _ | _ | _ | _ | i <;> first | (simp; done) | (simp at hi; omega))).mono ?_
  rintro e w1 ⟨s, hs, rfl, hp1, hz1⟩
  have hsz : s.size ≤ 4 := by
    simp only [List.mem_cons, List.not_mem_nil, or_false] at hs
    rcases hs with rfl | rfl | rfl | rfl <;> decide
  have HR1 := hid (((HR.out.alloc _).alloc _).picked hp1 (by omega))
  have HB1 := hid (((own_new w #[.int .i64 0, .string ⟨#[]⟩, .slice none 0 0, .int .i64 0, .slice none 0 0] 26).more (by simp) _).picked hp1 (by omega))
  have HP1 := hid ((HR.out.now.below (((Below.refl w.heap.size w).alloc (Nat.le_refl _) _).alloc (by simp) _) (Nat.le_refl _) hrb).trans hp1)
  simp only [World.size_alloc] at hz1
  clear hs hp1
  go_wp2_with fail
  refine (pick_rd HR1.out 9 (by omega) (by omega)).mono ?_
  rintro e w2 ⟨m, hm, rfl, hp2, hz2⟩
  have HR2 := hid (HR1.out.picked hp2 (by omega))
  have HB2 := hid (HB1.out.picked hp2 (by omega))
  have HP2 := hid (HP1.out.trans hp2)
  have hz : w2.heap.size = w.heap.size + 2 := by omega
  clear hp2 hz1 hz2 HR1 HB1 HP1
  go_wp2_with fail
  go_loopw [4] (fun i wr => ∃ k : Nat, k ≤ 3 ∧ i = .int .i64 k ∧ ∃ (xs : List Int) (ua : Option Addr) (uc : Nat) (q : Nat), xs.length ≤ k ∧ q ≤ p + 2 + k ∧ Hid (wr.ownsRow (w.heap.size + 3) 3 1 (.slice ua xs.length uc) xs.length (xs.map (Value.int .i64))) ∧ Hid (Own wr (w.heap.size + 2) 26 #[.int .i64 1, .string s, .slice ua xs.length uc, .int .i64 m, .slice none 0 0]) ∧ Hid (Own wr w.heap.size 26 #[.int .i64 0, .string ⟨#[]⟩, .slice none 0 0, .int .i64 0, .slice none 0 0]) ∧ Hid (RdAt R wr rb n q v) ∧ Hid (Picked rb v w wr q) ∧ w.heap.size + 3 ≤ wr.heap.size) (fun i _ => 3 - (intOf i).toNat)
  case atStart =>
    refine ⟨0, by omega, rfl, [], none, 0, p + 1 + 1, by simp, by omega, World.ownsRow_nil _ _ _ _, ?_, HB2.out.more (by omega) _, HR2.out.alloc _, HP2.out.below ((Below.refl w.heap.size w2).alloc (by omega) _) (Nat.le_refl _) hrb, by simp; omega⟩
    have h := own_new w2 #[.int .i64 1, .string s, .slice none 0 0, .int .i64 m, .slice none 0 0] 26
    rw [hz] at h
    exact h
  case round =>
    obtain ⟨k, hk, rfl, xs, ua, uc, q, hxl, hq, HU, HF, HB, HD, HP, hws⟩ := hrel
    have f2 := HF.out.cell 2
    have z2 := HF.out.frozen 2
    simp at f2
    by_cases hlt : k < 3
    · go_wp2_with fail
      refine (pick_rd HD.out 3 (by omega) (by omega)).mono ?_
      rintro e w3 ⟨m3, hm3, rfl, hp3, hz3⟩
      have HF3 := hid (HF.out.picked hp3 (by omega))
      have HB3 := hid (HB.out.picked hp3 (by omega))
      have HD3 := hid (HD.out.picked hp3 (by omega))
      have HP3 := hid (HP.out.trans hp3)
      have HU3 := hid (HU.out.kept hp3.1 (by cases hu : (Value.slice ua xs.length uc).ownBlock with | none => exact Or.inl rfl | some g => exact Or.inr fun e => by have := (HU.out.lt g hu).1; simp at e; omega))
      have f3 := HF3.out.cell 2
      have z3 := HF3.out.frozen 2
      simp at f3
      clear f2 z2 hp3 HF HB HD HP HU
      by_cases hm0 : m3 = 0
      · subst hm0
        go_wp2_with (at_builtin; refine wpList_append_lies _ rfl _ _ _ rfl (w.heap.size + 3) 3 i0 (.int .i64 0) 1 8 Tryz.underlying23 Hi.out Hz0.out Hz1.out Hz2.out rfl (by decide) _ xs.length (xs.map (Value.int .i64)) rfl (HU3.out.alloc _) ⟨wr.heap.size, 0, none⟩ 1 1 [.int .i64 k] rfl rfl (by rw [← hz3]; exact cell_one_new _ _ _) (by simp [Value.oneCell']) (by omega) (by unfold maxLen; omega) (by omega) (by simp; omega) (wr.heap.size + 1) (by simp; omega) ?_; intro gg cc w4 hown' hg hat hgl; have hall := (World.grownBy_alloc w3 _ _).trans hg; have HF4 := hid (HF3.out.far hall (fun e => by have := (HU3.out.lt _ e.symm).1; omega)); have f4 := HF4.out.cell 2; have z4 := HF4.out.frozen 2; simp at f4)
        have hlow : ∀ g, (Value.slice ua xs.length uc).ownBlock = some g → w.heap.size + 3 ≤ g := fun g e => (HU3.out.lt g e).1
        have hlow' : w.heap.size + 3 ≤ gg := (hown'.lt gg rfl).1
        have hs4 := hall.size
        have hgs := grown_set w4 (w.heap.size + 2) 2 (.slice (some ⟨gg, 0, none⟩) (xs.length + 1) cc)
        have hRd : ∀ g, w.heap.size ≤ g → ¬ R g ∧ g ≠ rb := fun g hg => ⟨fun h => by have := HR.out.low g h; omega, by omega⟩
        refine ⟨⟨k + 1, by omega, by go_num, xs ++ [(k : Int)], some ⟨gg, 0, none⟩, cc, q + 1, by simp; omega, by omega, ?_, ?_, ?_, ?_, ?_, by simp; omega⟩, by simp [intOf]; omega⟩
        · have h1 := hown'.kept hgs (Or.inr fun e => by simp [Value.ownBlock] at e; omega)
          show World.ownsRow _ _ _ _ _ _ _
          simpa using h1
        · have h1 := HF4.out.set 2 (.slice (some ⟨gg, 0, none⟩) (xs.length + 1) cc)
          show Own _ _ _ _
          simpa using h1
        · exact (HB3.out.far hall fun e => by have := hlow _ e.symm; omega).far hgs (by simp)
        · exact (HD3.out.far hall fun g e => hRd g (by have := hlow g e; omega)).far hgs fun g e => hRd g (by simp at e; omega)
        · exact (HP3.out.far hall (fun g e => by have := hlow g e; omega) hrb).far hgs (fun g e => by simp at e; omega) hrb
      · have hm0' : ((m3 : Int) == 0) = false := by simp; omega
        go_wp2_with fail
        exact ⟨⟨k + 1, by omega, by go_num, xs, ua, uc, q + 1, by omega, by omega, HU3, HF3, HB3, HD3, HP3, by omega⟩, by simp [intOf]; omega⟩
    · have f0 := HF.out.cell 0
      have f1 := HF.out.cell 1
      have f3 := HF.out.cell 3
      have f4 := HF.out.cell 4
      have b0 := HB.out.cell 0
      have b1 := HB.out.cell 1
      have b2 := HB.out.cell 2
      have b3 := HB.out.cell 3
      have b4 := HB.out.cell 4
      have y0 := HB.out.frozen 0
      have y1 := HB.out.frozen 1
      have y2 := HB.out.frozen 2
      have y3 := HB.out.frozen 3
      have y4 := HB.out.frozen 4
      simp at f0 f1 f3 f4 b0 b1 b2 b3 b4
      go_wp2_with fail
      refine bodyPost_ret (v := .agg #[.int .i64 1, .string s, .slice ua xs.length uc, .int .i64 m, .slice none 0 0]) (by simp [results, Tryz.results42, go_sem, b0, b1, b2, b3, b4]) rfl ?_
      have hg5 := wr5_grown wr w.heap.size (.int .i64 1) (.string s) (.slice ua xs.length uc) (.int .i64 m) (.slice none 0 0)
      have hsz5 := wr5_size wr w.heap.size (.int .i64 1) (.string s) (.slice ua xs.length uc) (.int .i64 m) (.slice none 0 0)
      refine ⟨_, _, _, _, _, ⟨1, s, xs, m, []⟩, q, rfl, (formAt_iff _ _ _ _ _ _ _ _).2 ⟨rfl, rfl, by unfold maxLen; show s.size ≤ _; omega, ?_, rfl, none, 0, rfl, Nat.zero_le _, Or.inl rfl⟩, rfl, rfl, ?_, by omega, HP.out.far hg5 (fun g e => by cases e; exact Nat.le_refl _) hrb⟩
      · refine row_ints (HU.out.kept hg5 ?_) (by unfold maxLen; show xs.length ≤ _; omega) fun g h1 h2 => ⟨by omega, h2⟩
        cases hu : (Value.slice ua xs.length uc).ownBlock with
        | none => exact Or.inl rfl
        | some g => exact Or.inr fun e => by have := (HU.out.lt g hu).1; simp at e; omega
      · rw [Fm.cost_eq]
        show s.size + xs.length + 0 + Fm.costs [] ≤ 7
        rw [Fm.costs_nil]; omega

end Go.Proofs.YtjbejnibiebjgaaGreat

namespace Go.Proofs.YtjbejnibiebjgaaGreat
open Go.RowKit Go.Siskin

/-- Cells, side by side, five for each form. -/
def FCells (S : Nat → Prop) (w : World) (cs : List Value) (ks : List Fm) : Prop := ∀ (i : Nat) (hi : i < ks.length),
  ∃ k0 k1 k2 k3 k4, cs[i * 5]? = some k0 ∧ cs[i * 5 + 1]? = some k1 ∧ cs[i * 5 + 2]? = some k2 ∧ cs[i * 5 + 3]? = some k3 ∧ cs[i * 5 + 4]? = some k4 ∧ FormAt S w ks[i] k0 k1 k2 k3 k4

theorem FCells.keep {S : Nat → Prop} {w w' : World} {cs : List Value} {ks : List Fm} (h : FCells S w cs ks) (hb : SameOn S w w') : FCells S w' cs ks := fun i hi => by
  obtain ⟨k0, k1, k2, k3, k4, e0, e1, e2, e3, e4, e5⟩ := h i hi
  exact ⟨k0, k1, k2, k3, k4, e0, e1, e2, e3, e4, FormAt.keep hb _ e5⟩
theorem FCells.mono {S S' : Nat → Prop} {w : World} {cs : List Value} {ks : List Fm} (h : FCells S w cs ks) (hb : ∀ b, S b → S' b) : FCells S' w cs ks := fun i hi => by
  obtain ⟨k0, k1, k2, k3, k4, e0, e1, e2, e3, e4, e5⟩ := h i hi
  exact ⟨k0, k1, k2, k3, k4, e0, e1, e2, e3, e4, FormAt.mono hb _ e5⟩
theorem FCells.snoc {S : Nat → Prop} {w : World} {cs : List Value} {ks : List Fm} {c0 c1 c2 c3 c4 : Value} {f : Fm} (h : FCells S w cs ks) (hl : cs.length = ks.length * 5) (hc : FormAt S w f c0 c1 c2 c3 c4) : FCells S w (cs ++ [c0, c1, c2, c3, c4]) (ks ++ [f]) := fun i hi => by
  rw [List.length_append, List.length_singleton] at hi
  by_cases e : i < ks.length
  · obtain ⟨k0, k1, k2, k3, k4, e0, e1, e2, e3, e4, e5⟩ := h i e
    refine ⟨k0, k1, k2, k3, k4, ?_, ?_, ?_, ?_, ?_, ?_⟩
    · rw [List.getElem?_append_left (by omega)]; exact e0
    · rw [List.getElem?_append_left (by omega)]; exact e1
    · rw [List.getElem?_append_left (by omega)]; exact e2
    · rw [List.getElem?_append_left (by omega)]; exact e3
    · rw [List.getElem?_append_left (by omega)]; exact e4
    · rw [List.getElem_append_left e]; exact e5
  · have hi' : i = ks.length := by omega
    subst hi'
    refine ⟨c0, c1, c2, c3, c4, ?_, ?_, ?_, ?_, ?_, ?_⟩
    · rw [List.getElem?_append_right (by omega), hl, Nat.sub_self]; rfl
    · rw [List.getElem?_append_right (by omega), hl, show ks.length * 5 + 1 - ks.length * 5 = 1 by omega]; rfl
    · rw [List.getElem?_append_right (by omega), hl, show ks.length * 5 + 2 - ks.length * 5 = 2 by omega]; rfl
    · rw [List.getElem?_append_right (by omega), hl, show ks.length * 5 + 3 - ks.length * 5 = 3 by omega]; rfl
    · rw [List.getElem?_append_right (by omega), hl, show ks.length * 5 + 4 - ks.length * 5 = 4 by omega]; rfl
    · simpa using hc

/-- A slice of forms that owns its row, from block base on; what the forms lead to lies in S, new blocks too, and not in the row. -/
structure Kids (S : Nat → Prop) (w : World) (base : Nat) (v : Value) (ks : List Fm) : Prop where
  row : ∃ cs, w.ownsRow base 26 5 v ks.length cs ∧ FCells S w cs ks
  off : ∀ g, v.ownBlock = some g → ¬ S g
  low : ∀ i, S i → base ≤ i ∧ i < w.heap.size

theorem kids_nil (S : Nat → Prop) (w : World) (base : Nat) (hS : ∀ i, S i → base ≤ i ∧ i < w.heap.size) : Kids S w base (.slice none 0 0) [] :=
  ⟨⟨[], World.ownsRow_nil _ _ _ _, fun i hi => absurd hi (by simp)⟩, fun _ h => (by cases h), hS⟩
theorem kids_no {w : World} {base : Nat} : Kids (fun _ => False) w base (.slice none 0 0) [] := kids_nil _ _ _ fun _ h => h.elim

/-- Over whatever leaves the forms and the row alone. -/
theorem Kids.keep {S : Nat → Prop} {w w' : World} {base : Nat} {v : Value} {ks : List Fm} (h : Kids S w base v ks) {row : Option Nat} (hg : w.grownBy w' row) (h1 : ∀ g, row = some g → ¬ S g) (h2 : v.ownBlock = none ∨ v.ownBlock ≠ row) : Kids S w' base v ks := by
  obtain ⟨⟨cs, r1, r2⟩, ho, hl⟩ := h
  exact ⟨⟨cs, r1.kept hg h2, r2.keep fun i hi => hg.block i (hl i hi).2 fun e => h1 i e.symm hi⟩, ho, fun i hi => ⟨(hl i hi).1, Nat.lt_of_lt_of_le (hl i hi).2 hg.size⟩⟩
theorem Kids.below {S : Nat → Prop} {w w' : World} {base : Nat} {v : Value} {ks : List Fm} (h : Kids S w base v ks) (hb : Below w.heap.size w w') : Kids S w' base v ks :=
  h.keep (row := none) ⟨hb.os, hb.tape, hb.output, hb.size, fun i hi _ => hb.block i hi⟩ (fun _ e => (by cases e)) (by cases v.ownBlock <;> simp)
/-- The forms may lead to more. -/
theorem Kids.more {S S' : Nat → Prop} {w : World} {base : Nat} {v : Value} {ks : List Fm} (h : Kids S w base v ks) (h1 : ∀ i, S i → S' i) (h2 : ∀ i, S' i → base ≤ i ∧ i < w.heap.size) (h3 : ∀ g, v.ownBlock = some g → ¬ S' g) : Kids S' w base v ks := by
  obtain ⟨⟨cs, r1, r2⟩, -, -⟩ := h
  exact ⟨⟨cs, r1, r2.mono h1⟩, h3, h2⟩
theorem Kids.lt {S : Nat → Prop} {w : World} {base : Nat} {v : Value} {ks : List Fm} (h : Kids S w base v ks) {g : Nat} (e : v.ownBlock = some g) : base ≤ g ∧ g < w.heap.size := by
  obtain ⟨⟨cs, r1, -⟩, -, -⟩ := h
  exact r1.lt g e
/-- With one form more. -/
theorem Kids.snoc {S : Nat → Prop} {w w' : World} {base : Nat} {v v' : Value} {ks : List Fm} (h : Kids S w base v ks) {cs : List Value} (r1 : w.ownsRow base 26 5 v ks.length cs) (r2 : FCells S w cs ks) {f : Fm} {c0 c1 c2 c3 c4 : Value} (hf : FormAt S w f c0 c1 c2 c3 c4)
    (hg : w.grownBy w' v.ownBlock) (hr : w'.ownsRow base 26 5 v' (ks.length + 1) (cs ++ [c0, c1, c2, c3, c4])) (hloc : v'.ownBlock = v.ownBlock ∨ ∃ g, v'.ownBlock = some g ∧ w.heap.size ≤ g) : Kids S w' base v' (ks ++ [f]) := by
  have hs : SameOn S w w' := fun i hi => hg.block i (h.low i hi).2 fun e => h.off i e.symm hi
  refine ⟨⟨_, by rw [List.length_append, List.length_singleton]; exact hr, (r2.snoc (by have := r1.1; omega) hf).keep hs⟩, fun g e hS => ?_, fun i hi => ⟨(h.low i hi).1, Nat.lt_of_lt_of_le (h.low i hi).2 hg.size⟩⟩
  rcases hloc with h1 | ⟨g', h1, h2⟩
  · exact h.off g (by rw [← h1]; exact e) hS
  · rw [h1] at e
    cases e
    have := (h.low _ hS).2
    omega
theorem Kids.shape {S : Nat → Prop} {w : World} {base : Nat} {v : Value} {ks : List Fm} (h : Kids S w base v ks) : ∃ a c, v = .slice a ks.length c := by
  obtain ⟨⟨cs, r1, -⟩, -, -⟩ := h
  rcases r1.2 with ⟨rfl, h0⟩ | ⟨g, cap, cur, rfl, -⟩
  · exact ⟨none, 0, by rw [h0]⟩
  · exact ⟨_, _, rfl⟩
/-- As forms in memory. -/
theorem Kids.forms {S : Nat → Prop} {w : World} {base : Nat} {v : Value} {ks : List Fm} (h : Kids S w base v ks) (hn : ks.length ≤ maxLen) {B : Nat → Prop} (hB : ∀ i, base ≤ i → i < w.heap.size → B i) : FormsAt B w v ks := by
  obtain ⟨⟨cs, r1, r2⟩, -, hl⟩ := h
  have r1' := r1
  rcases r1.2 with ⟨rfl, h0⟩ | ⟨g, cap, cur, rfl, hb, hg, -, -, -, -⟩
  · have : ks = [] := List.length_eq_zero_iff.1 h0
    subst this
    exact ⟨none, 0, rfl, Nat.zero_le _, Or.inl rfl⟩
  · refine ⟨some ⟨g, 0, none⟩, cap, rfl, hn, Or.inr ⟨g, 0, rfl, hB g hb (Array.getElem?_eq_some_iff.1 hg).1, RowAt.mk _ fun i hi => ?_⟩⟩
    obtain ⟨k0, k1, k2, k3, k4, e0, e1, e2, e3, e4, e5⟩ := r2 i hi
    have k := r1'.cells (g := g) rfl
    have q0 := k _ _ e0
    have q1 := k _ _ e1
    have q2 := k _ _ e2
    have q3 := k _ _ e3
    have q4 := k _ _ e4
    rw [Go.WideShapes.add_plain] at q0 q1 q2 q3 q4
    exact ⟨k0, k1, k2, k3, k4, q0, q1, q2, q3, q4, FormAt.mono (fun i hi => hB i (hl i hi).1 (hl i hi).2) _ e5⟩

theorem Tryz.infoFormE : (Tryz.prog.info? 26).map (fun i => (i.zero, i.size, i.bytes)) = some (some (.agg #[.int .i64 0, .string ⟨#[]⟩, .slice none 0 0, .int .i64 0, .slice none 0 0]), 5, 80) := by kernel_rfl

/-- 'append(s, u...)' of ints onto a row of the call's own that is there. -/
theorem run_append_ints (w : World) (base : Nat) (i : TypeInfo) (ty : TypeId) (hi : Tryz.prog.info? 3 = some i) (hz : i.zero = some (.int .i64 0)) (h1 : i.size = 1) (h2 : i.bytes = 8)
    (g0 n cap : Nat) (ys : List Int) (hown : w.ownsRow base 3 1 (.slice (some ⟨g0, 0, none⟩) n cap) n (ys.map (Value.int .i64))) (B : Nat → Prop) (u : Value) (xs : List Int) (hu : IntsAt B w u xs) (hn : n + xs.length ≤ 1048576 * 2) (hb : base ≤ w.heap.size) :
    ∃ g c w', (Builtin.append_ #[23, 23] ty #[.slice (some ⟨g0, 0, none⟩) n cap, u]).run Tryz.prog w = .ok (.slice (some ⟨g, 0, none⟩) (n + xs.length) c) w' ∧ w'.ownsRow base 3 1 (.slice (some ⟨g, 0, none⟩) (n + xs.length) c) (n + xs.length) ((ys ++ xs).map (Value.int .i64)) ∧ w.grownBy w' (some g0) ∧ base ≤ g := by
  obtain ⟨a, cu, rfl, -, hu⟩ := hu
  have form : ∀ {v' : Value} {w' : World} {m : Nat} {zs : List Value}, w'.ownsRow base 3 1 v' m zs → v' ≠ .slice none 0 0 → ∃ g c, v' = .slice (some ⟨g, 0, none⟩) m c ∧ base ≤ g := by
    intro v' w' m zs h hne
    rcases h.2 with ⟨e, -⟩ | ⟨g, c, cur, e, hb, -⟩
    · exact absurd e hne
    · exact ⟨g, c, e, hb⟩
  have some_case : ∀ (ad : Addr), (∀ j u, (xs.map (Value.int .i64))[j]? = some u → w.cell? (ad.add j) = some u) → ∃ g c w', (Builtin.append_ #[23, 23] ty #[.slice (some ⟨g0, 0, none⟩) n cap, .slice (some ad) xs.length cu]).run Tryz.prog w = .ok (.slice (some ⟨g, 0, none⟩) (n + xs.length) c) w' ∧ w'.ownsRow base 3 1 (.slice (some ⟨g, 0, none⟩) (n + xs.length) c) (n + xs.length) ((ys ++ xs).map (Value.int .i64)) ∧ w.grownBy w' (some g0) ∧ base ≤ g := by
    intro ad had
    obtain ⟨v', w', hr, ho, hg, hnil, -⟩ := run_append_own_at (P := Tryz.prog) w base 23 ty 3 i (.int .i64 0) 1 8 Tryz.underlying23 hi hz h1 h2 rfl (by decide) _ n _ hown ad xs.length cu (xs.map (Value.int .i64)) (by simp) had (fun u hu => by obtain ⟨x, -, rfl⟩ := List.mem_map.1 hu; rfl) (by unfold maxLen; omega) (by omega) hb
    have hne : v' ≠ .slice none 0 0 := fun e => by have := (hnil.1 e).1; cases this
    obtain ⟨g, c, rfl, hbg⟩ := form ho hne
    exact ⟨g, c, w', hr, by rw [List.map_append]; exact ho, hg, hbg⟩
  rcases hu with rfl | ⟨b, o, rfl, -, hu⟩
  · cases a with
    | some ad => exact some_case ad (fun j u hj => by simp at hj)
    | none =>
      have hbg : base ≤ g0 := (hown.lt g0 rfl).1
      refine ⟨g0, cap, w, ?_, by simpa using hown, World.grownBy.refl _ _, hbg⟩
      have hcap : n ≤ cap := by
        rcases hown.2 with ⟨e, -⟩ | ⟨g, c, cur, e, -, -, hle, -⟩
        · cases e
        · cases e; exact hle
      have hr := run_append_room_src (P := Tryz.prog) (w := w) 23 23 ty 3 i Tryz.underlying23 hi g0 0 n cap (.slice none 0 cu) 0 [] (Src.ofNil w Tryz.underlying23 cu) (by omega) (fun j hj => absurd hj (by simp)) (fun j hj => absurd hj (by simp))
      simpa [World.setCells] using hr
  · refine some_case ⟨b, o, none⟩ fun j u hj => ?_
    rw [List.getElem?_map] at hj
    by_cases hjl : j < xs.length
    · rw [List.getElem?_eq_getElem hjl] at hj
      cases hj
      have := hu j hjl
      rw [Go.WideShapes.add_plain, this, List.getD_eq_getElem?_getD, List.getElem?_eq_getElem hjl]; rfl
    · rw [List.getElem?_eq_none (by omega)] at hj
      cases hj

end Go.Proofs.YtjbejnibiebjgaaGreat
