/-
  The drawing of digits, l16Digits. Condition: the reader and its bytes lie in memory apart, and it has not picked too often.
  Memory: a slice of numbers of one kind, as it lies in memory; the table of powers of ten.
  Plain numbers: a number in groups of nine decimal digits, the lowest first. No program is named.
  The program's naturals: isNought, isOne, trimmed, naturalOf. Condition: the groups lie in memory as NatA says.
  Plain numbers: digits from the right under adding, taking away; what carrying comes to. No program is named.
-/
import Derived.Test.YtbbffhpppacihaaDoorPart2
import Derived.Test.YtbbffhpppacihaaDoorProg
import Derived.Test.YtbbffhpppacihaaDoorPart1
import Derived.Deep.AppendLies
import Derived.Laws.OwnMore
import Derived.Deep.QuietTactic
import Derived.BigQuiet
import Derived.Deep.Draws
namespace Go.Proofs.YtbbffhpppacihaaDoor
open Go.RowKit Go.Siskin

theorem grown_of_below {w w' : World} (h : Below w.heap.size w w') (row : Option Nat) : w.grownBy w' row := ⟨h.os, h.tape, h.output, h.size, fun i hi _ => h.block i hi⟩

/-- The list that a few are drawn of. -/
abbrev fewL : List ByteArray := [⟨#[48]⟩, ⟨#[49]⟩, ⟨#[50]⟩, ⟨#[49, 48]⟩, ⟨#[49, 48, 48]⟩, ⟨#[57, 57, 57]⟩, ⟨#[49, 48, 48, 48]⟩]
theorem few_dec {s : ByteArray} (h : s ∈ fewL) : ∃ x, s = dec x ∧ Lib.nDigits x ≤ 60 := by
  have e0 : dec 0 = ⟨#[48]⟩ := dec_small (by decide)
  have e1 : dec 1 = ⟨#[49]⟩ := dec_small (by decide)
  have e2 : dec 2 = ⟨#[50]⟩ := dec_small (by decide)
  have e9 : dec 9 = ⟨#[57]⟩ := dec_small (by decide)
  have e10 : dec 10 = ⟨#[49, 48]⟩ := by rw [dec_big (by decide), show 10 / 10 = 1 from rfl, e1]; rfl
  have e99 : dec 99 = ⟨#[57, 57]⟩ := by rw [dec_big (by decide), show 99 / 10 = 9 from rfl, e9]; rfl
  have e100 : dec 100 = ⟨#[49, 48, 48]⟩ := by rw [dec_big (by decide), show 100 / 10 = 10 from rfl, e10]; rfl
  have e999 : dec 999 = ⟨#[57, 57, 57]⟩ := by rw [dec_big (by decide), show 999 / 10 = 99 from rfl, e99]; rfl
  have e1000 : dec 1000 = ⟨#[49, 48, 48, 48]⟩ := by rw [dec_big (by decide), show 1000 / 10 = 100 from rfl, e100]; rfl
  have hd : ∀ x, x < 10000 → Lib.nDigits x ≤ 60 := fun x h => Nat.le_trans (nDigits_le (m := 4) h (by decide)) (by decide)
  simp only [List.mem_cons, List.not_mem_nil, or_false] at h
  rcases h with rfl | rfl | rfl | rfl | rfl | rfl | rfl
  · exact ⟨0, e0.symm, hd _ (by decide)⟩
  · exact ⟨1, e1.symm, hd _ (by decide)⟩
  · exact ⟨2, e2.symm, hd _ (by decide)⟩
  · exact ⟨10, e10.symm, hd _ (by decide)⟩
  · exact ⟨100, e100.symm, hd _ (by decide)⟩
  · exact ⟨999, e999.symm, hd _ (by decide)⟩
  · exact ⟨1000, e1000.symm, hd _ (by decide)⟩

set_option maxRecDepth 20000 in
set_option maxHeartbeats 2000000 in
theorem l16Digits_rd {R : Nat → Prop} {w : World} {rb n p : Nat} {v : Value} (h : RdAt R w rb n p v) (hp : p ≤ 900000) :
    Calls Tryd.prog 102 #[.pointer (some ⟨rb, 0, none⟩)] w fun e w' => ∃ x q : Nat, Lib.nDigits x ≤ 60 ∧ e = .returned (.string (dec x)) ∧ q ≤ p + 70 ∧ Picked rb v w w' q := by
  have HR := hid h
  have hrb := h.own.lt
  have HRn := hid h.now
  clear h
  go_enter Tryd.func102, Tryd.ntmps102
  go_wp2_with fail
  refine (pick_rd HR.out 4 (by omega) (by omega)).mono ?_
  rintro e w1 ⟨m1, hm1, rfl, hp1, -⟩
  have HR1 := hid (HR.out.picked hp1 (by omega))
  have HP1 := hid (HRn.out.trans hp1)
  clear hp1
  go_wp2_with fail
  refine (pick_rd HR1.out 8 (by omega) (by omega)).mono ?_
  rintro e w2 ⟨k, hk, rfl, hp2, -⟩
  have HR2 := hid (HR1.out.picked hp2 (by omega))
  have HP2 := hid (HP1.out.trans hp2)
  clear hp2
  have hcase : k = 0 ∨ k = 1 ∨ k = 2 ∨ 3 ≤ k := by omega
  have hstart : digT 0 0 = ⟨#[]⟩ := rfl
  have HStart := hid hstart
  clear hstart
  rcases hcase with rfl | rfl | rfl | hk3
  · go_wp2_with fail
    refine (pick_rd HR2.out 30 (by omega) (by omega)).mono ?_
    rintro e w3 ⟨m, hm, rfl, hp3, -⟩
    have HR3 := hid (HR2.out.picked hp3 (by omega))
    have HP3 := hid (HP2.out.trans hp3)
    clear hp3
    go_wp2_with fail
    obtain ⟨N, hN, h1, h60⟩ : ∃ N : Nat, 1 + (m : Int) = (N : Int) ∧ 1 ≤ N ∧ N ≤ 60 := ⟨1 + m, by omega, by omega, by omega⟩
    rw [hN]
    clear hN
    go_loopw [4, 5] (fun o i wr => ∃ j x q : Nat, o = .string (digT j x) ∧ i = .int .i64 j ∧ j ≤ N ∧ q ≤ p + 3 + j ∧ Hid (x < 10 ^ j) ∧ Hid (RdAt R wr rb n q v) ∧ Hid (Picked rb v w wr q)) (fun _ i _ => N - (intOf i).toNat)
    case atStart => exact ⟨0, 0, p + 1 + 1 + 1, by rw [HStart.out], rfl, Nat.zero_le _, by omega, by show 0 < 10 ^ 0; decide, HR3.out, HP3.out⟩
    case round =>
      obtain ⟨j, x, q, rfl, rfl, hj, hq, HX, HRr, HPr⟩ := hrel
      by_cases hlt : j < N
      · have hsz : (digT j x).size ≤ 60 := by rw [digT_size]; omega
        have HSn := hid (fun d (hd : d < 10) => digT_snoc j x d hd)
        generalize digT j x = DJ at *
        go_wp2_with fail
        refine (pick_rd HRr.out 10 (by omega) (by omega)).mono ?_
        rintro e w4 ⟨d, hd, rfl, hp4, -⟩
        have HR4 := hid (HRr.out.picked hp4 (by omega))
        have HP4 := hid (HPr.out.trans hp4)
        have HSm := hid (fun w => l11Small_any d w (by omega))
        rw [dec_small hd] at HSm
        have HSn2 := hid (HSn.out d hd)
        have hs1 : (⟨#[UInt8.ofNat (48 + d)]⟩ : ByteArray).size = 1 := rfl
        generalize (⟨#[UInt8.ofNat (48 + d)]⟩ : ByteArray) = SD at *
        have hcat : ¬ ((9223372036854775807 : Nat) < DJ.size + SD.size) := by omega
        clear hp4
        go_wp2_with fail
        refine (HSm.out _).mono ?_
        rintro e w5 ⟨rfl, hw5⟩
        have HR5 := hid (HR4.out.below hw5)
        have HP5 := hid (HP4.out.below hw5 HP4.out.1.size hrb)
        clear hw5
        go_wp2_with fail
        have HX2 : Hid (x * 10 + d < 10 ^ (j + 1)) := by
          show _ < _
          have := HX.out
          rw [Nat.pow_succ]; omega
        go_roundw
        case rel => exact ⟨j + 1, x * 10 + d, q + 1, by rw [HSn2.out], by go_num, hlt, by omega, HX2.out, HR5.out, HP5.out⟩
        case measure => simp [intOf]; omega
      · obtain rfl : j = N := by omega
        have HTr := hid (fun w => l11Trim_any j x w (Nat.le_trans h60 (by decide)) (by omega) HX.out)
        generalize digT j x = DJ at *
        go_wp2_with fail
        refine (HTr.out _).mono ?_
        rintro e w' ⟨rfl, hw⟩
        obtain rfl := hw.symm
        go_wp2_with fail
        go_ret
        exact ⟨x, q, Nat.le_trans (nDigits_le HX.out (by omega)) h60, rfl, by omega, HPr.out⟩
  · go_wp2_with fail
    refine (pick_rd HR2.out 3 (by omega) (by omega)).mono ?_
    rintro e w3 ⟨m, hm, rfl, hp3, -⟩
    have HR3 := hid (HR2.out.picked hp3 (by omega))
    have HP3 := hid (HP2.out.trans hp3)
    clear hp3
    go_wp2_with fail
    obtain ⟨N, hN, h1, h60⟩ : ∃ N : Nat, 60 - (m : Int) = (N : Int) ∧ 1 ≤ N ∧ N ≤ 60 := ⟨60 - m, by omega, by omega, by omega⟩
    rw [hN]
    clear hN
    go_loopw [4, 5] (fun o i wr => ∃ j x q : Nat, o = .string (digT j x) ∧ i = .int .i64 j ∧ j ≤ N ∧ q ≤ p + 3 + j ∧ Hid (x < 10 ^ j) ∧ Hid (RdAt R wr rb n q v) ∧ Hid (Picked rb v w wr q)) (fun _ i _ => N - (intOf i).toNat)
    case atStart => exact ⟨0, 0, p + 1 + 1 + 1, by rw [HStart.out], rfl, Nat.zero_le _, by omega, by show 0 < 10 ^ 0; decide, HR3.out, HP3.out⟩
    case round =>
      obtain ⟨j, x, q, rfl, rfl, hj, hq, HX, HRr, HPr⟩ := hrel
      by_cases hlt : j < N
      · have hsz : (digT j x).size ≤ 60 := by rw [digT_size]; omega
        have HSn := hid (fun d (hd : d < 10) => digT_snoc j x d hd)
        generalize digT j x = DJ at *
        go_wp2_with fail
        refine (pick_rd HRr.out 10 (by omega) (by omega)).mono ?_
        rintro e w4 ⟨d, hd, rfl, hp4, -⟩
        have HR4 := hid (HRr.out.picked hp4 (by omega))
        have HP4 := hid (HPr.out.trans hp4)
        have HSm := hid (fun w => l11Small_any d w (by omega))
        rw [dec_small hd] at HSm
        have HSn2 := hid (HSn.out d hd)
        have hs1 : (⟨#[UInt8.ofNat (48 + d)]⟩ : ByteArray).size = 1 := rfl
        generalize (⟨#[UInt8.ofNat (48 + d)]⟩ : ByteArray) = SD at *
        have hcat : ¬ ((9223372036854775807 : Nat) < DJ.size + SD.size) := by omega
        clear hp4
        go_wp2_with fail
        refine (HSm.out _).mono ?_
        rintro e w5 ⟨rfl, hw5⟩
        have HR5 := hid (HR4.out.below hw5)
        have HP5 := hid (HP4.out.below hw5 HP4.out.1.size hrb)
        clear hw5
        go_wp2_with fail
        have HX2 : Hid (x * 10 + d < 10 ^ (j + 1)) := by
          show _ < _
          have := HX.out
          rw [Nat.pow_succ]; omega
        go_roundw
        case rel => exact ⟨j + 1, x * 10 + d, q + 1, by rw [HSn2.out], by go_num, hlt, by omega, HX2.out, HR5.out, HP5.out⟩
        case measure => simp [intOf]; omega
      · obtain rfl : j = N := by omega
        have HTr := hid (fun w => l11Trim_any j x w (Nat.le_trans h60 (by decide)) (by omega) HX.out)
        generalize digT j x = DJ at *
        go_wp2_with fail
        refine (HTr.out _).mono ?_
        rintro e w' ⟨rfl, hw⟩
        obtain rfl := hw.symm
        go_wp2_with fail
        go_ret
        exact ⟨x, q, Nat.le_trans (nDigits_le HX.out (by omega)) h60, rfl, by omega, HPr.out⟩
  · go_wp2_with fail
    refine (of_rd (HR2.out.alloc _) w2.heap.size fewL (by simp) (by simp) (by have := HR2.out.own.lt; omega) (by simp) (fun i hi => by rcases i with _ | _ | _ | _ | _ | _ | _ | i <;> first | (simp; done) | (simp at hi; omega))).mono ?_
    rintro e w3 ⟨s, hs, rfl, hp3, -⟩
    have HP3 := hid ((HP2.out.below ((Below.refl w2.heap.size w2).alloc (Nat.le_refl _) _) HP2.out.1.size hrb).trans hp3)
    obtain ⟨x, rfl, hx⟩ := few_dec hs
    clear hs hp3
    go_wp2_with fail
    go_ret
    exact ⟨x, _, hx, rfl, by omega, HP3.out⟩
  · have hk5 : k = 3 ∨ k = 4 ∨ k = 5 ∨ k = 6 ∨ k = 7 := by omega
    clear hk3 hk
    have HR3 := hid HR2.out
    have HP3 := hid HP2.out
    rcases hk5 with rfl | rfl | rfl | rfl | rfl
    all_goals
      go_wp2_with fail
      obtain ⟨N, hN, h1, h60⟩ : ∃ N : Nat, 1 + (m1 : Int) = (N : Int) ∧ 1 ≤ N ∧ N ≤ 60 := ⟨1 + m1, by omega, by omega, by omega⟩
      rw [hN]
      clear hN
      go_loopw [4, 5] (fun o i wr => ∃ j x q : Nat, o = .string (digT j x) ∧ i = .int .i64 j ∧ j ≤ N ∧ q ≤ p + 3 + j ∧ Hid (x < 10 ^ j) ∧ Hid (RdAt R wr rb n q v) ∧ Hid (Picked rb v w wr q)) (fun _ i _ => N - (intOf i).toNat)
      case atStart => exact ⟨0, 0, p + 1 + 1, by rw [HStart.out], rfl, Nat.zero_le _, by omega, by show 0 < 10 ^ 0; decide, HR3.out, HP3.out⟩
      case round =>
        obtain ⟨j, x, q, rfl, rfl, hj, hq, HX, HRr, HPr⟩ := hrel
        by_cases hlt : j < N
        · have hsz : (digT j x).size ≤ 60 := by rw [digT_size]; omega
          have HSn := hid (fun d (hd : d < 10) => digT_snoc j x d hd)
          generalize digT j x = DJ at *
          go_wp2_with fail
          refine (pick_rd HRr.out 10 (by omega) (by omega)).mono ?_
          rintro e w4 ⟨d, hd, rfl, hp4, -⟩
          have HR4 := hid (HRr.out.picked hp4 (by omega))
          have HP4 := hid (HPr.out.trans hp4)
          have HSm := hid (fun w => l11Small_any d w (by omega))
          rw [dec_small hd] at HSm
          have HSn2 := hid (HSn.out d hd)
          have hs1 : (⟨#[UInt8.ofNat (48 + d)]⟩ : ByteArray).size = 1 := rfl
          generalize (⟨#[UInt8.ofNat (48 + d)]⟩ : ByteArray) = SD at *
          have hcat : ¬ ((9223372036854775807 : Nat) < DJ.size + SD.size) := by omega
          clear hp4
          go_wp2_with fail
          refine (HSm.out _).mono ?_
          rintro e w5 ⟨rfl, hw5⟩
          have HR5 := hid (HR4.out.below hw5)
          have HP5 := hid (HP4.out.below hw5 HP4.out.1.size hrb)
          clear hw5
          go_wp2_with fail
          have HX2 : Hid (x * 10 + d < 10 ^ (j + 1)) := by
            show _ < _
            have := HX.out
            rw [Nat.pow_succ]; omega
          go_roundw
          case rel => exact ⟨j + 1, x * 10 + d, q + 1, by rw [HSn2.out], by go_num, hlt, by omega, HX2.out, HR5.out, HP5.out⟩
          case measure => simp [intOf]; omega
        · obtain rfl : j = N := by omega
          have HTr := hid (fun w => l11Trim_any j x w (Nat.le_trans h60 (by decide)) (by omega) HX.out)
          generalize digT j x = DJ at *
          go_wp2_with fail
          refine (HTr.out _).mono ?_
          rintro e w' ⟨rfl, hw⟩
          obtain rfl := hw.symm
          go_wp2_with fail
          go_ret
          exact ⟨x, q, Nat.le_trans (nDigits_le HX.out (by omega)) h60, rfl, by omega, HPr.out⟩
end Go.Proofs.YtbbffhpppacihaaDoor

namespace Go.Siskin
open Go.RowKit

/-- The cells of numbers. -/
def numL (k : IntKind) (xs : List Nat) : List Value := xs.map fun x : Nat => Value.int k (x : Int)
theorem numL_length (k : IntKind) (xs : List Nat) : (numL k xs).length = xs.length := by simp [numL]
theorem numL_get (k : IntKind) (xs : List Nat) (i : Nat) (h : i < xs.length) : (numL k xs)[i]? = some (.int k (xs[i] : Int)) := by simp [numL, h]
theorem numL_snoc (k : IntKind) (xs : List Nat) (x : Nat) : numL k (xs ++ [x]) = numL k xs ++ [.int k (x : Int)] := by simp [numL]
theorem numL_set (k : IntKind) (xs : List Nat) (i x : Nat) : numL k (xs.set i x) = (numL k xs).set i (.int k (x : Int)) := by simp [numL, List.map_set]

/-- A slice of numbers that lies in blocks of B. -/
def RowOf (k : IntKind) (B : Nat → Prop) (w : World) (v : Value) (xs : List Nat) : Prop :=
  ∃ a cap, v = .slice a xs.length cap ∧ xs.length ≤ cap ∧ cap ≤ maxLen ∧ (xs = [] ∨ ∃ b o, a = some ⟨b, o, none⟩ ∧ B b ∧ ∀ i (h : i < xs.length), w.cell? ⟨b, o + i, none⟩ = some (.int k (xs[i] : Int)))

theorem RowOf.keep {k : IntKind} {B : Nat → Prop} {w w' : World} {v : Value} {xs : List Nat} (h : RowOf k B w v xs) (hb : SameOn B w w') : RowOf k B w' v xs := by
  obtain ⟨a, cap, e, h1, h2, h⟩ := h
  refine ⟨a, cap, e, h1, h2, ?_⟩
  rcases h with h | ⟨b, o, e, hB, h⟩
  · exact Or.inl h
  · exact Or.inr ⟨b, o, e, hB, fun i hi => (hb.cell hB (o + i)).trans (h i hi)⟩
theorem RowOf.mono {k : IntKind} {B B' : Nat → Prop} {w : World} {v : Value} {xs : List Nat} (h : RowOf k B w v xs) (hb : ∀ b, B b → B' b) : RowOf k B' w v xs := by
  obtain ⟨a, cap, e, h1, h2, h⟩ := h
  refine ⟨a, cap, e, h1, h2, ?_⟩
  rcases h with h | ⟨b, o, e, hB, h⟩
  · exact Or.inl h
  · exact Or.inr ⟨b, o, e, hb b hB, h⟩

/-- Groups that lie in what is there. -/
def NatA (w : World) (v : Value) (gs : List Nat) : Prop := RowOf .u64 (fun b => b < w.heap.size) w v gs
theorem NatA.below {w w' : World} {v : Value} {gs : List Nat} {n : Nat} (h : NatA w v gs) (hb : Below n w w') (hn : w.heap.size ≤ n) : NatA w' v gs := by
  have hs := hb.size
  exact (RowOf.keep h (hb.on (fun b hb => by omega))).mono (fun b h => by omega)
theorem NatA.alloc {w : World} {v : Value} {gs : List Nat} (h : NatA w v gs) (o : Obj) : NatA (w.alloc o) v gs := h.below ((Below.refl w.heap.size w).alloc (Nat.le_refl _) o) (Nat.le_refl _)
theorem NatA.drew {w : World} {v : Value} {gs : List Nat} (h : NatA w v gs) : NatA w.drew v gs := h.below (Below.refl w.heap.size w).drew (Nat.le_refl _)
theorem NatA.nil {w : World} : NatA w (.slice none 0 0) [] := ⟨none, 0, rfl, Nat.le_refl _, Nat.zero_le _, Or.inl rfl⟩

theorem cell_one_newZ (w : World) (v : Value) (t : TypeId) : ∀ (j : Nat) u, [v][j]? = some u → (w.alloc (.cells #[v] t)).cell? ((⟨w.heap.size, 0, none⟩ : Addr).add j) = some u := by
  intro j u h
  cases j with
  | zero =>
    simp at h; subst h
    rw [show (⟨w.heap.size, 0, none⟩ : Addr).add 0 = ⟨w.heap.size, 0, none⟩ by simp [Addr.add]]
    exact (own_new w #[v] t).cell 0
  | succ j => simp at h

theorem ownsRow_get {w : World} {base n : Nat} {e : TypeId} {k : IntKind} {v : Value} {xs : List Nat} (h : w.ownsRow base e 1 v n (numL k xs)) {B : Nat → Prop} (hB : ∀ g, v.ownBlock = some g → B g) : RowOf k B w v xs := by
  have hl := h.1
  rw [numL_length] at hl
  rcases h.2 with ⟨rfl, h0⟩ | ⟨g, cap, cur, rfl, hb, hg, hcap, hc2, -, -⟩
  · have : xs = [] := List.length_eq_zero_iff.1 (by omega)
    subst this
    exact ⟨none, 0, rfl, Nat.le_refl _, Nat.zero_le _, Or.inl rfl⟩
  · refine ⟨some ⟨g, 0, none⟩, cap, by rw [hl, Nat.mul_one], by omega, hc2, Or.inr ⟨g, 0, rfl, hB g rfl, fun i hi => ?_⟩⟩
    have k' := h.cells (g := g) rfl i _ (numL_get k xs i hi)
    rw [Go.WideShapes.add_plain] at k'
    exact k'
theorem natA_own {w : World} {base n : Nat} {e : TypeId} {v : Value} {xs : List Nat} (h : w.ownsRow base e 1 v n (numL .u64 xs)) : NatA w v xs := ownsRow_get h (fun g e => (h.lt g e).2)
theorem intsAt_own {w : World} {base n : Nat} {e : TypeId} {v : Value} {xs : List Nat} (h : w.ownsRow base e 1 v n (numL .i64 xs)) (hn : xs.length ≤ maxLen) : IntsAt (fun b => b < w.heap.size) w v (xs.map fun d : Nat => (d : Int)) := by
  obtain ⟨a, cap, e, h1, h2, h3⟩ := ownsRow_get h (B := fun b => b < w.heap.size) (fun g e => (h.lt g e).2)
  refine ⟨a, cap, by rw [List.length_map]; exact e, ⟨by rw [List.length_map]; omega, by rw [List.length_map]; omega⟩, ?_⟩
  rcases h3 with h3 | ⟨b, o, e, hB, h3⟩
  · left; rw [h3]; rfl
  · refine Or.inr ⟨b, o, e, hB, fun i hi => ?_⟩
    rw [List.length_map] at hi
    rw [h3 i hi]; simp [List.getD_eq_getElem?_getD, hi]
end Go.Siskin
namespace Go.Proofs.YtbbffhpppacihaaDoor
open Go.RowKit Go.Siskin

theorem Tryd.infoIntZ : (Tryd.prog.info? 3).map (fun i => (i.zero, i.size, i.bytes)) = some (some (.int .i64 0), 1, 8) := by kernel_rfl
theorem Tryd.infoWordZ : (Tryd.prog.info? 80).map (fun i => (i.zero, i.size, i.bytes)) = some (some (.int .u64 0), 1, 8) := by kernel_rfl
theorem ret_exz {v v' : Value} (h : v = v') : Ending.returned v = .returned v' := by rw [h]

/-- The table of powers of ten stands. -/
def Pow9 (w : World) : Prop := 1 < w.heap.size ∧ ∀ i, i < 9 → w.cell? ⟨1, i, none⟩ = some (.int .u64 ((10 ^ i : Nat) : Int))
theorem Pow9.below {w w' : World} {n : Nat} (h : Pow9 w) (hb : Below n w w') (hn : w.heap.size ≤ n) : Pow9 w' := by
  obtain ⟨h0, h1⟩ := h
  exact ⟨by have := hb.size; omega, fun i hi => (hb.cell (p := ⟨1, i, none⟩) (by show 1 < n; omega)).trans (h1 i hi)⟩
theorem Pow9.alloc {w : World} (h : Pow9 w) (o : Obj) : Pow9 (w.alloc o) := h.below ((Below.refl w.heap.size w).alloc (Nat.le_refl _) o) (Nat.le_refl _)
theorem Pow9.drew {w : World} (h : Pow9 w) : Pow9 w.drew := h.below (Below.refl w.heap.size w).drew (Nat.le_refl _)
end Go.Proofs.YtbbffhpppacihaaDoor

namespace Go.Siskin

theorem p9 : (1000000000 : Nat) = 10 ^ 9 := rfl
theorem p9k (k : Nat) : 1000000000 ^ k = 10 ^ (9 * k) := by rw [p9, Nat.pow_mul]
theorem p9pos (k : Nat) : 0 < 1000000000 ^ k := Nat.pow_pos (by decide)

/-- The lowest m groups of v. -/
def grpN (m v : Nat) : List Nat := (List.range m).map fun i => v / 1000000000 ^ i % 1000000000
/-- How many groups v has; nought has none. -/
def nG (v : Nat) : Nat := if v = 0 then 0 else (Lib.nDigits v - 1) / 9 + 1
/-- The groups of v. -/
def grp (v : Nat) : List Nat := grpN (nG v) v

theorem grpN_length (m v : Nat) : (grpN m v).length = m := by simp [grpN]
theorem grp_length (v : Nat) : (grp v).length = nG v := grpN_length _ _
theorem grpN_get (m v i : Nat) (h : i < (grpN m v).length) : (grpN m v)[i] = v / 1000000000 ^ i % 1000000000 := by simp [grpN]
theorem grpN_zero (v : Nat) : grpN 0 v = [] := rfl
theorem grpN_snoc (m v : Nat) : grpN (m + 1) v = grpN m v ++ [v / 1000000000 ^ m % 1000000000] := by
  unfold grpN; rw [List.range_succ, List.map_append]; rfl
theorem grpN_take (m j v : Nat) (h : j ≤ m) : (grpN m v).take j = grpN j v := by
  apply List.ext_getElem
  · simp [grpN]; omega
  · intro i h1 h2; simp [grpN]
theorem grpN_drop (m j v : Nat) : (grpN m v).drop j = grpN (m - j) (v / 1000000000 ^ j) := by
  apply List.ext_getElem
  · simp [grpN]
  · intro i h1 h2
    simp only [grpN, List.getElem_drop, List.getElem_map, List.getElem_range]
    rw [Nat.div_div_eq_div_mul, ← Nat.pow_add]

theorem nG_zero : nG 0 = 0 := rfl
theorem grp_zero : grp 0 = [] := rfl
theorem nG_pos {v : Nat} (h : 0 < v) : 0 < nG v := by unfold nG; rw [if_neg (by omega)]; omega
theorem lt_pow_nG (v : Nat) : v < 1000000000 ^ nG v := by
  by_cases h : v = 0
  · subst h; simp [nG]
  · rw [p9k]
    unfold nG; rw [if_neg h]
    refine Nat.lt_of_lt_of_le (Lib.lt_pow_nDigits v) (Nat.pow_le_pow_right (by decide) ?_)
    have := Lib.nDigits_pos v
    omega
theorem pow_le_nG {v : Nat} (h : 0 < v) : 1000000000 ^ (nG v - 1) ≤ v := by
  rw [p9k]
  unfold nG; rw [if_neg (by omega)]
  refine Nat.le_trans (Nat.pow_le_pow_right (by decide) ?_) (pow_le_dec h)
  omega
theorem nG_of {v m : Nat} (h1 : v < 1000000000 ^ m) (h2 : m = 0 ∨ 1000000000 ^ (m - 1) ≤ v) : nG v = m := by
  rcases Nat.eq_zero_or_pos v with h0 | h0
  · subst h0
    rcases h2 with h2 | h2
    · subst h2; rfl
    · have := p9pos (m - 1); omega
  · have a1 := lt_pow_nG v
    have a2 := pow_le_nG h0
    have a3 := nG_pos h0
    rcases h2 with h2 | h2
    · subst h2; simp at h1; omega
    · have b1 : 1000000000 ^ (nG v - 1) < 1000000000 ^ m := by omega
      have b2 := (Nat.pow_lt_pow_iff_right (by decide)).1 b1
      have b3 : 1000000000 ^ (m - 1) < 1000000000 ^ nG v := by omega
      have b4 := (Nat.pow_lt_pow_iff_right (by decide)).1 b3
      omega
theorem grpN_grp {v m : Nat} (h1 : v < 1000000000 ^ m) (h2 : m = 0 ∨ 1000000000 ^ (m - 1) ≤ v) : grpN m v = grp v := by unfold grp; rw [nG_of h1 h2]
theorem nG_le {v m : Nat} (h : v < 1000000000 ^ m) : nG v ≤ m := by
  rcases Nat.eq_zero_or_pos v with h0 | h0
  · subst h0; exact Nat.zero_le _
  · have a2 := pow_le_nG h0
    have a3 := nG_pos h0
    have b1 : 1000000000 ^ (nG v - 1) < 1000000000 ^ m := by omega
    have b2 := (Nat.pow_lt_pow_iff_right (by decide)).1 b1
    omega
theorem nG_mono {a b : Nat} (h : a ≤ b) : nG a ≤ nG b := nG_le (Nat.lt_of_le_of_lt h (lt_pow_nG b))
theorem nG_one {v : Nat} (h0 : 0 < v) (h : v < 1000000000) : nG v = 1 := nG_of (by simpa using h) (Or.inr (by simp; omega))
theorem grp_one {v : Nat} (h0 : 0 < v) (h : v < 1000000000) : grp v = [v] := by
  unfold grp; rw [nG_one h0 h]; simp [grpN, Nat.mod_eq_of_lt h]
theorem nG_is_zero {v : Nat} : nG v = 0 ↔ v = 0 := by
  constructor
  · intro h
    have := lt_pow_nG v
    rw [h] at this; simp at this; exact this
  · rintro rfl; rfl
/-- The greatest group is not nought. -/
theorem top_pos {v : Nat} (h : 0 < v) : 0 < v / 1000000000 ^ (nG v - 1) ∧ v / 1000000000 ^ (nG v - 1) < 1000000000 := by
  have a1 := lt_pow_nG v
  have a2 := pow_le_nG h
  have a3 := nG_pos h
  refine ⟨Nat.div_pos a2 (p9pos _), Nat.div_lt_of_lt_mul ?_⟩
  rw [← Nat.pow_succ, show (nG v - 1).succ = nG v by omega]
  exact a1
theorem top_get {v : Nat} (h : 0 < v) : v / 1000000000 ^ (nG v - 1) % 1000000000 = v / 1000000000 ^ (nG v - 1) := Nat.mod_eq_of_lt (top_pos h).2

/-- A digit out of its group. -/
theorem digit_group (v p : Nat) : v / 1000000000 ^ (p / 9) % 1000000000 / 10 ^ (p % 9) % 10 = v / 10 ^ p % 10 := by
  rw [p9k]
  obtain ⟨q, hq⟩ : ∃ q, q = p / 9 := ⟨_, rfl⟩
  obtain ⟨r, hr⟩ : ∃ r, r = p % 9 := ⟨_, rfl⟩
  rw [← hq, ← hr]
  have hp : p = 9 * q + r := by omega
  have hr9 : r < 9 := by omega
  rw [hp, Nat.pow_add, ← Nat.div_div_eq_div_mul]
  generalize v / 10 ^ (9 * q) = x
  obtain ⟨s, hs⟩ : ∃ s, 9 = r + (s + 1) := ⟨9 - r - 1, by omega⟩
  rw [p9, hs, Nat.pow_add, Nat.mod_mul_right_div_self, Nat.mod_mod_of_dvd]
  exact ⟨10 ^ s, by rw [Nat.pow_succ, Nat.mul_comm]⟩

/-- How many digits, by the greatest group. -/
theorem nDigits_top {v : Nat} (h : 0 < v) : Lib.nDigits v = 9 * (nG v - 1) + Lib.nDigits (v / 1000000000 ^ (nG v - 1)) := by
  obtain ⟨k, hk⟩ : ∃ k, k = nG v - 1 := ⟨_, rfl⟩
  have t := top_pos h
  rw [← hk] at t ⊢
  obtain ⟨x, hx⟩ : ∃ x, x = v / 1000000000 ^ k := ⟨_, rfl⟩
  rw [← hx] at t ⊢
  have hp := Lib.nDigits_pos x
  obtain ⟨d, hd⟩ : ∃ d, Lib.nDigits x = d + 1 := ⟨Lib.nDigits x - 1, by omega⟩
  have l1 := Lib.lt_pow_nDigits x
  have l2 := pow_le_dec t.1
  rw [hd] at l1 l2 ⊢
  rw [Nat.add_sub_cancel] at l2
  rw [← Nat.add_assoc]
  have hP := p9pos k
  refine Lib.nDigits_unique (9 * k + d) v ?_ ?_
  · rw [Nat.pow_add, ← p9k]
    refine Nat.le_trans (Nat.mul_le_mul_left _ l2) ?_
    rw [hx]; exact Nat.mul_div_le v _
  · rw [Nat.add_assoc, Nat.pow_add, ← p9k]
    refine Nat.lt_of_lt_of_le ?_ (Nat.mul_le_mul_left _ (Nat.succ_le_of_lt l1))
    rw [hx, Nat.mul_comm]
    have h1 := Nat.div_add_mod v (1000000000 ^ k)
    have h2 := Nat.mod_lt v hP
    rw [Nat.succ_mul, Nat.mul_comm (v / _)]; omega
/-- How many of the nine powers are not above x. -/
def nPow (x j : Nat) : Nat := ((List.range j).filter fun i => 10 ^ i ≤ x).length
theorem nPow_succ (x j : Nat) : nPow x (j + 1) = nPow x j + if 10 ^ j ≤ x then 1 else 0 := by
  unfold nPow
  rw [List.range_succ, List.filter_append, List.length_append]
  by_cases h : 10 ^ j ≤ x
  · rw [if_pos h, List.filter_cons_of_pos (by simpa using h)]; rfl
  · rw [if_neg h, List.filter_cons_of_neg (by simpa using h)]; rfl
theorem nPow_le (x : Nat) : ∀ j, nPow x j ≤ j
  | 0 => Nat.le_refl _
  | j + 1 => by
    rw [nPow_succ]
    have := nPow_le x j
    split <;> omega
theorem nPow_min {x : Nat} (h : 0 < x) : ∀ j, nPow x j = min j (Lib.nDigits x)
  | 0 => by simp [nPow]
  | j + 1 => by
    rw [nPow_succ, nPow_min h j]
    have l1 := Lib.lt_pow_nDigits x
    have l2 := pow_le_dec h
    have hp := Lib.nDigits_pos x
    by_cases hj : 10 ^ j ≤ x
    · rw [if_pos hj]
      have : 10 ^ j < 10 ^ Lib.nDigits x := by omega
      have := (Nat.pow_lt_pow_iff_right (by decide)).1 this
      omega
    · rw [if_neg hj]
      have : 10 ^ (Lib.nDigits x - 1) < 10 ^ j := by omega
      have := (Nat.pow_lt_pow_iff_right (by decide)).1 this
      omega
theorem nPow_nine {x : Nat} (h : 0 < x) (h9 : x < 1000000000) : nPow x 9 = Lib.nDigits x := by
  rw [nPow_min h]
  have := nDigits_le (v := x) (m := 9) (by rw [← p9]; exact h9) (by decide)
  omega
end Go.Siskin

namespace Go.Proofs.YtbbffhpppacihaaDoor
open Go.RowKit Go.Siskin

theorem nG_lim {x : Nat} (h : nG x ≤ 1000) : (nG x : Int) ≤ 1000 := by omega

set_option maxHeartbeats 400000 in
theorem isNought_any (x : Nat) (v : Value) (w : World) (h : NatA w v (grp x)) :
    Calls Tryd.prog 81 #[v] w fun e w' => e = .returned (.bool (x == 0)) ∧ w' = w := by
  obtain ⟨a, cap, rfl, h1, h2, h3⟩ := h
  rw [grp_length] at *
  have HE : Hid ((x == 0) = ((nG x : Int) == 0)) := by
    show _ = _
    rw [Bool.eq_iff_iff]
    have := @nG_is_zero x
    simp; omega
  unfold maxLen at h2
  clear h3
  go_enter Tryd.func81, Tryd.ntmps81
  go_wp2_with fail
  go_ret
  exact ⟨ret_boolz HE.out.symm, rfl⟩

set_option maxHeartbeats 400000 in
theorem isOne_any (x : Nat) (v : Value) (w : World) (h : NatA w v (grp x)) :
    Calls Tryd.prog 82 #[v] w fun e w' => e = .returned (.bool (x == 1)) ∧ w' = w := by
  obtain ⟨a, cap, rfl, h1, h2, h3⟩ := h
  have HG := hid (grpN_get (nG x) x)
  rw [grp_length] at *
  unfold maxLen at h2
  by_cases h1x : nG x = 1
  · have hb : ((nG x : Int) == 1) = true := by rw [h1x]; rfl
    rcases h3 with h3 | ⟨b, o, rfl, -, h3⟩
    · have := congrArg List.length h3; rw [grp_length, h1x] at this; simp at this
    have hx0 : 0 < x := by
      rcases Nat.eq_zero_or_pos x with h | h
      · subst h; simp [nG] at h1x
      · exact h
    have hxs := lt_pow_nG x
    rw [h1x, Nat.pow_one] at hxs
    have g : w.cell? ⟨b, o, none⟩ = some (.int .u64 (x : Int)) := by
      have h := h3 0 (by rw [grp_length]; omega)
      rw [Nat.add_zero] at h
      rw [h]
      unfold grp; rw [HG.out]; simp [Nat.mod_eq_of_lt hxs]
    have hpos : 0 < nG x := by omega
    clear h3 h1x HG
    go_enter Tryd.func82, Tryd.ntmps82
    go_wp2_with fail
    go_ret
    exact ⟨ret_boolz (by rw [Bool.eq_iff_iff]; simp; omega), rfl⟩
  · have hb : ((nG x : Int) == 1) = false := by rw [beq_eq_false_iff_ne]; omega
    have HE : Hid ((x == 1) = false) := by
      show _ = _
      rw [beq_eq_false_iff_ne]; rintro rfl; exact h1x (nG_one (by decide) (by decide))
    clear h3 HG
    go_enter Tryd.func82, Tryd.ntmps82
    go_wp2_with fail
    go_ret
    exact ⟨ret_boolz HE.out.symm, rfl⟩

set_option maxHeartbeats 1000000 in
theorem trimmed_row (B : Nat → Prop) (m x : Nat) (v : Value) (w : World) (h : RowOf .u64 B w v (grpN m x)) (hx : x < 1000000000 ^ m) :
    Calls Tryd.prog 99 #[v] w fun e w' => ∃ u, e = .returned u ∧ RowOf .u64 B w' u (grp x) ∧ w' = w := by
  obtain ⟨a, cap, rfl, h1, h2, h3⟩ := h
  have HG := hid (grpN_get m x)
  have HN := hid h3
  rw [grpN_length] at *
  unfold maxLen at h2
  have HX := hid hx
  clear h3 hx
  go_enter Tryd.func99, Tryd.ntmps99
  go_wp2_with fail
  go_loop [0] (fun n => ∃ j : Nat, j ≤ m ∧ n = .slice a j cap ∧ Hid (x < 1000000000 ^ j)) (fun n => match n with | .slice _ j _ => j | _ => 0)
  case atStart => exact ⟨m, Nat.le_refl _, rfl, HX.out⟩
  case round =>
    obtain ⟨j, hj, rfl, HJ⟩ := hrel
    have HEnd : Hid ((j = 0 ∨ 1000000000 ^ (j - 1) ≤ x) → RowOf .u64 B w (.slice a j cap) (grp x)) := fun hh => by
      have e := grpN_grp HJ.out hh
      rw [← e]
      refine ⟨a, cap, by rw [grpN_length], by rw [grpN_length]; omega, by unfold maxLen; omega, ?_⟩
      rcases HN.out with h | ⟨b, o, e1, hb, h⟩
      · left
        have := congrArg List.length h; rw [grpN_length] at this; simp at this
        have : j = 0 := by omega
        subst this; rfl
      · refine Or.inr ⟨b, o, e1, hb, fun i hi => ?_⟩
        rw [grpN_length] at hi
        rw [h i (by rw [grpN_length]; omega), grpN_get, grpN_get]
    by_cases h0 : j = 0
    · subst h0
      go_wp2_with fail
      go_ret
      exact ⟨_, rfl, HEnd.out (by simp), rfl⟩
    · have hj0 : 0 < j := by omega
      rcases HN.out with h | ⟨b, o, rfl, hb, h⟩
      · have := congrArg List.length h; rw [grpN_length] at this; simp at this; omega
      have g := h (j - 1) (by rw [grpN_length]; omega)
      rw [grpN_get, show o + (j - 1) = o + (j - 1) from rfl] at g
      clear h hb
      obtain ⟨i, rfl⟩ : ∃ i, j = i + 1 := ⟨j - 1, by omega⟩
      rw [Nat.add_sub_cancel] at g
      obtain ⟨y, HY⟩ : ∃ y, Hid (x / 1000000000 ^ i % 1000000000 = y) := ⟨_, rfl⟩
      rw [HY.out] at g
      by_cases hy : y = 0
      · subst hy
        have HJ2 : Hid (x < 1000000000 ^ i) := by
          have h1 := HJ.out
          rw [Nat.pow_succ] at h1
          have h2 : x / 1000000000 ^ i < 1000000000 := Nat.div_lt_of_lt_mul h1
          have h3 := HY.out
          rw [Nat.mod_eq_of_lt h2] at h3
          have hp := p9pos i
          rcases Nat.lt_or_ge x (1000000000 ^ i) with h | h
          · exact h
          · have := Nat.div_pos h hp; omega
        go_wp2_with fail
        go_round
        case rel => exact ⟨i, by omega, by congr 1, HJ2⟩
        case measure => simp
      · have hyb : ((y : Int) == 0) = false := by rw [beq_eq_false_iff_ne]; omega
        have HE2 : Hid (RowOf .u64 B w (.slice (some ⟨b, o, none⟩) (i + 1) cap) (grp x)) := HEnd.out (Or.inr (by
          rw [Nat.add_sub_cancel]
          rcases Nat.lt_or_ge x (1000000000 ^ i) with h | h
          · have := HY.out; rw [Nat.div_eq_of_lt h] at this; simp at this; omega
          · exact h))
        clear hy
        go_wp2_with fail
        go_ret
        exact ⟨_, rfl, HE2.out, rfl⟩
theorem trimmed_any (m x : Nat) (v : Value) (w : World) (h : NatA w v (grpN m x)) (hx : x < 1000000000 ^ m) :
    Calls Tryd.prog 99 #[v] w fun e w' => ∃ u, e = .returned u ∧ NatA w' u (grp x) ∧ w' = w := by
  refine (trimmed_row (fun b => b < w.heap.size) m x v w h hx).mono ?_
  rintro e w' ⟨u, rfl, h1, rfl⟩
  exact ⟨u, rfl, h1, rfl⟩

set_option maxRecDepth 20000 in
set_option maxHeartbeats 1000000 in
theorem naturalOf_any (x : Nat) (w : World) (hx : x ≤ 18446744073709551615) :
    Calls Tryd.prog 56 #[.int .u64 x] w fun e w' => ∃ u, e = .returned u ∧ NatA w' u (grp x) ∧ Below w.heap.size w w' := by
  obtain ⟨i0, hi, hz0, hz1, hz2⟩ := info_partsZ Tryd.infoWordZ
  have Hi := hid hi
  have Hz0 := hid hz0
  have Hz1 := hid hz1
  have Hz2 := hid hz2
  clear hi hz0 hz1 hz2
  have HX := hid hx
  clear hx
  go_enter Tryd.func56, Tryd.ntmps56
  go_wp2_with fail
  go_loopw [0, 3] (fun z n wr => ∃ (k y : Nat) (ua : Option Addr) (uc : Nat), z = .int .u64 y ∧ n = .slice ua k uc ∧ Hid (x / 1000000000 ^ k = y) ∧ k ≤ 3 ∧ Hid (k = 0 ∨ 1000000000 ^ (k - 1) ≤ x) ∧ Hid (wr.ownsRow w.heap.size 80 1 (.slice ua k uc) k (numL .u64 (grpN k x))) ∧ Hid (Below w.heap.size w wr)) (fun _ n _ => match n with | .slice _ j _ => 3 - j | _ => 0)
  case atStart => exact ⟨0, x, none, 0, rfl, rfl, by show _ = _; simp, by omega, Or.inl rfl, World.ownsRow_nil _ _ _ _, Below.refl _ _⟩
  case round =>
    obtain ⟨k, y, ua, uc, rfl, rfl, HY, hk3, HT, HU, HB⟩ := hrel
    have hsz := HB.out.size
    by_cases hy : 0 < y
    · have hk : k < 3 := by
        rcases Nat.lt_or_ge k 3 with h | h
        · exact h
        · exfalso
          have hk3 : k = 3 := by omega
          subst hk3
          have h1 := HY.out
          have h2 := HX.out
          rw [Nat.div_eq_of_lt (by simp; omega)] at h1
          omega
      have HT2 : Hid (1000000000 ^ k ≤ x) := by
        rcases Nat.lt_or_ge x (1000000000 ^ k) with h | h
        · have := HY.out; rw [Nat.div_eq_of_lt h] at this; omega
        · exact h
      have hyl : y ≤ 18446744073709551615 := by rw [← HY.out]; exact Nat.le_trans (Nat.div_le_self _ _) HX.out
      have hw1 : IntKind.u64.wrap ((y : Int).tmod 1000000000) = (y : Int) % 1000000000 := by
        rw [Int.tmod_eq_emod_of_nonneg (by omega)]; simp [IntKind.wrap, IntKind.bits, IntKind.signed]; omega
      have hw2 : IntKind.u64.wrap ((y : Int).tdiv 1000000000) = (y : Int) / 1000000000 := by
        rw [Int.tdiv_eq_ediv_of_nonneg (by omega)]; simp [IntKind.wrap, IntKind.bits, IntKind.signed]; omega
      have HYL := hid hyl
      clear hyl
      go_wp2_with (at_builtin; refine wpList_append_lies _ rfl _ _ _ rfl w.heap.size 80 i0 (.int .u64 0) 1 8 Tryd.underlying48 Hi.out Hz0.out Hz1.out Hz2.out rfl (by decide) _ k (numL .u64 (grpN k x)) rfl (HU.out.alloc _) ⟨wr.heap.size, 0, none⟩ 1 1 [.int .u64 ((y : Int) % 1000000000)] rfl rfl (cell_one_newZ _ _ _) (by simp [Value.oneCell']) (by omega) (by unfold maxLen; omega) (by omega) (by simp; omega) (wr.heap.size + 1) (by simp) ?_; intro gg cc w4 hown' hg hat hgl; have hall := (World.grownBy_alloc wr _ _).trans hg)
      have hlow : ∀ g, (Value.slice ua k uc).ownBlock = some g → w.heap.size ≤ g := fun g e => (HU.out.lt g e).1
      have e2 : ((x / 1000000000 ^ k % 1000000000 : Nat) : Int) = (y : Int) % 1000000000 := by rw [HY.out]; omega
      refine ⟨⟨k + 1, y / 1000000000, some ⟨gg, 0, none⟩, cc, by congr 1, rfl, by show _ = _; rw [Nat.pow_succ, ← Nat.div_div_eq_div_mul, HY.out], by omega, Or.inr (by rw [Nat.add_sub_cancel]; exact HT2.out), ?_, HB.out.grown hall hsz hlow⟩, by simp; omega⟩
      show World.ownsRow _ _ _ _ _ _ _
      rw [grpN_snoc, numL_snoc, e2]
      exact hown'
    · obtain rfl : y = 0 := by omega
      have HE := hid (grpN_grp (v := x) (m := k) (by
        have h := HY.out
        rcases Nat.lt_or_ge x (1000000000 ^ k) with h' | h'
        · exact h'
        · have := Nat.div_pos h' (p9pos k); omega) HT.out)
      go_wp2_with fail
      go_ret
      refine ⟨_, rfl, ?_, HB.out⟩
      have := natA_own HU.out
      rw [HE.out] at this
      exact this
end Go.Proofs.YtbbffhpppacihaaDoor

namespace Go.Proofs.YtbbffhpppacihaaDoor
open Go.RowKit Go.Siskin

theorem okD_snoc {ds : List Nat} {x : Nat} (h : OkD ds) (hx : x < 10) : OkD (ds ++ [x]) := by
  intro d hd
  rcases List.mem_append.1 hd with hd | hd
  · exact h d hd
  · simp at hd; omega
theorem add_step {ds : List Nat} {a b k x y c : Nat} (hl : ds.length = k) (h : lowD ds + c * 10 ^ k = a % 10 ^ k + b % 10 ^ k) (hx : a / 10 ^ k % 10 = x) (hy : b / 10 ^ k % 10 = y) :
    lowD (ds ++ [(x + y + c) % 10]) + (x + y + c) / 10 * 10 ^ (k + 1) = a % 10 ^ (k + 1) + b % 10 ^ (k + 1) := by
  rw [lowD_append, hl, Nat.mod_pow_succ, Nat.mod_pow_succ, hx, hy, Nat.pow_succ]
  have e : (x + y + c) % 10 * 10 ^ k + (x + y + c) / 10 * (10 ^ k * 10) = (x + y + c) * 10 ^ k := by
    rw [Nat.mul_comm (10 ^ k) 10, ← Nat.mul_assoc, ← Nat.add_mul]
    congr 1; omega
  have e2 : (x + y + c) * 10 ^ k = 10 ^ k * x + 10 ^ k * y + c * 10 ^ k := by
    rw [Nat.add_mul, Nat.add_mul, Nat.mul_comm x, Nat.mul_comm y]
  omega
theorem add_more {ds : List Nat} {a b k c M : Nat} (h : lowD ds + c * 10 ^ k = a % 10 ^ k + b % 10 ^ k) (hc : 0 < c) (hM1 : Lib.nDigits a ≤ M) (hM2 : Lib.nDigits b ≤ M) : k ≤ M := by
  rcases Nat.lt_or_ge M k with hk | hk
  · exfalso
    have h1 : a < 10 ^ M := Nat.lt_of_lt_of_le (Lib.lt_pow_nDigits a) (Nat.pow_le_pow_right (by decide) hM1)
    have h2 : b < 10 ^ M := Nat.lt_of_lt_of_le (Lib.lt_pow_nDigits b) (Nat.pow_le_pow_right (by decide) hM2)
    have h3 : 10 ^ (M + 1) ≤ 10 ^ k := Nat.pow_le_pow_right (by decide) hk
    rw [Nat.pow_succ] at h3
    have h4 := Nat.mod_le a (10 ^ k)
    have h5 := Nat.mod_le b (10 ^ k)
    have h6 : 10 ^ k ≤ c * 10 ^ k := Nat.le_mul_of_pos_left _ hc
    omega
  · exact hk
theorem add_end {ds : List Nat} {a b k c : Nat} (h : lowD ds + c * 10 ^ k = a % 10 ^ k + b % 10 ^ k) (ha : Lib.nDigits a ≤ k) (hb : Lib.nDigits b ≤ k) (hc : c = 0) : lowD ds = a + b := by
  have h1 : a < 10 ^ k := Nat.lt_of_lt_of_le (Lib.lt_pow_nDigits a) (Nat.pow_le_pow_right (by decide) ha)
  have h2 : b < 10 ^ k := Nat.lt_of_lt_of_le (Lib.lt_pow_nDigits b) (Nat.pow_le_pow_right (by decide) hb)
  rw [Nat.mod_eq_of_lt h1, Nat.mod_eq_of_lt h2, hc] at h
  omega
theorem sub_step0 {ds : List Nat} {a b k x y c : Nat} (hl : ds.length = k) (h : lowD ds + b % 10 ^ k = a % 10 ^ k + c * 10 ^ k) (hx : a / 10 ^ k % 10 = x) (hy : b / 10 ^ k % 10 = y) (hle : y + c ≤ x) :
    lowD (ds ++ [x - y - c]) + b % 10 ^ (k + 1) = a % 10 ^ (k + 1) + 0 * 10 ^ (k + 1) := by
  rw [lowD_append, hl, Nat.mod_pow_succ, Nat.mod_pow_succ, hx, hy]
  obtain ⟨z, rfl⟩ : ∃ z, x = z + y + c := ⟨x - y - c, by omega⟩
  rw [show z + y + c - y - c = z by omega]
  have : 10 ^ k * (z + y + c) = z * 10 ^ k + 10 ^ k * y + c * 10 ^ k := by rw [Nat.mul_add, Nat.mul_add, Nat.mul_comm _ z, Nat.mul_comm _ c]
  omega
theorem sub_step1 {ds : List Nat} {a b k x y c : Nat} (hl : ds.length = k) (h : lowD ds + b % 10 ^ k = a % 10 ^ k + c * 10 ^ k) (hx : a / 10 ^ k % 10 = x) (hy : b / 10 ^ k % 10 = y) (hle : x < y + c) (hc : c ≤ 1) :
    lowD (ds ++ [x + 10 - y - c]) + b % 10 ^ (k + 1) = a % 10 ^ (k + 1) + 1 * 10 ^ (k + 1) := by
  rw [lowD_append, hl, Nat.mod_pow_succ, Nat.mod_pow_succ, hx, hy, Nat.pow_succ]
  obtain ⟨z, hz⟩ : ∃ z, x + 10 = z + y + c := ⟨x + 10 - y - c, by omega⟩
  rw [show x + 10 - y - c = z by omega]
  have e : 10 ^ k * (x + 10) = 10 ^ k * (z + y + c) := by rw [hz]
  have e2 : 10 ^ k * (z + y + c) = z * 10 ^ k + 10 ^ k * y + c * 10 ^ k := by rw [Nat.mul_add, Nat.mul_add, Nat.mul_comm _ z, Nat.mul_comm _ c]
  rw [Nat.mul_add] at e
  omega
theorem sub_end {ds : List Nat} {a b k c : Nat} (hd : OkD ds) (hl : ds.length = k) (h : lowD ds + b % 10 ^ k = a % 10 ^ k + c * 10 ^ k) (ha : Lib.nDigits a = k) (hb : b ≤ a) : lowD ds = a - b := by
  have h1 : a < 10 ^ k := by rw [← ha]; exact Lib.lt_pow_nDigits a
  have h3 := lowD_lt ds hd
  rw [hl] at h3
  rw [Nat.mod_eq_of_lt h1, Nat.mod_eq_of_lt (Nat.lt_of_le_of_lt hb h1)] at h
  have : c = 0 := by
    rcases Nat.eq_zero_or_pos c with h0 | h0
    · exact h0
    · have h6 : 10 ^ k ≤ c * 10 ^ k := Nat.le_mul_of_pos_left _ h0
      omega
  subst this
  omega
end Go.Proofs.YtbbffhpppacihaaDoor
