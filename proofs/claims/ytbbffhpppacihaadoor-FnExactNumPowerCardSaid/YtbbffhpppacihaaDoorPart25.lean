/-
  The program's bitsOf: the bits of a number, from the highest one. Condition: at most 1000.
  The program's powerOf. Condition: the base lies in memory, at most 7 groups above and below; the table of powers stands; from 0 to 1000 times.
-/
import Derived.Test.YtbbffhpppacihaaDoorPart23
import Derived.Test.YtbbffhpppacihaaDoorPart21
import Derived.Test.YtbbffhpppacihaaDoorPart20
import Derived.Test.YtbbffhpppacihaaDoorPart12
import Derived.Test.YtbbffhpppacihaaDoorShelf5
import Derived.RangeFuncNested
import Derived.RangeFuncBound
import Derived.RangeFuncCalls
import Derived.RangeFuncLeaves
import Derived.Shelf.Abstract
import Derived.Shelf.RegionOpen
import Derived.WalkKit
import Derived.OwnWalkIn
import Derived.TacticsInMore
import Derived.LoopNIn
import Derived.LoopIn
import Derived.Lib.ItoaNum
namespace Go.Proofs.YtbbffhpppacihaaDoor
open Go.RowKit Go.Shelf
attribute [local go_sem] Oper.semAt_some

/-- The bits of a number, from the highest one. -/
def bitsL (N : Nat) : List Bool := (List.range (Lib.bitLen N)).map fun i => (N / 2 ^ (Lib.bitLen N - 1 - i) % 2 == 1)
theorem bitsL_length (N : Nat) : (bitsL N).length = Lib.bitLen N := by simp [bitsL]
theorem bitsL_take (N i : Nat) (h : i < Lib.bitLen N) : (bitsL N).take (i + 1) = (bitsL N).take i ++ [(N / 2 ^ (Lib.bitLen N - 1 - i) % 2 == 1)] := by
  rw [List.take_add_one]
  congr 1
  simp [bitsL, h]
theorem bitLen_lt (N : Nat) (h : N ≤ 1000) : N < 2 ^ Lib.bitLen N := by
  rcases Nat.eq_zero_or_pos N with rfl | h0
  · exact Nat.pow_pos (by decide)
  · exact (Lib.bitLenAux_bounds 64 N (by omega) (by omega)).2.2
theorem bitLen_ten (N : Nat) (h : N ≤ 1000) : Lib.bitLen N ≤ 10 := Lib.bitLen_le N 10 (by decide) (by omega)
/-- What bits tell. -/
def bitsV (bs : List Bool) : Nat := bs.foldl (fun v b => 2 * v + (if b then 1 else 0)) 0
theorem bitsV_snoc (bs : List Bool) (b : Bool) : bitsV (bs ++ [b]) = 2 * bitsV bs + (if b then 1 else 0) := by simp [bitsV]
theorem bitsV_take (N : Nat) (h : N ≤ 1000) : ∀ i, i ≤ Lib.bitLen N → bitsV ((bitsL N).take i) = N / 2 ^ (Lib.bitLen N - i)
  | 0, _ => by
    rw [Nat.sub_zero, Nat.div_eq_of_lt (bitLen_lt N h)]; rfl
  | i + 1, hi => by
    rw [bitsL_take N i hi, bitsV_snoc, bitsV_take N h i (by omega)]
    have e1 : Lib.bitLen N - i = (Lib.bitLen N - 1 - i) + 1 := by omega
    have e2 : Lib.bitLen N - (i + 1) = Lib.bitLen N - 1 - i := by omega
    rw [e1, e2, Nat.pow_succ, ← Nat.div_div_eq_div_mul]
    generalize N / 2 ^ (Lib.bitLen N - 1 - i) = q
    rcases Nat.mod_two_eq_zero_or_one q with h2 | h2 <;> simp [h2] <;> omega
theorem bitsV_all (N : Nat) (h : N ≤ 1000) : bitsV (bitsL N) = N := by
  have := bitsV_take N h (Lib.bitLen N) (Nat.le_refl _)
  rw [List.take_of_length_le (by rw [bitsL_length]; exact Nat.le_refl _)] at this
  simpa using this
theorem bitsV_prefix (N : Nat) (h : N ≤ 1000) {pre : List Bool} (hp : pre <+: bitsL N) : bitsV pre ≤ N := by
  have e := List.prefix_iff_eq_take.1 hp
  have hl := hp.length_le
  rw [bitsL_length] at hl
  rw [e, bitsV_take N h _ hl]
  exact Nat.div_le_self _ _

/-- What a round must keep: the box that the iterator reads. -/
def KpB (Bn : Nat) (W W' : World) : Prop := W'.heap[Bn]? = W.heap[Bn]?
theorem KpB.tr {Bn : Nat} {A B C : World} (h : KpB Bn A B) (k : KpB Bn B C) : KpB Bn A C := Eq.trans k h

set_option maxRecDepth 20000 in
set_option maxHeartbeats 800000 in
theorem bits1_in (n : Nat) (hn : 4 ≤ n) (l Bn N : Nat) (hN : N ≤ 1000) (J Jx : List Bool → World → Prop)
    (hY : ∀ pre x W, J pre W → pre.length < (bitsL N).length → YieldAt Fence.wide (n - 1) Tryd.prog l #[.bool x] W fun e W' =>
      (e = .returned (.bool true) ∧ J (pre ++ [x]) W' ∧ KpB Bn W W') ∨ (e = .returned (.bool false) ∧ Jx (pre ++ [x]) W'))
    (W : World) (hBn : W.cell? ⟨Bn, 0, none⟩ = some (.int .u64 (N : Int))) (h0 : J [] W) :
    CallsIn Fence.wide n Tryd.prog 94 #[.func (.yield l) #[] #[], .pointer (some ⟨Bn, 0, none⟩)] W fun e W' => (∃ v, e = .returned v) ∧
      ((∃ ys, ys = bitsL N ∧ J ys W') ∨ (∃ pre, pre <+: bitsL N ∧ Jx pre W')) := by
  have hten := bitLen_ten N hN
  have HBL := Tryd.bits_Len (N : Int) W (by omega) (by omega)
  rw [Int.toNat_natCast] at HBL
  obtain ⟨L, hL⟩ : ∃ L, Lib.bitLen N = L := ⟨_, rfl⟩
  rw [hL] at HBL hten
  refine callsIn_of_wp Tryd.func94 rfl trivial ?_ rfl
  simp only [Tryd.ntmps94, List.size_toArray, List.length_cons, List.length_nil, Nat.reduceAdd, Nat.reduceSub, Array.replicate_succ, Array.replicate_zero, List.push_toArray, List.append_toArray, List.nil_append, List.cons_append]
  gi_wp2
  refine ⟨trivial, fun _ => by omega, ?_⟩
  refine (callsIn_wide.2 HBL).mono ?_
  rintro e w' ⟨rfl, hw⟩
  obtain rfl := hw.symm
  gi_wp2
  gi_loopw [3] (fun p wr => ∃ i : Nat, p = .int .i64 ((L : Int) - 1 - i) ∧ i ≤ L ∧ wr.cell? ⟨Bn, 0, none⟩ = some (.int .u64 (N : Int)) ∧ J ((bitsL N).take i) wr)
    (fun p wr => (intOf p + 1).toNat)
  case atStart =>
    exact ⟨0, by simp, Nat.zero_le _, hBn, by simpa using h0⟩
  case round =>
    obtain ⟨i, rfl, hi, hc, hJ⟩ := hrel
    by_cases hlast : i = L
    · subst hlast
      gi_wp2
      go_end0
      refine ⟨⟨_, rfl⟩, .inl ⟨_, rfl, ?_⟩⟩
      rw [List.take_of_length_le (by rw [bitsL_length, hL]; exact Nat.le_refl _)] at hJ
      exact hJ
    · have hsucc := bitsL_take N i (by omega)
      rw [hL] at hsucc
      obtain ⟨x, hx⟩ : ∃ x, (N / 2 ^ (L - 1 - i) % 2 == 1) = x := ⟨_, rfl⟩
      rw [hx] at hsucc
      have hbx : (bits BinOp.and IntKind.u64 ((N : Int) / 2 ^ (L - 1 - i)) 1 == 1) = x := by
        obtain ⟨q, hq⟩ : ∃ q, N / 2 ^ (L - 1 - i) = q := ⟨_, rfl⟩
        have hql : q ≤ N := by rw [← hq]; exact Nat.div_le_self _ _
        have e1 : ((N : Int) / 2 ^ (L - 1 - i)) = (q : Int) := by rw [← hq]; simp
        rw [hq] at hx
        rw [e1, and_one_u64 _ (by omega) (by omega), ← hx, Bool.eq_iff_iff]
        simp
        omega
      obtain ⟨fn, tmps, assign, body, hy, hR⟩ := hY ((bitsL N).take i) x wr hJ (by rw [bitsL_length, List.length_take, bitsL_length, hL]; omega)
      gi_wp2
      refine ⟨fun _ => by omega, hR.mono ?_⟩
      rintro e W3 (⟨rfl, hJ3, hk3⟩ | ⟨rfl, hJx3⟩)
      · have hc3 : W3.cell? ⟨Bn, 0, none⟩ = some (.int .u64 (N : Int)) := (World.cell?_of_block (a := ⟨Bn, 0, none⟩) (show W3.heap[Bn]? = wr.heap[Bn]? from hk3)).trans hc
        gi_wp2
        go_roundw
        case rel => exact ⟨i + 1, by congr 1; omega, by omega, hc3, by rw [hsucc]; exact hJ3⟩
        case measure => simp [intOf]; omega
      · gi_wp2
        refine bodyPost_ret (results_none rfl _ _ _) rfl ?_
        refine ⟨⟨_, rfl⟩, .inr ⟨_, ?_, hJx3⟩⟩
        rw [← hsucc]
        exact List.take_prefix _ _

/-- What bitsOf hands back. -/
theorem bits_stops (n : Nat) (hn : 4 ≤ n) (Bn N : Nat) (hN : N ≤ 1000) (w : World) (hB : Bn < w.heap.size) (hBn : w.cell? ⟨Bn, 0, none⟩ = some (.int .u64 (N : Int))) :
    SeqStopsK Fence.wide n Tryd.prog 94 #[.pointer (some ⟨Bn, 0, none⟩)] (fun x : Bool => #[Value.bool x]) (KpB Bn) (fun ys => ys = bitsL N) (fun pre => pre <+: bitsL N) (bitsL N).length w := fun l J Jx W hW _ _ hY h0 =>
  bits1_in n hn l Bn N hN J Jx hY W ((hW.cell (p := ⟨Bn, 0, none⟩) hB).trans hBn) h0

set_option maxRecDepth 20000 in
set_option maxHeartbeats 800000 in
theorem bitsOf_any (N : Nat) (w : World) : Calls Tryd.prog 72 #[.int .u64 (N : Int)] w fun e w' => e = .returned (.func (.func 94) #[] #[.pointer (some ⟨w.heap.size, 0, none⟩)]) ∧ w' = w.alloc (.cells #[.int .u64 (N : Int)] 99) := by
  go_enter Tryd.func72, Tryd.ntmps72
  go_wp2_with fail
  go_ret
  exact ⟨rfl, rfl⟩
end Go.Proofs.YtbbffhpppacihaaDoor

namespace Go.Proofs.YtbbffhpppacihaaDoor
open Go.RowKit Go.Shelf Go.Siskin
attribute [local go_sem] Oper.semAt_some

theorem own_grown {W W' : World} {row : Option Nat} {g : Nat} {e : TypeId} {cs : Array Value} (h : Siskin.Own W g e cs) (hg : W.grownBy W' row) (hr : ∀ r, row = some r → ∃ o : Obj, W.heap[r]? = some o ∧ o.isCells = false) : Siskin.Own W' g e cs :=
  (grownBy_keeps_cells hg hr h rfl).trans h
theorem natA_grown {W W' : World} {row : Option Nat} {v : Value} {gs : List Nat} (h : NatA W v gs) (hg : W.grownBy W' row) (hr : ∀ r, row = some r → ∃ o : Obj, W.heap[r]? = some o ∧ o.isCells = false) : NatA W' v gs := by
  obtain ⟨a, cap, e, h1, h2, h⟩ := h
  refine ⟨a, cap, e, h1, h2, ?_⟩
  rcases h with h | ⟨b, o, e, hB, h⟩
  · exact Or.inl h
  · exact Or.inr ⟨b, o, e, Nat.lt_of_lt_of_le hB hg.size, fun i hi => cell_kept (h i hi) hg hr⟩
theorem pow9_grown {W W' : World} {row : Option Nat} (h : Pow9 W) (hg : W.grownBy W' row) (hr : ∀ r, row = some r → ∃ o : Obj, W.heap[r]? = some o ∧ o.isCells = false) : Pow9 W' :=
  ⟨Nat.lt_of_lt_of_le h.1 hg.size, fun i hi => cell_kept (h.2 i hi) hg hr⟩
theorem keepsO_below {W W' : World} (h : Below W.heap.size W W') : KeepsOthers W W' :=
  ⟨h.size, fun k _ hk _ => (h.block k (Array.getElem?_eq_some_iff.1 hk).1).trans hk⟩

/-- What holds between two rounds: the boxes, and the power so far. -/
def PowJ (w : World) (nb mb : Bool) (U D : Nat) (ua da : Option Addr) (uc dc b2 b4 b5 j : Nat) (W : World) (a : Option Addr) (c : Nat) (b : Option Addr) (d : Nat) : Prop :=
  (Siskin.Own W b5 61 #[.bool (pwN nb j), .slice a (grp (U ^ j)).length c, .bool (pwN mb j), .slice b (grp (D ^ j)).length d] ∧
    Siskin.Own W b2 61 #[.bool nb, .slice ua (grp U).length uc, .bool mb, .slice da (grp D).length dc] ∧
    Siskin.Own W b4 61 #[.bool false, .slice none 0 0, .bool false, .slice none 0 0]) ∧
    (NatA W (.slice a (grp (U ^ j)).length c) (grp (U ^ j)) ∧ NatA W (.slice b (grp (D ^ j)).length d) (grp (D ^ j)) ∧
    NatA W (.slice ua (grp U).length uc) (grp U) ∧ NatA W (.slice da (grp D).length dc) (grp D)) ∧ Pow9 W ∧ (nG (U ^ j) ≤ 21 ∧ nG (D ^ j) ≤ 21) ∧ b5 + 1 < W.heap.size ∧ Below w.heap.size w W
def PowI (w : World) (nb mb : Bool) (U D : Nat) (ua da : Option Addr) (uc dc b2 b4 b5 j : Nat) (W : World) : Prop := ∃ a c b d, PowJ w nb mb U D ua da uc dc b2 b4 b5 j W a c b d
theorem powI_own (w : World) (nb mb : Bool) (U D : Nat) (ua da : Option Addr) (uc dc b2 b4 b5 B : Nat) (f : List Bool → Nat) (hB : w.heap.size ≤ B) : OwnFrom B (fun (s : List Bool) W => PowI w nb mb U D ua da uc dc b2 b4 b5 (f s) W) := by
  rintro s W W' row ⟨a, c, b, d, ⟨o5, o2, o4⟩, ⟨n1, n2, n3, n4⟩, hP, hg, hs5, hb⟩ hgr hr
  have hr' := fun r e => (hr r e).2
  exact ⟨a, c, b, d, ⟨own_grown o5 hgr hr', own_grown o2 hgr hr', own_grown o4 hgr hr'⟩, ⟨natA_grown n1 hgr hr', natA_grown n2 hgr hr', natA_grown n3 hgr hr', natA_grown n4 hgr hr'⟩, pow9_grown hP hgr hr', hg, Nat.lt_of_lt_of_le hs5 hgr.size,
    ownFrom_below (β := Unit) (Nat.le_refl _) hB () W W' row hb hgr hr⟩
theorem overPow_any (nb mb : Bool) (U D i j : Nat) (a1 b1 a2 b2 : Option Addr) (c1 d1 c2 d2 : Nat) (w : World) (h1 : NatA w (.slice a1 (grp (U ^ i)).length c1) (grp (U ^ i))) (h2 : NatA w (.slice b1 (grp (D ^ i)).length d1) (grp (D ^ i))) (h3 : NatA w (.slice a2 (grp (U ^ j)).length c2) (grp (U ^ j))) (h4 : NatA w (.slice b2 (grp (D ^ j)).length d2) (grp (D ^ j)))
    (g1 : nG (U ^ i) ≤ 100) (g2 : nG (D ^ i) ≤ 100) (g3 : nG (U ^ j) ≤ 100) (g4 : nG (D ^ j) ≤ 100) :
    Calls Tryd.prog 45 #[.agg #[.bool (pwN nb i), .slice a1 (grp (U ^ i)).length c1, .bool (pwN mb i), .slice b1 (grp (D ^ i)).length d1], .agg #[.bool (pwN nb j), .slice a2 (grp (U ^ j)).length c2, .bool (pwN mb j), .slice b2 (grp (D ^ j)).length d2], .func (.func 48) #[] #[]] w fun e w' => ∃ a c b d, e = .returned (.agg #[.bool (pwN nb (i + j)), .slice a (grp (U ^ (i + j))).length c, .bool (pwN mb (i + j)), .slice b (grp (D ^ (i + j))).length d]) ∧ NatA w' (.slice a (grp (U ^ (i + j))).length c) (grp (U ^ (i + j))) ∧ NatA w' (.slice b (grp (D ^ (i + j))).length d) (grp (D ^ (i + j))) ∧ Below w.heap.size w w' := by
  have h := overProduct_any (pwN nb i) (pwN mb i) (pwN mb j) (pwN nb j) (U ^ i) (D ^ i) (U ^ j) (D ^ j) _ _ _ _ _ _ _ _ _ _ _ _ w h1 h2 h3 h4 g1 g2 g3 g4
  rw [pwN_add, pwN_add, ← Nat.pow_add, ← Nat.pow_add] at h
  exact h
theorem overBase_any (nb mb : Bool) (U D i : Nat) (a1 b1 a2 b2 : Option Addr) (c1 d1 c2 d2 : Nat) (w : World) (h1 : NatA w (.slice a1 (grp (U ^ i)).length c1) (grp (U ^ i))) (h2 : NatA w (.slice b1 (grp (D ^ i)).length d1) (grp (D ^ i))) (h3 : NatA w (.slice a2 (grp U).length c2) (grp U)) (h4 : NatA w (.slice b2 (grp D).length d2) (grp D))
    (g1 : nG (U ^ i) ≤ 100) (g2 : nG (D ^ i) ≤ 100) (g3 : nG U ≤ 100) (g4 : nG D ≤ 100) :
    Calls Tryd.prog 45 #[.agg #[.bool (pwN nb i), .slice a1 (grp (U ^ i)).length c1, .bool (pwN mb i), .slice b1 (grp (D ^ i)).length d1], .agg #[.bool nb, .slice a2 (grp U).length c2, .bool mb, .slice b2 (grp D).length d2], .func (.func 48) #[] #[]] w fun e w' => ∃ a c b d, e = .returned (.agg #[.bool (pwN nb (i + 1)), .slice a (grp (U ^ (i + 1))).length c, .bool (pwN mb (i + 1)), .slice b (grp (D ^ (i + 1))).length d]) ∧ NatA w' (.slice a (grp (U ^ (i + 1))).length c) (grp (U ^ (i + 1))) ∧ NatA w' (.slice b (grp (D ^ (i + 1))).length d) (grp (D ^ (i + 1))) ∧ Below w.heap.size w w' := by
  have h := overPow_any nb mb U D i 1 a1 b1 a2 b2 c1 d1 c2 d2 w
  rw [pwN_one, pwN_one, Nat.pow_one, Nat.pow_one] at h
  exact h h1 h2 h3 h4 g1 g2 g3 g4
theorem powJ_put {w W : World} {nb mb : Bool} {U D : Nat} {ua da : Option Addr} {uc dc b2 b4 b5 j : Nat} {n0 m0 : Bool} {a0 e0 : Option Addr} {l0 c0 l1 c1 : Nat} {a b : Option Addr} {c d : Nat}
    (o5 : Siskin.Own W b5 61 #[.bool n0, .slice a0 l0 c0, .bool m0, .slice e0 l1 c1])
    (o2 : Siskin.Own W b2 61 #[.bool nb, .slice ua (grp U).length uc, .bool mb, .slice da (grp D).length dc])
    (o4 : Siskin.Own W b4 61 #[.bool false, .slice none 0 0, .bool false, .slice none 0 0]) (h2 : b2 ≠ b5) (h4 : b4 ≠ b5) (h5 : w.heap.size ≤ b5)
    (n1 : NatA W (.slice a (grp (U ^ j)).length c) (grp (U ^ j))) (n2 : NatA W (.slice b (grp (D ^ j)).length d) (grp (D ^ j))) (n3 : NatA W (.slice ua (grp U).length uc) (grp U)) (n4 : NatA W (.slice da (grp D).length dc) (grp D))
    (hP : Pow9 w) (hg : nG (U ^ j) ≤ 21 ∧ nG (D ^ j) ≤ 21) (hs : b5 + 1 < W.heap.size) (hb : Below w.heap.size w W) :
    PowJ w nb mb U D ua da uc dc b2 b4 b5 j ((((W.setCell ⟨b5, 0, none⟩ (.bool (pwN nb j))).setCell ⟨b5, 1, none⟩ (.slice a (grp (U ^ j)).length c)).setCell ⟨b5, 2, none⟩ (.bool (pwN mb j))).setCell ⟨b5, 3, none⟩ (.slice b (grp (D ^ j)).length d)) a c b d := by
  have hb' := below_set4 hb h5 (.bool (pwN nb j)) (.slice a (grp (U ^ j)).length c) (.bool (pwN mb j)) (.slice b (grp (D ^ j)).length d)
  exact ⟨⟨(((o5.set 0 _).set 1 _).set 2 _).set 3 _, own_set4 o2 h2 _ _ _ _, own_set4 o4 h4 _ _ _ _⟩,
    ⟨natA_set4 n1 o5 _ _ _ _, natA_set4 n2 o5 _ _ _ _, natA_set4 n3 o5 _ _ _ _, natA_set4 n4 o5 _ _ _ _⟩, hP.below hb' (Nat.le_refl _), hg, by simp [World.setCell]; exact hs, hb'⟩
def TooBig (U D j : Nat) : Prop := ¬ (Lib.nDigits (U ^ j) ≤ 60 ∧ Lib.nDigits (D ^ j) ≤ 60)

/-- Behind the loop: the answer's box is written, the block for what is deferred turned. -/
theorem pow_end {w W : World} {nb mb : Bool} {U D : Nat} {ua da : Option Addr} {uc dc b2 b4 b5 j E : Nat} {a : Option Addr} {c : Nat} {b : Option Addr} {d : Nat} (h : PowJ w nb mb U D ua da uc dc b2 b4 b5 j W a c b d) (h4 : w.heap.size ≤ b4) (hE : w.heap.size ≤ E) (hK : W.heap[E]? = some (.deferred (some []))) (o' : Obj) :
    ((((W.setCell ⟨b4, 0, none⟩ (.bool (pwN nb j))).setCell ⟨b4, 1, none⟩ (.slice a (grp (U ^ j)).length c)).setCell ⟨b4, 2, none⟩ (.bool (pwN mb j))).setCell ⟨b4, 3, none⟩ (.slice b (grp (D ^ j)).length d)).heap[E]? = some (.deferred (some [])) ∧
    ∀ W', W' = ((((W.setCell ⟨b4, 0, none⟩ (.bool (pwN nb j))).setCell ⟨b4, 1, none⟩ (.slice a (grp (U ^ j)).length c)).setCell ⟨b4, 2, none⟩ (.bool (pwN mb j))).setCell ⟨b4, 3, none⟩ (.slice b (grp (D ^ j)).length d)).putObj E o' →
      Siskin.Own W' b4 61 #[.bool (pwN nb j), .slice a (grp (U ^ j)).length c, .bool (pwN mb j), .slice b (grp (D ^ j)).length d] ∧ NatA W' (.slice a (grp (U ^ j)).length c) (grp (U ^ j)) ∧ NatA W' (.slice b (grp (D ^ j)).length d) (grp (D ^ j)) ∧ nG (U ^ j) ≤ 21 ∧ nG (D ^ j) ≤ 21 ∧ Below w.heap.size w W' := by
  obtain ⟨⟨o5, o2, o4⟩, ⟨n1, n2, n3, n4⟩, hP, hg, hs, hb⟩ := h
  have hK' := ((((KeepsOthers.setCell W ⟨b4, 0, none⟩ (.bool (pwN nb j))).trans (KeepsOthers.setCell _ ⟨b4, 1, none⟩ (.slice a (grp (U ^ j)).length c))).trans (KeepsOthers.setCell _ ⟨b4, 2, none⟩ (.bool (pwN mb j)))).trans (KeepsOthers.setCell _ ⟨b4, 3, none⟩ (.slice b (grp (D ^ j)).length d))).same E _ hK rfl
  refine ⟨hK', ?_⟩
  rintro W' rfl
  have hgr := grownBy_putObj' ((((W.setCell ⟨b4, 0, none⟩ (.bool (pwN nb j))).setCell ⟨b4, 1, none⟩ (.slice a (grp (U ^ j)).length c)).setCell ⟨b4, 2, none⟩ (.bool (pwN mb j))).setCell ⟨b4, 3, none⟩ (.slice b (grp (D ^ j)).length d)) E o'
  have hr : ∀ r, some E = some r → ∃ o : Obj, ((((W.setCell ⟨b4, 0, none⟩ (.bool (pwN nb j))).setCell ⟨b4, 1, none⟩ (.slice a (grp (U ^ j)).length c)).setCell ⟨b4, 2, none⟩ (.bool (pwN mb j))).setCell ⟨b4, 3, none⟩ (.slice b (grp (D ^ j)).length d)).heap[r]? = some o ∧ o.isCells = false := fun r e => by cases e; exact ⟨_, hK', rfl⟩
  refine ⟨own_grown ((((o4.set 0 _).set 1 _).set 2 _).set 3 _) hgr hr, natA_grown (natA_set4 n1 o4 _ _ _ _) hgr hr, natA_grown (natA_set4 n2 o4 _ _ _ _) hgr hr, hg.1, hg.2, ?_⟩
  exact (below_set4 hb h4 _ _ _ _).trans (belowK_b (w := w) (Nat.le_refl _) _ E _ o' hE hK' rfl rfl)

set_option maxRecDepth 20000 in
set_option maxHeartbeats 2000000 in
theorem powerOf_any (nb mb : Bool) (U D k : Nat) (ua da : Option Addr) (uc dc : Nat) (w : World) (hk : k ≤ 1000) (hU : NatA w (.slice ua (grp U).length uc) (grp U)) (hD : NatA w (.slice da (grp D).length dc) (grp D)) (g1 : nG U ≤ 7) (g2 : nG D ≤ 7) (hP : Pow9 w) :
    Calls Tryd.prog 42 #[.agg #[.bool nb, .slice ua (grp U).length uc, .bool mb, .slice da (grp D).length dc], .int .i64 (k : Int)] w fun e w' => ∃ j a c b d, e = .returned (.agg #[.bool (pwN nb j), .slice a (grp (U ^ j)).length c, .bool (pwN mb j), .slice b (grp (D ^ j)).length d]) ∧
      NatA w' (.slice a (grp (U ^ j)).length c) (grp (U ^ j)) ∧ NatA w' (.slice b (grp (D ^ j)).length d) (grp (D ^ j)) ∧ nG (U ^ j) ≤ 21 ∧ nG (D ^ j) ≤ 21 ∧ (j = k ∨ j ≤ k ∧ TooBig U D j) ∧ Below w.heap.size w w' := by
  have HI1 := hid (fun w => integerOf_any 1 w (by decide) (by decide))
  have HP0 := hid hP
  have HU0 := hid hU
  have HD0 := hid hD
  obtain ⟨W0, HW0⟩ : ∃ W, Hid ((w.alloc (boxR nb (.slice ua (grp U).length uc) mb (.slice da (grp D).length dc))).alloc (boxR false (.slice none 0 0) false (.slice none 0 0)) = W) := ⟨_, rfl⟩
  have HX : Hid (∀ W, Below (w.heap.size + 2) W0 W → Siskin.Own W w.heap.size 61 #[.bool nb, .slice ua (grp U).length uc, .bool mb, .slice da (grp D).length dc] ∧ Siskin.Own W (w.heap.size + 1) 61 #[.bool false, .slice none 0 0, .bool false, .slice none 0 0] ∧ Below w.heap.size w W) := fun W h => by
    rw [← HW0.out] at h
    exact boxes2 w _ _ _ _ h
  have HS0 : Hid (w.heap.size + 2 ≤ W0.heap.size) := by show _ ≤ _; rw [← HW0.out]; simp
  have HB0 : Hid (Below (w.heap.size + 2) W0 W0) := Below.refl _ _
  have hdec : decide ((1 : Int) < 0) = false := by decide
  have h1a : (1 : Int).natAbs = 1 := rfl
  rw [hdec, h1a] at HI1
  clear hP hU hD hdec h1a
  refine (callsIn_wide (n := 8)).1 ?_
  refine callsIn_of_wp_marks Tryd.func42 rfl trivial ?_ rfl
  simp only [Tryd.ntmps42, List.size_toArray, List.length_cons, List.length_nil, Nat.reduceAdd, Nat.reduceSub, Array.replicate_succ, Array.replicate_zero, List.push_toArray, List.append_toArray, List.nil_append, List.cons_append]
  gi_wp2
  rw [HW0.out]
  refine ⟨trivial, ?_⟩
  refine (callsIn_wide.2 (HI1.out _)).mono ?_
  rintro e w1 ⟨a1, c1, rfl, hn1, hw1⟩
  have HB1 := hid (HB0.out.trans (hw1.mono HS0.out))
  have HN1 := hid hn1
  have HS1 := hid (Nat.le_trans HS0.out HB1.out.size)
  clear hn1 hw1
  gi_wp2
  refine ⟨trivial, ?_⟩
  refine (callsIn_wide.2 (HI1.out _)).mono ?_
  rintro e w2 ⟨a2, c2, rfl, hn2, hw2⟩
  have HN1' := hid (HN1.out.below hw2 (Nat.le_refl _))
  have HB2 := hid (HB1.out.trans (hw2.mono HS1.out))
  have HN2 := hid hn2
  have HS2 := hid (Nat.le_trans HS0.out HB2.out.size)
  clear hn2 hw2 HN1
  gi_wp2
  refine ⟨trivial, ?_⟩
  refine (callsIn_wide.2 (bitsOf_any k _)).mono ?_
  rintro e w3 ⟨rfl, hw3⟩
  have HW4 := hid hw3.symm
  have HY : Hid (∀ W, Below (w2.heap.size + 2) w3 W → Siskin.Own W w2.heap.size 61 #[.bool false, .slice a1 (grp 1).length c1, .bool false, .slice a2 (grp 1).length c2] ∧ Siskin.Own W (w2.heap.size + 1) 99 #[.int .u64 (k : Int)] ∧ Below w2.heap.size w2 W) := fun W h => by
    rw [← HW4.out] at h
    exact boxes2 w2 _ _ _ _ h
  clear hw3
  have HC : Hid (Below (w2.heap.size + 2) w3 w3) := Below.refl _ _
  have HS3 : Hid (w2.heap.size + 2 ≤ w3.heap.size) := by show _ ≤ _; rw [← HW4.out]; simp
  have HB3 : Hid (Below (w.heap.size + 2) W0 w3) := HB2.out.trans ((HY.out _ HC.out).2.2.mono HS2.out)
  have hbw : Below w.heap.size w w3 := (HX.out _ HB3.out).2.2
  have hb2 := (HY.out _ HC.out).2.2
  have hlen : w2.heap.size + 1 < w3.heap.size := by have := HS3.out; omega
  have hw2s := HS2.out
  have hbox : w3.cell? ⟨w2.heap.size + 1, 0, none⟩ = some (.int .u64 (k : Int)) := (HY.out _ HC.out).2.1.cell 0
  have hI0 : PowI w nb mb U D ua da uc dc w.heap.size (w.heap.size + 1) w2.heap.size (bitsV []) w3 := by
    refine ⟨a1, c1, a2, c2, ⟨?_, (HX.out _ HB3.out).1, (HX.out _ HB3.out).2.1⟩, ⟨?_, ?_, HU0.out.below hbw (Nat.le_refl _), HD0.out.below hbw (Nat.le_refl _)⟩, HP0.out.below hbw (Nat.le_refl _), ?_, hlen, hbw⟩
    · rw [show bitsV [] = 0 from rfl, pwN_zero, pwN_zero, Nat.pow_zero, Nat.pow_zero]; exact (HY.out _ HC.out).1
    · rw [show bitsV [] = 0 from rfl, Nat.pow_zero]; exact HN1'.out.below hb2 (Nat.le_refl _)
    · rw [show bitsV [] = 0 from rfl, Nat.pow_zero]; exact HN2.out.below hb2 (Nat.le_refl _)
    · rw [show bitsV [] = 0 from rfl, Nat.pow_zero, Nat.pow_zero, nG_one (by decide) (by decide)]; exact ⟨by decide, by decide⟩
  have HI0 := hid hI0
  have HBX := hid hbox
  have HBN := hid hlen
  have HBW := hid hbw
  clear hI0 hbox hbw hb2
  gi_wp2
  refine wpIn_rangeFunc_ownF rfl (by omega) (gf := 94) (lb := #[.pointer (some ⟨w2.heap.size + 1, 0, none⟩)]) rfl trivial (enters_of Tryd.func94 (by kernel_rfl) rfl) (bits_stops _ (by omega) (w2.heap.size + 1) k hk w3 HBN.out HBX.out)
    (fun h k => h.tr k) (fun W l o o' hl _ _ _ => World.putObj_heap_other (by have := HBN.out; omega)) (Below.refl _ _) (fun _ => rfl)
    (fun pre W => PowI w nb mb U D ua da uc dc w.heap.size (w.heap.size + 1) w2.heap.size (bitsV pre) W)
    (fun c pre W => c = .exit 0 ∧ ∃ j, j ≤ bitsV pre ∧ TooBig U D j ∧ PowI w nb mb U D ua da uc dc w.heap.size (w.heap.size + 1) w2.heap.size j W)
    (powI_own w nb mb U D ua da uc dc _ _ _ _ bitsV HBW.out.size)
    (fun c s A B row hs hg hr => by
      obtain ⟨h1, j, h2, h3, h4⟩ := hs
      exact ⟨h1, j, h2, h3, powI_own w nb mb U D ua da uc dc _ _ _ _ (fun _ => j) HBW.out.size s A B row h4 hg hr⟩)
    HI0.out
    (fun x => { tmps := #[.agg #[.bool nb, .slice ua (grp U).length uc, .bool mb, .slice da (grp D).length dc], .int .i64 (k : Int), .pointer (some ⟨w.heap.size, 0, none⟩), undef, .pointer (some ⟨w.heap.size + 1, 0, none⟩), .pointer (some ⟨w2.heap.size, 0, none⟩), .bool x, .agg #[.bool false, .slice a1 (grp 1).length c1], .agg #[.bool false, .slice a2 (grp 1).length c2], .agg #[.bool false, .slice a1 (grp 1).length c1, .bool false, .slice a2 (grp 1).length c2], .int .i64 (k : Int), .int .u64 (k : Int), .func (.func 94) #[] #[.pointer (some ⟨w2.heap.size + 1, 0, none⟩)], .bool x, undef, undef, undef, undef, undef, undef, undef, undef, undef, undef, undef, undef, undef, undef, undef, undef, undef, undef], defers := [] }) ?assign ?body ?done ?stop
  case assign =>
    intro l x W K hK
    gi_wp2
    exact hK
  case body =>
    rintro l pre x W ⟨a, c, b, d, ⟨o5, o2, o4⟩, ⟨n1, n2, n3, n4⟩, hPw, hg, hs5, hbl⟩ _
    obtain ⟨j, hj⟩ : ∃ j, bitsV pre = j := ⟨_, rfl⟩
    rw [hj] at o5 n1 n2 hg
    obtain ⟨⟨x0, x1, x2, x3⟩, f0, f1, f2, f3⟩ := own4V o5
    obtain ⟨⟨y0, y1, y2, y3⟩, -⟩ := own4V o2
    have HPJ : Hid (PowJ w nb mb U D ua da uc dc w.heap.size (w.heap.size + 1) w2.heap.size j W a c b d) := ⟨⟨o5, o2, o4⟩, ⟨n1, n2, n3, n4⟩, hPw, hg, hs5, hbl⟩
    have HJ := hid hj
    obtain ⟨tU, htU⟩ : ∃ t, decide (60 < Lib.nDigits (U ^ j)) = t := ⟨_, rfl⟩
    obtain ⟨tD, htD⟩ : ∃ t, decide (60 < Lib.nDigits (D ^ j)) = t := ⟨_, rfl⟩
    have HLu := hid (isTooLong_any (U ^ j) _ W n1 (by omega) hPw tU htU)
    have HLd := hid (isTooLong_any (D ^ j) _ W n2 (by omega) hPw tD htD)
    have HTU := hid htU
    have HTD := hid htD
    have HG := hid (And.intro g1 g2)
    clear o5 o2 o4 n1 n2 n3 n4 hPw hbl hj htU htD hg
    gi_wp2
    refine ⟨trivial, ?_⟩
    refine (CallsIn.inRound l (callsIn_wide.2 HLu.out)).mono ?_
    rintro e w5 ⟨rfl, hw5⟩
    obtain rfl := hw5.symm
    clear hw5
    cases tU
    case true =>
      gi_wp2
      refine ⟨trivial, ?_⟩
      gi_wp2
      have h60 := of_decide_eq_true HTU.out
      exact ⟨KeepsOthers.refl _, rfl, j, by rw [bitsV_snoc, HJ.out]; omega, fun h => by omega, _, _, _, _, HPJ.out⟩
    case false =>
      gi_wp2
      refine ⟨trivial, ?_⟩
      refine (CallsIn.inRound l (callsIn_wide.2 HLd.out)).mono ?_
      rintro e w5 ⟨rfl, hw5⟩
      obtain rfl := hw5.symm
      clear hw5
      cases tD
      case true =>
        gi_wp2
        have h60 := of_decide_eq_true HTD.out
        exact ⟨KeepsOthers.refl _, rfl, j, by rw [bitsV_snoc, HJ.out]; omega, fun h => by omega, _, _, _, _, HPJ.out⟩
      case false =>
        have hu60 : nG (U ^ j) ≤ 7 := nG_60 (by have := of_decide_eq_false HTU.out; omega)
        have hd60 : nG (D ^ j) ≤ 7 := nG_60 (by have := of_decide_eq_false HTD.out; omega)
        have HU7 := hid hu60
        have HD7 := hid hd60
        gi_wp2
        refine ⟨trivial, ?_⟩
        have hn := HPJ.out.2.1
        refine (CallsIn.inRound l (callsIn_wide.2 (overPow_any nb mb U D j j _ _ _ _ _ _ _ _ W hn.1 hn.2.1 hn.1 hn.2.1 (by omega) (by omega) (by omega) (by omega)))).mono ?_
        rintro e w6 ⟨a6, c6, b6, d6, rfl, m1, m2, hw6⟩
        clear x0 x1 x2 x3 f0 f1 f2 f3 y0 y1 y2 y3 hn hu60 hd60
        have hsz6 := hw6.size
        have q5 := HPJ.out.1.1.keep hw6 HPJ.out.1.1.lt
        have q2 := HPJ.out.1.2.1.keep hw6 HPJ.out.1.2.1.lt
        have q4 := HPJ.out.1.2.2.keep hw6 HPJ.out.1.2.2.lt
        have HJJ := hid (powJ_put (j := j + j) q5 q2 q4 (by omega) (by omega) (by omega) m1 m2 (HPJ.out.2.1.2.2.1.below hw6 (Nat.le_refl _)) (HPJ.out.2.1.2.2.2.below hw6 (Nat.le_refl _)) HP0.out
          ⟨by have h1 := nG_mul (U ^ j) (U ^ j); have h2 := HU7.out; rw [Nat.pow_add]; omega, by have h1 := nG_mul (D ^ j) (D ^ j); have h2 := HD7.out; rw [Nat.pow_add]; omega⟩ (by omega) (HPJ.out.2.2.2.2.2.trans (hw6.mono HPJ.out.2.2.2.2.2.size)))
        have HKO : Hid (KeepsOthers W w6) := keepsO_below hw6
        have HKB : Hid (KpB (w2.heap.size + 1) W w6) := hw6.block _ (by omega)
        obtain ⟨⟨x0, x1, x2, x3⟩, f0, f1, f2, f3⟩ := own4V q5
        clear m1 m2 hw6 q5 q2 q4
        cases x
        case false =>
          gi_wp2
          refine ⟨HKO.out.trans ((((KeepsOthers.setCell _ _ _).trans (KeepsOthers.setCell _ _ _)).trans (KeepsOthers.setCell _ _ _)).trans (KeepsOthers.setCell _ _ _)), ?_, ?_⟩
          · exact KpB.tr HKB.out (by unfold KpB; rw [Below.heap_setCell _ _ _ _ (by simp), Below.heap_setCell _ _ _ _ (by simp), Below.heap_setCell _ _ _ _ (by simp), Below.heap_setCell _ _ _ _ (by simp)])
          · show PowI w nb mb U D ua da uc dc w.heap.size (w.heap.size + 1) w2.heap.size (bitsV (pre ++ [false])) _
            rw [bitsV_snoc, HJ.out, show 2 * j + (if false = true then 1 else 0) = j + j by simp; omega]
            exact ⟨_, _, _, _, HJJ.out⟩
        case true =>
          obtain ⟨⟨y0, y1, y2, y3⟩, -⟩ := own4V HJJ.out.1.2.1
          obtain ⟨W7, HW7⟩ : ∃ W, Hid (((((w6.setCell ⟨w2.heap.size, 0, none⟩ (.bool (pwN nb (j + j)))).setCell ⟨w2.heap.size, 1, none⟩ (.slice a6 (grp (U ^ (j + j))).length c6)).setCell ⟨w2.heap.size, 2, none⟩ (.bool (pwN mb (j + j)))).setCell ⟨w2.heap.size, 3, none⟩ (.slice b6 (grp (D ^ (j + j))).length d6)) = W) := ⟨_, rfl⟩
          have hkp7 : KpB (w2.heap.size + 1) w6 W7 := by
            rw [← HW7.out]
            unfold KpB; rw [Below.heap_setCell _ _ _ _ (by simp), Below.heap_setCell _ _ _ _ (by simp), Below.heap_setCell _ _ _ _ (by simp), Below.heap_setCell _ _ _ _ (by simp)]
          have hko7 : KeepsOthers w6 W7 := by
            rw [← HW7.out]
            exact ((((KeepsOthers.setCell _ _ _).trans (KeepsOthers.setCell _ _ _)).trans (KeepsOthers.setCell _ _ _)).trans (KeepsOthers.setCell _ _ _))
          have HKP7 := hid (KpB.tr HKB.out hkp7)
          have HKO7 := hid (HKO.out.trans hko7)
          have HJ7 := HJJ
          rw [HW7.out] at HJ7
          clear hkp7 hko7
          gi_wp2
          refine ⟨trivial, ?_⟩
          simp only [HW7.out]
          have hn := HJ7.out.2.1
          refine (CallsIn.inRound l (callsIn_wide.2 (overBase_any nb mb U D (j + j) _ _ _ _ _ _ _ _ W7 hn.1 hn.2.1 hn.2.2.1 hn.2.2.2 (by have := HJ7.out.2.2.2.1; omega) (by have := HJ7.out.2.2.2.1; omega) (by omega) (by omega)))).mono ?_
          rintro e w8 ⟨a8, c8, b8, d8, rfl, m1, m2, hw8⟩
          clear x0 x1 x2 x3 f0 f1 f2 f3 y0 y1 y2 y3 hn
          have hsz8 := hw8.size
          have hs7 := HJ7.out.2.2.2.2.1
          have q5 := HJ7.out.1.1.keep hw8 HJ7.out.1.1.lt
          have q2 := HJ7.out.1.2.1.keep hw8 HJ7.out.1.2.1.lt
          have q4 := HJ7.out.1.2.2.keep hw8 HJ7.out.1.2.2.lt
          have HJK := hid (powJ_put (j := j + j + 1) q5 q2 q4 (by omega) (by omega) (by omega) m1 m2 (HJ7.out.2.1.2.2.1.below hw8 (Nat.le_refl _)) (HJ7.out.2.1.2.2.2.below hw8 (Nat.le_refl _)) HP0.out
            ⟨by have h1 := nG_mul (U ^ j) (U ^ j); have h3 := nG_mul (U ^ j * U ^ j) U; have h2 := HU7.out; rw [Nat.pow_succ, Nat.pow_add]; omega, by have h1 := nG_mul (D ^ j) (D ^ j); have h3 := nG_mul (D ^ j * D ^ j) D; have h2 := HD7.out; rw [Nat.pow_succ, Nat.pow_add]; omega⟩ (by omega) (HJ7.out.2.2.2.2.2.trans (hw8.mono HJ7.out.2.2.2.2.2.size)))
          have HKO8 : Hid (KeepsOthers W w8) := HKO7.out.trans (keepsO_below hw8)
          have HKP8 : Hid (KpB (w2.heap.size + 1) W w8) := KpB.tr HKP7.out (hw8.block _ (by omega))
          obtain ⟨⟨x0, x1, x2, x3⟩, f0, f1, f2, f3⟩ := own4V q5
          clear m1 m2 hw8 q5 q2 q4
          gi_wp2
          refine ⟨HKO8.out.trans ((((KeepsOthers.setCell _ _ _).trans (KeepsOthers.setCell _ _ _)).trans (KeepsOthers.setCell _ _ _)).trans (KeepsOthers.setCell _ _ _)), ?_, ?_⟩
          · exact KpB.tr HKP8.out (by unfold KpB; rw [Below.heap_setCell _ _ _ _ (by simp), Below.heap_setCell _ _ _ _ (by simp), Below.heap_setCell _ _ _ _ (by simp), Below.heap_setCell _ _ _ _ (by simp)])
          · show PowI w nb mb U D ua da uc dc w.heap.size (w.heap.size + 1) w2.heap.size (bitsV (pre ++ [true])) _
            rw [bitsV_snoc, HJ.out, show 2 * j + (if true = true then 1 else 0) = j + j + 1 by simp; omega]
            exact ⟨_, _, _, _, HJK.out⟩
  case done =>
    rintro E xs W hE rfl ⟨a, c, b, d, hPJ⟩ hK
    have hend := pow_end hPJ (by omega) (Nat.le_trans (by have := HBW.out.size; omega) hE) hK (.deferred none)
    obtain ⟨⟨x0, x1, x2, x3⟩, f0, f1, f2, f3⟩ := own4V hPJ.1.1
    obtain ⟨⟨y0, y1, y2, y3⟩, q0, q1, q2, q3⟩ := own4V hPJ.1.2.2
    have HE := hid hend
    clear hend hPJ hK
    gi_wp2
    refine ⟨by simp, .inl ⟨_, _, rfl, run_takeDeferred HE.out.1, ?_⟩⟩
    obtain ⟨o, m1, m2, k1, k2, hbl⟩ := HE.out.2 _ rfl
    obtain ⟨⟨r0, r1, r2, r3⟩, -⟩ := own4V o
    refine ⟨_, ?_, bitsV (bitsL k), a, c, b, d, rfl, m1, m2, k1, k2, Or.inl (bitsV_all k hk), hbl⟩
    simp [results, Tryd.results42, go_sem, r0, r1, r2, r3]
  case stop =>
    rintro E cc pre W hE hpre ⟨rfl, j, hj, hbig, a, c, b, d, hPJ⟩ hK
    have hend := pow_end hPJ (by omega) (Nat.le_trans (by have := HBW.out.size; omega) hE) hK (.deferred none)
    obtain ⟨⟨x0, x1, x2, x3⟩, f0, f1, f2, f3⟩ := own4V hPJ.1.1
    obtain ⟨⟨y0, y1, y2, y3⟩, q0, q1, q2, q3⟩ := own4V hPJ.1.2.2
    have HE := hid hend
    clear hend hPJ hK
    gi_wp2
    refine ⟨by simp, .inl ⟨_, _, rfl, run_takeDeferred HE.out.1, ?_⟩⟩
    obtain ⟨o, m1, m2, k1, k2, hbl⟩ := HE.out.2 _ rfl
    obtain ⟨⟨r0, r1, r2, r3⟩, -⟩ := own4V o
    refine ⟨_, ?_, j, a, c, b, d, rfl, m1, m2, k1, k2, Or.inr ⟨Nat.le_trans hj (bitsV_prefix k hk hpre), hbig⟩, hbl⟩
    simp [results, Tryd.results42, go_sem, r0, r1, r2, r3]
end Go.Proofs.YtbbffhpppacihaaDoor
