/-
  The program's NumAdd, NumSub, NumMul, NumDiv, NumCmp. Condition: the table of powers stands. Made by wip/tools/genuo.py.
-/
import Derived.Test.YtbbffhpppacihaaDoorUN
namespace Go.Proofs.YtbbffhpppacihaaDoor
open Go.RowKit Go.Siskin

theorem nG_sumZ {n1 n2 : Bool} {x y M : Nat} (hx : nG x ≤ M) (hy : nG y ≤ M) : nG (sumZ n1 x n2 y) ≤ M + 1 := by
  have h := sum_lim hx hy
  refine nG_le (Nat.lt_of_le_of_lt ?_ h)
  unfold sumZ
  split
  · exact Nat.le_refl _
  · split <;> omega
theorem ansQ_form (neg : Bool) (u d : Nat) : ∃ (n : Bool) (x y : ByteArray) (c : Int), ansQ neg u d = .tuple #[.agg #[.bool n, .string x, .string y], .int .i64 c] := by
  rcases ansQ_parts neg u d with ⟨n, x, y, -, h⟩ | ⟨-, h⟩
  · exact ⟨_, _, _, _, h⟩
  · exact ⟨_, _, _, _, h⟩
theorem below_set3 {B r : Nat} {w W : World} (h : Below B w W) (hr : B ≤ r) (x y z : Value) : Below B w (((W.setCell ⟨r, 0, none⟩ x).setCell ⟨r, 1, none⟩ y).setCell ⟨r, 2, none⟩ z) :=
  ((h.setCell (p := ⟨r, 0, none⟩) hr x).setCell (p := ⟨r, 1, none⟩) hr y).setCell (p := ⟨r, 2, none⟩) hr z
theorem own_set3 {w : World} {g r : Nat} {e : TypeId} {cs : Array Value} (h : Own w g e cs) (hne : g ≠ r) (x y z : Value) : Own (((w.setCell ⟨r, 0, none⟩ x).setCell ⟨r, 1, none⟩ y).setCell ⟨r, 2, none⟩ z) g e cs := by
  unfold Own
  rw [Below.heap_setCell _ ⟨r, 2, none⟩ _ _ hne, Below.heap_setCell _ ⟨r, 1, none⟩ _ _ hne, Below.heap_setCell _ ⟨r, 0, none⟩ _ _ hne]
  exact h
theorem size_set3 (W : World) (r : Nat) (x y z : Value) : (((W.setCell ⟨r, 0, none⟩ x).setCell ⟨r, 1, none⟩ y).setCell ⟨r, 2, none⟩ z).heap.size = W.heap.size := by simp [World.setCell]
abbrev box0 : Obj := .cells #[.bool false, .string ⟨#[]⟩, .string ⟨#[]⟩] 25

set_option maxRecDepth 20000 in
set_option maxHeartbeats 4000000 in
theorem implNumMul_of (n1 n2 : Bool) (u1 v1 u2 v2 : ByteArray) (b1 b2 p1 p2 : Bool) (U1 D1 U2 D2 : Nat) (w : World)
    (h1 : ∀ w, Pow9 w → Calls Tryd.prog 49 #[.agg #[.bool n1, .string u1, .string v1]] w fun e w' => ∃ ua uc da dc, e = .returned (.tuple #[.agg #[.bool p1, .slice ua (grp U1).length uc, .slice da (grp D1).length dc], .bool b1]) ∧ NatA w' (.slice ua (grp U1).length uc) (grp U1) ∧ NatA w' (.slice da (grp D1).length dc) (grp D1) ∧ Below w.heap.size w w')
    (h2 : ∀ w, Pow9 w → Calls Tryd.prog 49 #[.agg #[.bool n2, .string u2, .string v2]] w fun e w' => ∃ ua uc da dc, e = .returned (.tuple #[.agg #[.bool p2, .slice ua (grp U2).length uc, .slice da (grp D2).length dc], .bool b2]) ∧ NatA w' (.slice ua (grp U2).length uc) (grp U2) ∧ NatA w' (.slice da (grp D2).length dc) (grp D2) ∧ Below w.heap.size w w')
    (g1 : nG U1 ≤ 60) (g2 : nG D1 ≤ 60) (g3 : nG U2 ≤ 60) (g4 : nG D2 ≤ 60) (hd : (b1 && b2) = true → 0 < D1 ∧ 0 < D2) (hP : Pow9 w) :
    Calls Tryd.prog 19 #[.agg #[.bool n1, .string u1, .string v1], .agg #[.bool n2, .string u2, .string v2]] w fun e w' => e = .returned (if (b1 && b2) = true then ansQ (p1 != p2) (U1 * U2) (D1 * D2) else noAns 1) ∧ Below w.heap.size w w' := by
  have HRt := hid (fun w h => ratiosOf_any n1 n2 u1 v1 u2 v2 b1 b2 p1 p2 U1 D1 U2 D2 w h1 h2 h)
  have HPw := hid hP
  have HG := hid (And.intro (And.intro g1 g2) (And.intro g3 g4))
  have HD := hid hd
  have HB0 : Hid (Below (w.heap.size + 3) (((w.alloc (boxN n1 u1 v1)).alloc (boxN n2 u2 v2)).alloc box0) (((w.alloc (boxN n1 u1 v1)).alloc (boxN n2 u2 v2)).alloc box0)) := Below.refl _ _
  have HX : Hid (∀ W, Below (w.heap.size + 3) (((w.alloc (boxN n1 u1 v1)).alloc (boxN n2 u2 v2)).alloc box0) W → Own W (w.heap.size + 1 + 1) 25 #[.bool false, .string ⟨#[]⟩, .string ⟨#[]⟩] ∧ Below w.heap.size w W) := fun W h => (boxes3 w _ _ _ _ _ _ h).2.2
  clear h1 h2 g1 g2 g3 g4 hd hP
  obtain ⟨bb, hbb⟩ : ∃ b, (b1 && b2) = b := ⟨_, rfl⟩
  rw [hbb] at HRt HD ⊢
  clear hbb
  cases bb
  · have HV : Hid ((if false = true then ansQ (p1 != p2) (U1 * U2) (D1 * D2) else noAns 1) = noAns 1) := if_neg (by decide)
    rw [HV.out]
    go_enter Tryd.func19, Tryd.ntmps19
    go_wp2_with fail
    refine (HRt.out _ (HPw.out.below (HX.out _ HB0.out).2 (Nat.le_refl _))).mono ?_
    rintro e wr ⟨a1, c1, e1, d1, a2, c2, e2, d2, rfl, -, -, -, -, hw⟩
    have HBr := hid (HB0.out.trans (hw.mono (by simp)))
    have hsr : w.heap.size + 3 ≤ wr.heap.size := by have := hw.size; simp at this; omega
    have hlr : w.heap.size + 1 + 1 < wr.heap.size := by omega
    have hlr2 : w.heap.size + 1 + 1 < wr.heap.size + 1 := by omega
    clear hw
    obtain ⟨⟨r0, r1, r2⟩, q0, q1, q2⟩ := own3V (HX.out _ HBr.out).1
    have hX := (HX.out _ HBr.out).2
    go_wp2_with fail
    refine bodyPost_ret (v := noAns 1) (by simp [results, Tryd.results19, go_sem, r0, r1, r2, hlr, hlr2]) rfl ⟨rfl, ?_⟩
    exact ((below_set3 hX (by omega) _ _ _).alloc (by rw [size_set3]; omega) _).alloc (by rw [World.size_alloc, size_set3]; omega) _
  · have HDp := hid (HD.out rfl)
    obtain ⟨ma, mx, my, mc, hmf⟩ := ansQ_form (p1 != p2) (U1 * U2) (D1 * D2)
    have HV : Hid ((if true = true then ansQ (p1 != p2) (U1 * U2) (D1 * D2) else noAns 1) = .tuple #[.agg #[.bool ma, .string mx, .string my], .int .i64 mc]) := by show _ = _; rw [if_pos rfl, hmf]
    have HMF := hid hmf
    rw [HV.out]
    clear HV hmf
    go_enter Tryd.func19, Tryd.ntmps19
    go_wp2_with fail
    refine (HRt.out _ (HPw.out.below (HX.out _ HB0.out).2 (Nat.le_refl _))).mono ?_
    rintro e wr ⟨a1, c1, e1, d1, a2, c2, e2, d2, rfl, hN1, hN2, hN3, hN4, hw⟩
    have HBr := hid (HB0.out.trans (hw.mono (by simp)))
    have hsr : w.heap.size + 3 ≤ wr.heap.size := by have := hw.size; simp at this; omega
    have hlr : w.heap.size + 1 + 1 < wr.heap.size := by omega
    clear hw
    have HW : Hid (∀ W, Below (wr.heap.size + 2) ((wr.alloc (boxR p1 (.slice a1 (grp U1).length c1) false (.slice e1 (grp D1).length d1))).alloc (boxR p2 (.slice a2 (grp U2).length c2) false (.slice e2 (grp D2).length d2))) W → Own W wr.heap.size 61 #[.bool p1, .slice a1 (grp U1).length c1, .bool false, .slice e1 (grp D1).length d1] ∧ Own W (wr.heap.size + 1) 61 #[.bool p2, .slice a2 (grp U2).length c2, .bool false, .slice e2 (grp D2).length d2] ∧ Below wr.heap.size wr W) := fun W h => boxes2 wr _ _ _ _ h
    have HRes : Hid (∀ W, Below wr.heap.size wr W → Own W (w.heap.size + 1 + 1) 25 #[.bool false, .string ⟨#[]⟩, .string ⟨#[]⟩] ∧ Below w.heap.size w W ∧ Pow9 W) := fun W h => by
      have h0 := HX.out _ (HBr.out.trans (h.mono hsr))
      exact ⟨h0.1, h0.2, HPw.out.below h0.2 (Nat.le_refl _)⟩
    have HNs : Hid (∀ W, Below wr.heap.size wr W → (NatA W (.slice a1 (grp U1).length c1) (grp U1) ∧ NatA W (.slice e1 (grp D1).length d1) (grp D1)) ∧ NatA W (.slice a2 (grp U2).length c2) (grp U2) ∧ NatA W (.slice e2 (grp D2).length d2) (grp D2)) := fun W h => ⟨⟨hN1.below h (Nat.le_refl _), hN2.below h (Nat.le_refl _)⟩, hN3.below h (Nat.le_refl _), hN4.below h (Nat.le_refl _)⟩
    clear hN1 hN2 hN3 hN4
    have HOv : Hid (∀ W, Below wr.heap.size wr W → Calls Tryd.prog 45 #[.agg #[.bool p1, .slice a1 (grp U1).length c1, .bool false, .slice e1 (grp D1).length d1], .agg #[.bool p2, .slice a2 (grp U2).length c2, .bool false, .slice e2 (grp D2).length d2], .func (.func 48) #[] #[]] W fun e w' => ∃ a c b d, e = .returned (.agg #[.bool (p1 != p2), .slice a (grp (U1 * U2)).length c, .bool false, .slice b (grp (D1 * D2)).length d]) ∧ NatA w' (.slice a (grp (U1 * U2)).length c) (grp (U1 * U2)) ∧ NatA w' (.slice b (grp (D1 * D2)).length d) (grp (D1 * D2)) ∧ Below W.heap.size W w') := fun W h => by
      have hn := HNs.out W h
      have hg := HG.out
      exact overProduct_any p1 false false p2 U1 D1 U2 D2 _ _ _ _ _ _ _ _ _ _ _ _ W (hn.1.1) (hn.1.2) (hn.2.1) (hn.2.2) (by omega) (by omega) (by omega) (by omega)
    have HAn : Hid (∀ W a l c b k d, Below wr.heap.size wr W → NatA W (.slice a l c) (grp (U1 * U2)) → NatA W (.slice b k d) (grp (D1 * D2)) → Calls Tryd.prog 41 #[.agg #[.bool (p1 != p2), .slice a l c, .bool false, .slice b k d]] W fun e w' => e = .returned (.tuple #[.agg #[.bool ma, .string mx, .string my], .int .i64 mc]) ∧ Below W.heap.size W w') := fun W a l c b k d h hu hd => by
      have hg := HG.out
      have h := answerOf_any (p1 != p2) false (U1 * U2) (D1 * D2) a b l c k d W hu hd (by have := nG_mul U1 U2; omega) (by have := nG_mul D1 D2; have := nG_mul D1 U2; omega) (Nat.mul_pos HDp.out.1 (HDp.out.2)) (HRes.out W h).2.2
      rw [show ∀ b : Bool, (b != false) = b from fun b => by cases b <;> rfl, HMF.out] at h
      exact h
    have HB2 : Hid (Below (wr.heap.size + 2) ((wr.alloc (boxR p1 (.slice a1 (grp U1).length c1) false (.slice e1 (grp D1).length d1))).alloc (boxR p2 (.slice a2 (grp U2).length c2) false (.slice e2 (grp D2).length d2))) ((wr.alloc (boxR p1 (.slice a1 (grp U1).length c1) false (.slice e1 (grp D1).length d1))).alloc (boxR p2 (.slice a2 (grp U2).length c2) false (.slice e2 (grp D2).length d2)))) := Below.refl _ _
    have hw2 := HW.out _ HB2.out
    obtain ⟨⟨x0, x1, x2, x3⟩, -⟩ := own4V hw2.1
    obtain ⟨⟨y0, y1, y2, y3⟩, -⟩ := own4V hw2.2.1
    clear hw2
    go_wp2_with fail
    refine (HOv.out _ (HW.out _ HB2.out).2.2).mono ?_
    rintro e w5 ⟨oa, oc, ob, od, rfl, hu, hd, hw5⟩
    have HB5 := hid (HB2.out.trans (hw5.mono (by simp)))
    have HU := hid hu
    have HDd := hid hd
    clear hu hd hw5 x0 x1 x2 x3 y0 y1 y2 y3
    go_wp2_with fail
    refine (HAn.out _ _ _ _ _ _ _ (HW.out _ HB5.out).2.2 HU.out HDd.out).mono ?_
    rintro e w6 ⟨rfl, hw6⟩
    have HB6 := hid (HB5.out.trans (hw6.mono (Nat.le_trans (by simp) HB5.out.size)))
    clear hw6
    obtain ⟨⟨r0, r1, r2⟩, q0, q1, q2⟩ := own3V (HRes.out _ (HW.out _ HB6.out).2.2).1
    go_wp2_with fail
    refine bodyPost_ret (v := .tuple #[.agg #[.bool ma, .string mx, .string my], .int .i64 mc]) (by simp [results, Tryd.results19, go_sem, r0, r1, r2]) rfl ⟨rfl, ?_⟩
    exact below_set3 (HRes.out _ (HW.out _ HB6.out).2.2).2.1 (by omega) _ _ _

set_option maxRecDepth 20000 in
set_option maxHeartbeats 4000000 in
theorem implNumSub_of (n1 n2 : Bool) (u1 v1 u2 v2 : ByteArray) (b1 b2 p1 p2 : Bool) (U1 D1 U2 D2 : Nat) (w : World)
    (h1 : ∀ w, Pow9 w → Calls Tryd.prog 49 #[.agg #[.bool n1, .string u1, .string v1]] w fun e w' => ∃ ua uc da dc, e = .returned (.tuple #[.agg #[.bool p1, .slice ua (grp U1).length uc, .slice da (grp D1).length dc], .bool b1]) ∧ NatA w' (.slice ua (grp U1).length uc) (grp U1) ∧ NatA w' (.slice da (grp D1).length dc) (grp D1) ∧ Below w.heap.size w w')
    (h2 : ∀ w, Pow9 w → Calls Tryd.prog 49 #[.agg #[.bool n2, .string u2, .string v2]] w fun e w' => ∃ ua uc da dc, e = .returned (.tuple #[.agg #[.bool p2, .slice ua (grp U2).length uc, .slice da (grp D2).length dc], .bool b2]) ∧ NatA w' (.slice ua (grp U2).length uc) (grp U2) ∧ NatA w' (.slice da (grp D2).length dc) (grp D2) ∧ Below w.heap.size w w')
    (g1 : nG U1 ≤ 60) (g2 : nG D1 ≤ 60) (g3 : nG U2 ≤ 60) (g4 : nG D2 ≤ 60) (hd : (b1 && b2) = true → 0 < D1 ∧ 0 < D2) (hP : Pow9 w) :
    Calls Tryd.prog 23 #[.agg #[.bool n1, .string u1, .string v1], .agg #[.bool n2, .string u2, .string v2]] w fun e w' => e = .returned (if (b1 && b2) = true then ansQ (sumN p1 (U1 * D2) (!p2) (U2 * D1)) (sumZ p1 (U1 * D2) (!p2) (U2 * D1)) (D1 * D2) else noAns 1) ∧ Below w.heap.size w w' := by
  have HRt := hid (fun w h => ratiosOf_any n1 n2 u1 v1 u2 v2 b1 b2 p1 p2 U1 D1 U2 D2 w h1 h2 h)
  have HPw := hid hP
  have HG := hid (And.intro (And.intro g1 g2) (And.intro g3 g4))
  have HD := hid hd
  have HB0 : Hid (Below (w.heap.size + 3) (((w.alloc (boxN n1 u1 v1)).alloc (boxN n2 u2 v2)).alloc box0) (((w.alloc (boxN n1 u1 v1)).alloc (boxN n2 u2 v2)).alloc box0)) := Below.refl _ _
  have HX : Hid (∀ W, Below (w.heap.size + 3) (((w.alloc (boxN n1 u1 v1)).alloc (boxN n2 u2 v2)).alloc box0) W → Own W (w.heap.size + 1 + 1) 25 #[.bool false, .string ⟨#[]⟩, .string ⟨#[]⟩] ∧ Below w.heap.size w W) := fun W h => (boxes3 w _ _ _ _ _ _ h).2.2
  clear h1 h2 g1 g2 g3 g4 hd hP
  obtain ⟨bb, hbb⟩ : ∃ b, (b1 && b2) = b := ⟨_, rfl⟩
  rw [hbb] at HRt HD ⊢
  clear hbb
  cases bb
  · have HV : Hid ((if false = true then ansQ (sumN p1 (U1 * D2) (!p2) (U2 * D1)) (sumZ p1 (U1 * D2) (!p2) (U2 * D1)) (D1 * D2) else noAns 1) = noAns 1) := if_neg (by decide)
    rw [HV.out]
    go_enter Tryd.func23, Tryd.ntmps23
    go_wp2_with fail
    refine (HRt.out _ (HPw.out.below (HX.out _ HB0.out).2 (Nat.le_refl _))).mono ?_
    rintro e wr ⟨a1, c1, e1, d1, a2, c2, e2, d2, rfl, -, -, -, -, hw⟩
    have HBr := hid (HB0.out.trans (hw.mono (by simp)))
    have hsr : w.heap.size + 3 ≤ wr.heap.size := by have := hw.size; simp at this; omega
    have hlr : w.heap.size + 1 + 1 < wr.heap.size := by omega
    have hlr2 : w.heap.size + 1 + 1 < wr.heap.size + 1 := by omega
    clear hw
    obtain ⟨⟨r0, r1, r2⟩, q0, q1, q2⟩ := own3V (HX.out _ HBr.out).1
    have hX := (HX.out _ HBr.out).2
    go_wp2_with fail
    refine bodyPost_ret (v := noAns 1) (by simp [results, Tryd.results23, go_sem, r0, r1, r2, hlr, hlr2]) rfl ⟨rfl, ?_⟩
    exact ((below_set3 hX (by omega) _ _ _).alloc (by rw [size_set3]; omega) _).alloc (by rw [World.size_alloc, size_set3]; omega) _
  · have HDp := hid (HD.out rfl)
    obtain ⟨ma, mx, my, mc, hmf⟩ := ansQ_form (sumN p1 (U1 * D2) (!p2) (U2 * D1)) (sumZ p1 (U1 * D2) (!p2) (U2 * D1)) (D1 * D2)
    have HV : Hid ((if true = true then ansQ (sumN p1 (U1 * D2) (!p2) (U2 * D1)) (sumZ p1 (U1 * D2) (!p2) (U2 * D1)) (D1 * D2) else noAns 1) = .tuple #[.agg #[.bool ma, .string mx, .string my], .int .i64 mc]) := by show _ = _; rw [if_pos rfl, hmf]
    have HMF := hid hmf
    rw [HV.out]
    clear HV hmf
    go_enter Tryd.func23, Tryd.ntmps23
    go_wp2_with fail
    refine (HRt.out _ (HPw.out.below (HX.out _ HB0.out).2 (Nat.le_refl _))).mono ?_
    rintro e wr ⟨a1, c1, e1, d1, a2, c2, e2, d2, rfl, hN1, hN2, hN3, hN4, hw⟩
    have HBr := hid (HB0.out.trans (hw.mono (by simp)))
    have hsr : w.heap.size + 3 ≤ wr.heap.size := by have := hw.size; simp at this; omega
    have hlr : w.heap.size + 1 + 1 < wr.heap.size := by omega
    clear hw
    have HW : Hid (∀ W, Below (wr.heap.size + 2) ((wr.alloc (boxR p1 (.slice a1 (grp U1).length c1) false (.slice e1 (grp D1).length d1))).alloc (boxR p2 (.slice a2 (grp U2).length c2) false (.slice e2 (grp D2).length d2))) W → Own W wr.heap.size 61 #[.bool p1, .slice a1 (grp U1).length c1, .bool false, .slice e1 (grp D1).length d1] ∧ Own W (wr.heap.size + 1) 61 #[.bool p2, .slice a2 (grp U2).length c2, .bool false, .slice e2 (grp D2).length d2] ∧ Below wr.heap.size wr W) := fun W h => boxes2 wr _ _ _ _ h
    have HRes : Hid (∀ W, Below wr.heap.size wr W → Own W (w.heap.size + 1 + 1) 25 #[.bool false, .string ⟨#[]⟩, .string ⟨#[]⟩] ∧ Below w.heap.size w W ∧ Pow9 W) := fun W h => by
      have h0 := HX.out _ (HBr.out.trans (h.mono hsr))
      exact ⟨h0.1, h0.2, HPw.out.below h0.2 (Nat.le_refl _)⟩
    have HNs : Hid (∀ W, Below wr.heap.size wr W → (NatA W (.slice a1 (grp U1).length c1) (grp U1) ∧ NatA W (.slice e1 (grp D1).length d1) (grp D1)) ∧ NatA W (.slice a2 (grp U2).length c2) (grp U2) ∧ NatA W (.slice e2 (grp D2).length d2) (grp D2)) := fun W h => ⟨⟨hN1.below h (Nat.le_refl _), hN2.below h (Nat.le_refl _)⟩, hN3.below h (Nat.le_refl _), hN4.below h (Nat.le_refl _)⟩
    clear hN1 hN2 hN3 hN4
    have HOv : Hid (∀ W, Below wr.heap.size wr W → Calls Tryd.prog 45 #[.agg #[.bool p1, .slice a1 (grp U1).length c1, .bool false, .slice e1 (grp D1).length d1], .agg #[.bool !p2, .slice a2 (grp U2).length c2, .bool false, .slice e2 (grp D2).length d2], .func (.func 46) #[] #[]] W fun e w' => ∃ a c b d, e = .returned (.agg #[.bool (sumN p1 (U1 * D2) (!p2) (U2 * D1)), .slice a (grp (sumZ p1 (U1 * D2) (!p2) (U2 * D1))).length c, .bool false, .slice b (grp (D1 * D2)).length d]) ∧ NatA w' (.slice a (grp (sumZ p1 (U1 * D2) (!p2) (U2 * D1))).length c) (grp (sumZ p1 (U1 * D2) (!p2) (U2 * D1))) ∧ NatA w' (.slice b (grp (D1 * D2)).length d) (grp (D1 * D2)) ∧ Below W.heap.size W w') := fun W h => by
      have hn := HNs.out W h
      have hg := HG.out
      exact overSum_any p1 (!p2) U1 D1 U2 D2 _ _ _ _ _ _ _ _ _ _ _ _ W (hn.1.1) (hn.1.2) (hn.2.1) (hn.2.2) (by omega) (by omega) (by omega) (by omega)
    have HAn : Hid (∀ W a l c b k d, Below wr.heap.size wr W → NatA W (.slice a l c) (grp (sumZ p1 (U1 * D2) (!p2) (U2 * D1))) → NatA W (.slice b k d) (grp (D1 * D2)) → Calls Tryd.prog 41 #[.agg #[.bool (sumN p1 (U1 * D2) (!p2) (U2 * D1)), .slice a l c, .bool false, .slice b k d]] W fun e w' => e = .returned (.tuple #[.agg #[.bool ma, .string mx, .string my], .int .i64 mc]) ∧ Below W.heap.size W w') := fun W a l c b k d h hu hd => by
      have hg := HG.out
      have h := answerOf_any (sumN p1 (U1 * D2) (!p2) (U2 * D1)) false (sumZ p1 (U1 * D2) (!p2) (U2 * D1)) (D1 * D2) a b l c k d W hu hd (by have h1 := nG_mul U1 D2; have h2 := nG_mul U2 D1; exact Nat.le_trans (nG_sumZ (M := 120) (by omega) (by omega)) (by decide)) (by have := nG_mul D1 D2; have := nG_mul D1 U2; omega) (Nat.mul_pos HDp.out.1 (HDp.out.2)) (HRes.out W h).2.2
      rw [show ∀ b : Bool, (b != false) = b from fun b => by cases b <;> rfl, HMF.out] at h
      exact h
    have HSt : Hid (∀ W, Below (wr.heap.size + 2) ((wr.alloc (boxR p1 (.slice a1 (grp U1).length c1) false (.slice e1 (grp D1).length d1))).alloc (boxR p2 (.slice a2 (grp U2).length c2) false (.slice e2 (grp D2).length d2))) W → ∀ x y z : Value, ((((W.setCell ⟨w.heap.size + 1 + 1, 0, none⟩ x).setCell ⟨w.heap.size + 1 + 1, 1, none⟩ y).setCell ⟨w.heap.size + 1 + 1, 2, none⟩ z).cell? ⟨wr.heap.size, 0, none⟩ = some (.bool p1) ∧ (((W.setCell ⟨w.heap.size + 1 + 1, 0, none⟩ x).setCell ⟨w.heap.size + 1 + 1, 1, none⟩ y).setCell ⟨w.heap.size + 1 + 1, 2, none⟩ z).cell? ⟨wr.heap.size, 1, none⟩ = some (.slice a1 (grp U1).length c1) ∧ (((W.setCell ⟨w.heap.size + 1 + 1, 0, none⟩ x).setCell ⟨w.heap.size + 1 + 1, 1, none⟩ y).setCell ⟨w.heap.size + 1 + 1, 2, none⟩ z).cell? ⟨wr.heap.size, 2, none⟩ = some (.bool false) ∧ (((W.setCell ⟨w.heap.size + 1 + 1, 0, none⟩ x).setCell ⟨w.heap.size + 1 + 1, 1, none⟩ y).setCell ⟨w.heap.size + 1 + 1, 2, none⟩ z).cell? ⟨wr.heap.size, 3, none⟩ = some (.slice e1 (grp D1).length d1)) ∧ (((W.setCell ⟨w.heap.size + 1 + 1, 0, none⟩ x).setCell ⟨w.heap.size + 1 + 1, 1, none⟩ y).setCell ⟨w.heap.size + 1 + 1, 2, none⟩ z).cell? ⟨wr.heap.size + 1, 0, none⟩ = some (.bool p2) ∧ (((W.setCell ⟨w.heap.size + 1 + 1, 0, none⟩ x).setCell ⟨w.heap.size + 1 + 1, 1, none⟩ y).setCell ⟨w.heap.size + 1 + 1, 2, none⟩ z).cell? ⟨wr.heap.size + 1, 1, none⟩ = some (.slice a2 (grp U2).length c2) ∧ (((W.setCell ⟨w.heap.size + 1 + 1, 0, none⟩ x).setCell ⟨w.heap.size + 1 + 1, 1, none⟩ y).setCell ⟨w.heap.size + 1 + 1, 2, none⟩ z).cell? ⟨wr.heap.size + 1, 2, none⟩ = some (.bool false) ∧ (((W.setCell ⟨w.heap.size + 1 + 1, 0, none⟩ x).setCell ⟨w.heap.size + 1 + 1, 1, none⟩ y).setCell ⟨w.heap.size + 1 + 1, 2, none⟩ z).cell? ⟨wr.heap.size + 1, 3, none⟩ = some (.slice e2 (grp D2).length d2)) := fun W h x y z => by
      have h0 := HW.out W h
      exact ⟨(own4V (own_set3 h0.1 (by omega) x y z)).1, (own4V (own_set3 h0.2.1 (by omega) x y z)).1⟩
    have HFn := hid (fun W => ratioOpposite_any p2 false a2 e2 (grp U2).length c2 (grp D2).length d2 W)
    go_wp2_with fail
    have HB : Hid (Below (wr.heap.size + 2) ((wr.alloc (boxR p1 (.slice a1 (grp U1).length c1) false (.slice e1 (grp D1).length d1))).alloc (boxR p2 (.slice a2 (grp U2).length c2) false (.slice e2 (grp D2).length d2))) ((wr.alloc (boxR p1 (.slice a1 (grp U1).length c1) false (.slice e1 (grp D1).length d1))).alloc (boxR p2 (.slice a2 (grp U2).length c2) false (.slice e2 (grp D2).length d2))).drew) := (Below.refl _ _).drew
    obtain ⟨⟨r0, r1, r2⟩, q0, q1, q2⟩ := own3V (HRes.out _ (HW.out _ HB.out).2.2).1
    go_region_held3 (fun W => (W.cell? ⟨wr.heap.size, 0, none⟩ = some (.bool p1) ∧ W.cell? ⟨wr.heap.size, 1, none⟩ = some (.slice a1 (grp U1).length c1) ∧ W.cell? ⟨wr.heap.size, 2, none⟩ = some (.bool false) ∧ W.cell? ⟨wr.heap.size, 3, none⟩ = some (.slice e1 (grp D1).length d1)) ∧ W.cell? ⟨wr.heap.size + 1, 0, none⟩ = some (.bool p2) ∧ W.cell? ⟨wr.heap.size + 1, 1, none⟩ = some (.slice a2 (grp U2).length c2) ∧ W.cell? ⟨wr.heap.size + 1, 2, none⟩ = some (.bool false) ∧ W.cell? ⟨wr.heap.size + 1, 3, none⟩ = some (.slice e2 (grp D2).length d2))
      (first
        | exact ⟨(own4V (HW.out _ HB.out).1).1, (own4V (HW.out _ HB.out).2.1).1⟩
        | exact HSt.out _ HB.out _ _ _)
      (first
        | (go_at_call 52
           go_loud (
             refine (HFn.out _).mono ?_
             rintro e w3 ⟨rfl, hw5⟩
             have HB := hid (HB.out.trans (hw5.mono (Nat.le_trans (by simp) HB.out.size)))
             clear hw5 r0 r1 r2 q0 q1 q2
             obtain ⟨⟨r0, r1, r2⟩, q0, q1, q2⟩ := own3V (HRes.out _ (HW.out _ HB.out).2.2).1))
        | (go_at_call 45
           go_loud (
             refine (HOv.out _ (HW.out _ HB.out).2.2).mono ?_
             rintro e w5 ⟨oa, oc, ob, od, rfl, hu, hd, hw5⟩
             have HU := hid hu
             have HDd := hid hd
             clear hu hd
             have HB := hid (HB.out.trans (hw5.mono (Nat.le_trans (by simp) HB.out.size)))
             clear hw5 r0 r1 r2 q0 q1 q2
             obtain ⟨⟨r0, r1, r2⟩, q0, q1, q2⟩ := own3V (HRes.out _ (HW.out _ HB.out).2.2).1))
        | (go_at_call 41
           go_loud (
             refine (HAn.out _ _ _ _ _ _ _ (HW.out _ HB.out).2.2 HU.out HDd.out).mono ?_
             rintro e w6 ⟨rfl, hw5⟩
             have HB := hid (HB.out.trans (hw5.mono (Nat.le_trans (by simp) HB.out.size)))
             clear hw5 r0 r1 r2 q0 q1 q2
             obtain ⟨⟨r0, r1, r2⟩, q0, q1, q2⟩ := own3V (HRes.out _ (HW.out _ HB.out).2.2).1)))
    all_goals
      go_wp2_with fail
      refine bodyPost_ret (v := .tuple #[.agg #[.bool ma, .string mx, .string my], .int .i64 mc]) (by simp [results, Tryd.results23, go_sem, r0, r1, r2]) rfl ⟨rfl, ?_⟩
      exact below_set3 (HRes.out _ (HW.out _ HB.out).2.2).2.1 (by omega) _ _ _

theorem ovDiv (p1 p2 : Bool) (x1 y1 x2 y2 : Nat) (a1 b1 a2 b2 : Option Addr) (l1 c1 k1 d1 l2 c2 k2 d2 : Nat) (w : World) (hx1 : NatA w (.slice a1 l1 c1) (grp x1)) (hy1 : NatA w (.slice b1 k1 d1) (grp y1)) (hx2 : NatA w (.slice a2 l2 c2) (grp x2)) (hy2 : NatA w (.slice b2 k2 d2) (grp y2))
    (g1 : nG x1 ≤ 100) (g2 : nG y1 ≤ 100) (g3 : nG x2 ≤ 100) (g4 : nG y2 ≤ 100) :
    Calls Tryd.prog 45 #[.agg #[.bool p1, .slice a1 l1 c1, .bool false, .slice b1 k1 d1], .agg #[.bool false, .slice a2 l2 c2, .bool p2, .slice b2 k2 d2], .func (.func 48) #[] #[]] w fun e w' => ∃ a c b d, e = .returned (.agg #[.bool p1, .slice a (grp (x1 * x2)).length c, .bool p2, .slice b (grp (y1 * y2)).length d]) ∧ NatA w' (.slice a (grp (x1 * x2)).length c) (grp (x1 * x2)) ∧ NatA w' (.slice b (grp (y1 * y2)).length d) (grp (y1 * y2)) ∧ Below w.heap.size w w' := by
  have h := overProduct_any p1 false p2 false x1 y1 x2 y2 a1 b1 a2 b2 l1 c1 k1 d1 l2 c2 k2 d2 w hx1 hy1 hx2 hy2 g1 g2 g3 g4
  rw [show (p1 != false) = p1 by cases p1 <;> rfl, show (false != p2) = p2 by cases p2 <;> rfl] at h
  exact h

set_option maxRecDepth 20000 in
set_option maxHeartbeats 4000000 in
theorem implNumDiv_of (n1 n2 : Bool) (u1 v1 u2 v2 : ByteArray) (b1 b2 p1 p2 : Bool) (U1 D1 U2 D2 : Nat) (w : World)
    (h1 : ∀ w, Pow9 w → Calls Tryd.prog 49 #[.agg #[.bool n1, .string u1, .string v1]] w fun e w' => ∃ ua uc da dc, e = .returned (.tuple #[.agg #[.bool p1, .slice ua (grp U1).length uc, .slice da (grp D1).length dc], .bool b1]) ∧ NatA w' (.slice ua (grp U1).length uc) (grp U1) ∧ NatA w' (.slice da (grp D1).length dc) (grp D1) ∧ Below w.heap.size w w')
    (h2 : ∀ w, Pow9 w → Calls Tryd.prog 49 #[.agg #[.bool n2, .string u2, .string v2]] w fun e w' => ∃ ua uc da dc, e = .returned (.tuple #[.agg #[.bool p2, .slice ua (grp U2).length uc, .slice da (grp D2).length dc], .bool b2]) ∧ NatA w' (.slice ua (grp U2).length uc) (grp U2) ∧ NatA w' (.slice da (grp D2).length dc) (grp D2) ∧ Below w.heap.size w w')
    (g1 : nG U1 ≤ 60) (g2 : nG D1 ≤ 60) (g3 : nG U2 ≤ 60) (g4 : nG D2 ≤ 60) (hd : (b1 && b2) = true → 0 < D1 ∧ 0 < D2) (hP : Pow9 w) :
    Calls Tryd.prog 24 #[.agg #[.bool n1, .string u1, .string v1], .agg #[.bool n2, .string u2, .string v2]] w fun e w' => e = .returned (if (b1 && b2) = true then (if U2 = 0 then noAns 2 else ansQ (p1 != p2) (U1 * D2) (D1 * U2)) else noAns 1) ∧ Below w.heap.size w w' := by
  have HRt := hid (fun w h => ratiosOf_any n1 n2 u1 v1 u2 v2 b1 b2 p1 p2 U1 D1 U2 D2 w h1 h2 h)
  have HPw := hid hP
  have HG := hid (And.intro (And.intro g1 g2) (And.intro g3 g4))
  have HD := hid hd
  have HB0 : Hid (Below (w.heap.size + 3) (((w.alloc (boxN n1 u1 v1)).alloc (boxN n2 u2 v2)).alloc box0) (((w.alloc (boxN n1 u1 v1)).alloc (boxN n2 u2 v2)).alloc box0)) := Below.refl _ _
  have HX : Hid (∀ W, Below (w.heap.size + 3) (((w.alloc (boxN n1 u1 v1)).alloc (boxN n2 u2 v2)).alloc box0) W → Own W (w.heap.size + 1 + 1) 25 #[.bool false, .string ⟨#[]⟩, .string ⟨#[]⟩] ∧ Below w.heap.size w W) := fun W h => (boxes3 w _ _ _ _ _ _ h).2.2
  clear h1 h2 g1 g2 g3 g4 hd hP
  obtain ⟨bb, hbb⟩ : ∃ b, (b1 && b2) = b := ⟨_, rfl⟩
  rw [hbb] at HRt HD ⊢
  clear hbb
  cases bb
  · have HV : Hid ((if false = true then (if U2 = 0 then noAns 2 else ansQ (p1 != p2) (U1 * D2) (D1 * U2)) else noAns 1) = noAns 1) := if_neg (by decide)
    rw [HV.out]
    go_enter Tryd.func24, Tryd.ntmps24
    go_wp2_with fail
    refine (HRt.out _ (HPw.out.below (HX.out _ HB0.out).2 (Nat.le_refl _))).mono ?_
    rintro e wr ⟨a1, c1, e1, d1, a2, c2, e2, d2, rfl, -, -, -, -, hw⟩
    have HBr := hid (HB0.out.trans (hw.mono (by simp)))
    have hsr : w.heap.size + 3 ≤ wr.heap.size := by have := hw.size; simp at this; omega
    have hlr : w.heap.size + 1 + 1 < wr.heap.size := by omega
    have hlr2 : w.heap.size + 1 + 1 < wr.heap.size + 1 := by omega
    clear hw
    obtain ⟨⟨r0, r1, r2⟩, q0, q1, q2⟩ := own3V (HX.out _ HBr.out).1
    have hX := (HX.out _ HBr.out).2
    go_wp2_with fail
    refine bodyPost_ret (v := noAns 1) (by simp [results, Tryd.results24, go_sem, r0, r1, r2, hlr, hlr2]) rfl ⟨rfl, ?_⟩
    exact ((below_set3 hX (by omega) _ _ _).alloc (by rw [size_set3]; omega) _).alloc (by rw [World.size_alloc, size_set3]; omega) _
  · have HDp := hid (HD.out rfl)
    by_cases hz : U2 = 0
    · have HV : Hid ((if true = true then (if U2 = 0 then noAns 2 else ansQ (p1 != p2) (U1 * D2) (D1 * U2)) else noAns 1) = noAns 2) := by show _ = _; rw [if_pos rfl, if_pos hz]
      rw [HV.out]
      clear HV
      go_enter Tryd.func24, Tryd.ntmps24
      go_wp2_with fail
      refine (HRt.out _ (HPw.out.below (HX.out _ HB0.out).2 (Nat.le_refl _))).mono ?_
      rintro e wr ⟨a1, c1, e1, d1, a2, c2, e2, d2, rfl, hN1, hN2, hN3, hN4, hw⟩
      have HBr := hid (HB0.out.trans (hw.mono (by simp)))
      have hsr : w.heap.size + 3 ≤ wr.heap.size := by have := hw.size; simp at this; omega
      have hlr : w.heap.size + 1 + 1 < wr.heap.size := by omega
      clear hw hN1 hN2 hN4
      have HB2 : Hid (Below (wr.heap.size + 2) ((wr.alloc (boxR p1 (.slice a1 (grp U1).length c1) false (.slice e1 (grp D1).length d1))).alloc (boxR p2 (.slice a2 (grp U2).length c2) false (.slice e2 (grp D2).length d2))) ((wr.alloc (boxR p1 (.slice a1 (grp U1).length c1) false (.slice e1 (grp D1).length d1))).alloc (boxR p2 (.slice a2 (grp U2).length c2) false (.slice e2 (grp D2).length d2)))) := Below.refl _ _
      have hw2 := boxes2 wr _ _ _ _ HB2.out
      obtain ⟨⟨y0, y1, y2, y3⟩, -⟩ := own4V hw2.2.1
      have HSg := hid (intSign_any p2 U2 _ _ (hN3.below hw2.2.2 (Nat.le_refl _)))
      have hsg : signI p2 U2 = 0 := if_pos hz
      rw [hsg] at HSg
      have HBw := hid (HX.out _ (HBr.out.trans (hw2.2.2.mono hsr)))
      clear hw2 hsg hN3 hz
      go_wp2_with fail
      refine HSg.out.mono ?_
      rintro e w4 ⟨rfl, hw4⟩
      have HB4 := hid (HB2.out.trans (hw4.mono (by simp)))
      have hx4 := HX.out _ (HBr.out.trans ((boxes2 wr _ _ _ _ HB4.out).2.2.mono hsr))
      obtain ⟨⟨r0, r1, r2⟩, q0, q1, q2⟩ := own3V hx4.1
      clear hw4 y0 y1 y2 y3
      go_wp2_with fail
      refine bodyPost_ret (v := noAns 2) (by simp [results, Tryd.results24, go_sem, r0, r1, r2]) rfl ⟨rfl, ?_⟩
      exact below_set3 hx4.2 (by omega) _ _ _
    · obtain ⟨ma, mx, my, mc, hmf⟩ := ansQ_form (p1 != p2) (U1 * D2) (D1 * U2)
      have HV : Hid ((if true = true then (if U2 = 0 then noAns 2 else ansQ (p1 != p2) (U1 * D2) (D1 * U2)) else noAns 1) = .tuple #[.agg #[.bool ma, .string mx, .string my], .int .i64 mc]) := by show _ = _; rw [if_pos rfl, if_neg hz, hmf]
      have HMF := hid hmf
      rw [HV.out]
      clear HV hmf
      go_enter Tryd.func24, Tryd.ntmps24
      go_wp2_with fail
      refine (HRt.out _ (HPw.out.below (HX.out _ HB0.out).2 (Nat.le_refl _))).mono ?_
      rintro e wr ⟨a1, c1, e1, d1, a2, c2, e2, d2, rfl, hN1, hN2, hN3, hN4, hw⟩
      have HBr := hid (HB0.out.trans (hw.mono (by simp)))
      have hsr : w.heap.size + 3 ≤ wr.heap.size := by have := hw.size; simp at this; omega
      have hlr : w.heap.size + 1 + 1 < wr.heap.size := by omega
      clear hw
      have HW : Hid (∀ W, Below (wr.heap.size + 2) ((wr.alloc (boxR p1 (.slice a1 (grp U1).length c1) false (.slice e1 (grp D1).length d1))).alloc (boxR p2 (.slice a2 (grp U2).length c2) false (.slice e2 (grp D2).length d2))) W → Own W wr.heap.size 61 #[.bool p1, .slice a1 (grp U1).length c1, .bool false, .slice e1 (grp D1).length d1] ∧ Own W (wr.heap.size + 1) 61 #[.bool p2, .slice a2 (grp U2).length c2, .bool false, .slice e2 (grp D2).length d2] ∧ Below wr.heap.size wr W) := fun W h => boxes2 wr _ _ _ _ h
      have HRes : Hid (∀ W, Below wr.heap.size wr W → Own W (w.heap.size + 1 + 1) 25 #[.bool false, .string ⟨#[]⟩, .string ⟨#[]⟩] ∧ Below w.heap.size w W ∧ Pow9 W) := fun W h => by
        have h0 := HX.out _ (HBr.out.trans (h.mono hsr))
        exact ⟨h0.1, h0.2, HPw.out.below h0.2 (Nat.le_refl _)⟩
      have HNs : Hid (∀ W, Below wr.heap.size wr W → (NatA W (.slice a1 (grp U1).length c1) (grp U1) ∧ NatA W (.slice e1 (grp D1).length d1) (grp D1)) ∧ NatA W (.slice a2 (grp U2).length c2) (grp U2) ∧ NatA W (.slice e2 (grp D2).length d2) (grp D2)) := fun W h => ⟨⟨hN1.below h (Nat.le_refl _), hN2.below h (Nat.le_refl _)⟩, hN3.below h (Nat.le_refl _), hN4.below h (Nat.le_refl _)⟩
      clear hN1 hN2 hN3 hN4
      have HOv : Hid (∀ W, Below wr.heap.size wr W → Calls Tryd.prog 45 #[.agg #[.bool p1, .slice a1 (grp U1).length c1, .bool false, .slice e1 (grp D1).length d1], .agg #[.bool false, .slice e2 (grp D2).length d2, .bool p2, .slice a2 (grp U2).length c2], .func (.func 48) #[] #[]] W fun e w' => ∃ a c b d, e = .returned (.agg #[.bool p1, .slice a (grp (U1 * D2)).length c, .bool p2, .slice b (grp (D1 * U2)).length d]) ∧ NatA w' (.slice a (grp (U1 * D2)).length c) (grp (U1 * D2)) ∧ NatA w' (.slice b (grp (D1 * U2)).length d) (grp (D1 * U2)) ∧ Below W.heap.size W w') := fun W h => by
        have hn := HNs.out W h
        have hg := HG.out
        exact ovDiv p1 p2 U1 D1 D2 U2 _ _ _ _ _ _ _ _ _ _ _ _ W (hn.1.1) (hn.1.2) (hn.2.2) (hn.2.1) (by omega) (by omega) (by omega) (by omega)
      have HAn : Hid (∀ W a l c b k d, Below wr.heap.size wr W → NatA W (.slice a l c) (grp (U1 * D2)) → NatA W (.slice b k d) (grp (D1 * U2)) → Calls Tryd.prog 41 #[.agg #[.bool p1, .slice a l c, .bool p2, .slice b k d]] W fun e w' => e = .returned (.tuple #[.agg #[.bool ma, .string mx, .string my], .int .i64 mc]) ∧ Below W.heap.size W w') := fun W a l c b k d h hu hd => by
        have hg := HG.out
        have h := answerOf_any p1 p2 (U1 * D2) (D1 * U2) a b l c k d W hu hd (by have := nG_mul U1 D2; omega) (by have := nG_mul D1 D2; have := nG_mul D1 U2; omega) (Nat.mul_pos HDp.out.1 (Nat.pos_of_ne_zero hz)) (HRes.out W h).2.2
        rw [HMF.out] at h
        exact h
      have HSt : Hid (∀ W, Below (wr.heap.size + 2) ((wr.alloc (boxR p1 (.slice a1 (grp U1).length c1) false (.slice e1 (grp D1).length d1))).alloc (boxR p2 (.slice a2 (grp U2).length c2) false (.slice e2 (grp D2).length d2))) W → ∀ x y z : Value, ((((W.setCell ⟨w.heap.size + 1 + 1, 0, none⟩ x).setCell ⟨w.heap.size + 1 + 1, 1, none⟩ y).setCell ⟨w.heap.size + 1 + 1, 2, none⟩ z).cell? ⟨wr.heap.size, 0, none⟩ = some (.bool p1) ∧ (((W.setCell ⟨w.heap.size + 1 + 1, 0, none⟩ x).setCell ⟨w.heap.size + 1 + 1, 1, none⟩ y).setCell ⟨w.heap.size + 1 + 1, 2, none⟩ z).cell? ⟨wr.heap.size, 1, none⟩ = some (.slice a1 (grp U1).length c1) ∧ (((W.setCell ⟨w.heap.size + 1 + 1, 0, none⟩ x).setCell ⟨w.heap.size + 1 + 1, 1, none⟩ y).setCell ⟨w.heap.size + 1 + 1, 2, none⟩ z).cell? ⟨wr.heap.size, 2, none⟩ = some (.bool false) ∧ (((W.setCell ⟨w.heap.size + 1 + 1, 0, none⟩ x).setCell ⟨w.heap.size + 1 + 1, 1, none⟩ y).setCell ⟨w.heap.size + 1 + 1, 2, none⟩ z).cell? ⟨wr.heap.size, 3, none⟩ = some (.slice e1 (grp D1).length d1)) ∧ (((W.setCell ⟨w.heap.size + 1 + 1, 0, none⟩ x).setCell ⟨w.heap.size + 1 + 1, 1, none⟩ y).setCell ⟨w.heap.size + 1 + 1, 2, none⟩ z).cell? ⟨wr.heap.size + 1, 0, none⟩ = some (.bool p2) ∧ (((W.setCell ⟨w.heap.size + 1 + 1, 0, none⟩ x).setCell ⟨w.heap.size + 1 + 1, 1, none⟩ y).setCell ⟨w.heap.size + 1 + 1, 2, none⟩ z).cell? ⟨wr.heap.size + 1, 1, none⟩ = some (.slice a2 (grp U2).length c2) ∧ (((W.setCell ⟨w.heap.size + 1 + 1, 0, none⟩ x).setCell ⟨w.heap.size + 1 + 1, 1, none⟩ y).setCell ⟨w.heap.size + 1 + 1, 2, none⟩ z).cell? ⟨wr.heap.size + 1, 2, none⟩ = some (.bool false) ∧ (((W.setCell ⟨w.heap.size + 1 + 1, 0, none⟩ x).setCell ⟨w.heap.size + 1 + 1, 1, none⟩ y).setCell ⟨w.heap.size + 1 + 1, 2, none⟩ z).cell? ⟨wr.heap.size + 1, 3, none⟩ = some (.slice e2 (grp D2).length d2)) := fun W h x y z => by
        have h0 := HW.out W h
        exact ⟨(own4V (own_set3 h0.1 (by omega) x y z)).1, (own4V (own_set3 h0.2.1 (by omega) x y z)).1⟩
      have HFn := hid (fun W => turned_any p2 false a2 e2 (grp U2).length c2 (grp D2).length d2 W)
      have HB2 : Hid (Below (wr.heap.size + 2) ((wr.alloc (boxR p1 (.slice a1 (grp U1).length c1) false (.slice e1 (grp D1).length d1))).alloc (boxR p2 (.slice a2 (grp U2).length c2) false (.slice e2 (grp D2).length d2))) ((wr.alloc (boxR p1 (.slice a1 (grp U1).length c1) false (.slice e1 (grp D1).length d1))).alloc (boxR p2 (.slice a2 (grp U2).length c2) false (.slice e2 (grp D2).length d2)))) := Below.refl _ _
      have hw2 := HW.out _ HB2.out
      obtain ⟨⟨y0, y1, y2, y3⟩, -⟩ := own4V hw2.2.1
      have HSg := hid (intSign_any p2 U2 _ _ (HNs.out _ hw2.2.2).2.1)
      obtain ⟨sg, hsg⟩ : ∃ z, signI p2 U2 = z := ⟨_, rfl⟩
      have hsg0 : (sg == 0) = false := by
        rw [beq_eq_false_iff_ne, ← hsg]; unfold signI; rw [if_neg hz]; split <;> decide
      rw [hsg] at HSg
      clear hw2 hsg
      go_wp2_with fail
      refine HSg.out.mono ?_
      rintro e w4 ⟨rfl, hw4⟩
      have HB4 := hid (HB2.out.trans (hw4.mono (by simp)))
      clear hw4 y0 y1 y2 y3
      go_wp2_with fail
      have HB : Hid (Below (wr.heap.size + 2) ((wr.alloc (boxR p1 (.slice a1 (grp U1).length c1) false (.slice e1 (grp D1).length d1))).alloc (boxR p2 (.slice a2 (grp U2).length c2) false (.slice e2 (grp D2).length d2))) w4.drew) := HB4.out.drew
      obtain ⟨⟨r0, r1, r2⟩, q0, q1, q2⟩ := own3V (HRes.out _ (HW.out _ HB.out).2.2).1
      go_region_held3 (fun W => (W.cell? ⟨wr.heap.size, 0, none⟩ = some (.bool p1) ∧ W.cell? ⟨wr.heap.size, 1, none⟩ = some (.slice a1 (grp U1).length c1) ∧ W.cell? ⟨wr.heap.size, 2, none⟩ = some (.bool false) ∧ W.cell? ⟨wr.heap.size, 3, none⟩ = some (.slice e1 (grp D1).length d1)) ∧ W.cell? ⟨wr.heap.size + 1, 0, none⟩ = some (.bool p2) ∧ W.cell? ⟨wr.heap.size + 1, 1, none⟩ = some (.slice a2 (grp U2).length c2) ∧ W.cell? ⟨wr.heap.size + 1, 2, none⟩ = some (.bool false) ∧ W.cell? ⟨wr.heap.size + 1, 3, none⟩ = some (.slice e2 (grp D2).length d2))
        (first
          | exact ⟨(own4V (HW.out _ HB.out).1).1, (own4V (HW.out _ HB.out).2.1).1⟩
          | exact HSt.out _ HB.out _ _ _)
        (first
          | (go_at_call 54
             go_loud (
               refine (HFn.out _).mono ?_
               rintro e w3 ⟨rfl, hw5⟩
               have HB := hid (HB.out.trans (hw5.mono (Nat.le_trans (by simp) HB.out.size)))
               clear hw5 r0 r1 r2 q0 q1 q2
               obtain ⟨⟨r0, r1, r2⟩, q0, q1, q2⟩ := own3V (HRes.out _ (HW.out _ HB.out).2.2).1))
          | (go_at_call 45
             go_loud (
               refine (HOv.out _ (HW.out _ HB.out).2.2).mono ?_
               rintro e w5 ⟨oa, oc, ob, od, rfl, hu, hd, hw5⟩
               have HU := hid hu
               have HDd := hid hd
               clear hu hd
               have HB := hid (HB.out.trans (hw5.mono (Nat.le_trans (by simp) HB.out.size)))
               clear hw5 r0 r1 r2 q0 q1 q2
               obtain ⟨⟨r0, r1, r2⟩, q0, q1, q2⟩ := own3V (HRes.out _ (HW.out _ HB.out).2.2).1))
          | (go_at_call 41
             go_loud (
               refine (HAn.out _ _ _ _ _ _ _ (HW.out _ HB.out).2.2 HU.out HDd.out).mono ?_
               rintro e w6 ⟨rfl, hw5⟩
               have HB := hid (HB.out.trans (hw5.mono (Nat.le_trans (by simp) HB.out.size)))
               clear hw5 r0 r1 r2 q0 q1 q2
               obtain ⟨⟨r0, r1, r2⟩, q0, q1, q2⟩ := own3V (HRes.out _ (HW.out _ HB.out).2.2).1)))
      all_goals
        go_wp2_with fail
        refine bodyPost_ret (v := .tuple #[.agg #[.bool ma, .string mx, .string my], .int .i64 mc]) (by simp [results, Tryd.results24, go_sem, r0, r1, r2]) rfl ⟨rfl, ?_⟩
        exact below_set3 (HRes.out _ (HW.out _ HB.out).2.2).2.1 (by omega) _ _ _

set_option maxRecDepth 20000 in
set_option maxHeartbeats 4000000 in
theorem implNumAdd_of (n1 n2 : Bool) (u1 v1 u2 v2 : ByteArray) (b1 b2 p1 p2 : Bool) (U1 D1 U2 D2 : Nat) (w : World)
    (h1 : ∀ w, Pow9 w → Calls Tryd.prog 49 #[.agg #[.bool n1, .string u1, .string v1]] w fun e w' => ∃ ua uc da dc, e = .returned (.tuple #[.agg #[.bool p1, .slice ua (grp U1).length uc, .slice da (grp D1).length dc], .bool b1]) ∧ NatA w' (.slice ua (grp U1).length uc) (grp U1) ∧ NatA w' (.slice da (grp D1).length dc) (grp D1) ∧ Below w.heap.size w w')
    (h2 : ∀ w, Pow9 w → Calls Tryd.prog 49 #[.agg #[.bool n2, .string u2, .string v2]] w fun e w' => ∃ ua uc da dc, e = .returned (.tuple #[.agg #[.bool p2, .slice ua (grp U2).length uc, .slice da (grp D2).length dc], .bool b2]) ∧ NatA w' (.slice ua (grp U2).length uc) (grp U2) ∧ NatA w' (.slice da (grp D2).length dc) (grp D2) ∧ Below w.heap.size w w')
    (g1 : nG U1 ≤ 60) (g2 : nG D1 ≤ 60) (g3 : nG U2 ≤ 60) (g4 : nG D2 ≤ 60) (hd : (b1 && b2) = true → 0 < D1 ∧ 0 < D2) (hP : Pow9 w) :
    Calls Tryd.prog 17 #[.agg #[.bool n1, .string u1, .string v1], .agg #[.bool n2, .string u2, .string v2]] w fun e w' => e = .returned (if (b1 && b2) = true then ansQ (sumN p1 (U1 * D2) p2 (U2 * D1)) (sumZ p1 (U1 * D2) p2 (U2 * D1)) (D1 * D2) else noAns 1) ∧ Below w.heap.size w w' := by
  have HRt := hid (fun w h => ratiosOf_any n1 n2 u1 v1 u2 v2 b1 b2 p1 p2 U1 D1 U2 D2 w h1 h2 h)
  have HPw := hid hP
  have HG := hid (And.intro (And.intro g1 g2) (And.intro g3 g4))
  have HD := hid hd
  have HB0 : Hid (Below (w.heap.size + 3) (((w.alloc (boxN n1 u1 v1)).alloc (boxN n2 u2 v2)).alloc box0) (((w.alloc (boxN n1 u1 v1)).alloc (boxN n2 u2 v2)).alloc box0)) := Below.refl _ _
  have HX : Hid (∀ W, Below (w.heap.size + 3) (((w.alloc (boxN n1 u1 v1)).alloc (boxN n2 u2 v2)).alloc box0) W → Own W (w.heap.size + 1 + 1) 25 #[.bool false, .string ⟨#[]⟩, .string ⟨#[]⟩] ∧ Below w.heap.size w W) := fun W h => (boxes3 w _ _ _ _ _ _ h).2.2
  clear h1 h2 g1 g2 g3 g4 hd hP
  obtain ⟨bb, hbb⟩ : ∃ b, (b1 && b2) = b := ⟨_, rfl⟩
  rw [hbb] at HRt HD ⊢
  clear hbb
  cases bb
  · have HV : Hid ((if false = true then ansQ (sumN p1 (U1 * D2) p2 (U2 * D1)) (sumZ p1 (U1 * D2) p2 (U2 * D1)) (D1 * D2) else noAns 1) = noAns 1) := if_neg (by decide)
    rw [HV.out]
    go_enter Tryd.func17, Tryd.ntmps17
    go_wp2_with fail
    refine (HRt.out _ (HPw.out.below (HX.out _ HB0.out).2 (Nat.le_refl _))).mono ?_
    rintro e wr ⟨a1, c1, e1, d1, a2, c2, e2, d2, rfl, -, -, -, -, hw⟩
    have HBr := hid (HB0.out.trans (hw.mono (by simp)))
    have hsr : w.heap.size + 3 ≤ wr.heap.size := by have := hw.size; simp at this; omega
    have hlr : w.heap.size + 1 + 1 < wr.heap.size := by omega
    have hlr2 : w.heap.size + 1 + 1 < wr.heap.size + 1 := by omega
    clear hw
    obtain ⟨⟨r0, r1, r2⟩, q0, q1, q2⟩ := own3V (HX.out _ HBr.out).1
    have hX := (HX.out _ HBr.out).2
    go_wp2_with fail
    refine bodyPost_ret (v := noAns 1) (by simp [results, Tryd.results17, go_sem, r0, r1, r2, hlr, hlr2]) rfl ⟨rfl, ?_⟩
    exact ((below_set3 hX (by omega) _ _ _).alloc (by rw [size_set3]; omega) _).alloc (by rw [World.size_alloc, size_set3]; omega) _
  · have HDp := hid (HD.out rfl)
    obtain ⟨ma, mx, my, mc, hmf⟩ := ansQ_form (sumN p1 (U1 * D2) p2 (U2 * D1)) (sumZ p1 (U1 * D2) p2 (U2 * D1)) (D1 * D2)
    have HV : Hid ((if true = true then ansQ (sumN p1 (U1 * D2) p2 (U2 * D1)) (sumZ p1 (U1 * D2) p2 (U2 * D1)) (D1 * D2) else noAns 1) = .tuple #[.agg #[.bool ma, .string mx, .string my], .int .i64 mc]) := by show _ = _; rw [if_pos rfl, hmf]
    have HMF := hid hmf
    rw [HV.out]
    clear HV hmf
    go_enter Tryd.func17, Tryd.ntmps17
    go_wp2_with fail
    refine (HRt.out _ (HPw.out.below (HX.out _ HB0.out).2 (Nat.le_refl _))).mono ?_
    rintro e wr ⟨a1, c1, e1, d1, a2, c2, e2, d2, rfl, hN1, hN2, hN3, hN4, hw⟩
    have HBr := hid (HB0.out.trans (hw.mono (by simp)))
    have hsr : w.heap.size + 3 ≤ wr.heap.size := by have := hw.size; simp at this; omega
    have hlr : w.heap.size + 1 + 1 < wr.heap.size := by omega
    clear hw
    have HW : Hid (∀ W, Below (wr.heap.size + 2) ((wr.alloc (boxR p1 (.slice a1 (grp U1).length c1) false (.slice e1 (grp D1).length d1))).alloc (boxR p2 (.slice a2 (grp U2).length c2) false (.slice e2 (grp D2).length d2))) W → Own W wr.heap.size 61 #[.bool p1, .slice a1 (grp U1).length c1, .bool false, .slice e1 (grp D1).length d1] ∧ Own W (wr.heap.size + 1) 61 #[.bool p2, .slice a2 (grp U2).length c2, .bool false, .slice e2 (grp D2).length d2] ∧ Below wr.heap.size wr W) := fun W h => boxes2 wr _ _ _ _ h
    have HRes : Hid (∀ W, Below wr.heap.size wr W → Own W (w.heap.size + 1 + 1) 25 #[.bool false, .string ⟨#[]⟩, .string ⟨#[]⟩] ∧ Below w.heap.size w W ∧ Pow9 W) := fun W h => by
      have h0 := HX.out _ (HBr.out.trans (h.mono hsr))
      exact ⟨h0.1, h0.2, HPw.out.below h0.2 (Nat.le_refl _)⟩
    have HNs : Hid (∀ W, Below wr.heap.size wr W → (NatA W (.slice a1 (grp U1).length c1) (grp U1) ∧ NatA W (.slice e1 (grp D1).length d1) (grp D1)) ∧ NatA W (.slice a2 (grp U2).length c2) (grp U2) ∧ NatA W (.slice e2 (grp D2).length d2) (grp D2)) := fun W h => ⟨⟨hN1.below h (Nat.le_refl _), hN2.below h (Nat.le_refl _)⟩, hN3.below h (Nat.le_refl _), hN4.below h (Nat.le_refl _)⟩
    clear hN1 hN2 hN3 hN4
    have HOv : Hid (∀ W, Below wr.heap.size wr W → Calls Tryd.prog 45 #[.agg #[.bool p1, .slice a1 (grp U1).length c1, .bool false, .slice e1 (grp D1).length d1], .agg #[.bool p2, .slice a2 (grp U2).length c2, .bool false, .slice e2 (grp D2).length d2], .func (.func 46) #[] #[]] W fun e w' => ∃ a c b d, e = .returned (.agg #[.bool (sumN p1 (U1 * D2) p2 (U2 * D1)), .slice a (grp (sumZ p1 (U1 * D2) p2 (U2 * D1))).length c, .bool false, .slice b (grp (D1 * D2)).length d]) ∧ NatA w' (.slice a (grp (sumZ p1 (U1 * D2) p2 (U2 * D1))).length c) (grp (sumZ p1 (U1 * D2) p2 (U2 * D1))) ∧ NatA w' (.slice b (grp (D1 * D2)).length d) (grp (D1 * D2)) ∧ Below W.heap.size W w') := fun W h => by
      have hn := HNs.out W h
      have hg := HG.out
      exact overSum_any p1 p2 U1 D1 U2 D2 _ _ _ _ _ _ _ _ _ _ _ _ W (hn.1.1) (hn.1.2) (hn.2.1) (hn.2.2) (by omega) (by omega) (by omega) (by omega)
    have HAn : Hid (∀ W a l c b k d, Below wr.heap.size wr W → NatA W (.slice a l c) (grp (sumZ p1 (U1 * D2) p2 (U2 * D1))) → NatA W (.slice b k d) (grp (D1 * D2)) → Calls Tryd.prog 41 #[.agg #[.bool (sumN p1 (U1 * D2) p2 (U2 * D1)), .slice a l c, .bool false, .slice b k d]] W fun e w' => e = .returned (.tuple #[.agg #[.bool ma, .string mx, .string my], .int .i64 mc]) ∧ Below W.heap.size W w') := fun W a l c b k d h hu hd => by
      have hg := HG.out
      have h := answerOf_any (sumN p1 (U1 * D2) p2 (U2 * D1)) false (sumZ p1 (U1 * D2) p2 (U2 * D1)) (D1 * D2) a b l c k d W hu hd (by have h1 := nG_mul U1 D2; have h2 := nG_mul U2 D1; exact Nat.le_trans (nG_sumZ (M := 120) (by omega) (by omega)) (by decide)) (by have := nG_mul D1 D2; have := nG_mul D1 U2; omega) (Nat.mul_pos HDp.out.1 (HDp.out.2)) (HRes.out W h).2.2
      rw [show ∀ b : Bool, (b != false) = b from fun b => by cases b <;> rfl, HMF.out] at h
      exact h
    have HB2 : Hid (Below (wr.heap.size + 2) ((wr.alloc (boxR p1 (.slice a1 (grp U1).length c1) false (.slice e1 (grp D1).length d1))).alloc (boxR p2 (.slice a2 (grp U2).length c2) false (.slice e2 (grp D2).length d2))) ((wr.alloc (boxR p1 (.slice a1 (grp U1).length c1) false (.slice e1 (grp D1).length d1))).alloc (boxR p2 (.slice a2 (grp U2).length c2) false (.slice e2 (grp D2).length d2)))) := Below.refl _ _
    have hw2 := HW.out _ HB2.out
    obtain ⟨⟨x0, x1, x2, x3⟩, -⟩ := own4V hw2.1
    obtain ⟨⟨y0, y1, y2, y3⟩, -⟩ := own4V hw2.2.1
    clear hw2
    go_wp2_with fail
    refine (HOv.out _ (HW.out _ HB2.out).2.2).mono ?_
    rintro e w5 ⟨oa, oc, ob, od, rfl, hu, hd, hw5⟩
    have HB5 := hid (HB2.out.trans (hw5.mono (by simp)))
    have HU := hid hu
    have HDd := hid hd
    clear hu hd hw5 x0 x1 x2 x3 y0 y1 y2 y3
    go_wp2_with fail
    refine (HAn.out _ _ _ _ _ _ _ (HW.out _ HB5.out).2.2 HU.out HDd.out).mono ?_
    rintro e w6 ⟨rfl, hw6⟩
    have HB6 := hid (HB5.out.trans (hw6.mono (Nat.le_trans (by simp) HB5.out.size)))
    clear hw6
    obtain ⟨⟨r0, r1, r2⟩, q0, q1, q2⟩ := own3V (HRes.out _ (HW.out _ HB6.out).2.2).1
    go_wp2_with fail
    refine bodyPost_ret (v := .tuple #[.agg #[.bool ma, .string mx, .string my], .int .i64 mc]) (by simp [results, Tryd.results17, go_sem, r0, r1, r2]) rfl ⟨rfl, ?_⟩
    exact below_set3 (HRes.out _ (HW.out _ HB6.out).2.2).2.1 (by omega) _ _ _
end Go.Proofs.YtbbffhpppacihaaDoor
