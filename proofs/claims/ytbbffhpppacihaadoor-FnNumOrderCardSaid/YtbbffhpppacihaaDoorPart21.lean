/-
  Stage 8, the program: dividing whole numbers. Condition: the groups lie in memory as NatA says.
  Stage 8, the program: dividedOf. Condition: the table of powers and errors.errorType stand.
  The model of stage 8: l14Sign, l14Down, l14Nearest. Condition: above and below have at most 60 digits.
  The model of stage 8: l14Nearest, NumRound. Condition: above and below have at most 60 digits.
  The model of stage 8: NumRound. Condition: above and below have at most 60 digits.
  The model of stage 8: l14Whole, NumQuo, NumMod, NumGcd. Condition: none but that texts are no longer than a text may be.
  The model of stage 8: NumQuo, NumMod, NumGcd. Condition: none but that texts are no longer than a text may be.
  Stage 8, the program: leftDownward. Condition: the groups lie in memory as NatA says.
-/
import Derived.Test.YtbbffhpppacihaaDoorPart20
import Derived.Test.YtbbffhpppacihaaDoorPart19
import Derived.Test.YtbbffhpppacihaaDoorPart12
namespace Go.Proofs.YtbbffhpppacihaaDoor
open Go.RowKit Go.Siskin

theorem own6V {w : World} {g : Nat} {e : TypeId} {a b c d k l : Value} (h : Own w g e #[a, b, c, d, k, l]) : (w.cell? ⟨g, 0, none⟩ = some a ∧ w.cell? ⟨g, 1, none⟩ = some b ∧ w.cell? ⟨g, 2, none⟩ = some c ∧ w.cell? ⟨g, 3, none⟩ = some d ∧ w.cell? ⟨g, 4, none⟩ = some k ∧ w.cell? ⟨g, 5, none⟩ = some l) ∧ w.frozen? ⟨g, 0, none⟩ = false ∧ w.frozen? ⟨g, 1, none⟩ = false ∧ w.frozen? ⟨g, 2, none⟩ = false ∧ w.frozen? ⟨g, 3, none⟩ = false ∧ w.frozen? ⟨g, 4, none⟩ = false ∧ w.frozen? ⟨g, 5, none⟩ = false :=
  ⟨⟨h.cell 0, h.cell 1, h.cell 2, h.cell 3, h.cell 4, h.cell 5⟩, h.frozen 0, h.frozen 1, h.frozen 2, h.frozen 3, h.frozen 4, h.frozen 5⟩
theorem own_set6 {w : World} {g r : Nat} {e : TypeId} {cs : Array Value} (h : Own w g e cs) (hne : g ≠ r) (x0 x1 x2 x3 x4 x5 : Value) : Own ((((((w.setCell ⟨r, 0, none⟩ x0).setCell ⟨r, 1, none⟩ x1).setCell ⟨r, 2, none⟩ x2).setCell ⟨r, 3, none⟩ x3).setCell ⟨r, 4, none⟩ x4).setCell ⟨r, 5, none⟩ x5) g e cs := by
  unfold Own
  rw [Below.heap_setCell _ ⟨r, 5, none⟩ _ _ hne, Below.heap_setCell _ ⟨r, 4, none⟩ _ _ hne, Below.heap_setCell _ ⟨r, 3, none⟩ _ _ hne, Below.heap_setCell _ ⟨r, 2, none⟩ _ _ hne, Below.heap_setCell _ ⟨r, 1, none⟩ _ _ hne, Below.heap_setCell _ ⟨r, 0, none⟩ _ _ hne]
  exact h
theorem below_set6 {B r : Nat} {w W : World} (h : Below B w W) (hr : B ≤ r) (x0 x1 x2 x3 x4 x5 : Value) : Below B w ((((((W.setCell ⟨r, 0, none⟩ x0).setCell ⟨r, 1, none⟩ x1).setCell ⟨r, 2, none⟩ x2).setCell ⟨r, 3, none⟩ x3).setCell ⟨r, 4, none⟩ x4).setCell ⟨r, 5, none⟩ x5) :=
  (((((h.setCell (p := ⟨r, 0, none⟩) hr x0).setCell (p := ⟨r, 1, none⟩) hr x1).setCell (p := ⟨r, 2, none⟩) hr x2).setCell (p := ⟨r, 3, none⟩) hr x3).setCell (p := ⟨r, 4, none⟩) hr x4).setCell (p := ⟨r, 5, none⟩) hr x5
abbrev box6 (n1 : Bool) (v1 : Value) (n2 : Bool) (v2 : Value) (n3 : Bool) (v3 : Value) : Obj := .cells #[.bool n1, v1, .bool n2, v2, .bool n3, v3] 52
theorem divBox_no (n1 n2 n3 : Bool) (a b d : Option Addr) (l c k e m f : Nat) : ∀ (i : Nat) (z : Int), (#[Value.bool n1, .slice a l c, .bool n2, .slice b k e, .bool n3, .slice d m f] : Array Value)[i]? ≠ some (.int .u64 z) := by
  intro i z
  match i with
  | 0 | 1 | 2 | 3 | 4 | 5 => simp
  | i + 6 => simp
theorem natA_set6 {w : World} {v : Value} {gs : List Nat} {fb : Nat} {e : TypeId} {n1 n2 n3 : Bool} {a b d : Option Addr} {l c k e' m f : Nat} (h : NatA w v gs) (ho : Own w fb e #[.bool n1, .slice a l c, .bool n2, .slice b k e', .bool n3, .slice d m f]) (x0 x1 x2 x3 x4 x5 : Value) : NatA ((((((w.setCell ⟨fb, 0, none⟩ x0).setCell ⟨fb, 1, none⟩ x1).setCell ⟨fb, 2, none⟩ x2).setCell ⟨fb, 3, none⟩ x3).setCell ⟨fb, 4, none⟩ x4).setCell ⟨fb, 5, none⟩ x5) v gs :=
  natA_boxG h ho (divBox_no n1 n2 n3 a b d l c k e' m f) (fun j hb => by rw [Below.heap_setCell _ _ _ _ hb, Below.heap_setCell _ _ _ _ hb, Below.heap_setCell _ _ _ _ hb, Below.heap_setCell _ _ _ _ hb, Below.heap_setCell _ _ _ _ hb, Below.heap_setCell _ _ _ _ hb]) (by simp [World.setCell])

set_option maxRecDepth 20000 in
set_option maxHeartbeats 4000000 in
theorem intDividedBy_any (n1 n2 s : Bool) (x y : Nat) (a1 a2 : Option Addr) (l1 k1 l2 k2 : Nat) (w : World) (hs : (n1 != n2) = s) (hx : NatA w (.slice a1 l1 k1) (grp x)) (hy : NatA w (.slice a2 l2 k2) (grp y)) (hy0 : 0 < y) (hn : nG x ≤ 1000) :
    Calls Tryd.prog 65 #[.agg #[.bool n1, .slice a1 l1 k1], .agg #[.bool n2, .slice a2 l2 k2]] w fun e w' => ∃ qa qc ra rc, e = .returned (.agg #[.bool n2, .slice a2 l2 k2, .bool s, .slice qa (grp (x / y)).length qc, .bool n1, .slice ra (grp (x % y)).length rc]) ∧ NatA w' (.slice qa (grp (x / y)).length qc) (grp (x / y)) ∧ NatA w' (.slice ra (grp (x % y)).length rc) (grp (x % y)) ∧ Below w.heap.size w w' := by
  have hs2 : (!n1 == n2) = s := hs
  have HDv : Hid (∀ W, Below w.heap.size w W → Calls Tryd.prog 85 #[.slice a1 l1 k1, .slice a2 l2 k2] W fun e w' => ∃ q r, e = .returned (.tuple #[q, r]) ∧ NatA w' q (grp (x / y)) ∧ NatA w' r (grp (x % y)) ∧ Below W.heap.size W w') := fun W hb => dividedBy_any x y _ _ W (hx.below hb (Nat.le_refl _)) (hy.below hb (Nat.le_refl _)) hy0 hn
  clear hx hy hy0 hn hs
  obtain ⟨W0, HW0⟩ : ∃ W, Hid (((w.alloc (boxI n1 (.slice a1 l1 k1))).alloc (boxI n2 (.slice a2 l2 k2))).alloc (box6 false (.slice none 0 0) false (.slice none 0 0) false (.slice none 0 0)) = W) := ⟨_, rfl⟩
  have HX : Hid (∀ W, Below (w.heap.size + 3) W0 W → Own W w.heap.size 50 #[.bool n1, .slice a1 l1 k1] ∧ Own W (w.heap.size + 1) 50 #[.bool n2, .slice a2 l2 k2] ∧ Own W (w.heap.size + 1 + 1) 52 #[.bool false, .slice none 0 0, .bool false, .slice none 0 0, .bool false, .slice none 0 0] ∧ Below w.heap.size w W) := fun W h => by
    rw [← HW0.out] at h
    exact boxes3 w _ _ _ _ _ _ h
  have HB0 : Hid (Below (w.heap.size + 3) W0 W0) := Below.refl _ _
  have HS0 : Hid (w.heap.size + 3 ≤ W0.heap.size) := by show _ ≤ _; rw [← HW0.out]; simp
  obtain ⟨⟨x0, x1⟩, -⟩ := own2V (HX.out _ HB0.out).1
  obtain ⟨⟨y0, y1⟩, -⟩ := own2V (HX.out _ HB0.out).2.1
  go_enter Tryd.func65, Tryd.ntmps65
  go_wp2_with fail
  rw [HW0.out]
  go_wp2_with fail
  refine (HDv.out _ (HX.out _ HB0.out).2.2.2).mono ?_
  rintro e w1 ⟨q, r, rfl, hq, hr, hw1⟩
  obtain ⟨qa, qc, rfl⟩ := natA_formR hq
  obtain ⟨ra, rc, rfl⟩ := natA_formR hr
  have HQ := hid hq
  have HR := hid hr
  have HB1 := hid (HB0.out.trans (hw1.mono HS0.out))
  clear hq hr hw1 x0 x1 y0 y1
  have HB := HB1
  obtain ⟨⟨r0, r1, r2, r3, r4, r5⟩, q0, q1, q2, q3, q4, q5⟩ := own6V (HX.out _ HB.out).2.2.1
  obtain ⟨⟨x0, x1⟩, -⟩ := own2V (HX.out _ HB.out).1
  obtain ⟨⟨y0, y1⟩, -⟩ := own2V (HX.out _ HB.out).2.1
  go_wp2_with fail
  refine bodyPost_ret (v := .agg #[.bool n2, .slice a2 l2 k2, .bool s, .slice qa (grp (x / y)).length qc, .bool n1, .slice ra (grp (x % y)).length rc]) (by simp [results, Tryd.results65, go_sem, r0, r1, r2, r3, r4, r5]) rfl ⟨qa, qc, ra, rc, rfl, ?_, ?_, ?_⟩
  · exact natA_set6 HQ.out (HX.out _ HB.out).2.2.1 _ _ _ _ _ _
  · exact natA_set6 HR.out (HX.out _ HB.out).2.2.1 _ _ _ _ _ _
  · exact below_set6 (HX.out _ HB.out).2.2.2 (by omega) _ _ _ _ _ _
end Go.Proofs.YtbbffhpppacihaaDoor

namespace Go.Proofs.YtbbffhpppacihaaDoor
open Go.RowKit Go.Siskin

abbrev div0 : Value := .agg #[.bool false, .slice none 0 0, .bool false, .slice none 0 0, .bool false, .slice none 0 0]
abbrev box60 : Obj := box6 false (.slice none 0 0) false (.slice none 0 0) false (.slice none 0 0)
/-- What integersOf tells of two whole numbers. -/
def IntPost (p1 p2 : Bool) (U1 U2 : Nat) (w : World) (e : Ending) (w' : World) : Prop :=
  ∃ a1 c1 a2 c2, e = .returned (.tuple #[.agg #[.bool p1, .slice a1 (grp U1).length c1], .agg #[.bool p2, .slice a2 (grp U2).length c2], .nilIface]) ∧ NatA w' (.slice a1 (grp U1).length c1) (grp U1) ∧ NatA w' (.slice a2 (grp U2).length c2) (grp U2) ∧ Below w.heap.size w w'

set_option maxRecDepth 20000 in
set_option maxHeartbeats 4000000 in
theorem dividedOf_err (n1 n2 : Bool) (T1 R1 T2 R2 : ByteArray) (c : Int) (w : World) (hP : Pow9 w)
    (hI : ∀ w, Pow9 w → Calls Tryd.prog 60 #[.agg #[.bool n1, .string T1, .string R1], .agg #[.bool n2, .string T2, .string R2]] w fun e w' => e = .returned (.tuple #[int0, int0, whyV c]) ∧ Below w.heap.size w w') :
    Calls Tryd.prog 35 #[.agg #[.bool n1, .string T1, .string R1], .agg #[.bool n2, .string T2, .string R2]] w fun e w' => e = .returned (.tuple #[div0, whyV c]) ∧ Below w.heap.size w w' := by
  have HI := hid hI
  have HPw := hid hP
  clear hI hP
  have HX : Hid (∀ W, Below (w.heap.size + 3) (((w.alloc (boxN n1 T1 R1)).alloc (boxN n2 T2 R2)).alloc box60) W → Own W w.heap.size 25 #[.bool n1, .string T1, .string R1] ∧ Own W (w.heap.size + 1) 25 #[.bool n2, .string T2, .string R2] ∧ Own W (w.heap.size + 1 + 1) 52 #[.bool false, .slice none 0 0, .bool false, .slice none 0 0, .bool false, .slice none 0 0] ∧ Below w.heap.size w W) := fun W h => boxes3 w _ _ _ _ _ _ h
  have HB0 : Hid (Below (w.heap.size + 3) (((w.alloc (boxN n1 T1 R1)).alloc (boxN n2 T2 R2)).alloc box60) (((w.alloc (boxN n1 T1 R1)).alloc (boxN n2 T2 R2)).alloc box60)) := Below.refl _ _
  have HSz : Hid (w.heap.size + 3 ≤ (((w.alloc (boxN n1 T1 R1)).alloc (boxN n2 T2 R2)).alloc box60).heap.size) := by show _ ≤ _; simp
  have HP0 := hid (HPw.out.below (HX.out _ HB0.out).2.2.2 (Nat.le_refl _))
  go_enter Tryd.func35, Tryd.ntmps35
  go_wp2_with fail
  refine (HI.out _ HP0.out).mono ?_
  rintro e w1 ⟨rfl, hw1⟩
  have HB1 := hid (HB0.out.trans (hw1.mono (by first | exact HSz.out | simp)))
  have HSz1 := hid (Nat.le_trans HSz.out HB1.out.size)
  have HB2 : Hid (Below (w.heap.size + 3) (((w.alloc (boxN n1 T1 R1)).alloc (boxN n2 T2 R2)).alloc box60) ((w1.alloc boxI0).alloc boxI0)) := (HB1.out.alloc HSz1.out _).alloc (by rw [World.size_alloc]; exact Nat.le_trans HSz1.out (Nat.le_succ _)) _
  obtain ⟨⟨r0, r1, r2, r3, r4, r5⟩, q0, q1, q2, q3, q4, q5⟩ := own6V (HX.out _ HB2.out).2.2.1
  clear hw1
  go_wp2_with fail
  refine bodyPost_ret (v := .tuple #[div0, whyV c]) (by simp [results, Tryd.results35, go_sem, r0, r1, r2, r3, r4, r5]) rfl ⟨rfl, ?_⟩
  exact below_set6 (HX.out _ HB2.out).2.2.2 (by omega) _ _ _ _ _ _

set_option maxRecDepth 20000 in
set_option maxHeartbeats 4000000 in
theorem dividedOf_nought (n1 n2 p1 p2 : Bool) (T1 R1 T2 R2 : ByteArray) (U1 : Nat) (w : World) (hP : Pow9 w)
    (hI : ∀ w, Pow9 w → Calls Tryd.prog 60 #[.agg #[.bool n1, .string T1, .string R1], .agg #[.bool n2, .string T2, .string R2]] w (IntPost p1 p2 U1 0 w)) :
    Calls Tryd.prog 35 #[.agg #[.bool n1, .string T1, .string R1], .agg #[.bool n2, .string T2, .string R2]] w fun e w' => e = .returned (.tuple #[div0, whyV 2]) ∧ Below w.heap.size w w' := by
  have HI := hid hI
  have HPw := hid hP
  clear hI hP
  have HX : Hid (∀ W, Below (w.heap.size + 3) (((w.alloc (boxN n1 T1 R1)).alloc (boxN n2 T2 R2)).alloc box60) W → Own W w.heap.size 25 #[.bool n1, .string T1, .string R1] ∧ Own W (w.heap.size + 1) 25 #[.bool n2, .string T2, .string R2] ∧ Own W (w.heap.size + 1 + 1) 52 #[.bool false, .slice none 0 0, .bool false, .slice none 0 0, .bool false, .slice none 0 0] ∧ Below w.heap.size w W) := fun W h => boxes3 w _ _ _ _ _ _ h
  have HB0 : Hid (Below (w.heap.size + 3) (((w.alloc (boxN n1 T1 R1)).alloc (boxN n2 T2 R2)).alloc box60) (((w.alloc (boxN n1 T1 R1)).alloc (boxN n2 T2 R2)).alloc box60)) := Below.refl _ _
  have HSz : Hid (w.heap.size + 3 ≤ (((w.alloc (boxN n1 T1 R1)).alloc (boxN n2 T2 R2)).alloc box60).heap.size) := by show _ ≤ _; simp
  have HP0 := hid (HPw.out.below (HX.out _ HB0.out).2.2.2 (Nat.le_refl _))
  go_enter Tryd.func35, Tryd.ntmps35
  go_wp2_with fail
  refine (HI.out _ HP0.out).mono ?_
  rintro e w1 ⟨a1, c1, a2, c2, rfl, hu1, hu2, hw1⟩
  have HB1 := hid (HB0.out.trans (hw1.mono (by first | exact HSz.out | simp)))
  have HSg : Hid (∀ W, Below w1.heap.size w1 W → Calls Tryd.prog 53 #[.agg #[.bool p2, .slice a2 (grp 0).length c2]] W fun e w' => e = .returned (.int .i64 0) ∧ Below W.heap.size W w') := fun W hb => intSign_any p2 0 _ W (hu2.below hb (Nat.le_refl _))
  have HSz1 := hid (Nat.le_trans HSz.out HB1.out.size)
  obtain ⟨W2, HW2⟩ : ∃ W, Hid ((w1.alloc (boxI p1 (.slice a1 (grp U1).length c1))).alloc (boxI p2 (.slice a2 (grp 0).length c2)) = W) := ⟨_, rfl⟩
  have HC2 : Hid (Below w1.heap.size w1 W2) := by rw [← HW2.out]; exact ((Below.refl _ _).alloc (Nat.le_refl _) _).alloc (by simp) _
  have HB2 := hid (HB1.out.trans (HC2.out.mono HSz1.out))
  obtain ⟨⟨y0, y1⟩, -⟩ := own2V (boxes2 w1 _ _ _ _ (Below.refl _ ((w1.alloc (boxI p1 (.slice a1 (grp U1).length c1))).alloc (boxI p2 (.slice a2 (grp 0).length c2))))).2.1
  rw [HW2.out] at y0 y1
  clear hw1 hu1 hu2
  go_wp2_with fail
  rw [HW2.out]
  go_wp2_with fail
  refine (HSg.out _ HC2.out).mono ?_
  rintro e w2 ⟨rfl, hw2⟩
  have HB3 := hid (HB2.out.trans (hw2.mono (Nat.le_trans HSz.out HB2.out.size)))
  obtain ⟨⟨r0, r1, r2, r3, r4, r5⟩, q0, q1, q2, q3, q4, q5⟩ := own6V (HX.out _ HB3.out).2.2.1
  clear hw2 y0 y1
  go_wp2_with fail
  refine bodyPost_ret (v := .tuple #[div0, whyV 2]) (by simp [results, Tryd.results35, go_sem, r0, r1, r2, r3, r4, r5]) rfl ⟨rfl, ?_⟩
  exact below_set6 (HX.out _ HB3.out).2.2.2 (by omega) _ _ _ _ _ _

set_option maxRecDepth 20000 in
set_option maxHeartbeats 4000000 in
theorem dividedOf_ok (n1 n2 p1 p2 s : Bool) (T1 R1 T2 R2 : ByteArray) (U1 U2 : Nat) (w : World) (hs : (p1 != p2) = s) (hu : U2 ≠ 0) (hn : nG U1 ≤ 1000) (hP : Pow9 w)
    (hI : ∀ w, Pow9 w → Calls Tryd.prog 60 #[.agg #[.bool n1, .string T1, .string R1], .agg #[.bool n2, .string T2, .string R2]] w (IntPost p1 p2 U1 U2 w)) :
    Calls Tryd.prog 35 #[.agg #[.bool n1, .string T1, .string R1], .agg #[.bool n2, .string T2, .string R2]] w fun e w' => ∃ a2 c2 qa qc ra rc, e = .returned (.tuple #[.agg #[.bool p2, .slice a2 (grp U2).length c2, .bool s, .slice qa (grp (U1 / U2)).length qc, .bool p1, .slice ra (grp (U1 % U2)).length rc], .nilIface]) ∧ NatA w' (.slice a2 (grp U2).length c2) (grp U2) ∧ NatA w' (.slice qa (grp (U1 / U2)).length qc) (grp (U1 / U2)) ∧ NatA w' (.slice ra (grp (U1 % U2)).length rc) (grp (U1 % U2)) ∧ Below w.heap.size w w' := by
  have HI := hid hI
  have HPw := hid hP
  have hz : signI p2 U2 = -1 ∨ signI p2 U2 = 1 := by
    unfold signI
    cases p2 <;> simp [hu]
  have HU := hid (Nat.pos_of_ne_zero hu)
  have HN := hid hn
  have HSS := hid hs
  clear hI hP hu hn hs
  have HX : Hid (∀ W, Below (w.heap.size + 3) (((w.alloc (boxN n1 T1 R1)).alloc (boxN n2 T2 R2)).alloc box60) W → Own W w.heap.size 25 #[.bool n1, .string T1, .string R1] ∧ Own W (w.heap.size + 1) 25 #[.bool n2, .string T2, .string R2] ∧ Own W (w.heap.size + 1 + 1) 52 #[.bool false, .slice none 0 0, .bool false, .slice none 0 0, .bool false, .slice none 0 0] ∧ Below w.heap.size w W) := fun W h => boxes3 w _ _ _ _ _ _ h
  have HB0 : Hid (Below (w.heap.size + 3) (((w.alloc (boxN n1 T1 R1)).alloc (boxN n2 T2 R2)).alloc box60) (((w.alloc (boxN n1 T1 R1)).alloc (boxN n2 T2 R2)).alloc box60)) := Below.refl _ _
  have HSz : Hid (w.heap.size + 3 ≤ (((w.alloc (boxN n1 T1 R1)).alloc (boxN n2 T2 R2)).alloc box60).heap.size) := by show _ ≤ _; simp
  have HP0 := hid (HPw.out.below (HX.out _ HB0.out).2.2.2 (Nat.le_refl _))
  have HZ := hid (fun v w h => intSign_any p2 U2 v w h)
  generalize signI p2 U2 = z at *
  rcases hz with rfl | rfl
  all_goals
    go_enter Tryd.func35, Tryd.ntmps35
    go_wp2_with fail
    refine (HI.out _ HP0.out).mono ?_
    rintro e w1 ⟨a1, c1, a2, c2, rfl, hu1, hu2, hw1⟩
    have HU1 := hid hu1
    have HU2 := hid hu2
    have HB1 := hid (HB0.out.trans (hw1.mono (by first | exact HSz.out | simp)))
    have HSg : Hid (∀ W, Below w1.heap.size w1 W → Calls Tryd.prog 53 #[.agg #[.bool p2, .slice a2 (grp U2).length c2]] W fun e w' => e = .returned (.int .i64 _) ∧ Below W.heap.size W w') := fun W hb => HZ.out _ W (hu2.below hb (Nat.le_refl _))
    have HDb : Hid (∀ W, Below w1.heap.size w1 W → Calls Tryd.prog 65 #[.agg #[.bool p1, .slice a1 (grp U1).length c1], .agg #[.bool p2, .slice a2 (grp U2).length c2]] W fun e w' => ∃ qa qc ra rc, e = .returned (.agg #[.bool p2, .slice a2 (grp U2).length c2, .bool s, .slice qa (grp (U1 / U2)).length qc, .bool p1, .slice ra (grp (U1 % U2)).length rc]) ∧ NatA w' (.slice qa (grp (U1 / U2)).length qc) (grp (U1 / U2)) ∧ NatA w' (.slice ra (grp (U1 % U2)).length rc) (grp (U1 % U2)) ∧ Below W.heap.size W w') := fun W hb => intDividedBy_any p1 p2 s U1 U2 _ _ _ _ _ _ W HSS.out (hu1.below hb (Nat.le_refl _)) (hu2.below hb (Nat.le_refl _)) HU.out HN.out
    have HSz1 := hid (Nat.le_trans HSz.out HB1.out.size)
    obtain ⟨W2, HW2⟩ : ∃ W, Hid ((w1.alloc (boxI p1 (.slice a1 (grp U1).length c1))).alloc (boxI p2 (.slice a2 (grp U2).length c2)) = W) := ⟨_, rfl⟩
    have HC2 : Hid (Below w1.heap.size w1 W2) := by rw [← HW2.out]; exact ((Below.refl _ _).alloc (Nat.le_refl _) _).alloc (by simp) _
    have HC3 : Hid (∀ W, Below (w1.heap.size + 2) W2 W → Own W w1.heap.size 50 #[.bool p1, .slice a1 (grp U1).length c1] ∧ Own W (w1.heap.size + 1) 50 #[.bool p2, .slice a2 (grp U2).length c2] ∧ Below w1.heap.size w1 W) := fun W h => by
      rw [← HW2.out] at h
      exact boxes2 w1 _ _ _ _ h
    have HC0 : Hid (Below (w1.heap.size + 2) W2 W2) := Below.refl _ _
    have HS2 : Hid (w1.heap.size + 2 ≤ W2.heap.size) := by show _ ≤ _; rw [← HW2.out]; simp
    obtain ⟨⟨y0, y1⟩, -⟩ := own2V (HC3.out _ HC0.out).2.1
    clear hw1 hu1 hu2
    go_wp2_with fail
    rw [HW2.out]
    go_wp2_with fail
    refine (HSg.out _ HC2.out).mono ?_
    rintro e w2 ⟨rfl, hw2⟩
    have HC4 := hid (HC0.out.trans (hw2.mono HS2.out))
    clear hw2 y0 y1
    obtain ⟨⟨x0, x1⟩, -⟩ := own2V (HC3.out _ HC4.out).1
    obtain ⟨⟨y0, y1⟩, -⟩ := own2V (HC3.out _ HC4.out).2.1
    go_wp2_with fail
    refine (HDb.out _ (HC3.out _ HC4.out).2.2).mono ?_
    rintro e w3 ⟨qa, qc, ra, rc, rfl, hq, hr, hw3⟩
    have HQ := hid hq
    have HR := hid hr
    have HC5 := hid (HC4.out.trans (hw3.mono (Nat.le_trans HS2.out HC4.out.size)))
    have HB5 := hid (HB1.out.trans ((HC3.out _ HC5.out).2.2.mono HSz1.out))
    obtain ⟨⟨r0, r1, r2, r3, r4, r5⟩, q0, q1, q2, q3, q4, q5⟩ := own6V (HX.out _ HB5.out).2.2.1
    have HY2 := hid (HU2.out.below (HC3.out _ HC5.out).2.2 (Nat.le_refl _))
    clear hq hr hw3 x0 x1 y0 y1
    go_wp2_with fail
    refine bodyPost_ret (v := .tuple #[.agg #[.bool p2, .slice a2 (grp U2).length c2, .bool s, .slice qa (grp (U1 / U2)).length qc, .bool p1, .slice ra (grp (U1 % U2)).length rc], .nilIface]) (by simp [results, Tryd.results35, go_sem, r0, r1, r2, r3, r4, r5]) rfl ⟨a2, c2, qa, qc, ra, rc, rfl, ?_, ?_, ?_, ?_⟩
    · exact natA_set6 HY2.out (HX.out _ HB5.out).2.2.1 _ _ _ _ _ _
    · exact natA_set6 HQ.out (HX.out _ HB5.out).2.2.1 _ _ _ _ _ _
    · exact natA_set6 HR.out (HX.out _ HB5.out).2.2.1 _ _ _ _ _ _
    · exact below_set6 (HX.out _ HB5.out).2.2.2 (by omega) _ _ _ _ _ _
end Go.Proofs.YtbbffhpppacihaaDoor

namespace Go.Proofs.YtbbffhpppacihaaDoor
open Go.RowKit Go.Siskin

set_option maxRecDepth 20000 in
set_option maxHeartbeats 1000000 in
theorem l14Sign_any (n : Bool) (u : Nat) (w : World) :
    Calls Tryd.prog 34 #[.bool n, .string (dec u)] w fun e w' => e = .returned (.agg #[.bool (n && !decide (u = 0)), .string (dec u), .string (dec 1)]) ∧ Below w.heap.size w w' := by
  have hzt := nought_text u
  rw [dec_one]
  generalize decide (u = 0) = z at *
  generalize dec u = T at *
  have hzn : (T.toList != [48]) = !z := by rw [bne, hzt]
  cases n
  all_goals
    go_enter Tryd.func34, Tryd.ntmps34
    go_wp2_with fail
    refine bodyPost_ret (v := .agg #[.bool _, .string T, .string ⟨#[49]⟩]) (by first | (simp [results, Tryd.results34, go_sem]; done) | (simp [results, Tryd.results34, go_sem]; rfl)) rfl ⟨rfl, ?_⟩
    first
      | exact Below.refl _ _
      | exact (Below.refl _ _).alloc (Nat.le_refl _) _
      | exact ((Below.refl _ _).alloc (Nat.le_refl _) _).alloc (by simp) _

theorem nDigits_one : Lib.nDigits 1 = 1 := Lib.nDigits_small (by decide)
/-- One more, if. -/
def oneIf (b : Bool) : Nat := if b then 1 else 0
/-- A whole number as an answer. -/
def ansW (n : Bool) (z : Nat) : Value := .tuple #[.agg #[.bool (n && !decide (z = 0)), .string (dec z), .string (dec 1)], .int .i64 0]
theorem ansQ_W (n : Bool) {z : Nat} (h : Lib.nDigits z ≤ 60) : ansQ n z 1 = ansW n z := by
  unfold ansQ ansW
  rw [Nat.gcd_one_right, Nat.div_one, if_pos ⟨h, by rw [nDigits_one]; decide⟩]
  rfl
theorem round_le {u d : Nat} (hd : 0 < d) (h : u % d ≠ 0) : u / d + 1 ≤ u := by
  have h1 := Nat.div_add_mod u d
  have h2 := Nat.mod_lt u hd
  have h3 : 2 * (u / d) ≤ d * (u / d) := Nat.mul_le_mul_right _ (by omega)
  omega
/-- What is one more away from nought is not too big. -/
theorem round_digits {u d : Nat} {b : Bool} (hu : Lib.nDigits u ≤ 60) (hd : 0 < d) (hb : b = true → u % d ≠ 0) : Lib.nDigits (u / d + oneIf b) ≤ 60 := by
  refine Nat.le_trans (nDigits_mono ?_) hu
  unfold oneIf
  cases b
  · exact Nat.div_le_self _ _
  · exact round_le hd (hb rfl)

/-- The model's last steps: one more or not, then the answer. -/
abbrev upDown (n : Bool) (u d : Nat) : Bool := n && !decide (u % d = 0)
abbrev upNear (u d : Nat) : Bool := decide (d < u % d + u % d) || (decide (u % d + u % d = d) && decide (u / d % 2 = 1))
theorem upDown_left {n : Bool} {u d : Nat} (h : upDown n u d = true) : u % d ≠ 0 := by
  unfold upDown at h
  cases n <;> simp at h
  exact h
theorem upNear_left {u d : Nat} (hd : 0 < d) (h : upNear u d = true) : u % d ≠ 0 := by
  unfold upNear at h
  intro h0
  rw [h0] at h
  simp at h
  omega

end Go.Proofs.YtbbffhpppacihaaDoor

namespace Go.Proofs.YtbbffhpppacihaaDoor
open Go.RowKit Go.Siskin

theorem l11In_any (n lo hi : Int) (w : World) (b : Bool) (hb : decide (lo ≤ n ∧ n ≤ hi) = b) :
    Calls Tryd.prog 38 #[.int .i64 n, .int .i64 lo, .int .i64 hi] w fun e w' => e = .returned (.bool b) ∧ w' = w := by
  by_cases h1 : lo ≤ n
  · by_cases h2 : n ≤ hi
    · obtain rfl : b = true := by rw [← hb]; exact decide_eq_true ⟨h1, h2⟩
      clear hb
      go_enter Tryd.func38, Tryd.ntmps38
      go_wp2_with fail
      go_ret
      exact ⟨by first | rfl | (simp; omega), rfl⟩
    · obtain rfl : b = false := by rw [← hb]; exact decide_eq_false (fun h => h2 h.2)
      clear hb
      go_enter Tryd.func38, Tryd.ntmps38
      go_wp2_with fail
      go_ret
      exact ⟨by first | rfl | (simp; omega), rfl⟩
  · obtain rfl : b = false := by rw [← hb]; exact decide_eq_false (fun h => h1 h.1)
    clear hb
    go_enter Tryd.func38, Tryd.ntmps38
    go_wp2_with fail
    go_ret
    exact ⟨by first | rfl | (simp; omega), rfl⟩
end Go.Proofs.YtbbffhpppacihaaDoor

namespace Go.Proofs.YtbbffhpppacihaaDoor
open Go.RowKit Go.Siskin

/-- Whether a way of rounding goes one away from nought. -/
def upWay (way : Int) (n : Bool) (u d : Nat) : Bool :=
  if way = 1 then upDown n u d else if way = 2 then upDown (!n) u d else if way = 3 then false else upNear u d
theorem upWay_left {way : Int} {n : Bool} {u d : Nat} (hd : 0 < d) (h : upWay way n u d = true) : u % d ≠ 0 := by
  unfold upWay at h
  split at h
  · exact upDown_left h
  · split at h
    · exact upDown_left h
    · split at h
      · cases h
      · exact upNear_left hd h
theorem ansW_form (n : Bool) (z : Nat) : ∃ m x y, ansW n z = .tuple #[.agg #[.bool m, .string x, .string y], .int .i64 0] := ⟨_, _, _, rfl⟩

theorem upWay_two {n : Bool} {u d : Nat} : upDown (!n && !decide (u = 0)) u d = upDown (!n) u d := by
  unfold upDown
  by_cases h : u = 0
  · subst h; simp
  · simp [h]
theorem two_signs {n : Bool} {u d : Nat} {z : Nat} (hz : z = u / d + oneIf (upDown (!n) u d)) : (!((!n && !decide (u = 0)) && !decide (z = 0)) && !decide (z = 0)) = (n && !decide (z = 0)) := by
  by_cases h : z = 0
  · simp [h]
  · have hu : u ≠ 0 := by
      rintro rfl
      apply h
      rw [hz]
      simp [upDown, oneIf]
    simp [h, hu]

end Go.Proofs.YtbbffhpppacihaaDoor

namespace Go.Proofs.YtbbffhpppacihaaDoor
open Go.RowKit Go.Siskin

/-- What l14Whole tells of two numbers that are ok. -/
def wholeC (d1 d2 u2 : Nat) : Int := if d1 ≠ 1 ∨ d2 ≠ 1 then 4 else if u2 = 0 then 2 else 0

set_option maxRecDepth 20000 in
set_option maxHeartbeats 2000000 in
theorem l14Whole_no (n1 n2 : Bool) (T1 R1 T2 R2 : ByteArray) (w : World) (h1 : T1.size ≤ maxLen) (h2 : R1.size ≤ maxLen) (h3 : T2.size ≤ maxLen) (h4 : R2.size ≤ maxLen) (hno : ¬ (NumP n1 T1 R1 ∧ NumP n2 T2 R2)) :
    Calls Tryd.prog 32 #[.agg #[.bool n1, .string T1, .string R1], .agg #[.bool n2, .string T2, .string R2]] w fun e w' => e = .returned (.int .i64 1) ∧ Below w.heap.size w w' := by
  have HB0 : Hid (Below (w.heap.size + 2) ((w.alloc (boxN n1 T1 R1)).alloc (boxN n2 T2 R2)) ((w.alloc (boxN n1 T1 R1)).alloc (boxN n2 T2 R2))) := Below.refl _ _
  have HX : Hid (∀ W, Below (w.heap.size + 2) ((w.alloc (boxN n1 T1 R1)).alloc (boxN n2 T2 R2)) W → Own W w.heap.size 25 #[.bool n1, .string T1, .string R1] ∧ Own W (w.heap.size + 1) 25 #[.bool n2, .string T2, .string R2] ∧ Below w.heap.size w W) := fun W h => boxes2 w _ _ _ _ h
  by_cases hp : NumP n1 T1 R1
  · have HO1 := hid (fun w => specNumOk_any n1 T1 R1 w h1 h2 true ⟨fun _ => hp, fun _ => rfl⟩)
    have HO2 := hid (fun w => specNumOk_any n2 T2 R2 w h3 h4 false ⟨fun h => (by cases h), fun h => absurd ⟨hp, h⟩ hno⟩)
    clear h1 h2 h3 h4 hno hp
    go_enter Tryd.func32, Tryd.ntmps32
    go_wp2_with fail
    refine (HO1.out _).mono ?_
    rintro e wa ⟨rfl, hwa⟩
    have HBa := hid (HB0.out.trans (hwa.mono (by simp)))
    clear hwa
    obtain ⟨⟨y0, y1, y2⟩, -⟩ := own3V (HX.out _ HBa.out).2.1
    go_wp2_with fail
    refine (HO2.out _).mono ?_
    rintro e wb ⟨rfl, hwb⟩
    have HBb := hid (HBa.out.trans (hwb.mono (by have := HBa.out.size; simp at this; omega)))
    clear hwb y0 y1 y2
    go_wp2_with fail
    go_ret
    exact ⟨rfl, (HX.out _ HBb.out).2.2⟩
  · have HO1 := hid (fun w => specNumOk_any n1 T1 R1 w h1 h2 false ⟨fun h => (by cases h), fun h => absurd h hp⟩)
    clear h1 h2 h3 h4 hno hp
    go_enter Tryd.func32, Tryd.ntmps32
    go_wp2_with fail
    refine (HO1.out _).mono ?_
    rintro e wb ⟨rfl, hwb⟩
    have HBb := hid (HB0.out.trans (hwb.mono (by simp)))
    clear hwb
    go_wp2_with fail
    go_ret
    exact ⟨rfl, (HX.out _ HBb.out).2.2⟩

set_option maxRecDepth 20000 in
set_option maxHeartbeats 2000000 in
theorem l14Whole_yes (n1 n2 : Bool) (u1 d1 u2 d2 : Nat) (w : World) (h1 : (dec u1).size ≤ 60) (h2 : (dec d1).size ≤ 60) (h3 : (dec u2).size ≤ 60) (h4 : (dec d2).size ≤ 60) (ok1 : OkUD n1 u1 d1) (ok2 : OkUD n2 u2 d2) (c : Int) (hc : wholeC d1 d2 u2 = c) :
    Calls Tryd.prog 32 #[.agg #[.bool n1, .string (dec u1), .string (dec d1)], .agg #[.bool n2, .string (dec u2), .string (dec d2)]] w fun e w' => e = .returned (.int .i64 c) ∧ Below w.heap.size w w' := by
  have HO1 := hid (fun w => specNumOk_any n1 (dec u1) (dec d1) w (Nat.le_trans h1 max60) (Nat.le_trans h2 max60) true ⟨fun _ => ⟨u1, d1, rfl, rfl, h1, h2, ok1⟩, fun _ => rfl⟩)
  have HO2 := hid (fun w => specNumOk_any n2 (dec u2) (dec d2) w (Nat.le_trans h3 max60) (Nat.le_trans h4 max60) true ⟨fun _ => ⟨u2, d2, rfl, rfl, h3, h4, ok2⟩, fun _ => rfl⟩)
  have t1 := one_text d1
  have t2 := one_text d2
  have t3 := nought_text u2
  have hcase : (decide (d1 = 1) = false ∧ c = 4) ∨ (decide (d1 = 1) = true ∧ decide (d2 = 1) = false ∧ c = 4) ∨ (decide (d1 = 1) = true ∧ decide (d2 = 1) = true ∧ decide (u2 = 0) = true ∧ c = 2) ∨ (decide (d1 = 1) = true ∧ decide (d2 = 1) = true ∧ decide (u2 = 0) = false ∧ c = 0) := by
    rw [← hc]
    unfold wholeC
    by_cases e1 : d1 = 1 <;> by_cases e2 : d2 = 1 <;> by_cases e3 : u2 = 0 <;> simp [e1, e2, e3]
  clear h1 h2 h3 h4 ok1 ok2 hc
  have HB0 : Hid (Below (w.heap.size + 2) ((w.alloc (boxN n1 (dec u1) (dec d1))).alloc (boxN n2 (dec u2) (dec d2))) ((w.alloc (boxN n1 (dec u1) (dec d1))).alloc (boxN n2 (dec u2) (dec d2)))) := Below.refl _ _
  have HX : Hid (∀ W, Below (w.heap.size + 2) ((w.alloc (boxN n1 (dec u1) (dec d1))).alloc (boxN n2 (dec u2) (dec d2))) W → Own W w.heap.size 25 #[.bool n1, .string (dec u1), .string (dec d1)] ∧ Own W (w.heap.size + 1) 25 #[.bool n2, .string (dec u2), .string (dec d2)] ∧ Below w.heap.size w W) := fun W h => boxes2 w _ _ _ _ h
  generalize decide (d1 = 1) = z1 at *
  generalize decide (d2 = 1) = z2 at *
  generalize decide (u2 = 0) = z3 at *
  generalize dec u1 = T1 at *
  generalize dec d1 = R1 at *
  generalize dec u2 = T2 at *
  generalize dec d2 = R2 at *
  have s1 : (R1.toList != [49]) = !z1 := by rw [bne, t1]
  have s2 : (R2.toList != [49]) = !z2 := by rw [bne, t2]
  rcases hcase with ⟨rfl, rfl⟩ | ⟨rfl, rfl, rfl⟩ | ⟨rfl, rfl, rfl, rfl⟩ | ⟨rfl, rfl, rfl, rfl⟩
  all_goals
    first | change _ = true at s1 | change _ = false at s1
    try first | change _ = true at s2 | change _ = false at s2
    go_enter Tryd.func32, Tryd.ntmps32
    go_wp2_with fail
    refine (HO1.out _).mono ?_
    rintro e wa ⟨rfl, hwa⟩
    have HBa := hid (HB0.out.trans (hwa.mono (by simp)))
    clear hwa
    obtain ⟨⟨y0, y1, y2⟩, -⟩ := own3V (HX.out _ HBa.out).2.1
    go_wp2_with fail
    refine (HO2.out _).mono ?_
    rintro e wb ⟨rfl, hwb⟩
    have HBb := hid (HBa.out.trans (hwb.mono (by have := HBa.out.size; simp at this; omega)))
    clear hwb y0 y1 y2
    obtain ⟨⟨y0, y1, y2⟩, -⟩ := own3V (HX.out _ HBb.out).2.1
    obtain ⟨⟨x0, x1, x2⟩, -⟩ := own3V (HX.out _ HBb.out).1
    go_wp2_with fail
    go_ret
    exact ⟨rfl, (HX.out _ HBb.out).2.2⟩
end Go.Proofs.YtbbffhpppacihaaDoor

namespace Go.Proofs.YtbbffhpppacihaaDoor
open Go.RowKit Go.Siskin

abbrev noQuo (c : Int) : Value := .tuple #[.agg #[.bool false, .string ⟨#[]⟩, .string ⟨#[]⟩], .agg #[.bool false, .string ⟨#[]⟩, .string ⟨#[]⟩], .int .i64 c]
/-- A whole number as it is handed out. -/
def wholeV (n : Bool) (z : Nat) : Value := .agg #[.bool (n && !decide (z = 0)), .string (dec z), .string (dec 1)]

set_option maxRecDepth 20000 in
set_option maxHeartbeats 2000000 in
theorem specNumQuo_code (n1 n2 : Bool) (T1 R1 T2 R2 : ByteArray) (w : World) (c : Int) (hc : c ≠ 0)
    (hW : ∀ w, Calls Tryd.prog 32 #[.agg #[.bool n1, .string T1, .string R1], .agg #[.bool n2, .string T2, .string R2]] w fun e w' => e = .returned (.int .i64 c) ∧ Below w.heap.size w w') :
    Calls Tryd.prog 9 #[.agg #[.bool n1, .string T1, .string R1], .agg #[.bool n2, .string T2, .string R2]] w fun e w' => e = .returned (noQuo c) ∧ Below w.heap.size w w' := by
  have HW := hid hW
  have hcb : (c != 0) = true := by simp [hc]
  clear hW hc
  have HB0 : Hid (Below (w.heap.size + 4) ((((w.alloc (boxN n1 T1 R1)).alloc (boxN n2 T2 R2)).alloc box0).alloc box0) ((((w.alloc (boxN n1 T1 R1)).alloc (boxN n2 T2 R2)).alloc box0).alloc box0)) := Below.refl _ _
  have HX : Hid (∀ W, Below (w.heap.size + 4) ((((w.alloc (boxN n1 T1 R1)).alloc (boxN n2 T2 R2)).alloc box0).alloc box0) W → (Own W w.heap.size 25 #[.bool n1, .string T1, .string R1] ∧ Own W (w.heap.size + 1) 25 #[.bool n2, .string T2, .string R2]) ∧ Own W (w.heap.size + 1 + 1) 25 #[.bool false, .string ⟨#[]⟩, .string ⟨#[]⟩] ∧ Own W (w.heap.size + 1 + 1 + 1) 25 #[.bool false, .string ⟨#[]⟩, .string ⟨#[]⟩] ∧ Below w.heap.size w W) := fun W h => boxes4 w _ _ _ _ _ _ _ _ h
  go_enter Tryd.func9, Tryd.ntmps9
  go_wp2_with fail
  refine (HW.out _).mono ?_
  rintro e wa ⟨rfl, hwa⟩
  have HBa := hid (HB0.out.trans (hwa.mono (by simp)))
  clear hwa
  obtain ⟨⟨r0, r1, r2⟩, q0, q1, q2⟩ := own3V (HX.out _ HBa.out).2.1
  obtain ⟨⟨s0, s1, s2⟩, p0, p1, p2⟩ := own3V (HX.out _ HBa.out).2.2.1
  go_wp2_with fail
  refine bodyPost_ret (v := noQuo c) (by simp [results, Tryd.results9, go_sem, r0, r1, r2, s0, s1, s2]) rfl ⟨rfl, ?_⟩
  exact below_set3 (below_set3 (HX.out _ HBa.out).2.2.2 (by omega) _ _ _) (by omega) _ _ _

/-- What is left downward, without its sign. -/
def modZ (n1 n2 : Bool) (u1 u2 : Nat) : Nat := if (!decide (u1 % u2 = 0) && (n1 != n2)) = true then u2 - u1 % u2 else u1 % u2

set_option maxRecDepth 20000 in
set_option maxHeartbeats 2000000 in
theorem specNumGcd_code (n1 n2 : Bool) (T1 R1 T2 R2 : ByteArray) (w : World) (c : Int) (hc : c = 1 ∨ c = 4)
    (hW : ∀ w, Calls Tryd.prog 32 #[.agg #[.bool n1, .string T1, .string R1], .agg #[.bool n2, .string T2, .string R2]] w fun e w' => e = .returned (.int .i64 c) ∧ Below w.heap.size w w') :
    Calls Tryd.prog 31 #[.agg #[.bool n1, .string T1, .string R1], .agg #[.bool n2, .string T2, .string R2]] w fun e w' => e = .returned (noAns c) ∧ Below w.heap.size w w' := by
  have HW := hid hW
  clear hW
  have HB0 : Hid (Below (w.heap.size + 3) (((w.alloc (boxN n1 T1 R1)).alloc (boxN n2 T2 R2)).alloc box0) (((w.alloc (boxN n1 T1 R1)).alloc (boxN n2 T2 R2)).alloc box0)) := Below.refl _ _
  have HX : Hid (∀ W, Below (w.heap.size + 3) (((w.alloc (boxN n1 T1 R1)).alloc (boxN n2 T2 R2)).alloc box0) W → Own W w.heap.size 25 #[.bool n1, .string T1, .string R1] ∧ Own W (w.heap.size + 1) 25 #[.bool n2, .string T2, .string R2] ∧ Own W (w.heap.size + 1 + 1) 25 #[.bool false, .string ⟨#[]⟩, .string ⟨#[]⟩] ∧ Below w.heap.size w W) := fun W h => boxes3 w _ _ _ _ _ _ h
  rcases hc with rfl | rfl
  all_goals
    go_enter Tryd.func31, Tryd.ntmps31
    go_wp2_with fail
    refine (HW.out _).mono ?_
    rintro e wa ⟨rfl, hwa⟩
    have HBa := hid (HB0.out.trans (hwa.mono (by simp)))
    clear hwa
    obtain ⟨⟨r0, r1, r2⟩, q0, q1, q2⟩ := own3V (HX.out _ HBa.out).2.2.1
    go_wp2_with fail
    refine bodyPost_ret (v := noAns _) (by simp [results, Tryd.results31, go_sem, r0, r1, r2]) rfl ⟨rfl, ?_⟩
    exact below_set3 (HX.out _ HBa.out).2.2.2 (by omega) _ _ _

set_option maxRecDepth 20000 in
set_option maxHeartbeats 4000000 in
theorem specNumGcd_yes (n1 n2 : Bool) (u1 d1 u2 d2 : Nat) (w : World) (h1 : (dec u1).size ≤ 60) (h3 : (dec u2).size ≤ 60) (c : Int) (hc : c = 0 ∨ c = 2)
    (hW : ∀ w, Calls Tryd.prog 32 #[.agg #[.bool n1, .string (dec u1), .string (dec d1)], .agg #[.bool n2, .string (dec u2), .string (dec d2)]] w fun e w' => e = .returned (.int .i64 c) ∧ Below w.heap.size w w') :
    Calls Tryd.prog 31 #[.agg #[.bool n1, .string (dec u1), .string (dec d1)], .agg #[.bool n2, .string (dec u2), .string (dec d2)]] w fun e w' => e = .returned (.tuple #[wholeV false (Nat.gcd u1 u2), .int .i64 0]) ∧ Below w.heap.size w w' := by
  have HW := hid hW
  rw [dec_size] at h1 h3
  have HG := hid (fun w => l11Gcd_any u1 u2 w (by omega) (by omega))
  have HL := hid (fun w => l14Sign_any false (Nat.gcd u1 u2) w)
  unfold wholeV
  generalize (false && !decide (Nat.gcd u1 u2 = 0)) = b1 at *
  generalize dec (Nat.gcd u1 u2) = G at *
  generalize dec 1 = O at *
  generalize dec u1 = T1 at *
  generalize dec d1 = R1 at *
  generalize dec u2 = T2 at *
  generalize dec d2 = R2 at *
  clear hW h1 h3
  have HB0 : Hid (Below (w.heap.size + 3) (((w.alloc (boxN n1 T1 R1)).alloc (boxN n2 T2 R2)).alloc box0) (((w.alloc (boxN n1 T1 R1)).alloc (boxN n2 T2 R2)).alloc box0)) := Below.refl _ _
  have HX : Hid (∀ W, Below (w.heap.size + 3) (((w.alloc (boxN n1 T1 R1)).alloc (boxN n2 T2 R2)).alloc box0) W → Own W w.heap.size 25 #[.bool n1, .string T1, .string R1] ∧ Own W (w.heap.size + 1) 25 #[.bool n2, .string T2, .string R2] ∧ Own W (w.heap.size + 1 + 1) 25 #[.bool false, .string ⟨#[]⟩, .string ⟨#[]⟩] ∧ Below w.heap.size w W) := fun W h => boxes3 w _ _ _ _ _ _ h
  have HSz : Hid (w.heap.size + 3 ≤ (((w.alloc (boxN n1 T1 R1)).alloc (boxN n2 T2 R2)).alloc box0).heap.size) := by show _ ≤ _; simp
  rcases hc with rfl | rfl
  all_goals
    go_enter Tryd.func31, Tryd.ntmps31
    go_wp2_with fail
    refine (HW.out _).mono ?_
    rintro e wa ⟨rfl, hwa⟩
    have HBa := hid (HB0.out.trans (hwa.mono (by first | exact HSz.out | simp)))
    clear hwa
    obtain ⟨⟨x0, x1, x2⟩, -⟩ := own3V (HX.out _ HBa.out).1
    obtain ⟨⟨y0, y1, y2⟩, -⟩ := own3V (HX.out _ HBa.out).2.1
    go_wp2_with fail
    refine (HG.out _).mono ?_
    rintro e wb ⟨rfl, hwb⟩
    have HB := hid (HBa.out.trans (hwb.mono (Nat.le_trans HSz.out HBa.out.size)))
    clear hwb x0 x1 x2 y0 y1 y2
    go_wp2_with fail
    refine (HL.out _).mono ?_
    rintro e w8 ⟨rfl, hw8⟩
    have HB := hid (HB.out.trans (hw8.mono (Nat.le_trans HSz.out HB.out.size)))
    clear hw8
    obtain ⟨⟨r0, r1, r2⟩, q0, q1, q2⟩ := own3V (HX.out _ HB.out).2.2.1
    go_wp2_with fail
    refine bodyPost_ret (v := .tuple #[.agg #[.bool b1, .string G, .string O], .int .i64 0]) (by simp [results, Tryd.results31, go_sem, r0, r1, r2]) rfl ⟨rfl, ?_⟩
    exact below_set3 (HX.out _ HB.out).2.2.2 (by omega) _ _ _
end Go.Proofs.YtbbffhpppacihaaDoor

namespace Go.Proofs.YtbbffhpppacihaaDoor
open Go.RowKit Go.Siskin

/-- The sign of what is left downward. -/
def modN (n1 n2 : Bool) (L : Nat) : Bool := if (!decide (L = 0) && (n1 != n2)) = true then n2 else n1

end Go.Proofs.YtbbffhpppacihaaDoor
