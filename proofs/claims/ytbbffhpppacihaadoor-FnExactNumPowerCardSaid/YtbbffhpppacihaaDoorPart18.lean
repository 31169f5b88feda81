/-
  Stage 8, the program: dividing whole numbers. Condition: the groups lie in memory as NatA says.
  Stage 8, the program: dividedOf. Condition: the table of powers and errors.errorType stand.
  The model's l12Make: a number of a sign, above and below. Condition: numerals of at most 1,000 digits.
  Digits with room above: setting one, adding a row of a product, carrying on. Condition: none.
-/
import Derived.Test.YtbbffhpppacihaaDoorPart17
import Derived.Test.YtbbffhpppacihaaDoorPart13
import Derived.Test.YtbbffhpppacihaaDoorPart14
import Derived.Test.YtbbffhpppacihaaDoorPart6
import Derived.Test.YtbbffhpppacihaaDoorPart2
namespace Go.Proofs.YtbbffhpppacihaaDoor
open Go.RowKit Go.Siskin

theorem own6V {w : World} {g : Nat} {e : TypeId} {a b c d k l : Value} (h : Own w g e #[a, b, c, d, k, l]) : (w.cell? ⟨g, 0, none⟩ = some a ∧ w.cell? ⟨g, 1, none⟩ = some b ∧ w.cell? ⟨g, 2, none⟩ = some c ∧ w.cell? ⟨g, 3, none⟩ = some d ∧ w.cell? ⟨g, 4, none⟩ = some k ∧ w.cell? ⟨g, 5, none⟩ = some l) ∧ w.frozen? ⟨g, 0, none⟩ = false ∧ w.frozen? ⟨g, 1, none⟩ = false ∧ w.frozen? ⟨g, 2, none⟩ = false ∧ w.frozen? ⟨g, 3, none⟩ = false ∧ w.frozen? ⟨g, 4, none⟩ = false ∧ w.frozen? ⟨g, 5, none⟩ = false :=
  ⟨⟨h.cell 0, h.cell 1, h.cell 2, h.cell 3, h.cell 4, h.cell 5⟩, h.frozen 0, h.frozen 1, h.frozen 2, h.frozen 3, h.frozen 4, h.frozen 5⟩
theorem own_set6 {w : World} {g r : Nat} {e : TypeId} {cs : Array Value} (h : Own w g e cs) (hne : g ≠ r) (x0 x1 x2 x3 x4 x5 : Value) : Own ((((((w.setCell ⟨r, 0, none⟩ x0).setCell ⟨r, 1, none⟩ x1).setCell ⟨r, 2, none⟩ x2).setCell ⟨r, 3, none⟩ x3).setCell ⟨r, 4, none⟩ x4).setCell ⟨r, 5, none⟩ x5) g e cs := by
  unfold Own
  rw [Below.heap_setCell _ ⟨r, 5, none⟩ _ _ hne, Below.heap_setCell _ ⟨r, 4, none⟩ _ _ hne, Below.heap_setCell _ ⟨r, 3, none⟩ _ _ hne, Below.heap_setCell _ ⟨r, 2, none⟩ _ _ hne, Below.heap_setCell _ ⟨r, 1, none⟩ _ _ hne, Below.heap_setCell _ ⟨r, 0, none⟩ _ _ hne]
  exact h
theorem below_set6 {B r : Nat} {w W : World} (h : Below B w W) (hr : B ≤ r) (x0 x1 x2 x3 x4 x5 : Value) : Below B w ((((((W.setCell ⟨r, 0, none⟩ x0).setCell ⟨r, 1, none⟩ x1).setCell ⟨r, 2, none⟩ x2).setCell ⟨r, 3, none⟩ x3).setCell ⟨r, 4, none⟩ x4).setCell ⟨r, 5, none⟩ x5) :=
  (((((h.setCell (p := ⟨r, 0, none⟩) hr x0).setCell (p := ⟨r, 1, none⟩) hr x1).setCell (p := ⟨r, 2, none⟩) hr x2).setCell (p := ⟨r, 3, none⟩) hr x3).setCell (p := ⟨r, 4, none⟩) hr x4).setCell (p := ⟨r, 5, none⟩) hr x5
abbrev box6 (n1 : Bool) (v1 : Value) (n2 : Bool) (v2 : Value) (n3 : Bool) (v3 : Value) : Obj := .cells #[.bool n1, v1, .bool n2, v2, .bool n3, v3] 52
theorem divBox_no (n1 n2 n3 : Bool) (a b d : Option Addr) (l c k e m f : Nat) : ∀ (i : Nat) (z : Int), (#[Value.bool n1, .slice a l c, .bool n2, .slice b k e, .bool n3, .slice d m f] : Array Value)[i]? ≠ some (.int .u64 z) := by
  intro i z
  match i with
  | 0 | 1 | 2 | 3 | 4 | 5 => simp
  | i + 6 => simp
theorem natA_set6 {w : World} {v : Value} {gs : List Nat} {fb : Nat} {e : TypeId} {n1 n2 n3 : Bool} {a b d : Option Addr} {l c k e' m f : Nat} (h : NatA w v gs) (ho : Own w fb e #[.bool n1, .slice a l c, .bool n2, .slice b k e', .bool n3, .slice d m f]) (x0 x1 x2 x3 x4 x5 : Value) : NatA ((((((w.setCell ⟨fb, 0, none⟩ x0).setCell ⟨fb, 1, none⟩ x1).setCell ⟨fb, 2, none⟩ x2).setCell ⟨fb, 3, none⟩ x3).setCell ⟨fb, 4, none⟩ x4).setCell ⟨fb, 5, none⟩ x5) v gs :=
  natA_boxG h ho (divBox_no n1 n2 n3 a b d l c k e' m f) (fun j hb => by rw [Below.heap_setCell _ _ _ _ hb, Below.heap_setCell _ _ _ _ hb, Below.heap_setCell _ _ _ _ hb, Below.heap_setCell _ _ _ _ hb, Below.heap_setCell _ _ _ _ hb, Below.heap_setCell _ _ _ _ hb]) (by simp [World.setCell])

set_option maxRecDepth 20000 in
set_option maxHeartbeats 4000000 in
theorem intDividedBy_any (n1 n2 s : Bool) (x y : Nat) (a1 a2 : Option Addr) (l1 k1 l2 k2 : Nat) (w : World) (hs : (n1 != n2) = s) (hx : NatA w (.slice a1 l1 k1) (grp x)) (hy : NatA w (.slice a2 l2 k2) (grp y)) (hy0 : 0 < y) (hn : nG x ≤ 1000) :
    Calls Tryd.prog 65 #[.agg #[.bool n1, .slice a1 l1 k1], .agg #[.bool n2, .slice a2 l2 k2]] w fun e w' => ∃ qa qc ra rc, e = .returned (.agg #[.bool n2, .slice a2 l2 k2, .bool s, .slice qa (grp (x / y)).length qc, .bool n1, .slice ra (grp (x % y)).length rc]) ∧ NatA w' (.slice qa (grp (x / y)).length qc) (grp (x / y)) ∧ NatA w' (.slice ra (grp (x % y)).length rc) (grp (x % y)) ∧ Below w.heap.size w w' := by
  have hs2 : (!n1 == n2) = s := hs
  have HDv : Hid (∀ W, Below w.heap.size w W → Calls Tryd.prog 85 #[.slice a1 l1 k1, .slice a2 l2 k2] W fun e w' => ∃ q r, e = .returned (.tuple #[q, r]) ∧ NatA w' q (grp (x / y)) ∧ NatA w' r (grp (x % y)) ∧ Below W.heap.size W w') := fun W hb => dividedBy_any x y _ _ W (hx.below hb (Nat.le_refl _)) (hy.below hb (Nat.le_refl _)) hy0 hn
  clear hx hy hy0 hn hs
  obtain ⟨W0, HW0⟩ : ∃ W, Hid (((w.alloc (boxI n1 (.slice a1 l1 k1))).alloc (boxI n2 (.slice a2 l2 k2))).alloc (box6 false (.slice none 0 0) false (.slice none 0 0) false (.slice none 0 0)) = W) := ⟨_, rfl⟩
  have HX : Hid (∀ W, Below (w.heap.size + 3) W0 W → Own W w.heap.size 50 #[.bool n1, .slice a1 l1 k1] ∧ Own W (w.heap.size + 1) 50 #[.bool n2, .slice a2 l2 k2] ∧ Own W (w.heap.size + 1 + 1) 52 #[.bool false, .slice none 0 0, .bool false, .slice none 0 0, .bool false, .slice none 0 0] ∧ Below w.heap.size w W) := fun W h => by
    rw [← HW0.out] at h
    exact boxes3 w _ _ _ _ _ _ h
  have HB0 : Hid (Below (w.heap.size + 3) W0 W0) := Below.refl _ _
  have HS0 : Hid (w.heap.size + 3 ≤ W0.heap.size) := by show _ ≤ _; rw [← HW0.out]; simp
  obtain ⟨⟨x0, x1⟩, -⟩ := own2V (HX.out _ HB0.out).1
  obtain ⟨⟨y0, y1⟩, -⟩ := own2V (HX.out _ HB0.out).2.1
  go_enter Tryd.func65, Tryd.ntmps65
  go_wp2_with fail
  rw [HW0.out]
  go_wp2_with fail
  refine (HDv.out _ (HX.out _ HB0.out).2.2.2).mono ?_
  rintro e w1 ⟨q, r, rfl, hq, hr, hw1⟩
  obtain ⟨qa, qc, rfl⟩ := natA_formR hq
  obtain ⟨ra, rc, rfl⟩ := natA_formR hr
  have HQ := hid hq
  have HR := hid hr
  have HB1 := hid (HB0.out.trans (hw1.mono HS0.out))
  clear hq hr hw1 x0 x1 y0 y1
  have HB := HB1
  obtain ⟨⟨r0, r1, r2, r3, r4, r5⟩, q0, q1, q2, q3, q4, q5⟩ := own6V (HX.out _ HB.out).2.2.1
  obtain ⟨⟨x0, x1⟩, -⟩ := own2V (HX.out _ HB.out).1
  obtain ⟨⟨y0, y1⟩, -⟩ := own2V (HX.out _ HB.out).2.1
  go_wp2_with fail
  refine bodyPost_ret (v := .agg #[.bool n2, .slice a2 l2 k2, .bool s, .slice qa (grp (x / y)).length qc, .bool n1, .slice ra (grp (x % y)).length rc]) (by simp [results, Tryd.results65, go_sem, r0, r1, r2, r3, r4, r5]) rfl ⟨qa, qc, ra, rc, rfl, ?_, ?_, ?_⟩
  · exact natA_set6 HQ.out (HX.out _ HB.out).2.2.1 _ _ _ _ _ _
  · exact natA_set6 HR.out (HX.out _ HB.out).2.2.1 _ _ _ _ _ _
  · exact below_set6 (HX.out _ HB.out).2.2.2 (by omega) _ _ _ _ _ _
end Go.Proofs.YtbbffhpppacihaaDoor

namespace Go.Proofs.YtbbffhpppacihaaDoor
open Go.RowKit Go.Siskin

abbrev div0 : Value := .agg #[.bool false, .slice none 0 0, .bool false, .slice none 0 0, .bool false, .slice none 0 0]
abbrev box60 : Obj := box6 false (.slice none 0 0) false (.slice none 0 0) false (.slice none 0 0)
/-- What integersOf tells of two whole numbers. -/
def IntPost (p1 p2 : Bool) (U1 U2 : Nat) (w : World) (e : Ending) (w' : World) : Prop :=
  ∃ a1 c1 a2 c2, e = .returned (.tuple #[.agg #[.bool p1, .slice a1 (grp U1).length c1], .agg #[.bool p2, .slice a2 (grp U2).length c2], .nilIface]) ∧ NatA w' (.slice a1 (grp U1).length c1) (grp U1) ∧ NatA w' (.slice a2 (grp U2).length c2) (grp U2) ∧ Below w.heap.size w w'

set_option maxRecDepth 20000 in
set_option maxHeartbeats 4000000 in
theorem dividedOf_err (n1 n2 : Bool) (T1 R1 T2 R2 : ByteArray) (c : Int) (w : World) (hP : Pow9 w)
    (hI : ∀ w, Pow9 w → Calls Tryd.prog 60 #[.agg #[.bool n1, .string T1, .string R1], .agg #[.bool n2, .string T2, .string R2]] w fun e w' => e = .returned (.tuple #[int0, int0, whyV c]) ∧ Below w.heap.size w w') :
    Calls Tryd.prog 35 #[.agg #[.bool n1, .string T1, .string R1], .agg #[.bool n2, .string T2, .string R2]] w fun e w' => e = .returned (.tuple #[div0, whyV c]) ∧ Below w.heap.size w w' := by
  have HI := hid hI
  have HPw := hid hP
  clear hI hP
  have HX : Hid (∀ W, Below (w.heap.size + 3) (((w.alloc (boxN n1 T1 R1)).alloc (boxN n2 T2 R2)).alloc box60) W → Own W w.heap.size 25 #[.bool n1, .string T1, .string R1] ∧ Own W (w.heap.size + 1) 25 #[.bool n2, .string T2, .string R2] ∧ Own W (w.heap.size + 1 + 1) 52 #[.bool false, .slice none 0 0, .bool false, .slice none 0 0, .bool false, .slice none 0 0] ∧ Below w.heap.size w W) := fun W h => boxes3 w _ _ _ _ _ _ h
  have HB0 : Hid (Below (w.heap.size + 3) (((w.alloc (boxN n1 T1 R1)).alloc (boxN n2 T2 R2)).alloc box60) (((w.alloc (boxN n1 T1 R1)).alloc (boxN n2 T2 R2)).alloc box60)) := Below.refl _ _
  have HSz : Hid (w.heap.size + 3 ≤ (((w.alloc (boxN n1 T1 R1)).alloc (boxN n2 T2 R2)).alloc box60).heap.size) := by show _ ≤ _; simp
  have HP0 := hid (HPw.out.below (HX.out _ HB0.out).2.2.2 (Nat.le_refl _))
  go_enter Tryd.func35, Tryd.ntmps35
  go_wp2_with fail
  refine (HI.out _ HP0.out).mono ?_
  rintro e w1 ⟨rfl, hw1⟩
  have HB1 := hid (HB0.out.trans (hw1.mono (by first | exact HSz.out | simp)))
  have HSz1 := hid (Nat.le_trans HSz.out HB1.out.size)
  have HB2 : Hid (Below (w.heap.size + 3) (((w.alloc (boxN n1 T1 R1)).alloc (boxN n2 T2 R2)).alloc box60) ((w1.alloc boxI0).alloc boxI0)) := (HB1.out.alloc HSz1.out _).alloc (by rw [World.size_alloc]; exact Nat.le_trans HSz1.out (Nat.le_succ _)) _
  obtain ⟨⟨r0, r1, r2, r3, r4, r5⟩, q0, q1, q2, q3, q4, q5⟩ := own6V (HX.out _ HB2.out).2.2.1
  clear hw1
  go_wp2_with fail
  refine bodyPost_ret (v := .tuple #[div0, whyV c]) (by simp [results, Tryd.results35, go_sem, r0, r1, r2, r3, r4, r5]) rfl ⟨rfl, ?_⟩
  exact below_set6 (HX.out _ HB2.out).2.2.2 (by omega) _ _ _ _ _ _

set_option maxRecDepth 20000 in
set_option maxHeartbeats 4000000 in
theorem dividedOf_nought (n1 n2 p1 p2 : Bool) (T1 R1 T2 R2 : ByteArray) (U1 : Nat) (w : World) (hP : Pow9 w)
    (hI : ∀ w, Pow9 w → Calls Tryd.prog 60 #[.agg #[.bool n1, .string T1, .string R1], .agg #[.bool n2, .string T2, .string R2]] w (IntPost p1 p2 U1 0 w)) :
    Calls Tryd.prog 35 #[.agg #[.bool n1, .string T1, .string R1], .agg #[.bool n2, .string T2, .string R2]] w fun e w' => e = .returned (.tuple #[div0, whyV 2]) ∧ Below w.heap.size w w' := by
  have HI := hid hI
  have HPw := hid hP
  clear hI hP
  have HX : Hid (∀ W, Below (w.heap.size + 3) (((w.alloc (boxN n1 T1 R1)).alloc (boxN n2 T2 R2)).alloc box60) W → Own W w.heap.size 25 #[.bool n1, .string T1, .string R1] ∧ Own W (w.heap.size + 1) 25 #[.bool n2, .string T2, .string R2] ∧ Own W (w.heap.size + 1 + 1) 52 #[.bool false, .slice none 0 0, .bool false, .slice none 0 0, .bool false, .slice none 0 0] ∧ Below w.heap.size w W) := fun W h => boxes3 w _ _ _ _ _ _ h
  have HB0 : Hid (Below (w.heap.size + 3) (((w.alloc (boxN n1 T1 R1)).alloc (boxN n2 T2 R2)).alloc box60) (((w.alloc (boxN n1 T1 R1)).alloc (boxN n2 T2 R2)).alloc box60)) := Below.refl _ _
  have HSz : Hid (w.heap.size + 3 ≤ (((w.alloc (boxN n1 T1 R1)).alloc (boxN n2 T2 R2)).alloc box60).heap.size) := by show _ ≤ _; simp
  have HP0 := hid (HPw.out.below (HX.out _ HB0.out).2.2.2 (Nat.le_refl _))
  go_enter Tryd.func35, Tryd.ntmps35
  go_wp2_with fail
  refine (HI.out _ HP0.out).mono ?_
  rintro e w1 ⟨a1, c1, a2, c2, rfl, hu1, hu2, hw1⟩
  have HB1 := hid (HB0.out.trans (hw1.mono (by first | exact HSz.out | simp)))
  have HSg : Hid (∀ W, Below w1.heap.size w1 W → Calls Tryd.prog 53 #[.agg #[.bool p2, .slice a2 (grp 0).length c2]] W fun e w' => e = .returned (.int .i64 0) ∧ Below W.heap.size W w') := fun W hb => intSign_any p2 0 _ W (hu2.below hb (Nat.le_refl _))
  have HSz1 := hid (Nat.le_trans HSz.out HB1.out.size)
  obtain ⟨W2, HW2⟩ : ∃ W, Hid ((w1.alloc (boxI p1 (.slice a1 (grp U1).length c1))).alloc (boxI p2 (.slice a2 (grp 0).length c2)) = W) := ⟨_, rfl⟩
  have HC2 : Hid (Below w1.heap.size w1 W2) := by rw [← HW2.out]; exact ((Below.refl _ _).alloc (Nat.le_refl _) _).alloc (by simp) _
  have HB2 := hid (HB1.out.trans (HC2.out.mono HSz1.out))
  obtain ⟨⟨y0, y1⟩, -⟩ := own2V (boxes2 w1 _ _ _ _ (Below.refl _ ((w1.alloc (boxI p1 (.slice a1 (grp U1).length c1))).alloc (boxI p2 (.slice a2 (grp 0).length c2))))).2.1
  rw [HW2.out] at y0 y1
  clear hw1 hu1 hu2
  go_wp2_with fail
  rw [HW2.out]
  go_wp2_with fail
  refine (HSg.out _ HC2.out).mono ?_
  rintro e w2 ⟨rfl, hw2⟩
  have HB3 := hid (HB2.out.trans (hw2.mono (Nat.le_trans HSz.out HB2.out.size)))
  obtain ⟨⟨r0, r1, r2, r3, r4, r5⟩, q0, q1, q2, q3, q4, q5⟩ := own6V (HX.out _ HB3.out).2.2.1
  clear hw2 y0 y1
  go_wp2_with fail
  refine bodyPost_ret (v := .tuple #[div0, whyV 2]) (by simp [results, Tryd.results35, go_sem, r0, r1, r2, r3, r4, r5]) rfl ⟨rfl, ?_⟩
  exact below_set6 (HX.out _ HB3.out).2.2.2 (by omega) _ _ _ _ _ _

set_option maxRecDepth 20000 in
set_option maxHeartbeats 4000000 in
theorem dividedOf_ok (n1 n2 p1 p2 s : Bool) (T1 R1 T2 R2 : ByteArray) (U1 U2 : Nat) (w : World) (hs : (p1 != p2) = s) (hu : U2 ≠ 0) (hn : nG U1 ≤ 1000) (hP : Pow9 w)
    (hI : ∀ w, Pow9 w → Calls Tryd.prog 60 #[.agg #[.bool n1, .string T1, .string R1], .agg #[.bool n2, .string T2, .string R2]] w (IntPost p1 p2 U1 U2 w)) :
    Calls Tryd.prog 35 #[.agg #[.bool n1, .string T1, .string R1], .agg #[.bool n2, .string T2, .string R2]] w fun e w' => ∃ a2 c2 qa qc ra rc, e = .returned (.tuple #[.agg #[.bool p2, .slice a2 (grp U2).length c2, .bool s, .slice qa (grp (U1 / U2)).length qc, .bool p1, .slice ra (grp (U1 % U2)).length rc], .nilIface]) ∧ NatA w' (.slice a2 (grp U2).length c2) (grp U2) ∧ NatA w' (.slice qa (grp (U1 / U2)).length qc) (grp (U1 / U2)) ∧ NatA w' (.slice ra (grp (U1 % U2)).length rc) (grp (U1 % U2)) ∧ Below w.heap.size w w' := by
  have HI := hid hI
  have HPw := hid hP
  have hz : signI p2 U2 = -1 ∨ signI p2 U2 = 1 := by
    unfold signI
    cases p2 <;> simp [hu]
  have HU := hid (Nat.pos_of_ne_zero hu)
  have HN := hid hn
  have HSS := hid hs
  clear hI hP hu hn hs
  have HX : Hid (∀ W, Below (w.heap.size + 3) (((w.alloc (boxN n1 T1 R1)).alloc (boxN n2 T2 R2)).alloc box60) W → Own W w.heap.size 25 #[.bool n1, .string T1, .string R1] ∧ Own W (w.heap.size + 1) 25 #[.bool n2, .string T2, .string R2] ∧ Own W (w.heap.size + 1 + 1) 52 #[.bool false, .slice none 0 0, .bool false, .slice none 0 0, .bool false, .slice none 0 0] ∧ Below w.heap.size w W) := fun W h => boxes3 w _ _ _ _ _ _ h
  have HB0 : Hid (Below (w.heap.size + 3) (((w.alloc (boxN n1 T1 R1)).alloc (boxN n2 T2 R2)).alloc box60) (((w.alloc (boxN n1 T1 R1)).alloc (boxN n2 T2 R2)).alloc box60)) := Below.refl _ _
  have HSz : Hid (w.heap.size + 3 ≤ (((w.alloc (boxN n1 T1 R1)).alloc (boxN n2 T2 R2)).alloc box60).heap.size) := by show _ ≤ _; simp
  have HP0 := hid (HPw.out.below (HX.out _ HB0.out).2.2.2 (Nat.le_refl _))
  have HZ := hid (fun v w h => intSign_any p2 U2 v w h)
  generalize signI p2 U2 = z at *
  rcases hz with rfl | rfl
  all_goals
    go_enter Tryd.func35, Tryd.ntmps35
    go_wp2_with fail
    refine (HI.out _ HP0.out).mono ?_
    rintro e w1 ⟨a1, c1, a2, c2, rfl, hu1, hu2, hw1⟩
    have HU1 := hid hu1
    have HU2 := hid hu2
    have HB1 := hid (HB0.out.trans (hw1.mono (by first | exact HSz.out | simp)))
    have HSg : Hid (∀ W, Below w1.heap.size w1 W → Calls Tryd.prog 53 #[.agg #[.bool p2, .slice a2 (grp U2).length c2]] W fun e w' => e = .returned (.int .i64 _) ∧ Below W.heap.size W w') := fun W hb => HZ.out _ W (hu2.below hb (Nat.le_refl _))
    have HDb : Hid (∀ W, Below w1.heap.size w1 W → Calls Tryd.prog 65 #[.agg #[.bool p1, .slice a1 (grp U1).length c1], .agg #[.bool p2, .slice a2 (grp U2).length c2]] W fun e w' => ∃ qa qc ra rc, e = .returned (.agg #[.bool p2, .slice a2 (grp U2).length c2, .bool s, .slice qa (grp (U1 / U2)).length qc, .bool p1, .slice ra (grp (U1 % U2)).length rc]) ∧ NatA w' (.slice qa (grp (U1 / U2)).length qc) (grp (U1 / U2)) ∧ NatA w' (.slice ra (grp (U1 % U2)).length rc) (grp (U1 % U2)) ∧ Below W.heap.size W w') := fun W hb => intDividedBy_any p1 p2 s U1 U2 _ _ _ _ _ _ W HSS.out (hu1.below hb (Nat.le_refl _)) (hu2.below hb (Nat.le_refl _)) HU.out HN.out
    have HSz1 := hid (Nat.le_trans HSz.out HB1.out.size)
    obtain ⟨W2, HW2⟩ : ∃ W, Hid ((w1.alloc (boxI p1 (.slice a1 (grp U1).length c1))).alloc (boxI p2 (.slice a2 (grp U2).length c2)) = W) := ⟨_, rfl⟩
    have HC2 : Hid (Below w1.heap.size w1 W2) := by rw [← HW2.out]; exact ((Below.refl _ _).alloc (Nat.le_refl _) _).alloc (by simp) _
    have HC3 : Hid (∀ W, Below (w1.heap.size + 2) W2 W → Own W w1.heap.size 50 #[.bool p1, .slice a1 (grp U1).length c1] ∧ Own W (w1.heap.size + 1) 50 #[.bool p2, .slice a2 (grp U2).length c2] ∧ Below w1.heap.size w1 W) := fun W h => by
      rw [← HW2.out] at h
      exact boxes2 w1 _ _ _ _ h
    have HC0 : Hid (Below (w1.heap.size + 2) W2 W2) := Below.refl _ _
    have HS2 : Hid (w1.heap.size + 2 ≤ W2.heap.size) := by show _ ≤ _; rw [← HW2.out]; simp
    obtain ⟨⟨y0, y1⟩, -⟩ := own2V (HC3.out _ HC0.out).2.1
    clear hw1 hu1 hu2
    go_wp2_with fail
    rw [HW2.out]
    go_wp2_with fail
    refine (HSg.out _ HC2.out).mono ?_
    rintro e w2 ⟨rfl, hw2⟩
    have HC4 := hid (HC0.out.trans (hw2.mono HS2.out))
    clear hw2 y0 y1
    obtain ⟨⟨x0, x1⟩, -⟩ := own2V (HC3.out _ HC4.out).1
    obtain ⟨⟨y0, y1⟩, -⟩ := own2V (HC3.out _ HC4.out).2.1
    go_wp2_with fail
    refine (HDb.out _ (HC3.out _ HC4.out).2.2).mono ?_
    rintro e w3 ⟨qa, qc, ra, rc, rfl, hq, hr, hw3⟩
    have HQ := hid hq
    have HR := hid hr
    have HC5 := hid (HC4.out.trans (hw3.mono (Nat.le_trans HS2.out HC4.out.size)))
    have HB5 := hid (HB1.out.trans ((HC3.out _ HC5.out).2.2.mono HSz1.out))
    obtain ⟨⟨r0, r1, r2, r3, r4, r5⟩, q0, q1, q2, q3, q4, q5⟩ := own6V (HX.out _ HB5.out).2.2.1
    have HY2 := hid (HU2.out.below (HC3.out _ HC5.out).2.2 (Nat.le_refl _))
    clear hq hr hw3 x0 x1 y0 y1
    go_wp2_with fail
    refine bodyPost_ret (v := .tuple #[.agg #[.bool p2, .slice a2 (grp U2).length c2, .bool s, .slice qa (grp (U1 / U2)).length qc, .bool p1, .slice ra (grp (U1 % U2)).length rc], .nilIface]) (by simp [results, Tryd.results35, go_sem, r0, r1, r2, r3, r4, r5]) rfl ⟨a2, c2, qa, qc, ra, rc, rfl, ?_, ?_, ?_, ?_⟩
    · exact natA_set6 HY2.out (HX.out _ HB5.out).2.2.1 _ _ _ _ _ _
    · exact natA_set6 HQ.out (HX.out _ HB5.out).2.2.1 _ _ _ _ _ _
    · exact natA_set6 HR.out (HX.out _ HB5.out).2.2.1 _ _ _ _ _ _
    · exact below_set6 (HX.out _ HB5.out).2.2.2 (by omega) _ _ _ _ _ _
end Go.Proofs.YtbbffhpppacihaaDoor

namespace Go.Proofs.YtbbffhpppacihaaDoor
open Go.RowKit Go.Siskin

abbrev noNum : Value := .tuple #[.agg #[.bool false, .string ⟨#[]⟩, .string ⟨#[]⟩], .bool false]
def makeV (neg : Bool) (u d : Nat) : Value := if d = 0 then noNum else closedV neg (u / Nat.gcd u d) (d / Nat.gcd u d)

set_option maxRecDepth 20000 in
set_option maxHeartbeats 1000000 in
theorem l12Make_any (neg : Bool) (u d : Nat) (w : World) (hu : Lib.nDigits u ≤ 1000) (hd : Lib.nDigits d ≤ 1000) :
    Calls Tryd.prog 92 #[.bool neg, .string (dec u), .string (dec d)] w fun e w' => e = .returned (makeV neg u d) ∧ Below w.heap.size w w' := by
  have HBw : Hid (Below (w.heap.size + 1) (w.alloc (.cells #[.bool false, .string ⟨#[]⟩, .string ⟨#[]⟩] 25)) (w.alloc (.cells #[.bool false, .string ⟨#[]⟩, .string ⟨#[]⟩] 25))) := Below.refl _ _
  obtain ⟨n0, n1, n2⟩ := res3 HBw.out
  obtain ⟨f0, f1, f2⟩ := res3f HBw.out
  have hzd := nought_text d
  by_cases hd0 : d = 0
  · rw [decide_eq_true hd0] at hzd
    have HV : Hid (makeV neg u d = noNum) := by show _ = _; unfold makeV; rw [if_pos hd0]
    rw [HV.out]
    clear hd0 hu hd
    generalize dec u = ut at *
    generalize dec d = dt at *
    go_enter Tryd.func92, Tryd.ntmps92
    go_wp2_with fail
    refine bodyPost_ret (v := noNum) (by simp [results, Tryd.results92, go_sem, n0, n1, n2]) rfl ⟨rfl, ?_⟩
    first | exact res_done HBw.out | exact below3 (res_done HBw.out) _ _ _
  · rw [decide_eq_false hd0] at hzd
    obtain ⟨G, HG⟩ : ∃ G : Nat, Hid (Nat.gcd u d = G) := ⟨_, rfl⟩
    have HGc := hid (fun w => l11Gcd_any u d w (by omega) (by omega))
    have hG0 : 0 < G := by rw [← HG.out]; exact Nat.gcd_pos_of_pos_right _ (by omega)
    have hGd : Lib.nDigits G ≤ 1000 := Nat.le_trans (nDigits_mono (by rw [← HG.out]; exact Nat.gcd_le_right _ (by omega))) hd
    rw [HG.out] at HGc
    have HDu := hid (fun w => l11Div_any u G w (by omega) (by omega) hG0)
    have HDd := hid (fun w => l11Div_any d G w (by omega) (by omega) hG0)
    obtain ⟨A, HA⟩ : ∃ A : Nat, Hid (u / G = A) := ⟨_, rfl⟩
    obtain ⟨B, HB⟩ : ∃ B : Nat, Hid (d / G = B) := ⟨_, rfl⟩
    have HV : Hid (makeV neg u d = if (dec A).size ≤ 60 ∧ (dec B).size ≤ 60 then .tuple #[.agg #[.bool (neg && !(A == 0)), .string (dec A), .string (dec B)], .bool true] else noNum) := by
      show _ = _
      unfold makeV
      rw [if_neg hd0, HG.out, HA.out, HB.out, dec_size, dec_size]
      rfl
    have hza := nought_text A
    have hqa : (A == 0) = decide (A = 0) := by rw [Bool.eq_iff_iff]; simp
    rw [hqa] at HV
    rw [HV.out]
    rw [HA.out] at HDu
    rw [HB.out] at HDd
    generalize decide (A = 0) = az at *
    generalize dec A = aT at *
    generalize dec B = bT at *
    generalize dec (u % G) = um at *
    generalize dec (d % G) = dm at *
    generalize dec G = gt at *
    generalize dec u = ut at *
    generalize dec d = dt at *
    obtain ⟨ZV, HZV⟩ : ∃ Z, Hid ((if aT.size ≤ 60 ∧ bT.size ≤ 60 then Value.tuple #[.agg #[.bool (neg && !az), .string aT, .string bT], .bool true] else noNum) = Z) := ⟨_, rfl⟩
    rw [HZV.out]
    clear hd0 hu hd hG0 hGd hqa
    have hzn : (aT.toList != [48]) = !az := by rw [bne, hza]
    have hparts : 60 < aT.size ∨ (¬ 60 < aT.size ∧ 60 < bT.size) ∨ (¬ 60 < aT.size ∧ ¬ 60 < bT.size) := by omega
    rcases hparts with h1 | ⟨h1, h2⟩ | ⟨h1, h2⟩
    · have HE : Hid (ZV = noNum) := by show _ = _; rw [← HZV.out, if_neg (by omega)]
      go_enter Tryd.func92, Tryd.ntmps92
      go_wp2_with fail
      refine (HGc.out _).mono ?_
      rintro e w1 ⟨rfl, hw1⟩
      have HB1 := hid (res_step HBw.out hw1)
      clear hw1
      go_wp2_with fail
      refine (HDu.out _).mono ?_
      rintro e w2 ⟨rfl, hw2⟩
      have HB2 := hid (res_step HB1.out hw2)
      clear hw2
      go_wp2_with fail
      refine (HDd.out _).mono ?_
      rintro e w3 ⟨rfl, hw3⟩
      have HB3 := hid (res_step HB2.out hw3)
      clear hw3 n0 n1 n2 f0 f1 f2
      obtain ⟨n0, n1, n2⟩ := res3 HB3.out
      obtain ⟨f0, f1, f2⟩ := res3f HB3.out
      go_wp2_with fail
      refine bodyPost_ret (v := noNum) (by simp [results, Tryd.results92, go_sem, n0, n1, n2]) rfl ⟨by rw [HE.out], ?_⟩
      first | exact res_done HB3.out | exact below3 (res_done HB3.out) _ _ _
    · have HE : Hid (ZV = noNum) := by show _ = _; rw [← HZV.out, if_neg (by omega)]
      go_enter Tryd.func92, Tryd.ntmps92
      go_wp2_with fail
      refine (HGc.out _).mono ?_
      rintro e w1 ⟨rfl, hw1⟩
      have HB1 := hid (res_step HBw.out hw1)
      clear hw1
      go_wp2_with fail
      refine (HDu.out _).mono ?_
      rintro e w2 ⟨rfl, hw2⟩
      have HB2 := hid (res_step HB1.out hw2)
      clear hw2
      go_wp2_with fail
      refine (HDd.out _).mono ?_
      rintro e w3 ⟨rfl, hw3⟩
      have HB3 := hid (res_step HB2.out hw3)
      clear hw3 n0 n1 n2 f0 f1 f2
      obtain ⟨n0, n1, n2⟩ := res3 HB3.out
      obtain ⟨f0, f1, f2⟩ := res3f HB3.out
      go_wp2_with fail
      refine bodyPost_ret (v := noNum) (by simp [results, Tryd.results92, go_sem, n0, n1, n2]) rfl ⟨by rw [HE.out], ?_⟩
      first | exact res_done HB3.out | exact below3 (res_done HB3.out) _ _ _
    · have HE : Hid (ZV = .tuple #[.agg #[.bool (neg && !az), .string aT, .string bT], .bool true]) := by show _ = _; rw [← HZV.out, if_pos (by omega)]
      cases neg <;> cases az
      all_goals
        go_enter Tryd.func92, Tryd.ntmps92
        go_wp2_with fail
        refine (HGc.out _).mono ?_
        rintro e w1 ⟨rfl, hw1⟩
        have HB1 := hid (res_step HBw.out hw1)
        clear hw1
        go_wp2_with fail
        refine (HDu.out _).mono ?_
        rintro e w2 ⟨rfl, hw2⟩
        have HB2 := hid (res_step HB1.out hw2)
        clear hw2
        go_wp2_with fail
        refine (HDd.out _).mono ?_
        rintro e w3 ⟨rfl, hw3⟩
        have HB3 := hid (res_step HB2.out hw3)
        clear hw3 n0 n1 n2 f0 f1 f2
        obtain ⟨n0, n1, n2⟩ := res3 HB3.out
        obtain ⟨f0, f1, f2⟩ := res3f HB3.out
        go_wp2_with fail
        refine bodyPost_ret (v := .tuple #[.agg #[.bool _, .string aT, .string bT], .bool true]) (by simp [results, Tryd.results92, go_sem, n0, n1, n2]; rfl) rfl ⟨by rw [HE.out]; rfl, ?_⟩
        first | exact res_done HB3.out | exact below3 (res_done HB3.out) _ _ _
end Go.Proofs.YtbbffhpppacihaaDoor

namespace Go.Proofs.YtbbffhpppacihaaDoor
open Go.RowKit Go.Siskin

theorem lowD_set : ∀ (ds : List Nat) (i x : Nat) (h : i < ds.length), lowD (ds.set i x) + ds[i] * 10 ^ i = lowD ds + x * 10 ^ i
  | d :: r, 0, x, _ => by simp [lowD]; omega
  | d :: r, i + 1, x, h => by
    have h1 := lowD_set r i x (by simpa using h)
    rw [List.set_cons_succ, lowD, lowD, List.getElem_cons_succ, Nat.pow_succ, ← Nat.mul_assoc, ← Nat.mul_assoc]
    omega
theorem lowD_one : ∀ (ds : List Nat) (i : Nat) (h : i < ds.length), ds[i] * 10 ^ i ≤ lowD ds
  | d :: r, 0, _ => by simp [lowD]
  | d :: r, i + 1, h => by
    have h1 := lowD_one r i (by simpa using h)
    rw [lowD, List.getElem_cons_succ, Nat.pow_succ, ← Nat.mul_assoc]
    omega
theorem mod_step (v i : Nat) : v % 10 ^ (i + 1) = v % 10 ^ i + v / 10 ^ i % 10 * 10 ^ i := by
  rw [Nat.pow_succ, Nat.mod_mul, Nat.mul_comm (10 ^ i)]

/-- Behind k digits of b in row i of a. -/
def MulIn (a b i k L : Nat) (ds : List Nat) : Prop :=
  ds.length = L ∧ (∀ t, ds.getD t 0 ≤ 90) ∧ (∀ t, i + k ≤ t → ds.getD t 0 ≤ 9) ∧ lowD ds = a % 10 ^ i * b + a / 10 ^ i % 10 * 10 ^ i * (b % 10 ^ k)
theorem getD_setV (ds : List Nat) (i x t : Nat) : (ds.set i x).getD t 0 = if t = i ∧ i < ds.length then x else ds.getD t 0 := by
  rw [List.getD_eq_getElem?_getD, List.getD_eq_getElem?_getD, List.getElem?_set]
  by_cases h : i = t
  · subst h
    by_cases h2 : i < ds.length
    · simp [h2]
    · simp [h2]
  · rw [if_neg h, if_neg (fun e => h e.1.symm)]
theorem getD_atV {ds : List Nat} {t : Nat} (h : t < ds.length) : ds.getD t 0 = ds[t] := by rw [List.getD_eq_getElem?_getD, List.getElem?_eq_getElem h]; rfl
theorem mulIn_step {a b i k L x y : Nat} {ds : List Nat} (h : MulIn a b i k L ds) (hp : i + k < L) (hx : a / 10 ^ i % 10 = x) (hy : b / 10 ^ k % 10 = y) :
    MulIn a b i (k + 1) L (ds.set (i + k) (ds.getD (i + k) 0 + x * y)) := by
  obtain ⟨h1, h2, h3, h4⟩ := h
  have hxl : x ≤ 9 := by rw [← hx]; omega
  have hyl : y ≤ 9 := by rw [← hy]; omega
  have hxy : x * y ≤ 9 * 9 := Nat.mul_le_mul hxl hyl
  have h9 := h3 (i + k) (Nat.le_refl _)
  refine ⟨by rw [List.length_set]; exact h1, fun t => ?_, fun t ht => ?_, ?_⟩
  · rw [getD_setV]; split
    · omega
    · exact h2 t
  · rw [getD_setV, if_neg (by omega)]; exact h3 t (by omega)
  · have hs := lowD_set ds (i + k) (ds.getD (i + k) 0 + x * y) (by omega)
    rw [← getD_atV (by omega), Nat.add_mul, h4] at hs
    rw [mod_step b k, hx, hy, Nat.mul_add]
    rw [hx] at hs
    have e : x * 10 ^ i * (y * 10 ^ k) = x * y * 10 ^ (i + k) := by rw [Nat.pow_add, Nat.mul_mul_mul_comm]
    omega

/-- Behind j digits of the carrying. -/
def MulOut (V j L : Nat) (ds : List Nat) : Prop :=
  ds.length = L ∧ (∀ t, ds.getD t 0 ≤ 100) ∧ (∀ t, j < t → ds.getD t 0 ≤ 90) ∧ (∀ t, t < j → ds.getD t 0 ≤ 9) ∧ lowD ds = V
theorem mulOut_step {V j L : Nat} {ds : List Nat} (h : MulOut V j L ds) (hp : j + 1 < L) :
    MulOut V (j + 1) L ((ds.set (j + 1) (ds.getD (j + 1) 0 + ds.getD j 0 / 10)).set j (ds.getD j 0 % 10)) := by
  obtain ⟨h1, h2, h3, h4, h5⟩ := h
  have a1 := h2 j
  have a2 := h3 (j + 1) (Nat.lt_succ_self _)
  refine ⟨by rw [List.length_set, List.length_set]; exact h1, fun t => ?_, fun t ht => ?_, fun t ht => ?_, ?_⟩
  · rw [getD_setV, getD_setV]; split
    · omega
    · split
      · omega
      · exact h2 t
  · rw [getD_setV, getD_setV, if_neg (by omega), if_neg (by omega)]; exact h3 t (by omega)
  · rw [getD_setV, getD_setV]; split
    · omega
    · rename_i hne
      rw [List.length_set] at hne
      rw [if_neg (by omega)]
      exact h4 t (by omega)
  · have s1 := lowD_set ds (j + 1) (ds.getD (j + 1) 0 + ds.getD j 0 / 10) (by omega)
    have s2 := lowD_set (ds.set (j + 1) (ds.getD (j + 1) 0 + ds.getD j 0 / 10)) j (ds.getD j 0 % 10) (by rw [List.length_set]; omega)
    rw [← getD_atV (by omega)] at s1
    rw [← getD_atV (by rw [List.length_set]; omega), getD_setV, if_neg (by omega)] at s2
    rw [Nat.add_mul, Nat.pow_succ, ← Nat.mul_assoc, ← Nat.mul_assoc] at s1
    have e : ds.getD j 0 * 10 ^ j = (ds.getD j 0 / 10) * 10 ^ j * 10 + (ds.getD j 0 % 10) * 10 ^ j := by
      have := Nat.div_add_mod (ds.getD j 0) 10
      rw [Nat.mul_right_comm, ← Nat.add_mul]; congr 1; omega
    have e2 : ds.getD j 0 / 10 * (10 ^ j * 10) = ds.getD j 0 / 10 * 10 ^ j * 10 := by rw [Nat.mul_assoc]
    omega
theorem mulOut_end {V j L : Nat} {ds : List Nat} (h : MulOut V j L ds) (hj : j + 1 = L) (hV : V < 10 ^ L) : OkD ds := by
  obtain ⟨h1, h2, h3, h4, h5⟩ := h
  intro d hd
  obtain ⟨t, ht, rfl⟩ := List.getElem_of_mem hd
  rcases Nat.lt_or_ge t j with h | h
  · have := h4 t h; rw [getD_atV ht] at this; omega
  · have e : t = j := by omega
    subst e
    have h6 := lowD_one ds t ht
    rw [h5] at h6
    rw [← hj, Nat.pow_succ] at hV
    have h7 : ds[t] * 10 ^ t < 10 * 10 ^ t := by omega
    exact Nat.lt_of_mul_lt_mul_right h7
theorem mul_lt {a b i la lb : Nat} (hb : Lib.nDigits b = lb) (hi : i ≤ la) : a % 10 ^ i * b < 10 ^ (la + lb) := by
  have h1 : a % 10 ^ i < 10 ^ la := Nat.lt_of_lt_of_le (Nat.mod_lt _ (Nat.pow_pos (by decide))) (Nat.pow_le_pow_right (by decide) hi)
  have h2 : b < 10 ^ lb := by rw [← hb]; exact Lib.lt_pow_nDigits b
  rw [Nat.pow_add]
  exact Nat.lt_of_le_of_lt (Nat.mul_le_mul_left _ (Nat.le_of_lt h2)) (Nat.mul_lt_mul_of_pos_right h1 (Nat.pow_pos (by decide)))
theorem mulIn_start {a b i L : Nat} {ds : List Nat} (h1 : ds.length = L) (h2 : OkD ds) (h3 : lowD ds = a % 10 ^ i * b) : MulIn a b i 0 L ds := by
  have h9 : ∀ t, ds.getD t 0 ≤ 9 := fun t => by
    rcases Nat.lt_or_ge t ds.length with h | h
    · rw [getD_atV h]; have := h2 _ (List.getElem_mem h); omega
    · rw [List.getD_eq_getElem?_getD, List.getElem?_eq_none h]; simp
  exact ⟨h1, fun t => by have := h9 t; omega, fun t _ => h9 t, by rw [h3, Nat.pow_zero, Nat.mod_one, Nat.mul_zero, Nat.add_zero]⟩
theorem mulIn_out {a b i lb L : Nat} {ds : List Nat} (hb : Lib.nDigits b = lb) (h : MulIn a b i lb L ds) : MulOut (a % 10 ^ (i + 1) * b) 0 L ds := by
  obtain ⟨h1, h2, h3, h4⟩ := h
  refine ⟨h1, fun t => by have := h2 t; omega, fun t _ => h2 t, fun t ht => by omega, ?_⟩
  have e : b % 10 ^ lb = b := Nat.mod_eq_of_lt (by rw [← hb]; exact Lib.lt_pow_nDigits b)
  rw [h4, e, mod_step, Nat.add_mul]

/-- Ints that lie in a block of their own. -/
def GrI (w : World) (b : Nat) (ls : List Nat) : Prop := Own w b 3 (numL .i64 ls).toArray
theorem GrI.get {w : World} {b : Nat} {ls : List Nat} (h : GrI w b ls) (i : Nat) (hi : i < ls.length) : w.cell? ⟨b, i, none⟩ = some (.int .i64 ((ls.getD i 0 : Nat) : Int)) := by
  rw [Own.cell h i, List.getElem?_toArray, getD_atV hi]
  exact numL_get .i64 ls i hi
theorem GrI.set {w : World} {b : Nat} {ls : List Nat} (h : GrI w b ls) (i x : Nat) : GrI (w.setCell ⟨b, i, none⟩ (.int .i64 (x : Int))) b (ls.set i x) := by
  have := Own.set h i (.int .i64 (x : Int))
  unfold GrI
  rw [numL_set]
  simpa using this
theorem GrI.frozen {w : World} {b : Nat} {ls : List Nat} (h : GrI w b ls) (i : Nat) : w.frozen? ⟨b, i, none⟩ = false := Own.frozen h i
theorem GrI.ints {w : World} {b cap : Nat} {ls : List Nat} (h : GrI w b ls) (h1 : ls.length ≤ cap) (h2 : cap ≤ maxLen) : IntsAt (fun b => b < w.heap.size) w (.slice (some ⟨b, 0, none⟩) ls.length cap) (ls.map fun d : Nat => (d : Int)) := by
  refine ⟨some ⟨b, 0, none⟩, cap, by rw [List.length_map], ⟨by rw [List.length_map]; omega, by rw [List.length_map]; omega⟩, ?_⟩
  refine Or.inr ⟨b, 0, rfl, Own.lt h, fun i hi => ?_⟩
  rw [List.length_map] at hi
  rw [Nat.zero_add, h.get i hi, getD_atV hi]
  simp [List.getD_eq_getElem?_getD, hi]
theorem GrI.made (w : World) (n : Nat) : GrI (w.alloc (.cells (madeCells #[Value.int .i64 0] n) 3)) w.heap.size (List.replicate n 0) := by
  have h := own_new w (madeCells #[Value.int .i64 0] n) 3
  unfold GrI
  have e : (numL .i64 (List.replicate n 0)).toArray = madeCells #[Value.int .i64 0] n := by
    apply Array.ext
    · simp [numL, size_madeCells]
    · intro i h1 h2
      simp [numL, madeCells, Nat.mod_one]
  rw [e]; exact h
theorem lowD_zeros : ∀ n, lowD (List.replicate n 0) = 0
  | 0 => rfl
  | n + 1 => by rw [List.replicate_succ, lowD, lowD_zeros n]
end Go.Proofs.YtbbffhpppacihaaDoor
