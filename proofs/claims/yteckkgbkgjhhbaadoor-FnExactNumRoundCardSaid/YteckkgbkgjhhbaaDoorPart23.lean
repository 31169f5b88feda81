/-
  Stage 8, the program: rounded, of a number that is ok. Condition: the table of powers stands.
  Stage 8, the program: dividedOf. Condition: the table of powers and errors.errorType stand.
  The model of stage 8: l14Whole, NumQuo, NumMod, NumGcd. Condition: none but that texts are no longer than a text may be.
-/
import Derived.Test.YteckkgbkgjhhbaaDoorPart22
import Derived.Test.YteckkgbkgjhhbaaDoorPart18
namespace Go.Proofs.YteckkgbkgjhhbaaDoor
open Go.RowKit Go.Siskin

/-- A box of one's own, known behind all that comes. -/
theorem keep1 (w : World) (cs : Array Value) (e : TypeId) {W : World} (h : Below (w.heap.size + 1) (w.alloc (.cells cs e)) W) : Own W w.heap.size e cs ∧ Below w.heap.size w W :=
  ⟨(own_new w cs e).keep h (Nat.lt_succ_self _), res_done h⟩

set_option maxRecDepth 20000 in
set_option maxHeartbeats 4000000 in
theorem rounded_at (way : Int) (K : Nat) (n : Bool) (T R : ByteArray) (p : Bool) (U D : Nat) (w : World) (hP : Pow9 w) (hD0 : 0 < D) (hnU : nG U ≤ 60)
    (hway : (way = 1 ∧ K = 119) ∨ (way = 2 ∧ K = 120) ∨ (way = 3 ∧ K = 121) ∨ (way = 4 ∧ K = 122))
    (hF : ∀ (qa da ra : Option Addr) (qc dc rc : Nat) (w : World), NatA w (.slice da (grp D).length dc) (grp D) → NatA w (.slice qa (grp (U / D)).length qc) (grp (U / D)) → NatA w (.slice ra (grp (U % D)).length rc) (grp (U % D)) → Calls Tryd.prog K #[DivV false da D dc p qa (U / D) qc p ra (U % D) rc] w fun e w' => e = .returned (.int .i64 (stepW way p U D)) ∧ Below w.heap.size w w')
    (hO : ∀ w, Pow9 w → Calls Tryd.prog 83 #[.agg #[.bool n, .string T, .string R]] w fun e w' => ∃ ua uc da dc, e = .returned (.tuple #[.agg #[.bool p, .slice ua (grp U).length uc, .slice da (grp D).length dc], .bool true]) ∧ NatA w' (.slice ua (grp U).length uc) (grp U) ∧ NatA w' (.slice da (grp D).length dc) (grp D) ∧ Below w.heap.size w w') :
    Calls Tryd.prog 48 #[.agg #[.bool n, .string T, .string R], .int .i64 way] w fun e w' => ∃ a c, e = .returned (.tuple #[.agg #[.bool p, .slice a (grp (U / D + oneIf (upWay way p U D))).length c], .nilIface]) ∧ NatA w' (.slice a (grp (U / D + oneIf (upWay way p U D))).length c) (grp (U / D + oneIf (upWay way p U D))) ∧ Below w.heap.size w w' := by
  have HO := hid hO
  have HPw := hid hP
  have HRo := hid (fun w => roundings_any w)
  have HRa := hid (fun n a b l c k d w => ratioOf_any n a b l c k d w)
  have hx : (p != false) = p := by cases p <;> rfl
  have HDv := hid (fun a1 a2 l1 k1 l2 k2 w h1 h2 => intDividedBy_any p false p U D a1 a2 l1 k1 l2 k2 w hx h1 h2 hD0 (by omega))
  obtain ⟨hs1, hs2, hs3, hs4⟩ := stepW_up way p U D
  have hq : nG (U / D) ≤ 5000 := Nat.le_trans (nG_mono (Nat.div_le_self _ _)) (by omega)
  have HIo := hid (fun w => integerOf_any (stepW way p U D) w (by omega) (by omega))
  have hst : nG (stepW way p U D).natAbs ≤ 5000 := Nat.le_trans (nG_mono (show (stepW way p U D).natAbs ≤ 1 by omega)) (by rw [nG_one (by decide) (by decide)]; decide)
  have HPl := hid (fun vx vy w h1 h2 => intPlus_any p (decide (stepW way p U D < 0)) (U / D) (stepW way p U D).natAbs vx vy w h1 h2 hq hst)
  rw [hs1, hs2] at HPl
  have HF := hid hF
  have en := eqlFn
  generalize stepW way p U D = z at *
  generalize U / D + oneIf (upWay way p U D) = Z at *
  generalize z.natAbs = za at *
  generalize decide (z < 0) = zb at *
  clear hO hP hD0 hnU hx hs1 hs2 hs3 hs4 hq hst hF
  have HX : Hid (∀ W, Below (w.heap.size + 2) ((w.alloc (boxN n T R)).alloc boxI0) W → Own W w.heap.size 25 #[.bool n, .string T, .string R] ∧ Own W (w.heap.size + 1) 55 #[.bool false, .slice none 0 0] ∧ Below w.heap.size w W) := fun W h => boxes2 w _ _ _ _ h
  have HB0 : Hid (Below (w.heap.size + 2) ((w.alloc (boxN n T R)).alloc boxI0) ((w.alloc (boxN n T R)).alloc boxI0)) := Below.refl _ _
  have HSz : Hid (w.heap.size + 2 ≤ ((w.alloc (boxN n T R)).alloc boxI0).heap.size) := by show _ ≤ _; simp
  have HP0 := hid (HPw.out.below (HX.out _ HB0.out).2.2 (Nat.le_refl _))
  rcases hway with ⟨rfl, rfl⟩ | ⟨rfl, rfl⟩ | ⟨rfl, rfl⟩ | ⟨rfl, rfl⟩
  all_goals
    go_enter Tryd.func48, Tryd.ntmps48
    go_wp2_with fail
    refine (HO.out _ HP0.out).mono ?_
    rintro e w1 ⟨ua, uc, da, dc, rfl, hu, hd, hw1⟩
    have HU := hid hu
    have HD := hid hd
    have HB1 := hid (HB0.out.trans (hw1.mono (by first | exact HSz.out | simp)))
    have HSz1 := hid (Nat.le_trans HSz.out HB1.out.size)
    have HF0 : Hid (∀ W, Below (w1.heap.size + 1) (w1.alloc (.cells #[.bool p, .slice ua (grp U).length uc, .slice da (grp D).length dc] 90)) W → Own W w1.heap.size 90 #[.bool p, .slice ua (grp U).length uc, .slice da (grp D).length dc] ∧ Below w1.heap.size w1 W) := fun W h => keep1 w1 _ _ h
    have HC1 : Hid (Below (w1.heap.size + 1) (w1.alloc (.cells #[.bool p, .slice ua (grp U).length uc, .slice da (grp D).length dc] 90)) (w1.alloc (.cells #[.bool p, .slice ua (grp U).length uc, .slice da (grp D).length dc] 90))) := Below.refl _ _
    clear hu hd hw1
    go_wp2_with fail
    refine (HRo.out _).mono ?_
    rintro e w2 ⟨rfl, hw2⟩
    have HC2 := hid (HC1.out.trans (hw2.mono (by simp)))
    have HSz2 : Hid (w1.heap.size + 1 ≤ w2.heap.size) := by have := HC2.out.size; show _ ≤ _; simpa using this
    have HA : Hid (∀ W, Below (w2.heap.size + 1) (w2.alloc allB) W → Own W w2.heap.size 105 #[.nilFunc, fnV 119, fnV 120, fnV 121, fnV 122] ∧ Below w2.heap.size w2 W) := fun W h => keep1 w2 _ _ h
    have HE1 : Hid (Below (w2.heap.size + 1) (w2.alloc allB) (w2.alloc allB)) := Below.refl _ _
    have HFa : Hid (∀ W, Below (w2.heap.size + 1) (w2.alloc allB) W → Below (w1.heap.size + 1) (w1.alloc (.cells #[.bool p, .slice ua (grp U).length uc, .slice da (grp D).length dc] 90)) W) := fun W h => HC2.out.trans ((HA.out W h).2.mono HSz2.out)
    obtain ⟨⟨f0, f1, f2⟩, -⟩ := own3V (HF0.out _ (HFa.out _ HE1.out)).1
    clear hw2
    go_wp2_with fail
    refine (HRa.out _ _ _ _ _ _ _ _).mono ?_
    rintro e w3 ⟨rfl, hw3⟩
    have HE3 := hid (HE1.out.trans (hw3.mono (by simp)))
    have HSz3 : Hid (w2.heap.size + 1 ≤ w3.heap.size) := by have := HE3.out.size; show _ ≤ _; simpa using this
    have HR : Hid (∀ W, Below (w3.heap.size + 1) (w3.alloc (boxR p (.slice ua (grp U).length uc) false (.slice da (grp D).length dc))) W → Own W w3.heap.size 64 #[.bool p, .slice ua (grp U).length uc, .bool false, .slice da (grp D).length dc] ∧ Below w3.heap.size w3 W) := fun W h => keep1 w3 _ _ h
    have HG0 : Hid (Below (w3.heap.size + 1) (w3.alloc (boxR p (.slice ua (grp U).length uc) false (.slice da (grp D).length dc))) (w3.alloc (boxR p (.slice ua (grp U).length uc) false (.slice da (grp D).length dc)))) := Below.refl _ _
    obtain ⟨⟨g0, g1, g2, g3⟩, -⟩ := own4V (HR.out _ HG0.out).1
    have HRa2 : Hid (∀ W, Below (w3.heap.size + 1) (w3.alloc (boxR p (.slice ua (grp U).length uc) false (.slice da (grp D).length dc))) W → Below (w2.heap.size + 1) (w2.alloc allB) W) := fun W h => HE3.out.trans ((HR.out W h).2.mono HSz3.out)
    have HN : Hid (∀ W, Below (w3.heap.size + 1) (w3.alloc (boxR p (.slice ua (grp U).length uc) false (.slice da (grp D).length dc))) W → NatA W (.slice ua (grp U).length uc) (grp U) ∧ NatA W (.slice da (grp D).length dc) (grp D)) := fun W h => ⟨HU.out.below (HF0.out _ (HFa.out _ (HRa2.out W h))).2 (Nat.le_refl _), HD.out.below (HF0.out _ (HFa.out _ (HRa2.out W h))).2 (Nat.le_refl _)⟩
    clear hw3 f0 f1 f2
    go_wp2_with fail
    refine (HDv.out _ _ _ _ _ _ _ (HN.out _ HG0.out).1 (HN.out _ HG0.out).2).mono ?_
    rintro e w4 ⟨qa, qc, ra, rc, rfl, hq, hr, hw4⟩
    have HQ := hid hq
    have HRr := hid hr
    have HG4 := hid (HG0.out.trans (hw4.mono (by simp)))
    have HSz4 : Hid (w3.heap.size + 1 ≤ w4.heap.size) := by have := HG4.out.size; show _ ≤ _; simpa using this
    clear hq hr hw4 g0 g1 g2 g3
    have HH : Hid (∀ W, Below (w4.heap.size + 1) (w4.alloc (DivB false da D dc p qa (U / D) qc p ra (U % D) rc)) W → Own W w4.heap.size 67 #[.bool false, .slice da (grp D).length dc, .bool p, .slice qa (grp (U / D)).length qc, .bool p, .slice ra (grp (U % D)).length rc] ∧ Below w4.heap.size w4 W) := fun W h => keep1 w4 _ _ h
    have HI0 : Hid (Below (w4.heap.size + 1) (w4.alloc (DivB false da D dc p qa (U / D) qc p ra (U % D) rc)) (w4.alloc (DivB false da D dc p qa (U / D) qc p ra (U % D) rc))) := Below.refl _ _
    have HSz5 : Hid (w4.heap.size + 1 ≤ (w4.alloc (DivB false da D dc p qa (U / D) qc p ra (U % D) rc)).heap.size) := by show _ ≤ _; simp
    have HGa : Hid (∀ W, Below (w4.heap.size + 1) (w4.alloc (DivB false da D dc p qa (U / D) qc p ra (U % D) rc)) W → Below (w3.heap.size + 1) (w3.alloc (boxR p (.slice ua (grp U).length uc) false (.slice da (grp D).length dc))) W) := fun W h => HG4.out.trans ((HH.out W h).2.mono HSz4.out)
    have HXa : Hid (∀ W, Below (w4.heap.size + 1) (w4.alloc (DivB false da D dc p qa (U / D) qc p ra (U % D) rc)) W → Own W w.heap.size 25 #[.bool n, .string T, .string R] ∧ Own W (w.heap.size + 1) 55 #[.bool false, .slice none 0 0] ∧ Below w.heap.size w W) := fun W h => HX.out W (HB1.out.trans ((HF0.out _ (HFa.out _ (HRa2.out _ (HGa.out _ h)))).2.mono HSz1.out))
    have HM : Hid (∀ W, Below (w4.heap.size + 1) (w4.alloc (DivB false da D dc p qa (U / D) qc p ra (U % D) rc)) W → NatA W (.slice da (grp D).length dc) (grp D) ∧ NatA W (.slice qa (grp (U / D)).length qc) (grp (U / D)) ∧ NatA W (.slice ra (grp (U % D)).length rc) (grp (U % D))) := fun W h => ⟨(HN.out _ (HGa.out _ h)).2, HQ.out.below (HH.out W h).2 (Nat.le_refl _), HRr.out.below (HH.out W h).2 (Nat.le_refl _)⟩
    have HL : Hid (∀ W, Below (w4.heap.size + 1) (w4.alloc (DivB false da D dc p qa (U / D) qc p ra (U % D) rc)) W → ((W.cell? ⟨w4.heap.size, 0, none⟩ = some (.bool false) ∧ W.cell? ⟨w4.heap.size, 1, none⟩ = some (.slice da (grp D).length dc) ∧ W.cell? ⟨w4.heap.size, 2, none⟩ = some (.bool p) ∧ W.cell? ⟨w4.heap.size, 3, none⟩ = some (.slice qa (grp (U / D)).length qc) ∧ W.cell? ⟨w4.heap.size, 4, none⟩ = some (.bool p) ∧ W.cell? ⟨w4.heap.size, 5, none⟩ = some (.slice ra (grp (U % D)).length rc)) ∧ W.cell? ⟨w2.heap.size, 1, none⟩ = some (fnV 119) ∧ W.cell? ⟨w2.heap.size, 2, none⟩ = some (fnV 120) ∧ W.cell? ⟨w2.heap.size, 3, none⟩ = some (fnV 121) ∧ W.cell? ⟨w2.heap.size, 4, none⟩ = some (fnV 122))) := fun W h => by
      have o := (HA.out _ (HRa2.out _ (HGa.out _ h))).1
      exact ⟨(own6V (HH.out W h).1).1, o.cell 1, o.cell 2, o.cell 3, o.cell 4⟩
    have HLs : Hid (∀ W, Below (w4.heap.size + 1) (w4.alloc (DivB false da D dc p qa (U / D) qc p ra (U % D) rc)) W → ∀ x y : Value, (fun W => ((W.cell? ⟨w4.heap.size, 0, none⟩ = some (.bool false) ∧ W.cell? ⟨w4.heap.size, 1, none⟩ = some (.slice da (grp D).length dc) ∧ W.cell? ⟨w4.heap.size, 2, none⟩ = some (.bool p) ∧ W.cell? ⟨w4.heap.size, 3, none⟩ = some (.slice qa (grp (U / D)).length qc) ∧ W.cell? ⟨w4.heap.size, 4, none⟩ = some (.bool p) ∧ W.cell? ⟨w4.heap.size, 5, none⟩ = some (.slice ra (grp (U % D)).length rc)) ∧ W.cell? ⟨w2.heap.size, 1, none⟩ = some (fnV 119) ∧ W.cell? ⟨w2.heap.size, 2, none⟩ = some (fnV 120) ∧ W.cell? ⟨w2.heap.size, 3, none⟩ = some (fnV 121) ∧ W.cell? ⟨w2.heap.size, 4, none⟩ = some (fnV 122))) ((W.setCell ⟨w.heap.size + 1, 0, none⟩ x).setCell ⟨w.heap.size + 1, 1, none⟩ y)) := fun W h x y => by
      have h1 := HSz1.out
      have h2 := HSz2.out
      have h3 := HSz3.out
      have h4 := HSz4.out
      have o := own_set2 (HA.out _ (HRa2.out _ (HGa.out _ h))).1 (r := w.heap.size + 1) (by omega) x y
      exact ⟨(own6V (own_set2 (HH.out W h).1 (r := w.heap.size + 1) (by omega) x y)).1, o.cell 1, o.cell 2, o.cell 3, o.cell 4⟩
    go_wp2_with fail
    have HB := hid HI0.out.drew
    obtain ⟨⟨r0, r1⟩, q0, q1⟩ := own2V (HXa.out _ HB.out).2.1
    go_region_held3 (fun W => ((W.cell? ⟨w4.heap.size, 0, none⟩ = some (.bool false) ∧ W.cell? ⟨w4.heap.size, 1, none⟩ = some (.slice da (grp D).length dc) ∧ W.cell? ⟨w4.heap.size, 2, none⟩ = some (.bool p) ∧ W.cell? ⟨w4.heap.size, 3, none⟩ = some (.slice qa (grp (U / D)).length qc) ∧ W.cell? ⟨w4.heap.size, 4, none⟩ = some (.bool p) ∧ W.cell? ⟨w4.heap.size, 5, none⟩ = some (.slice ra (grp (U % D)).length rc)) ∧ W.cell? ⟨w2.heap.size, 1, none⟩ = some (fnV 119) ∧ W.cell? ⟨w2.heap.size, 2, none⟩ = some (fnV 120) ∧ W.cell? ⟨w2.heap.size, 3, none⟩ = some (fnV 121) ∧ W.cell? ⟨w2.heap.size, 4, none⟩ = some (fnV 122)))
      (first
        | exact HL.out _ HB.out
        | exact HLs.out _ HB.out _ _)
      (first
        | (go_at_call 119
           go_loud (
             refine (HF.out _ _ _ _ _ _ _ (HM.out _ HB.out).1 (HM.out _ HB.out).2.1 (HM.out _ HB.out).2.2).mono ?_
             rintro e w5 ⟨rfl, hw5⟩
             have HB := hid (HB.out.trans (hw5.mono (Nat.le_trans HSz5.out HB.out.size)))
             clear hw5 r0 r1 q0 q1
             obtain ⟨⟨r0, r1⟩, q0, q1⟩ := own2V (HXa.out _ HB.out).2.1))
        | (go_at_call 120
           go_loud (
             refine (HF.out _ _ _ _ _ _ _ (HM.out _ HB.out).1 (HM.out _ HB.out).2.1 (HM.out _ HB.out).2.2).mono ?_
             rintro e w5 ⟨rfl, hw5⟩
             have HB := hid (HB.out.trans (hw5.mono (Nat.le_trans HSz5.out HB.out.size)))
             clear hw5 r0 r1 q0 q1
             obtain ⟨⟨r0, r1⟩, q0, q1⟩ := own2V (HXa.out _ HB.out).2.1))
        | (go_at_call 121
           go_loud (
             refine (HF.out _ _ _ _ _ _ _ (HM.out _ HB.out).1 (HM.out _ HB.out).2.1 (HM.out _ HB.out).2.2).mono ?_
             rintro e w5 ⟨rfl, hw5⟩
             have HB := hid (HB.out.trans (hw5.mono (Nat.le_trans HSz5.out HB.out.size)))
             clear hw5 r0 r1 q0 q1
             obtain ⟨⟨r0, r1⟩, q0, q1⟩ := own2V (HXa.out _ HB.out).2.1))
        | (go_at_call 122
           go_loud (
             refine (HF.out _ _ _ _ _ _ _ (HM.out _ HB.out).1 (HM.out _ HB.out).2.1 (HM.out _ HB.out).2.2).mono ?_
             rintro e w5 ⟨rfl, hw5⟩
             have HB := hid (HB.out.trans (hw5.mono (Nat.le_trans HSz5.out HB.out.size)))
             clear hw5 r0 r1 q0 q1
             obtain ⟨⟨r0, r1⟩, q0, q1⟩ := own2V (HXa.out _ HB.out).2.1))
        | (go_at_call 51
           go_loud (
             refine (HIo.out _).mono ?_
             rintro e w6 ⟨ia, ic, rfl, hi, hw5⟩
             have HII := hid hi
             have HB := hid (HB.out.trans (hw5.mono (Nat.le_trans HSz5.out HB.out.size)))
             clear hw5 hi r0 r1 q0 q1
             obtain ⟨⟨r0, r1⟩, q0, q1⟩ := own2V (HXa.out _ HB.out).2.1))
        | (go_at_call 94
           go_loud (
             refine (HPl.out _ _ _ (HM.out _ HB.out).2.1 HII.out).mono ?_
             rintro e w7 ⟨pa, pc, rfl, hp, hw5⟩
             have HPP := hid hp
             have HB := hid (HB.out.trans (hw5.mono (Nat.le_trans HSz5.out HB.out.size)))
             clear hw5 hp r0 r1 q0 q1
             obtain ⟨⟨r0, r1⟩, q0, q1⟩ := own2V (HXa.out _ HB.out).2.1)))
    go_wp2_with fail
    refine bodyPost_ret (v := .tuple #[.agg #[.bool p, .slice pa (grp Z).length pc], .nilIface]) (by simp [results, Tryd.results48, go_sem, r0, r1]) rfl ⟨pa, pc, rfl, ?_, ?_⟩
    · exact natA_set2 HPP.out (HXa.out _ HB.out).2.1 _ _
    · exact below_set2 (HXa.out _ HB.out).2.2 (by omega) _ _
end Go.Proofs.YteckkgbkgjhhbaaDoor

namespace Go.Proofs.YteckkgbkgjhhbaaDoor
open Go.RowKit Go.Siskin

abbrev div0 : Value := .agg #[.bool false, .slice none 0 0, .bool false, .slice none 0 0, .bool false, .slice none 0 0]
abbrev box60 : Obj := box6 false (.slice none 0 0) false (.slice none 0 0) false (.slice none 0 0)
/-- What integersOf tells of two whole numbers. -/
def IntPost (p1 p2 : Bool) (U1 U2 : Nat) (w : World) (e : Ending) (w' : World) : Prop :=
  ∃ a1 c1 a2 c2, e = .returned (.tuple #[.agg #[.bool p1, .slice a1 (grp U1).length c1], .agg #[.bool p2, .slice a2 (grp U2).length c2], .nilIface]) ∧ NatA w' (.slice a1 (grp U1).length c1) (grp U1) ∧ NatA w' (.slice a2 (grp U2).length c2) (grp U2) ∧ Below w.heap.size w w'

set_option maxRecDepth 20000 in
set_option maxHeartbeats 4000000 in
theorem dividedOf_err (n1 n2 : Bool) (T1 R1 T2 R2 : ByteArray) (c : Int) (w : World) (hP : Pow9 w)
    (hI : ∀ w, Pow9 w → Calls Tryd.prog 59 #[.agg #[.bool n1, .string T1, .string R1], .agg #[.bool n2, .string T2, .string R2]] w fun e w' => e = .returned (.tuple #[int0, int0, whyV c]) ∧ Below w.heap.size w w') :
    Calls Tryd.prog 54 #[.agg #[.bool n1, .string T1, .string R1], .agg #[.bool n2, .string T2, .string R2]] w fun e w' => e = .returned (.tuple #[div0, whyV c]) ∧ Below w.heap.size w w' := by
  have HI := hid hI
  have HPw := hid hP
  clear hI hP
  have HX : Hid (∀ W, Below (w.heap.size + 3) (((w.alloc (boxN n1 T1 R1)).alloc (boxN n2 T2 R2)).alloc box60) W → Own W w.heap.size 25 #[.bool n1, .string T1, .string R1] ∧ Own W (w.heap.size + 1) 25 #[.bool n2, .string T2, .string R2] ∧ Own W (w.heap.size + 1 + 1) 67 #[.bool false, .slice none 0 0, .bool false, .slice none 0 0, .bool false, .slice none 0 0] ∧ Below w.heap.size w W) := fun W h => boxes3 w _ _ _ _ _ _ h
  have HB0 : Hid (Below (w.heap.size + 3) (((w.alloc (boxN n1 T1 R1)).alloc (boxN n2 T2 R2)).alloc box60) (((w.alloc (boxN n1 T1 R1)).alloc (boxN n2 T2 R2)).alloc box60)) := Below.refl _ _
  have HSz : Hid (w.heap.size + 3 ≤ (((w.alloc (boxN n1 T1 R1)).alloc (boxN n2 T2 R2)).alloc box60).heap.size) := by show _ ≤ _; simp
  have HP0 := hid (HPw.out.below (HX.out _ HB0.out).2.2.2 (Nat.le_refl _))
  go_enter Tryd.func54, Tryd.ntmps54
  go_wp2_with fail
  refine (HI.out _ HP0.out).mono ?_
  rintro e w1 ⟨rfl, hw1⟩
  have HB1 := hid (HB0.out.trans (hw1.mono (by first | exact HSz.out | simp)))
  have HSz1 := hid (Nat.le_trans HSz.out HB1.out.size)
  have HB2 : Hid (Below (w.heap.size + 3) (((w.alloc (boxN n1 T1 R1)).alloc (boxN n2 T2 R2)).alloc box60) ((w1.alloc boxI0).alloc boxI0)) := (HB1.out.alloc HSz1.out _).alloc (by rw [World.size_alloc]; exact Nat.le_trans HSz1.out (Nat.le_succ _)) _
  obtain ⟨⟨r0, r1, r2, r3, r4, r5⟩, q0, q1, q2, q3, q4, q5⟩ := own6V (HX.out _ HB2.out).2.2.1
  clear hw1
  go_wp2_with fail
  refine bodyPost_ret (v := .tuple #[div0, whyV c]) (by simp [results, Tryd.results54, go_sem, r0, r1, r2, r3, r4, r5]) rfl ⟨rfl, ?_⟩
  exact below_set6 (HX.out _ HB2.out).2.2.2 (by omega) _ _ _ _ _ _

set_option maxRecDepth 20000 in
set_option maxHeartbeats 4000000 in
theorem dividedOf_nought (n1 n2 p1 p2 : Bool) (T1 R1 T2 R2 : ByteArray) (U1 : Nat) (w : World) (hP : Pow9 w)
    (hI : ∀ w, Pow9 w → Calls Tryd.prog 59 #[.agg #[.bool n1, .string T1, .string R1], .agg #[.bool n2, .string T2, .string R2]] w (IntPost p1 p2 U1 0 w)) :
    Calls Tryd.prog 54 #[.agg #[.bool n1, .string T1, .string R1], .agg #[.bool n2, .string T2, .string R2]] w fun e w' => e = .returned (.tuple #[div0, whyV 2]) ∧ Below w.heap.size w w' := by
  have HI := hid hI
  have HPw := hid hP
  clear hI hP
  have HX : Hid (∀ W, Below (w.heap.size + 3) (((w.alloc (boxN n1 T1 R1)).alloc (boxN n2 T2 R2)).alloc box60) W → Own W w.heap.size 25 #[.bool n1, .string T1, .string R1] ∧ Own W (w.heap.size + 1) 25 #[.bool n2, .string T2, .string R2] ∧ Own W (w.heap.size + 1 + 1) 67 #[.bool false, .slice none 0 0, .bool false, .slice none 0 0, .bool false, .slice none 0 0] ∧ Below w.heap.size w W) := fun W h => boxes3 w _ _ _ _ _ _ h
  have HB0 : Hid (Below (w.heap.size + 3) (((w.alloc (boxN n1 T1 R1)).alloc (boxN n2 T2 R2)).alloc box60) (((w.alloc (boxN n1 T1 R1)).alloc (boxN n2 T2 R2)).alloc box60)) := Below.refl _ _
  have HSz : Hid (w.heap.size + 3 ≤ (((w.alloc (boxN n1 T1 R1)).alloc (boxN n2 T2 R2)).alloc box60).heap.size) := by show _ ≤ _; simp
  have HP0 := hid (HPw.out.below (HX.out _ HB0.out).2.2.2 (Nat.le_refl _))
  go_enter Tryd.func54, Tryd.ntmps54
  go_wp2_with fail
  refine (HI.out _ HP0.out).mono ?_
  rintro e w1 ⟨a1, c1, a2, c2, rfl, hu1, hu2, hw1⟩
  have HB1 := hid (HB0.out.trans (hw1.mono (by first | exact HSz.out | simp)))
  have HSg : Hid (∀ W, Below w1.heap.size w1 W → Calls Tryd.prog 86 #[.agg #[.bool p2, .slice a2 (grp 0).length c2]] W fun e w' => e = .returned (.int .i64 0) ∧ Below W.heap.size W w') := fun W hb => intSign_any p2 0 _ W (hu2.below hb (Nat.le_refl _))
  have HSz1 := hid (Nat.le_trans HSz.out HB1.out.size)
  obtain ⟨W2, HW2⟩ : ∃ W, Hid ((w1.alloc (boxI p1 (.slice a1 (grp U1).length c1))).alloc (boxI p2 (.slice a2 (grp 0).length c2)) = W) := ⟨_, rfl⟩
  have HC2 : Hid (Below w1.heap.size w1 W2) := by rw [← HW2.out]; exact ((Below.refl _ _).alloc (Nat.le_refl _) _).alloc (by simp) _
  have HB2 := hid (HB1.out.trans (HC2.out.mono HSz1.out))
  obtain ⟨⟨y0, y1⟩, -⟩ := own2V (boxes2 w1 _ _ _ _ (Below.refl _ ((w1.alloc (boxI p1 (.slice a1 (grp U1).length c1))).alloc (boxI p2 (.slice a2 (grp 0).length c2))))).2.1
  rw [HW2.out] at y0 y1
  clear hw1 hu1 hu2
  go_wp2_with fail
  rw [HW2.out]
  go_wp2_with fail
  refine (HSg.out _ HC2.out).mono ?_
  rintro e w2 ⟨rfl, hw2⟩
  have HB3 := hid (HB2.out.trans (hw2.mono (Nat.le_trans HSz.out HB2.out.size)))
  obtain ⟨⟨r0, r1, r2, r3, r4, r5⟩, q0, q1, q2, q3, q4, q5⟩ := own6V (HX.out _ HB3.out).2.2.1
  clear hw2 y0 y1
  go_wp2_with fail
  refine bodyPost_ret (v := .tuple #[div0, whyV 2]) (by simp [results, Tryd.results54, go_sem, r0, r1, r2, r3, r4, r5]) rfl ⟨rfl, ?_⟩
  exact below_set6 (HX.out _ HB3.out).2.2.2 (by omega) _ _ _ _ _ _

set_option maxRecDepth 20000 in
set_option maxHeartbeats 4000000 in
theorem dividedOf_ok (n1 n2 p1 p2 s : Bool) (T1 R1 T2 R2 : ByteArray) (U1 U2 : Nat) (w : World) (hs : (p1 != p2) = s) (hu : U2 ≠ 0) (hn : nG U1 ≤ 1000) (hP : Pow9 w)
    (hI : ∀ w, Pow9 w → Calls Tryd.prog 59 #[.agg #[.bool n1, .string T1, .string R1], .agg #[.bool n2, .string T2, .string R2]] w (IntPost p1 p2 U1 U2 w)) :
    Calls Tryd.prog 54 #[.agg #[.bool n1, .string T1, .string R1], .agg #[.bool n2, .string T2, .string R2]] w fun e w' => ∃ a2 c2 qa qc ra rc, e = .returned (.tuple #[.agg #[.bool p2, .slice a2 (grp U2).length c2, .bool s, .slice qa (grp (U1 / U2)).length qc, .bool p1, .slice ra (grp (U1 % U2)).length rc], .nilIface]) ∧ NatA w' (.slice a2 (grp U2).length c2) (grp U2) ∧ NatA w' (.slice qa (grp (U1 / U2)).length qc) (grp (U1 / U2)) ∧ NatA w' (.slice ra (grp (U1 % U2)).length rc) (grp (U1 % U2)) ∧ Below w.heap.size w w' := by
  have HI := hid hI
  have HPw := hid hP
  have hz : signI p2 U2 = -1 ∨ signI p2 U2 = 1 := by
    unfold signI
    cases p2 <;> simp [hu]
  have HU := hid (Nat.pos_of_ne_zero hu)
  have HN := hid hn
  have HSS := hid hs
  clear hI hP hu hn hs
  have HX : Hid (∀ W, Below (w.heap.size + 3) (((w.alloc (boxN n1 T1 R1)).alloc (boxN n2 T2 R2)).alloc box60) W → Own W w.heap.size 25 #[.bool n1, .string T1, .string R1] ∧ Own W (w.heap.size + 1) 25 #[.bool n2, .string T2, .string R2] ∧ Own W (w.heap.size + 1 + 1) 67 #[.bool false, .slice none 0 0, .bool false, .slice none 0 0, .bool false, .slice none 0 0] ∧ Below w.heap.size w W) := fun W h => boxes3 w _ _ _ _ _ _ h
  have HB0 : Hid (Below (w.heap.size + 3) (((w.alloc (boxN n1 T1 R1)).alloc (boxN n2 T2 R2)).alloc box60) (((w.alloc (boxN n1 T1 R1)).alloc (boxN n2 T2 R2)).alloc box60)) := Below.refl _ _
  have HSz : Hid (w.heap.size + 3 ≤ (((w.alloc (boxN n1 T1 R1)).alloc (boxN n2 T2 R2)).alloc box60).heap.size) := by show _ ≤ _; simp
  have HP0 := hid (HPw.out.below (HX.out _ HB0.out).2.2.2 (Nat.le_refl _))
  have HZ := hid (fun v w h => intSign_any p2 U2 v w h)
  generalize signI p2 U2 = z at *
  rcases hz with rfl | rfl
  all_goals
    go_enter Tryd.func54, Tryd.ntmps54
    go_wp2_with fail
    refine (HI.out _ HP0.out).mono ?_
    rintro e w1 ⟨a1, c1, a2, c2, rfl, hu1, hu2, hw1⟩
    have HU1 := hid hu1
    have HU2 := hid hu2
    have HB1 := hid (HB0.out.trans (hw1.mono (by first | exact HSz.out | simp)))
    have HSg : Hid (∀ W, Below w1.heap.size w1 W → Calls Tryd.prog 86 #[.agg #[.bool p2, .slice a2 (grp U2).length c2]] W fun e w' => e = .returned (.int .i64 _) ∧ Below W.heap.size W w') := fun W hb => HZ.out _ W (hu2.below hb (Nat.le_refl _))
    have HDb : Hid (∀ W, Below w1.heap.size w1 W → Calls Tryd.prog 93 #[.agg #[.bool p1, .slice a1 (grp U1).length c1], .agg #[.bool p2, .slice a2 (grp U2).length c2]] W fun e w' => ∃ qa qc ra rc, e = .returned (.agg #[.bool p2, .slice a2 (grp U2).length c2, .bool s, .slice qa (grp (U1 / U2)).length qc, .bool p1, .slice ra (grp (U1 % U2)).length rc]) ∧ NatA w' (.slice qa (grp (U1 / U2)).length qc) (grp (U1 / U2)) ∧ NatA w' (.slice ra (grp (U1 % U2)).length rc) (grp (U1 % U2)) ∧ Below W.heap.size W w') := fun W hb => intDividedBy_any p1 p2 s U1 U2 _ _ _ _ _ _ W HSS.out (hu1.below hb (Nat.le_refl _)) (hu2.below hb (Nat.le_refl _)) HU.out HN.out
    have HSz1 := hid (Nat.le_trans HSz.out HB1.out.size)
    obtain ⟨W2, HW2⟩ : ∃ W, Hid ((w1.alloc (boxI p1 (.slice a1 (grp U1).length c1))).alloc (boxI p2 (.slice a2 (grp U2).length c2)) = W) := ⟨_, rfl⟩
    have HC2 : Hid (Below w1.heap.size w1 W2) := by rw [← HW2.out]; exact ((Below.refl _ _).alloc (Nat.le_refl _) _).alloc (by simp) _
    have HC3 : Hid (∀ W, Below (w1.heap.size + 2) W2 W → Own W w1.heap.size 55 #[.bool p1, .slice a1 (grp U1).length c1] ∧ Own W (w1.heap.size + 1) 55 #[.bool p2, .slice a2 (grp U2).length c2] ∧ Below w1.heap.size w1 W) := fun W h => by
      rw [← HW2.out] at h
      exact boxes2 w1 _ _ _ _ h
    have HC0 : Hid (Below (w1.heap.size + 2) W2 W2) := Below.refl _ _
    have HS2 : Hid (w1.heap.size + 2 ≤ W2.heap.size) := by show _ ≤ _; rw [← HW2.out]; simp
    obtain ⟨⟨y0, y1⟩, -⟩ := own2V (HC3.out _ HC0.out).2.1
    clear hw1 hu1 hu2
    go_wp2_with fail
    rw [HW2.out]
    go_wp2_with fail
    refine (HSg.out _ HC2.out).mono ?_
    rintro e w2 ⟨rfl, hw2⟩
    have HC4 := hid (HC0.out.trans (hw2.mono HS2.out))
    clear hw2 y0 y1
    obtain ⟨⟨x0, x1⟩, -⟩ := own2V (HC3.out _ HC4.out).1
    obtain ⟨⟨y0, y1⟩, -⟩ := own2V (HC3.out _ HC4.out).2.1
    go_wp2_with fail
    refine (HDb.out _ (HC3.out _ HC4.out).2.2).mono ?_
    rintro e w3 ⟨qa, qc, ra, rc, rfl, hq, hr, hw3⟩
    have HQ := hid hq
    have HR := hid hr
    have HC5 := hid (HC4.out.trans (hw3.mono (Nat.le_trans HS2.out HC4.out.size)))
    have HB5 := hid (HB1.out.trans ((HC3.out _ HC5.out).2.2.mono HSz1.out))
    obtain ⟨⟨r0, r1, r2, r3, r4, r5⟩, q0, q1, q2, q3, q4, q5⟩ := own6V (HX.out _ HB5.out).2.2.1
    have HY2 := hid (HU2.out.below (HC3.out _ HC5.out).2.2 (Nat.le_refl _))
    clear hq hr hw3 x0 x1 y0 y1
    go_wp2_with fail
    refine bodyPost_ret (v := .tuple #[.agg #[.bool p2, .slice a2 (grp U2).length c2, .bool s, .slice qa (grp (U1 / U2)).length qc, .bool p1, .slice ra (grp (U1 % U2)).length rc], .nilIface]) (by simp [results, Tryd.results54, go_sem, r0, r1, r2, r3, r4, r5]) rfl ⟨a2, c2, qa, qc, ra, rc, rfl, ?_, ?_, ?_, ?_⟩
    · exact natA_set6 HY2.out (HX.out _ HB5.out).2.2.1 _ _ _ _ _ _
    · exact natA_set6 HQ.out (HX.out _ HB5.out).2.2.1 _ _ _ _ _ _
    · exact natA_set6 HR.out (HX.out _ HB5.out).2.2.1 _ _ _ _ _ _
    · exact below_set6 (HX.out _ HB5.out).2.2.2 (by omega) _ _ _ _ _ _
end Go.Proofs.YteckkgbkgjhhbaaDoor

namespace Go.Proofs.YteckkgbkgjhhbaaDoor
open Go.RowKit Go.Siskin

/-- What l14Whole tells of two numbers that are ok. -/
def wholeC (d1 d2 u2 : Nat) : Int := if d1 ≠ 1 ∨ d2 ≠ 1 then 4 else if u2 = 0 then 2 else 0

set_option maxRecDepth 20000 in
set_option maxHeartbeats 2000000 in
theorem l14Whole_no (n1 n2 : Bool) (T1 R1 T2 R2 : ByteArray) (w : World) (h1 : T1.size ≤ maxLen) (h2 : R1.size ≤ maxLen) (h3 : T2.size ≤ maxLen) (h4 : R2.size ≤ maxLen) (hno : ¬ (NumP n1 T1 R1 ∧ NumP n2 T2 R2)) :
    Calls Tryd.prog 52 #[.agg #[.bool n1, .string T1, .string R1], .agg #[.bool n2, .string T2, .string R2]] w fun e w' => e = .returned (.int .i64 1) ∧ Below w.heap.size w w' := by
  have HB0 : Hid (Below (w.heap.size + 2) ((w.alloc (boxN n1 T1 R1)).alloc (boxN n2 T2 R2)) ((w.alloc (boxN n1 T1 R1)).alloc (boxN n2 T2 R2))) := Below.refl _ _
  have HX : Hid (∀ W, Below (w.heap.size + 2) ((w.alloc (boxN n1 T1 R1)).alloc (boxN n2 T2 R2)) W → Own W w.heap.size 25 #[.bool n1, .string T1, .string R1] ∧ Own W (w.heap.size + 1) 25 #[.bool n2, .string T2, .string R2] ∧ Below w.heap.size w W) := fun W h => boxes2 w _ _ _ _ h
  by_cases hp : NumP n1 T1 R1
  · have HO1 := hid (fun w => specNumOk_any n1 T1 R1 w h1 h2 true ⟨fun _ => hp, fun _ => rfl⟩)
    have HO2 := hid (fun w => specNumOk_any n2 T2 R2 w h3 h4 false ⟨fun h => (by cases h), fun h => absurd ⟨hp, h⟩ hno⟩)
    clear h1 h2 h3 h4 hno hp
    go_enter Tryd.func52, Tryd.ntmps52
    go_wp2_with fail
    refine (HO1.out _).mono ?_
    rintro e wa ⟨rfl, hwa⟩
    have HBa := hid (HB0.out.trans (hwa.mono (by simp)))
    clear hwa
    obtain ⟨⟨y0, y1, y2⟩, -⟩ := own3V (HX.out _ HBa.out).2.1
    go_wp2_with fail
    refine (HO2.out _).mono ?_
    rintro e wb ⟨rfl, hwb⟩
    have HBb := hid (HBa.out.trans (hwb.mono (by have := HBa.out.size; simp at this; omega)))
    clear hwb y0 y1 y2
    go_wp2_with fail
    go_ret
    exact ⟨rfl, (HX.out _ HBb.out).2.2⟩
  · have HO1 := hid (fun w => specNumOk_any n1 T1 R1 w h1 h2 false ⟨fun h => (by cases h), fun h => absurd h hp⟩)
    clear h1 h2 h3 h4 hno hp
    go_enter Tryd.func52, Tryd.ntmps52
    go_wp2_with fail
    refine (HO1.out _).mono ?_
    rintro e wb ⟨rfl, hwb⟩
    have HBb := hid (HB0.out.trans (hwb.mono (by simp)))
    clear hwb
    go_wp2_with fail
    go_ret
    exact ⟨rfl, (HX.out _ HBb.out).2.2⟩

set_option maxRecDepth 20000 in
set_option maxHeartbeats 2000000 in
theorem l14Whole_yes (n1 n2 : Bool) (u1 d1 u2 d2 : Nat) (w : World) (h1 : (dec u1).size ≤ 60) (h2 : (dec d1).size ≤ 60) (h3 : (dec u2).size ≤ 60) (h4 : (dec d2).size ≤ 60) (ok1 : OkUD n1 u1 d1) (ok2 : OkUD n2 u2 d2) (c : Int) (hc : wholeC d1 d2 u2 = c) :
    Calls Tryd.prog 52 #[.agg #[.bool n1, .string (dec u1), .string (dec d1)], .agg #[.bool n2, .string (dec u2), .string (dec d2)]] w fun e w' => e = .returned (.int .i64 c) ∧ Below w.heap.size w w' := by
  have HO1 := hid (fun w => specNumOk_any n1 (dec u1) (dec d1) w (Nat.le_trans h1 max60) (Nat.le_trans h2 max60) true ⟨fun _ => ⟨u1, d1, rfl, rfl, h1, h2, ok1⟩, fun _ => rfl⟩)
  have HO2 := hid (fun w => specNumOk_any n2 (dec u2) (dec d2) w (Nat.le_trans h3 max60) (Nat.le_trans h4 max60) true ⟨fun _ => ⟨u2, d2, rfl, rfl, h3, h4, ok2⟩, fun _ => rfl⟩)
  have t1 := one_text d1
  have t2 := one_text d2
  have t3 := nought_text u2
  have hcase : (decide (d1 = 1) = false ∧ c = 4) ∨ (decide (d1 = 1) = true ∧ decide (d2 = 1) = false ∧ c = 4) ∨ (decide (d1 = 1) = true ∧ decide (d2 = 1) = true ∧ decide (u2 = 0) = true ∧ c = 2) ∨ (decide (d1 = 1) = true ∧ decide (d2 = 1) = true ∧ decide (u2 = 0) = false ∧ c = 0) := by
    rw [← hc]
    unfold wholeC
    by_cases e1 : d1 = 1 <;> by_cases e2 : d2 = 1 <;> by_cases e3 : u2 = 0 <;> simp [e1, e2, e3]
  clear h1 h2 h3 h4 ok1 ok2 hc
  have HB0 : Hid (Below (w.heap.size + 2) ((w.alloc (boxN n1 (dec u1) (dec d1))).alloc (boxN n2 (dec u2) (dec d2))) ((w.alloc (boxN n1 (dec u1) (dec d1))).alloc (boxN n2 (dec u2) (dec d2)))) := Below.refl _ _
  have HX : Hid (∀ W, Below (w.heap.size + 2) ((w.alloc (boxN n1 (dec u1) (dec d1))).alloc (boxN n2 (dec u2) (dec d2))) W → Own W w.heap.size 25 #[.bool n1, .string (dec u1), .string (dec d1)] ∧ Own W (w.heap.size + 1) 25 #[.bool n2, .string (dec u2), .string (dec d2)] ∧ Below w.heap.size w W) := fun W h => boxes2 w _ _ _ _ h
  generalize decide (d1 = 1) = z1 at *
  generalize decide (d2 = 1) = z2 at *
  generalize decide (u2 = 0) = z3 at *
  generalize dec u1 = T1 at *
  generalize dec d1 = R1 at *
  generalize dec u2 = T2 at *
  generalize dec d2 = R2 at *
  have s1 : (R1.toList != [49]) = !z1 := by rw [bne, t1]
  have s2 : (R2.toList != [49]) = !z2 := by rw [bne, t2]
  rcases hcase with ⟨rfl, rfl⟩ | ⟨rfl, rfl, rfl⟩ | ⟨rfl, rfl, rfl, rfl⟩ | ⟨rfl, rfl, rfl, rfl⟩
  all_goals
    first | change _ = true at s1 | change _ = false at s1
    try first | change _ = true at s2 | change _ = false at s2
    go_enter Tryd.func52, Tryd.ntmps52
    go_wp2_with fail
    refine (HO1.out _).mono ?_
    rintro e wa ⟨rfl, hwa⟩
    have HBa := hid (HB0.out.trans (hwa.mono (by simp)))
    clear hwa
    obtain ⟨⟨y0, y1, y2⟩, -⟩ := own3V (HX.out _ HBa.out).2.1
    go_wp2_with fail
    refine (HO2.out _).mono ?_
    rintro e wb ⟨rfl, hwb⟩
    have HBb := hid (HBa.out.trans (hwb.mono (by have := HBa.out.size; simp at this; omega)))
    clear hwb y0 y1 y2
    obtain ⟨⟨y0, y1, y2⟩, -⟩ := own3V (HX.out _ HBb.out).2.1
    obtain ⟨⟨x0, x1, x2⟩, -⟩ := own3V (HX.out _ HBb.out).1
    go_wp2_with fail
    go_ret
    exact ⟨rfl, (HX.out _ HBb.out).2.2⟩
end Go.Proofs.YteckkgbkgjhhbaaDoor
