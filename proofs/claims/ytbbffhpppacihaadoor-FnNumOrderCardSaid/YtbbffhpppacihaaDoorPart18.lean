/-
  The laws FnExactNumMul, NumDiv and the others of two numbers. Condition: the table of powers stands. Made by wip/tools/genup.py.
  NumCmp: the program's, the model's, the law. Condition: the table of powers stands. Made by wip/tools/genux.py.
-/
import Derived.Test.YtbbffhpppacihaaDoorPart17
import Derived.Test.YtbbffhpppacihaaDoorPart12
import Derived.Test.YtbbffhpppacihaaDoorPart7
namespace Go.Proofs.YtbbffhpppacihaaDoor
open Go.RowKit Go.Siskin

theorem szN_le (a b : Nat) (left : Int) (h : left ≤ 1048576) : szN a b left ≤ 1048576 := by
  unfold szN
  split
  · decide
  · split
    · decide
    · omega

theorem both_parts {n1 n2 : Bool} {T1 R1 T2 R2 : ByteArray} {b1 p1 b2 p2 : Bool} {U1 D1 U2 D2 : Nat} (o1 : OpenP n1 T1 R1 b1 p1 U1 D1) (o2 : OpenP n2 T2 R2 b2 p2 U2 D2) :
    (b1 = true ∧ b2 = true ∧ n1 = p1 ∧ n2 = p2 ∧ T1 = dec U1 ∧ R1 = dec D1 ∧ T2 = dec U2 ∧ R2 = dec D2 ∧ T1.size ≤ 60 ∧ R1.size ≤ 60 ∧ T2.size ≤ 60 ∧ R2.size ≤ 60 ∧ OkUD n1 U1 D1 ∧ OkUD n2 U2 D2) ∨ ((b1 && b2) = false ∧ ¬ (NumP n1 T1 R1 ∧ NumP n2 T2 R2)) := by
  rcases o1 with ⟨rfl, rfl, e1, e2, s1, s2, k1⟩ | ⟨rfl, h1, -, -, -⟩
  · rcases o2 with ⟨rfl, rfl, e3, e4, s3, s4, k2⟩ | ⟨rfl, h2, -, -, -⟩
    · exact Or.inl ⟨rfl, rfl, rfl, rfl, e1, e2, e3, e4, s1, s2, s3, s4, k1, k2⟩
    · exact Or.inr ⟨rfl, fun h => h2 h.2⟩
  · exact Or.inr ⟨rfl, fun h => h1 h.1⟩

theorem numMul_both (n1 n2 : Bool) (T1 R1 T2 R2 : ByteArray) (h1 : T1.size ≤ maxLen) (h2 : R1.size ≤ maxLen) (h3 : T2.size ≤ maxLen) (h4 : R2.size ≤ maxLen) : ∃ (n : Bool) (x y : ByteArray) (c : Int),
    (∀ w, Calls Tryd.prog 39 #[.agg #[.bool n1, .string T1, .string R1], .agg #[.bool n2, .string T2, .string R2]] w fun e w' => e = .returned (.tuple #[.agg #[.bool n, .string x, .string y], .int .i64 c]) ∧ Below w.heap.size w w') ∧
    (∀ w, Pow9 w → Calls Tryd.prog 19 #[.agg #[.bool n1, .string T1, .string R1], .agg #[.bool n2, .string T2, .string R2]] w fun e w' => e = .returned (.tuple #[.agg #[.bool n, .string x, .string y], .int .i64 c]) ∧ Below w.heap.size w w') := by
  obtain ⟨b1, p1, U1, D1, o1, c1⟩ := openNum_all n1 T1 R1 h1 h2
  obtain ⟨b2, p2, U2, D2, o2, c2⟩ := openNum_all n2 T2 R2 h3 h4
  have g1 := o1.small
  have g2 := o2.small
  rcases both_parts o1 o2 with ⟨rfl, rfl, rfl, rfl, rfl, rfl, rfl, rfl, s1, s2, s3, s4, k1, k2⟩ | ⟨hb, hno⟩
  · obtain ⟨n, x, y, c, hf⟩ := ansQ_form (n1 != n2) (U1 * U2) (D1 * D2)
    refine ⟨n, x, y, c, fun w => ?_, fun w hP => ?_⟩
    · have h := specNumMul_yes n1 n2 U1 D1 U2 D2 w s1 s2 s3 s4 k1 k2
      rw [hf] at h
      exact h
    · have h := implNumMul_of n1 n2 _ _ _ _ true true n1 n2 U1 D1 U2 D2 w c1 c2 g1.1 g1.2 g2.1 g2.2 (fun _ => ⟨Nat.pos_of_ne_zero k1.1, Nat.pos_of_ne_zero k2.1⟩) hP
      rw [if_pos (show (true && true) = true from rfl), hf] at h
      exact h
  · refine ⟨false, ⟨#[]⟩, ⟨#[]⟩, _, fun w => specNumMul_no n1 n2 T1 R1 T2 R2 w h1 h2 h3 h4 hno, fun w hP => ?_⟩
    have h := implNumMul_of n1 n2 _ _ _ _ b1 b2 p1 p2 U1 D1 U2 D2 w c1 c2 g1.1 g1.2 g2.1 g2.2 (fun h => by rw [hb] at h; cases h) hP
    rw [hb, if_neg (by decide)] at h
    exact h
end Go.Proofs.YtbbffhpppacihaaDoor

namespace Go.Proofs.YtbbffhpppacihaaDoor
open Go.RowKit Go.Siskin

set_option maxRecDepth 20000 in
set_option maxHeartbeats 4000000 in
theorem implNumCmp_of (n1 n2 : Bool) (u1 v1 u2 v2 : ByteArray) (b1 b2 p1 p2 : Bool) (U1 D1 U2 D2 : Nat) (w : World)
    (h1 : ∀ w, Pow9 w → Calls Tryd.prog 49 #[.agg #[.bool n1, .string u1, .string v1]] w fun e w' => ∃ ua uc da dc, e = .returned (.tuple #[.agg #[.bool p1, .slice ua (grp U1).length uc, .slice da (grp D1).length dc], .bool b1]) ∧ NatA w' (.slice ua (grp U1).length uc) (grp U1) ∧ NatA w' (.slice da (grp D1).length dc) (grp D1) ∧ Below w.heap.size w w')
    (h2 : ∀ w, Pow9 w → Calls Tryd.prog 49 #[.agg #[.bool n2, .string u2, .string v2]] w fun e w' => ∃ ua uc da dc, e = .returned (.tuple #[.agg #[.bool p2, .slice ua (grp U2).length uc, .slice da (grp D2).length dc], .bool b2]) ∧ NatA w' (.slice ua (grp U2).length uc) (grp U2) ∧ NatA w' (.slice da (grp D2).length dc) (grp D2) ∧ Below w.heap.size w w')
    (g1 : nG U1 ≤ 60) (g2 : nG D1 ≤ 60) (g3 : nG U2 ≤ 60) (g4 : nG D2 ≤ 60) (hP : Pow9 w) :
    Calls Tryd.prog 27 #[.agg #[.bool n1, .string u1, .string v1], .agg #[.bool n2, .string u2, .string v2]] w fun e w' => e = .returned (.int .i64 (if (b1 && b2) = true then signI (sumN p1 (U1 * D2) (!p2) (U2 * D1)) (sumZ p1 (U1 * D2) (!p2) (U2 * D1)) else 0)) ∧ Below w.heap.size w w' := by
  have HRt := hid (fun w h => ratiosOf_any n1 n2 u1 v1 u2 v2 b1 b2 p1 p2 U1 D1 U2 D2 w h1 h2 h)
  have HPw := hid hP
  have HG := hid (And.intro (And.intro g1 g2) (And.intro g3 g4))
  have HB0 : Hid (Below (w.heap.size + 2) ((w.alloc (boxN n1 u1 v1)).alloc (boxN n2 u2 v2)) ((w.alloc (boxN n1 u1 v1)).alloc (boxN n2 u2 v2))) := Below.refl _ _
  have HX : Hid (∀ W, Below (w.heap.size + 2) ((w.alloc (boxN n1 u1 v1)).alloc (boxN n2 u2 v2)) W → Below w.heap.size w W) := fun W h => (boxes2 w _ _ _ _ h).2.2
  clear h1 h2 g1 g2 g3 g4 hP
  obtain ⟨bb, hbb⟩ : ∃ b, (b1 && b2) = b := ⟨_, rfl⟩
  rw [hbb] at HRt ⊢
  clear hbb
  cases bb
  · rw [if_neg (by decide)]
    go_enter Tryd.func27, Tryd.ntmps27
    go_wp2_with fail
    refine (HRt.out _ (HPw.out.below (HX.out _ HB0.out) (Nat.le_refl _))).mono ?_
    rintro e wr ⟨a1, c1, e1, d1, a2, c2, e2, d2, rfl, -, -, -, -, hw⟩
    have HBr := hid (HB0.out.trans (hw.mono (by simp)))
    have hsr : w.heap.size + 2 ≤ wr.heap.size := by have := hw.size; simp at this; omega
    clear hw
    have hX := HX.out _ HBr.out
    go_wp2_with fail
    go_ret
    refine ⟨rfl, ?_⟩
    exact (hX.alloc (by omega) _).alloc (by simp; omega) _
  · rw [if_pos rfl]
    obtain ⟨z, hz⟩ : ∃ z, signI (sumN p1 (U1 * D2) (!p2) (U2 * D1)) (sumZ p1 (U1 * D2) (!p2) (U2 * D1)) = z := ⟨_, rfl⟩
    rw [hz]
    have HZ := hid hz
    clear hz
    go_enter Tryd.func27, Tryd.ntmps27
    go_wp2_with fail
    refine (HRt.out _ (HPw.out.below (HX.out _ HB0.out) (Nat.le_refl _))).mono ?_
    rintro e wr ⟨a1, c1, e1, d1, a2, c2, e2, d2, rfl, hN1, hN2, hN3, hN4, hw⟩
    have HBr := hid (HB0.out.trans (hw.mono (by simp)))
    have hsr : w.heap.size + 2 ≤ wr.heap.size := by have := hw.size; simp at this; omega
    clear hw
    have HW : Hid (∀ W, Below (wr.heap.size + 2) ((wr.alloc (boxR p1 (.slice a1 (grp U1).length c1) false (.slice e1 (grp D1).length d1))).alloc (boxR p2 (.slice a2 (grp U2).length c2) false (.slice e2 (grp D2).length d2))) W → Own W wr.heap.size 61 #[.bool p1, .slice a1 (grp U1).length c1, .bool false, .slice e1 (grp D1).length d1] ∧ Own W (wr.heap.size + 1) 61 #[.bool p2, .slice a2 (grp U2).length c2, .bool false, .slice e2 (grp D2).length d2] ∧ Below wr.heap.size wr W) := fun W h => boxes2 wr _ _ _ _ h
    have HNs : Hid (∀ W, Below wr.heap.size wr W → (NatA W (.slice a1 (grp U1).length c1) (grp U1) ∧ NatA W (.slice e1 (grp D1).length d1) (grp D1)) ∧ NatA W (.slice a2 (grp U2).length c2) (grp U2) ∧ NatA W (.slice e2 (grp D2).length d2) (grp D2)) := fun W h => ⟨⟨hN1.below h (Nat.le_refl _), hN2.below h (Nat.le_refl _)⟩, hN3.below h (Nat.le_refl _), hN4.below h (Nat.le_refl _)⟩
    clear hN1 hN2 hN3 hN4
    have HOv : Hid (∀ W, Below wr.heap.size wr W → Calls Tryd.prog 46 #[.agg #[.bool p1, .slice a1 (grp U1).length c1, .bool false, .slice e1 (grp D1).length d1], .agg #[.bool !p2, .slice a2 (grp U2).length c2, .bool false, .slice e2 (grp D2).length d2]] W fun e w' => ∃ a c, e = .returned (.agg #[.bool (sumN p1 (U1 * D2) (!p2) (U2 * D1)), .slice a (grp (sumZ p1 (U1 * D2) (!p2) (U2 * D1))).length c]) ∧ NatA w' (.slice a (grp (sumZ p1 (U1 * D2) (!p2) (U2 * D1))).length c) (grp (sumZ p1 (U1 * D2) (!p2) (U2 * D1))) ∧ Below W.heap.size W w') := fun W h => by
      have hn := HNs.out W h
      have hg := HG.out
      exact sumAbove_any p1 (!p2) U1 D1 U2 D2 _ _ _ _ _ _ _ _ _ _ _ _ W (hn.1.1) (hn.1.2) (hn.2.1) (hn.2.2) (by omega) (by omega) (by omega) (by omega)
    have HSg : Hid (∀ W a l c, NatA W (.slice a l c) (grp (sumZ p1 (U1 * D2) (!p2) (U2 * D1))) → Calls Tryd.prog 53 #[.agg #[.bool (sumN p1 (U1 * D2) (!p2) (U2 * D1)), .slice a l c]] W fun e w' => e = .returned (.int .i64 z) ∧ Below W.heap.size W w') := fun W a l c h => by
      have h2 := intSign_any (sumN p1 (U1 * D2) (!p2) (U2 * D1)) (sumZ p1 (U1 * D2) (!p2) (U2 * D1)) _ W h
      rw [HZ.out] at h2
      exact h2
    have HFn := hid (fun W => ratioOpposite_any p2 false a2 e2 (grp U2).length c2 (grp D2).length d2 W)
    have HL : Hid (∀ W, Below (wr.heap.size + 2) ((wr.alloc (boxR p1 (.slice a1 (grp U1).length c1) false (.slice e1 (grp D1).length d1))).alloc (boxR p2 (.slice a2 (grp U2).length c2) false (.slice e2 (grp D2).length d2))) W → (W.cell? ⟨wr.heap.size, 0, none⟩ = some (.bool p1) ∧ W.cell? ⟨wr.heap.size, 1, none⟩ = some (.slice a1 (grp U1).length c1) ∧ W.cell? ⟨wr.heap.size, 2, none⟩ = some (.bool false) ∧ W.cell? ⟨wr.heap.size, 3, none⟩ = some (.slice e1 (grp D1).length d1)) ∧ W.cell? ⟨wr.heap.size + 1, 0, none⟩ = some (.bool p2) ∧ W.cell? ⟨wr.heap.size + 1, 1, none⟩ = some (.slice a2 (grp U2).length c2) ∧ W.cell? ⟨wr.heap.size + 1, 2, none⟩ = some (.bool false) ∧ W.cell? ⟨wr.heap.size + 1, 3, none⟩ = some (.slice e2 (grp D2).length d2)) := fun W h => ⟨(own4V (HW.out W h).1).1, (own4V (HW.out W h).2.1).1⟩
    generalize sumN p1 (U1 * D2) (!p2) (U2 * D1) = SG at *
    generalize sumZ p1 (U1 * D2) (!p2) (U2 * D1) = ZZ at *
    go_wp2_with fail
    have HB : Hid (Below (wr.heap.size + 2) ((wr.alloc (boxR p1 (.slice a1 (grp U1).length c1) false (.slice e1 (grp D1).length d1))).alloc (boxR p2 (.slice a2 (grp U2).length c2) false (.slice e2 (grp D2).length d2))) ((wr.alloc (boxR p1 (.slice a1 (grp U1).length c1) false (.slice e1 (grp D1).length d1))).alloc (boxR p2 (.slice a2 (grp U2).length c2) false (.slice e2 (grp D2).length d2))).drew) := (Below.refl _ _).drew
    go_region_held3 (fun W => (W.cell? ⟨wr.heap.size, 0, none⟩ = some (.bool p1) ∧ W.cell? ⟨wr.heap.size, 1, none⟩ = some (.slice a1 (grp U1).length c1) ∧ W.cell? ⟨wr.heap.size, 2, none⟩ = some (.bool false) ∧ W.cell? ⟨wr.heap.size, 3, none⟩ = some (.slice e1 (grp D1).length d1)) ∧ W.cell? ⟨wr.heap.size + 1, 0, none⟩ = some (.bool p2) ∧ W.cell? ⟨wr.heap.size + 1, 1, none⟩ = some (.slice a2 (grp U2).length c2) ∧ W.cell? ⟨wr.heap.size + 1, 2, none⟩ = some (.bool false) ∧ W.cell? ⟨wr.heap.size + 1, 3, none⟩ = some (.slice e2 (grp D2).length d2))
      (exact HL.out _ HB.out)
      (first
        | (go_at_call 52
           go_loud (
             refine (HFn.out _).mono ?_
             rintro e w3 ⟨rfl, hw5⟩
             have HB := hid (HB.out.trans (hw5.mono (Nat.le_trans (by simp) HB.out.size)))
             clear hw5))
        | (go_at_call 46
           go_loud (
             refine (HOv.out _ (HW.out _ HB.out).2.2).mono ?_
             rintro e w5 ⟨oa, oc, rfl, hu, hw5⟩
             have HU := hid hu
             have HB := hid (HB.out.trans (hw5.mono (Nat.le_trans (by simp) HB.out.size)))
             clear hw5 hu))
        | (go_at_call 53
           go_loud (
             refine (HSg.out _ _ _ _ HU.out).mono ?_
             rintro e w6 ⟨rfl, hw5⟩
             have HB := hid (HB.out.trans (hw5.mono (Nat.le_trans (by simp) HB.out.size)))
             clear hw5)))
    all_goals
      go_wp2_with fail
      go_ret
      refine ⟨rfl, ?_⟩
      exact HX.out _ (HBr.out.trans ((HW.out _ HB.out).2.2.mono hsr))

def cmpS (n1 : Bool) (X : Nat) (n2 : Bool) (Y : Nat) : Int := if n1 = n2 then (if n1 = true then -(cmpI X Y) else cmpI X Y) else (if n1 = true then -1 else 1)
theorem cmp_same {n1 n2 : Bool} {X Y : Nat} (h1 : n1 = true → X ≠ 0) (h2 : n2 = true → Y ≠ 0) : signI (sumN n1 X (!n2) Y) (sumZ n1 X (!n2) Y) = cmpS n1 X n2 Y := by
  unfold signI sumN sumZ cmpS cmpI
  cases n1 <;> cases n2 <;> simp at h1 h2 ⊢
  · rcases Nat.lt_trichotomy X Y with h | h | h
    · simp [h]; omega
    · subst h; simp
    · have h3 : ¬ X < Y := by omega
      simp [h, h3]; omega
  · omega
  · omega
  · rcases Nat.lt_trichotomy X Y with h | h | h
    · simp [h]; omega
    · subst h; simp
    · have h3 : ¬ X < Y := by omega
      simp [h, h3]; omega

set_option maxRecDepth 20000 in
set_option maxHeartbeats 4000000 in
theorem l13Cmp_any (n1 n2 : Bool) (u1 d1 u2 d2 : Nat) (w : World) (h1 : Lib.nDigits u1 ≤ 60) (h2 : Lib.nDigits d1 ≤ 60) (h3 : Lib.nDigits u2 ≤ 60) (h4 : Lib.nDigits d2 ≤ 60) :
    Calls Tryd.prog 58 #[.agg #[.bool n1, .string (dec u1), .string (dec d1)], .agg #[.bool n2, .string (dec u2), .string (dec d2)]] w fun e w' => e = .returned (.int .i64 (cmpS n1 (u1 * d2) n2 (u2 * d1))) ∧ Below w.heap.size w w' := by
  have HM1 := hid (fun w => l11Mul_any u1 d2 w (by omega) (by omega))
  have HM2 := hid (fun w => l11Mul_any u2 d1 w (by omega) (by omega))
  have HC := hid (fun w => l11Cmp_any (u1 * d2) (u2 * d1) w)
  obtain ⟨c, hc⟩ : ∃ c, cmpI (u1 * d2) (u2 * d1) = c := ⟨_, rfl⟩
  have hcl : -1 ≤ c ∧ c ≤ 1 := by
    rw [← hc]; unfold cmpI
    split
    · decide
    · split <;> decide
  have HCS : Hid (cmpS n1 (u1 * d2) n2 (u2 * d1) = if n1 = n2 then (if n1 = true then -c else c) else (if n1 = true then -1 else 1)) := by show _ = _; unfold cmpS; rw [hc]
  rw [HCS.out]
  rw [hc] at HC
  have hcw : IntKind.i64.wrap (-c) = -c := by simp [IntKind.wrap, IntKind.bits, IntKind.signed]; omega
  clear hc HCS h1 h2 h3 h4
  generalize dec (u1 * d2) = PX at *
  generalize dec (u2 * d1) = PY at *
  generalize dec u1 = T1 at *
  generalize dec d1 = R1 at *
  generalize dec u2 = T2 at *
  generalize dec d2 = R2 at *
  have HB0 : Hid (Below (w.heap.size + 2) ((w.alloc (boxN n1 T1 R1)).alloc (boxN n2 T2 R2)) ((w.alloc (boxN n1 T1 R1)).alloc (boxN n2 T2 R2))) := Below.refl _ _
  have HX : Hid (∀ W, Below (w.heap.size + 2) ((w.alloc (boxN n1 T1 R1)).alloc (boxN n2 T2 R2)) W → Own W w.heap.size 25 #[.bool n1, .string T1, .string R1] ∧ Own W (w.heap.size + 1) 25 #[.bool n2, .string T2, .string R2] ∧ Below w.heap.size w W) := fun W h => boxes2 w _ _ _ _ h
  have HSz : Hid (w.heap.size + 2 ≤ ((w.alloc (boxN n1 T1 R1)).alloc (boxN n2 T2 R2)).heap.size) := by show _ ≤ _; simp
  have HL : Hid (∀ W, Below (w.heap.size + 2) ((w.alloc (boxN n1 T1 R1)).alloc (boxN n2 T2 R2)) W → (W.cell? ⟨w.heap.size, 0, none⟩ = some (.bool n1) ∧ W.cell? ⟨w.heap.size, 1, none⟩ = some (.string T1) ∧ W.cell? ⟨w.heap.size, 2, none⟩ = some (.string R1)) ∧ W.cell? ⟨w.heap.size + 1, 0, none⟩ = some (.bool n2) ∧ W.cell? ⟨w.heap.size + 1, 1, none⟩ = some (.string T2) ∧ W.cell? ⟨w.heap.size + 1, 2, none⟩ = some (.string R2)) := fun W h => ⟨(own3V (HX.out W h).1).1, (own3V (HX.out W h).2.1).1⟩
  by_cases hn : n1 = n2
  · subst hn
    rw [if_pos rfl]
    have hnn : (n1 != n1) = false := by simp
    go_enter Tryd.func58, Tryd.ntmps58
    have hl := HL.out _ HB0.out
    obtain ⟨⟨x0, x1, x2⟩, y0, y1, y2⟩ := hl
    go_wp2_with fail
    clear x0 x1 x2 y0 y1 y2
    have HB := hid HB0.out.drew
    go_region_held3 (fun W => (W.cell? ⟨w.heap.size, 0, none⟩ = some (.bool n1) ∧ W.cell? ⟨w.heap.size, 1, none⟩ = some (.string T1) ∧ W.cell? ⟨w.heap.size, 2, none⟩ = some (.string R1)) ∧ W.cell? ⟨w.heap.size + 1, 0, none⟩ = some (.bool n1) ∧ W.cell? ⟨w.heap.size + 1, 1, none⟩ = some (.string T2) ∧ W.cell? ⟨w.heap.size + 1, 2, none⟩ = some (.string R2))
      (exact HL.out _ HB.out)
      (first
        | (go_at_call_of 68 (Value.string T1)
           go_loud (
             refine (HM1.out _).mono ?_
             rintro e w5 ⟨rfl, hw5⟩
             have HB := hid (HB.out.trans (hw5.mono (Nat.le_trans HSz.out HB.out.size)))
             clear hw5))
        | (go_at_call_of 68 (Value.string T2)
           go_loud (
             refine (HM2.out _).mono ?_
             rintro e w6 ⟨rfl, hw5⟩
             have HB := hid (HB.out.trans (hw5.mono (Nat.le_trans HSz.out HB.out.size)))
             clear hw5))
        | (go_at_call 63
           go_loud (
             refine (HC.out _).mono ?_
             rintro e w7 ⟨rfl, hw⟩
             obtain rfl := hw.symm)))
    have hl := HL.out _ HB.out
    obtain ⟨⟨x0, x1, x2⟩, y0, y1, y2⟩ := hl
    have HBw := hid (HX.out _ HB.out).2.2
    clear HL HX HB HB0
    cases n1
    all_goals
      go_wp2_with fail
      go_ret
      exact ⟨rfl, HBw.out⟩
  · rw [if_neg hn]
    have hn2 : n2 = !n1 := by revert hn; cases n1 <;> cases n2 <;> simp
    subst hn2
    have hl := HL.out _ HB0.out
    obtain ⟨⟨x0, x1, x2⟩, y0, y1, y2⟩ := hl
    clear HL HX HB0 hn
    cases n1
    all_goals
      go_enter Tryd.func58, Tryd.ntmps58
      go_wp2_with fail
      go_ret
      exact ⟨rfl, ((Below.refl _ _).alloc (Nat.le_refl _) _).alloc (by simp) _⟩

set_option maxRecDepth 20000 in
set_option maxHeartbeats 1000000 in
theorem specNumCmp_no (n1 n2 : Bool) (T1 R1 T2 R2 : ByteArray) (w : World) (h1 : T1.size ≤ maxLen) (h2 : R1.size ≤ maxLen) (h3 : T2.size ≤ maxLen) (h4 : R2.size ≤ maxLen) (hno : ¬ (NumP n1 T1 R1 ∧ NumP n2 T2 R2)) :
    Calls Tryd.prog 28 #[.agg #[.bool n1, .string T1, .string R1], .agg #[.bool n2, .string T2, .string R2]] w fun e w' => e = .returned (.int .i64 0) ∧ Below w.heap.size w w' := by
  have HB0 : Hid (Below (w.heap.size + 2) ((w.alloc (boxN n1 T1 R1)).alloc (boxN n2 T2 R2)) ((w.alloc (boxN n1 T1 R1)).alloc (boxN n2 T2 R2))) := Below.refl _ _
  have HX : Hid (∀ W, Below (w.heap.size + 2) ((w.alloc (boxN n1 T1 R1)).alloc (boxN n2 T2 R2)) W → Own W w.heap.size 25 #[.bool n1, .string T1, .string R1] ∧ Own W (w.heap.size + 1) 25 #[.bool n2, .string T2, .string R2] ∧ Below w.heap.size w W) := fun W h => boxes2 w _ _ _ _ h
  have HSz : Hid (w.heap.size + 2 ≤ ((w.alloc (boxN n1 T1 R1)).alloc (boxN n2 T2 R2)).heap.size) := by show _ ≤ _; simp
  by_cases hp : NumP n1 T1 R1
  · have HO1 := hid (fun w => specNumOk_any n1 T1 R1 w h1 h2 true ⟨fun _ => hp, fun _ => rfl⟩)
    have HO2 := hid (fun w => specNumOk_any n2 T2 R2 w h3 h4 false ⟨fun h => (by cases h), fun h => absurd ⟨hp, h⟩ hno⟩)
    clear h1 h2 h3 h4 hno hp
    go_enter Tryd.func28, Tryd.ntmps28
    go_wp2_with fail
    refine (HO1.out _).mono ?_
    rintro e wa ⟨rfl, hwa⟩
    have HBa := hid (HB0.out.trans (hwa.mono HSz.out))
    clear hwa
    obtain ⟨⟨y0, y1, y2⟩, -⟩ := own3V (HX.out _ HBa.out).2.1
    go_wp2_with fail
    refine (HO2.out _).mono ?_
    rintro e wb ⟨rfl, hwb⟩
    have HBb := hid (HBa.out.trans (hwb.mono (Nat.le_trans HSz.out HBa.out.size)))
    clear hwb y0 y1 y2
    go_wp2_with fail
    go_ret
    exact ⟨rfl, (HX.out _ HBb.out).2.2⟩
  · have HO1 := hid (fun w => specNumOk_any n1 T1 R1 w h1 h2 false ⟨fun h => (by cases h), fun h => absurd h hp⟩)
    clear h1 h2 h3 h4 hno hp
    go_enter Tryd.func28, Tryd.ntmps28
    go_wp2_with fail
    refine (HO1.out _).mono ?_
    rintro e wb ⟨rfl, hwb⟩
    have HBb := hid (HB0.out.trans (hwb.mono HSz.out))
    clear hwb
    go_wp2_with fail
    go_ret
    exact ⟨rfl, (HX.out _ HBb.out).2.2⟩

set_option maxRecDepth 20000 in
set_option maxHeartbeats 1000000 in
theorem specNumCmp_yes (n1 n2 : Bool) (u1 d1 u2 d2 : Nat) (w : World) (h1 : (dec u1).size ≤ 60) (h2 : (dec d1).size ≤ 60) (h3 : (dec u2).size ≤ 60) (h4 : (dec d2).size ≤ 60) (ok1 : OkUD n1 u1 d1) (ok2 : OkUD n2 u2 d2) :
    Calls Tryd.prog 28 #[.agg #[.bool n1, .string (dec u1), .string (dec d1)], .agg #[.bool n2, .string (dec u2), .string (dec d2)]] w fun e w' => e = .returned (.int .i64 (cmpS n1 (u1 * d2) n2 (u2 * d1))) ∧ Below w.heap.size w w' := by
  have HO1 := hid (fun w => specNumOk_any n1 (dec u1) (dec d1) w (Nat.le_trans h1 (by decide)) (Nat.le_trans h2 (by decide)) true ⟨fun _ => ⟨u1, d1, rfl, rfl, h1, h2, ok1⟩, fun _ => rfl⟩)
  have HO2 := hid (fun w => specNumOk_any n2 (dec u2) (dec d2) w (Nat.le_trans h3 (by decide)) (Nat.le_trans h4 (by decide)) true ⟨fun _ => ⟨u2, d2, rfl, rfl, h3, h4, ok2⟩, fun _ => rfl⟩)
  rw [dec_size] at h1 h2 h3 h4
  have HC := hid (fun w => l13Cmp_any n1 n2 u1 d1 u2 d2 w h1 h2 h3 h4)
  generalize cmpS n1 (u1 * d2) n2 (u2 * d1) = z at *
  clear h1 h2 h3 h4 ok1 ok2
  generalize dec u1 = T1 at *
  generalize dec d1 = R1 at *
  generalize dec u2 = T2 at *
  generalize dec d2 = R2 at *
  have HB0 : Hid (Below (w.heap.size + 2) ((w.alloc (boxN n1 T1 R1)).alloc (boxN n2 T2 R2)) ((w.alloc (boxN n1 T1 R1)).alloc (boxN n2 T2 R2))) := Below.refl _ _
  have HX : Hid (∀ W, Below (w.heap.size + 2) ((w.alloc (boxN n1 T1 R1)).alloc (boxN n2 T2 R2)) W → Own W w.heap.size 25 #[.bool n1, .string T1, .string R1] ∧ Own W (w.heap.size + 1) 25 #[.bool n2, .string T2, .string R2] ∧ Below w.heap.size w W) := fun W h => boxes2 w _ _ _ _ h
  have HSz : Hid (w.heap.size + 2 ≤ ((w.alloc (boxN n1 T1 R1)).alloc (boxN n2 T2 R2)).heap.size) := by show _ ≤ _; simp
  go_enter Tryd.func28, Tryd.ntmps28
  go_wp2_with fail
  refine (HO1.out _).mono ?_
  rintro e wa ⟨rfl, hwa⟩
  have HBa := hid (HB0.out.trans (hwa.mono HSz.out))
  clear hwa
  obtain ⟨⟨y0, y1, y2⟩, -⟩ := own3V (HX.out _ HBa.out).2.1
  go_wp2_with fail
  refine (HO2.out _).mono ?_
  rintro e wb ⟨rfl, hwb⟩
  have HBb := hid (HBa.out.trans (hwb.mono (Nat.le_trans HSz.out HBa.out.size)))
  clear hwb y0 y1 y2
  obtain ⟨⟨x0, x1, x2⟩, -⟩ := own3V (HX.out _ HBb.out).1
  obtain ⟨⟨y0, y1, y2⟩, -⟩ := own3V (HX.out _ HBb.out).2.1
  go_wp2_with fail
  refine (HC.out _).mono ?_
  rintro e wd ⟨rfl, hwb⟩
  have HBd := hid (HBb.out.trans (hwb.mono (Nat.le_trans HSz.out HBb.out.size)))
  clear hwb x0 x1 x2 y0 y1 y2
  go_wp2_with fail
  go_ret
  exact ⟨rfl, (HX.out _ HBd.out).2.2⟩

theorem numCmp_both (n1 n2 : Bool) (T1 R1 T2 R2 : ByteArray) (h1 : T1.size ≤ maxLen) (h2 : R1.size ≤ maxLen) (h3 : T2.size ≤ maxLen) (h4 : R2.size ≤ maxLen) : ∃ z : Int,
    (∀ w, Calls Tryd.prog 28 #[.agg #[.bool n1, .string T1, .string R1], .agg #[.bool n2, .string T2, .string R2]] w fun e w' => e = .returned (.int .i64 z) ∧ Below w.heap.size w w') ∧
    (∀ w, Pow9 w → Calls Tryd.prog 27 #[.agg #[.bool n1, .string T1, .string R1], .agg #[.bool n2, .string T2, .string R2]] w fun e w' => e = .returned (.int .i64 z) ∧ Below w.heap.size w w') := by
  obtain ⟨b1, p1, U1, D1, o1, c1⟩ := openNum_all n1 T1 R1 h1 h2
  obtain ⟨b2, p2, U2, D2, o2, c2⟩ := openNum_all n2 T2 R2 h3 h4
  have g1 := o1.small
  have g2 := o2.small
  rcases both_parts o1 o2 with ⟨rfl, rfl, rfl, rfl, rfl, rfl, rfl, rfl, s1, s2, s3, s4, k1, k2⟩ | ⟨hb, hno⟩
  · refine ⟨cmpS n1 (U1 * D2) n2 (U2 * D1), fun w => specNumCmp_yes n1 n2 U1 D1 U2 D2 w s1 s2 s3 s4 k1 k2, fun w hP => ?_⟩
    have h := implNumCmp_of n1 n2 _ _ _ _ true true n1 n2 U1 D1 U2 D2 w c1 c2 g1.1 g1.2 g2.1 g2.2 hP
    rw [if_pos (show (true && true) = true from rfl), cmp_same (fun h => Nat.mul_ne_zero (fun e => k1.2.1 ⟨h, e⟩) k2.1) (fun h => Nat.mul_ne_zero (fun e => k2.2.1 ⟨h, e⟩) k1.1)] at h
    exact h
  · refine ⟨0, fun w => specNumCmp_no n1 n2 T1 R1 T2 R2 w h1 h2 h3 h4 hno, fun w hP => ?_⟩
    have h := implNumCmp_of n1 n2 _ _ _ _ b1 b2 p1 p2 U1 D1 U2 D2 w c1 c2 g1.1 g1.2 g2.1 g2.2 hP
    rw [hb, if_neg (by decide)] at h
    exact h

end Go.Proofs.YtbbffhpppacihaaDoor
