/-
  The program's answerOf; openNum at every number. Condition: what is above and below lies in memory; the table of powers stands.
  The program's ratiosOf. Condition: the table of powers stands.
-/
import Derived.Test.YtbbffhpppacihaaDoorPart14
import Derived.Test.YtbbffhpppacihaaDoorPart11
namespace Go.Proofs.YtbbffhpppacihaaDoor
open Go.RowKit Go.Siskin

abbrev noAns (c : Int) : Value := .tuple #[.agg #[.bool false, .string ⟨#[]⟩, .string ⟨#[]⟩], .int .i64 c]
/-- The answer of a sign, above and below: what is not too big, or code 3. -/
def ansQ (neg : Bool) (u d : Nat) : Value :=
  if Lib.nDigits (u / Nat.gcd u d) ≤ 60 ∧ Lib.nDigits (d / Nat.gcd u d) ≤ 60 then .tuple #[.agg #[.bool (neg && !(u / Nat.gcd u d == 0)), .string (dec (u / Nat.gcd u d)), .string (dec (d / Nat.gcd u d))], .int .i64 0] else noAns 3
theorem ansQ_parts (neg : Bool) (u d : Nat) : (∃ (n : Bool) (x y : ByteArray), closedV neg (u / Nat.gcd u d) (d / Nat.gcd u d) = .tuple #[.agg #[.bool n, .string x, .string y], .bool true] ∧ ansQ neg u d = .tuple #[.agg #[.bool n, .string x, .string y], .int .i64 0]) ∨
    (closedV neg (u / Nat.gcd u d) (d / Nat.gcd u d) = .tuple #[.agg #[.bool false, .string ⟨#[]⟩, .string ⟨#[]⟩], .bool false] ∧ ansQ neg u d = noAns 3) := by
  by_cases h : Lib.nDigits (u / Nat.gcd u d) ≤ 60 ∧ Lib.nDigits (d / Nat.gcd u d) ≤ 60
  · exact Or.inl ⟨_, _, _, if_pos h, if_pos h⟩
  · exact Or.inr ⟨if_neg h, if_neg h⟩

set_option maxRecDepth 20000 in
set_option maxHeartbeats 2000000 in
theorem answerOf_any (n m : Bool) (u d : Nat) (a b : Option Addr) (l c k e0 : Nat) (w : World) (hu : NatA w (.slice a l c) (grp u)) (hd : NatA w (.slice b k e0) (grp d)) (hnu : nG u ≤ 1000) (hnd : nG d ≤ 1000) (hd0 : 0 < d) (hP : Pow9 w) :
    Calls Tryd.prog 41 #[.agg #[.bool n, .slice a l c, .bool m, .slice b k e0]] w fun e w' => e = .returned (ansQ (n != m) u d) ∧ Below w.heap.size w w' := by
  obtain ⟨s, hs⟩ : ∃ s, (n != m) = s := ⟨_, rfl⟩
  have hs2 : (!n == m) = s := hs
  rw [hs]
  obtain ⟨W0, HW0⟩ : ∃ W, Hid ((w.alloc (boxR n (.slice a l c) m (.slice b k e0))).alloc (.cells #[.bool false, .string ⟨#[]⟩, .string ⟨#[]⟩] 25) = W) := ⟨_, rfl⟩
  have HX : Hid (∀ W, Below (w.heap.size + 2) W0 W → Own W w.heap.size 61 #[.bool n, .slice a l c, .bool m, .slice b k e0] ∧ Own W (w.heap.size + 1) 25 #[.bool false, .string ⟨#[]⟩, .string ⟨#[]⟩] ∧ Below w.heap.size w W) := fun W h => by
    rw [← HW0.out] at h
    exact boxes2 w _ _ _ _ h
  have HS0 : Hid (w.heap.size + 2 ≤ W0.heap.size) := by show _ ≤ _; rw [← HW0.out]; simp
  have HB0 : Hid (Below (w.heap.size + 2) W0 W0) := Below.refl _ _
  obtain ⟨⟨a0, a1, a2, a3⟩, -⟩ := own4V (HX.out _ HB0.out).1
  obtain ⟨⟨r0, r1, r2⟩, q0, q1, q2⟩ := own3V (HX.out _ HB0.out).2.1
  have HB1 : Hid (Below (w.heap.size + 2) W0 (W0.alloc (.cells #[.bool s, .slice a l c, .slice b k e0] 71))) := HB0.out.alloc HS0.out _
  have hb1 := (HX.out _ HB1.out).2.2
  have HCl := hid (closed_any s u d (.slice a l c) (.slice b k e0) _ (hu.below hb1 (Nat.le_refl _)) (hd.below hb1 (Nat.le_refl _)) hnu hnd hd0 (hP.below hb1 (Nat.le_refl _)))
  have hsz1 : w.heap.size + 2 ≤ (W0.alloc (.cells #[.bool s, .slice a l c, .slice b k e0] 71)).heap.size := HB1.out.size |> Nat.le_trans HS0.out
  have h4 := own_new W0 #[.bool s, .slice a l c, .slice b k e0] 71
  obtain ⟨⟨b0, b1, b2⟩, -⟩ := own3V h4
  have HSz1 := hid hsz1
  rcases ansQ_parts s u d with ⟨ma, mx, my, h1, h2⟩ | ⟨h1, h2⟩
  all_goals
    rw [h2]
    rw [h1] at HCl
    clear h1 h2 hu hd hnu hnd hd0 hP hb1 hs h4 hsz1
    go_enter Tryd.func41, Tryd.ntmps41
    go_wp2_with fail
    rw [HW0.out]
    go_wp2_with fail
    refine HCl.out.mono ?_
    rintro e w3 ⟨rfl, hw3⟩
    have HB3 := hid (HB1.out.trans (hw3.mono HSz1.out))
    clear hw3 a0 a1 a2 a3 b0 b1 b2 r0 r1 r2 q0 q1 q2
    obtain ⟨⟨r0, r1, r2⟩, q0, q1, q2⟩ := own3V (HX.out _ HB3.out).2.1
    have hs3 : w.heap.size + 2 ≤ w3.heap.size := Nat.le_trans HS0.out HB3.out.size
    have hlt3 : w.heap.size + 1 < w3.heap.size := by omega
    go_wp2_with fail
    have hb5 := fun x y z => (((HX.out _ HB3.out).2.2.setCell (p := ⟨w.heap.size + 1, 0, none⟩) (Nat.le_succ _) x).setCell (p := ⟨w.heap.size + 1, 1, none⟩) (Nat.le_succ _) y).setCell (p := ⟨w.heap.size + 1, 2, none⟩) (Nat.le_succ _) z
    first
      | (refine bodyPost_ret (v := .tuple #[.agg #[.bool ma, .string mx, .string my], .int .i64 0]) (by simp [results, Tryd.results41, go_sem, r0, r1, r2, hlt3]) rfl ⟨rfl, ?_⟩
         exact (hb5 _ _ _).alloc (by simp [World.setCell]; omega) _)
      | (refine bodyPost_ret (v := noAns 3) (by simp [results, Tryd.results41, go_sem, r0, r1, r2, hlt3]) rfl ⟨rfl, ?_⟩
         exact (hb5 _ _ _).alloc (by simp [World.setCell]; omega) _)

/-- What a number that comes in is opened to. -/
def OpenP (neg : Bool) (up down : ByteArray) (b p : Bool) (U D : Nat) : Prop :=
  (b = true ∧ p = neg ∧ up = dec U ∧ down = dec D ∧ up.size ≤ 60 ∧ down.size ≤ 60 ∧ OkUD neg U D) ∨ (b = false ∧ ¬ NumP neg up down ∧ p = false ∧ U = 0 ∧ D = 0)
theorem OpenP.small {neg : Bool} {up down : ByteArray} {b p : Bool} {U D : Nat} (h : OpenP neg up down b p U D) : nG U ≤ 60 ∧ nG D ≤ 60 := by
  rcases h with ⟨-, -, e1, e2, h1, h2, -⟩ | ⟨-, -, -, rfl, rfl⟩
  · rw [e1, dec_size] at h1
    rw [e2, dec_size] at h2
    unfold nG
    constructor <;> split <;> omega
  · exact ⟨Nat.zero_le _, Nat.zero_le _⟩
theorem openNum_all (neg : Bool) (up down : ByteArray) (hu : up.size ≤ maxLen) (hd : down.size ≤ maxLen) : ∃ b p U D, OpenP neg up down b p U D ∧
    ∀ w, Pow9 w → Calls Tryd.prog 49 #[.agg #[.bool neg, .string up, .string down]] w fun e w' => ∃ ua uc da dc, e = .returned (.tuple #[.agg #[.bool p, .slice ua (grp U).length uc, .slice da (grp D).length dc], .bool b]) ∧ NatA w' (.slice ua (grp U).length uc) (grp U) ∧ NatA w' (.slice da (grp D).length dc) (grp D) ∧ Below w.heap.size w w' := by
  by_cases h : NumP neg up down
  · obtain ⟨u, d, rfl, rfl, su, sd, hok⟩ := h
    refine ⟨true, neg, u, d, Or.inl ⟨rfl, rfl, rfl, rfl, su, sd, hok⟩, fun w hP => ?_⟩
    rw [dec_size] at su sd
    refine (openNum_dec neg u d w su sd hP).mono ?_
    rintro e w' ⟨F, b, rfl, hb, h | h⟩
    · obtain ⟨rfl, -, vu, vd, rfl, h1, h2⟩ := h
      obtain ⟨ua, uc, rfl⟩ := natA_formR h1
      obtain ⟨da, dc, rfl⟩ := natA_formR h2
      exact ⟨ua, uc, da, dc, rfl, h1, h2, hb⟩
    · exact absurd hok h.2.1
  · refine ⟨false, false, 0, 0, Or.inr ⟨rfl, h, rfl, rfl, rfl⟩, fun w hP => ?_⟩
    by_cases ht : (DecP up ∧ up.size ≤ 60) ∧ (DecP down ∧ down.size ≤ 60)
    · obtain ⟨⟨hu1, su⟩, hd1, sd⟩ := ht
      obtain ⟨u, rfl⟩ := (decP_iff up).1 hu1
      obtain ⟨d, rfl⟩ := (decP_iff down).1 hd1
      have su' := su
      have sd' := sd
      rw [dec_size] at su' sd'
      refine (openNum_dec neg u d w su' sd' hP).mono ?_
      rintro e w' ⟨F, b, rfl, hb, h2 | h2⟩
      · exact absurd ⟨u, d, rfl, rfl, su, sd, h2.2.1⟩ h
      · obtain ⟨rfl, -, rfl⟩ := h2
        exact ⟨none, 0, none, 0, rfl, NatA.nil, NatA.nil, hb⟩
    · refine (openNum_text neg up down w hu hd ht).mono ?_
      rintro e w' ⟨rfl, hb⟩
      exact ⟨none, 0, none, 0, rfl, NatA.nil, NatA.nil, hb⟩
end Go.Proofs.YtbbffhpppacihaaDoor

namespace Go.Proofs.YtbbffhpppacihaaDoor
open Go.RowKit Go.Siskin

/-- Four boxes of a call's own. -/
theorem boxes4 (w : World) (c1 c2 c3 c4 : Array Value) (t1 t2 t3 t4 : TypeId) {W : World} (h : Below (w.heap.size + 4) ((((w.alloc (.cells c1 t1)).alloc (.cells c2 t2)).alloc (.cells c3 t3)).alloc (.cells c4 t4)) W) :
    (Own W w.heap.size t1 c1 ∧ Own W (w.heap.size + 1) t2 c2) ∧ Own W (w.heap.size + 1 + 1) t3 c3 ∧ Own W (w.heap.size + 1 + 1 + 1) t4 c4 ∧ Below w.heap.size w W := by
  have hb : Below (w.heap.size + 3) (((w.alloc (.cells c1 t1)).alloc (.cells c2 t2)).alloc (.cells c3 t3)) W := ((Below.refl (w.heap.size + 3) _).alloc (by simp) _).trans (h.mono (by omega))
  obtain ⟨h1, h2, h3, h5⟩ := boxes3 w c1 c2 c3 t1 t2 t3 hb
  have h4 := own_new (((w.alloc (.cells c1 t1)).alloc (.cells c2 t2)).alloc (.cells c3 t3)) c4 t4
  rw [World.size_alloc, World.size_alloc, World.size_alloc] at h4
  exact ⟨⟨h1, h2⟩, h3, h4.keep h (by omega), h5⟩
/-- What stands behind two fractions that are laid there. -/
theorem frac_keep {w wa wb : World} {B : Nat} {c1 c2 : Array Value} (hb1 : Below B w wa) (hb2 : Below (wa.heap.size + 1) (wa.alloc (.cells c1 71)) wb) (hB : B ≤ wa.heap.size) {W : World} (h : Below (wb.heap.size + 1) (wb.alloc (.cells c2 71)) W) :
    Own W wa.heap.size 71 c1 ∧ Own W wb.heap.size 71 c2 ∧ Below B w W := by
  have hs := hb2.size
  rw [World.size_alloc] at hs
  have h1 : Own wb wa.heap.size 71 c1 := (own_new wa c1 71).keep hb2 (Nat.lt_succ_self _)
  have h2 := own_new wb c2 71
  have h1' : Own (wb.alloc (.cells c2 71)) wa.heap.size 71 c1 := (Below.heap_alloc _ _ _ (by omega)).trans h1
  refine ⟨h1'.keep h (by omega), h2.keep h (Nat.lt_succ_self _), ?_⟩
  exact ((hb1.alloc hB _).trans (hb2.mono (by omega))).trans (((Below.refl wb.heap.size wb).alloc (Nat.le_refl _) _).trans (h.mono (by omega)) |>.mono (by omega))

set_option maxRecDepth 20000 in
set_option maxHeartbeats 4000000 in
theorem ratiosOf_any (n1 n2 : Bool) (u1 v1 u2 v2 : ByteArray) (b1 b2 p1 p2 : Bool) (U1 D1 U2 D2 : Nat) (w : World)
    (h1 : ∀ w, Pow9 w → Calls Tryd.prog 49 #[.agg #[.bool n1, .string u1, .string v1]] w fun e w' => ∃ ua uc da dc, e = .returned (.tuple #[.agg #[.bool p1, .slice ua (grp U1).length uc, .slice da (grp D1).length dc], .bool b1]) ∧ NatA w' (.slice ua (grp U1).length uc) (grp U1) ∧ NatA w' (.slice da (grp D1).length dc) (grp D1) ∧ Below w.heap.size w w')
    (h2 : ∀ w, Pow9 w → Calls Tryd.prog 49 #[.agg #[.bool n2, .string u2, .string v2]] w fun e w' => ∃ ua uc da dc, e = .returned (.tuple #[.agg #[.bool p2, .slice ua (grp U2).length uc, .slice da (grp D2).length dc], .bool b2]) ∧ NatA w' (.slice ua (grp U2).length uc) (grp U2) ∧ NatA w' (.slice da (grp D2).length dc) (grp D2) ∧ Below w.heap.size w w')
    (hP : Pow9 w) :
    Calls Tryd.prog 44 #[.agg #[.bool n1, .string u1, .string v1], .agg #[.bool n2, .string u2, .string v2]] w fun e w' => ∃ a1 c1 e1 d1 a2 c2 e2 d2, e = .returned (.tuple #[.agg #[.bool p1, .slice a1 (grp U1).length c1, .bool false, .slice e1 (grp D1).length d1], .agg #[.bool p2, .slice a2 (grp U2).length c2, .bool false, .slice e2 (grp D2).length d2], .bool (b1 && b2)]) ∧
      NatA w' (.slice a1 (grp U1).length c1) (grp U1) ∧ NatA w' (.slice e1 (grp D1).length d1) (grp D1) ∧ NatA w' (.slice a2 (grp U2).length c2) (grp U2) ∧ NatA w' (.slice e2 (grp D2).length d2) (grp D2) ∧ Below w.heap.size w w' := by
  have HO1 := hid h1
  have HO2 := hid h2
  have HPw := hid hP
  have HRo := hid (fun n a b l c k d w => ratioOf_any n a b l c k d w)
  obtain ⟨W0, HW0⟩ : ∃ W, Hid ((((w.alloc (boxN n1 u1 v1)).alloc (boxN n2 u2 v2)).alloc (boxR false (.slice none 0 0) false (.slice none 0 0))).alloc (boxR false (.slice none 0 0) false (.slice none 0 0)) = W) := ⟨_, rfl⟩
  have HX : Hid (∀ W, Below (w.heap.size + 4) W0 W → (Own W w.heap.size 25 #[.bool n1, .string u1, .string v1] ∧ Own W (w.heap.size + 1) 25 #[.bool n2, .string u2, .string v2]) ∧ Own W (w.heap.size + 1 + 1) 61 #[.bool false, .slice none 0 0, .bool false, .slice none 0 0] ∧ Own W (w.heap.size + 1 + 1 + 1) 61 #[.bool false, .slice none 0 0, .bool false, .slice none 0 0] ∧ Below w.heap.size w W) := fun W h => by
    rw [← HW0.out] at h
    exact boxes4 w _ _ _ _ _ _ _ _ h
  have HS0 : Hid (w.heap.size + 4 ≤ W0.heap.size) := by show _ ≤ _; rw [← HW0.out]; simp
  have HB0 : Hid (Below (w.heap.size + 4) W0 W0) := Below.refl _ _
  obtain ⟨⟨x0, x1, x2⟩, -⟩ := own3V (HX.out _ HB0.out).1.1
  generalize (grp U1).length = l1 at *
  generalize (grp D1).length = k1 at *
  generalize (grp U2).length = l2 at *
  generalize (grp D2).length = k2 at *
  clear h1 h2 hP
  go_enter Tryd.func44, Tryd.ntmps44
  go_wp2_with fail
  rw [HW0.out]
  go_wp2_with fail
  refine (HO1.out _ (HPw.out.below (HX.out _ HB0.out).2.2.2 (Nat.le_refl _))).mono ?_
  rintro e wa ⟨a1, c1, e1, d1, rfl, ha, hd, hw1⟩
  have HA1 := hid ha
  have HD1 := hid hd
  have HBa := hid (HB0.out.trans (hw1.mono HS0.out))
  have hsa : w.heap.size + 4 ≤ wa.heap.size := Nat.le_trans HS0.out HBa.out.size
  clear ha hd hw1 x0 x1 x2
  have HBa2 := hid (HBa.out.alloc hsa (.cells #[.bool p1, .slice a1 l1 c1, .slice e1 k1 d1] 71))
  obtain ⟨⟨x0, x1, x2⟩, -⟩ := own3V (HX.out _ HBa2.out).1.2
  go_wp2_with fail
  refine (HO2.out _ (HPw.out.below (HX.out _ HBa2.out).2.2.2 (Nat.le_refl _))).mono ?_
  rintro e wb ⟨a2, c2, e2, d2, rfl, ha, hd, hw1⟩
  have HA2 := hid ha
  have HD2 := hid hd
  have HBb : Hid (Below (wa.heap.size + 1) (wa.alloc (.cells #[.bool p1, .slice a1 l1 c1, .slice e1 k1 d1] 71)) wb) := by
    rw [World.size_alloc] at hw1; exact hw1
  have hsb : wa.heap.size + 1 ≤ wb.heap.size := by have := HBb.out.size; rw [World.size_alloc] at this; exact this
  clear ha hd hw1 x0 x1 x2
  obtain ⟨W1, HW1⟩ : ∃ W, Hid (wb.alloc (.cells #[.bool p2, .slice a2 l2 c2, .slice e2 k2 d2] 71) = W) := ⟨_, rfl⟩
  have HY : Hid (∀ W, Below (wb.heap.size + 1) W1 W → Own W wa.heap.size 71 #[.bool p1, .slice a1 l1 c1, .slice e1 k1 d1] ∧ Own W wb.heap.size 71 #[.bool p2, .slice a2 l2 c2, .slice e2 k2 d2] ∧ Below (w.heap.size + 4) W0 W) := fun W h => by
    rw [← HW1.out] at h
    exact frac_keep HBa.out HBb.out hsa h
  have HNs : Hid (∀ W, Below (wb.heap.size + 1) W1 W → (NatA W (.slice a1 l1 c1) (grp U1) ∧ NatA W (.slice e1 k1 d1) (grp D1)) ∧ NatA W (.slice a2 l2 c2) (grp U2) ∧ NatA W (.slice e2 k2 d2) (grp D2)) := fun W h => by
    rw [← HW1.out] at h
    have hbw : Below wb.heap.size wb W := ((Below.refl _ _).alloc (Nat.le_refl _) _).trans (h.mono (by omega))
    have hba : Below wa.heap.size wa W := (((Below.refl wa.heap.size wa).alloc (Nat.le_refl _) _).trans (HBb.out.mono (by omega))).trans (hbw.mono (by omega))
    exact ⟨⟨HA1.out.below hba (Nat.le_refl _), HD1.out.below hba (Nat.le_refl _)⟩, HA2.out.below hbw (Nat.le_refl _), HD2.out.below hbw (Nat.le_refl _)⟩
  have HS1 : Hid (wb.heap.size + 1 ≤ W1.heap.size) := by show _ ≤ _; rw [← HW1.out]; simp
  have HSt4 : Hid (∀ W, Below (wb.heap.size + 1) W1 W → ∀ x y z t : Value, (((((W.setCell ⟨w.heap.size + 1 + 1, 0, none⟩ x).setCell ⟨w.heap.size + 1 + 1, 1, none⟩ y).setCell ⟨w.heap.size + 1 + 1, 2, none⟩ z).setCell ⟨w.heap.size + 1 + 1, 3, none⟩ t).cell? ⟨wa.heap.size, 0, none⟩ = some (.bool p1) ∧ ((((W.setCell ⟨w.heap.size + 1 + 1, 0, none⟩ x).setCell ⟨w.heap.size + 1 + 1, 1, none⟩ y).setCell ⟨w.heap.size + 1 + 1, 2, none⟩ z).setCell ⟨w.heap.size + 1 + 1, 3, none⟩ t).cell? ⟨wa.heap.size, 1, none⟩ = some (.slice a1 l1 c1) ∧ ((((W.setCell ⟨w.heap.size + 1 + 1, 0, none⟩ x).setCell ⟨w.heap.size + 1 + 1, 1, none⟩ y).setCell ⟨w.heap.size + 1 + 1, 2, none⟩ z).setCell ⟨w.heap.size + 1 + 1, 3, none⟩ t).cell? ⟨wa.heap.size, 2, none⟩ = some (.slice e1 k1 d1)) ∧ ((((W.setCell ⟨w.heap.size + 1 + 1, 0, none⟩ x).setCell ⟨w.heap.size + 1 + 1, 1, none⟩ y).setCell ⟨w.heap.size + 1 + 1, 2, none⟩ z).setCell ⟨w.heap.size + 1 + 1, 3, none⟩ t).cell? ⟨wb.heap.size, 0, none⟩ = some (.bool p2) ∧ ((((W.setCell ⟨w.heap.size + 1 + 1, 0, none⟩ x).setCell ⟨w.heap.size + 1 + 1, 1, none⟩ y).setCell ⟨w.heap.size + 1 + 1, 2, none⟩ z).setCell ⟨w.heap.size + 1 + 1, 3, none⟩ t).cell? ⟨wb.heap.size, 1, none⟩ = some (.slice a2 l2 c2) ∧ ((((W.setCell ⟨w.heap.size + 1 + 1, 0, none⟩ x).setCell ⟨w.heap.size + 1 + 1, 1, none⟩ y).setCell ⟨w.heap.size + 1 + 1, 2, none⟩ z).setCell ⟨w.heap.size + 1 + 1, 3, none⟩ t).cell? ⟨wb.heap.size, 2, none⟩ = some (.slice e2 k2 d2)) := fun W h x y z t => by
    have h0 := HY.out W h
    exact ⟨(own3V (own_set4 h0.1 (by omega) x y z t)).1, (own3V (own_set4 h0.2.1 (by omega) x y z t)).1⟩
  have HSt8 : Hid (∀ W, Below (wb.heap.size + 1) W1 W → ∀ x y z t x' y' z' t' : Value, (((((((((W.setCell ⟨w.heap.size + 1 + 1, 0, none⟩ x).setCell ⟨w.heap.size + 1 + 1, 1, none⟩ y).setCell ⟨w.heap.size + 1 + 1, 2, none⟩ z).setCell ⟨w.heap.size + 1 + 1, 3, none⟩ t).setCell ⟨w.heap.size + 1 + 1 + 1, 0, none⟩ x').setCell ⟨w.heap.size + 1 + 1 + 1, 1, none⟩ y').setCell ⟨w.heap.size + 1 + 1 + 1, 2, none⟩ z').setCell ⟨w.heap.size + 1 + 1 + 1, 3, none⟩ t').cell? ⟨wa.heap.size, 0, none⟩ = some (.bool p1) ∧ ((((((((W.setCell ⟨w.heap.size + 1 + 1, 0, none⟩ x).setCell ⟨w.heap.size + 1 + 1, 1, none⟩ y).setCell ⟨w.heap.size + 1 + 1, 2, none⟩ z).setCell ⟨w.heap.size + 1 + 1, 3, none⟩ t).setCell ⟨w.heap.size + 1 + 1 + 1, 0, none⟩ x').setCell ⟨w.heap.size + 1 + 1 + 1, 1, none⟩ y').setCell ⟨w.heap.size + 1 + 1 + 1, 2, none⟩ z').setCell ⟨w.heap.size + 1 + 1 + 1, 3, none⟩ t').cell? ⟨wa.heap.size, 1, none⟩ = some (.slice a1 l1 c1) ∧ ((((((((W.setCell ⟨w.heap.size + 1 + 1, 0, none⟩ x).setCell ⟨w.heap.size + 1 + 1, 1, none⟩ y).setCell ⟨w.heap.size + 1 + 1, 2, none⟩ z).setCell ⟨w.heap.size + 1 + 1, 3, none⟩ t).setCell ⟨w.heap.size + 1 + 1 + 1, 0, none⟩ x').setCell ⟨w.heap.size + 1 + 1 + 1, 1, none⟩ y').setCell ⟨w.heap.size + 1 + 1 + 1, 2, none⟩ z').setCell ⟨w.heap.size + 1 + 1 + 1, 3, none⟩ t').cell? ⟨wa.heap.size, 2, none⟩ = some (.slice e1 k1 d1)) ∧ ((((((((W.setCell ⟨w.heap.size + 1 + 1, 0, none⟩ x).setCell ⟨w.heap.size + 1 + 1, 1, none⟩ y).setCell ⟨w.heap.size + 1 + 1, 2, none⟩ z).setCell ⟨w.heap.size + 1 + 1, 3, none⟩ t).setCell ⟨w.heap.size + 1 + 1 + 1, 0, none⟩ x').setCell ⟨w.heap.size + 1 + 1 + 1, 1, none⟩ y').setCell ⟨w.heap.size + 1 + 1 + 1, 2, none⟩ z').setCell ⟨w.heap.size + 1 + 1 + 1, 3, none⟩ t').cell? ⟨wb.heap.size, 0, none⟩ = some (.bool p2) ∧ ((((((((W.setCell ⟨w.heap.size + 1 + 1, 0, none⟩ x).setCell ⟨w.heap.size + 1 + 1, 1, none⟩ y).setCell ⟨w.heap.size + 1 + 1, 2, none⟩ z).setCell ⟨w.heap.size + 1 + 1, 3, none⟩ t).setCell ⟨w.heap.size + 1 + 1 + 1, 0, none⟩ x').setCell ⟨w.heap.size + 1 + 1 + 1, 1, none⟩ y').setCell ⟨w.heap.size + 1 + 1 + 1, 2, none⟩ z').setCell ⟨w.heap.size + 1 + 1 + 1, 3, none⟩ t').cell? ⟨wb.heap.size, 1, none⟩ = some (.slice a2 l2 c2) ∧ ((((((((W.setCell ⟨w.heap.size + 1 + 1, 0, none⟩ x).setCell ⟨w.heap.size + 1 + 1, 1, none⟩ y).setCell ⟨w.heap.size + 1 + 1, 2, none⟩ z).setCell ⟨w.heap.size + 1 + 1, 3, none⟩ t).setCell ⟨w.heap.size + 1 + 1 + 1, 0, none⟩ x').setCell ⟨w.heap.size + 1 + 1 + 1, 1, none⟩ y').setCell ⟨w.heap.size + 1 + 1 + 1, 2, none⟩ z').setCell ⟨w.heap.size + 1 + 1 + 1, 3, none⟩ t').cell? ⟨wb.heap.size, 2, none⟩ = some (.slice e2 k2 d2)) := fun W h x y z t x' y' z' t' => by
    have h0 := HY.out W h
    exact ⟨(own3V (own_set4 (own_set4 h0.1 (by omega) x y z t) (by omega) x' y' z' t')).1, (own3V (own_set4 (own_set4 h0.2.1 (by omega) x y z t) (by omega) x' y' z' t')).1⟩
  have hsx : w.heap.size + 1 + 1 < wa.heap.size := by omega
  have HL : Hid (∀ W, Below (wb.heap.size + 1) W1 W → (W.cell? ⟨wa.heap.size, 0, none⟩ = some (.bool p1) ∧ W.cell? ⟨wa.heap.size, 1, none⟩ = some (.slice a1 l1 c1) ∧ W.cell? ⟨wa.heap.size, 2, none⟩ = some (.slice e1 k1 d1)) ∧ W.cell? ⟨wb.heap.size, 0, none⟩ = some (.bool p2) ∧ W.cell? ⟨wb.heap.size, 1, none⟩ = some (.slice a2 l2 c2) ∧ W.cell? ⟨wb.heap.size, 2, none⟩ = some (.slice e2 k2 d2)) := fun W h => ⟨(own3V (HY.out W h).1).1, (own3V (HY.out W h).2.1).1⟩
  cases b1
  · go_wp2_with fail
    rw [HW1.out]
    have HB : Hid (Below (wb.heap.size + 1) W1 W1.drew) := (Below.refl _ _).drew
    have L0 := hid (HL.out _ HB.out)
    refine wp_region_held_drew (S := fun W => (W.cell? ⟨wa.heap.size, 0, none⟩ = some (.bool p1) ∧ W.cell? ⟨wa.heap.size, 1, none⟩ = some (.slice a1 l1 c1) ∧ W.cell? ⟨wa.heap.size, 2, none⟩ = some (.slice e1 k1 d1)) ∧ W.cell? ⟨wb.heap.size, 0, none⟩ = some (.bool p2) ∧ W.cell? ⟨wb.heap.size, 1, none⟩ = some (.slice a2 l2 c2) ∧ W.cell? ⟨wb.heap.size, 2, none⟩ = some (.slice e2 k2 d2)) rfl L0.out (fun _ => ?_)
    refine wpAnyH_take (i := 0) (oi := ({ dst := some 21, op := _, type := _, pos := _, after := _, guard := _ } : Oper)) (v := (.agg #[.bool p1, .slice a1 l1 c1, .slice e1 k1 d1])) rfl (by kernel_rfl) (by kernel_rfl) (by kernel_rfl) (fun _ _ _ h => h) (Or.inl ⟨by rfl, ?_⟩) L0.out ?_
    · intro w hSw; (try dsimp only at hSw); go_simp
    try simp only [Act.put, List.setIfInBounds_toArray, List.set_cons_zero, List.set_cons_succ]
    refine wpAnyH_take (i := 2) (oi := ({ dst := some 23, op := _, type := _, pos := _, after := _, guard := _ } : Oper)) (v := (.agg #[.bool p2, .slice a2 l2 c2, .slice e2 k2 d2])) rfl (by kernel_rfl) (by kernel_rfl) (by kernel_rfl) (fun _ _ _ h => h) (Or.inl ⟨by rfl, ?_⟩) L0.out ?_
    · intro w hSw; (try dsimp only at hSw); go_simp
    try simp only [Act.put, List.setIfInBounds_toArray, List.set_cons_zero, List.set_cons_succ]
    refine wpAnyH_take (i := 4) (oi := ({ dst := some 25, op := _, type := _, pos := _, after := _, guard := _ } : Oper)) (v := (.bool false)) rfl (by kernel_rfl) (by kernel_rfl) (by kernel_rfl) (fun _ _ _ h => h) (Or.inl ⟨by rfl, ?_⟩) L0.out ?_
    · intro w hSw; (try dsimp only at hSw); go_simp
    try simp only [Act.put, List.setIfInBounds_toArray, List.set_cons_zero, List.set_cons_succ]
    refine wpAnyH_ready (rs := [1]) (by kernel_rfl) (by simp) ?_
    refine AllReadyH.cons (o := ({ dst := some 22, op := _, type := _, pos := _, after := _, guard := _ } : Oper)) rfl (fun K hK => ?_) AllReadyH.nil
    go_simp
    go_at_call 69
    refine (HRo.out _ _ _ _ _ _ _ _).mono ?_
    rintro e w5 ⟨rfl, hw5⟩
    have HB := hid (HB.out.trans (hw5.mono (Nat.le_trans HS1.out HB.out.size)))
    have L1 := hid (HL.out _ HB.out)
    clear hw5
    go_wp2_with fail
    refine hK.out _ _ L1.out (fun _ => ?_)
    clear hK K
    try simp only [Act.put, List.setIfInBounds_toArray, List.set_cons_zero, List.set_cons_succ]
    refine wpAnyH_ready (rs := [3]) (by kernel_rfl) (by simp) ?_
    refine AllReadyH.cons (o := ({ dst := some 24, op := _, type := _, pos := _, after := _, guard := _ } : Oper)) rfl (fun K hK => ?_) AllReadyH.nil
    go_simp
    go_at_call 69
    refine (HRo.out _ _ _ _ _ _ _ _).mono ?_
    rintro e w6 ⟨rfl, hw5⟩
    have HB := hid (HB.out.trans (hw5.mono (Nat.le_trans HS1.out HB.out.size)))
    have L2 := hid (HL.out _ HB.out)
    clear hw5
    go_wp2_with fail
    refine hK.out _ _ L2.out (fun _ => ?_)
    clear hK K
    try simp only [Act.put, List.setIfInBounds_toArray, List.set_cons_zero, List.set_cons_succ]
    refine wpAnyH_take (i := 5) (oi := ({ dst := some 26, op := _, type := _, pos := _, after := _, guard := _ } : Oper)) (v := (.bool false)) rfl (by kernel_rfl) (by kernel_rfl) (by kernel_rfl) (fun _ _ _ h => h) (Or.inl ⟨by rfl, ?_⟩) L2.out ?_
    · intro w hSw; (try dsimp only at hSw); go_simp
    try simp only [Act.put, List.setIfInBounds_toArray, List.set_cons_zero, List.set_cons_succ]
    refine wpAnyH_take (i := 6) (oi := ({ dst := some 27, op := _, type := _, pos := _, after := _, guard := _ } : Oper)) (v := undef) rfl (by kernel_rfl) (by kernel_rfl) (by kernel_rfl) (fun _ _ _ h => h) (Or.inr ⟨by rfl, rfl⟩) L2.out ?_
    try simp only [Act.put, List.setIfInBounds_toArray, List.set_cons_zero, List.set_cons_succ]
    refine wpAnyH_take (i := 7) (oi := ({ dst := some 28, op := _, type := _, pos := _, after := _, guard := _ } : Oper)) (v := (.bool false)) rfl (by kernel_rfl) (by kernel_rfl) (by kernel_rfl) (fun _ _ _ h => h) (Or.inl ⟨by rfl, ?_⟩) L2.out ?_
    · intro w hSw; (try dsimp only at hSw); go_simp
    try simp only [Act.put, List.setIfInBounds_toArray, List.set_cons_zero, List.set_cons_succ]
    have HXW := hid (HX.out _ (HY.out _ HB.out).2.2)
    obtain ⟨⟨r0, r1, r2, r3⟩, q0, q1, q2, q3⟩ := own4V HXW.out.2.1
    obtain ⟨⟨s0, s1, s2, s3⟩, z0, z1, z2, z3⟩ := own4V HXW.out.2.2.1
    have L3 := hid (HSt4.out w6 HB.out (.bool p1) (.slice a1 l1 c1) (.bool false) (.slice e1 k1 d1))
    have L4 := hid (HSt8.out w6 HB.out (.bool p1) (.slice a1 l1 c1) (.bool false) (.slice e1 k1 d1) (.bool p2) (.slice a2 l2 c2) (.bool false) (.slice e2 k2 d2))
    refine wpAnyH_ready (rs := [8]) (by kernel_rfl) (by simp) ?_
    refine AllReadyH.cons (o := ({ dst := none, op := _, type := _, pos := _, after := _, guard := _ } : Oper)) rfl (fun K hK => ?_) AllReadyH.nil
    go_simp
    refine hK.out _ _ L3.out (fun _ => ?_)
    clear hK K
    try simp only [Act.put, List.setIfInBounds_toArray, List.set_cons_zero, List.set_cons_succ]
    refine wpAnyH_ready (rs := [9]) (by kernel_rfl) (by simp) ?_
    refine AllReadyH.cons (o := ({ dst := none, op := _, type := _, pos := _, after := _, guard := _ } : Oper)) rfl (fun K hK => ?_) AllReadyH.nil
    go_simp
    refine hK.out _ _ L4.out (fun _ => ?_)
    clear hK K
    try simp only [Act.put, List.setIfInBounds_toArray, List.set_cons_zero, List.set_cons_succ]
    refine wpAnyH_take (i := 10) (oi := ({ dst := some 6, op := _, type := _, pos := _, after := _, guard := _ } : Oper)) (v := (.bool false)) rfl (by kernel_rfl) (by kernel_rfl) (by kernel_rfl) (fun _ _ _ h => h) (Or.inl ⟨by rfl, ?_⟩) L4.out ?_
    · intro w hSw; (try dsimp only at hSw); go_simp
    try simp only [Act.put, List.setIfInBounds_toArray, List.set_cons_zero, List.set_cons_succ]
    refine wpAnyH_done (by kernel_rfl) ?_ _
    go_wp2_with fail
    refine bodyPost_ret (v := .tuple #[.agg #[.bool p1, .slice a1 l1 c1, .bool false, .slice e1 k1 d1], .agg #[.bool p2, .slice a2 l2 c2, .bool false, .slice e2 k2 d2], .bool false]) (by simp [results, Tryd.results44, go_sem, r0, r1, r2, r3, s0, s1, s2, s3]) rfl ⟨a1, c1, e1, d1, a2, c2, e2, d2, rfl, ?_⟩
    have hN := HNs.out _ HB.out
    have o1 := HXW.out.2.1
    have o2 := HXW.out.2.2.1
    refine ⟨?_, ?_, ?_, ?_, ?_⟩
    · exact natA_set4 (natA_set4 hN.1.1 o1 _ _ _ _) (own_set4 o2 (by omega) _ _ _ _) _ _ _ _
    · exact natA_set4 (natA_set4 hN.1.2 o1 _ _ _ _) (own_set4 o2 (by omega) _ _ _ _) _ _ _ _
    · exact natA_set4 (natA_set4 hN.2.1 o1 _ _ _ _) (own_set4 o2 (by omega) _ _ _ _) _ _ _ _
    · exact natA_set4 (natA_set4 hN.2.2 o1 _ _ _ _) (own_set4 o2 (by omega) _ _ _ _) _ _ _ _
    · exact below_set4 (below_set4 HXW.out.2.2.2 (by omega) _ _ _ _) (by omega) _ _ _ _
  · go_wp2_with fail
    rw [HW1.out]
    have HB : Hid (Below (wb.heap.size + 1) W1 W1.drew) := (Below.refl _ _).drew
    have L0 := hid (HL.out _ HB.out)
    refine wp_region_held_drew (S := fun W => (W.cell? ⟨wa.heap.size, 0, none⟩ = some (.bool p1) ∧ W.cell? ⟨wa.heap.size, 1, none⟩ = some (.slice a1 l1 c1) ∧ W.cell? ⟨wa.heap.size, 2, none⟩ = some (.slice e1 k1 d1)) ∧ W.cell? ⟨wb.heap.size, 0, none⟩ = some (.bool p2) ∧ W.cell? ⟨wb.heap.size, 1, none⟩ = some (.slice a2 l2 c2) ∧ W.cell? ⟨wb.heap.size, 2, none⟩ = some (.slice e2 k2 d2)) rfl L0.out (fun _ => ?_)
    refine wpAnyH_take (i := 0) (oi := ({ dst := some 21, op := _, type := _, pos := _, after := _, guard := _ } : Oper)) (v := (.agg #[.bool p1, .slice a1 l1 c1, .slice e1 k1 d1])) rfl (by kernel_rfl) (by kernel_rfl) (by kernel_rfl) (fun _ _ _ h => h) (Or.inl ⟨by rfl, ?_⟩) L0.out ?_
    · intro w hSw; (try dsimp only at hSw); go_simp
    try simp only [Act.put, List.setIfInBounds_toArray, List.set_cons_zero, List.set_cons_succ]
    refine wpAnyH_take (i := 2) (oi := ({ dst := some 23, op := _, type := _, pos := _, after := _, guard := _ } : Oper)) (v := (.agg #[.bool p2, .slice a2 l2 c2, .slice e2 k2 d2])) rfl (by kernel_rfl) (by kernel_rfl) (by kernel_rfl) (fun _ _ _ h => h) (Or.inl ⟨by rfl, ?_⟩) L0.out ?_
    · intro w hSw; (try dsimp only at hSw); go_simp
    try simp only [Act.put, List.setIfInBounds_toArray, List.set_cons_zero, List.set_cons_succ]
    refine wpAnyH_take (i := 4) (oi := ({ dst := some 25, op := _, type := _, pos := _, after := _, guard := _ } : Oper)) (v := (.bool true)) rfl (by kernel_rfl) (by kernel_rfl) (by kernel_rfl) (fun _ _ _ h => h) (Or.inl ⟨by rfl, ?_⟩) L0.out ?_
    · intro w hSw; (try dsimp only at hSw); go_simp
    try simp only [Act.put, List.setIfInBounds_toArray, List.set_cons_zero, List.set_cons_succ]
    refine wpAnyH_ready (rs := [1]) (by kernel_rfl) (by simp) ?_
    refine AllReadyH.cons (o := ({ dst := some 22, op := _, type := _, pos := _, after := _, guard := _ } : Oper)) rfl (fun K hK => ?_) AllReadyH.nil
    go_simp
    go_at_call 69
    refine (HRo.out _ _ _ _ _ _ _ _).mono ?_
    rintro e w5 ⟨rfl, hw5⟩
    have HB := hid (HB.out.trans (hw5.mono (Nat.le_trans HS1.out HB.out.size)))
    have L1 := hid (HL.out _ HB.out)
    clear hw5
    go_wp2_with fail
    refine hK.out _ _ L1.out (fun _ => ?_)
    clear hK K
    try simp only [Act.put, List.setIfInBounds_toArray, List.set_cons_zero, List.set_cons_succ]
    refine wpAnyH_ready (rs := [3]) (by kernel_rfl) (by simp) ?_
    refine AllReadyH.cons (o := ({ dst := some 24, op := _, type := _, pos := _, after := _, guard := _ } : Oper)) rfl (fun K hK => ?_) AllReadyH.nil
    go_simp
    go_at_call 69
    refine (HRo.out _ _ _ _ _ _ _ _).mono ?_
    rintro e w6 ⟨rfl, hw5⟩
    have HB := hid (HB.out.trans (hw5.mono (Nat.le_trans HS1.out HB.out.size)))
    have L2 := hid (HL.out _ HB.out)
    clear hw5
    go_wp2_with fail
    refine hK.out _ _ L2.out (fun _ => ?_)
    clear hK K
    try simp only [Act.put, List.setIfInBounds_toArray, List.set_cons_zero, List.set_cons_succ]
    refine wpAnyH_take (i := 5) (oi := ({ dst := some 26, op := _, type := _, pos := _, after := _, guard := _ } : Oper)) (v := (.bool true)) rfl (by kernel_rfl) (by kernel_rfl) (by kernel_rfl) (fun _ _ _ h => h) (Or.inl ⟨by rfl, ?_⟩) L2.out ?_
    · intro w hSw; (try dsimp only at hSw); go_simp
    try simp only [Act.put, List.setIfInBounds_toArray, List.set_cons_zero, List.set_cons_succ]
    refine wpAnyH_take (i := 6) (oi := ({ dst := some 27, op := _, type := _, pos := _, after := _, guard := _ } : Oper)) (v := (.bool b2)) rfl (by kernel_rfl) (by kernel_rfl) (by kernel_rfl) (fun _ _ _ h => h) (Or.inl ⟨by rfl, ?_⟩) L2.out ?_
    · intro w hSw; (try dsimp only at hSw); go_simp
    try simp only [Act.put, List.setIfInBounds_toArray, List.set_cons_zero, List.set_cons_succ]
    refine wpAnyH_take (i := 7) (oi := ({ dst := some 28, op := _, type := _, pos := _, after := _, guard := _ } : Oper)) (v := (.bool b2)) rfl (by kernel_rfl) (by kernel_rfl) (by kernel_rfl) (fun _ _ _ h => h) (Or.inl ⟨by rfl, ?_⟩) L2.out ?_
    · intro w hSw; (try dsimp only at hSw); go_simp
    try simp only [Act.put, List.setIfInBounds_toArray, List.set_cons_zero, List.set_cons_succ]
    have HXW := hid (HX.out _ (HY.out _ HB.out).2.2)
    obtain ⟨⟨r0, r1, r2, r3⟩, q0, q1, q2, q3⟩ := own4V HXW.out.2.1
    obtain ⟨⟨s0, s1, s2, s3⟩, z0, z1, z2, z3⟩ := own4V HXW.out.2.2.1
    have L3 := hid (HSt4.out w6 HB.out (.bool p1) (.slice a1 l1 c1) (.bool false) (.slice e1 k1 d1))
    have L4 := hid (HSt8.out w6 HB.out (.bool p1) (.slice a1 l1 c1) (.bool false) (.slice e1 k1 d1) (.bool p2) (.slice a2 l2 c2) (.bool false) (.slice e2 k2 d2))
    refine wpAnyH_ready (rs := [8]) (by kernel_rfl) (by simp) ?_
    refine AllReadyH.cons (o := ({ dst := none, op := _, type := _, pos := _, after := _, guard := _ } : Oper)) rfl (fun K hK => ?_) AllReadyH.nil
    go_simp
    refine hK.out _ _ L3.out (fun _ => ?_)
    clear hK K
    try simp only [Act.put, List.setIfInBounds_toArray, List.set_cons_zero, List.set_cons_succ]
    refine wpAnyH_ready (rs := [9]) (by kernel_rfl) (by simp) ?_
    refine AllReadyH.cons (o := ({ dst := none, op := _, type := _, pos := _, after := _, guard := _ } : Oper)) rfl (fun K hK => ?_) AllReadyH.nil
    go_simp
    refine hK.out _ _ L4.out (fun _ => ?_)
    clear hK K
    try simp only [Act.put, List.setIfInBounds_toArray, List.set_cons_zero, List.set_cons_succ]
    refine wpAnyH_take (i := 10) (oi := ({ dst := some 6, op := _, type := _, pos := _, after := _, guard := _ } : Oper)) (v := (.bool b2)) rfl (by kernel_rfl) (by kernel_rfl) (by kernel_rfl) (fun _ _ _ h => h) (Or.inl ⟨by rfl, ?_⟩) L4.out ?_
    · intro w hSw; (try dsimp only at hSw); go_simp
    try simp only [Act.put, List.setIfInBounds_toArray, List.set_cons_zero, List.set_cons_succ]
    refine wpAnyH_done (by kernel_rfl) ?_ _
    go_wp2_with fail
    refine bodyPost_ret (v := .tuple #[.agg #[.bool p1, .slice a1 l1 c1, .bool false, .slice e1 k1 d1], .agg #[.bool p2, .slice a2 l2 c2, .bool false, .slice e2 k2 d2], .bool b2]) (by simp [results, Tryd.results44, go_sem, r0, r1, r2, r3, s0, s1, s2, s3]) rfl ⟨a1, c1, e1, d1, a2, c2, e2, d2, rfl, ?_⟩
    have hN := HNs.out _ HB.out
    have o1 := HXW.out.2.1
    have o2 := HXW.out.2.2.1
    refine ⟨?_, ?_, ?_, ?_, ?_⟩
    · exact natA_set4 (natA_set4 hN.1.1 o1 _ _ _ _) (own_set4 o2 (by omega) _ _ _ _) _ _ _ _
    · exact natA_set4 (natA_set4 hN.1.2 o1 _ _ _ _) (own_set4 o2 (by omega) _ _ _ _) _ _ _ _
    · exact natA_set4 (natA_set4 hN.2.1 o1 _ _ _ _) (own_set4 o2 (by omega) _ _ _ _) _ _ _ _
    · exact natA_set4 (natA_set4 hN.2.2 o1 _ _ _ _) (own_set4 o2 (by omega) _ _ _ _) _ _ _ _
    · exact below_set4 (below_set4 HXW.out.2.2.2 (by omega) _ _ _ _) (by omega) _ _ _ _
end Go.Proofs.YtbbffhpppacihaaDoor
