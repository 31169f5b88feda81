/-
  The law FnExactExpFlip returns true, and nothing that was there has turned. Condition: the form that it is given lies in memory as FormAt says.
  A row of forms in which one is put in the place of another. No program's step is walked here.
-/
import Derived.Test.YtghgilkdmdppcaaGreatPart16
import Derived.Test.YtghgilkdmdppcaaGreatPart13
import Derived.Test.YtghgilkdmdppcaaGreatPart14
namespace Go.Proofs.YtghgilkdmdppcaaGreat
open Go.RowKit Go.Siskin

set_option maxRecDepth 20000 in
set_option maxHeartbeats 4000000 in
theorem lawFlip_any (hsp : SpecW 12 flipB) (him : ImplW 13 flipB) (n : Int) (f : Fm) (B : Nat → Prop) (w : World) (c0 c1 c2 c3 c4 : Value) (hA : FormAt B w f c0 c1 c2 c3 c4) (hB : ∀ b, B b → b < w.heap.size) :
    Calls Tryz.prog 4 #[.agg #[c0, c1, c2, c3, c4], .int .i64 n] w fun e w' => e = .returned (.bool true) ∧ Below w.heap.size w w' := by
  have HSP := hid hsp
  have HIM := hid him
  clear hsp him
  have HA := hid hA
  have HR := hid hB
  obtain ⟨rfl, rfl, ht, h2, rfl, h4⟩ := (formAt_iff _ _ _ _ _ _ _ _).1 hA
  obtain ⟨a2, k2, rfl, -⟩ := h2
  obtain ⟨a4, k4, rfl, -⟩ := h4
  clear hA hB
  go_enter Tryz.func4, Tryz.ntmps4
  go_wp2_with fail
  refine (szExpForm_any f B (w.alloc _) _ _ _ _ _ 1048576 (FormAt.keep ((SameOn.refl _ _).alloc HR.out _) _ HA.out) (fun b hb => by have := HR.out b hb; simp; omega) (by omega) (by omega)).mono ?_
  rintro e w1 ⟨rfl, hw1⟩
  simp only [World.size_alloc] at hw1
  have HW1 := hid hw1
  obtain ⟨p0, p1, p2, p3, p4⟩ := wbox5 hw1
  have s1 := hw1.size
  simp only [World.size_alloc] at s1
  clear hw1
  by_cases hneg : szI f.cost 1048576 < 0
  · go_wp2_with fail
    go_ret
    exact ⟨rfl, wbox_done HW1.out⟩
  have hc : f.cost ≤ 1048576 := by rw [szI_neg] at hneg; omega
  have hrs := res_small (flipB n) (flip_length n) n f hc
  obtain ⟨R, hR⟩ : ∃ R, R = resF (flipB n) n f := ⟨_, rfl⟩
  rw [← hR] at hrs
  have hRm : R.cost ≤ maxLen := by have := hrs.1; unfold maxLen; omega
  have hfm : f.cost ≤ maxLen := by unfold maxLen; omega
  have hcf : f.scopes.length + cnts f.kids ≤ 10000000 := by have h1 := cntF_le f; have h2 := cntF_eq f; have h3 := Fm.sz_le f; omega
  have Hrs := hid hrs
  have Hcf := hid hcf
  have HRe := hid hR
  have Hc := hid hc
  have HRm := hid hRm
  have Hfm := hid hfm
  clear hrs hcf hR hc hRm hfm
  go_wp2_with fail
  refine (toExpForm_any f B w1 _ _ _ _ _ (FormAt.keep (wbox_on HW1.out HR.out) _ HA.out) (fun b hb => by have := HR.out b hb; omega) Hc.out).mono ?_
  rintro e w2 ⟨d0, d1, d2, d3, d4, rfl, hf2, hw2⟩
  have HW2 := hid (wbox_step HW1.out hw2)
  have s2 := hw2.size
  have HQ3 : Hid (Calls Tryz.prog 12 #[.agg #[d0, d1, d2, d3, d4], .int .i64 n] w2 fun e w' => ∃ d2 d4, e = .returned (.agg #[.int .i64 R.sort, .string R.text, d2, .int .i64 R.frm, d4]) ∧ FormAt (Fresh w2 w') w' R (.int .i64 R.sort) (.string R.text) d2 (.int .i64 R.frm) d4 ∧ Below w2.heap.size w2 w') := by
    have h := HSP.out n f (Fresh w1 w2) w2 d0 d1 d2 d3 d4 hf2 (fun b hb => hb.2) Hc.out
    rw [← HRe.out] at h
    exact h
  clear hf2 hw2 p0 p1 p2 p3 p4
  go_wp2_with fail
  refine HQ3.out.mono ?_
  rintro e w3 ⟨z2, z4, rfl, hz3, hw3⟩
  have HW3 := hid (wbox_step HW2.out hw3)
  have s3 := hw3.size
  have HZ := hid hz3
  obtain ⟨⟨za2, zc2, rfl⟩, za4, zc4, rfl⟩ : (∃ a c, z2 = .slice a R.scopes.length c) ∧ ∃ a c, z4 = .slice a R.kids.length c := by
    obtain ⟨-, -, -, ⟨a, c, e, -⟩, -, a', c', e', -⟩ := (formAt_iff _ _ _ _ _ _ _ _).1 hz3
    exact ⟨⟨a, c, e⟩, a', c', e'⟩
  obtain ⟨p0, p1, p2, p3, p4⟩ := wbox5 HW3.out
  obtain ⟨V3, hV3⟩ : ∃ V3, V3 = w3.alloc (.cells #[.int .i64 R.sort, .string R.text, .slice za2 R.scopes.length zc2, .int .i64 R.frm, .slice za4 R.kids.length zc4] 29) := ⟨_, rfl⟩
  have OZ3 : Hid (Own V3 w3.heap.size 29 #[.int .i64 R.sort, .string R.text, .slice za2 R.scopes.length zc2, .int .i64 R.frm, .slice za4 R.kids.length zc4]) := by
    show Own _ _ _ _
    rw [hV3]; exact own_new _ _ _
  have hs3 : V3.heap.size = w3.heap.size + 1 := by rw [hV3]; simp
  have HV3 : Hid (Below w3.heap.size w3 V3) := by
    show Below _ _ _
    rw [hV3]; exact (Below.refl _ _).alloc (Nat.le_refl _) _
  have HWV3 := hid (wbox_step HW3.out HV3.out)
  have HZ3 := hid (FormAt.keep (HV3.out.on fun b hb => hb.2) R HZ.out)
  have lt3 : w.heap.size < w3.heap.size := by omega
  clear hz3 hw3 HQ3 HZ
  go_wp2_with fail
  rw [← hV3]
  refine (toExpForm_own f B V3 _ _ _ _ _ (FormAt.keep (wbox_on HWV3.out HR.out) _ HA.out) (fun b hb => by have := HR.out b hb; omega) Hc.out).mono ?_
  rintro e w4 ⟨x2, x4, rfl, hx4, hw4⟩
  obtain ⟨⟨xa2, xc2, rfl⟩, xa4, xc4, rfl⟩ := tshape hx4
  have HW4 := hid (wbox_step HWV3.out hw4)
  have s4 := hw4.size
  have OZ4 := hid (OZ3.out.keep hw4 OZ3.out.lt)
  have HZ4 := hid (FormAt.keep (hw4.on fun b hb => by have := hb.2; omega) R HZ3.out)
  obtain ⟨V4, hV4⟩ : ∃ V4, V4 = w4.alloc (.cells #[.int .i64 f.sort, .string f.text, .slice xa2 f.scopes.length xc2, .int .i64 f.frm, .slice xa4 f.kids.length xc4] 29) := ⟨_, rfl⟩
  have OX4 : Hid (Own V4 w4.heap.size 29 #[.int .i64 f.sort, .string f.text, .slice xa2 f.scopes.length xc2, .int .i64 f.frm, .slice xa4 f.kids.length xc4]) := by
    show Own _ _ _ _
    rw [hV4]; exact own_new _ _ _
  have hs4 : V4.heap.size = w4.heap.size + 1 := by rw [hV4]; simp
  have HV4 : Hid (Below w4.heap.size w4 V4) := by
    show Below _ _ _
    rw [hV4]; exact (Below.refl _ _).alloc (Nat.le_refl _) _
  have HWV4 := hid (wbox_step HW4.out HV4.out)
  have HX4 := hid (hx4.keep (HV4.out.on fun b hb => hb.2))
  have HZV4 := hid (FormAt.keep (HV4.out.on fun b hb => by have := hb.2; omega) R HZ4.out)
  have OZV4 := hid (OZ4.out.keep HV4.out OZ4.out.lt)
  have HQ5 : Hid (Calls Tryz.prog 13 #[.agg #[.int .i64 f.sort, .string f.text, .slice xa2 f.scopes.length xc2, .int .i64 f.frm, .slice xa4 f.kids.length xc4], .int .i64 n] V4 fun e w' => ∃ d2 d4, e = .returned (.agg #[.int .i64 R.sort, .string R.text, d2, .int .i64 R.frm, d4]) ∧ Tree w' R (Fresh V4 w') d2 d4 ∧ Below V4.heap.size V4 w') := by
    have h := HIM.out n f (Fresh V3 w4) V4 _ _ _ _ _ (HX4.out.form Hfm.out) (fun b hb => by have := hb.2; omega) Hc.out
    rw [← HRe.out] at h
    exact h
  clear hx4 hw4 HZ3 HZ4 OZ3 OZ4 p0 p1 p2 p3 p4 hV3
  go_wp2_with fail
  rw [← hV4]
  refine HQ5.out.mono ?_
  rintro e w5 ⟨g2, g4, rfl, hg5, hw5⟩
  obtain ⟨⟨ga2, gc2, rfl⟩, ga4, gc4, rfl⟩ := tshape hg5
  have HW5 := hid (wbox_step HWV4.out hw5)
  have s5 := hw5.size
  obtain ⟨V5, hV5⟩ : ∃ V5, V5 = w5.alloc (.cells #[.int .i64 R.sort, .string R.text, .slice ga2 R.scopes.length gc2, .int .i64 R.frm, .slice ga4 R.kids.length gc4] 29) := ⟨_, rfl⟩
  have OG : Hid (Own V5 w5.heap.size 29 #[.int .i64 R.sort, .string R.text, .slice ga2 R.scopes.length gc2, .int .i64 R.frm, .slice ga4 R.kids.length gc4]) := by
    show Own _ _ _ _
    rw [hV5]; exact own_new _ _ _
  have hs5 : V5.heap.size = w5.heap.size + 1 := by rw [hV5]; simp
  have HV5 : Hid (Below w5.heap.size w5 V5) := by
    show Below _ _ _
    rw [hV5]; exact (Below.refl _ _).alloc (Nat.le_refl _) _
  have HB5 : Hid (Below V4.heap.size V4 V5) := hw5.trans (HV5.out.mono s5)
  have HWV5 := hid (wbox_step HW5.out HV5.out)
  have HG5 := hid (hg5.keep (HV5.out.on fun b hb => hb.2))
  have HX5 := hid (HX4.out.keep (HB5.out.on fun b hb => by have := hb.2; omega))
  have HZ5 := hid (FormAt.keep (HB5.out.on fun b hb => by have := hb.2; omega) R HZV4.out)
  have OZ5 := hid (OZV4.out.keep HB5.out OZV4.out.lt)
  have OX5 := hid (OX4.out.keep HB5.out OX4.out.lt)
  have HQ6 := hid (eqExpForm_any R (Fresh V4 w5) (Fresh w2 w3) V5 _ _ _ _ _ _ _ _ _ _ (HG5.out.form HRm.out) HZ5.out (fun b hb => by have := hb.2; omega) (fun b hb => by have := hb.2; omega))
  obtain ⟨q0, q1, q2, q3, q4⟩ := own5 (OZV4.out.keep hw5 OZV4.out.lt)
  have lt5 : w3.heap.size < w5.heap.size := by omega
  clear hg5 hw5 HX4 HZV4 OZV4 OX4 HQ5 hV4
  go_wp2_with fail
  rw [← hV5]
  refine HQ6.out.mono ?_
  rintro e w6 ⟨rfl, hw6⟩
  have HW6 := hid (wbox_step HWV5.out hw6)
  have s6 := hw6.size
  have HG6 := hid (HG5.out.keep (hw6.on fun b hb => by have := hb.2; omega))
  have HX6 := hid (HX5.out.keep (hw6.on fun b hb => by have := hb.2; omega))
  have HZ6 := hid (FormAt.keep (hw6.on fun b hb => by have := hb.2; omega) R HZ5.out)
  have OZ6 := hid (OZ5.out.keep hw6 OZ5.out.lt)
  have OX6 := hid (OX5.out.keep hw6 OX5.out.lt)
  have OG6 := hid (OG.out.keep hw6 OG.out.lt)
  clear hw6 HG5 HX5 HZ5 OZ5 OX5 OG HQ6 hV5 q0 q1 q2 q3 q4
  have K6 := hid (And.intro (wbox5 HW6.out.drew) (own5 (show Own w6.drew _ _ _ from OX6.out)))
  have HQ7 := hid (toExpForm_any f B w6.drew _ _ _ _ _ (FormAt.keep (wbox_on HW6.out.drew HR.out) _ HA.out) (fun b hb => by have := HR.out b hb; show b < w6.heap.size; omega) Hc.out)
  go_wp2_with fail
  go_region_held3 (fun w' => (w'.cell? ⟨w.heap.size, 0, none⟩ = some (.int .i64 f.sort) ∧ w'.cell? ⟨w.heap.size, 1, none⟩ = some (.string f.text) ∧ w'.cell? ⟨w.heap.size, 2, none⟩ = some (.slice a2 f.scopes.length k2) ∧ w'.cell? ⟨w.heap.size, 3, none⟩ = some (.int .i64 f.frm) ∧ w'.cell? ⟨w.heap.size, 4, none⟩ = some (.slice a4 f.kids.length k4)) ∧ w'.cell? ⟨w4.heap.size, 0, none⟩ = some (.int .i64 f.sort) ∧ w'.cell? ⟨w4.heap.size, 1, none⟩ = some (.string f.text) ∧ w'.cell? ⟨w4.heap.size, 2, none⟩ = some (.slice xa2 f.scopes.length xc2) ∧ w'.cell? ⟨w4.heap.size, 3, none⟩ = some (.int .i64 f.frm) ∧ w'.cell? ⟨w4.heap.size, 4, none⟩ = some (.slice xa4 f.kids.length xc4))
    (first | exact K8.out | exact K7.out | exact K6.out)
    (first
      | (go_at_call 7
         refine HQ7.out.mono ?_
         rintro e w7 ⟨e0, e1, e2, e3, e4, rfl, hf7, hw7⟩
         have HB7 := hid hw7
         have HW7 := hid (wbox_step HW6.out.drew hw7)
         have OX7 := hid (Own.keep (show Own w6.drew _ _ _ from OX6.out) hw7 OX6.out.lt)
         have K7 := hid (And.intro (wbox5 HW7.out) (own5 OX7.out))
         have HQ8 := hid (eqExpForm_any f (Fresh V3 w4) (Fresh w6.drew w7) w7 _ _ _ _ _ e0 e1 e2 e3 e4 ((HX6.out.keep (w' := w7) (fun b hb => hw7.block b (by have := hb.2; show b < w6.heap.size; omega))).form Hfm.out) hf7 (fun b hb => by have := hb.2; have h : w6.heap.size ≤ w7.heap.size := hw7.size; omega) (fun b hb => hb.2))
         clear hf7 hw7)
      | (go_at_call 9
         refine HQ8.out.mono ?_
         rintro e w8 ⟨rfl, hw8⟩
         have HB8 := hid hw8
         have HW8 := hid (wbox_step HW7.out hw8)
         have OX8 := hid (OX7.out.keep hw8 OX7.out.lt)
         have K8 := hid (And.intro (wbox5 HW8.out) (own5 OX8.out))
         clear hw8))
  have s7 : w6.heap.size ≤ w7.heap.size := HB7.out.size
  have s8 := HB8.out.size
  have HB68 : Hid (Below w6.heap.size w6 w8) := ((Below.refl _ _).drew.trans (HB7.out.mono (Nat.le_refl _))).trans (HB8.out.mono s7)
  have HG8 := hid (HG6.out.keep (HB68.out.on fun b hb => by have := hb.2; omega))
  have HX8 := hid (HX6.out.keep (HB68.out.on fun b hb => by have := hb.2; omega))
  have HZ8 := hid (FormAt.keep (HB68.out.on fun b hb => by have := hb.2; omega) R HZ6.out)
  have OZ8 := hid (OZ6.out.keep HB68.out OZ6.out.lt)
  have OG8 := hid (OG6.out.keep HB68.out OG6.out.lt)
  have HQ9 := hid (markExpForm_any f (Fresh V3 w4) w8 _ _ 1 HX8.out (fun b hb => by have := hb.2; omega) (by omega) (by have := Hcf.out; omega))
  obtain ⟨q0, q1, q2, q3, q4⟩ := own5 OX8.out
  obtain ⟨K, hK⟩ : ∃ K, K = 1 + f.scopes.length + cnts f.kids := ⟨_, rfl⟩
  rw [← hK] at HQ9
  have hKb : K ≤ 100000000 := by have := Hcf.out; omega
  clear hK K6 K7 K8 HQ7 HQ8 HG6 HX6 HZ6 OZ6 OX6 OG6 OX7
  go_wp2_with fail
  refine HQ9.out.mono ?_
  rintro e w9 ⟨f9, rfl, -, -, ho9⟩
  have s9 := ho9.size
  have HW9 := hid (HW8.out.trans (ho9.low (N := w.heap.size + 1) (fun i hi => by have := hi.1; omega) (by omega)))
  have HG9 := hid (HG8.out.keep (ho9.on fun b hb => ⟨by have := hb.2; omega, fun hx => by have := hb.1; have := hx.2; omega⟩))
  have HZ9 := hid (FormAt.keep (ho9.on fun b hb => ⟨by have := hb.2; omega, fun hx => by have := hb.2; have := hx.1; omega⟩) R HZ8.out)
  have OZ9 := hid (ho9.own OZ8.out fun hx => by have := hx.1; omega)
  have OG9 := hid (ho9.own OG8.out fun hx => by have := hx.2; omega)
  have HQ10 := hid (eqExpForm_any R (Fresh V4 w5) (Fresh w2 w3) w9 _ _ _ _ _ _ _ _ _ _ (HG9.out.form HRm.out) HZ9.out (fun b hb => by have := hb.2; omega) (fun b hb => by have := hb.2; omega))
  have hK0 : ¬ ((K : Int) < 0) := by omega
  clear ho9 HQ9 HX8 HG8 HZ8 OZ8 OG8 OX8 q0 q1 q2 q3 q4
  obtain ⟨q0, q1, q2, q3, q4⟩ := own5 OZ9.out
  obtain ⟨r0, r1, r2, r3, r4⟩ := own5 OG9.out
  go_wp2_with fail
  refine HQ10.out.mono ?_
  rintro e w10 ⟨rfl, hw10⟩
  have s10 := hw10.size
  have HW10 := hid (wbox_step HW9.out hw10)
  have HG10 := hid (HG9.out.keep (hw10.on fun b hb => by have := hb.2; omega))
  have HZ10 := hid (FormAt.keep (hw10.on fun b hb => by have := hb.2; omega) R HZ9.out)
  have OZ10 := hid (OZ9.out.keep hw10 OZ9.out.lt)
  have OG10 := hid (OG9.out.keep hw10 OG9.out.lt)
  have HQ11 := hid (markExpForm_any R (Fresh V4 w5) w10 _ _ 1 HG10.out (fun b hb => by have := hb.2; omega) (by omega) (by have := Hrs.out; omega))
  obtain ⟨M, hM⟩ : ∃ M, M = 1 + R.scopes.length + cnts R.kids := ⟨_, rfl⟩
  rw [← hM] at HQ11
  have HM := hid hM
  have hMb : M ≤ 100000000 := by have := Hrs.out; omega
  have hM0 : ¬ ((M : Int) < 0) := by omega
  clear hM hw10 HQ10 HG9 HZ9 OZ9 OG9 q0 q1 q2 q3 q4 r0 r1 r2 r3 r4
  obtain ⟨r0, r1, r2, r3, r4⟩ := own5 OG10.out
  go_wp2_with fail
  refine HQ11.out.mono ?_
  rintro e w11 ⟨R', rfl, ht11, hm11, ho11⟩
  have s11 := ho11.size
  have HT11 := hid ht11
  have HMk := hid hm11
  have HW11 := hid (HW10.out.trans (ho11.low (N := w.heap.size + 1) (fun i hi => by have := hi.1; omega) (by omega)))
  have HZ11 := hid (FormAt.keep (ho11.on fun b hb => ⟨by have := hb.2; omega, fun hx => by have := hb.2; have := hx.1; omega⟩) R HZ10.out)
  have OZ11 := hid (ho11.own OZ10.out fun hx => by have := hx.1; omega)
  have OG11 := hid (ho11.own OG10.out fun hx => by have := hx.2; omega)
  have HQ12 : Hid (Calls Tryz.prog 11 #[.agg #[.int .i64 R.sort, .string R.text, .slice ga2 R.scopes.length gc2, .int .i64 R.frm, .slice ga4 R.kids.length gc4], .int .i64 1] w11 fun e w' => e = .returned (.int .i64 (M : Int)) ∧ Below w11.heap.size w11 w') := by
    have h := heldExpForm_any R' R (Fresh V4 w5) w11 (.int .i64 R.sort) (.string R.text) _ (.int .i64 R.frm) _ 1 HT11.out HMk.out (fun b hb => by have := hb.2; omega) (by omega) (by have := Hrs.out; omega) ⟨_, rfl⟩ ⟨_, rfl⟩ ⟨_, rfl⟩
    rw [← HM.out] at h
    exact h
  clear ht11 hm11 ho11 HQ11 HG10 HZ10 OZ10 OG10 r0 r1 r2 r3 r4
  obtain ⟨r0, r1, r2, r3, r4⟩ := own5 OG11.out
  go_wp2_with fail
  refine HQ12.out.mono ?_
  rintro e w12 ⟨rfl, hw12⟩
  have s12 := hw12.size
  have HW12 := hid (wbox_step HW11.out hw12)
  have HT12 := hid (HT11.out.keep (hw12.on fun b hb => by have := hb.2; omega))
  have HZ12 := hid (FormAt.keep (hw12.on fun b hb => by have := hb.2; omega) R HZ11.out)
  have OZ12 := hid (OZ11.out.keep hw12 OZ11.out.lt)
  have OG12 := hid (OG11.out.keep hw12 OG11.out.lt)
  clear hw12 HQ12 HT11 HZ11 OZ11 OG11 r0 r1 r2 r3 r4
  obtain ⟨p0, p1, p2, p3, p4⟩ := wbox5 HW12.out
  go_wp2_with fail
  refine (toExpForm_any f B w12 _ _ _ _ _ (FormAt.keep (wbox_on HW12.out HR.out) _ HA.out) (fun b hb => by have := HR.out b hb; omega) Hc.out).mono ?_
  rintro e w13 ⟨t0, t1, t2, t3, t4, rfl, hf13, hw13⟩
  have s13 := hw13.size
  have HW13 := hid (wbox_step HW12.out hw13)
  have HT13 := hid (HT12.out.keep (hw13.on fun b hb => by have := hb.2; omega))
  have HZ13 := hid (FormAt.keep (hw13.on fun b hb => by have := hb.2; omega) R HZ12.out)
  have OZ13 := hid (OZ12.out.keep hw13 OZ12.out.lt)
  have OG13 := hid (OG12.out.keep hw13 OG12.out.lt)
  have HQ14 : Hid (Calls Tryz.prog 13 #[.agg #[t0, t1, t2, t3, t4], .int .i64 n] w13 fun e w' => ∃ d2 d4, e = .returned (.agg #[.int .i64 R.sort, .string R.text, d2, .int .i64 R.frm, d4]) ∧ Tree w' R (Fresh w13 w') d2 d4 ∧ Below w13.heap.size w13 w') := by
    have h := HIM.out n f (Fresh w12 w13) w13 t0 t1 t2 t3 t4 hf13 (fun b hb => hb.2) Hc.out
    rw [← HRe.out] at h
    exact h
  clear hf13 hw13 HT12 HZ12 OZ12 OG12 p0 p1 p2 p3 p4
  go_wp2_with fail
  refine HQ14.out.mono ?_
  rintro e w14 ⟨y2, y4, rfl, hy14, hw14⟩
  obtain ⟨⟨ya2, yc2, rfl⟩, ya4, yc4, rfl⟩ := tshape hy14
  have s14 := hw14.size
  obtain ⟨V14, hV14⟩ : ∃ V14, V14 = w14.alloc (.cells #[.int .i64 R.sort, .string R.text, .slice ya2 R.scopes.length yc2, .int .i64 R.frm, .slice ya4 R.kids.length yc4] 29) := ⟨_, rfl⟩
  have hs14 : V14.heap.size = w14.heap.size + 1 := by rw [hV14]; simp
  have HV14 : Hid (Below w14.heap.size w14 V14) := by
    show Below _ _ _
    rw [hV14]; exact (Below.refl _ _).alloc (Nat.le_refl _) _
  have HB14 : Hid (Below w13.heap.size w13 V14) := hw14.trans (HV14.out.mono s14)
  have HW14 := hid (wbox_step HW13.out HB14.out)
  have HT14 := hid (HT13.out.keep (HB14.out.on fun b hb => by have := hb.2; omega))
  have HZ14 := hid (FormAt.keep (HB14.out.on fun b hb => by have := hb.2; omega) R HZ13.out)
  have HY14 := hid (hy14.keep (HV14.out.on fun b hb => hb.2))
  have OG14 := hid (OG13.out.keep HB14.out OG13.out.lt)
  have HQ15 := hid (eqExpForm_any R (Fresh w13 w14) (Fresh w2 w3) V14 _ _ _ _ _ _ _ _ _ _ (HY14.out.form HRm.out) HZ14.out (fun b hb => by have := hb.2; omega) (fun b hb => by have := hb.2; omega))
  obtain ⟨q0, q1, q2, q3, q4⟩ := own5 (OZ13.out.keep hw14 OZ13.out.lt)
  have lt14 : w3.heap.size < w14.heap.size := by omega
  clear hy14 hw14 HQ14 HT13 HZ13 OZ13 OG13
  go_wp2_with fail
  rw [← hV14]
  refine HQ15.out.mono ?_
  rintro e w15 ⟨rfl, hw15⟩
  have s15 := hw15.size
  have HW15 := hid (wbox_step HW14.out hw15)
  have OG15 := hid (OG14.out.keep hw15 OG14.out.lt)
  have HQ16 : Hid (Calls Tryz.prog 11 #[.agg #[.int .i64 R.sort, .string R.text, .slice ga2 R.scopes.length gc2, .int .i64 R.frm, .slice ga4 R.kids.length gc4], .int .i64 1] w15 fun e w' => e = .returned (.int .i64 (M : Int)) ∧ Below w15.heap.size w15 w') := by
    have h := heldExpForm_any R' R (Fresh V4 w5) w15 (.int .i64 R.sort) (.string R.text) _ (.int .i64 R.frm) _ 1 (HT14.out.keep (hw15.on fun b hb => by have := hb.2; omega)) HMk.out (fun b hb => by have := hb.2; omega) (by omega) (by have := Hrs.out; omega) ⟨_, rfl⟩ ⟨_, rfl⟩ ⟨_, rfl⟩
    rw [← HM.out] at h
    exact h
  clear hw15 HQ15 HT14 HZ14 OG14 HY14 q0 q1 q2 q3 q4 hV14
  obtain ⟨r0, r1, r2, r3, r4⟩ := own5 OG15.out
  go_wp2_with fail
  refine HQ16.out.mono ?_
  rintro e w16 ⟨rfl, hw16⟩
  have HW16 := hid (wbox_step HW15.out hw16)
  clear hw16 HQ16
  go_wp2_with fail
  go_ret
  exact ⟨rfl, wbox_done HW16.out⟩

end Go.Proofs.YtghgilkdmdppcaaGreat

namespace Go.Proofs.YtghgilkdmdppcaaGreat
open Go.RowKit Go.Siskin

/-- The first k forms of a row, changed. -/
def mix (h : Fm → Fm) (k : Nat) (ks : List Fm) : List Fm := ks.mapIdx fun i x => if i < k then h x else x
theorem mix_length (h : Fm → Fm) (k : Nat) (ks : List Fm) : (mix h k ks).length = ks.length := by simp [mix]
theorem mix_zero (h : Fm → Fm) (ks : List Fm) : mix h 0 ks = ks := by
  refine List.ext_getElem (mix_length _ _ _) fun i h1 h2 => ?_
  simp [mix]
theorem mix_all (h : Fm → Fm) (ks : List Fm) : mix h ks.length ks = ks.map h := by
  refine List.ext_getElem (by simp [mix]) fun i h1 h2 => ?_
  rw [mix_length] at h1
  simp [mix, h1]
theorem mix_get (h : Fm → Fm) (k : Nat) (ks : List Fm) (hk : k < ks.length) : (mix h k ks)[k]'(by rw [mix_length]; exact hk) = ks[k] := by
  simp [mix]
theorem mix_step (h : Fm → Fm) (k : Nat) (ks : List Fm) (hk : k < ks.length) : (mix h k ks).set k (h ks[k]) = mix h (k + 1) ks := by
  refine List.ext_getElem (by simp [mix]) fun i h1 h2 => ?_
  rw [List.getElem_set]
  by_cases e : k = i
  · subst e
    simp [mix]
  · rw [if_neg e]
    simp only [mix, List.getElem_mapIdx]
    by_cases hi : i < k
    · rw [if_pos hi, if_pos (by omega)]
    · rw [if_neg hi, if_neg (by omega)]

theorem set5_out {cs : List Value} {o : Nat} (d0 d1 d2 d3 d4 : Value) {i : Nat} (h : i < o ∨ o + 5 ≤ i) : (((((cs.set o d0).set (o + 1) d1).set (o + 2) d2).set (o + 3) d3).set (o + 4) d4)[i]? = cs[i]? := by
  rw [List.getElem?_set_ne (by omega), List.getElem?_set_ne (by omega), List.getElem?_set_ne (by omega), List.getElem?_set_ne (by omega), List.getElem?_set_ne (by omega)]
theorem set5_in {cs : List Value} {o : Nat} (d0 d1 d2 d3 d4 : Value) (h : o + 5 ≤ cs.length) :
    (((((cs.set o d0).set (o + 1) d1).set (o + 2) d2).set (o + 3) d3).set (o + 4) d4)[o]? = some d0 ∧ (((((cs.set o d0).set (o + 1) d1).set (o + 2) d2).set (o + 3) d3).set (o + 4) d4)[o + 1]? = some d1 ∧ (((((cs.set o d0).set (o + 1) d1).set (o + 2) d2).set (o + 3) d3).set (o + 4) d4)[o + 2]? = some d2 ∧ (((((cs.set o d0).set (o + 1) d1).set (o + 2) d2).set (o + 3) d3).set (o + 4) d4)[o + 3]? = some d3 ∧ (((((cs.set o d0).set (o + 1) d1).set (o + 2) d2).set (o + 3) d3).set (o + 4) d4)[o + 4]? = some d4 := by
  refine ⟨?_, ?_, ?_, ?_, ?_⟩
  · rw [List.getElem?_set_ne (by omega), List.getElem?_set_ne (by omega), List.getElem?_set_ne (by omega), List.getElem?_set_ne (by omega), List.getElem?_set_self (by omega)]
  · rw [List.getElem?_set_ne (by omega), List.getElem?_set_ne (by omega), List.getElem?_set_ne (by omega), List.getElem?_set_self (by simp; omega)]
  · rw [List.getElem?_set_ne (by omega), List.getElem?_set_ne (by omega), List.getElem?_set_self (by simp; omega)]
  · rw [List.getElem?_set_ne (by omega), List.getElem?_set_self (by simp; omega)]
  · rw [List.getElem?_set_self (by simp; omega)]

theorem row_put5 {w : World} {base g n c : Nat} {cs : List Value} (h : w.ownsRow base 29 5 (.slice (some ⟨g, 0, none⟩) n c) n cs) (o : Nat) (d0 d1 d2 d3 d4 : Value) :
    (put5 w g o d0 d1 d2 d3 d4).ownsRow base 29 5 (.slice (some ⟨g, 0, none⟩) n c) n (((((cs.set o d0).set (o + 1) d1).set (o + 2) d2).set (o + 3) d3).set (o + 4) d4) ∧ w.grownBy (put5 w g o d0 d1 d2 d3 d4) (some g) := by
  have h0 := h.stored o d0
  have h1 := h0.1.stored (o + 1) d1
  have h2 := h1.1.stored (o + 2) d2
  have h3 := h2.1.stored (o + 3) d3
  have h4 := h3.1.stored (o + 4) d4
  exact ⟨h4.1, (((h0.2.trans h1.2).trans h2.2).trans h3.2).trans h4.2⟩

/-- Another form in the place of one. -/
theorem Kids.put {S : Nat → Prop} {w w1 : World} {base g n c : Nat} {ks : List Fm} (h : Kids S w base (.slice (some ⟨g, 0, none⟩) n c) ks) (hn : n = ks.length) {k : Nat} (hk : k < ks.length) (hb : Below w.heap.size w w1) (hbase : base ≤ w.heap.size) {f : Fm} {d0 d1 d2 d3 d4 : Value} (hf : FormAt (Fresh w w1) w1 f d0 d1 d2 d3 d4) :
    Kids (Reg S w w1) (put5 w1 g (k * 5) d0 d1 d2 d3 d4) base (.slice (some ⟨g, 0, none⟩) n c) (ks.set k f) := by
  have hg := h.lt (g := g) rfl
  have hs1 := hb.size
  obtain ⟨⟨cs, r1, r2⟩, ho, hl⟩ := h
  have hcl := r1.1
  subst hn
  obtain ⟨q1, q2⟩ := row_put5 (r1.kept (row := none) (w' := w1) ⟨hb.os, hb.tape, hb.output, hb.size, fun i hi _ => hb.block i hi⟩ (Or.inr (by simp [Value.ownBlock]))) (k * 5) d0 d1 d2 d3 d4
  have hoff : ¬ Reg S w w1 g := fun e => by
    rcases e with e | e
    · exact ho g rfl e
    · have := e.1; omega
  refine ⟨⟨_, by rw [List.length_set]; exact q1, fun i hi => ?_⟩, fun g' e hS => ?_, fun i hi => ?_⟩
  · rw [List.length_set] at hi
    by_cases e : i = k
    · subst e
      obtain ⟨e0, e1, e2, e3, e4⟩ := set5_in (cs := cs) (o := i * 5) d0 d1 d2 d3 d4 (by omega)
      refine ⟨d0, d1, d2, d3, d4, e0, e1, e2, e3, e4, ?_⟩
      rw [List.getElem_set_self]
      exact FormAt.mono (fun b hb => Or.inr hb) _ (FormAt.keep (put5_same (SameOn.refl _ _) (fun e => hoff (Or.inr e)) _ _ _ _ _ _) _ hf)
    · obtain ⟨k0, k1, k2, k3, k4, e0, e1, e2, e3, e4, e5⟩ := r2 i hi
      refine ⟨k0, k1, k2, k3, k4, ?_, ?_, ?_, ?_, ?_, ?_⟩
      · rw [set5_out _ _ _ _ _ (by omega)]; exact e0
      · rw [set5_out _ _ _ _ _ (by omega)]; exact e1
      · rw [set5_out _ _ _ _ _ (by omega)]; exact e2
      · rw [set5_out _ _ _ _ _ (by omega)]; exact e3
      · rw [set5_out _ _ _ _ _ (by omega)]; exact e4
      · rw [List.getElem_set_ne (by omega)]
        exact FormAt.mono (fun b hb => Or.inl hb) _ (FormAt.keep (put5_same ((SameOn.refl _ _).below hb fun b hb => (hl b hb).2) (fun e => hoff (Or.inl e)) _ _ _ _ _ _) _ e5)
  · cases e
    exact hoff hS
  · rw [put5_size]
    rcases hi with hi | hi
    · have := hl i hi
      exact ⟨this.1, by omega⟩
    · exact ⟨by have := hi.1; omega, hi.2⟩

/-- A row of ints as ints in memory. -/
theorem row_intsB {w : World} {base n : Nat} {v : Value} {xs : List Int} (h : w.ownsRow base 3 1 v n (xs.map (Value.int .i64))) (hn : xs.length ≤ maxLen) {B : Nat → Prop} (hB : ∀ g, v.ownBlock = some g → B g) : IntsAt B w v xs := by
  have hl := h.1
  rw [List.length_map] at hl
  rcases h.2 with ⟨rfl, h0⟩ | ⟨g, cap, cur, rfl, hb, hg, hcap, -, -, -⟩
  · have : xs = [] := List.length_eq_zero_iff.1 (by omega)
    subst this
    exact ⟨none, 0, rfl, ⟨Nat.zero_le _, Nat.le_refl _⟩, Or.inl rfl⟩
  · refine ⟨some ⟨g, 0, none⟩, cap, by rw [hl, Nat.mul_one], ⟨hn, by omega⟩, Or.inr ⟨g, 0, rfl, hB g rfl, fun i hi => ?_⟩⟩
    have k := h.cells (g := g) rfl i (.int .i64 (xs.getD i 0)) (by rw [List.getElem?_map, List.getElem?_eq_getElem hi, List.getD_eq_getElem?_getD, List.getElem?_eq_getElem hi]; rfl)
    rw [Go.WideShapes.add_plain] at k
    exact k

end Go.Proofs.YtghgilkdmdppcaaGreat
