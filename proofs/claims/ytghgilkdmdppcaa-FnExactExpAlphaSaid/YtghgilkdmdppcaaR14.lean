/-
  The law FnExactExpAlpha returns true, and nothing that was there has turned. Condition: the lists that it is given lie in memory as CoresAt says.
-/
import Derived.Test.YtghgilkdmdppcaaR13
import Derived.Test.YtghgilkdmdppcaaR9
import Derived.Test.YtghgilkdmdppcaaQ5
import Derived.Test.YtghgilkdmdppcaaQ3
namespace Go.Proofs.Ytghgilkdmdppcaa
open Go.RowKit Go.Siskin

theorem crow_sh {w : World} {S : Nat → Prop} {v : Value} {ks : List Cm} (h : CRow w S v ks) : ∃ a c, v = .slice a ks.length c := by
  obtain ⟨cs, F, h⟩ := h
  exact crow_shape h.row
theorem cores_sh {w : World} {B : Nat → Prop} {v : Value} {ks : List Cm} (h : CoresAt B w v ks) : ∃ a c, v = .slice a ks.length c := by
  obtain ⟨a, c, e, -⟩ := h
  exact ⟨a, c, e⟩
theorem cores_mono {w : World} {B B' : Nat → Prop} {v : Value} {ks : List Cm} (h : CoresAt B w v ks) (hb : ∀ b, B b → B' b) : CoresAt B' w v ks := by
  obtain ⟨b, c, e, h1, h2⟩ := h
  exact ⟨b, c, e, h1, h2.imp id (fun ⟨g, o, e1, e2, e3⟩ => ⟨g, o, e1, hb g e2, fun i hi => by
    obtain ⟨k0, k1, k2, k3, k4, q0, q1, q2, q3, q4, q5⟩ := e3 i hi
    exact ⟨k0, k1, k2, k3, k4, q0, q1, q2, q3, q4, CoreAt.mono hb _ q5⟩⟩)⟩

set_option maxRecDepth 20000 in
set_option maxHeartbeats 4000000 in
theorem lawAlpha_any (ks ds : List Cm) (B : Nat → Prop) (w : World) (v u : Value) (hv : CoresAt B w v ks) (hu : CoresAt B w u ds) (hB : ∀ b, B b → b < w.heap.size) :
    Calls Try.prog 3 #[v, u] w fun e w' => e = .returned (.bool true) ∧ Below w.heap.size w w' := by
  have HV := hid hv
  have HU := hid hu
  have HR := hid hB
  obtain ⟨a, ca, rfl⟩ := cores_sh hv
  obtain ⟨a', ca', rfl⟩ := cores_sh hu
  have HQ1 := hid ((szCore_all (Cm.szs ks)).2 ks (Nat.le_refl _) B w _ 1048576 hv hB (by omega) (by omega))
  clear hv hu hB
  go_enter Try.func3, Try.ntmps3
  go_wp2_with fail
  refine HQ1.out.mono ?_
  rintro e w1 ⟨rfl, hw1⟩
  have HB1 := hid hw1
  have s1 := hw1.size
  clear hw1 HQ1
  by_cases hneg : szI (ks.length + Cm.costs ks) 1048576 < 0
  · go_wp2_with fail
    go_ret
    exact ⟨rfl, HB1.out⟩
  have hc : ks.length + Cm.costs ks ≤ 1048576 := by rw [szI_neg] at hneg; omega
  have hl1 := szI_pos _ _ hneg
  have hg1 := (szI_ge (ks.length + Cm.costs ks) 1048576).2 (by omega)
  have HQ2 := hid ((szCore_all (Cm.szs ds)).2 ds (Nat.le_refl _) B w1 _ (szI (ks.length + Cm.costs ks) 1048576) (HU.out.keep (HB1.out.on HR.out)) (fun b hb => by have := HR.out b hb; omega) (by omega) (by omega))
  have HL1 := hid hl1
  clear hl1
  go_wp2_with fail
  refine HQ2.out.mono ?_
  rintro e w2 ⟨rfl, hw2⟩
  have HB2 := hid (HB1.out.trans (hw2.mono s1))
  have s2 := hw2.size
  clear hw2 HQ2
  by_cases hneg2 : szI (ds.length + Cm.costs ds) (szI (ks.length + Cm.costs ks) 1048576) < 0
  · go_wp2_with fail
    go_ret
    exact ⟨rfl, HB2.out⟩
  have hd : ds.length + Cm.costs ds ≤ 1048576 := by rw [szI_neg] at hneg2; omega
  have Hc := hid hc
  have Hd := hid hd
  have Hcm : Hid (ks.length + Cm.costs ks ≤ maxLen) := by show _ ≤ _; unfold maxLen; omega
  have Hdm : Hid (ds.length + Cm.costs ds ≤ maxLen) := by show _ ≤ _; unfold maxLen; omega
  have HTO := hid (fun (W : World) (ls : List Cm) (x : Value) (hx : CoresAt B W x ls) (hb : ∀ b, B b → b < W.heap.size) (hcc : ls.length + Cm.costs ls ≤ 1048576) => (ctoCore_all (Cm.szs ls)).2 ls (Nat.le_refl _) B W x hx hb hcc)
  have HQ3 := hid (HTO.out w2 ks _ (HV.out.keep (HB2.out.on HR.out)) (fun b hb => by have := HR.out b hb; omega) Hc.out)
  clear hc hd
  go_wp2_with fail
  refine HQ3.out.mono ?_
  rintro e w3 ⟨x3, rfl, hx3, hw3⟩
  have s3 := hw3.size
  have HB3 := hid (HB2.out.trans (hw3.mono (by omega)))
  have HX3 := hid hx3
  obtain ⟨a3, c3, rfl⟩ := crow_sh hx3
  have HQ4 := hid (HTO.out w3 ds _ (HU.out.keep (HB3.out.on HR.out)) (fun b hb => by have := HR.out b hb; omega) Hd.out)
  clear hx3 hw3 HQ3
  go_wp2_with fail
  refine HQ4.out.mono ?_
  rintro e w4 ⟨x4, rfl, hx4, hw4⟩
  have s4 := hw4.size
  have HB4 := hid (HB3.out.trans (hw4.mono (by omega)))
  have HX4 := hid hx4
  obtain ⟨a4, c4, rfl⟩ := crow_sh hx4
  have HQ5 := hid (specAlpha_any ks ds (fun b => Fresh w2 w3 b ∨ Fresh w3 w4 b) w4 _ _ (cores_mono (crow_form (HX3.out.keep (hw4.on fun b hb => hb.2)) Hcm.out) fun _ h => Or.inl h) (cores_mono (crow_form hx4 Hdm.out) fun _ h => Or.inr h) (fun b hb => by rcases hb with hb | hb; have := hb.2; omega; exact hb.2) (by have := Hc.out; omega))
  clear hx4 hw4 HQ4
  go_wp2_with fail
  refine HQ5.out.mono ?_
  rintro e w5 ⟨rfl, hw5⟩
  have s5 := hw5.size
  have HB5 := hid (HB4.out.trans (hw5.mono (by omega)))
  have HQ6 := hid (HTO.out w5 ks _ (HV.out.keep (HB5.out.on HR.out)) (fun b hb => by have := HR.out b hb; omega) Hc.out)
  clear hw5 HQ5 HX3 HX4
  generalize hal : alphaS [] ks ds = al at *
  have HAL := hid hal
  clear hal
  go_wp2_with fail
  refine HQ6.out.mono ?_
  rintro e w6 ⟨x6, rfl, hx6, hw6⟩
  have s6 := hw6.size
  have HB6 := hid (HB5.out.trans (hw6.mono (by omega)))
  have HX6 := hid hx6
  obtain ⟨a6, c6, rfl⟩ := crow_sh hx6
  have HQ7 := hid (HTO.out w6 ds _ (HU.out.keep (HB6.out.on HR.out)) (fun b hb => by have := HR.out b hb; omega) Hd.out)
  clear hx6 hw6 HQ6
  go_wp2_with fail
  refine HQ7.out.mono ?_
  rintro e w7 ⟨x7, rfl, hx7, hw7⟩
  have s7 := hw7.size
  have HB7 := hid (HB6.out.trans (hw7.mono (by omega)))
  have HX7 := hid hx7
  have HX6b := hid (HX6.out.keep (hw7.on fun b hb => hb.2))
  obtain ⟨a7, c7, rfl⟩ := crow_sh hx7
  have HQ8 := hid (implAlpha_any ks ds _ _ w7 _ _ HX6b.out HX7.out (fun b hb => by have := hb.2; omega) (fun b hb => hb.2) (by have := Hc.out; omega) (by have := Hd.out; omega))
  rw [HAL.out] at HQ8
  clear hx7 hw7 HQ7 HX6
  go_wp2_with fail
  refine HQ8.out.mono ?_
  rintro e w8 ⟨rfl, hw8⟩
  have s8 := hw8.size
  have HB8 := hid (HB7.out.trans (hw8.mono (by omega)))
  have HX6c := hid (HX6b.out.keep (hw8.on fun b hb => by have := hb.2; omega))
  have HX7c := hid (HX7.out.keep (hw8.on fun b hb => hb.2))
  have HQ9 := hid (HTO.out w8 ks _ (HV.out.keep (HB8.out.on HR.out)) (fun b hb => by have := HR.out b hb; omega) Hc.out)
  clear hw8 HQ8 HX6b HX7
  go_wp2_with fail
  refine HQ9.out.mono ?_
  rintro e w9 ⟨x9, rfl, hx9, hw9⟩
  have s9 := hw9.size
  have HB9 := hid (HB8.out.trans (hw9.mono (by omega)))
  obtain ⟨a9, c9, rfl⟩ := crow_sh hx9
  have HX7d := hid (HX7c.out.keep (hw9.on fun b hb => by have := hb.2; omega))
  have HQA := hid ((eqCore_all (Cm.szs ks)).2 ks (Nat.le_refl _) _ _ w9 _ _ (crow_form (HX6c.out.keep (hw9.on fun b hb => by have := hb.2; omega)) Hcm.out) (crow_form hx9 Hcm.out) (fun b hb => by have := hb.2; omega) (fun b hb => hb.2))
  clear hx9 hw9 HQ9 HX6c HX7c
  go_wp2_with fail
  refine HQA.out.mono ?_
  rintro e wA ⟨rfl, hwA⟩
  have sA := hwA.size
  have HBA := hid (HB9.out.trans (hwA.mono (by omega)))
  have HX7e := hid (HX7d.out.keep (hwA.on fun b hb => by have := hb.2; omega))
  have HQB := hid (HTO.out wA ds _ (HU.out.keep (HBA.out.on HR.out)) (fun b hb => by have := HR.out b hb; omega) Hd.out)
  clear hwA HQA HX7d
  go_wp2_with fail
  refine HQB.out.mono ?_
  rintro e wB ⟨xB, rfl, hxB, hwB⟩
  have sB := hwB.size
  have HBB := hid (HBA.out.trans (hwB.mono (by omega)))
  obtain ⟨aB, cB, rfl⟩ := crow_sh hxB
  have HQC := hid ((eqCore_all (Cm.szs ds)).2 ds (Nat.le_refl _) _ _ wB _ _ (crow_form (HX7e.out.keep (hwB.on fun b hb => by have := hb.2; omega)) Hdm.out) (crow_form hxB Hdm.out) (fun b hb => by have := hb.2; omega) (fun b hb => hb.2))
  clear hxB hwB HQB HX7e
  go_wp2_with fail
  refine HQC.out.mono ?_
  rintro e wC ⟨rfl, hwC⟩
  have HBC := hid (HBB.out.trans (hwC.mono (by omega)))
  clear hwC HQC
  go_wp2_with fail
  go_ret
  exact ⟨rfl, HBC.out⟩
end Go.Proofs.Ytghgilkdmdppcaa
