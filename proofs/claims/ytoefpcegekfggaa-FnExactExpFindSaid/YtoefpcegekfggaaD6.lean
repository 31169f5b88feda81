/- The law FnExactExpFind returns true, and nothing that was there has turned. Condition: the binds and the form that it is given lie in memory as BindsAt and FormAt say. -/
import Derived.Test.YtoefpcegekfggaaD5
import Derived.Test.YtoefpcegekfggaaB2
import Derived.Test.YtoefpcegekfggaaF2b
namespace Go.Proofs.Ytoefpcegekfggaa
open Go.RowKit Go.Siskin

theorem box5 {w w' : World} {c0 c1 c2 c3 c4 : Value} {t : TypeId} (h : Below (w.heap.size + 1) (w.alloc (.cells #[c0, c1, c2, c3, c4] t)) w') :
    w'.cell? ⟨w.heap.size, 0, none⟩ = some c0 ∧ w'.cell? ⟨w.heap.size, 1, none⟩ = some c1 ∧ w'.cell? ⟨w.heap.size, 2, none⟩ = some c2 ∧ w'.cell? ⟨w.heap.size, 3, none⟩ = some c3 ∧ w'.cell? ⟨w.heap.size, 4, none⟩ = some c4 :=
  ⟨(bx_q h 0).trans (by simp), (bx_q h 1).trans (by simp), (bx_q h 2).trans (by simp), (bx_q h 3).trans (by simp), (bx_q h 4).trans (by simp)⟩

set_option maxRecDepth 20000 in
set_option maxHeartbeats 4000000 in
theorem lawFind_any (ks : List Bd) (f : Fm) (B : Nat → Prop) (w : World) (v c0 c1 c2 c3 c4 : Value) (hv : BindsAt B w v ks) (hA : FormAt B w f c0 c1 c2 c3 c4) (hB : ∀ b, B b → b < w.heap.size) :
    Calls Try.prog 5 #[v, .agg #[c0, c1, c2, c3, c4]] w fun e w' => e = .returned (.bool true) ∧ Below w.heap.size w w' := by
  have HA := hid hA
  have HV := hid hv
  have HR := hid hB
  obtain ⟨rfl, rfl, ht, h2, rfl, h4⟩ := (formAt_iff _ _ _ _ _ _ _ _).1 hA
  obtain ⟨a2, k2, rfl, -⟩ := h2
  obtain ⟨a4, k4, rfl, -⟩ := h4
  obtain ⟨va, vc, rfl, -⟩ := hv
  clear hA hB
  go_enter Try.func5, Try.ntmps5
  go_wp2_with fail
  refine (szBinds_any ks B (w.alloc _) _ 1048576 (HV.out.keep ((SameOn.refl _ _).alloc HR.out _)) (fun b hb => by have := HR.out b hb; simp; omega) (by omega) (by omega)).mono ?_
  rintro e w1 ⟨rfl, hw1⟩
  simp only [World.size_alloc] at hw1
  have HW1 := hid hw1
  obtain ⟨p0, p1, p2, p3, p4⟩ := box5 hw1
  have s1 := hw1.size
  simp only [World.size_alloc] at s1
  clear hw1
  by_cases hneg : szI (ks.length + Bd.costs ks) 1048576 < 0
  · go_wp2_with fail
    go_ret
    exact ⟨rfl, bx_done HW1.out⟩
  have hcb : ks.length + Bd.costs ks ≤ 1048576 := by rw [szI_neg] at hneg; omega
  have hpos := szI_pos _ _ hneg
  have Hn := hid hneg
  clear hneg
  have hl0 : (0 : Int) ≤ szI (ks.length + Bd.costs ks) 1048576 := by omega
  have hl1 : szI (ks.length + Bd.costs ks) 1048576 ≤ 1048576 := by omega
  clear hpos
  generalize szI (ks.length + Bd.costs ks) 1048576 = left at *
  clear Hn
  have hnn : ¬ left < 0 := by omega
  go_wp2_with fail
  refine (szExpForm_any f B w1 _ _ _ _ _ left (FormAt.keep (bx_on HW1.out HR.out) _ HA.out) (fun b hb => by have := HR.out b hb; omega) hl0 hl1).mono ?_
  rintro e w2 ⟨rfl, hw2⟩
  have HW2 := hid (bx_step HW1.out hw2)
  have s2 := hw2.size
  clear hw2 p0 p1 p2 p3 p4
  by_cases hneg : szI f.cost left < 0
  · go_wp2_with fail
    go_ret
    exact ⟨rfl, bx_done HW2.out⟩
  have hc : f.cost ≤ 1048576 := by rw [szI_neg] at hneg; omega
  go_wp2_with fail
  have K2 := hid (box5 HW2.out.drew)
  have HQ3 := hid (toBinds_any ks B w2.drew (.slice va ks.length vc) (HV.out.keep (bx_on HW2.out.drew HR.out)) (fun b hb => by have := HR.out b hb; show b < w2.heap.size; omega) hcb)
  go_region_held3 (fun w' => w'.cell? ⟨w.heap.size, 0, none⟩ = some (.int .i64 f.sort) ∧ w'.cell? ⟨w.heap.size, 1, none⟩ = some (.string f.text) ∧ w'.cell? ⟨w.heap.size, 2, none⟩ = some (.slice a2 f.scopes.length k2) ∧ w'.cell? ⟨w.heap.size, 3, none⟩ = some (.int .i64 f.frm) ∧ w'.cell? ⟨w.heap.size, 4, none⟩ = some (.slice a4 f.kids.length k4))
    (first | exact K5.out | exact K4.out | exact K3.out | exact K2.out)
    (first
      | (go_at_call 15
         refine HQ3.out.mono ?_
         rintro e w3 ⟨u1, rfl, hb1, hw3⟩
         have HB1 := hid hb1
         have HW3 := hid (bx_step HW2.out.drew hw3)
         have s3 : w2.heap.size ≤ w3.heap.size := hw3.size
         have K3 := hid (box5 HW3.out)
         have HQ4 := hid (toExpForm_any f B w3 _ _ _ _ _ (FormAt.keep (bx_on HW3.out HR.out) _ HA.out) (fun b hb => by have := HR.out b hb; omega) hc)
         clear hb1 hw3)
      | (go_at_call 8
         refine HQ4.out.mono ?_
         rintro e w4 ⟨d0, d1, d2, d3, d4, rfl, hf4, hw4⟩
         have HF4 := hid hf4
         have HW4 := hid (bx_step HW3.out hw4)
         have s4 := hw4.size
         have K4 := hid (box5 HW4.out)
         have HQ5 := hid (specFind_any ks f (Fresh w2 w4) w4 u1 d0 d1 d2 d3 d4 ((HB1.out.keep (hw4.on fun b hb => hb.2)).mono fun b hb => ⟨hb.1, by have := hb.2; omega⟩) (FormAt.mono (fun b hb => ⟨by have := hb.1; omega, hb.2⟩) _ HF4.out) (fun b hb => hb.2))
         clear hf4 hw4)
      | (go_at_call 14
         refine HQ5.out.mono ?_
         rintro e w5 ⟨rfl, hw5⟩
         have HW5 := hid (bx_step HW4.out hw5)
         have s5 := hw5.size
         have K5 := hid (box5 HW5.out)
         clear hw5))
  clear K2 K3 K4 HQ3 HQ4 HQ5 HB1 HF4 HW3 HW4
  obtain ⟨p0, p1, p2, p3, p4⟩ := K5.out
  clear K5
  have hs5 : w.heap.size < w5.heap.size := by omega
  clear s1 s2 s3 s4 s5
  go_wp2_with fail
  refine (toBinds_any ks B w5 (.slice va ks.length vc) (HV.out.keep (bx_on HW5.out HR.out)) (fun b hb => by have := HR.out b hb; omega) hcb).mono ?_
  rintro e w6 ⟨u2, rfl, hb6, hw6⟩
  have HB6 := hid hb6
  have HW6 := hid (bx_step HW5.out hw6)
  have s6 := hw6.size
  clear hb6 hw6 p0 p1 p2 p3 p4
  obtain ⟨p0, p1, p2, p3, p4⟩ := box5 HW6.out
  go_wp2_with fail
  refine (toExpForm_any f B w6 _ _ _ _ _ (FormAt.keep (bx_on HW6.out HR.out) _ HA.out) (fun b hb => by have := HR.out b hb; omega) hc).mono ?_
  rintro e w7 ⟨e0, e1, e2, e3, e4, rfl, hf7, hw7⟩
  have HW7 := hid (bx_step HW6.out hw7)
  have s7 := hw7.size
  have HF7 := hid hf7
  have HB7 := hid (HB6.out.keep (hw7.on fun b hb => hb.2))
  obtain ⟨rfl, rfl, -, h2, rfl, h4⟩ := (formAt_iff _ _ _ _ _ _ _ _).1 hf7
  obtain ⟨x2, y2, rfl, -⟩ := h2
  obtain ⟨x4, y4, rfl, -⟩ := h4
  clear hf7 hw7 HB6 p0 p1 p2 p3 p4
  go_wp2_with fail
  refine (implFind_any ks f (Fresh w5 w7) (w7.alloc _) u2 _ _ _ _ _ ((HB7.out.mono fun b hb => ⟨hb.1, by have := hb.2; omega⟩).keep ((SameOn.refl _ _).alloc (fun b hb => hb.2) _)) (FormAt.keep ((SameOn.refl _ _).alloc (fun b hb => hb.2) _) _ (FormAt.mono (fun b hb => ⟨by have := hb.1; omega, hb.2⟩) _ HF7.out)) (fun b hb => by have := hb.2; simp; omega) hcb hc).mono ?_
  rintro e w9 ⟨rfl, hw9⟩
  simp only [World.size_alloc] at hw9
  have HW9 := hid ((HW7.out.alloc (by omega) _).trans (hw9.mono (by omega)))
  have HX9 := hid hw9
  have HF9 := hid (FormAt.keep (bx_on hw9 (fun b hb => hb.2)) f HF7.out)
  have HB9 := hid (HB7.out.keep (bx_on hw9 (fun b hb => by have := hb.2; omega)))
  have s9 := hw9.size
  simp only [World.size_alloc] at s9
  clear hw9 HF7 HB7
  go_wp2_with fail
  refine (toBinds_any ks B w9 (.slice va ks.length vc) (HV.out.keep (bx_on HW9.out HR.out)) (fun b hb => by have := HR.out b hb; omega) hcb).mono ?_
  rintro e w10 ⟨u3, rfl, hb10, hw10⟩
  have HB10 := hid hb10
  have HW10 := hid (bx_step HW9.out hw10)
  have HX10 := hid (bx_step HX9.out hw10)
  have s10 := hw10.size
  have HQ := hid (eqBinds_any ks (Fresh w5 w6) (Fresh w9 w10) w10 u2 u3 (HB9.out.keep (hw10.on fun b hb => by have := hb.2; omega)) hb10 (fun b hb => by have := hb.2; omega) (fun b hb => hb.2))
  have HF10 := hid (FormAt.keep (hw10.on fun b hb => by have := hb.2; omega) f HF9.out)
  clear hb10 hw10 HF9 HB9
  go_wp2_with fail
  refine HQ.out.mono ?_
  rintro e w11 ⟨rfl, hw11⟩
  have HW11 := hid (bx_step HW10.out hw11)
  have HX11 := hid (bx_step HX10.out hw11)
  have s11 := hw11.size
  have HF11 := hid (FormAt.keep (hw11.on fun b hb => by have := hb.2; omega) f HF10.out)
  clear hw11 HQ HF10
  go_wp2_with fail
  have K11 := hid (And.intro (box5 HW11.out.drew) (box5 HX11.out.drew))
  have HQ12 := hid (toExpForm_any f B w11.drew _ _ _ _ _ (FormAt.keep (bx_on HW11.out.drew HR.out) _ HA.out) (fun b hb => by have := HR.out b hb; show b < w11.heap.size; omega) hc)
  go_region_held3 (fun w' => (w'.cell? ⟨w.heap.size, 0, none⟩ = some (.int .i64 f.sort) ∧ w'.cell? ⟨w.heap.size, 1, none⟩ = some (.string f.text) ∧ w'.cell? ⟨w.heap.size, 2, none⟩ = some (.slice a2 f.scopes.length k2) ∧ w'.cell? ⟨w.heap.size, 3, none⟩ = some (.int .i64 f.frm) ∧ w'.cell? ⟨w.heap.size, 4, none⟩ = some (.slice a4 f.kids.length k4)) ∧ w'.cell? ⟨w7.heap.size, 0, none⟩ = some (.int .i64 f.sort) ∧ w'.cell? ⟨w7.heap.size, 1, none⟩ = some (.string f.text) ∧ w'.cell? ⟨w7.heap.size, 2, none⟩ = some (.slice x2 f.scopes.length y2) ∧ w'.cell? ⟨w7.heap.size, 3, none⟩ = some (.int .i64 f.frm) ∧ w'.cell? ⟨w7.heap.size, 4, none⟩ = some (.slice x4 f.kids.length y4))
    (first | exact K13.out | exact K12.out | exact K11.out)
    (first
      | (go_at_call 8
         refine HQ12.out.mono ?_
         rintro e w12 ⟨g0, g1, g2, g3, g4, rfl, hf12, hw12⟩
         have HW12 := hid (bx_step HW11.out.drew hw12)
         have HX12 := hid (bx_step HX11.out.drew hw12)
         have K12 := hid (And.intro (box5 HW12.out) (box5 HX12.out))
         have HQ13 := hid (eqExpForm_any f (Fresh w6 w7) (Fresh w11.drew w12) w12 _ _ _ _ _ g0 g1 g2 g3 g4 (FormAt.keep (hw12.on (fun b hb => by have := hb.2; show b < w11.heap.size; omega)) _ (FormAt.keep (SameOn.drew _ _) _ HF11.out)) hf12 (fun b hb => by have := hb.2; have h : w11.heap.size ≤ w12.heap.size := hw12.size; omega) (fun b hb => hb.2))
         clear hf12 hw12)
      | (go_at_call 10
         refine HQ13.out.mono ?_
         rintro e w13 ⟨rfl, hw13⟩
         have HW13 := hid (bx_step HW12.out hw13)
         have HX13 := hid (bx_step HX12.out hw13)
         have K13 := hid (And.intro (box5 HW13.out) (box5 HX13.out))
         clear hw13))
  go_wp2_with fail
  go_ret
  exact ⟨rfl, bx_done HW13.out⟩

end Go.Proofs.Ytoefpcegekfggaa
