/- The program's ExpFind tells what an identifier stands for, as the model's plain function says. Condition: the binds and the form lie in memory as BindsAt and FormAt say, and are not too long. -/
import Derived.Test.YtbloafjkejkjcaaD4
namespace Go.Proofs.Ytbloafjkejkjcaa
open Go.RowKit Go.Siskin

theorem Bd.scopes_le {ks : List Bd} {d : Bd} (hd : d ∈ ks) (h : ks.length + Bd.costs ks ≤ 1048576) : d.scopes.length ≤ 1048576 := by
  obtain ⟨i, hi, rfl⟩ := List.getElem_of_mem hd
  have := Bd.costs_get ks i hi
  unfold Bd.cost at this
  omega

set_option maxRecDepth 20000 in
set_option maxHeartbeats 4000000 in
theorem implFind_any (ks : List Bd) (f : Fm) (B : Nat → Prop) (w : World) (v c0 c1 c2 c3 c4 : Value) (hv : BindsAt B w v ks) (hA : FormAt B w f c0 c1 c2 c3 c4) (hB : ∀ b, B b → b < w.heap.size) (hn : ks.length + Bd.costs ks ≤ 1048576) (hc : f.cost ≤ 1048576) :
    Calls Try.prog 5 #[v, .agg #[c0, c1, c2, c3, c4]] w fun e w' => e = .returned (.tuple #[.string (findF ks f).1, .int .i64 (findF ks f).2]) ∧ Below w.heap.size w w' := by
  obtain ⟨rfl, rfl, htf, g2, rfl, g4⟩ := (formAt_iff _ _ _ _ _ _ _ _).1 hA
  have HR := hid hB
  have HV := hid hv
  have H2 := hid g2
  have Ht := hid htf
  have HC := hid (Fm.cost_eq f)
  obtain ⟨b2, cb2, rfl, -⟩ := g2
  obtain ⟨a4, ca4, rfl, -⟩ := g4
  obtain ⟨va, vc, rfl, -⟩ := hv
  clear hA hB htf
  by_cases hs : f.sort = 1
  · have HX : Hid (findF ks f = findP ((ofT f.text ks).filter (fitP f.scopes))) := by
      show _ = _
      unfold findF
      rw [if_pos hs, findP_eq, find_same setD (fun d => setL_asc _) (fun d x => setL_mem _ x)]
    rw [hs, HX.out]
    clear hs
    go_enter Try.func5, Try.ntmps5
    go_wp2_with fail
    obtain ⟨W, hW⟩ : ∃ W, W = w.alloc (.cells #[.int .i64 1, .string f.text, .slice b2 f.scopes.length cb2, .int .i64 f.frm, .slice a4 f.kids.length ca4] 27) := ⟨_, rfl⟩
    rw [← hW]
    have hO : Own W w.heap.size 27 #[.int .i64 1, .string f.text, .slice b2 f.scopes.length cb2, .int .i64 f.frm, .slice a4 f.kids.length ca4] := by rw [hW]; exact own_new _ _ _
    have hWB : Below w.heap.size w W.drew := by rw [hW]; exact ((Below.refl _ _).alloc (Nat.le_refl _) _).drew
    have hWs : W.heap.size = w.heap.size + 1 := by rw [hW]; simp
    clear hW
    have q1 := hO.cell 1
    have q2 := hO.cell 2
    simp at q1 q2
    have K0 : Hid (W.drew.cell? ⟨w.heap.size, 1, none⟩ = some (.string f.text) ∧ W.drew.cell? ⟨w.heap.size, 2, none⟩ = some (.slice b2 f.scopes.length cb2)) := ⟨q1, q2⟩
    have HWB := hid hWB
    have HR0 := hid (fun b (hb : B b) => show b < W.drew.heap.size by have := HR.out b hb; show b < W.heap.size; omega)
    have HQ := hid (boundNamesOf_any ks B W.drew (.slice va ks.length vc) (HV.out.keep (hWB.on HR.out)) HR0.out (by omega) (fun d hd => Bd.scopes_le hd hn))
    clear hO hWB
    go_region_held3 (fun w' => w'.cell? ⟨w.heap.size, 1, none⟩ = some (.string f.text) ∧ w'.cell? ⟨w.heap.size, 2, none⟩ = some (.slice b2 f.scopes.length cb2))
      (first | exact K3.out | exact K2.out | exact K1.out | exact K0.out)
      (first
        | (go_at_call 14
           refine HQ.out.mono ?_
           rintro e w1 ⟨rfl, hw1, S, G, hg1, hBS⟩
           have HG1 : Hid (GroupsAt S w1 (w.heap.size + 1 + 1) (w.heap.size + 1) ks.length ks G) := by rw [← hWs]; exact hg1
           have HBS := hid hBS
           have HW1 := hid hw1
           have hs1 : W.heap.size ≤ w1.heap.size := hw1.size
           have K1 : Hid (w1.cell? ⟨w.heap.size, 1, none⟩ = some (.string f.text) ∧ w1.cell? ⟨w.heap.size, 2, none⟩ = some (.slice b2 f.scopes.length cb2)) :=
             ⟨(hw1.cell (p := ⟨w.heap.size, 1, none⟩) (by show w.heap.size < W.heap.size; omega)).trans K0.out.1, (hw1.cell (p := ⟨w.heap.size, 2, none⟩) (by show w.heap.size < W.heap.size; omega)).trans K0.out.2⟩
           have HQ2 := hid (setOf_any B (.slice b2 f.scopes.length cb2) f.scopes w1 ((H2.out.keep (HWB.out.on HR.out)).keep (hw1.on HR0.out)) (fun b hb => by have := HR.out b hb; omega) (by have := HC.out; omega))
           clear hg1 hBS hw1)
        | (go_at_call 16
           refine HQ2.out.mono ?_
           rintro e w2 ⟨u, rfl, hu, hw2⟩
           have HU := hid (hu.mono (B' := Reg S w1 w2) fun i hi => either hi (fun h => HBS.out i h) id)
           have hs2 := hw2.size
           have HG2 := hid (HG1.out.grow hw2)
           have HW2 := hid hw2
           have K2 : Hid (w2.cell? ⟨w.heap.size, 1, none⟩ = some (.string f.text) ∧ w2.cell? ⟨w.heap.size, 2, none⟩ = some (.slice b2 f.scopes.length cb2)) :=
             ⟨(hw2.cell (p := ⟨w.heap.size, 1, none⟩) (by show w.heap.size < w1.heap.size; omega)).trans K1.out.1, (hw2.cell (p := ⟨w.heap.size, 2, none⟩) (by show w.heap.size < w1.heap.size; omega)).trans K1.out.2⟩
           have HQ3 := hid (find_any _ w2 _ _ _ ks G HG2.out f.text Ht.out u f.scopes HU.out (Nat.le_trans (setL_len _) (by have := HC.out; omega)) (fun d hd => Nat.le_trans (setL_len _) (Bd.scopes_le hd hn)) (by omega))
           obtain ⟨ua, uc, rfl, -⟩ := hu
           clear hw2)
        | (go_at_call 15
           refine HQ3.out.mono ?_
           rintro e w3 ⟨rfl, hw3⟩
           have HW3 := hid hw3
           have K3 : Hid (w3.cell? ⟨w.heap.size, 1, none⟩ = some (.string f.text) ∧ w3.cell? ⟨w.heap.size, 2, none⟩ = some (.slice b2 f.scopes.length cb2)) :=
             ⟨(hw3.cell (p := ⟨w.heap.size, 1, none⟩) (by show w.heap.size < w2.heap.size; omega)).trans K2.out.1, (hw3.cell (p := ⟨w.heap.size, 2, none⟩) (by show w.heap.size < w2.heap.size; omega)).trans K2.out.2⟩
           clear hw3))
    all_goals go_wp2_with fail
    all_goals go_ret2
    all_goals exact ⟨rfl, HWB.out.trans (((HW1.out.mono (by show w.heap.size ≤ W.heap.size; omega)).trans (HW2.out.mono (by omega))).trans (HW3.out.mono (by omega)))⟩
  · have HX : Hid (findF ks f = (⟨#[]⟩, 0)) := by
      show _ = _
      unfold findF
      rw [if_neg hs]
    have hs' : (f.sort != 1) = true := by simp [hs]
    clear hs
    go_enter Try.func5, Try.ntmps5
    go_wp2_with fail
    go_ret2
    exact ⟨ret_find HX.out, (Below.refl _ _).alloc (Nat.le_refl _) _⟩

end Go.Proofs.Ytbloafjkejkjcaa
