/-
  The program's waysBySort, newAlpha and ExpAlpha. Condition: both lists lie in memory, every list in a block of its own, and cost at most 1048576 together.
-/
import Derived.Test.YtghgilkdmdppcaaR7
import Derived.Test.YtghgilkdmdppcaaQ10
namespace Go.Proofs.Ytghgilkdmdppcaa
open Go.RowKit Go.Siskin

abbrev ten (v : Value) : Array Value := #[v, v, v, v, v, v, v, v, v, v]
abbrev waysA (b : Nat) : Array Value := #[fE b, fE b, fS b, fE b, fE b, fE b, fS b, fE b, fE b, fS b]

def put10 (V : World) (g b : Nat) : World := ((((((((((V.setCell ⟨g, 0, none⟩ (fE b)).setCell ⟨g, 1, none⟩ (fE b)).setCell ⟨g, 2, none⟩ (fS b)).setCell ⟨g, 3, none⟩ (fE b)).setCell ⟨g, 4, none⟩ (fE b)).setCell ⟨g, 5, none⟩ (fE b)).setCell ⟨g, 6, none⟩ (fS b)).setCell ⟨g, 7, none⟩ (fE b)).setCell ⟨g, 8, none⟩ (fE b)).setCell ⟨g, 9, none⟩ (fS b))
theorem put10_own (V : World) (g b : Nat) (h : Own V g 51 (ten .nilFunc)) : Own (put10 V g b) g 51 (waysA b) := by
  have h2 := ((((((((((h.set 0 (fE b)).set 1 (fE b)).set 2 (fS b)).set 3 (fE b)).set 4 (fE b)).set 5 (fE b)).set 6 (fS b)).set 7 (fE b)).set 8 (fE b)).set 9 (fS b))
  simp only [ten, List.setIfInBounds_toArray, List.set_cons_zero, List.set_cons_succ] at h2
  unfold put10
  exact h2
theorem put10_below (V w : World) (g b : Nat) (h0 : Below g w V) : Below g w (put10 V g b) := by
  unfold put10
  exact ((((((((((h0.setCell (p := ⟨g, 0, none⟩) (Nat.le_refl _) _).setCell (p := ⟨g, 1, none⟩) (Nat.le_refl _) _).setCell (p := ⟨g, 2, none⟩) (Nat.le_refl _) _).setCell (p := ⟨g, 3, none⟩) (Nat.le_refl _) _).setCell (p := ⟨g, 4, none⟩) (Nat.le_refl _) _).setCell (p := ⟨g, 5, none⟩) (Nat.le_refl _) _).setCell (p := ⟨g, 6, none⟩) (Nat.le_refl _) _).setCell (p := ⟨g, 7, none⟩) (Nat.le_refl _) _).setCell (p := ⟨g, 8, none⟩) (Nat.le_refl _) _).setCell (p := ⟨g, 9, none⟩) (Nat.le_refl _) _)

set_option maxRecDepth 20000 in
set_option maxHeartbeats 1000000 in
theorem waysA_any (b : Nat) (w : World) :
    Calls Try.prog 21 #[pa b] w fun e w' => e = .returned (.agg (waysA b)) ∧ Below w.heap.size w w' := by
  go_enter Try.func21, Try.ntmps21
  go_wp2_with fail
  go_loopw [6] (fun i wr => ∃ k : Nat, k ≤ 10 ∧ i = .int .i64 k ∧ Hid (∃ cs : Array Value, Own wr (w.heap.size + 1) 51 cs ∧ cs.size = 10 ∧ (∀ j, j < k → cs[j]? = some (fE b)) ∧ Below (w.heap.size + 1) (w.alloc (.cells (ten .nilFunc) 51)) wr)) (fun i _ => 10 - (intOf i).toNat)
  case atStart =>
    refine ⟨0, Nat.zero_le _, rfl, ten .nilFunc, ?_, rfl, fun j hj => absurd hj (by omega), ?_⟩
    · have h := own_new (w.alloc (.cells (ten .nilFunc) 51)) (ten .nilFunc) 51
      rw [World.size_alloc] at h
      exact h
    · exact (Below.refl _ _).alloc (by simp) _
  case round =>
    obtain ⟨k, hk, rfl, HA⟩ := hrel
    obtain ⟨cs, ho, hcs, hgot, hbel⟩ := HA.out
    have HO := hid ho
    have HG := hid hgot
    have HB := hid hbel
    clear HA hgot hbel
    by_cases hlt : k < 10
    · have gc := ho.cell k
      rw [Array.getElem?_eq_getElem (by omega)] at gc
      have gf := ho.frozen k
      clear ho
      go_wp2_with fail
      refine ⟨⟨k + 1, by omega, by go_num, cs.setIfInBounds k (fE b), HO.out.set k _, by simp [hcs], fun j hj => ?_, HB.out.setCell (Nat.le_refl _) _⟩, by simp [intOf]; omega⟩
      rw [Array.getElem?_setIfInBounds]
      by_cases e : k = j
      · rw [if_pos e, if_pos (by omega)]
      · rw [if_neg e]; exact HG.out j (by omega)
    · have hk10 : k = 10 := by omega
      subst hk10
      have hcsE : cs = ten (fE b) := by
        apply Array.ext_getElem?
        intro j
        by_cases hj : j < 10
        · rw [HG.out j hj]
          have : j = 0 ∨ j = 1 ∨ j = 2 ∨ j = 3 ∨ j = 4 ∨ j = 5 ∨ j = 6 ∨ j = 7 ∨ j = 8 ∨ j = 9 := by omega
          rcases this with rfl | rfl | rfl | rfl | rfl | rfl | rfl | rfl | rfl | rfl <;> rfl
        · rw [Array.getElem?_eq_none (by omega), Array.getElem?_eq_none (by simp; omega)]
      subst hcsE
      have hO0 : Own wr w.heap.size 51 (ten .nilFunc) := (HB.out.block w.heap.size (by omega)).trans (own_new _ _ _)
      have a2 : wr.cell? ⟨w.heap.size + 1, 2, none⟩ = some (fE b) := (ho.cell 2).trans rfl
      have b2 := ho.frozen 2
      have a6 : wr.cell? ⟨w.heap.size + 1, 6, none⟩ = some (fE b) := (ho.cell 6).trans rfl
      have b6 := ho.frozen 6
      have a9 : wr.cell? ⟨w.heap.size + 1, 9, none⟩ = some (fE b) := (ho.cell 9).trans rfl
      have b9 := ho.frozen 9
      obtain ⟨V, hV⟩ : ∃ V, V = (((wr.setCell ⟨w.heap.size + 1, 2, none⟩ (fS b)).setCell ⟨w.heap.size + 1, 6, none⟩ (fS b)).setCell ⟨w.heap.size + 1, 9, none⟩ (fS b)) := ⟨_, rfl⟩
      have oV : Own V (w.heap.size + 1) 51 (waysA b) := by
        have h2 := ((ho.set 2 (fS b)).set 6 (fS b)).set 9 (fS b)
        rw [hV]; exact h2
      have oV0 : Own V w.heap.size 51 (ten .nilFunc) := by
        have hx : SameOn (fun i => i = w.heap.size) wr V := by
          rw [hV]
          exact ((((SameOn.refl _ _).setCell (by simp) _).setCell (by simp) _).setCell (by simp) _)
        exact (hx _ rfl).trans hO0
      have HBV : Hid (Below (w.heap.size + 1) (w.alloc (.cells (ten .nilFunc) 51)) V) := by
        show Below _ _ _
        rw [hV]
        exact ((HB.out.setCell (by simp) _).setCell (by simp) _).setCell (by simp) _
      have z0 : V.cell? ⟨w.heap.size + 1, 0, none⟩ = some (fE b) := (oV.cell 0).trans rfl
      have y0 : V.cell? ⟨w.heap.size, 0, none⟩ = some .nilFunc := (oV0.cell 0).trans rfl
      have t0 := oV0.frozen 0
      have z1 : V.cell? ⟨w.heap.size + 1, 1, none⟩ = some (fE b) := (oV.cell 1).trans rfl
      have y1 : V.cell? ⟨w.heap.size, 1, none⟩ = some .nilFunc := (oV0.cell 1).trans rfl
      have t1 := oV0.frozen 1
      have z2 : V.cell? ⟨w.heap.size + 1, 2, none⟩ = some (fS b) := (oV.cell 2).trans rfl
      have y2 : V.cell? ⟨w.heap.size, 2, none⟩ = some .nilFunc := (oV0.cell 2).trans rfl
      have t2 := oV0.frozen 2
      have z3 : V.cell? ⟨w.heap.size + 1, 3, none⟩ = some (fE b) := (oV.cell 3).trans rfl
      have y3 : V.cell? ⟨w.heap.size, 3, none⟩ = some .nilFunc := (oV0.cell 3).trans rfl
      have t3 := oV0.frozen 3
      have z4 : V.cell? ⟨w.heap.size + 1, 4, none⟩ = some (fE b) := (oV.cell 4).trans rfl
      have y4 : V.cell? ⟨w.heap.size, 4, none⟩ = some .nilFunc := (oV0.cell 4).trans rfl
      have t4 := oV0.frozen 4
      have z5 : V.cell? ⟨w.heap.size + 1, 5, none⟩ = some (fE b) := (oV.cell 5).trans rfl
      have y5 : V.cell? ⟨w.heap.size, 5, none⟩ = some .nilFunc := (oV0.cell 5).trans rfl
      have t5 := oV0.frozen 5
      have z6 : V.cell? ⟨w.heap.size + 1, 6, none⟩ = some (fS b) := (oV.cell 6).trans rfl
      have y6 : V.cell? ⟨w.heap.size, 6, none⟩ = some .nilFunc := (oV0.cell 6).trans rfl
      have t6 := oV0.frozen 6
      have z7 : V.cell? ⟨w.heap.size + 1, 7, none⟩ = some (fE b) := (oV.cell 7).trans rfl
      have y7 : V.cell? ⟨w.heap.size, 7, none⟩ = some .nilFunc := (oV0.cell 7).trans rfl
      have t7 := oV0.frozen 7
      have z8 : V.cell? ⟨w.heap.size + 1, 8, none⟩ = some (fE b) := (oV.cell 8).trans rfl
      have y8 : V.cell? ⟨w.heap.size, 8, none⟩ = some .nilFunc := (oV0.cell 8).trans rfl
      have t8 := oV0.frozen 8
      have z9 : V.cell? ⟨w.heap.size + 1, 9, none⟩ = some (fS b) := (oV.cell 9).trans rfl
      have y9 : V.cell? ⟨w.heap.size, 9, none⟩ = some .nilFunc := (oV0.cell 9).trans rfl
      have t9 := oV0.frozen 9
      obtain ⟨V3, hV3⟩ : ∃ V3, V3 = put10 V w.heap.size b := ⟨_, rfl⟩
      have o3 : Own V3 w.heap.size 51 (waysA b) := by
        rw [hV3]; exact put10_own V w.heap.size b oV0
      have HB3 : Hid (Below w.heap.size w V3) := by
        show Below _ _ _
        rw [hV3]
        exact put10_below V w _ b (((Below.refl _ _).alloc (Nat.le_refl _) _).trans (HBV.out.mono (by omega)))
      have x0 : V3.cell? ⟨w.heap.size, 0, none⟩ = some (fE b) := (o3.cell 0).trans rfl
      have x1 : V3.cell? ⟨w.heap.size, 1, none⟩ = some (fE b) := (o3.cell 1).trans rfl
      have x2 : V3.cell? ⟨w.heap.size, 2, none⟩ = some (fS b) := (o3.cell 2).trans rfl
      have x3 : V3.cell? ⟨w.heap.size, 3, none⟩ = some (fE b) := (o3.cell 3).trans rfl
      have x4 : V3.cell? ⟨w.heap.size, 4, none⟩ = some (fE b) := (o3.cell 4).trans rfl
      have x5 : V3.cell? ⟨w.heap.size, 5, none⟩ = some (fE b) := (o3.cell 5).trans rfl
      have x6 : V3.cell? ⟨w.heap.size, 6, none⟩ = some (fS b) := (o3.cell 6).trans rfl
      have x7 : V3.cell? ⟨w.heap.size, 7, none⟩ = some (fE b) := (o3.cell 7).trans rfl
      have x8 : V3.cell? ⟨w.heap.size, 8, none⟩ = some (fE b) := (o3.cell 8).trans rfl
      have x9 : V3.cell? ⟨w.heap.size, 9, none⟩ = some (fS b) := (o3.cell 9).trans rfl
      have s3 : w.heap.size < V3.heap.size := o3.lt
      clear ho hO0 oV oV0 HO HG o3
      have hV' := hV.symm
      unfold put10 at hV3
      have hV3' := hV3.symm
      clear hV hV3
      go_wp2_with fail
      refine bodyPost_ret (v := .agg (waysA b)) (by simp [results, Try.results21, go_sem, x0, x1, x2, x3, x4, x5, x6, x7, x8, x9]) rfl ⟨rfl, HB3.out⟩
end Go.Proofs.Ytghgilkdmdppcaa
