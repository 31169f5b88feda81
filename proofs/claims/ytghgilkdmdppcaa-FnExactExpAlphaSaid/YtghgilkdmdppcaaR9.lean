/-
  The program's newAlpha and ExpAlpha. Condition: both lists lie in memory, every list in a block of its own, and cost at most 1048576 each.
-/
import Derived.Test.YtghgilkdmdppcaaR8
namespace Go.Proofs.Ytghgilkdmdppcaa
open Go.RowKit Go.Siskin

/-- Where the two maps lie. -/
def mm (s : Nat) : Bool → Nat := fun i => if i = true then s else s + 1
abbrev alNil (s : Nat) : Array Value := #[.nilFunc, .nilFunc, .nilFunc, .nilFunc, .nilFunc, .nilFunc, .nilFunc, .nilFunc, .nilFunc, .nilFunc, .map (some s), .map (some (s + 1)), .int .i64 0]

theorem put10_alpha (V : World) (b s : Nat) (h : Own V b 53 (alNil s)) : Own (put10 V b b) b 53 (alCells b (mm s) 0) := by
  have h2 := (((((((((h.set 0 (fE b)).set 1 (fE b)).set 2 (fS b)).set 3 (fE b)).set 4 (fE b)).set 5 (fE b)).set 6 (fS b)).set 7 (fE b)).set 8 (fE b)).set 9 (fS b)
  simp only [alNil, List.setIfInBounds_toArray, List.set_cons_zero, List.set_cons_succ] at h2
  unfold put10
  exact h2
theorem put10_size (V : World) (g b : Nat) : (put10 V g b).heap.size = V.heap.size := by unfold put10; simp

theorem map_moved {w w' : World} {b n : Nat} {G : ByteArray → Option Value} (h : MapAt Try.prog 9 w b n G) (e : w'.heap[b]? = w.heap[b]?) : MapAt Try.prog 9 w' b n G := h.keep fun k hk => by rw [hk]; exact e

set_option maxRecDepth 20000 in
set_option maxHeartbeats 1000000 in
theorem newAlpha_any (w : World) :
    Calls Try.prog 13 #[] w fun e w' => e = .returned (pa (w.heap.size + 2)) ∧ AlphaAt w' (fun k => k < w.heap.size) (w.heap.size + 3) (w.heap.size + 2) (mm w.heap.size) 0 0 (nums []) (fun _ _ => none) ∧ Below w.heap.size w w' := by
  have hmk : ∀ W : World, (Instr.makeMap 48 none).run Try.prog W = .ok (.map (some W.heap.size)) (W.alloc (.map #[] 0)) := fun W => run_makeMap _ W
  obtain ⟨W, hW⟩ : ∃ W, W = ((w.alloc (.map #[] 0)).alloc (.map #[] 0)).alloc (.cells (alNil w.heap.size) 53) := ⟨_, rfl⟩
  have hsW : W.heap.size = w.heap.size + 3 := by rw [hW]; simp
  have hBW : Below w.heap.size w W := by rw [hW]; exact (((Below.refl _ _).alloc (Nat.le_refl _) _).alloc (by simp) _).alloc (by simp; omega) _
  have hM0 : MapAt Try.prog 9 W w.heap.size 0 (fun _ => none) := by
    rw [hW]
    exact map_moved (map_moved (mapAt_made w _ _) (Below.heap_alloc _ _ _ (by simp))) (Below.heap_alloc _ _ _ (by simp; omega))
  have hM1 : MapAt Try.prog 9 W (w.heap.size + 1) 0 (fun _ => none) := by
    have h := mapAt_made (w.alloc (.map #[] 0)) Try.prog 9
    rw [World.size_alloc] at h
    rw [hW]
    exact map_moved h (Below.heap_alloc _ _ _ (by simp))
  have hO : Own W (w.heap.size + 2) 53 (alNil w.heap.size) := by
    have h := own_new ((w.alloc (.map #[] 0)).alloc (.map #[] 0)) (alNil w.heap.size) 53
    rw [World.size_alloc, World.size_alloc] at h
    rw [hW]; exact h
  have HBW := hid hBW
  have HM0 := hid hM0
  have HM1 := hid hM1
  have HO := hid hO
  have HQ := hid (waysA_any (w.heap.size + 2) W)
  have hW' := hW.symm
  clear hW hBW hM0 hM1 hO
  go_enter Try.func13, Try.ntmps13
  go_wp2_with fail
  refine HQ.out.mono ?_
  rintro e w1 ⟨rfl, hw1⟩
  have hs1 := hw1.size
  have HB1 := hid hw1
  have hO1 := HO.out.keep hw1 HO.out.lt
  have HO1 := hid hO1
  have y0 : w1.cell? ⟨w.heap.size + 2, 0, none⟩ = some .nilFunc := (hO1.cell 0).trans rfl
  have t0 := hO1.frozen 0
  have y1 : w1.cell? ⟨w.heap.size + 2, 1, none⟩ = some .nilFunc := (hO1.cell 1).trans rfl
  have t1 := hO1.frozen 1
  have y2 : w1.cell? ⟨w.heap.size + 2, 2, none⟩ = some .nilFunc := (hO1.cell 2).trans rfl
  have t2 := hO1.frozen 2
  have y3 : w1.cell? ⟨w.heap.size + 2, 3, none⟩ = some .nilFunc := (hO1.cell 3).trans rfl
  have t3 := hO1.frozen 3
  have y4 : w1.cell? ⟨w.heap.size + 2, 4, none⟩ = some .nilFunc := (hO1.cell 4).trans rfl
  have t4 := hO1.frozen 4
  have y5 : w1.cell? ⟨w.heap.size + 2, 5, none⟩ = some .nilFunc := (hO1.cell 5).trans rfl
  have t5 := hO1.frozen 5
  have y6 : w1.cell? ⟨w.heap.size + 2, 6, none⟩ = some .nilFunc := (hO1.cell 6).trans rfl
  have t6 := hO1.frozen 6
  have y7 : w1.cell? ⟨w.heap.size + 2, 7, none⟩ = some .nilFunc := (hO1.cell 7).trans rfl
  have t7 := hO1.frozen 7
  have y8 : w1.cell? ⟨w.heap.size + 2, 8, none⟩ = some .nilFunc := (hO1.cell 8).trans rfl
  have t8 := hO1.frozen 8
  have y9 : w1.cell? ⟨w.heap.size + 2, 9, none⟩ = some .nilFunc := (hO1.cell 9).trans rfl
  have t9 := hO1.frozen 9
  obtain ⟨V, hV⟩ : ∃ V, V = put10 w1 (w.heap.size + 2) (w.heap.size + 2) := ⟨_, rfl⟩
  have HOV : Hid (Own V (w.heap.size + 2) 53 (alCells (w.heap.size + 2) (mm w.heap.size) 0)) := by
    show Own _ _ _ _
    rw [hV]; exact put10_alpha w1 _ _ hO1
  have HBV : Hid (Below (w.heap.size + 2) w1 V) := by
    show Below _ _ _
    rw [hV]; exact put10_below w1 w1 _ _ (Below.refl _ _)
  unfold put10 at hV
  have hV' := hV.symm
  clear hV hw1 hO1 hW' HQ
  go_wp2_with fail
  go_ret
  have hB : Below w.heap.size w V := (HBW.out.trans (HB1.out.mono (by omega))).trans (HBV.out.mono (by omega))
  have hsV := HBV.out.size
  refine ⟨rfl, ⟨HOV.out, ⟨fun i => ?_, fun i s => World.ownsRow_nil _ _ _ _, fun _ _ _ _ _ => Or.inl rfl, fun i => ?_, ?_, by omega, fun _ _ _ h => (by cases h), fun i h => ?_, fun k h => ?_⟩, fun h => (by omega)⟩, hB⟩
  · have e : ∀ k, k < w.heap.size + 2 → V.heap[k]? = W.heap[k]? := fun k hk => (HBV.out.block k hk).trans (HB1.out.block k (by omega))
    cases i
    · exact map_moved HM1.out (e (w.heap.size + 1) (by omega))
    · exact map_moved HM0.out (e w.heap.size (by omega))
  · cases i <;> simp [mm] <;> omega
  · simp [mm]
  · rcases h with h | h <;> cases i <;> simp [mm] at h <;> omega
  · rcases h with h | h
    · have := hB.size; omega
    · omega

theorem crow_form {w : World} {S : Nat → Prop} {v : Value} {ks : List Cm} (h : CRow w S v ks) (hc : ks.length + Cm.costs ks ≤ maxLen) : CoresAt S w v ks := by
  have ht : CTree w ⟨0, ⟨#[]⟩, false, [], ks⟩ S (.slice none 0 0) v := by
    rw [ctree_iff]
    exact ⟨World.ownsRow_nil _ _ _ _, fun g e => (by cases e), h.mono fun b hb => ⟨hb, by simp [Value.ownBlock]⟩⟩
  have hf := ht.form (by rw [Cm.cost_eq]; show 0 + strc [] + ks.length + Cm.costs ks ≤ _; rw [strc_nil]; omega)
  exact ((coreAt_iff _ _ _ _ _ _ _ _).1 hf).2.2.2.2.2

set_option maxRecDepth 20000 in
set_option maxHeartbeats 1000000 in
theorem implAlpha_any (ks ds : List Cm) (S S' : Nat → Prop) (w : World) (v u : Value) (hv : CRow w S v ks) (hu : CRow w S' u ds) (hS : ∀ x, S x → x < w.heap.size) (hS' : ∀ x, S' x → x < w.heap.size) (hc : Cm.costs ks + ks.length ≤ 1048576) (hd : Cm.costs ds + ds.length ≤ 1048576) :
    Calls Try.prog 7 #[v, u] w fun e w' => e = .returned (.bool (alphaS [] ks ds)) ∧ Below w.heap.size w w' := by
  have HV := hid hv
  have HU := hid hu
  have HS := hid hS
  have HS' := hid hS'
  have HQ1 := hid (haveEndTop_any ks S w v hv hS hc)
  obtain ⟨a, ca, rfl⟩ : ∃ a c, v = .slice a ks.length c := by
    obtain ⟨cs, F, h⟩ := hv
    exact crow_shape h.row
  obtain ⟨a', ca', rfl⟩ : ∃ a c, u = .slice a ds.length c := by
    obtain ⟨cs, F, h⟩ := hu
    exact crow_shape h.row
  clear hv hu hS hS'
  go_enter Try.func7, Try.ntmps7
  go_wp2_with fail
  refine HQ1.out.mono ?_
  rintro e w1 ⟨rfl, hw1⟩
  have HB1 := hid hw1
  have s1 := hw1.size
  have HQ2 := hid (haveEndTop_any ds S' w1 _ (HU.out.keep (hw1.on HS'.out)) (fun x hx => by have := HS'.out x hx; omega) hd)
  clear hw1 HQ1
  go_wp2_with fail
  refine HQ2.out.mono ?_
  rintro e w2 ⟨rfl, hw2⟩
  have HB2 := hid (HB1.out.trans (hw2.mono s1))
  have s2 := hw2.size
  have HQ3 := hid (newAlpha_any w2)
  clear hw2 HQ2 HB1
  go_wp2_with fail
  refine HQ3.out.mono ?_
  rintro e w3 ⟨rfl, hA, hw3⟩
  have s3 := hw3.size
  have HB3 := hid (HB2.out.trans (hw3.mono (by omega)))
  have HB3' := hid hw3
  have hon : ∀ R : Nat → Prop, (∀ x, R x → x < w.heap.size) → SameOn R w w3 := fun R hR => HB3.out.on hR
  have HQ4 := hid ((same_all (Cm.szs ks)).2 ks (Nat.le_refl _) ds (fun x => S x ∨ S' x) (fun k => k < w2.heap.size) [] w3 _ _ _ 0 0 _ _ _
    ((crow_form (HV.out.keep (hon S HS.out)) (by unfold maxLen; omega)) |> fun h => by
      obtain ⟨b, c, e, h1, h2⟩ := h
      exact ⟨b, c, e, h1, h2.imp id (fun ⟨g, o, e1, e2, e3⟩ => ⟨g, o, e1, Or.inl e2, fun i hi => by
        obtain ⟨k0, k1, k2, k3, k4, q0, q1, q2, q3, q4, q5⟩ := e3 i hi
        exact ⟨k0, k1, k2, k3, k4, q0, q1, q2, q3, q4, CoreAt.mono (fun _ h => Or.inl h) _ q5⟩⟩)⟩)
    ((crow_form (HU.out.keep (hon S' HS'.out)) (by unfold maxLen; omega)) |> fun h => by
      obtain ⟨b, c, e, h1, h2⟩ := h
      exact ⟨b, c, e, h1, h2.imp id (fun ⟨g, o, e1, e2, e3⟩ => ⟨g, o, e1, Or.inr e2, fun i hi => by
        obtain ⟨k0, k1, k2, k3, k4, q0, q1, q2, q3, q4, q5⟩ := e3 i hi
        exact ⟨k0, k1, k2, k3, k4, q0, q1, q2, q3, q4, CoreAt.mono (fun _ h => Or.inr h) _ q5⟩⟩)⟩)
    (fun x hx => by rcases hx with hx | hx; have := HS.out x hx; omega; have := HS'.out x hx; omega)
    hA ⟨List.Pairwise.nil, fun x hx => by cases hx⟩ (by omega) (by omega) (by simp; omega) (by omega))
  clear hw3 HQ3 hA hon
  go_wp2_with fail
  refine HQ4.out.mono ?_
  rintro e w4 ⟨rfl, hk4, -⟩
  have HK4 := hid hk4
  clear hk4 HQ4
  go_wp2_with fail
  go_ret
  refine ⟨rfl, ?_⟩
  have h4 := HK4.out
  have h2 := HB2.out
  have h3 := HB3.out
  exact ⟨h4.os.trans h3.os, h4.tape.trans h3.tape, h4.output.trans h3.output, Nat.le_trans h3.size h4.size, fun k hk => (h4.on k (by omega)).trans (h3.block k hk)⟩
end Go.Proofs.Ytghgilkdmdppcaa
