/-
  The model's ExpAlpha. Condition: both lists lie in memory as CoresAt says.
-/
import Derived.Test.YtghgilkdmdppcaaR12
namespace Go.Proofs.Ytghgilkdmdppcaa
open Go.RowKit Go.Siskin

theorem prs_none (w : World) : PrsAt (w.alloc (.cells #[] 57)) (.slice (some ⟨w.heap.size, 0, none⟩) 0 0) [] :=
  ⟨_, _, rfl, World.ownsRow_made w #[] 0 (Nat.zero_le _) (Nat.zero_le _) (by simp)⟩

set_option maxRecDepth 20000 in
set_option maxHeartbeats 4000000 in
theorem specAlpha_any (ks ds : List Cm) (R : Nat → Prop) (w : World) (v u : Value) (hv : CoresAt R w v ks) (hu : CoresAt R w u ds) (hR : ∀ k, R k → k < w.heap.size) (hc : Cm.costs ks ≤ 4194304) :
    Calls Try.prog 5 #[v, u] w fun e w' => e = .returned (.bool (alphaS [] ks ds)) ∧ Below w.heap.size w w' := by
  obtain ⟨a, ca, rfl, hla, ha⟩ := hv
  obtain ⟨a', ca', rfl, hla', ha'⟩ := hu
  obtain ⟨hla, -⟩ := hla
  obtain ⟨hla', -⟩ := hla'
  unfold maxLen at hla hla'
  have HR := hid hR
  clear hR
  by_cases hl : ks.length = ds.length
  case neg =>
    have hl' : ((ks.length : Int) != (ds.length : Int)) = true := by simp; omega
    have HF := hid (alphaS_len [] ks ds hl)
    clear hl
    go_enter Try.func5, Try.ntmps5
    go_wp2_with fail
    go_ret
    exact ⟨ret_bool HF.out.symm, Below.refl _ _⟩
  have hl' : ((ks.length : Int) != (ds.length : Int)) = false := by simp; omega
  have HL := hid hl
  clear hl
  go_enter Try.func5, Try.ntmps5
  go_wp2_with fail
  go_loopw [5] (fun i wr => ∃ k : Nat, k ≤ ks.length ∧ i = .int .i64 k ∧ Hid (Below w.heap.size w wr) ∧ Hid (∀ j (h : j < ks.length) (h' : j < ds.length), j < k → alphaC ks[j] [] ds[j] = true)) (fun i _ => ks.length - (intOf i).toNat)
  case atStart => exact ⟨0, Nat.zero_le _, rfl, Below.refl _ _, fun j _ _ hj => absurd hj (by omega)⟩
  case round =>
    obtain ⟨k, hk, rfl, HB, HY⟩ := hrel
    by_cases hlt : k < ks.length
    · rcases ha with ha | ⟨ba, oa, rfl, hb, ha⟩
      · subst ha; simp at hlt
      have hltd : k < ds.length := by have := HL.out; omega
      rcases ha' with ha' | ⟨ba', oa', rfl, hb', ha'⟩
      · subst ha'; simp at hltd
      have hsz := HB.out.size
      have hRS : SameOn R w wr := HB.out.on HR.out
      obtain ⟨c0, c1, c2, c3, c4, g0, g1, g2, g3, g4, hf⟩ := CRowAt.get ks (CRowAt.keep hRS hb ks ha) k hlt
      obtain ⟨d0, d1, d2, d3, d4, e0, e1, e2, e3, e4, hf'⟩ := CRowAt.get ds (CRowAt.keep hRS hb' ds ha') k hltd
      have hRr : ∀ x, R x → x < wr.drew.heap.size := fun x hx => by have h1 := HR.out x hx; show x < wr.heap.size; omega
      have hon : SameOn R wr (wr.drew.alloc (.cells #[] 57)) := (SameOn.drew R wr).alloc hRr _
      have HC := hid (alphaM_all _ ks[k] (Nat.le_refl _) ds[k] R [] (wr.drew.alloc (.cells #[] 57)) _ c0 c1 c2 c3 c4 d0 d1 d2 d3 d4 (CoreAt.keep hon _ hf) (CoreAt.keep hon _ hf') (fun x hx => by have h1 := hRr x hx; simp at h1 ⊢; omega) (prs_none wr.drew) (by have h1 := Cm.costs_get ks k hlt; simp; omega))
      have K0 : Hid ((wr.drew.cell? ⟨ba, oa + k * 5, none⟩ = some c0 ∧ wr.drew.cell? ⟨ba, oa + k * 5 + 1, none⟩ = some c1 ∧ wr.drew.cell? ⟨ba, oa + k * 5 + 2, none⟩ = some c2 ∧ wr.drew.cell? ⟨ba, oa + k * 5 + 3, none⟩ = some c3 ∧ wr.drew.cell? ⟨ba, oa + k * 5 + 4, none⟩ = some c4) ∧ wr.drew.cell? ⟨ba', oa' + k * 5, none⟩ = some d0 ∧ wr.drew.cell? ⟨ba', oa' + k * 5 + 1, none⟩ = some d1 ∧ wr.drew.cell? ⟨ba', oa' + k * 5 + 2, none⟩ = some d2 ∧ wr.drew.cell? ⟨ba', oa' + k * 5 + 3, none⟩ = some d3 ∧ wr.drew.cell? ⟨ba', oa' + k * 5 + 4, none⟩ = some d4) := ⟨⟨g0, g1, g2, g3, g4⟩, e0, e1, e2, e3, e4⟩
      have KB : Hid (∀ o b i, R b → (wr.drew.alloc o).cell? ⟨b, i, none⟩ = wr.drew.cell? ⟨b, i, none⟩) := fun o b i hb => World.cell?_of_block (w := wr.drew) (Below.heap_alloc wr.drew o b (hRr b hb))
      have K1 : Hid (∀ o, ((wr.drew.alloc o).cell? ⟨ba, oa + k * 5, none⟩ = some c0 ∧ (wr.drew.alloc o).cell? ⟨ba, oa + k * 5 + 1, none⟩ = some c1 ∧ (wr.drew.alloc o).cell? ⟨ba, oa + k * 5 + 2, none⟩ = some c2 ∧ (wr.drew.alloc o).cell? ⟨ba, oa + k * 5 + 3, none⟩ = some c3 ∧ (wr.drew.alloc o).cell? ⟨ba, oa + k * 5 + 4, none⟩ = some c4) ∧ (wr.drew.alloc o).cell? ⟨ba', oa' + k * 5, none⟩ = some d0 ∧ (wr.drew.alloc o).cell? ⟨ba', oa' + k * 5 + 1, none⟩ = some d1 ∧ (wr.drew.alloc o).cell? ⟨ba', oa' + k * 5 + 2, none⟩ = some d2 ∧ (wr.drew.alloc o).cell? ⟨ba', oa' + k * 5 + 3, none⟩ = some d3 ∧ (wr.drew.alloc o).cell? ⟨ba', oa' + k * 5 + 4, none⟩ = some d4) := fun o =>
        ⟨⟨(KB.out o _ _ hb).trans g0, (KB.out o _ _ hb).trans g1, (KB.out o _ _ hb).trans g2, (KB.out o _ _ hb).trans g3, (KB.out o _ _ hb).trans g4⟩, (KB.out o _ _ hb').trans e0, (KB.out o _ _ hb').trans e1, (KB.out o _ _ hb').trans e2, (KB.out o _ _ hb').trans e3, (KB.out o _ _ hb').trans e4⟩
      obtain ⟨hc0, hc1, -, hc2, hc3, hc4⟩ := (coreAt_iff _ _ _ _ _ _ _ _).1 hf
      obtain ⟨hd0, hd1, -, hd2, hd3, hd4⟩ := (coreAt_iff _ _ _ _ _ _ _ _).1 hf'
      have HBA := hid (show Below w.heap.size w (wr.drew.alloc (.cells #[] 57)) from HB.out.drew.alloc (by show _ ≤ wr.heap.size; omega) _)
      clear ha ha' hf hf' hRS hon hRr g0 g1 g2 g3 g4 e0 e1 e2 e3 e4 hc0 hc1 hc2 hc3 hc4 hd0 hd1 hd2 hd3 hd4
      cases hx : alphaC ks[k] [] ds[k] with
      | false =>
        have HF := hid (alphaS_no [] ks ds k hlt hltd hx)
        have hx' : alphaC ks[k] [].reverse ds[k] = false := hx
        rw [hx'] at HC
        clear hx hx'
        go_wp2_with fail
        go_region_held3 (fun w' => (w'.cell? ⟨ba, oa + k * 5, none⟩ = some c0 ∧ w'.cell? ⟨ba, oa + k * 5 + 1, none⟩ = some c1 ∧ w'.cell? ⟨ba, oa + k * 5 + 2, none⟩ = some c2 ∧ w'.cell? ⟨ba, oa + k * 5 + 3, none⟩ = some c3 ∧ w'.cell? ⟨ba, oa + k * 5 + 4, none⟩ = some c4) ∧ w'.cell? ⟨ba', oa' + k * 5, none⟩ = some d0 ∧ w'.cell? ⟨ba', oa' + k * 5 + 1, none⟩ = some d1 ∧ w'.cell? ⟨ba', oa' + k * 5 + 2, none⟩ = some d2 ∧ w'.cell? ⟨ba', oa' + k * 5 + 3, none⟩ = some d3 ∧ w'.cell? ⟨ba', oa' + k * 5 + 4, none⟩ = some d4)
          (first | exact K2.out | exact K1.out _ | exact K0.out)
          (first
            | (go_at_call 10
               refine HC.out.mono ?_
               rintro e w2 ⟨rfl, hw2⟩
               have HW2 := hid hw2
               have K2 : Hid ((w2.cell? ⟨ba, oa + k * 5, none⟩ = some c0 ∧ w2.cell? ⟨ba, oa + k * 5 + 1, none⟩ = some c1 ∧ w2.cell? ⟨ba, oa + k * 5 + 2, none⟩ = some c2 ∧ w2.cell? ⟨ba, oa + k * 5 + 3, none⟩ = some c3 ∧ w2.cell? ⟨ba, oa + k * 5 + 4, none⟩ = some c4) ∧ w2.cell? ⟨ba', oa' + k * 5, none⟩ = some d0 ∧ w2.cell? ⟨ba', oa' + k * 5 + 1, none⟩ = some d1 ∧ w2.cell? ⟨ba', oa' + k * 5 + 2, none⟩ = some d2 ∧ w2.cell? ⟨ba', oa' + k * 5 + 3, none⟩ = some d3 ∧ w2.cell? ⟨ba', oa' + k * 5 + 4, none⟩ = some d4) := by
                 have hq : ∀ b i, R b → w2.cell? ⟨b, i, none⟩ = (wr.drew.alloc (.cells #[] 57)).cell? ⟨b, i, none⟩ := fun b i hb => World.cell?_of_block (w := wr.drew.alloc (.cells #[] 57)) (hw2.block b (by have h1 := HR.out b hb; simp; omega))
                 have h1 := K1.out (.cells #[] 57)
                 exact ⟨⟨(hq _ _ hb).trans h1.1.1, (hq _ _ hb).trans h1.1.2.1, (hq _ _ hb).trans h1.1.2.2.1, (hq _ _ hb).trans h1.1.2.2.2.1, (hq _ _ hb).trans h1.1.2.2.2.2⟩, (hq _ _ hb').trans h1.2.1, (hq _ _ hb').trans h1.2.2.1, (hq _ _ hb').trans h1.2.2.2.1, (hq _ _ hb').trans h1.2.2.2.2.1, (hq _ _ hb').trans h1.2.2.2.2.2⟩
               clear hw2))
        all_goals go_wp2_with fail
        all_goals go_ret
        all_goals exact ⟨ret_bool HF.out.symm, HBA.out.trans (HW2.out.mono (by simp; omega))⟩
      | true =>
        have HX := hid hx
        have hx' : alphaC ks[k] [].reverse ds[k] = true := hx
        rw [hx'] at HC
        clear hx hx'
        go_wp2_with fail
        go_region_held3 (fun w' => (w'.cell? ⟨ba, oa + k * 5, none⟩ = some c0 ∧ w'.cell? ⟨ba, oa + k * 5 + 1, none⟩ = some c1 ∧ w'.cell? ⟨ba, oa + k * 5 + 2, none⟩ = some c2 ∧ w'.cell? ⟨ba, oa + k * 5 + 3, none⟩ = some c3 ∧ w'.cell? ⟨ba, oa + k * 5 + 4, none⟩ = some c4) ∧ w'.cell? ⟨ba', oa' + k * 5, none⟩ = some d0 ∧ w'.cell? ⟨ba', oa' + k * 5 + 1, none⟩ = some d1 ∧ w'.cell? ⟨ba', oa' + k * 5 + 2, none⟩ = some d2 ∧ w'.cell? ⟨ba', oa' + k * 5 + 3, none⟩ = some d3 ∧ w'.cell? ⟨ba', oa' + k * 5 + 4, none⟩ = some d4)
          (first | exact K2.out | exact K1.out _ | exact K0.out)
          (first
            | (go_at_call 10
               refine HC.out.mono ?_
               rintro e w2 ⟨rfl, hw2⟩
               have HW2 := hid hw2
               have K2 : Hid ((w2.cell? ⟨ba, oa + k * 5, none⟩ = some c0 ∧ w2.cell? ⟨ba, oa + k * 5 + 1, none⟩ = some c1 ∧ w2.cell? ⟨ba, oa + k * 5 + 2, none⟩ = some c2 ∧ w2.cell? ⟨ba, oa + k * 5 + 3, none⟩ = some c3 ∧ w2.cell? ⟨ba, oa + k * 5 + 4, none⟩ = some c4) ∧ w2.cell? ⟨ba', oa' + k * 5, none⟩ = some d0 ∧ w2.cell? ⟨ba', oa' + k * 5 + 1, none⟩ = some d1 ∧ w2.cell? ⟨ba', oa' + k * 5 + 2, none⟩ = some d2 ∧ w2.cell? ⟨ba', oa' + k * 5 + 3, none⟩ = some d3 ∧ w2.cell? ⟨ba', oa' + k * 5 + 4, none⟩ = some d4) := by
                 have hq : ∀ b i, R b → w2.cell? ⟨b, i, none⟩ = (wr.drew.alloc (.cells #[] 57)).cell? ⟨b, i, none⟩ := fun b i hb => World.cell?_of_block (w := wr.drew.alloc (.cells #[] 57)) (hw2.block b (by have h1 := HR.out b hb; simp; omega))
                 have h1 := K1.out (.cells #[] 57)
                 exact ⟨⟨(hq _ _ hb).trans h1.1.1, (hq _ _ hb).trans h1.1.2.1, (hq _ _ hb).trans h1.1.2.2.1, (hq _ _ hb).trans h1.1.2.2.2.1, (hq _ _ hb).trans h1.1.2.2.2.2⟩, (hq _ _ hb').trans h1.2.1, (hq _ _ hb').trans h1.2.2.1, (hq _ _ hb').trans h1.2.2.2.1, (hq _ _ hb').trans h1.2.2.2.2.1, (hq _ _ hb').trans h1.2.2.2.2.2⟩
               clear hw2))
        all_goals go_wp2_with fail
        all_goals
          refine ⟨⟨k + 1, by omega, by go_num, HBA.out.trans (HW2.out.mono (by simp; omega)), fun j hj hj' hjk => ?_⟩, by simp [intOf]; omega⟩
          by_cases e : j = k
          · subst e; exact HX.out
          · exact HY.out j hj hj' (by omega)
    · go_wp2_with fail
      go_ret
      exact ⟨ret_bool (alphaS_yes [] ks ds HL.out fun i h h' => HY.out i h h' (by omega)).symm, HB.out⟩
end Go.Proofs.Ytghgilkdmdppcaa
