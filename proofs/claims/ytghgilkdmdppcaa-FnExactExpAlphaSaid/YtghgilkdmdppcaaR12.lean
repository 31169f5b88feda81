/-
  The model's l5Alpha and ExpAlpha. Condition: both parts lie in memory, the pairs in a row of their own.
-/
import Derived.Test.YtghgilkdmdppcaaR11
import Derived.Test.YtghgilkdmdppcaaQ2
namespace Go.Proofs.Ytghgilkdmdppcaa
open Go.RowKit Go.Siskin

theorem mown5 {w : World} {g : Nat} {e : TypeId} {c0 c1 c2 c3 c4 : Value} (h : Own w g e #[c0, c1, c2, c3, c4]) :
    w.cell? ⟨g, 0, none⟩ = some c0 ∧ w.cell? ⟨g, 1, none⟩ = some c1 ∧ w.cell? ⟨g, 2, none⟩ = some c2 ∧ w.cell? ⟨g, 3, none⟩ = some c3 ∧ w.cell? ⟨g, 4, none⟩ = some c4 :=
  ⟨(h.cell 0).trans rfl, (h.cell 1).trans rfl, (h.cell 2).trans rfl, (h.cell 3).trans rfl, (h.cell 4).trans rfl⟩

def AlphaM (n : Nat) : Prop := ∀ c : Cm, c.sz ≤ n → ∀ (d : Cm) (R : Nat → Prop) (ps : List (ByteArray × ByteArray)) (w : World) (v c0 c1 c2 c3 c4 d0 d1 d2 d3 d4 : Value),
    CoreAt R w c c0 c1 c2 c3 c4 → CoreAt R w d d0 d1 d2 d3 d4 → (∀ k, R k → k < w.heap.size) → PrsAt w v ps → ps.length + c.cost ≤ 4194304 →
    Calls Try.prog 10 #[v, .agg #[c0, c1, c2, c3, c4], .agg #[d0, d1, d2, d3, d4]] w fun e w' => e = .returned (.bool (alphaC c ps.reverse d)) ∧ Below w.heap.size w w'

theorem mno1 {c d : Cm} {E : List (ByteArray × ByteArray)} (h : (c.sort != d.sort) = true) : false = alphaC c E d := by
  rw [alphaC_eq]
  have : decide (c.sort = d.sort) = false := by simpa using h
  simp [this]
theorem mno2 {c d : Cm} {E : List (ByteArray × ByteArray)} (h : (c.rest != d.rest) = true) : false = alphaC c E d := by
  rw [alphaC_eq]
  have : (c.rest == d.rest) = false := by simpa using h
  simp [this]
theorem mno3 {c d : Cm} {E : List (ByteArray × ByteArray)} (h : ((c.names.length : Int) != (d.names.length : Int)) = true) : false = alphaC c E d := by
  rw [alphaC_eq]
  have : decide (c.names.length = d.names.length) = false := by simp at h ⊢; omega
  simp [this]
theorem mno4 {c d : Cm} {E : List (ByteArray × ByteArray)} (h : ((c.kids.length : Int) != (d.kids.length : Int)) = true) : false = alphaC c E d := by
  rw [alphaC_eq]
  have : decide (c.kids.length = d.kids.length) = false := by simp at h ⊢; omega
  simp [this]
theorem mno5 {c d : Cm} {E : List (ByteArray × ByteArray)} (h : textB E c.sort c.text d.text = false) : false = alphaC c E d := by
  rw [alphaC_eq, h]; simp
theorem myes {c d : Cm} {E : List (ByteArray × ByteArray)} (h1 : (c.sort != d.sort) = false) (h2 : (c.rest != d.rest) = false) (h3 : ((c.names.length : Int) != (d.names.length : Int)) = false) (h4 : ((c.kids.length : Int) != (d.kids.length : Int)) = false) (h5 : textB E c.sort c.text d.text = true) : alphaS (boundE E c.names d.names) c.kids d.kids = alphaC c E d := by
  rw [alphaC_eq, h5]
  have e1 : decide (c.sort = d.sort) = true := by simpa using h1
  have e2 : (c.rest == d.rest) = true := by simpa using h2
  have e3 : decide (c.names.length = d.names.length) = true := by simp at h3 ⊢; omega
  have e4 : decide (c.kids.length = d.kids.length) = true := by simp at h4 ⊢; omega
  rw [e1, e2, e3, e4]
  simp

set_option maxRecDepth 20000 in
set_option maxHeartbeats 10000000 in
theorem alphaM_of (n : Nat) (ih : AlphaM n) : AlphaM (n + 1) := by
  intro c hc d R ps w v c0 c1 c2 c3 c4 d0 d1 d2 d3 d4 hcA hdA hR hP hn
  obtain ⟨rfl, rfl, ht, rfl, h3, h4⟩ := (coreAt_iff _ _ _ _ _ _ _ _).1 hcA
  obtain ⟨rfl, rfl, ht', rfl, h3', h4'⟩ := (coreAt_iff _ _ _ _ _ _ _ _).1 hdA
  generalize hrr : d.rest = rr
  have HRR := hid hrr
  clear hrr
  have H3 := hid h3
  have H3' := hid h3'
  obtain ⟨a3, k3, rfl, hl3, -⟩ := h3
  obtain ⟨a4, k4, rfl, hl4, f4⟩ := h4
  obtain ⟨a3', k3', rfl, hl3', -⟩ := h3'
  obtain ⟨a4', k4', rfl, hl4', f4'⟩ := h4'
  obtain ⟨hl3, -⟩ := hl3
  obtain ⟨hl3', -⟩ := hl3'
  obtain ⟨hl4, -⟩ := hl4
  obtain ⟨hl4', -⟩ := hl4'
  unfold maxLen at hl3 hl3' hl4 hl4'
  have F4 := hid f4
  have F4' := hid f4'
  have HCE := hid (Cm.cost_eq c)
  have HSZ := hid (Cm.sz_kids c)
  have HSL := hid (show c.names.length ≤ strc c.names by unfold strc; omega)
  obtain ⟨V, hV⟩ : ∃ V, V = (w.alloc (.cells #[.int .i64 c.sort, .string c.text, .bool c.rest, .slice a3 c.names.length k3, .slice a4 c.kids.length k4] 35)).alloc (.cells #[.int .i64 d.sort, .string d.text, .bool rr, .slice a3' d.names.length k3', .slice a4' d.kids.length k4'] 35) := ⟨_, rfl⟩
  have hBV : Below w.heap.size w V := by rw [hV]; exact ((Below.refl _ _).alloc (Nat.le_refl _) _).alloc (by simp) _
  have hsV : V.heap.size = w.heap.size + 2 := by rw [hV]; simp
  have O0 : Own V w.heap.size 35 #[.int .i64 c.sort, .string c.text, .bool c.rest, .slice a3 c.names.length k3, .slice a4 c.kids.length k4] := by
    rw [hV]
    exact (Below.heap_alloc _ _ _ (by simp)).trans (own_new _ _ _)
  have O1 : Own V (w.heap.size + 1) 35 #[.int .i64 d.sort, .string d.text, .bool rr, .slice a3' d.names.length k3', .slice a4' d.kids.length k4'] := by
    have h := own_new (w.alloc (.cells #[.int .i64 c.sort, .string c.text, .bool c.rest, .slice a3 c.names.length k3, .slice a4 c.kids.length k4] 35)) #[.int .i64 d.sort, .string d.text, .bool rr, .slice a3' d.names.length k3', .slice a4' d.kids.length k4'] 35
    rw [World.size_alloc] at h
    rw [hV]; exact h
  have HBV := hid hBV
  have HO0 := hid O0
  have HO1 := hid O1
  have HPV := hid (hP.keep hBV)
  have HR := hid hR
  have HI := hid ih
  have HX3 := hid (H3.out.keep (hBV.on hR))
  have HX3' := hid (H3'.out.keep (hBV.on hR))
  obtain ⟨v0, v1, v2, v3, v4⟩ := mown5 O0
  obtain ⟨u0, u1, u2, u3, u4⟩ := mown5 O1
  obtain ⟨gp, cp, rfl, -⟩ := hP
  have hV' := hV.symm
  clear hcA hdA ih hR hBV O0 O1 hV H3 H3' f4 f4'
  cases h1 : (c.sort != d.sort) with
  | true =>
    have HN := hid (mno1 (E := ps.reverse) h1)
    go_enter Try.func10, Try.ntmps10
    go_wp2_with fail
    go_ret
    exact ⟨ret_bool HN.out, HBV.out⟩
  | false =>
  by_cases h2 : c.rest = rr
  case neg =>
    have HN := hid (mno2 (E := ps.reverse) (c := c) (d := d) (by rw [HRR.out]; simpa using h2))
    go_enter Try.func10, Try.ntmps10
    go_wp2_with fail
    go_ret
    exact ⟨ret_bool HN.out, HBV.out⟩
  subst h2
  cases h3 : ((c.names.length : Int) != (d.names.length : Int)) with
  | true =>
    have HN := hid (mno3 (E := ps.reverse) h3)
    go_enter Try.func10, Try.ntmps10
    go_wp2_with fail
    go_ret
    exact ⟨ret_bool HN.out, HBV.out⟩
  | false =>
  cases h4 : ((c.kids.length : Int) != (d.kids.length : Int)) with
  | true =>
    have HN := hid (mno4 (E := ps.reverse) h4)
    go_enter Try.func10, Try.ntmps10
    go_wp2_with fail
    go_ret
    exact ⟨ret_bool HN.out, HBV.out⟩
  | false =>
  have HQN := hid (l5Name_any V _ ps HPV.out c.text d.text)
  have hlen : c.names.length = d.names.length := by simp at h3; omega
  have hlenk : c.kids.length = d.kids.length := by simp at h4; omega
  have HLK := hid hlenk
  have HQB := hid (l5Bound_any R V _ _ _ ps c.names d.names HPV.out HX3.out HX3'.out (fun k hk => by have := HR.out k hk; omega) hlen (by have := HCE.out; have := HSL.out; omega))
  have HZL : Hid ((ps ++ c.names.zip d.names).length = ps.length + c.names.length) := by
    show _ = _
    rw [List.length_append, List.length_zip, ← hlen, Nat.min_self]
  clear hlen hlenk
  cases h5 : textB ps.reverse c.sort c.text d.text with
  | false =>
    have HN := hid (mno5 (E := ps.reverse) h5)
    by_cases e : c.sort = 2 ∨ c.sort = 6 ∨ c.sort = 9
    · have h5' : nameE ps.reverse c.text d.text = false := by
        have h := h5
        unfold textB at h
        rw [if_pos e] at h; exact h
      rw [h5'] at HQN
      clear h5 h5'
      have e2 : (c.sort == 2) = true ∨ ((c.sort == 2) = false ∧ (c.sort == 6) = true) ∨ ((c.sort == 2) = false ∧ (c.sort == 6) = false ∧ (c.sort == 9) = true) := by
        simp only [beq_iff_eq, beq_eq_false_iff_ne]; omega
      clear e
      rcases e2 with e2 | ⟨e2, e6⟩ | ⟨e2, e6, e9⟩
      all_goals
        go_enter Try.func10, Try.ntmps10
        go_wp2_with fail
        refine HQN.out.mono ?_
        rintro e w1 ⟨rfl, hw1⟩
        rw [hw1]
        clear hw1 w1
        go_wp2_with fail
        go_ret
        exact ⟨ret_bool HN.out, HBV.out⟩
    · have h5' : (c.text.toList == d.text.toList) = false := by
        have h := h5
        unfold textB at h
        rw [if_neg e] at h; exact h
      have e2 : (c.sort == 2) = false := by simp only [beq_eq_false_iff_ne]; omega
      have e6 : (c.sort == 6) = false := by simp only [beq_eq_false_iff_ne]; omega
      have e9 : (c.sort == 9) = false := by simp only [beq_eq_false_iff_ne]; omega
      clear e h5
      go_enter Try.func10, Try.ntmps10
      go_wp2_with fail
      go_ret
      exact ⟨ret_bool HN.out, HBV.out⟩
  | true =>
    have HY := hid (myes (c := c) (d := d) (E := ps.reverse) h1 (by rw [HRR.out]; simp) h3 h4 h5)
    have HBE : Hid ((ps ++ c.names.zip d.names).reverse = boundE ps.reverse c.names d.names) := by
      show _ = _
      unfold boundE
      rw [List.reverse_append]
    obtain ⟨qs, hqs⟩ : ∃ qs, qs = ps ++ c.names.zip d.names := ⟨_, rfl⟩
    rw [← hqs] at HQB HZL HBE
    clear hqs
    have e2 : ((c.sort == 2) = true ∧ nameE ps.reverse c.text d.text = true) ∨ ((c.sort == 2) = false ∧ (c.sort == 6) = true ∧ nameE ps.reverse c.text d.text = true) ∨ ((c.sort == 2) = false ∧ (c.sort == 6) = false ∧ (c.sort == 9) = true ∧ nameE ps.reverse c.text d.text = true) ∨ ((c.sort == 2) = false ∧ (c.sort == 6) = false ∧ (c.sort == 9) = false ∧ (c.text.toList == d.text.toList) = true) := by
      unfold textB at h5
      by_cases e : c.sort = 2 ∨ c.sort = 6 ∨ c.sort = 9
      · rw [if_pos e] at h5
        rw [h5]
        simp only [beq_iff_eq, beq_eq_false_iff_ne, and_true]
        omega
      · rw [if_neg e] at h5
        unfold eqT at h5
        rw [h5]
        simp only [beq_eq_false_iff_ne, and_true]
        omega
    clear h5
    rcases e2 with ⟨e2, e0⟩ | ⟨e2, e6, e0⟩ | ⟨e2, e6, e9, e0⟩ | ⟨e2, e6, e9, e0⟩
    all_goals
      (try rw [e0] at HQN)
      go_enter Try.func10, Try.ntmps10
      go_wp2_with (go_at_call 17; refine HQN.out.mono ?_; rintro e w1 ⟨rfl, hw1⟩; rw [hw1]; clear hw1 w1)
      refine HQB.out.mono ?_
      rintro e w2 ⟨u, rfl, hp2, hb2⟩
      have HP2 := hid hp2
      have HB2 := hid hb2
      have s2 := hb2.size
      obtain ⟨g2, cp2, rfl, -⟩ := hp2
      have HQ0 := hid (HO0.out.keep hb2 (by omega))
      have HQ1 := hid (HO1.out.keep hb2 (by omega))
      have HBW := hid (HBV.out.trans (hb2.mono (by omega)))
      clear hb2 HQB HQN v0 v1 v2 v3 v4 u0 u1 u2 u3 u4 hV' e0 e2 h1 h3 h4
      go_wp2_with fail
      go_loopw [7] (fun i wr => ∃ k : Nat, k ≤ c.kids.length ∧ i = .int .i64 k ∧ Hid (Below w2.heap.size w2 wr) ∧ Hid (∀ j (h : j < c.kids.length) (h' : j < d.kids.length), j < k → alphaC c.kids[j] qs.reverse d.kids[j] = true)) (fun i _ => c.kids.length - (intOf i).toNat)
      case atStart => exact ⟨0, Nat.zero_le _, rfl, Below.refl _ _, fun j _ _ hj => absurd hj (by omega)⟩
      case round =>
        obtain ⟨k, hk, rfl, HB, HA⟩ := hrel
        have hsz := HB.out.size
        obtain ⟨-, -, -, -, x4⟩ := mown5 (HQ0.out.keep HB.out (by omega))
        obtain ⟨-, -, -, -, y4⟩ := mown5 (HQ1.out.keep HB.out (by omega))
        by_cases hlt : k < c.kids.length
        · have hltd : k < d.kids.length := by have := HLK.out; omega
          rcases F4.out with ha | ⟨ba, oa, rfl, hb, ha⟩
          · rw [ha] at hlt; simp at hlt
          rcases F4'.out with ha' | ⟨ba', oa', rfl, hb', ha'⟩
          · rw [ha'] at hltd; simp at hltd
          have hRS : SameOn R w wr := (HBW.out.trans (HB.out.mono (by omega))).on HR.out
          obtain ⟨c0, c1, c2, c3, c4, g0, g1, g2', g3, g4, hf⟩ := CRowAt.get c.kids (CRowAt.keep hRS hb c.kids ha) k hlt
          obtain ⟨d0, d1, d2, d3, d4, e0, e1, e2, e3, e4, hf'⟩ := CRowAt.get d.kids (CRowAt.keep hRS hb' d.kids ha') k hltd
          have HC := hid (HI.out c.kids[k] (by have h1 := Cm.szs_get c.kids k hlt; have h2 := HSZ.out; omega) d.kids[k] R qs wr.drew _ c0 c1 c2 c3 c4 d0 d1 d2 d3 d4 (CoreAt.keep (SameOn.drew _ _) _ hf) (CoreAt.keep (SameOn.drew _ _) _ hf') (fun x hx => by have h1 := HR.out x hx; show x < wr.heap.size; omega) ((HP2.out.keep HB.out).keep (Below.refl _ _).drew) (by rw [HZL.out]; have h1 := Cm.costs_get c.kids k hlt; have h2 := HCE.out; have h3 := HSL.out; omega))
          have hsw : wr.drew.heap.size = wr.heap.size := rfl
          rw [hsw] at HC
          have K0 : Hid ((wr.drew.cell? ⟨w.heap.size, 4, none⟩ = some (.slice (some ⟨ba, oa, none⟩) c.kids.length k4) ∧ wr.drew.cell? ⟨w.heap.size + 1, 4, none⟩ = some (.slice (some ⟨ba', oa', none⟩) d.kids.length k4')) ∧ (wr.drew.cell? ⟨ba, oa + k * 5, none⟩ = some c0 ∧ wr.drew.cell? ⟨ba, oa + k * 5 + 1, none⟩ = some c1 ∧ wr.drew.cell? ⟨ba, oa + k * 5 + 2, none⟩ = some c2 ∧ wr.drew.cell? ⟨ba, oa + k * 5 + 3, none⟩ = some c3 ∧ wr.drew.cell? ⟨ba, oa + k * 5 + 4, none⟩ = some c4) ∧ wr.drew.cell? ⟨ba', oa' + k * 5, none⟩ = some d0 ∧ wr.drew.cell? ⟨ba', oa' + k * 5 + 1, none⟩ = some d1 ∧ wr.drew.cell? ⟨ba', oa' + k * 5 + 2, none⟩ = some d2 ∧ wr.drew.cell? ⟨ba', oa' + k * 5 + 3, none⟩ = some d3 ∧ wr.drew.cell? ⟨ba', oa' + k * 5 + 4, none⟩ = some d4) := ⟨⟨x4, y4⟩, ⟨g0, g1, g2', g3, g4⟩, e0, e1, e2, e3, e4⟩
          have KF : Hid (∀ w3, Below wr.heap.size wr.drew w3 → ((w3.cell? ⟨w.heap.size, 4, none⟩ = some (.slice (some ⟨ba, oa, none⟩) c.kids.length k4) ∧ w3.cell? ⟨w.heap.size + 1, 4, none⟩ = some (.slice (some ⟨ba', oa', none⟩) d.kids.length k4')) ∧ (w3.cell? ⟨ba, oa + k * 5, none⟩ = some c0 ∧ w3.cell? ⟨ba, oa + k * 5 + 1, none⟩ = some c1 ∧ w3.cell? ⟨ba, oa + k * 5 + 2, none⟩ = some c2 ∧ w3.cell? ⟨ba, oa + k * 5 + 3, none⟩ = some c3 ∧ w3.cell? ⟨ba, oa + k * 5 + 4, none⟩ = some c4) ∧ w3.cell? ⟨ba', oa' + k * 5, none⟩ = some d0 ∧ w3.cell? ⟨ba', oa' + k * 5 + 1, none⟩ = some d1 ∧ w3.cell? ⟨ba', oa' + k * 5 + 2, none⟩ = some d2 ∧ w3.cell? ⟨ba', oa' + k * 5 + 3, none⟩ = some d3 ∧ w3.cell? ⟨ba', oa' + k * 5 + 4, none⟩ = some d4)) := fun w3 hw => by
            have hq : ∀ b i, b < wr.heap.size → w3.cell? ⟨b, i, none⟩ = wr.drew.cell? ⟨b, i, none⟩ := fun b i hb => World.cell?_of_block (w := wr.drew) (hw.block b hb)
            have r1 : ba < wr.heap.size := by have h1 := HR.out ba hb; omega
            have r2 : ba' < wr.heap.size := by have h1 := HR.out ba' hb'; omega
            exact ⟨⟨(hq _ _ (by omega)).trans x4, (hq _ _ (by omega)).trans y4⟩, ⟨(hq _ _ r1).trans g0, (hq _ _ r1).trans g1, (hq _ _ r1).trans g2', (hq _ _ r1).trans g3, (hq _ _ r1).trans g4⟩, (hq _ _ r2).trans e0, (hq _ _ r2).trans e1, (hq _ _ r2).trans e2, (hq _ _ r2).trans e3, (hq _ _ r2).trans e4⟩
          clear ha ha' hf hf' hRS HI hsw g0 g1 g2' g3 g4 e0 e1 e2 e3 e4
          cases hx : alphaC c.kids[k] qs.reverse d.kids[k] with
          | false =>
            rw [hx] at HC
            have HF := hid (alphaS_no qs.reverse c.kids d.kids k hlt hltd hx)
            clear hx
            go_wp2_with fail
            go_region_held3 (fun w' => (w'.cell? ⟨w.heap.size, 4, none⟩ = some (.slice (some ⟨ba, oa, none⟩) c.kids.length k4) ∧ w'.cell? ⟨w.heap.size + 1, 4, none⟩ = some (.slice (some ⟨ba', oa', none⟩) d.kids.length k4')) ∧ (w'.cell? ⟨ba, oa + k * 5, none⟩ = some c0 ∧ w'.cell? ⟨ba, oa + k * 5 + 1, none⟩ = some c1 ∧ w'.cell? ⟨ba, oa + k * 5 + 2, none⟩ = some c2 ∧ w'.cell? ⟨ba, oa + k * 5 + 3, none⟩ = some c3 ∧ w'.cell? ⟨ba, oa + k * 5 + 4, none⟩ = some c4) ∧ w'.cell? ⟨ba', oa' + k * 5, none⟩ = some d0 ∧ w'.cell? ⟨ba', oa' + k * 5 + 1, none⟩ = some d1 ∧ w'.cell? ⟨ba', oa' + k * 5 + 2, none⟩ = some d2 ∧ w'.cell? ⟨ba', oa' + k * 5 + 3, none⟩ = some d3 ∧ w'.cell? ⟨ba', oa' + k * 5 + 4, none⟩ = some d4)
              (first | exact K3.out | exact K0.out)
              (first
                | (go_at_call 10
                   refine HC.out.mono ?_
                   rintro e w3 ⟨rfl, hw⟩
                   have HW3 := hid hw
                   have K3 := hid (KF.out w3 hw)
                   clear hw))
            all_goals go_wp2_with fail
            all_goals go_ret
            all_goals exact ⟨ret_bool (by rw [← HY.out, ← HBE.out]; exact HF.out.symm), (HBW.out.trans (HB.out.drew.mono (by omega))).trans (HW3.out.mono (by omega))⟩
          | true =>
            rw [hx] at HC
            have HX := hid hx
            clear hx
            go_wp2_with fail
            go_region_held3 (fun w' => (w'.cell? ⟨w.heap.size, 4, none⟩ = some (.slice (some ⟨ba, oa, none⟩) c.kids.length k4) ∧ w'.cell? ⟨w.heap.size + 1, 4, none⟩ = some (.slice (some ⟨ba', oa', none⟩) d.kids.length k4')) ∧ (w'.cell? ⟨ba, oa + k * 5, none⟩ = some c0 ∧ w'.cell? ⟨ba, oa + k * 5 + 1, none⟩ = some c1 ∧ w'.cell? ⟨ba, oa + k * 5 + 2, none⟩ = some c2 ∧ w'.cell? ⟨ba, oa + k * 5 + 3, none⟩ = some c3 ∧ w'.cell? ⟨ba, oa + k * 5 + 4, none⟩ = some c4) ∧ w'.cell? ⟨ba', oa' + k * 5, none⟩ = some d0 ∧ w'.cell? ⟨ba', oa' + k * 5 + 1, none⟩ = some d1 ∧ w'.cell? ⟨ba', oa' + k * 5 + 2, none⟩ = some d2 ∧ w'.cell? ⟨ba', oa' + k * 5 + 3, none⟩ = some d3 ∧ w'.cell? ⟨ba', oa' + k * 5 + 4, none⟩ = some d4)
              (first | exact K3.out | exact K0.out)
              (first
                | (go_at_call 10
                   refine HC.out.mono ?_
                   rintro e w3 ⟨rfl, hw⟩
                   have HW3 := hid hw
                   have K3 := hid (KF.out w3 hw)
                   clear hw))
            all_goals go_wp2_with fail
            all_goals
              refine ⟨⟨k + 1, by omega, by go_num, HB.out.drew.trans (HW3.out.mono (by omega)), fun j hj hj' hjk => ?_⟩, by simp [intOf]; omega⟩
              by_cases e : j = k
              · subst e; exact HX.out
              · exact HA.out j hj hj' (by omega)
        · go_wp2_with fail
          go_ret
          exact ⟨ret_bool (by rw [← HY.out, ← HBE.out]; exact (alphaS_yes _ _ _ HLK.out fun i h h' => HA.out i h h' (by omega)).symm), HBW.out.trans (HB.out.mono (by omega))⟩

theorem alphaM_all : ∀ n, AlphaM n
  | 0 => fun c hc => by have := Cm.sz_kids c; omega
  | n + 1 => alphaM_of n (alphaM_all n)
end Go.Proofs.Ytghgilkdmdppcaa
