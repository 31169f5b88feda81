/-
  The program's same, and both together. Condition: as in sameAll.
-/
import Derived.Test.YtghgilkdmdppcaaR6
namespace Go.Proofs.Ytghgilkdmdppcaa
open Go.RowKit Go.Siskin

theorem down5 {w : World} {g : Nat} {e : TypeId} {c0 c1 c2 c3 c4 : Value} (h : Own w g e #[c0, c1, c2, c3, c4]) :
    w.cell? ⟨g, 0, none⟩ = some c0 ∧ w.cell? ⟨g, 1, none⟩ = some c1 ∧ w.cell? ⟨g, 2, none⟩ = some c2 ∧ w.cell? ⟨g, 3, none⟩ = some c3 ∧ w.cell? ⟨g, 4, none⟩ = some c4 :=
  ⟨(h.cell 0).trans rfl, (h.cell 1).trans rfl, (h.cell 2).trans rfl, (h.cell 3).trans rfl, (h.cell 4).trans rfl⟩

/-- Whichever way the texts are held against each other. -/
theorem textA_any (w : World) (F : Nat → Prop) (base b : Nat) (m : Bool → Nat) (n : Nat) (p : Int) (T : List (Int × ByteArray × ByteArray)) (G : Bool → ByteArray → Option Value) (h : AlphaAt w F base b m n p (nums T) G) (hT : Asc T) (s : Int) (x y : ByteArray) (hx : x.size ≤ maxLen) (hy : y.size ≤ maxLen) :
    Calls Try.prog (fnA s) #[pa b, .string x, .string y] w fun e w' => e = .returned (.bool (textB (envOf T) s x y)) ∧ w' = w := by
  unfold fnA textB
  by_cases hs : s = 2 ∨ s = 6 ∨ s = 9
  · rw [if_pos hs, if_pos hs, ← stand_name T hT]
    exact standForSame_any w F base b m n p (nums T) G h x y hx hy
  · rw [if_neg hs, if_neg hs]
    exact areSameText_any (pa b) x y w

theorem fnA_cases (s : Int) : fnA s = 25 ∨ fnA s = 24 := by
  unfold fnA
  split
  · exact Or.inl rfl
  · exact Or.inr rfl

theorem alpha_no1 {c d : Cm} {E : List (ByteArray × ByteArray)} (h : (c.sort != d.sort) = true) : false = alphaC c E d := by
  rw [alphaC_eq]
  have : decide (c.sort = d.sort) = false := by simpa using h
  simp [this]
theorem alpha_no2 {c d : Cm} {E : List (ByteArray × ByteArray)} (h : (c.rest != d.rest) = true) : false = alphaC c E d := by
  rw [alphaC_eq]
  have : (c.rest == d.rest) = false := by simpa using h
  simp [this]
theorem alpha_no3 {c d : Cm} {E : List (ByteArray × ByteArray)} (h : ((c.names.length : Int) != (d.names.length : Int)) = true) : false = alphaC c E d := by
  rw [alphaC_eq]
  have : decide (c.names.length = d.names.length) = false := by simp at h ⊢; omega
  simp [this]
theorem alpha_no4 {c d : Cm} {E : List (ByteArray × ByteArray)} (h : textB E c.sort c.text d.text = false) : false = alphaC c E d := by
  rw [alphaC_eq, h]; simp
theorem alpha_yes {c d : Cm} {E : List (ByteArray × ByteArray)} (h1 : (c.sort != d.sort) = false) (h2 : (c.rest != d.rest) = false) (h3 : ((c.names.length : Int) != (d.names.length : Int)) = false) (h4 : textB E c.sort c.text d.text = true) : alphaS (boundE E c.names d.names) c.kids d.kids = alphaC c E d := by
  rw [alphaC_eq, h4]
  have e1 : decide (c.sort = d.sort) = true := by simpa using h1
  have e2 : (c.rest == d.rest) = true := by simpa using h2
  have e3 : decide (c.names.length = d.names.length) = true := by simp at h3 ⊢; omega
  rw [e1, e2, e3]
  by_cases hk : c.kids.length = d.kids.length
  · simp [hk]
  · rw [alphaS_len _ _ _ hk]; simp

set_option maxRecDepth 20000 in
set_option maxHeartbeats 1000000 in
theorem sameC_of (sz : Nat) (ih : SameS sz) : SameC (sz + 1) := by
  intro c hc d R F T w base b m n p G c0 c1 c2 c3 c4 d0 d1 d2 d3 d4 hcA hdA hR hA hT hp0 hn hTl hp
  obtain ⟨rfl, rfl, ht, rfl, h3, h4⟩ := (coreAt_iff _ _ _ _ _ _ _ _).1 hcA
  obtain ⟨rfl, rfl, ht', rfl, h3', h4'⟩ := (coreAt_iff _ _ _ _ _ _ _ _).1 hdA
  generalize hrr : d.rest = rr
  have HRR := hid hrr
  clear hrr
  have H3 := hid h3
  have H4 := hid h4
  have H3' := hid h3'
  have H4' := hid h4'
  obtain ⟨a3, k3, rfl, hl3, -⟩ := h3
  obtain ⟨a4, k4, rfl, -⟩ := h4
  obtain ⟨a3', k3', rfl, hl3', -⟩ := h3'
  obtain ⟨a4', k4', rfl, -⟩ := h4'
  obtain ⟨hl3, -⟩ := hl3
  obtain ⟨hl3', -⟩ := hl3'
  unfold maxLen at hl3 hl3'
  have HCE := hid (Cm.cost_eq c)
  have HSZ := hid (Cm.sz_kids c)
  have HSL := hid (show c.names.length ≤ strc c.names by unfold strc; omega)
  obtain ⟨V, hV⟩ : ∃ V, V = (w.alloc (.cells #[.int .i64 c.sort, .string c.text, .bool c.rest, .slice a3 c.names.length k3, .slice a4 c.kids.length k4] 35)).alloc (.cells #[.int .i64 d.sort, .string d.text, .bool rr, .slice a3' d.names.length k3', .slice a4' d.kids.length k4'] 35) := ⟨_, rfl⟩
  have hBV : Below w.heap.size w V := by rw [hV]; exact ((Below.refl _ _).alloc (Nat.le_refl _) _).alloc (by simp) _
  have hsV : V.heap.size = w.heap.size + 2 := by rw [hV]; simp
  have O0 : Own V w.heap.size 35 #[.int .i64 c.sort, .string c.text, .bool c.rest, .slice a3 c.names.length k3, .slice a4 c.kids.length k4] := by
    rw [hV]
    exact (Below.heap_alloc _ _ _ (by simp)).trans (own_new _ _ _)
  have O1 : Own V (w.heap.size + 1) 35 #[.int .i64 d.sort, .string d.text, .bool rr, .slice a3' d.names.length k3', .slice a4' d.kids.length k4'] := by
    have h := own_new (w.alloc (.cells #[.int .i64 c.sort, .string c.text, .bool c.rest, .slice a3 c.names.length k3, .slice a4 c.kids.length k4] 35)) #[.int .i64 d.sort, .string d.text, .bool rr, .slice a3' d.names.length k3', .slice a4' d.kids.length k4'] 35
    rw [World.size_alloc] at h
    rw [hV]; exact h
  have hlow : ∀ k, F k → k < w.heap.size := fun k hk => hA.pn.low k (Or.inl hk)
  have HKV := hid (kept_below (F := F) hBV hlow)
  have hRV : SameOn R w V := hBV.on fun k hk => hlow k (hR k hk)
  have HAV := hid (hA.keep hBV)
  have HR := hid (fun k (hk : R k) => (Or.inl (hR k hk) : F k ∨ Fresh w V k))
  have HF0 : Hid (F w.heap.size ∨ Fresh w V w.heap.size) := Or.inr ⟨Nat.le_refl _, by omega⟩
  have HF1 : Hid (F (w.heap.size + 1) ∨ Fresh w V (w.heap.size + 1)) := Or.inr ⟨by omega, by omega⟩
  have HB0 := hid (show PostA F base b m n p T c.cost w V from ⟨kept_below hBV hlow, n, p, G, (hA.keep hBV).mono (fun _ hk => Or.inl hk), by omega, by omega, by omega⟩)
  have HO0 := hid O0
  have HO1 := hid O1
  have K0 := hid (And.intro (down5 (show Own V.drew _ _ _ from O0)) (down5 (show Own V.drew _ _ _ from O1)))
  obtain ⟨v0, v1, v2, v3, v4⟩ := down5 O0
  obtain ⟨u0, u1, u2, u3, u4⟩ := down5 O1
  have HT := hid hT
  have HI := hid ih
  have HX3 := hid (H3.out.keep hRV)
  have HX3' := hid (H3'.out.keep hRV)
  have HX4 := hid (H4.out.keep hRV)
  have HX4' := hid (H4'.out.keep hRV)
  have hV' := hV.symm
  clear hcA hdA hA hT ih hR hRV hlow hBV O0 O1 hV H3 H3' H4 H4'
  cases h1 : (c.sort != d.sort) with
  | true =>
    have HN := hid (alpha_no1 (E := envOf T) h1)
    go_enter Try.func22, Try.ntmps22
    go_wp2_with fail
    go_ret
    exact ⟨ret_bool HN.out, HB0.out⟩
  | false =>
  by_cases h2 : c.rest = rr
  case neg =>
    have HN := hid (alpha_no2 (E := envOf T) (c := c) (d := d) (by rw [HRR.out]; simpa using h2))
    go_enter Try.func22, Try.ntmps22
    go_wp2_with fail
    go_ret
    exact ⟨ret_bool HN.out, HB0.out⟩
  subst h2
  cases h3 : ((c.names.length : Int) != (d.names.length : Int)) with
  | true =>
    have HN := hid (alpha_no3 (E := envOf T) h3)
    go_enter Try.func22, Try.ntmps22
    go_wp2_with fail
    go_ret
    exact ⟨ret_bool HN.out, HB0.out⟩
  | false =>
  have HTX := hid (textA_any V.drew _ base b m n p T G HAV.out.drew HT.out.1 c.sort c.text d.text ht ht')
  have HOF := hid (ofA_any V.drew _ base b m n p (nums T) G HAV.out.drew c.sort)
  cases h4 : textB (envOf T) c.sort c.text d.text with
  | false =>
    have HN := hid (alpha_no4 (E := envOf T) h4)
    rw [h4] at HTX
    clear h4
    rcases fnA_cases c.sort with hf | hf
    all_goals
      rw [hf] at HTX HOF
      clear hf
      go_enter Try.func22, Try.ntmps22
      go_wp2_with fail
      go_region_held3 (fun w' => (w'.cell? ⟨w.heap.size, 0, none⟩ = some (.int .i64 c.sort) ∧ w'.cell? ⟨w.heap.size, 1, none⟩ = some (.string c.text) ∧ w'.cell? ⟨w.heap.size, 2, none⟩ = some (.bool c.rest) ∧ w'.cell? ⟨w.heap.size, 3, none⟩ = some (.slice a3 c.names.length k3) ∧ w'.cell? ⟨w.heap.size, 4, none⟩ = some (.slice a4 c.kids.length k4)) ∧ w'.cell? ⟨w.heap.size + 1, 0, none⟩ = some (.int .i64 d.sort) ∧ w'.cell? ⟨w.heap.size + 1, 1, none⟩ = some (.string d.text) ∧ w'.cell? ⟨w.heap.size + 1, 2, none⟩ = some (.bool c.rest) ∧ w'.cell? ⟨w.heap.size + 1, 3, none⟩ = some (.slice a3' d.names.length k3') ∧ w'.cell? ⟨w.heap.size + 1, 4, none⟩ = some (.slice a4' d.kids.length k4'))
        (first | exact K0.out)
        (first
          | (go_at_call 26
             refine HOF.out.mono ?_
             rintro e w1 ⟨rfl, hw1⟩
             rw [hw1])
          | (first | go_at_call 25 | go_at_call 24
             refine HTX.out.mono ?_
             rintro e w2 ⟨rfl, hw2⟩
             rw [hw2]))
      go_wp2_with fail
      go_ret
      exact ⟨ret_bool HN.out, HB0.out.1.drew, n, p, G, HAV.out.drew.mono (fun _ hk => Or.inl hk), by omega, by omega, by omega⟩
  | true =>
    have HY := hid (alpha_yes (c := c) (d := d) (E := envOf T) h1 (by rw [HRR.out]; simp) h3 h4)
    rw [h4] at HTX
    clear h4
    have hlen : c.names.length = d.names.length := by simp at h3; omega
    have HLN := hid hlen
    have HQP := hid (pair_any T R _ V.drew base b m n p G _ _ c.names d.names HAV.out.drew (HX3.out.keep (SameOn.drew _ _)) (HX3'.out.keep (SameOn.drew _ _)) HR.out hlen (by have := HCE.out; have := HSL.out; omega) (by have := HCE.out; have := HSL.out; omega) hp0 (by have := HCE.out; have := HSL.out; omega))
    have hzl : (c.names.zip d.names).length = c.names.length := by rw [List.length_zip]; omega
    have HG2 := hid (HT.out.more (c.names.zip d.names))
    rw [hzl] at HG2
    have HTL : Hid ((T ++ trips p (c.names.zip d.names)).length = T.length + c.names.length) := by
      show _ = _
      rw [List.length_append, trips_len, hzl]
    have HEB := hid (envOf_bound T p c.names d.names)
    clear hlen hzl
    rcases fnA_cases c.sort with hf | hf
    all_goals
      rw [hf] at HTX HOF
      clear hf
      go_enter Try.func22, Try.ntmps22
      go_wp2_with fail
      go_region_held3 (fun w' => (w'.cell? ⟨w.heap.size, 0, none⟩ = some (.int .i64 c.sort) ∧ w'.cell? ⟨w.heap.size, 1, none⟩ = some (.string c.text) ∧ w'.cell? ⟨w.heap.size, 2, none⟩ = some (.bool c.rest) ∧ w'.cell? ⟨w.heap.size, 3, none⟩ = some (.slice a3 c.names.length k3) ∧ w'.cell? ⟨w.heap.size, 4, none⟩ = some (.slice a4 c.kids.length k4)) ∧ w'.cell? ⟨w.heap.size + 1, 0, none⟩ = some (.int .i64 d.sort) ∧ w'.cell? ⟨w.heap.size + 1, 1, none⟩ = some (.string d.text) ∧ w'.cell? ⟨w.heap.size + 1, 2, none⟩ = some (.bool c.rest) ∧ w'.cell? ⟨w.heap.size + 1, 3, none⟩ = some (.slice a3' d.names.length k3') ∧ w'.cell? ⟨w.heap.size + 1, 4, none⟩ = some (.slice a4' d.kids.length k4'))
        (first | exact K0.out)
        (first
          | (go_at_call 26
             refine HOF.out.mono ?_
             rintro e w1 ⟨rfl, hw1⟩
             rw [hw1])
          | (first | go_at_call 25 | go_at_call 24
             refine HTX.out.mono ?_
             rintro e w2 ⟨rfl, hw2⟩
             rw [hw2]))
      clear hV' v0 v1 v2 v4 u0 u1 u2 u4
      go_wp2_with fail
      refine HQP.out.mono ?_
      rintro e w3 ⟨rfl, hk3, G3, hA3⟩
      have HK3 := hid hk3
      have HA3 := hid hA3
      have P0 := hid ((hk3.on _ HF0.out).trans HO0.out)
      have P1 := hid ((hk3.on _ HF1.out).trans HO1.out)
      obtain ⟨-, -, -, x3, x4⟩ := down5 (show Own w3 _ _ _ from P0.out)
      obtain ⟨-, -, -, y3, y4⟩ := down5 (show Own w3 _ _ _ from P1.out)
      have HR3 : Hid (SameOn R V.drew w3) := fun k hk => hk3.on k (HR.out k hk)
      have HQK := hid (HI.out c.kids (by have := HSZ.out; omega) d.kids R _ (T ++ trips p (c.names.zip d.names)) w3 base b m _ _ G3 _ _ (HX4.out.keep ((SameOn.drew _ _).trans HR3.out)) (HX4'.out.keep ((SameOn.drew _ _).trans HR3.out)) HR.out hA3 HG2.out (by omega) (by have := HCE.out; have := HSL.out; omega) (by rw [HTL.out]; have := HCE.out; have := HSL.out; omega) (by have := HCE.out; have := HSL.out; omega))
      clear hk3 hA3 HQP v3 u3
      go_wp2_with fail
      refine HQK.out.mono ?_
      rintro e w4 ⟨rfl, hk4, n4, p4, G4, hA4, q1, q2, q3⟩
      have HK4 := hid hk4
      have P2 := hid ((hk4.on _ HF0.out).trans P0.out)
      have P3 := hid ((hk4.on _ HF1.out).trans P1.out)
      obtain ⟨-, -, -, z3, z4⟩ := down5 (show Own w4 _ _ _ from P2.out)
      obtain ⟨-, -, -, t3, t4⟩ := down5 (show Own w4 _ _ _ from P3.out)
      have HR4 : Hid (SameOn R V w4) := fun k hk => (hk4.on k (HR.out k hk)).trans (HR3.out k hk)
      have HQU := hid (unpair_any T p R _ w4 base b m n4 p4 G4 _ _ c.names d.names hA4 (HX3.out.keep HR4.out) (HX3'.out.keep HR4.out) HR.out HLN.out (by have := HCE.out; have := HSL.out; omega))
      have HQ1 := hid q1
      have HQ2 := hid q2
      have HQ3 := hid q3
      clear hk4 hA4 HQK x3 x4 y3 y4 q1 q2 q3
      go_wp2_with fail
      refine HQU.out.mono ?_
      rintro e w5 ⟨rfl, hk5, G5, hA5⟩
      have HK5 := hid hk5
      have HA5 := hid hA5
      clear hk5 hA5 HQU z3 z4 t3 t4
      go_wp2_with fail
      go_ret
      have h1 := HCE.out
      have h2 := HSL.out
      have h3 := HQ1.out
      have h4 := HQ2.out
      have h5 := HQ3.out
      refine ⟨ret_bool (by rw [HEB.out]; exact HY.out), ?_, _, _, G5, HA5.out.mono (fun _ hk => Or.inl hk), by omega, by omega, by omega⟩
      exact (HB0.out.1.drew.trans (HK3.out.mono fun _ hk => Or.inl hk)).trans ((HK4.out.mono fun _ hk => Or.inl hk).trans (HK5.out.mono fun _ hk => Or.inl hk))

theorem same_all : ∀ n, SameC n ∧ SameS n
  | 0 => by
    have h : SameC 0 := fun c hc => by have := Cm.sz_kids c; omega
    exact ⟨h, sameS_of 0 h⟩
  | n + 1 => by
    have h := sameC_of n (same_all n).2
    exact ⟨h, sameS_of (n + 1) h⟩
end Go.Proofs.Ytghgilkdmdppcaa
