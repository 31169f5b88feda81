/- The model's l2Fits, l2All and ExpFind return what their plain functions say. Condition: the binds and the form lie in memory as BindsAt and FormAt say. -/
import Derived.Test.YtbloafjkejkjcaaB3
namespace Go.Proofs.Ytbloafjkejkjcaa
open Go.RowKit Go.Siskin

/-- Whether a bind may stand for an identifier of a text and scopes. -/
def fitsB (t : ByteArray) (sc : List Int) (d : Bd) : Bool := (d.text.toList == t.toList) && withinB d.scopes sc
/-- Whether scopes have all scopes of a bind, if it fits. -/
def coverB (t : ByteArray) (sc s : List Int) (d : Bd) : Bool := !fitsB t sc d || withinB d.scopes s
/-- Whether scopes have all scopes of all that fit. -/
def allB (ks : List Bd) (t : ByteArray) (sc s : List Int) : Bool := ks.all (coverB t sc s)

set_option maxHeartbeats 1000000 in
theorem l2Fits_any (d : Bd) (f : Fm) (B : Nat → Prop) (w : World) (k0 k1 k2 c0 c1 c2 c3 c4 : Value) (hK : BindAt B w d k0 k1 k2) (hA : FormAt B w f c0 c1 c2 c3 c4) (hB : ∀ b, B b → b < w.heap.size) :
    Calls Try.prog 17 #[.agg #[k0, k1, k2], .agg #[c0, c1, c2, c3, c4]] w fun e w' => e = .returned (.bool (fitsB f.text f.scopes d)) ∧ Below w.heap.size w w' := by
  obtain ⟨rfl, ht, h2, rfl, hn⟩ := hK
  obtain ⟨rfl, rfl, htf, g2, rfl, g4⟩ := (formAt_iff _ _ _ _ _ _ _ _).1 hA
  have H2 := hid h2
  have G2 := hid g2
  have HR := hid hB
  obtain ⟨a2, ca2, rfl, -⟩ := h2
  obtain ⟨b2, cb2, rfl, -⟩ := g2
  obtain ⟨a4, ca4, rfl, -⟩ := g4
  clear hA hB
  cases ht' : d.text.toList == f.text.toList with
  | false =>
    go_enter Try.func17, Try.ntmps17
    go_wp2_with fail
    go_ret
    exact ⟨ret_bool (by unfold fitsB; rw [ht']; rfl), ((Below.refl _ _).alloc (Nat.le_refl _) _).alloc (by simp) _⟩
  | true =>
    go_enter Try.func17, Try.ntmps17
    go_wp2_with (go_at_call 29; refine (l2Within_any B _ _ d.scopes f.scopes _ (H2.out.keep (((SameOn.refl _ _).alloc HR.out _).alloc (fun b hb => by have := HR.out b hb; simp; omega) _)) (G2.out.keep (((SameOn.refl _ _).alloc HR.out _).alloc (fun b hb => by have := HR.out b hb; simp; omega) _))).mono ?_; rintro e w' ⟨rfl, hw⟩; rw [hw]; clear hw w')
    go_ret
    exact ⟨ret_bool (by unfold fitsB; rw [ht']; rfl), ((Below.refl _ _).alloc (Nat.le_refl _) _).alloc (by simp) _⟩

theorem bx_q {w w' : World} {o : Obj} (h : Below (w.heap.size + 1) (w.alloc o) w') : ∀ j, w'.cell? ⟨w.heap.size, j, none⟩ = (w.alloc o).cell? ⟨w.heap.size, j, none⟩ :=
  fun j => h.cell (p := ⟨w.heap.size, j, none⟩) (by simp)
theorem bx_step {w w' w2 : World} {o : Obj} (h : Below (w.heap.size + 1) (w.alloc o) w') (h2 : Below w'.heap.size w' w2) : Below (w.heap.size + 1) (w.alloc o) w2 :=
  h.trans (h2.mono (by have := h.size; simpa using this))
theorem bx_on {R : Nat → Prop} {w w' : World} {o : Obj} (h : Below (w.heap.size + 1) (w.alloc o) w') (hR : ∀ b, R b → b < w.heap.size) : SameOn R w w' :=
  ((SameOn.refl _ _).alloc hR _).below h (fun b hb => by have := hR b hb; omega)
theorem bx_done {w w' : World} {o : Obj} (h : Below (w.heap.size + 1) (w.alloc o) w') : Below w.heap.size w w' :=
  ((Below.refl _ _).alloc (Nat.le_refl _) _).trans (h.mono (by omega))

theorem allb_no {p : Bd → Bool} {ks : List Bd} {k : Nat} (hk : k < ks.length) (h : p ks[k] = false) : false = ks.all p := by
  rw [eq_comm, Bool.eq_false_iff]
  intro e
  have := List.all_eq_true.1 e ks[k] (List.getElem_mem hk)
  rw [h] at this; cases this
theorem allb_yes {p : Bd → Bool} {ks : List Bd} {k : Nat} (hk : ¬ k < ks.length) (h : ∀ j (hj : j < ks.length), j < k → p ks[j] = true) : true = ks.all p := by
  rw [eq_comm]
  refine List.all_eq_true.2 fun x hx => ?_
  obtain ⟨j, hj, rfl⟩ := List.getElem_of_mem hx
  exact h j hj (by omega)
theorem allb_step {p : Bd → Bool} {ks : List Bd} {k : Nat} (hk : k < ks.length) (h0 : p ks[k] = true) (h : ∀ j (hj : j < ks.length), j < k → p ks[j] = true) : ∀ j (hj : j < ks.length), j < k + 1 → p ks[j] = true := by
  intro j hj hjk
  by_cases e : j = k
  · subst e; exact h0
  · exact h j hj (by omega)

set_option maxHeartbeats 4000000 in
theorem l2All_any (ks : List Bd) (f : Fm) (s : List Int) (B : Nat → Prop) (w : World) (v u c0 c1 c2 c3 c4 : Value) (hv : BindsAt B w v ks) (hA : FormAt B w f c0 c1 c2 c3 c4) (hu : IntsAt B w u s) (hB : ∀ b, B b → b < w.heap.size) :
    Calls Try.prog 18 #[v, .agg #[c0, c1, c2, c3, c4], u] w fun e w' => e = .returned (.bool (allB ks f.text f.scopes s)) ∧ Below w.heap.size w w' := by
  have HA := hid hA
  have HU := hid hu
  obtain ⟨rfl, rfl, htf, g2, rfl, g4⟩ := (formAt_iff _ _ _ _ _ _ _ _).1 hA
  have HR := hid hB
  obtain ⟨b2, cb2, rfl, -⟩ := g2
  obtain ⟨a4, ca4, rfl, -⟩ := g4
  obtain ⟨a, ca, rfl, hla, ha⟩ := hv
  obtain ⟨ua, uc, rfl, -⟩ := hu
  unfold maxLen at hla
  clear hA hB
  go_enter Try.func18, Try.ntmps18
  go_wp2_with fail
  go_loopw [7] (fun i wr => ∃ k : Nat, k ≤ ks.length ∧ i = .int .i64 k ∧ Hid (∀ j (hj : j < ks.length), j < k → coverB f.text f.scopes s ks[j] = true) ∧ Hid (Below (w.heap.size + 1) (w.alloc (.cells #[.int .i64 f.sort, .string f.text, .slice b2 f.scopes.length cb2, .int .i64 f.frm, .slice a4 f.kids.length ca4] 27)) wr)) (fun i _ => ks.length - (intOf i).toNat)
  case atStart => exact ⟨0, Nat.zero_le _, rfl, fun j _ hj => absurd hj (by omega), Below.refl _ _⟩
  case round =>
    obtain ⟨k, hk, rfl, HP, HW⟩ := hrel
    by_cases hlt : k < ks.length
    · rcases ha with ha | ⟨ba, oa, rfl, hb, ha⟩
      · subst ha; simp at hlt
      have q := bx_q HW.out
      have hsz := HW.out.size
      simp only [World.size_alloc] at hsz
      have HR2 := hid (fun b (hb : B b) => show b < wr.heap.size by have := HR.out b hb; omega)
      obtain ⟨k0, k1, k2, g0, g1, g2, hf⟩ := (ha.keep (bx_on HW.out HR.out) hb) k hlt
      have HC := hid (l2Fits_any ks[k] f B wr.drew k0 k1 k2 _ _ _ _ _ (hf.keep (SameOn.drew _ _)) (FormAt.keep (SameOn.drew _ _) _ (FormAt.keep (bx_on HW.out HR.out) _ HA.out)) HR2.out)
      have HF := hid hf.2.2.1
      have HU2 := hid (HU.out.keep (bx_on HW.out HR.out))
      obtain ⟨rfl, -, h2, rfl, -⟩ := hf
      obtain ⟨a2, ca2, rfl, -⟩ := h2
      have hbb := HR2.out ba hb
      clear ha
      cases hx : fitsB f.text f.scopes ks[k] with
      | false =>
        have HX := hid (allb_step (p := coverB f.text f.scopes s) hlt (by unfold coverB; rw [hx]; rfl) HP.out)
        have hc := HC.out
        rw [hx] at hc
        have HC := hid hc
        clear hc
        go_wp2_with fail
        first
          | go_region_with (go_at_call 17; refine HC.out.mono ?_; rintro e w1 ⟨rfl, hw⟩; have HW1 := hid hw; clear hw)
          | fail
        all_goals go_wp2_with fail
        all_goals exact ⟨⟨k + 1, by omega, by go_num, HX, bx_step HW.out.drew HW1.out⟩, by simp [intOf]; omega⟩
      | true =>
        have hc := HC.out
        rw [hx] at hc
        have HC := hid hc
        clear hc
        cases hy : withinB ks[k].scopes s with
        | false =>
          have HX := hid (allb_no (p := coverB f.text f.scopes s) hlt (by unfold coverB; rw [hx, hy]; rfl))
          go_wp2_with fail
          go_region_with (first
            | (go_at_call 17; refine HC.out.mono ?_; rintro e w1 ⟨rfl, hw⟩; have r1 : w1.cell? ⟨ba, oa + k * 3 + 1, none⟩ = wr.cell? ⟨ba, oa + k * 3 + 1, none⟩ := hw.cell (p := ⟨ba, oa + k * 3 + 1, none⟩) hbb; have HW1 := hid hw; clear hw)
            | (go_at_call 29; have hq := l2Within_any B (.slice a2 ks[k].scopes.length ca2) (.slice ua s.length uc) ks[k].scopes s w1 ((HF.out.keep (SameOn.drew _ _)).keep (HW1.out.on HR2.out)) ((HU2.out.keep (SameOn.drew _ _)).keep (HW1.out.on HR2.out)); rw [hy] at hq; refine hq.mono ?_; clear hq; rintro e w2 ⟨rfl, hw⟩; rw [hw]; clear hw w2))
          all_goals go_wp2_with fail
          all_goals go_ret
          all_goals exact ⟨ret_bool HX.out, bx_done (bx_step HW.out.drew HW1.out)⟩
        | true =>
          have HX := hid (allb_step (p := coverB f.text f.scopes s) hlt (by unfold coverB; rw [hx, hy]; rfl) HP.out)
          go_wp2_with fail
          go_region_with (first
            | (go_at_call 17; refine HC.out.mono ?_; rintro e w1 ⟨rfl, hw⟩; have r1 : w1.cell? ⟨ba, oa + k * 3 + 1, none⟩ = wr.cell? ⟨ba, oa + k * 3 + 1, none⟩ := hw.cell (p := ⟨ba, oa + k * 3 + 1, none⟩) hbb; have HW1 := hid hw; clear hw)
            | (go_at_call 29; have hq := l2Within_any B (.slice a2 ks[k].scopes.length ca2) (.slice ua s.length uc) ks[k].scopes s w1 ((HF.out.keep (SameOn.drew _ _)).keep (HW1.out.on HR2.out)) ((HU2.out.keep (SameOn.drew _ _)).keep (HW1.out.on HR2.out)); rw [hy] at hq; refine hq.mono ?_; clear hq; rintro e w2 ⟨rfl, hw⟩; rw [hw]; clear hw w2))
          all_goals go_wp2_with fail
          all_goals exact ⟨⟨k + 1, by omega, by go_num, HX, bx_step HW.out.drew HW1.out⟩, by simp [intOf]; omega⟩
    · go_wp2_with fail
      go_ret
      exact ⟨ret_bool (allb_yes hlt HP.out), bx_done HW.out⟩

end Go.Proofs.Ytbloafjkejkjcaa
