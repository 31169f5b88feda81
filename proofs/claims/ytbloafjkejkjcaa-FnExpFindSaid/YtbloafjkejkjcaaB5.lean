/- The model's ExpFind returns what its plain function says. Condition: the binds and the form lie in memory as BindsAt and FormAt say. -/
import Derived.Test.YtbloafjkejkjcaaB4
namespace Go.Proofs.Ytbloafjkejkjcaa
open Go.RowKit Go.Siskin

/-- That which has all the scopes of all others that fit: from the end. -/
def bestB (ks : List Bd) (t : ByteArray) (sc : List Int) (d : Bd) : Bool := fitsB t sc d && allB ks t sc d.scopes
def findAns (ks : List Bd) (t : ByteArray) (sc : List Int) : ByteArray × Int :=
  match ks.reverse.find? (bestB ks t sc) with
  | some d => (d.name, 1)
  | none => (⟨#[]⟩, if ks.any (fitsB t sc) then 2 else 0)
def findF (ks : List Bd) (f : Fm) : ByteArray × Int := if f.sort = 1 then findAns ks f.text f.scopes else (⟨#[]⟩, 0)

/-- From place k on none is best; some fits, or none does. -/
def NoBest (ks : List Bd) (t : ByteArray) (sc : List Int) (k : Nat) (m : Int) : Prop := (∀ d ∈ ks.drop k, bestB ks t sc d = false) ∧ m = if (ks.drop k).any (fitsB t sc) then 2 else 0

theorem noBest_end (ks : List Bd) (t : ByteArray) (sc : List Int) : NoBest ks t sc ks.length 0 := by
  unfold NoBest; simp
theorem drop_cons (ks : List Bd) (k : Nat) (h : k < ks.length) : ks.drop k = ks[k] :: ks.drop (k + 1) := List.drop_eq_getElem_cons h
theorem noBest_skip {ks : List Bd} {t : ByteArray} {sc : List Int} {k : Nat} {m : Int} (hk : k < ks.length) (h : NoBest ks t sc (k + 1) m) (hf : fitsB t sc ks[k] = false) : NoBest ks t sc k m := by
  obtain ⟨h1, h2⟩ := h
  refine ⟨fun d hd => ?_, ?_⟩
  · rw [drop_cons ks k hk] at hd
    rcases List.mem_cons.1 hd with rfl | hd
    · unfold bestB; rw [hf]; rfl
    · exact h1 d hd
  · rw [drop_cons ks k hk, List.any_cons, hf, Bool.false_or]; exact h2
theorem noBest_fit {ks : List Bd} {t : ByteArray} {sc : List Int} {k : Nat} {m : Int} (hk : k < ks.length) (h : NoBest ks t sc (k + 1) m) (hf : fitsB t sc ks[k] = true) (ha : allB ks t sc ks[k].scopes = false) : NoBest ks t sc k 2 := by
  obtain ⟨h1, h2⟩ := h
  refine ⟨fun d hd => ?_, ?_⟩
  · rw [drop_cons ks k hk] at hd
    rcases List.mem_cons.1 hd with rfl | hd
    · unfold bestB; rw [ha, Bool.and_false]
    · exact h1 d hd
  · rw [drop_cons ks k hk, List.any_cons, hf, Bool.true_or]; rfl
theorem find_none {ks : List Bd} {t : ByteArray} {sc : List Int} {m : Int} (h : NoBest ks t sc 0 m) : findAns ks t sc = (⟨#[]⟩, m) := by
  obtain ⟨h1, h2⟩ := h
  unfold findAns
  rw [List.drop_zero] at h1 h2
  rw [List.find?_eq_none.2 (fun d hd => by rw [h1 d (List.mem_reverse.1 hd)]; decide), ← h2]
theorem find_some {ks : List Bd} {t : ByteArray} {sc : List Int} {k : Nat} {m : Int} (hk : k < ks.length) (h : NoBest ks t sc (k + 1) m) (hf : fitsB t sc ks[k] = true) (ha : allB ks t sc ks[k].scopes = true) : findAns ks t sc = (ks[k].name, 1) := by
  unfold findAns
  have e : ks.reverse = (ks.drop (k + 1)).reverse ++ ks[k] :: (ks.take k).reverse := by
    conv => lhs; rw [← List.take_append_drop k ks, drop_cons ks k hk]
    simp
  rw [e, List.find?_append, List.find?_eq_none.2 (fun d hd => by rw [h.1 d (List.mem_reverse.1 hd)]; decide), Option.none_or, List.find?_cons_of_pos (by unfold bestB; rw [hf, ha]; rfl)]

set_option maxHeartbeats 4000000 in
theorem specFind_any (ks : List Bd) (f : Fm) (B : Nat → Prop) (w : World) (v c0 c1 c2 c3 c4 : Value) (hv : BindsAt B w v ks) (hA : FormAt B w f c0 c1 c2 c3 c4) (hB : ∀ b, B b → b < w.heap.size) :
    Calls Try.prog 6 #[v, .agg #[c0, c1, c2, c3, c4]] w fun e w' => e = .returned (.tuple #[.string (findF ks f).1, .int .i64 (findF ks f).2]) ∧ Below w.heap.size w w' := by
  have HA := hid hA
  have HV := hid hv
  obtain ⟨rfl, rfl, htf, g2, rfl, g4⟩ := (formAt_iff _ _ _ _ _ _ _ _).1 hA
  have HR := hid hB
  obtain ⟨b2, cb2, rfl, -⟩ := g2
  obtain ⟨a4, ca4, rfl, -⟩ := g4
  obtain ⟨a, ca, rfl, hla, ha⟩ := hv
  unfold maxLen at hla
  clear hA hB
  by_cases hs : f.sort = 1
  · have hs' : (f.sort != 1) = false := by simp [hs]
    have HX := hid (show findF ks f = findAns ks f.text f.scopes from if_pos hs)
    clear hs
    go_enter Try.func6, Try.ntmps6
    go_wp2_with fail
    go_loopw [6, 7] (fun so i wr => ∃ k : Nat, k ≤ ks.length ∧ i = .int .i64 ((k : Int) - 1) ∧ ∃ m : Int, so = .int .i64 m ∧ Hid (NoBest ks f.text f.scopes k m) ∧ Hid (Below (w.heap.size + 1) (w.alloc (.cells #[.int .i64 f.sort, .string f.text, .slice b2 f.scopes.length cb2, .int .i64 f.frm, .slice a4 f.kids.length ca4] 27)) wr)) (fun _ i _ => (intOf i + 1).toNat)
    case atStart => exact ⟨ks.length, Nat.le_refl _, rfl, 0, rfl, noBest_end _ _ _, Below.refl _ _⟩
    case round =>
      obtain ⟨k, hk, hi, m, rfl, HP, HW⟩ := hrel
      cases k with
      | succ j =>
        have hi2 := hi.trans (show Value.int .i64 (((j + 1 : Nat) : Int) - 1) = .int .i64 (j : Int) by congr 1; omega)
        clear hi
        subst hi2
        have hlt : j < ks.length := by omega
        rcases ha with ha | ⟨ba, oa, rfl, hb, ha⟩
        · subst ha; simp at hlt
        have q := bx_q HW.out
        have hsz := HW.out.size
        simp only [World.size_alloc] at hsz
        have HR2 := hid (fun b (hb : B b) => show b < wr.heap.size by have := HR.out b hb; omega)
        obtain ⟨k0, k1, k2, g0, g1, g2, hf⟩ := (ha.keep (bx_on HW.out HR.out) hb) j hlt
        have HC := hid (l2Fits_any ks[j] f B wr.drew k0 k1 k2 _ _ _ _ _ (hf.keep (SameOn.drew _ _)) (FormAt.keep (SameOn.drew _ _) _ (FormAt.keep (bx_on HW.out HR.out) _ HA.out)) HR2.out)
        have HF := hid hf.2.2.1
        obtain ⟨rfl, -, h2, rfl, -⟩ := hf
        obtain ⟨a2, ca2, rfl, -⟩ := h2
        have hbb := HR2.out ba hb
        clear ha
        cases hx : fitsB f.text f.scopes ks[j] with
        | false =>
          have hc := HC.out
          rw [hx] at hc
          have HC := hid hc
          clear hc
          have HN := hid (noBest_skip hlt HP.out hx)
          go_wp2_with fail
          go_region_with (go_at_call 17; refine HC.out.mono ?_; rintro e w1 ⟨rfl, hw⟩; have HW1 := hid hw; clear hw)
          all_goals go_wp2_with fail
          all_goals exact ⟨⟨j, by omega, by go_num, m, rfl, HN, bx_step HW.out.drew HW1.out⟩, by simp [intOf]⟩
        | true =>
          have hc := HC.out
          rw [hx] at hc
          have HC := hid hc
          clear hc
          go_wp2_with fail
          go_region_with (go_at_call 17; refine HC.out.mono ?_; rintro e w1 ⟨rfl, hw⟩; have HW1 := hid hw; clear hw)
          all_goals
            have HW2 := hid (bx_step HW.out.drew HW1.out)
            have q2 := bx_q HW2.out
            have hsz2 := HW2.out.size
            simp only [World.size_alloc] at hsz2
            have HR3 := hid (fun b (hb : B b) => show b < w1.heap.size by have := HR.out b hb; omega)
            have p0 : w1.cell? ⟨ba, oa + j * 3, none⟩ = wr.cell? ⟨ba, oa + j * 3, none⟩ := HW1.out.cell (p := ⟨ba, oa + j * 3, none⟩) hbb
            have p1 : w1.cell? ⟨ba, oa + j * 3 + 1, none⟩ = wr.cell? ⟨ba, oa + j * 3 + 1, none⟩ := HW1.out.cell (p := ⟨ba, oa + j * 3 + 1, none⟩) hbb
            have p2 : w1.cell? ⟨ba, oa + j * 3 + 2, none⟩ = wr.cell? ⟨ba, oa + j * 3 + 2, none⟩ := HW1.out.cell (p := ⟨ba, oa + j * 3 + 2, none⟩) hbb
            rw [g0] at p0
            rw [g1] at p1
            rw [g2] at p2
            have hbb2 := HR3.out ba hb
            have HD := hid (l2All_any ks f ks[j].scopes B w1.drew (.slice (some ⟨ba, oa, none⟩) ks.length ca) (.slice a2 ks[j].scopes.length ca2) _ _ _ _ _ ((HV.out.keep (bx_on HW2.out HR.out)).keep (SameOn.drew _ _)) (FormAt.keep (SameOn.drew _ _) _ (FormAt.keep (bx_on HW2.out HR.out) _ HA.out)) (((HF.out.keep (SameOn.drew _ _)).keep (HW1.out.on HR2.out)).keep (SameOn.drew _ _)) HR3.out)
            cases hy : allB ks f.text f.scopes ks[j].scopes with
            | false =>
              have hc := HD.out
              rw [hy] at hc
              have HD := hid hc
              clear hc
              have HN := hid (noBest_fit hlt HP.out hx hy)
              go_wp2_with fail
              go_region_with (go_at_call 18; refine HD.out.mono ?_; rintro e w2 ⟨rfl, hw⟩; have HW3 := hid hw; clear hw)
              all_goals go_wp2_with fail
              all_goals exact ⟨⟨j, by omega, by go_num, 2, rfl, HN, bx_step HW2.out.drew HW3.out⟩, by simp [intOf]⟩
            | true =>
              have hc := HD.out
              rw [hy] at hc
              have HD := hid hc
              clear hc
              have HN := hid (HX.out.trans (find_some hlt HP.out hx hy))
              go_wp2_with fail
              go_region_with (go_at_call 18; refine HD.out.mono ?_; rintro e w2 ⟨rfl, hw⟩; have r2 : w2.cell? ⟨ba, oa + j * 3 + 2, none⟩ = w1.cell? ⟨ba, oa + j * 3 + 2, none⟩ := hw.cell (p := ⟨ba, oa + j * 3 + 2, none⟩) hbb2; have HW3 := hid hw; clear hw)
              all_goals go_wp2_with fail
              all_goals go_ret2
              all_goals exact ⟨by rw [HN.out]; rfl, bx_done (bx_step HW2.out.drew HW3.out)⟩
      | zero =>
        have hi2 := hi.trans (show Value.int .i64 (((0 : Nat) : Int) - 1) = .int .i64 (-1 : Int) from rfl)
        clear hi
        subst hi2
        have hz : decide ((0 : Int) ≤ -1) = false := by decide
        go_wp2_with fail
        go_ret2
        have h := HX.out
        rw [find_none HP.out] at h
        exact ⟨by rw [h]; rfl, bx_done HW.out⟩
  · have hs' : (f.sort != 1) = true := by simp [hs]
    have HX := hid (show findF ks f = (⟨#[]⟩, 0) from if_neg hs)
    clear hs
    go_enter Try.func6, Try.ntmps6
    go_wp2_with fail
    go_ret2
    exact ⟨by rw [HX.out]; rfl, (Below.refl _ _).alloc (Nat.le_refl _) _⟩

end Go.Proofs.Ytbloafjkejkjcaa
