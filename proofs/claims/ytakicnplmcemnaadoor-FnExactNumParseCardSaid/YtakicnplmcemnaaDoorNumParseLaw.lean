/-
  At every text and every radix, the law FnExactNumParse answers true: the program's NumParse answers as the model's. Conditions: none beyond the card's own (the statement FnExactNumParseCardSaid, as it was given; the table that it lists is tied to the program's text by the texts given with the seat).
-/
import Derived.Test.YtakicnplmcemnaaDoorRows
import Derived.Test.YtakicnplmcemnaaDoorTie
import Derived.Test.YtakicnplmcemnaaDoorCards
import Derived.Test.YtakicnplmcemnaaDoorPart15
import Derived.SevenTiedAt
namespace Go.Proofs.YtakicnplmcemnaaDoor.numParseLaw
open Go.ChangeShapes Go.WideShapes Go.ChangeAt Go.RowKit Go.Siskin

set_option maxRecDepth 100000 in
theorem lifted (os : Os) (started : os.Started) (H : Type) (enc : TypeId × Value → H) :
    ReturnsInHanded {} Tryd.checked os 5 .any (fun w args => (Rows.fnExactNumParseSpec.pre enc Tryd.prog Tryd.f5 [] false w args ∧ laidMetH Tryd.prog laidZ w) ∧ sizedMet enc Tryd.prog Tryd.f5 (OpenSpec.ofChange Rows.fnExactNumParseSpec) false w args)
      (Rows.fnExactNumParseSpec.post enc Tryd.prog Tryd.f5 false true false false) := by
  refine returnsInHanded_of_change_and (C := Tryd.checked) (X := fun w _ => laidMetH Tryd.prog laidZ w) (fun _ _ _ hh h => h.of_heap hh) ownZ started (by kernel_rfl) Tryd.func5
    (ChangeSpec.witness_shaped (enc := enc) (C := Tryd.checked) (os := os) (X := fun w _ => laidMetH Tryd.prog laidZ w) false (World.doorLaid Tryd.prog 400 os) #[.string ⟨#[]⟩, .int .i64 0] 8 rfl (World.shaped_of_RefB (by kernel_rfl) (by kernel_rfl)) (by kernel_rfl) (by kernel_rfl) (by kernel_rfl) (door_metZ os _)) ?_
  intro W base args ds gs before hval0 hW _ _ hL _
  have hval : ∀ (j : Nat) t v, Tryd.f5.params[j]? = some t → args[j]? = some v → Value.okWide Tryd.prog W .any base t v := hval0
  have hW' := hW
  obtain ⟨p, q, hA0, hV, rfl, hfz, hnd⟩ := hW
  have hA : DataW.TrodAll enc Tryd.prog W 0 (fun _ => true) true Tryd.f5.params.toList args.toList ds p := hA0
  rw [Tryd.params5] at hA hval
  obtain ⟨v0, vs0, d0, ds0, p0, q0, hargs, rfl, rfl, h0, r0⟩ := trodAll_cons hA
  obtain ⟨v1, vs1, d1, ds1, p1, q1, rfl, rfl, rfl, h1, r1⟩ := trodAll_cons r0
  obtain ⟨rfl, rfl, rfl⟩ := trodAll_nil r1
  obtain rfl : args = #[v0, v1] := by cases args; simp_all
  have k0 := h0
  have k1 := h1
  have lt1 : ∀ x ∈ p1, x.block < W.heap.size := by obtain ⟨m, hm⟩ := k1; exact DataW.trod_lt m _ _ _ hm
  have lt0 : ∀ x ∈ p0, x.block < W.heap.size := by obtain ⟨m, hm⟩ := k0; exact DataW.trod_lt m _ _ _ hm
  obtain ⟨t, rfl⟩ := okWide_string Tryd.underlying9 (hval 0 9 v0 rfl rfl)
  have ht : t.size ≤ maxLen := by
    obtain ⟨fuel, hr⟩ := h0
    obtain ⟨t', e, -, h⟩ := DataW.trod_string Tryd.underlying9 hr
    have e2 : [Value.string t] = [Value.string t'] := e
    simp only [List.cons.injEq, Value.string.injEq, and_true] at e2
    rw [e2]; exact h
  obtain ⟨i, rfl⟩ : ∃ i : Int, v1 = .int .i64 i := okWide_int Tryd.underlying3 (hval 1 3 v1 rfl rfl)
  have hT := tab_ofZ hL
  have hVV : DataW.TrodVars enc Tryd.prog W (fun _ => true) ["loop.example/siskin/impl.powersOfTen"] gs q := hV
  clear hA0 hval0
  refine (lawNumParse_any t i W ht hT).mono fun e W' ⟨he, bel⟩ => ?_
  subst he
  obtain ⟨pv, hpv⟩ := vars_keptZ hVV bel hT
  obtain ⟨g1, rfl⟩ : ∃ g1, gs = [g1] := by
    obtain ⟨g, t, cs, fuel, d, p, rfl, -⟩ := trodVars_one hVV
    exact ⟨d, rfl⟩
  exact ⟨_, rfl, _, _, _, [], _, pv, hW', trodAll_mk1 (shut_bool Tryd.underlying4 _), (trodAll_cons_mk (Below.trod laidOutZ (by kernel_rfl) (of_decide_eq_true (by kernel_rfl)) k0 bel lt0) (trodAll_cons_mk (Below.trod laidOutZ (by kernel_rfl) (of_decide_eq_true (by kernel_rfl)) k1 bel lt1) trodAll_mk0)), hpv, bel.frame _, fun h => by cases h⟩

theorem over : Rows.FnExactNumParseSaid :=
  OpenClaim.holds_of_wide 5 Tryd.f5 rfl rfl rfl rfl rfl rfl rfl ⟨rfl, rfl, rfl, rfl, rfl⟩ rfl rfl rfl rfl rfl (by kernel_rfl) Tryd.func5 (by kernel_rfl)
    (of_decide_eq_true (by kernel_rfl)) (by unfold Func.isWrapper; first | (rw [if_pos (by decide +kernel)]; kernel_rfl) | (rw [if_neg (by decide +kernel)]; exact ⟨rfl, rfl⟩))
    (fun os started H enc _ => lifted os started H enc)

theorem card_holds : Rows.FnExactNumParseCardSaid :=
  Claim7.holds_tied_plain_at .later [] [.data] true (true, "1db909831c1e95701357375c7a0753cca29b95fa8972bab5be050c365b9af1df") false
    over (fun _ h => by cases h) (by kernel_rfl) (fun _ h => by cases h) fnExactNumParse_row_tie rfl ⟨rfl, rfl⟩ (by kernel_rfl) rfl
    (fun f fn hf hfn => by
      obtain rfl : f = 5 := Option.some.inj ((show Tryd.prog.funcNamed "loop.example/siskin/laws.FnExactNumParse" = some 5 by kernel_rfl).symm.trans hf) |>.symm
      obtain rfl : fn = Tryd.f5 := (Option.some.inj (Tryd.func5.symm.trans hfn)).symm
      exact ⟨by kernel_rfl, fun j t ht => by
        rw [Tryd.params5] at ht
        have hm : t ∈ [9, 3] := by simpa using Array.mem_of_getElem? ht
        have hall : ([9, 3].all fun u => !Tryd.prog.wantsStandIn u) = true := by kernel_rfl
        exact (show Tryd.prog.wantsStandIn t = false by simpa using List.all_eq_true.1 hall t hm)⟩)
    (by kernel_rfl)
end Go.Proofs.YtakicnplmcemnaaDoor.numParseLaw
namespace Go.Proofs.YtakicnplmcemnaaDoor

/-- The statement, as it was given. -/
theorem numParseLaw_holds : Rows.FnExactNumParseCardSaid := numParseLaw.card_holds
#print axioms numParseLaw_holds
end Go.Proofs.YtakicnplmcemnaaDoor
