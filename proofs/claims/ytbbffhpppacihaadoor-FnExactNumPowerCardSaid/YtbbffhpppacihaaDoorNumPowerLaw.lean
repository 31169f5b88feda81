/-
  At every number that can be read and every radix, the law FnExactNumPower answers true: the program's NumPower answers as the model's. Conditions: none beyond the card's own (the statement FnExactNumPowerCardSaid, as it was given; the two variables that it lists are tied to the program's text by the texts given with the seat).
-/
import Derived.Test.YtbbffhpppacihaaDoorRows
import Derived.Test.YtbbffhpppacihaaDoorTie
import Derived.Test.YtbbffhpppacihaaDoorCards
import Derived.Test.YtbbffhpppacihaaDoorPart27
import Derived.SevenTiedAt
namespace Go.Proofs.YtbbffhpppacihaaDoor.numPowerLaw
open Go.ChangeShapes Go.WideShapes Go.ChangeAt Go.RowKit Go.Siskin

theorem cellsNum : Tryd.prog.cellsOf 23 = 3 := by kernel_rfl
theorem cellsBool : Tryd.prog.cellsOf 4 = 1 := by kernel_rfl
theorem cellsStr : Tryd.prog.cellsOf 9 = 1 := by kernel_rfl
theorem list3 {α : Type} {cs : List α} (h : cs.length = 3) : ∃ c0 c1 c2, cs = [c0, c1, c2] := by
  match cs, h with
  | [c0, c1, c2], _ => exact ⟨c0, c1, c2, rfl⟩
theorem array3 {α : Type} {cs : Array α} (h : cs.size = 3) : ∃ c0 c1 c2, cs = #[c0, c1, c2] := by
  obtain ⟨l⟩ := cs
  obtain ⟨c0, c1, c2, e⟩ := list3 (cs := l) h
  exact ⟨c0, c1, c2, by rw [e]⟩
/-- A number that comes in as an argument, read as data. -/
theorem num_of {H : Type} {enc : TypeId × Value → H} {W : World} {spare : Nat → Bool} {held : Bool} {fuel : Nat} {cs : List Value} {x : DataW H × List MemPlace} (h : DataW.trod enc Tryd.prog W 0 spare held fuel 23 cs = some x) :
    ∃ (neg : Bool) (up down : ByteArray), cs = [.bool neg, .string up, .string down] ∧ up.size ≤ maxLen ∧ down.size ≤ maxLen := by
  obtain ⟨xs, n, hn, -, hl, hxs, hf⟩ := DataW.trod_struct Tryd.underlying23 h
  rw [cellsNum] at hl
  obtain ⟨c0, c1, c2, rfl⟩ := list3 hl
  have hx3 : xs.length = 3 := hxs
  obtain ⟨x0, x1, x2, rfl⟩ := list3 hx3
  have g0 : DataW.trod enc Tryd.prog W 0 spare held n 4 [c0] = some x0 := by simpa [cellsBool] using hf 0 _ rfl
  have g1 : DataW.trod enc Tryd.prog W 0 spare held n 9 [c1] = some x1 := by simpa [cellsStr] using hf 1 _ rfl
  have g2 : DataW.trod enc Tryd.prog W 0 spare held n 9 [c2] = some x2 := by simpa [cellsStr] using hf 2 _ rfl
  obtain ⟨b, e0, -⟩ := DataW.trod_bool Tryd.underlying4 g0
  obtain ⟨t, e1, -, ht⟩ := DataW.trod_string Tryd.underlying9 g1
  obtain ⟨m, e2, -, hm⟩ := DataW.trod_string Tryd.underlying9 g2
  simp only [List.cons.injEq, and_true] at e0 e1 e2
  subst e0 e1 e2
  exact ⟨b, t, m, rfl, ht, hm⟩

set_option maxRecDepth 100000 in
theorem lifted (os : Os) (started : os.Started) (H : Type) (enc : TypeId × Value → H) :
    ReturnsInHanded {} Tryd.checked os 4 .any (fun w args => (Rows.fnExactNumPowerSpec.pre enc Tryd.prog Tryd.f4 [] false w args ∧ laidMetH Tryd.prog laidE w) ∧ sizedMet enc Tryd.prog Tryd.f4 (OpenSpec.ofChange Rows.fnExactNumPowerSpec) false w args)
      (Rows.fnExactNumPowerSpec.post enc Tryd.prog Tryd.f4 false true false false) := by
  refine returnsInHanded_of_change_and (C := Tryd.checked) (X := fun w _ => laidMetH Tryd.prog laidE w) (fun _ _ _ hh h => h.of_heap hh) ownZ started (by kernel_rfl) Tryd.func4
    (ChangeSpec.witness_shaped (enc := enc) (C := Tryd.checked) (os := os) (X := fun w _ => laidMetH Tryd.prog laidE w) false (World.doorLaid Tryd.prog 400 os) #[.agg #[.bool false, .string ⟨#[]⟩, .string ⟨#[]⟩], .int .i64 0] 8 rfl (World.shaped_of_RefB (by kernel_rfl) (by kernel_rfl)) (by kernel_rfl) (by kernel_rfl) (by kernel_rfl) (door_metE os _)) ?_
  intro W base args ds gs before hval0 hW _ _ hL _
  have hval : ∀ (j : Nat) t v, Tryd.f4.params[j]? = some t → args[j]? = some v → Value.okWide Tryd.prog W .any base t v := hval0
  have hW' := hW
  obtain ⟨p, q, hA0, hV, rfl, hfz, hnd⟩ := hW
  have hA : DataW.TrodAll enc Tryd.prog W 0 (fun _ => true) true Tryd.f4.params.toList args.toList ds p := hA0
  rw [Tryd.params4] at hA hval
  obtain ⟨v0, vs0, d0, ds0, p0, q0, hargs, rfl, rfl, h0, r0⟩ := trodAll_cons hA
  obtain ⟨v1, vs1, d1, ds1, p1, q1, rfl, rfl, rfl, h1, r1⟩ := trodAll_cons r0
  obtain ⟨rfl, rfl, rfl⟩ := trodAll_nil r1
  obtain rfl : args = #[v0, v1] := by cases args; simp_all
  have k0 := h0
  have k1 := h1
  have lt1 : ∀ x ∈ p1, x.block < W.heap.size := by obtain ⟨m, hm⟩ := k1; exact DataW.trod_lt m _ _ _ hm
  have lt0 : ∀ x ∈ p0, x.block < W.heap.size := by obtain ⟨m, hm⟩ := k0; exact DataW.trod_lt m _ _ _ hm
  obtain ⟨cs, rfl, hsz⟩ := okWide_struct Tryd.underlying23 (hval 0 23 v0 rfl rfl)
  obtain ⟨c0, c1, c2, rfl⟩ := array3 (hsz.trans cellsNum)
  obtain ⟨neg, up, down, hcs, hu, hd⟩ : ∃ (neg : Bool) (up down : ByteArray), [c0, c1, c2] = [Value.bool neg, .string up, .string down] ∧ up.size ≤ maxLen ∧ down.size ≤ maxLen := by
    obtain ⟨fuel, hr⟩ := h0
    exact num_of hr
  simp only [List.cons.injEq, and_true] at hcs
  obtain ⟨rfl, rfl, rfl⟩ := hcs
  obtain ⟨i, rfl⟩ : ∃ i : Int, v1 = .int .i64 i := okWide_int Tryd.underlying3 (hval 1 3 v1 rfl rfl)
  have hT := powE_of hL
  have hVV : DataW.TrodVars enc Tryd.prog W (fun _ => true) ["loop.example/siskin/impl.powersOfTen"] gs q := hV
  clear hA0 hval0
  refine (lawNumPower_any neg up down i W hu hd hT).mono fun e W' ⟨he, bel⟩ => ?_
  subst he
  obtain ⟨pv, hpv⟩ := vars_keptZ hVV bel hT.1
  obtain ⟨g1, rfl⟩ : ∃ g1, gs = [g1] := by
    obtain ⟨g, t, cs, fuel, d, p, rfl, -⟩ := trodVars_one hVV
    exact ⟨d, rfl⟩
  exact ⟨_, rfl, _, _, _, [], _, pv, hW', trodAll_mk1 (shut_bool Tryd.underlying4 _), (trodAll_cons_mk (Below.trod laidOutZ (by kernel_rfl) (of_decide_eq_true (by kernel_rfl)) k0 bel lt0) (trodAll_cons_mk (Below.trod laidOutZ (by kernel_rfl) (of_decide_eq_true (by kernel_rfl)) k1 bel lt1) trodAll_mk0)), hpv, bel.frame _, fun h => by cases h⟩

theorem over : Rows.FnExactNumPowerSaid :=
  OpenClaim.holds_of_wide 4 Tryd.f4 rfl rfl rfl rfl rfl rfl rfl ⟨rfl, rfl, rfl, rfl, rfl⟩ rfl rfl rfl rfl rfl (by kernel_rfl) Tryd.func4 (by kernel_rfl)
    (of_decide_eq_true (by kernel_rfl)) (by unfold Func.isWrapper; first | (rw [if_pos (by decide +kernel)]; kernel_rfl) | (rw [if_neg (by decide +kernel)]; exact ⟨rfl, rfl⟩))
    (fun os started H enc _ => lifted os started H enc)

theorem card_holds : Rows.FnExactNumPowerCardSaid :=
  Claim7.holds_tied_plain_at .later [] [.handle, .data] true (true, "87abdfa5200ba2d3ae4fc59ced0e60c49222ae3e7ee6cf9db0b25cdd489cd1f4") true
    over (fun _ h => by cases h) (by kernel_rfl) (fun _ h => by cases h) fnExactNumPower_row_tie rfl ⟨rfl, rfl⟩ (by kernel_rfl) rfl
    (fun f fn hf hfn => by
      obtain rfl : f = 4 := Option.some.inj ((show Tryd.prog.funcNamed "loop.example/siskin/laws.FnExactNumPower" = some 4 by kernel_rfl).symm.trans hf) |>.symm
      obtain rfl : fn = Tryd.f4 := (Option.some.inj (Tryd.func4.symm.trans hfn)).symm
      exact ⟨by kernel_rfl, fun j t ht => by
        rw [Tryd.params4] at ht
        have hm : t ∈ [23, 3] := by simpa using Array.mem_of_getElem? ht
        have hall : ([23, 3].all fun u => !Tryd.prog.wantsStandIn u) = true := by kernel_rfl
        exact (show Tryd.prog.wantsStandIn t = false by simpa using List.all_eq_true.1 hall t hm)⟩)
    (by kernel_rfl)
end Go.Proofs.YtbbffhpppacihaaDoor.numPowerLaw
namespace Go.Proofs.YtbbffhpppacihaaDoor

/-- The statement, as it was given. -/
theorem numPowerLaw_holds : Rows.FnExactNumPowerCardSaid := numPowerLaw.card_holds
#print axioms numPowerLaw_holds
end Go.Proofs.YtbbffhpppacihaaDoor
