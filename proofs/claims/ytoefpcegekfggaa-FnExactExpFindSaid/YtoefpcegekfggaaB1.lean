/- The law's szExpBind and szExpBindS take from a number what binds cost; toExpBind and toExpBindS copy them into new memory; eqExpBind and eqExpBindS are true of two places that hold the same. Condition: the binds lie in memory as BindsAt says. -/
import Derived.Test.YtoefpcegekfggaaB0
import Derived.Test.YtoefpcegekfggaaF3
namespace Go.Proofs.Ytoefpcegekfggaa
open Go.RowKit Go.Siskin

set_option maxHeartbeats 1000000 in
theorem szBind_any (d : Bd) (B : Nat → Prop) (w : World) (c0 c1 c2 : Value) (left : Int) (hA : BindAt B w d c0 c1 c2) (h0 : 0 ≤ left) (h1 : left ≤ 1048576) :
    Calls Try.prog 29 #[.agg #[c0, c1, c2], .int .i64 left] w fun e w' => e = .returned (.int .i64 (szI d.cost left)) ∧ Below w.heap.size w w' := by
  obtain ⟨rfl, ht, h2, rfl, hn⟩ := hA
  obtain ⟨sa, sc, rfl, hsl, -⟩ := h2
  have hsl0 := hsl
  have HC := hid (show d.cost = d.text.size + d.scopes.length + d.name.size from rfl)
  unfold maxLen at ht hn
  by_cases k1 : left - d.text.size < 0
  · go_enter Try.func29, Try.ntmps29
    go_wp2_with fail
    go_ret
    have := HC.out
    exact ⟨ret_int ((szI_minus _ _).2 (by omega)).symm, (Below.refl _ _).alloc (Nat.le_refl _) _⟩
  by_cases k2 : szI d.scopes.length (left - d.text.size) < 0
  · go_enter Try.func29, Try.ntmps29
    go_wp2_with (go_at_call 18; refine (szIntS_any _ _ _ _ _ (by omega) (by omega) hsl0).mono ?_; rintro e w' ⟨rfl, hw⟩; rw [hw]; clear hw w')
    go_ret
    have := HC.out
    have := (szI_neg _ _).1 k2
    exact ⟨ret_int ((szI_minus _ _).2 (by omega)).symm, (Below.refl _ _).alloc (Nat.le_refl _) _⟩
  have HP := hid (szI_pos _ _ k2)
  have hle := (szI_ge d.scopes.length (left - d.text.size)).2 (by omega)
  by_cases k3 : szI d.scopes.length (left - d.text.size) - d.name.size < 0
  · go_enter Try.func29, Try.ntmps29
    go_wp2_with (go_at_call 18; refine (szIntS_any _ _ _ _ _ (by omega) (by omega) hsl0).mono ?_; rintro e w' ⟨rfl, hw⟩; rw [hw]; clear hw w')
    go_ret
    have := HC.out
    have := HP.out
    exact ⟨ret_int ((szI_minus _ _).2 (by omega)).symm, (Below.refl _ _).alloc (Nat.le_refl _) _⟩
  · go_enter Try.func29, Try.ntmps29
    go_wp2_with (go_at_call 18; refine (szIntS_any _ _ _ _ _ (by omega) (by omega) hsl0).mono ?_; rintro e w' ⟨rfl, hw⟩; rw [hw]; clear hw w')
    go_ret
    have h1 := HC.out
    have h2 := HP.out
    refine ⟨ret_int ?_, (Below.refl _ _).alloc (Nat.le_refl _) _⟩
    rw [h2, szI_pos d.cost left (by rw [szI_neg]; omega)]; omega

set_option maxHeartbeats 1000000 in
theorem szBinds_any (ks : List Bd) (B : Nat → Prop) (w : World) (v : Value) (left : Int) (hv : BindsAt B w v ks) (hB : ∀ b, B b → b < w.heap.size) (h0 : 0 ≤ left) (h1 : left ≤ 1048576) :
    Calls Try.prog 13 #[v, .int .i64 left] w fun e w' => e = .returned (.int .i64 (szI (ks.length + Bd.costs ks) left)) ∧ Below w.heap.size w w' := by
  obtain ⟨a, ca, rfl, hla, ha⟩ := hv
  unfold maxLen at hla
  by_cases hn : left - ks.length < 0
  · go_enter Try.func13, Try.ntmps13
    go_wp2_with fail
    go_ret
    exact ⟨ret_int (by unfold szI; rw [if_pos (by omega)]), Below.refl _ _⟩
  go_enter Try.func13, Try.ntmps13
  go_wp2_with fail
  go_loopw [1, 5] (fun l i wr => ∃ k : Nat, k ≤ ks.length ∧ i = .int .i64 k ∧ ∃ m : Int, l = .int .i64 m ∧ 0 ≤ m ∧ m ≤ 1048576 ∧ Hid (m = left - ks.length - Bd.costs (ks.take k)) ∧ Hid (Below w.heap.size w wr)) (fun _ i _ => ks.length - (intOf i).toNat)
  case atStart => exact ⟨0, Nat.zero_le _, rfl, _, rfl, by omega, by omega, by show _ = _; simp [Bd.costs], Below.refl _ _⟩
  case round =>
    obtain ⟨k, hk, rfl, m, rfl, hm0, hm1, HM, HB⟩ := hrel
    by_cases hlt : k < ks.length
    · rcases ha with ha | ⟨ba, oa, rfl, hb, ha⟩
      · subst ha; simp at hlt
      obtain ⟨c0, c1, c2, g0, g1, g2, hf⟩ := (ha.keep (HB.out.on hB) hb) k hlt
      have hsz := HB.out.size
      have HC := hid (szBind_any ks[k] B wr c0 c1 c2 m hf hm0 hm1)
      have HT := hid (Bd.costs_take ks k hlt)
      have HL := hid (Bd.costs_take_le ks (k + 1))
      clear ha hf
      by_cases hneg : szI ks[k].cost m < 0
      · go_wp2_with (go_at_call 29; refine HC.out.mono ?_; rintro e w' ⟨rfl, hw⟩)
        go_ret
        refine ⟨ret_int ?_, HB.out.trans (hw.mono (by omega))⟩
        have h1 := HM.out
        have h2 := HT.out
        have h3 := HL.out
        have h4 := (szI_neg _ _).1 hneg
        exact ((szI_minus _ _).2 (by omega)).symm
      · go_wp2_with (go_at_call 29; refine HC.out.mono ?_; rintro e w' ⟨rfl, hw⟩)
        have h1 := HM.out
        have h2 := HT.out
        have h4 := szI_pos _ _ (Int.not_lt.2 hneg)
        have h5 := (szI_ge ks[k].cost m).2 hm0
        exact ⟨⟨k + 1, by omega, by go_num, _, rfl, by omega, by omega, by show _ = _; rw [h4, h2]; omega, HB.out.trans (hw.mono (by omega))⟩, by simp [intOf]; omega⟩
    · go_wp2_with fail
      go_ret
      exact ⟨ret_int (by
        have h := HM.out
        rw [List.take_of_length_le (by omega)] at h
        unfold szI; rw [if_neg (by omega)]; omega), HB.out⟩

set_option maxHeartbeats 2000000 in
theorem eqBind_any (d : Bd) (B B' : Nat → Prop) (w : World) (c0 c1 c2 d0 d1 d2 : Value) (hA : BindAt B w d c0 c1 c2) (hA' : BindAt B' w d d0 d1 d2) (hB : ∀ b, B b → b < w.heap.size) (hB' : ∀ b, B' b → b < w.heap.size) :
    Calls Try.prog 36 #[.agg #[c0, c1, c2], .agg #[d0, d1, d2]] w fun e w' => e = .returned (.bool true) ∧ Below w.heap.size w w' := by
  obtain ⟨rfl, ht, h2, rfl, hn⟩ := hA
  obtain ⟨rfl, -, h2', rfl, -⟩ := hA'
  have H2 := hid h2
  have H2' := hid h2'
  have HR := hid hB
  have HR' := hid hB'
  obtain ⟨a2, k2, rfl, -⟩ := h2
  obtain ⟨a2', k2', rfl, -⟩ := h2'
  clear hB hB'
  go_enter Try.func36, Try.ntmps36
  go_wp2_with fail
  refine (eqIntS_any (fun b => B b ∨ B' b) _ _ d.scopes d.scopes _ ((H2.out.keep (((SameOn.refl _ _).alloc HR.out _).alloc (fun b hb => by have := HR.out b hb; simp; omega) _)).mono (fun _ h => Or.inl h)) ((H2'.out.keep (((SameOn.refl _ _).alloc HR'.out _).alloc (fun b hb => by have := HR'.out b hb; simp; omega) _)).mono (fun _ h => Or.inr h))).mono ?_
  rintro e w1 ⟨rfl, m, rfl⟩
  rw [show (d.scopes == d.scopes) = true from by simp]
  go_wp2_with fail
  go_ret
  exact ⟨rfl, belowN (((Below.refl _ _).alloc (Nat.le_refl _) _).alloc (by simp) _) m⟩

set_option maxHeartbeats 1000000 in
theorem eqBinds_any (ks : List Bd) (B B' : Nat → Prop) (w : World) (v u : Value) (hv : BindsAt B w v ks) (hu : BindsAt B' w u ks) (hB : ∀ b, B b → b < w.heap.size) (hB' : ∀ b, B' b → b < w.heap.size) :
    Calls Try.prog 17 #[v, u] w fun e w' => e = .returned (.bool true) ∧ Below w.heap.size w w' := by
  obtain ⟨a, ca, rfl, hla, ha⟩ := hv
  obtain ⟨a', ca', rfl, -, ha'⟩ := hu
  unfold maxLen at hla
  have HR := hid hB
  have HR' := hid hB'
  clear hB hB'
  go_enter Try.func17, Try.ntmps17
  go_wp2_with fail
  go_loopw [5] (fun i wr => ∃ k : Nat, k ≤ ks.length ∧ i = .int .i64 k ∧ Hid (Below w.heap.size w wr)) (fun i _ => ks.length - (intOf i).toNat)
  case atStart => exact ⟨0, Nat.zero_le _, rfl, Below.refl _ _⟩
  case round =>
    obtain ⟨k, hk, rfl, HB⟩ := hrel
    by_cases hlt : k < ks.length
    · rcases ha with ha | ⟨ba, oa, rfl, hb, ha⟩
      · subst ha; simp at hlt
      rcases ha' with ha' | ⟨ba', oa', rfl, hb', ha'⟩
      · subst ha'; simp at hlt
      obtain ⟨c0, c1, c2, g0, g1, g2, hf⟩ := (ha.keep (HB.out.on HR.out) hb) k hlt
      obtain ⟨d0, d1, d2, e0, e1, e2, hf'⟩ := (ha'.keep (HB.out.on HR'.out) hb') k hlt
      have hsz := HB.out.size
      have HC := hid (eqBind_any ks[k] B B' wr.drew c0 c1 c2 d0 d1 d2 (hf.keep (SameOn.drew _ _)) (hf'.keep (SameOn.drew _ _)) (fun b hb => Nat.lt_of_lt_of_le (HR.out b hb) hsz) (fun b hb => Nat.lt_of_lt_of_le (HR'.out b hb) hsz))
      clear ha hf ha' hf'
      go_wp2_with fail
      go_region_with (go_at_call 36; refine HC.out.mono ?_; rintro e w' ⟨rfl, hw⟩)
      all_goals go_wp2_with fail
      all_goals exact ⟨⟨k + 1, by omega, by go_num, HB.out.drew.trans (hw.mono hsz)⟩, by simp [intOf]; omega⟩
    · go_wp2_with fail
      go_ret
      exact ⟨rfl, HB.out⟩

end Go.Proofs.Ytoefpcegekfggaa
