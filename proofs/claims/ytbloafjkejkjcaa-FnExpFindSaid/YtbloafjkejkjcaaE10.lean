/- The law's wxWithin and wxFits return what their plain functions say. Condition: the lists, the bind and the form lie in memory as IntsAt, BindAt and FormAt say. -/
import Derived.Test.YtbloafjkejkjcaaB6
import Derived.BigQuiet
namespace Go.Proofs.Ytbloafjkejkjcaa
open Go.RowKit Go.Siskin

theorem take_has (ys : List Int) (k : Nat) (h : k < ys.length) (x : Int) : (ys.take (k + 1)).contains x = ((ys.take k).contains x || (x == ys[k])) := by
  rw [List.take_succ_eq_append_getElem h, List.contains_append]
  congr 1
  show (x == ys[k] || false) = _
  rw [Bool.or_false]

set_option maxHeartbeats 2000000 in
theorem wxWithin_any (B : Nat → Prop) (va vb : Value) (xs ys : List Int) (w : World) (ha : IntsAt B w va xs) (hb : IntsAt B w vb ys) :
    Calls Try.prog 8 #[va, vb] w fun e w' => e = .returned (.bool (withinB xs ys)) ∧ ∃ n, w' = w.drewN n := by
  obtain ⟨a, ca, rfl, hla, ha⟩ := ha
  obtain ⟨b, cb, rfl, hlb, hb⟩ := hb
  unfold maxLen at hla hlb
  go_enter Try.func8, Try.ntmps8
  go_wp2_with fail
  go_loopw [5] (fun i wr => (∃ n, wr = w.drewN n) ∧ ∃ k : Nat, k ≤ xs.length ∧ i = .int .i64 k ∧ Hid (∀ j (hj : j < xs.length), j < k → ys.contains xs[j] = true)) (fun i _ => xs.length - (intOf i).toNat)
  case atStart => exact ⟨⟨0, rfl⟩, 0, Nat.zero_le _, rfl, fun j _ hj => absurd hj (by omega)⟩
  case round =>
    obtain ⟨⟨n, rfl⟩, k, hk, rfl, HA⟩ := hrel
    by_cases hlt : k < xs.length
    · rcases ha with ha | ⟨ba, oa, rfl, hba, ha⟩
      · subst ha; simp at hlt
      have ga := ha k hlt
      rw [getD_get hlt] at ga
      clear ha
      go_wp2_with fail
      go_loopw [6, 7] (fun fo i wr => (∃ n, wr = w.drewN n) ∧ ∃ k2 : Nat, k2 ≤ ys.length ∧ i = .int .i64 k2 ∧ ∃ bb : Bool, fo = .bool bb ∧ Hid (bb = (ys.take k2).contains xs[k])) (fun _ i _ => ys.length - (intOf i).toNat)
      case atStart => exact ⟨⟨n, rfl⟩, 0, Nat.zero_le _, rfl, false, rfl, by show _ = _; simp⟩
      case round =>
        obtain ⟨⟨n2, rfl⟩, k2, hk2, rfl, bb, rfl, HB⟩ := hrel
        by_cases hlt2 : k2 < ys.length
        · rcases hb with hb | ⟨bb2, ob, rfl, hbb, hb⟩
          · subst hb; simp at hlt2
          have gb := hb k2 hlt2
          rw [getD_get hlt2] at gb
          have HT := hid (take_has ys k2 hlt2 xs[k])
          cases bb with
          | true =>
            go_wp2_with fail
            go_quiet (fail)
            go_wp2_with fail
            exact ⟨⟨⟨n2 + nq, by simp⟩, k2 + 1, by omega, by go_num, true, rfl, by show _ = _; rw [HT.out, ← HB.out]; rfl⟩, by simp [intOf]; omega⟩
          | false =>
            go_wp2_with fail
            go_quiet (fail)
            go_wp2_with fail
            exact ⟨⟨⟨n2 + nq, by simp⟩, k2 + 1, by omega, by go_num, _, rfl, by show _ = _; rw [HT.out, ← HB.out]; rfl⟩, by simp [intOf]; omega⟩
        · have hkk : k2 = ys.length := by omega
          rw [hkk, List.take_length] at HB
          cases bb with
          | true =>
            have HX := hid (within_step hlt HB.out.symm HA.out)
            go_wp2_with fail
            exact ⟨⟨⟨n2, rfl⟩, k + 1, by omega, by go_num, HX⟩, by simp [intOf]; omega⟩
          | false =>
            have HX := hid (within_no hlt HB.out.symm)
            go_wp2_with fail
            go_ret
            exact ⟨ret_bool HX.out, n2, rfl⟩
    · go_wp2_with fail
      go_ret
      exact ⟨ret_bool (within_yes hlt HA.out), n, rfl⟩

set_option maxHeartbeats 1000000 in
theorem wxFits_any (d : Bd) (f : Fm) (B B' : Nat → Prop) (w : World) (k0 k1 k2 c0 c1 c2 c3 c4 : Value) (hK : BindAt B w d k0 k1 k2) (hA : FormAt B' w f c0 c1 c2 c3 c4) (hB : ∀ b, B b → b < w.heap.size) (hB' : ∀ b, B' b → b < w.heap.size) :
    Calls Try.prog 7 #[.agg #[k0, k1, k2], .agg #[c0, c1, c2, c3, c4]] w fun e w' => e = .returned (.bool (fitsB f.text f.scopes d)) ∧ Below w.heap.size w w' := by
  obtain ⟨rfl, ht, h2, rfl, hn⟩ := hK
  obtain ⟨rfl, rfl, htf, g2, rfl, g4⟩ := (formAt_iff _ _ _ _ _ _ _ _).1 hA
  have H2 := hid (h2.mono (B' := fun b => b < w.heap.size) hB)
  have G2 := hid (g2.mono (B' := fun b => b < w.heap.size) hB')
  obtain ⟨a2, ca2, rfl, -⟩ := h2
  obtain ⟨b2, cb2, rfl, -⟩ := g2
  obtain ⟨a4, ca4, rfl, -⟩ := g4
  clear hA hB hB'
  cases ht' : d.text.toList == f.text.toList with
  | false =>
    go_enter Try.func7, Try.ntmps7
    go_wp2_with fail
    go_ret
    exact ⟨ret_bool (by unfold fitsB; rw [ht']; rfl), ((Below.refl _ _).alloc (Nat.le_refl _) _).alloc (by simp) _⟩
  | true =>
    go_enter Try.func7, Try.ntmps7
    go_wp2_with (go_at_call 8; refine (wxWithin_any (fun b => b < w.heap.size) _ _ d.scopes f.scopes _ (H2.out.keep (((SameOn.refl _ _).alloc (fun b hb => hb) _).alloc (fun b hb => by simp; omega) _)) (G2.out.keep (((SameOn.refl _ _).alloc (fun b hb => hb) _).alloc (fun b hb => by simp; omega) _))).mono ?_; rintro e w' ⟨rfl, n, hw⟩; rw [hw]; clear hw w')
    go_ret
    exact ⟨ret_bool (by unfold fitsB; rw [ht']; rfl), belowN (((Below.refl _ _).alloc (Nat.le_refl _) _).alloc (by simp) _) n⟩

end Go.Proofs.Ytbloafjkejkjcaa
