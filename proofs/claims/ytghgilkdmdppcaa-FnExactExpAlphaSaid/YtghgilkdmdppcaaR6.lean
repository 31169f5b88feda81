/-
  The program's same and sameAll. Condition: both parts lie in memory, elsewhere than the alpha, which lies as AlphaAt says.
-/
import Derived.Test.YtghgilkdmdppcaaR5
import Derived.Test.YtghgilkdmdppcaaQ2
import Derived.Deep.RegionWith
namespace Go.Proofs.Ytghgilkdmdppcaa
open Go.RowKit Go.Siskin

/-- What the program leaves behind: the alpha as it was, but for numbers that were used. -/
def PostA (F : Nat → Prop) (base b : Nat) (m : Bool → Nat) (n : Nat) (p : Int) (T : List (Int × ByteArray × ByteArray)) (B : Nat) (w w' : World) : Prop :=
  Kept F w w' ∧ ∃ n' p' G', AlphaAt w' F base b m n' p' (nums T) G' ∧ n' ≤ n + 4 * B ∧ p ≤ p' ∧ p' ≤ p + B

def SameC (sz : Nat) : Prop := ∀ c : Cm, c.sz ≤ sz → ∀ (d : Cm) (R F : Nat → Prop) (T : List (Int × ByteArray × ByteArray)) (w : World) (base b : Nat) (m : Bool → Nat) (n : Nat) (p : Int) (G : Bool → ByteArray → Option Value) (c0 c1 c2 c3 c4 d0 d1 d2 d3 d4 : Value),
    CoreAt R w c c0 c1 c2 c3 c4 → CoreAt R w d d0 d1 d2 d3 d4 → (∀ k, R k → F k) → AlphaAt w F base b m n p (nums T) G → GoodT T p → 0 ≤ p → n + 4 * c.cost < 16777216 → T.length + c.cost ≤ 2097152 → p + c.cost ≤ 16777216 →
    Calls Try.prog 22 #[pa b, .agg #[c0, c1, c2, c3, c4], .agg #[d0, d1, d2, d3, d4]] w fun e w' => e = .returned (.bool (alphaC c (envOf T) d)) ∧ PostA F base b m n p T c.cost w w'
def SameS (sz : Nat) : Prop := ∀ ks : List Cm, Cm.szs ks ≤ sz → ∀ (ds : List Cm) (R F : Nat → Prop) (T : List (Int × ByteArray × ByteArray)) (w : World) (base b : Nat) (m : Bool → Nat) (n : Nat) (p : Int) (G : Bool → ByteArray → Option Value) (v u : Value),
    CoresAt R w v ks → CoresAt R w u ds → (∀ k, R k → F k) → AlphaAt w F base b m n p (nums T) G → GoodT T p → 0 ≤ p → n + 4 * Cm.costs ks < 16777216 → T.length + Cm.costs ks ≤ 2097152 → p + Cm.costs ks ≤ 16777216 →
    Calls Try.prog 14 #[pa b, v, u] w fun e w' => e = .returned (.bool (alphaS (envOf T) ks ds)) ∧ PostA F base b m n p T (Cm.costs ks) w w'

set_option maxRecDepth 20000 in
set_option maxHeartbeats 1000000 in
theorem sameS_of (sz : Nat) (ih : SameC sz) : SameS sz := by
  intro ks hks ds R F T w base b m n p G v u hv hu hR hA hT hp0 hn hTl hp
  obtain ⟨a, ca, rfl, hla, ha⟩ := hv
  obtain ⟨a', ca', rfl, hla', ha'⟩ := hu
  obtain ⟨hla, -⟩ := hla
  obtain ⟨hla', -⟩ := hla'
  unfold maxLen at hla hla'
  have HI := hid ih
  have HR := hid hR
  have HA := hid hA
  have HT := hid hT
  clear ih hR hA hT
  by_cases hl : ks.length = ds.length
  case neg =>
    have hl' : ((ks.length : Int) != (ds.length : Int)) = true := by simp; omega
    have HF := hid (alphaS_len (envOf T) ks ds hl)
    clear hl
    go_enter Try.func14, Try.ntmps14
    go_wp2_with fail
    go_ret
    exact ⟨ret_bool HF.out.symm, Kept.refl _ _, n, p, G, HA.out, by omega, by omega, by omega⟩
  have hl' : ((ks.length : Int) != (ds.length : Int)) = false := by simp; omega
  have HL := hid hl
  clear hl
  go_enter Try.func14, Try.ntmps14
  go_wp2_with fail
  go_loopw [15] (fun i wr => ∃ k : Nat, k ≤ ks.length ∧ i = .int .i64 k ∧ ∃ n' p' G', Hid (AlphaAt wr F base b m n' p' (nums T) G') ∧ Hid (Kept F w wr) ∧ Hid (n' ≤ n + 4 * Cm.costs (ks.take k)) ∧ Hid (p ≤ p') ∧ Hid (p' ≤ p + Cm.costs (ks.take k)) ∧ Hid (∀ j (h : j < ks.length) (h' : j < ds.length), j < k → alphaC ks[j] (envOf T) ds[j] = true)) (fun i _ => ks.length - (intOf i).toNat)
  case atStart => exact ⟨0, Nat.zero_le _, rfl, n, p, G, HA, Kept.refl _ _, by show _ ≤ _; omega, by show _ ≤ _; omega, by show _ ≤ _; omega, fun j _ _ hj => absurd hj (by omega)⟩
  case round =>
    obtain ⟨k, hk, rfl, n1, p1, G1, HA1, HK1, HN, HP, HP', HY⟩ := hrel
    by_cases hlt : k < ks.length
    · rcases ha with ha | ⟨ba, oa, rfl, hb, ha⟩
      · subst ha; simp at hlt
      have hltd : k < ds.length := by have := HL.out; omega
      rcases ha' with ha' | ⟨ba', oa', rfl, hb', ha'⟩
      · subst ha'; simp at hltd
      have hRS : SameOn R w wr := fun x hx => HK1.out.on x (HR.out x hx)
      obtain ⟨c0, c1, c2, c3, c4, g0, g1, g2, g3, g4, hf⟩ := CRowAt.get ks (CRowAt.keep hRS hb ks ha) k hlt
      obtain ⟨d0, d1, d2, d3, d4, e0, e1, e2, e3, e4, hf'⟩ := CRowAt.get ds (CRowAt.keep hRS hb' ds ha') k hltd
      have HCT := hid (Cm.costs_take ks k hlt)
      have HCL := hid (Cm.costs_take_le ks (k + 1))
      have hb1 : n1 + 4 * ks[k].cost < 16777216 := by have := HCT.out; have := HCL.out; have := HN.out; omega
      have hb2 : T.length + ks[k].cost ≤ 2097152 := by have := HCT.out; have := HCL.out; omega
      have hb3 : p1 + ks[k].cost ≤ 16777216 := by have := HCT.out; have := HCL.out; have := HP'.out; omega
      have HC := hid (HI.out ks[k] (Nat.le_trans (Cm.szs_get ks k hlt) hks) ds[k] R F T wr.drew base b m n1 p1 G1 c0 c1 c2 c3 c4 d0 d1 d2 d3 d4 (CoreAt.keep (SameOn.drew _ _) _ hf) (CoreAt.keep (SameOn.drew _ _) _ hf') HR.out HA1.out.drew (HT.out.mono HP.out) (by have := HP.out; omega) hb1 hb2 hb3)
      clear ha ha' hf hf' hRS HI hb1 hb2 hb3
      cases hx : alphaC ks[k] (envOf T) ds[k] with
      | false =>
        rw [hx] at HC
        have HF := hid (alphaS_no (envOf T) ks ds k hlt hltd hx)
        clear hx
        go_wp2_with fail
        go_region_with (go_at_call 22; refine HC.out.mono ?_; rintro e w1 ⟨rfl, hpost⟩; have HPo := hid hpost; clear hpost)
        all_goals go_wp2_with fail
        all_goals go_ret
        all_goals
          obtain ⟨hk2, n2, p2, G2, hA2, q1, q2, q3⟩ := HPo.out
          have h1 := HCT.out
          have h2 := HCL.out
          have h3 := HN.out
          have h4 := HP.out
          have h5 := HP'.out
          exact ⟨ret_bool HF.out.symm, HK1.out.drew.trans hk2, n2, p2, G2, hA2, by omega, by omega, by omega⟩
      | true =>
        rw [hx] at HC
        have HX := hid hx
        clear hx
        go_wp2_with fail
        go_region_with (go_at_call 22; refine HC.out.mono ?_; rintro e w1 ⟨rfl, hpost⟩; have HPo := hid hpost; clear hpost)
        all_goals go_wp2_with fail
        all_goals
          obtain ⟨hk2, n2, p2, G2, hA2, q1, q2, q3⟩ := HPo.out
          have h1 := HCT.out
          have h2 := HCL.out
          have h3 := HN.out
          have h4 := HP.out
          have h5 := HP'.out
          refine ⟨⟨k + 1, by omega, by go_num, n2, p2, G2, hA2, HK1.out.drew.trans hk2, by show _ ≤ _; omega, by show _ ≤ _; omega, by show _ ≤ _; omega, fun j hj hj' hjk => ?_⟩, by simp [intOf]; omega⟩
          by_cases e : j = k
          · subst e; exact HX.out
          · exact HY.out j hj hj' (by omega)
    · go_wp2_with fail
      go_ret
      have h2 := Cm.costs_take_le ks k
      have h3 := HN.out
      have h4 := HP.out
      have h5 := HP'.out
      exact ⟨ret_bool (alphaS_yes (envOf T) ks ds HL.out fun i h h' => HY.out i h h' (by omega)).symm, HK1.out, n1, p1, G1, HA1.out, by omega, by omega, by omega⟩
end Go.Proofs.Ytghgilkdmdppcaa
