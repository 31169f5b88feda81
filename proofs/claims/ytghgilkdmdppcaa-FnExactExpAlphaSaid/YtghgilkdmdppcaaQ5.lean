/-
  The law's eqStringS, eqExpCore and eqExpCoreS return true of two places that hold one part. Condition: both lie in memory as CoreAt says.
-/
import Derived.Test.YtghgilkdmdppcaaQ4
import Derived.Test.YtghgilkdmdppcaaF3
import Derived.Deep.RegionWith
namespace Go.Proofs.Ytghgilkdmdppcaa
open Go.RowKit Go.Siskin

set_option maxHeartbeats 1000000 in
theorem eqStringS_any (B : Nat → Prop) (va vb : Value) (xs : List ByteArray) (w : World) (ha : StrsAt B w va xs) (hb : StrsAt B w vb xs) :
    Calls Try.prog 23 #[va, vb] w fun e w' => e = .returned (.bool true) ∧ ∃ n, w' = w.drewN n := by
  obtain ⟨a, ca, rfl, hla, -, ha⟩ := ha
  obtain ⟨b, cb, rfl, hlb, -, hb⟩ := hb
  unfold maxLen at hla hlb
  go_enter Try.func23, Try.ntmps23
  go_wp2_with fail
  go_loopw [5] (fun i wr => (∃ n, wr = w.drewN n) ∧ ∃ k : Nat, k ≤ xs.length ∧ i = .int .i64 k) (fun i _ => xs.length - (intOf i).toNat)
  case atStart => exact ⟨⟨0, rfl⟩, 0, Nat.zero_le _, rfl⟩
  case round =>
    obtain ⟨⟨n, rfl⟩, k, hk, rfl⟩ := hrel
    by_cases hlt : k < xs.length
    · rcases ha with ha | ⟨ba, oa, rfl, _, ha⟩
      · subst ha; simp at hlt
      rcases hb with hb | ⟨bb, ob, rfl, _, hb⟩
      · subst hb; simp at hlt
      have ga := ha k hlt
      have gb := hb k hlt
      clear ha hb
      go_wp2_with fail
      go_quiet (fail)
      go_wp2_with fail
      exact ⟨⟨⟨n + nq, rfl⟩, k + 1, by omega, by go_num⟩, by simp [intOf]; omega⟩
    · go_wp2_with fail
      go_ret
      exact ⟨rfl, n, rfl⟩

def EqCore (n : Nat) : Prop := ∀ f : Cm, f.sz ≤ n → ∀ (B B' : Nat → Prop) (w : World) (c0 c1 c2 c3 c4 d0 d1 d2 d3 d4 : Value), CoreAt B w f c0 c1 c2 c3 c4 → CoreAt B' w f d0 d1 d2 d3 d4 → (∀ b, B b → b < w.heap.size) → (∀ b, B' b → b < w.heap.size) →
    Calls Try.prog 15 #[.agg #[c0, c1, c2, c3, c4], .agg #[d0, d1, d2, d3, d4]] w fun e w' => e = .returned (.bool true) ∧ Below w.heap.size w w'
def EqCores (n : Nat) : Prop := ∀ ks : List Cm, Cm.szs ks ≤ n → ∀ (B B' : Nat → Prop) (w : World) (v u : Value), CoresAt B w v ks → CoresAt B' w u ks → (∀ b, B b → b < w.heap.size) → (∀ b, B' b → b < w.heap.size) →
    Calls Try.prog 8 #[v, u] w fun e w' => e = .returned (.bool true) ∧ Below w.heap.size w w'

set_option maxHeartbeats 1000000 in
theorem eqCores_of (n : Nat) (ih : EqCore n) : EqCores n := by
  intro ks hks B B' w v u hv hu hB hB'
  obtain ⟨a, ca, rfl, hla, ha⟩ := hv
  obtain ⟨a', ca', rfl, -, ha'⟩ := hu
  unfold maxLen at hla
  have HI := hid ih
  have HR := hid hB
  have HR' := hid hB'
  clear ih hB hB'
  go_enter Try.func8, Try.ntmps8
  go_wp2_with fail
  go_loopw [5] (fun i wr => ∃ k : Nat, k ≤ ks.length ∧ i = .int .i64 k ∧ Hid (Below w.heap.size w wr)) (fun i _ => ks.length - (intOf i).toNat)
  case atStart => exact ⟨0, Nat.zero_le _, rfl, Below.refl _ _⟩
  case round =>
    obtain ⟨k, hk, rfl, HB⟩ := hrel
    by_cases hlt : k < ks.length
    · rcases ha with ha | ⟨ba, oa, rfl, hb, ha⟩
      · subst ha; simp at hlt
      rcases ha' with ha' | ⟨ba', oa', rfl, hb', ha'⟩
      · subst ha'; simp at hlt
      obtain ⟨c0, c1, c2, c3, c4, g0, g1, g2, g3, g4, hf⟩ := CRowAt.get ks (CRowAt.keep (HB.out.on HR.out) hb ks ha) k hlt
      obtain ⟨d0, d1, d2, d3, d4, e0, e1, e2, e3, e4, hf'⟩ := CRowAt.get ks (CRowAt.keep (HB.out.on HR'.out) hb' ks ha') k hlt
      have hsz := HB.out.size
      have HC := hid (HI.out ks[k] (Nat.le_trans (Cm.szs_get ks k hlt) hks) B B' wr.drew c0 c1 c2 c3 c4 d0 d1 d2 d3 d4 (CoreAt.keep (SameOn.drew _ _) _ hf) (CoreAt.keep (SameOn.drew _ _) _ hf') (fun b hb => Nat.lt_of_lt_of_le (HR.out b hb) hsz) (fun b hb => Nat.lt_of_lt_of_le (HR'.out b hb) hsz))
      clear ha hf ha' hf' HI
      go_wp2_with fail
      go_region_with (go_at_call 15; refine HC.out.mono ?_; rintro e w' ⟨rfl, hw⟩)
      all_goals go_wp2_with fail
      all_goals exact ⟨⟨k + 1, by omega, by go_num, HB.out.drew.trans (hw.mono hsz)⟩, by simp [intOf]; omega⟩
    · go_wp2_with fail
      go_ret
      exact ⟨rfl, HB.out⟩

set_option maxHeartbeats 2000000 in
theorem eqCore_of (n : Nat) (ih : EqCores n) : EqCore (n + 1) := by
  intro f hf B B' w c0 c1 c2 c3 c4 d0 d1 d2 d3 d4 hA hA' hB hB'
  obtain ⟨rfl, rfl, ht, rfl, h2, h4⟩ := (coreAt_iff _ _ _ _ _ _ _ _).1 hA
  obtain ⟨rfl, rfl, -, rfl, h2', h4'⟩ := (coreAt_iff _ _ _ _ _ _ _ _).1 hA'
  have HS := hid (Cm.sz_kids f)
  have H2 := hid h2
  have H4 := hid h4
  have H2' := hid h2'
  have H4' := hid h4'
  have HI := hid ih
  have HR := hid hB
  have HR' := hid hB'
  obtain ⟨a2, k2, rfl, -⟩ := h2
  obtain ⟨a2', k2', rfl, -⟩ := h2'
  obtain ⟨a4, k4, rfl, -⟩ := h4
  obtain ⟨a4', k4', rfl, -⟩ := h4'
  clear hA hA' ih hB hB'
  go_enter Try.func15, Try.ntmps15
  go_wp2_with fail
  refine (eqStringS_any (fun b => B b ∨ B' b) _ _ f.names _ ((H2.out.keep (((SameOn.refl _ _).alloc HR.out _).alloc (fun b hb => by have := HR.out b hb; simp; omega) _)).mono (fun _ h => Or.inl h)) ((H2'.out.keep (((SameOn.refl _ _).alloc HR'.out _).alloc (fun b hb => by have := HR'.out b hb; simp; omega) _)).mono (fun _ h => Or.inr h))).mono ?_
  rintro e w1 ⟨rfl, m, rfl⟩
  go_wp2_with fail
  refine (HI.out f.kids (by have := HS.out; omega) B B' _ _ _ (H4.out.keep ?_) (H4'.out.keep ?_) ?_ ?_).mono ?_
  · exact (((SameOn.refl _ _).alloc HR.out _).alloc (fun b hb => by have := HR.out b hb; simp; omega) _).drewN m
  · exact (((SameOn.refl _ _).alloc HR'.out _).alloc (fun b hb => by have := HR'.out b hb; simp; omega) _).drewN m
  · exact fun b hb => by have := HR.out b hb; simp; omega
  · exact fun b hb => by have := HR'.out b hb; simp; omega
  rintro e w2 ⟨rfl, hw⟩
  go_wp2_with fail
  go_ret
  exact ⟨rfl, (belowN (((Below.refl _ _).alloc (Nat.le_refl _) _).alloc (by simp) _) m).trans (hw.mono (by simp; omega))⟩

theorem eqCore_all : ∀ n, EqCore n ∧ EqCores n
  | 0 => by
    have h : EqCore 0 := fun f hf => by have := Cm.sz_kids f; omega
    exact ⟨h, eqCores_of 0 h⟩
  | n + 1 => by
    have h := eqCore_of n (eqCore_all n).2
    exact ⟨h, eqCores_of (n + 1) h⟩

/-- Two places that hold one form are held equal by the law. -/
theorem eqExpCore_any (f : Cm) (B B' : Nat → Prop) (w : World) (c0 c1 c2 c3 c4 d0 d1 d2 d3 d4 : Value) (h : CoreAt B w f c0 c1 c2 c3 c4) (h' : CoreAt B' w f d0 d1 d2 d3 d4) (hB : ∀ b, B b → b < w.heap.size) (hB' : ∀ b, B' b → b < w.heap.size) :
    Calls Try.prog 15 #[.agg #[c0, c1, c2, c3, c4], .agg #[d0, d1, d2, d3, d4]] w fun e w' => e = .returned (.bool true) ∧ Below w.heap.size w w' :=
  (eqCore_all f.sz).1 f (Nat.le_refl _) B B' w c0 c1 c2 c3 c4 d0 d1 d2 d3 d4 h h' hB hB'

end Go.Proofs.Ytghgilkdmdppcaa
