/-
  The program's product of naturals. Condition: the groups lie in memory as NatA says; at most 2,000 groups each.
  The program's dividedBy, its long case, and whole. Condition: the groups lie in memory as NatA says, what is divided by is not nought.
  The program's naturalIn, walked.
-/
import Derived.Test.YtbbffhpppacihaaDoorPart5
import Derived.Test.YtbbffhpppacihaaDoorPart3
namespace Go.Proofs.YtbbffhpppacihaaDoor
open Go.RowKit Go.Siskin

/-- Groups below a place of one number, from it on of another. -/
def mixN (L q S A : Nat) : List Nat := (List.range L).map fun p => (if p < q then S else A) / 1000000000 ^ p % 1000000000
theorem mixN_length (L q S A : Nat) : (mixN L q S A).length = L := by simp [mixN]
theorem mixN_get (L q S A p : Nat) (h : p < (mixN L q S A).length) : (mixN L q S A)[p] = (if p < q then S else A) / 1000000000 ^ p % 1000000000 := by simp [mixN]
theorem mixN_start (L q A : Nat) : mixN L q A A = grpN L A := by
  unfold mixN grpN
  refine List.map_congr_left fun p _ => ?_
  split <;> rfl
theorem low_group {S q p : Nat} (h : p < q) : S % 1000000000 ^ q / 1000000000 ^ p % 1000000000 = S / 1000000000 ^ p % 1000000000 := by
  obtain ⟨r, rfl⟩ : ∃ r, q = p + (r + 1) := ⟨q - p - 1, by omega⟩
  rw [Nat.pow_add, Nat.mod_mul_right_div_self, Nat.mod_mod_of_dvd]
  exact ⟨1000000000 ^ r, by rw [Nat.pow_succ, Nat.mul_comm]⟩
theorem mixN_set {L q S T A : Nat} (h : T % 1000000000 ^ q = S % 1000000000 ^ q) : (mixN L q S A).set q (T / 1000000000 ^ q % 1000000000) = mixN L (q + 1) T A := by
  apply List.ext_getElem
  · simp [mixN]
  · intro p h1 h2
    rw [List.getElem_set]
    by_cases hp : q = p
    · subst hp; rw [if_pos rfl, mixN_get, if_pos (Nat.lt_succ_self _)]
    · rw [if_neg hp, mixN_get, mixN_get]
      by_cases hq : p < q
      · rw [if_pos hq, if_pos (by omega), ← low_group hq, ← h, low_group hq]
      · rw [if_neg hq, if_neg (by omega)]
theorem mixN_end {L q S A : Nat} (hA : A < 1000000000 ^ q) (hS : S < 1000000000 ^ q) : mixN L q S A = grpN L S := by
  unfold mixN grpN
  refine List.map_congr_left fun p _ => ?_
  split
  · rfl
  · rename_i h
    have hp : 1000000000 ^ q ≤ 1000000000 ^ p := Nat.pow_le_pow_right (by decide) (by omega)
    rw [Nat.div_eq_of_lt (by omega), Nat.div_eq_of_lt (by omega)]

/-- What is reached inside a round: the sum, and what is carried. -/
def mulS (A g y i k : Nat) : Nat := A + g * (y % 1000000000 ^ k) * 1000000000 ^ i
theorem mulS_zero (A g y i : Nat) : mulS A g y i 0 = A := by unfold mulS; rw [Nat.pow_zero, Nat.mod_one, Nat.mul_zero, Nat.zero_mul, Nat.add_zero]
theorem mulS_succ (A g y i k : Nat) : mulS A g y i (k + 1) = mulS A g y i k + g * (y / 1000000000 ^ k % 1000000000) * 1000000000 ^ (i + k) := by
  unfold mulS
  rw [Nat.mod_pow_succ, Nat.mul_add, Nat.add_mul, Nat.add_assoc, Nat.pow_add]
  congr 2
  ac_rfl
theorem mul_step {A S q c m z : Nat} (h : S / 1000000000 ^ q = A / 1000000000 ^ q + c) (hz : c + (A / 1000000000 ^ q % 1000000000 + m) = z) :
    (S + m * 1000000000 ^ q) % 1000000000 ^ q = S % 1000000000 ^ q ∧ (S + m * 1000000000 ^ q) / 1000000000 ^ q % 1000000000 = z % 1000000000 ∧
      (S + m * 1000000000 ^ q) / 1000000000 ^ (q + 1) = A / 1000000000 ^ (q + 1) + z / 1000000000 := by
  have hP := p9pos q
  have h1 : (S + m * 1000000000 ^ q) / 1000000000 ^ q = S / 1000000000 ^ q + m := Nat.add_mul_div_right _ _ hP
  have h2 := Nat.div_add_mod (A / 1000000000 ^ q) 1000000000
  refine ⟨Nat.add_mul_mod_self_right _ _ _, ?_, ?_⟩
  · rw [h1, h]; omega
  · rw [Nat.pow_succ, ← Nat.div_div_eq_div_mul, ← Nat.div_div_eq_div_mul, h1, h]; omega
theorem mul_last {x y i m g : Nat} (hm : y < 1000000000 ^ m) (hg : x / 1000000000 ^ i % 1000000000 = g) : mulS (x % 1000000000 ^ i * y) g y i m = x % 1000000000 ^ (i + 1) * y := by
  unfold mulS
  rw [Nat.mod_eq_of_lt hm, Nat.mod_pow_succ, hg, Nat.add_mul]
  congr 1
  ac_rfl
theorem mul_lim {x y i m : Nat} (hm : y < 1000000000 ^ m) : x % 1000000000 ^ i * y < 1000000000 ^ (i + m) := by
  rw [Nat.pow_add]
  exact Nat.mul_lt_mul'' (Nat.mod_lt _ (p9pos i)) hm

set_option maxRecDepth 20000 in
set_option maxHeartbeats 4000000 in
theorem times_any (x y : Nat) (vx vy : Value) (w : World) (hx : NatA w vx (grp x)) (hy : NatA w vy (grp y)) (hnx : nG x ≤ 2000) (hny : nG y ≤ 2000) :
    Calls Tryd.prog 138 #[vx, vy] w fun e w' => ∃ u, e = .returned u ∧ NatA w' u (grp (x * y)) ∧ Below w.heap.size w w' := by
  have HX := hid hx
  have HY := hid hy
  obtain ⟨xa, xc, rfl⟩ := natA_formR hx
  obtain ⟨ya, yc, rfl⟩ := natA_formR hy
  have hxl := lt_pow_nG x
  have hyl := lt_pow_nG y
  obtain ⟨G, HG⟩ : ∃ G : Nat, Hid (nG x = G) := ⟨_, rfl⟩
  obtain ⟨K, HK⟩ : ∃ K : Nat, Hid (nG y = K) := ⟨_, rfl⟩
  simp only [grp_length] at *
  rw [HG.out] at HX hnx hxl ⊢
  rw [HK.out] at HY hny hyl ⊢
  have HXl := hid hxl
  have HYl := hid hyl
  have HGx : Hid (∀ wr, Below w.heap.size w wr → ∀ i, i < G → ∃ b o, xa = some ⟨b, o, none⟩ ∧ wr.cell? ⟨b, o + i, none⟩ = some (.int .u64 ((x / 1000000000 ^ i % 1000000000 : Nat) : Int))) := by
    intro wr hb i hi
    have h := HX.out.below hb (Nat.le_refl _)
    rw [← HG.out] at h hi
    obtain ⟨b, o, cap, e, hc⟩ := natA_get h i hi
    simp only [Value.slice.injEq] at e
    exact ⟨b, o, e.1, hc⟩
  have HGy : Hid (∀ wr, Below w.heap.size w wr → ∀ i, i < K → ∃ b o, ya = some ⟨b, o, none⟩ ∧ wr.cell? ⟨b, o + i, none⟩ = some (.int .u64 ((y / 1000000000 ^ i % 1000000000 : Nat) : Int))) := by
    intro wr hb i hi
    have h := HY.out.below hb (Nat.le_refl _)
    rw [← HK.out] at h hi
    obtain ⟨b, o, cap, e, hc⟩ := natA_get h i hi
    simp only [Value.slice.injEq] at e
    exact ⟨b, o, e.1, hc⟩
  obtain ⟨L, HL⟩ : ∃ L : Nat, Hid (G + K = L) := ⟨_, rfl⟩
  have hLI : (G : Int) + (K : Int) = (L : Int) := by have := HL.out; omega
  have hLl : L ≤ 4000 := by have := HL.out; omega
  have HTr : Hid (∀ v w, NatA w v (grpN L (x * y)) → Calls Tryd.prog 99 #[v] w fun e w' => ∃ u, e = .returned u ∧ NatA w' u (grp (x * y)) ∧ w' = w) := fun v w h => trimmed_any L (x * y) v w h (by rw [← HL.out, Nat.pow_add]; exact Nat.mul_lt_mul'' HXl.out HYl.out)
  obtain ⟨i0, hi, hz0, hz1, hz2⟩ := info_partsZ Tryd.infoWordZ
  have Hi := hid hi
  have Hz0 := hid hz0
  have Hz1 := hid hz1
  have Hz2 := hid hz2
  clear hi hz0 hz1 hz2 hx hy hxl hyl
  go_enter Tryd.func138, Tryd.ntmps138
  go_wp2_with (at_make; go_loud (refine wpList_make_new _ rfl _ _ 48 rfl 80 i0 (.int .u64 0) 1 Tryd.underlying48 Hi.out Hz0.out Hz1.out .i64 .i64 L (by rfl) (by rfl) (by rw [Hz2.out]; omega) (by unfold maxLen; omega) ?_))
  go_loopw [19] (fun i wr => ∃ j : Nat, i = .int .i64 j ∧ j ≤ G ∧ Hid (GrA wr w.heap.size (grpN L (x % 1000000000 ^ j * y))) ∧ Hid (Below w.heap.size w wr)) (fun i _ => G - (intOf i).toNat)
  case atStart =>
    refine ⟨0, rfl, Nat.zero_le _, ?_, (Below.refl _ _).alloc (Nat.le_refl _) _⟩
    show GrA _ _ _
    rw [Nat.pow_zero, Nat.mod_one, Nat.zero_mul]
    exact made_zero w L
  case round =>
    obtain ⟨j, rfl, hj, HA, HB⟩ := hrel
    by_cases hlt : j < G
    · obtain ⟨b1, o1, rfl, c1⟩ := HGx.out wr HB.out j hlt
      obtain ⟨g, HGg⟩ : ∃ g, Hid (x / 1000000000 ^ j % 1000000000 = g) := ⟨_, rfl⟩
      rw [HGg.out] at c1
      have hg9 : g < 1000000000 := by rw [← HGg.out]; exact Nat.mod_lt _ (by decide)
      obtain ⟨A, HAe⟩ : ∃ A, Hid (x % 1000000000 ^ j * y = A) := ⟨_, rfl⟩
      have HAl : Hid (A < 1000000000 ^ (j + K)) := by show _ < _; rw [← HAe.out]; exact mul_lim HYl.out
      have HEnd : Hid (mulS A g y j K = x % 1000000000 ^ (j + 1) * y) := by show _ = _; rw [← HAe.out]; exact mul_last HYl.out HGg.out
      rw [HAe.out] at HA
      go_wp2_with fail
      rename World => w1
      go_loopw [8, 26] (fun c k wr => ∃ (kk cc : Nat), k = .int .i64 kk ∧ c = .int .u64 cc ∧ kk ≤ K ∧ cc < 1000000000 ∧ Hid (mulS A g y j kk / 1000000000 ^ (j + kk) = A / 1000000000 ^ (j + kk) + cc) ∧ Hid (GrA wr w.heap.size (mixN L (j + kk) (mulS A g y j kk) A)) ∧ Hid (Below w.heap.size w wr)) (fun _ k _ => K - (intOf k).toNat)
      case atStart =>
        refine ⟨0, 0, rfl, rfl, Nat.zero_le _, by decide, ?_, ?_, HB.out⟩
        · show _ = _; rw [mulS_zero]; rfl
        · show GrA _ _ _; rw [mulS_zero, mixN_start]; exact HA.out
      case round =>
        obtain ⟨k, c, rfl, rfl, hk, hc9, HC, HM, HB2⟩ := hrel
        obtain ⟨p, HP⟩ : ∃ p : Nat, Hid (j + k = p) := ⟨_, rfl⟩
        have hpi : (j : Int) + (k : Int) = (p : Int) := by have := HP.out; omega
        rw [HP.out] at HC HM
        by_cases hlt2 : k < K
        · obtain ⟨b2, o2, rfl, c2⟩ := HGy.out wr HB2.out k hlt2
          obtain ⟨d, HD⟩ : ∃ d, Hid (y / 1000000000 ^ k % 1000000000 = d) := ⟨_, rfl⟩
          rw [HD.out] at c2
          have hd9 : d < 1000000000 := by rw [← HD.out]; exact Nat.mod_lt _ (by decide)
          have hpL : p < L := by have := HP.out; have := HL.out; omega
          have hpml : p < (mixN L p (mulS A g y j k) A).length := by rw [mixN_length]; exact hpL
          have c3 := HM.out.get p hpml
          rw [mixN_get, if_neg (Nat.lt_irrefl _)] at c3
          have f3 := HM.out.frozen p
          obtain ⟨a, HAa⟩ : ∃ a, Hid (A / 1000000000 ^ p % 1000000000 = a) := ⟨_, rfl⟩
          rw [HAa.out] at c3
          have ha9 : a < 1000000000 := by rw [← HAa.out]; exact Nat.mod_lt _ (by decide)
          obtain ⟨m, HMm⟩ : ∃ m, Hid (g * d = m) := ⟨_, rfl⟩
          have hmi : (g : Int) * (d : Int) = (m : Int) := by rw [← HMm.out]; simp
          have hm9 : m ≤ 999999999 * 999999999 := by rw [← HMm.out]; exact Nat.mul_le_mul (by omega) (by omega)
          obtain ⟨z, HZ⟩ : ∃ z, Hid (c + (a + m) = z) := ⟨_, rfl⟩
          have hzl : z < 1000000000 * 1000000000 := by rw [← HZ.out]; omega
          have hst := mul_step (m := m) (z := z) HC.out (by rw [HAa.out]; exact HZ.out)
          have hsu := mulS_succ A g y j k
          rw [HD.out, HMm.out, HP.out] at hsu
          rw [← hsu] at hst
          have HSt := hid hst
          have hv1 : IntKind.u64.wrap ((g : Int) * (d : Int)) = (m : Int) := by rw [hmi]; simp [IntKind.wrap, IntKind.bits, IntKind.signed]; omega
          have hv2 : IntKind.u64.wrap ((c : Int) + IntKind.u64.wrap ((a : Int) + (m : Int))) = (z : Int) := by
            have h := HZ.out
            have e : IntKind.u64.wrap ((a : Int) + (m : Int)) = (a : Int) + (m : Int) := by simp [IntKind.wrap, IntKind.bits, IntKind.signed]; omega
            rw [e]; simp [IntKind.wrap, IntKind.bits, IntKind.signed]; omega
          have hv3 : IntKind.u64.wrap ((z : Int).tmod 1000000000) = ((z % 1000000000 : Nat) : Int) := by
            rw [Int.tmod_eq_emod_of_nonneg (by omega)]; simp [IntKind.wrap, IntKind.bits, IntKind.signed]; omega
          have hv4 : IntKind.u64.wrap ((z : Int).tdiv 1000000000) = ((z / 1000000000 : Nat) : Int) := by
            rw [Int.tdiv_eq_ediv_of_nonneg (by omega)]; simp [IntKind.wrap, IntKind.bits, IntKind.signed]; omega
          have hw1 : IntKind.i64.wrap ((j : Int) + (k : Int)) = (p : Int) := by rw [hpi]; simp [IntKind.wrap, IntKind.bits, IntKind.signed]; omega
          have hwr : IntKind.i64.wrap (p : Int) = (p : Int) := by simp [IntKind.wrap, IntKind.bits, IntKind.signed]; omega
          have hp0 : (0 : Int) ≤ (p : Int) := by omega
          have hpLI : (p : Int) < (L : Int) := by omega
          clear hpi hmi hst hsu hpml
          rename World => w2
          go_wp2_with fail
          have HZi : Hid ((c : Int) + ((a : Int) + (m : Int)) = (z : Int)) := by have := HZ.out; show _ = _; omega
          have hzd : z / 1000000000 < 1000000000 := by omega
          refine ⟨⟨k + 1, z / 1000000000, by go_num, by rw [HZi.out]; congr 1, by omega, hzd, ?_, ?_, HB2.out.setCell (p := ⟨w.heap.size, p, none⟩) (Nat.le_refl _) _⟩, by simp [intOf]; omega⟩
          · show _ = _
            rw [← Nat.add_assoc, HP.out]
            exact HSt.out.2.2
          · show GrA _ _ _
            rw [← Nat.add_assoc, HP.out, HZi.out, ← mixN_set HSt.out.1, HSt.out.2.1]
            have h := HM.out.set p (z % 1000000000)
            have e : ((z % 1000000000 : Nat) : Int) = (z : Int) % 1000000000 := by omega
            rw [e] at h
            exact h
        · obtain rfl : k = K := by omega
          have hpL : p < L := by have := HP.out; have := HL.out; omega
          have hpml : p < (mixN L p (mulS A g y j k) A).length := by rw [mixN_length]; exact hpL
          have f3 := HM.out.frozen p
          have c3 := HM.out.get p hpml
          have HAl2 := HAl.out
          rw [HP.out] at HAl2
          have hc : mulS A g y j k / 1000000000 ^ p = c := by
            have h := HC.out
            rw [Nat.div_eq_of_lt HAl2, Nat.zero_add] at h
            exact h
          have HGr : Hid ((mixN L p (mulS A g y j k) A).set p c = grpN L (x % 1000000000 ^ (j + 1) * y)) := by
            have h1 := mixN_set (L := L) (q := p) (S := mulS A g y j k) (T := mulS A g y j k) (A := A) rfl
            rw [hc, Nat.mod_eq_of_lt hc9] at h1
            show _ = _
            rw [h1, ← HEnd.out]
            refine mixN_end (Nat.lt_of_lt_of_le HAl2 (Nat.pow_le_pow_right (by decide) (Nat.le_succ p))) ?_
            rw [HEnd.out]
            have h2 := mul_lim (x := x) (i := j + 1) HYl.out
            rw [show j + 1 + k = p + 1 by have := HP.out; omega] at h2
            exact h2
          have hw1 : IntKind.i64.wrap ((j : Int) + (k : Int)) = (p : Int) := by rw [hpi]; simp [IntKind.wrap, IntKind.bits, IntKind.signed]; omega
          have hwr : IntKind.i64.wrap (p : Int) = (p : Int) := by simp [IntKind.wrap, IntKind.bits, IntKind.signed]; omega
          have hp0 : (0 : Int) ≤ (p : Int) := by omega
          have hpLI : (p : Int) < (L : Int) := by omega
          have HML : Hid (GrA (wr.setCell ⟨w.heap.size, p, none⟩ (.int .u64 (c : Int))) w.heap.size (grpN L (x % 1000000000 ^ (j + 1) * y))) := by
            show GrA _ _ _
            rw [← HGr.out]
            exact HM.out.set p c
          clear hpi hc HAl2
          rename World => w2
          go_wp2_with fail
          refine ⟨⟨j + 1, by go_num, hlt, HML.out, HB2.out.setCell (p := ⟨w.heap.size, p, none⟩) (Nat.le_refl _) _⟩, by simp [intOf]; omega⟩
    · obtain rfl : j = G := by omega
      rw [Nat.mod_eq_of_lt HXl.out] at HA
      have HN := hid (grA_natN HA.out (by omega))
      go_wp2_with fail
      refine (HTr.out _ _ HN.out).mono ?_
      rintro e w4 ⟨u, rfl, hu, hw⟩
      obtain rfl := hw.symm
      obtain ⟨ua, uc, rfl⟩ := natA_formR hu
      have HU := hid hu
      clear hu
      go_wp2_with fail
      go_ret
      refine ⟨.slice ua (grp (x * y)).length uc, rfl, ?_, ?_⟩
      · exact HU.out
      · exact HB.out
end Go.Proofs.YtbbffhpppacihaaDoor

namespace Go.Proofs.YtbbffhpppacihaaDoor
open Go.RowKit Go.Siskin

theorem grA_row {w : World} {b b1 cap : Nat} {ls : List Nat} (h : GrA w b ls) (hne : b ≠ b1) (h1 : ls.length ≤ cap) (h2 : cap ≤ maxLen) : RowOf .u64 (fun k => k ≠ b1) w (.slice (some ⟨b, 0, none⟩) ls.length cap) ls :=
  ⟨some ⟨b, 0, none⟩, cap, rfl, h1, h2, Or.inr ⟨b, 0, rfl, hne, fun i hi => by rw [Nat.zero_add]; exact h.get i hi⟩⟩
theorem GrA.other {w w' : World} {b b1 : Nat} {ls : List Nat} (h : GrA w b ls) (hw : Wr b1 w w') (hne : b ≠ b1) : GrA w' b ls := (hw.2.1 b hne).trans h
theorem GrA.setOther {w : World} {b b1 : Nat} {ls : List Nat} (h : GrA w b ls) (i : Nat) (u : Value) (hne : b ≠ b1) : GrA (w.setCell ⟨b1, i, none⟩ u) b ls := (Below.heap_setCell w ⟨b1, i, none⟩ u b hne).trans h

set_option maxRecDepth 20000 in
set_option maxHeartbeats 8000000 in
theorem dividedBy_long (x y L m : Nat) (vx vy : Value) (w : World) (hx : NatA w vx (grp x)) (hy : NatA w vy (grp y)) (HLx : Hid (nG x = L)) (HLy : Hid (nG y = m)) (hn : L ≤ 1000) (hm2 : 2 ≤ m) (hle : m ≤ L) :
    Calls Tryd.prog 85 #[vx, vy] w fun e w' => ∃ q r, e = .returned (.tuple #[q, r]) ∧ NatA w' q (grp (x / y)) ∧ NatA w' r (grp (x % y)) ∧ Below w.heap.size w w' := by
  have hy0 : 0 < y := by
    rcases Nat.eq_zero_or_pos y with h | h
    · subst h; have := HLy.out; simp [nG] at this; omega
    · exact h
  obtain ⟨t, HT⟩ : ∃ t : Nat, Hid (y / 1000000000 ^ (m - 1) = t) := ⟨_, rfl⟩
  obtain ⟨sc, HSc⟩ : ∃ sc : Nat, Hid (1000000000 / (t + 1) = sc) := ⟨_, rfl⟩
  obtain ⟨hsc0, hsc9, hs1, hs2, ht9⟩ := scale_facts hy0 HLy.out HT.out HSc.out
  have hst := start_small (x := x) HLx.out HLy.out hle hy0 hsc0
  obtain ⟨b, o, yc, rfl, gy⟩ := natA_get hy (m - 1) (by rw [HLy.out]; omega)
  have htop := top_get hy0
  rw [HLy.out] at htop
  rw [htop, HT.out] at gy
  have HX := hid hx
  have HY := hid hy
  have HSx := hid (fun (w : World) (h : NatA w vx (grp x)) => scaledUp_any x sc vx w h (by rw [HLx.out]; omega) hsc9)
  have HSy := hid (fun (w : World) (h : NatA w (.slice (some ⟨b, o, none⟩) (nG y) yc) (grp y)) => scaledUp_any y sc _ w h (by rw [HLy.out]; omega) hsc9)
  obtain ⟨ya, yc', e', y1, y2, -⟩ := hy
  obtain ⟨xa, xc, rfl, x1, x2, -⟩ := hx
  simp only [grp_length] at *
  simp only [Value.slice.injEq, true_and] at e'
  obtain ⟨-, rfl⟩ := e'
  unfold maxLen at x2 y2
  rw [HLx.out] at HSx HX x1 ⊢
  rw [HLy.out] at HSy HY y1 ⊢
  obtain ⟨U, HU⟩ : ∃ U : Nat, Hid (x * sc = U) := ⟨_, rfl⟩
  obtain ⟨s, HS⟩ : ∃ s : Nat, Hid (y * sc = s) := ⟨_, rfl⟩
  rw [HU.out] at HSx hst
  rw [HS.out] at HSy hst hs1 hs2
  have HSt := hid hst
  have HS1 := hid hs1
  have HS2 := hid hs2
  have HSp : Hid (0 < s) := Nat.lt_of_lt_of_le (p9pos _) hs2
  have hlt : ¬ (L : Int) < (m : Int) := by omega
  have hmne : ((m : Int) == 1) = false := by rw [beq_eq_false_iff_ne]; omega
  obtain ⟨m', hm'⟩ : ∃ m', m = m' + 1 := ⟨m - 1, by omega⟩
  have hm'I : (m : Int) - 1 = (m' : Int) := by omega
  have hmm : m - 1 = m' := by omega
  rw [hmm] at gy
  have hm'lt : (m' : Int) < (m : Int) := by omega
  have htI : (t : Int) + 1 ≠ 0 := by omega
  have hsI : (1000000000 : Int) / ((t : Int) + 1) = (sc : Int) := by rw [← HSc.out]; simp
  have hsI2 : (1000000000 : Int).tdiv ((t : Int) + 1) = (sc : Int) := by rw [Int.tdiv_eq_ediv_of_nonneg (by omega), hsI]
  have hsI3 : IntKind.u64.wrap (sc : Int) = (sc : Int) := by simp [IntKind.wrap, IntKind.bits, IntKind.signed]; omega
  obtain ⟨i0, hi, hz0, hz1, hz2⟩ := info_partsZ Tryd.infoWordZ
  have Hi := hid hi
  have Hz0 := hid hz0
  have Hz1 := hid hz1
  have Hz2 := hid hz2
  obtain ⟨N, HN⟩ : ∃ N : Nat, Hid (L + 1 - m = N) := ⟨_, rfl⟩
  have hNI : (L : Int) + 1 - (m : Int) = (N : Int) := by have := HN.out; omega
  have hN1 : N ≤ 1000 := by have := HN.out; omega
  have HM' := hid hm'
  clear hi hz0 hz1 hz2 hst hs1 hs2 htop hmm hm'
  go_enter Tryd.func85, Tryd.ntmps85
  go_wp2_with fail
  refine (HSx.out _ HX.out).mono ?_
  rintro e w1 ⟨p1, rfl, hp1, hs1, hG1, hb1⟩
  have HB1 := hid hb1
  have HL1 := hid hG1
  clear hG1 hb1
  go_wp2_with fail
  refine (HSy.out _ (HY.out.below HB1.out (Nat.le_refl _))).mono ?_
  rintro e w2 ⟨p2, rfl, hp2, hs2, hG2, hb2⟩
  have HB2 := hid (HB1.out.trans (hb2.mono HB1.out.size))
  have HL2 := hid (HL1.out.keep hb2 hs1)
  have HS2' := hid hG2
  clear hG2 hb2
  go_wp2_with (at_make; go_loud (refine wpList_make_new _ rfl _ _ 48 rfl 80 i0 (.int .u64 0) 1 Tryd.underlying48 Hi.out Hz0.out Hz1.out .i64 .i64 N (by rfl) (by rfl) (by rw [Hz2.out]; omega) (by unfold maxLen; omega) ?_))
  go_loopw [12] (fun i wr => ∃ j : Nat, j ≤ N ∧ i = .int .i64 ((j : Int) - 1) ∧ Hid (GrA wr p1 (grpN (L + 1) (U / 1000000000 ^ j % s * 1000000000 ^ j + U % 1000000000 ^ j))) ∧ Hid (GrA wr p2 (grpN (m + 1) s)) ∧ Hid (GrA wr w2.heap.size (grpN N (U / 1000000000 ^ j / s * 1000000000 ^ j))) ∧ Hid (Below w.heap.size w wr)) (fun i _ => (intOf i + 1).toNat)
  case atStart =>
    have hst := HSt.out
    rw [HN.out] at hst
    refine ⟨N, Nat.le_refl _, rfl, ?_, ?_, ?_, HB2.out.alloc (by omega) _⟩
    · show GrA _ _ _
      rw [Nat.mod_eq_of_lt hst, Nat.mul_comm, Nat.div_add_mod]
      exact HL2.out.keep ((Below.refl w2.heap.size w2).alloc (Nat.le_refl _) _) (by omega)
    · exact GrA.keep HS2'.out ((Below.refl w2.heap.size w2).alloc (Nat.le_refl _) _) hs2
    · show GrA _ _ _
      rw [Nat.div_eq_of_lt hst, Nat.zero_mul]
      exact made_zero w2 N
  case round =>
    obtain ⟨j, hj, rfl, HQ1, HQ2, HQ3, HB⟩ := hrel
    have hsz := HB.out.size
    by_cases hj0 : j = 0
    · subst hj0
      rw [Nat.pow_zero, Nat.div_one, Nat.mul_one, Nat.mod_one, Nat.add_zero] at HQ1
      rw [Nat.pow_zero, Nat.div_one, Nat.mul_one] at HQ3
      have hUs : U / s = x / y := by rw [← HU.out, ← HS.out, Nat.mul_div_mul_right _ _ hsc0]
      have hUm : U % s / sc = x % y := by rw [← HU.out, ← HS.out, Nat.mul_mod_mul_right, Nat.mul_div_cancel _ hsc0]
      rw [hUs] at HQ3
      have hUsl : U % s < 1000000000 ^ (L + 1) := Nat.lt_of_lt_of_le (Nat.mod_lt _ HSp.out) (Nat.le_trans (Nat.le_of_lt HS1.out) (Nat.pow_le_pow_right (by decide) (by omega)))
      have HT1 := hid (trimmed_any (L + 1) (U % s) (.slice (some ⟨p1, 0, none⟩) (L + 1) (L + 1)) wr (by have h := HQ1.out.natA (cap := L + 1) (by rw [grpN_length]; omega) (by unfold maxLen; omega); rw [grpN_length] at h; exact h) hUsl)
      have HDv := hid (fun (v : Value) (w : World) (h : NatA w v (grp (U % s))) => dividedByGroup_any (U % s) sc v w h (Nat.le_trans (nG_le hUsl) (by omega)) hsc9 hsc0)
      rw [hUm] at HDv
      have HXY : Hid (x / y < 1000000000 ^ N) := by
        have h := HSt.out
        rw [HN.out] at h
        have h2 : U / s < 1000000000 ^ N := by
          refine Nat.div_lt_of_lt_mul ?_
          have h3 := Nat.div_add_mod U (1000000000 ^ N)
          have h4 := Nat.mod_lt U (p9pos N)
          generalize 1000000000 ^ N = P at *
          have h5 := Nat.mul_le_mul_left P (Nat.succ_le_of_lt h)
          rw [Nat.succ_eq_add_one, Nat.mul_add, Nat.mul_one] at h5
          rw [Nat.mul_comm s P]; omega
        show _ < _; rw [← hUs]; exact h2
      have HT2 := hid (fun (wr : World) (h : GrA wr w2.heap.size (grpN N (x / y))) => trimmed_any N (x / y) (.slice (some ⟨w2.heap.size, 0, none⟩) N N) wr (by have h := h.natA (cap := N) (by rw [grpN_length]; omega) (by unfold maxLen; omega); rw [grpN_length] at h; exact h) HXY.out)
      clear hUs hUm hUsl
      go_wp2_with fail
      refine HT1.out.mono ?_
      rintro e w' ⟨u, rfl, hu, hw⟩
      obtain rfl := hw.symm
      have HU1 := hid hu
      obtain ⟨ua, uc, rfl⟩ := natA_formR hu
      clear hu
      go_wp2_with fail
      refine (HDv.out _ _ HU1.out).mono ?_
      rintro e w3 ⟨r, rfl, hr, hw3⟩
      have HR := hid hr
      have HW3 := hid hw3
      obtain ⟨ra, rc, rfl⟩ := natA_formR hr
      have HQ4 : Hid (GrA w3 w2.heap.size (grpN N (x / y))) := GrA.keep HQ3.out hw3 HQ3.out.lt
      clear hr hw3
      go_wp2_with fail
      refine (HT2.out _ HQ4.out).mono ?_
      rintro e w' ⟨q, rfl, hq, hw⟩
      obtain rfl := hw.symm
      have HQq := hid hq
      obtain ⟨qa, qc, rfl⟩ := natA_formR hq
      clear hq
      go_wp2_with fail
      go_ret2
      exact ⟨.slice qa _ qc, .slice ra _ rc, rfl, HQq.out, HR.out, HB.out.trans (HW3.out.mono HB.out.size)⟩
    · obtain ⟨i, rfl⟩ : ∃ i, j = i + 1 := ⟨j - 1, by omega⟩
      have hi1 : ((i + 1 : Nat) : Int) - 1 = (i : Int) := by omega
      rw [hi1]
      have HNi : Hid (i + (m + 1) ≤ L + 1) := by have := HN.out; show _ ≤ _; omega
      have HNm : Hid (m + 1 ≤ L + 1 - i ∧ L + 1 - i ≤ 1000000) := by have := HN.out; exact ⟨by omega, by omega⟩
      have hrf := round_facts (U := U) (i := i) HSp.out
      have hds := db_step U s i HSp.out
      obtain ⟨V, HV⟩ : ∃ V : Nat, Hid (U / 1000000000 ^ (i + 1) % s * 1000000000 ^ (i + 1) + U % 1000000000 ^ (i + 1) = V) := ⟨_, rfl⟩
      rw [HV.out] at HQ1 hrf
      have HTk := hid (fun (wr : World) (h1 : GrA wr p1 (grpN (L + 1) V)) (h2 : GrA wr p2 (grpN (m + 1) s)) => takeMost_any (L + 1) V s p1 i m (L + 1 - i) (L + 1 - i) (.slice (some ⟨p2, 0, none⟩) (m + 1) (m + 1)) wr h1 (by have h := grA_row h2 (b1 := p1) (by omega) (cap := m + 1) (by rw [grpN_length]; omega) (by unfold maxLen; omega); rw [grpN_length] at h; exact h) HNi.out HNm.out.1 (Nat.le_refl _) HNm.out.2 (by omega) (by rw [hrf.1]; exact hrf.2.2) HS1.out HS2.out)
      rw [hrf.1, hrf.2.1, hds.1, hds.2] at HTk
      have HSet := hid (db_set U s N i)
      obtain ⟨q, HQq⟩ : ∃ q : Nat, Hid (U / 1000000000 ^ i / s % 1000000000 = q) := ⟨_, rfl⟩
      rw [HQq.out] at HTk HSet
      obtain ⟨LL, HLL⟩ : ∃ LL : List Nat, Hid (grpN N (U / 1000000000 ^ (i + 1) / s * 1000000000 ^ (i + 1)) = LL) := ⟨_, rfl⟩
      have HLlen : Hid (LL.length = N) := by show _ = _; rw [← HLL.out, grpN_length]
      rw [HLL.out] at HQ3 HSet
      have hiN : i < N := by omega
      have hcap : ¬ (L + 1 = i) := by have := HN.out; omega
      have hiL : (i : Int) ≤ (L : Int) + 1 := by have := HN.out; omega
      clear hrf hds
      go_wp2_with fail
      refine (HTk.out _ HQ1.out HQ2.out).mono ?_
      rintro e w3 ⟨rfl, hG, hW⟩
      have HGn := hid hG
      have HWn := hid hW
      have HQ3n : Hid (GrA w3 w2.heap.size LL) := GrA.other HQ3.out hW (by omega)
      have HQ2n : Hid (GrA w3 p2 (grpN (m + 1) s)) := GrA.other HQ2.out hW (by omega)
      have g1 := HQ3n.out.get i (by rw [HLlen.out]; exact hiN)
      have f1 := HQ3n.out.frozen i
      obtain ⟨old, HOld⟩ : ∃ old : Nat, Hid (LL[i]'(by rw [HLlen.out]; exact hiN) = old) := ⟨_, hid rfl⟩
      rw [HOld.out] at g1
      have HB3 : Hid (Below w.heap.size w w3) := HB.out.trans (hW.1.mono hp1)
      clear hG hW
      go_wp2_with fail
      refine ⟨⟨i, by omega, rfl, ?_, GrA.setOther HQ2n.out _ _ (by omega), ?_, HB3.out.setCell (p := ⟨w2.heap.size, i, none⟩) (by show w.heap.size ≤ w2.heap.size; omega) _⟩, by simp [intOf] <;> omega⟩
      · show GrA _ _ _
        have h := GrA.setOther HGn.out i (.int .u64 (q : Int)) (show p1 ≠ w2.heap.size by omega)
        rw [Nat.add_comm (U % 1000000000 ^ i), Nat.mul_comm (1000000000 ^ i)] at h
        exact h
      · show GrA _ _ _
        rw [HSet.out]
        exact HQ3n.out.set i q

theorem dividedBy_any (x y : Nat) (vx vy : Value) (w : World) (hx : NatA w vx (grp x)) (hy : NatA w vy (grp y)) (hy0 : 0 < y) (hn : nG x ≤ 1000) :
    Calls Tryd.prog 85 #[vx, vy] w fun e w' => ∃ q r, e = .returned (.tuple #[q, r]) ∧ NatA w' q (grp (x / y)) ∧ NatA w' r (grp (x % y)) ∧ Below w.heap.size w w' := by
  by_cases h1 : nG x < nG y
  · exact dividedBy_small x y vx vy w hx hy h1
  · by_cases h2 : nG y = 1
    · exact dividedBy_one x y vx vy w hx hy hn h2 h1
    · have := nG_pos hy0
      exact dividedBy_long x y _ _ vx vy w hx hy rfl rfl hn (by omega) (by omega)

/-- What a slice of groups comes to, read out of memory. -/
def natRead (w : World) : Value → Nat
  | .slice (some a) n _ => ((List.range n).map fun i => (match w.cell? (a.add i) with | some (.int _ z) => z.toNat | _ => 0) * 1000000000 ^ i).sum
  | _ => 0
theorem sum_groups (x : Nat) : ∀ m : Nat, ((List.range m).map fun i => x / 1000000000 ^ i % 1000000000 * 1000000000 ^ i).sum = x % 1000000000 ^ m
  | 0 => by simp [Nat.mod_one]
  | m + 1 => by
    rw [List.range_succ, List.map_append, List.sum_append, sum_groups x m, Nat.mod_pow_succ]
    simp [Nat.mul_comm]
theorem natRead_eq {w : World} {v : Value} {x : Nat} (h : NatA w v (grp x)) : natRead w v = x := by
  obtain ⟨a, cap, rfl, h1, h2, h3⟩ := h
  rw [grp_length] at *
  rcases h3 with h3 | ⟨b, o, rfl, -, hc⟩
  · have hx : nG x = 0 := by have := congrArg List.length h3; rw [grp_length] at this; simpa using this
    have hx0 := nG_is_zero.1 hx
    subst hx0
    rw [hx]
    unfold natRead
    cases a <;> rfl
  · show ((List.range (nG x)).map fun i => (match w.cell? ((⟨b, o, none⟩ : Addr).add i) with | some (.int _ z) => z.toNat | _ => 0) * 1000000000 ^ i).sum = x
    have e : ((List.range (nG x)).map fun i => (match w.cell? ((⟨b, o, none⟩ : Addr).add i) with | some (.int _ z) => z.toNat | _ => 0) * 1000000000 ^ i) = (List.range (nG x)).map fun i => x / 1000000000 ^ i % 1000000000 * 1000000000 ^ i := by
      refine List.map_congr_left fun i hi => ?_
      have hi' : i < nG x := List.mem_range.1 hi
      rw [Go.WideShapes.add_plain, hc i (by rw [grp_length]; exact hi')]
      show (((grp x)[i]'(by rw [grp_length]; exact hi') : Nat) : Int).toNat * _ = _
      rw [Int.toNat_natCast]
      congr 1
      unfold grp; rw [grpN_get]
    rw [e, sum_groups, Nat.mod_eq_of_lt (lt_pow_nG x)]

set_option maxRecDepth 20000 in
set_option maxHeartbeats 2000000 in
theorem commonOf_any (a b : Nat) (va vb : Value) (w : World) (ha : NatA w va (grp a)) (hb : NatA w vb (grp b)) (hna : nG a ≤ 1000) (hnb : nG b ≤ 1000) :
    Calls Tryd.prog 61 #[va, vb] w fun e w' => ∃ g, e = .returned g ∧ NatA w' g (grp (Nat.gcd a b)) ∧ Below w.heap.size w w' := by
  obtain ⟨G, HG⟩ : ∃ G : Nat, Hid (Nat.gcd a b = G) := ⟨_, rfl⟩
  rw [HG.out]
  have HA := hid ha
  have HBb := hid hb
  obtain ⟨aa, ac, rfl⟩ := natA_formR ha
  obtain ⟨ba, bc, rfl⟩ := natA_formR hb
  have HNa := hid hna
  have HNb := hid hnb
  clear ha hb hna hnb
  go_enter Tryd.func61, Tryd.ntmps61
  go_wp2_with fail
  go_loopw [0, 1] (fun x y wr => ∃ (u v : Nat) (xa ya : Option Addr) (xc yc : Nat), x = .slice xa (grp u).length xc ∧ y = .slice ya (grp v).length yc ∧ Hid (NatA wr (.slice xa (grp u).length xc) (grp u)) ∧ Hid (NatA wr (.slice ya (grp v).length yc) (grp v)) ∧ Hid (Nat.gcd u v = G) ∧ Hid (nG u ≤ 1000) ∧ Hid (nG v ≤ 1000) ∧ Hid (Below w.heap.size w wr)) (fun _ y wr => natRead wr y)
  case atStart => exact ⟨a, b, aa, ba, ac, bc, rfl, rfl, HA.out, HBb.out, HG.out, HNa.out, HNb.out, Below.refl _ _⟩
  case round =>
    obtain ⟨u, v, xa, ya, xc, yc, rfl, rfl, HU, HV, HGu, HNu, HNv, HB⟩ := hrel
    have hsz := HB.out.size
    have HNo := hid (isNought_any v _ wr HV.out)
    by_cases hv : v = 0
    · have hvb : (v == 0) = true := by rw [hv]; rfl
      rw [hvb] at HNo
      have HE : Hid (u = G) := by rw [← HGu.out, hv]; exact (Nat.gcd_zero_right u).symm
      clear hv hvb
      go_wp2_with fail
      refine HNo.out.mono ?_
      rintro e w' ⟨rfl, hw⟩
      obtain rfl := hw.symm
      go_wp2_with fail
      go_ret
      exact ⟨.slice xa (grp u).length xc, rfl, by rw [← HE.out]; exact HU.out, HB.out⟩
    · have hvb : (v == 0) = false := by rw [beq_eq_false_iff_ne]; exact hv
      rw [hvb] at HNo
      have HD := hid (dividedBy_any u v _ _ wr HU.out HV.out (by omega) HNu.out)
      have HM : Hid (u % v < v) := Nat.mod_lt _ (by omega)
      have HGs : Hid (Nat.gcd v (u % v) = G) := by
        show _ = _
        rw [← HGu.out, Nat.gcd_comm u v, Nat.gcd_rec v u, Nat.gcd_comm]
      have HN2 : Hid (nG (u % v) ≤ 1000) := by
        show _ ≤ _
        exact Nat.le_trans (nG_mono (Nat.le_of_lt HM.out)) HNv.out
      have HRd : Hid (natRead wr (.slice ya (grp v).length yc) = v) := natRead_eq HV.out
      clear hv hvb
      go_wp2_with fail
      refine HNo.out.mono ?_
      rintro e w' ⟨rfl, hw⟩
      obtain rfl := hw.symm
      go_wp2_with fail
      refine HD.out.mono ?_
      rintro e w2 ⟨q, r, rfl, hq, hr, hw⟩
      have HR := hid hr
      have HW := hid hw
      obtain ⟨ra, rc, rfl⟩ := natA_formR hr
      obtain ⟨qa, qc, rfl⟩ := natA_formR hq
      have HVn : Hid (NatA w2 (.slice ya (grp v).length yc) (grp v)) := HV.out.below hw (Nat.le_refl _)
      have HRd2 : Hid (natRead w2 (.slice ra (grp (u % v)).length rc) = u % v) := natRead_eq hr
      clear hq hr hw
      go_wp2_with fail
      refine ⟨⟨v, u % v, ya, ra, yc, rc, rfl, rfl, HVn.out, HR.out, HGs, HNv, HN2, HB.out.trans (HW.out.mono hsz)⟩, ?_⟩
      have h1 := HRd.out
      have h2 := HRd2.out
      have h3 := HM.out
      show natRead w2 (.slice ra (grp (u % v)).length rc) < natRead wr (.slice ya (grp v).length yc)
      omega
end Go.Proofs.YtbbffhpppacihaaDoor

namespace Go.Proofs.YtbbffhpppacihaaDoor
open Go.RowKit Go.Siskin

theorem natA_formQ {w : World} {v : Value} {gs : List Nat} (h : NatA w v gs) : ∃ a cap, v = .slice a gs.length cap := by
  obtain ⟨a, cap, e, -⟩ := h
  exact ⟨a, cap, e⟩

set_option maxRecDepth 20000 in
set_option maxHeartbeats 2000000 in
theorem naturalIn_of (v n : Nat) (w : World) (HNv : Hid (Lib.nDigits v = n)) (hn : n ≤ 100000) (hP : Pow9 w) :
    Calls Tryd.prog 80 #[.string (dec v)] w fun e w' => ∃ u, e = .returned u ∧ NatA w' u (grp v) ∧ Below w.heap.size w w' := by
  have hla : ((dec v).size : Int) = (n : Int) := by rw [dec_size, HNv.out]
  have hsz0 : (dec v).size = n := by rw [dec_size, HNv.out]
  have HDig : Hid (∀ i (h : i < (dec v).size), (((dec v)[i]).toNat : Int) = 48 + ((v / 10 ^ (n - 1 - i) % 10 : Nat) : Int)) := by
    intro i h
    have h2 := digT_nat (Lib.nDigits v) v i h
    rw [← HNv.out]
    exact h2
  have HP := hid hP
  have HSz := hid hsz0
  obtain ⟨i0, hi, hz0, hz1, hz2⟩ := info_partsZ Tryd.infoWordZ
  have Hi := hid hi
  have Hz0 := hid hz0
  have Hz1 := hid hz1
  have Hz2 := hid hz2
  clear hi hz0 hz1 hz2 hP hsz0
  obtain ⟨M, HMM⟩ : ∃ M : Nat, Hid (n / 9 + 1 = M) := ⟨_, rfl⟩
  have hM1 : (n : Int) / 9 + 1 = (M : Int) := by have := HMM.out; omega
  have hMl : M ≤ 20000 := by have := HMM.out; omega
  go_enter Tryd.func80, Tryd.ntmps80
  go_wp2_with (at_make; go_loud (refine wpList_make_new _ rfl _ _ 48 rfl 80 i0 (.int .u64 0) 1 Tryd.underlying48 Hi.out Hz0.out Hz1.out .i64 .i64 M rfl rfl (by rw [Hz2.out]; omega) (by unfold maxLen; omega) ?_))
  go_loopw [13] (fun i wr => ∃ k : Nat, k ≤ n ∧ i = .int .i64 k ∧ Hid (GrA wr w.heap.size (grpN M (v / 10 ^ (n - k) * 10 ^ (n - k)))) ∧ Hid (Below w.heap.size w wr)) (fun i _ => n - (intOf i).toNat)
  case atStart =>
    refine ⟨0, Nat.zero_le _, rfl, ?_, (Below.refl _ _).alloc (Nat.le_refl _) _⟩
    have e : v / 10 ^ (n - 0) * 10 ^ (n - 0) = 0 := by rw [Nat.sub_zero, Nat.div_eq_of_lt (by rw [← HNv.out]; exact Lib.lt_pow_nDigits v), Nat.zero_mul]
    show GrA _ _ _
    rw [e]
    exact made_zero w M
  case round =>
    obtain ⟨k, hk, rfl, HQ, HB⟩ := hrel
    have hsz := HB.out.size
    by_cases hlt : k < n
    · obtain ⟨p, HPp⟩ : ∃ p : Nat, Hid (n - 1 - k = p) := ⟨_, rfl⟩
      have hpi : (n : Int) - 1 - (k : Int) = (p : Int) := by have := HPp.out; omega
      have hpn : p < n := by have := HPp.out; omega
      obtain ⟨q, HQq⟩ : ∃ q : Nat, Hid (p / 9 = q) := ⟨_, rfl⟩
      obtain ⟨r, HR⟩ : ∃ r : Nat, Hid (p % 9 = r) := ⟨_, rfl⟩
      have hq1 : ((p : Int)).tdiv 9 = (q : Int) := by rw [Int.tdiv_eq_ediv_of_nonneg (by omega), ← HQq.out]; omega
      have hr1 : ((p : Int)).tmod 9 = (r : Int) := by rw [Int.tmod_eq_emod_of_nonneg (by omega), ← HR.out]; omega
      have hq2 : (p : Int) / 9 = (q : Int) := by rw [← HQq.out]; omega
      have hr2 : (p : Int) % 9 = (r : Int) := by rw [← HR.out]; omega
      have hqM : q < M := by have := HQq.out; have := HMM.out; omega
      have hr9 : r < 9 := by have := HR.out; omega
      have hfd := first_digits (v := v) hlt
      obtain ⟨d, HD⟩ : ∃ d : Nat, Hid (v / 10 ^ (n - 1 - k) % 10 = d) := ⟨_, rfl⟩
      have hd10 : d < 10 := by rw [← HD.out]; exact Nat.mod_lt _ (by decide)
      have hdig := HDig.out k (by rw [HSz.out]; exact hlt)
      rw [HD.out] at hfd hdig
      have HPd := hid (put_digit M (v / 10 ^ (n - k)) p d hd10)
      rw [HPp.out] at hfd
      have HF1 := hid hfd.1
      have HF2 := hid hfd.2
      have HPd2 : Hid (grpN M (v / 10 ^ (n - (k + 1)) * 10 ^ (n - (k + 1))) = (grpN M (v / 10 ^ (n - k) * 10 ^ (n - k))).set q (v / 10 ^ (n - k) * 10 ^ (n - k) / 1000000000 ^ q % 1000000000 + d * 10 ^ r)) := by
        show _ = _
        rw [HF1.out, HF2.out, HPd.out, HQq.out, HR.out]
      obtain ⟨L, HL⟩ : ∃ L : List Nat, Hid (grpN M (v / 10 ^ (n - k) * 10 ^ (n - k)) = L) := ⟨_, rfl⟩
      have HLlen : Hid (L.length = M) := by show _ = _; rw [← HL.out, grpN_length]
      obtain ⟨x, HX⟩ : ∃ x : Nat, Hid (v / 10 ^ (n - k) * 10 ^ (n - k) / 1000000000 ^ q % 1000000000 = x) := ⟨_, rfl⟩
      have hx9 : x < 1000000000 := by rw [← HX.out]; exact Nat.mod_lt _ (by decide)
      rw [HL.out] at HQ HPd2
      rw [HX.out] at HPd2
      have g1 : wr.cell? ⟨w.heap.size, q, none⟩ = some (.int .u64 (x : Int)) := by
        have h := HQ.out.get q (by rw [HLlen.out]; exact hqM)
        have e : L[q]'(by rw [HLlen.out]; exact hqM) = x := by
          have e1 : (grpN M (v / 10 ^ (n - k) * 10 ^ (n - k)))[q]'(by rw [grpN_length]; exact hqM) = x := by rw [grpN_get]; exact HX.out
          rw [← e1]; congr 1; exact HL.out.symm
        rw [e] at h; exact h
      have f1 := HQ.out.frozen q
      have g2 := (HP.out.below HB.out (Nat.le_refl _)).2 r hr9
      obtain ⟨t, HT⟩ : ∃ t : Nat, Hid (10 ^ r = t) := ⟨_, rfl⟩
      rw [HT.out] at g2 HPd2
      have ht1 : t ≤ 100000000 := by rw [← HT.out]; exact Nat.le_trans (Nat.pow_le_pow_right (by decide) (show r ≤ 8 by omega)) (by decide)
      obtain ⟨c, HC⟩ : ∃ c : UInt8, Hid ((dec v)[k]'(by rw [HSz.out]; exact hlt) = c) := ⟨_, hid rfl⟩
      rw [HC.out] at hdig
      have hkd : k < (dec v).size := by rw [HSz.out]; exact hlt
      have hwq : IntKind.i64.wrap (q : Int) = (q : Int) := by simp [IntKind.wrap, IntKind.bits, IntKind.signed]; omega
      have hqMI : (q : Int) < (M : Int) := by omega
      have hr9I : (r : Int) < 9 := by omega
      have hkI : (k : Int) < (n : Int) := by omega
      obtain ⟨z, HZ⟩ : ∃ z : Nat, Hid (x + d * t = z) := ⟨_, rfl⟩
      rw [HZ.out] at HPd2
      have hval : IntKind.u64.wrap ((x : Int) + IntKind.u64.wrap (IntKind.u64.wrap (IntKind.u8.wrap ((((dec v)[k]'hkd).toNat : Int) - 48)) * (t : Int))) = (z : Int) := by
        have e1 : (((dec v)[k]'hkd).toNat : Int) = 48 + (d : Int) := by rw [← hdig, ← HC.out]
        rw [e1]
        have e2 : IntKind.u8.wrap (48 + (d : Int) - 48) = (d : Int) := by simp [IntKind.wrap, IntKind.bits, IntKind.signed]; omega
        have e3 : IntKind.u64.wrap (d : Int) = (d : Int) := by simp [IntKind.wrap, IntKind.bits, IntKind.signed]; omega
        have hdt : d * t ≤ 1000000000 := Nat.le_trans (Nat.mul_le_mul (show d ≤ 10 by omega) ht1) (by decide)
        have e4 : (d : Int) * (t : Int) = ((d * t : Nat) : Int) := by simp
        rw [e2, e3, e4]
        have hz := HZ.out
        generalize d * t = y at *
        have e5 : IntKind.u64.wrap (y : Int) = (y : Int) := by simp [IntKind.wrap, IntKind.bits, IntKind.signed]; omega
        rw [e5]
        simp [IntKind.wrap, IntKind.bits, IntKind.signed]; omega
      clear hfd
      go_wp2_with fail
      go_region_law (fail)
      all_goals
        go_wp2_with fail
        refine ⟨⟨k + 1, by omega, by go_num, ?_, (HB.out.setCell (p := ⟨w.heap.size, q, none⟩) (Nat.le_refl _) _).drew⟩, by simp [intOf]; omega⟩
        show GrA _ _ _
        rw [HPd2.out]
        exact HQ.out.set q z
    · obtain rfl : k = n := by omega
      have e : v / 10 ^ (k - k) * 10 ^ (k - k) = v := by rw [Nat.sub_self, Nat.pow_zero, Nat.div_one, Nat.mul_one]
      rw [e] at HQ
      have HT := hid (trimmed_any M v (.slice (some ⟨w.heap.size, 0, none⟩) M M) wr (by have h := HQ.out.natA (cap := M) (by rw [grpN_length]; omega) (by unfold maxLen; omega); rw [grpN_length] at h; exact h) (by
        rw [p9k]
        refine Nat.lt_of_lt_of_le (Lib.lt_pow_nDigits v) (Nat.pow_le_pow_right (by decide) ?_)
        have := HNv.out; have := HMM.out; omega))
      clear e
      go_wp2_with fail
      refine HT.out.mono ?_
      rintro e w' ⟨u, rfl, hu, hw⟩
      obtain rfl := hw.symm
      have HU := hid hu
      clear hu
      obtain ⟨ua, uc, rfl⟩ := natA_formQ HU.out
      go_wp2_with fail
      go_ret
      exact ⟨_, rfl, HU.out, HB.out⟩
theorem naturalIn_any (v : Nat) (w : World) (hn : Lib.nDigits v ≤ 100000) (hP : Pow9 w) :
    Calls Tryd.prog 80 #[.string (dec v)] w fun e w' => ∃ u, e = .returned u ∧ NatA w' u (grp v) ∧ Below w.heap.size w w' := naturalIn_of v _ w rfl hn hP
end Go.Proofs.YtbbffhpppacihaaDoor
