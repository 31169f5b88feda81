/-
  The program's product of naturals. Condition: the groups lie in memory as NatA says; at most 2,000 groups each.
  The program's whole numbers of any size: times. Condition: the groups lie in memory as NatA says; at most 2,000 groups.
  The program's whole numbers of any size: plus, opposite, sign. Condition: the groups lie in memory as NatA says; at most 4,000 groups.
-/
import Derived.Test.YtbbffhpppacihaaDoorPart12
import Derived.Test.YtbbffhpppacihaaDoorPart8
namespace Go.Proofs.YtbbffhpppacihaaDoor
open Go.RowKit Go.Siskin

/-- Groups below a place of one number, from it on of another. -/
def mixN (L q S A : Nat) : List Nat := (List.range L).map fun p => (if p < q then S else A) / 1000000000 ^ p % 1000000000
theorem mixN_length (L q S A : Nat) : (mixN L q S A).length = L := by simp [mixN]
theorem mixN_get (L q S A p : Nat) (h : p < (mixN L q S A).length) : (mixN L q S A)[p] = (if p < q then S else A) / 1000000000 ^ p % 1000000000 := by simp [mixN]
theorem mixN_start (L q A : Nat) : mixN L q A A = grpN L A := by
  unfold mixN grpN
  refine List.map_congr_left fun p _ => ?_
  split <;> rfl
theorem low_group {S q p : Nat} (h : p < q) : S % 1000000000 ^ q / 1000000000 ^ p % 1000000000 = S / 1000000000 ^ p % 1000000000 := by
  obtain ⟨r, rfl⟩ : ∃ r, q = p + (r + 1) := ⟨q - p - 1, by omega⟩
  rw [Nat.pow_add, Nat.mod_mul_right_div_self, Nat.mod_mod_of_dvd]
  exact ⟨1000000000 ^ r, by rw [Nat.pow_succ, Nat.mul_comm]⟩
theorem mixN_set {L q S T A : Nat} (h : T % 1000000000 ^ q = S % 1000000000 ^ q) : (mixN L q S A).set q (T / 1000000000 ^ q % 1000000000) = mixN L (q + 1) T A := by
  apply List.ext_getElem
  · simp [mixN]
  · intro p h1 h2
    rw [List.getElem_set]
    by_cases hp : q = p
    · subst hp; rw [if_pos rfl, mixN_get, if_pos (Nat.lt_succ_self _)]
    · rw [if_neg hp, mixN_get, mixN_get]
      by_cases hq : p < q
      · rw [if_pos hq, if_pos (by omega), ← low_group hq, ← h, low_group hq]
      · rw [if_neg hq, if_neg (by omega)]
theorem mixN_end {L q S A : Nat} (hA : A < 1000000000 ^ q) (hS : S < 1000000000 ^ q) : mixN L q S A = grpN L S := by
  unfold mixN grpN
  refine List.map_congr_left fun p _ => ?_
  split
  · rfl
  · rename_i h
    have hp : 1000000000 ^ q ≤ 1000000000 ^ p := Nat.pow_le_pow_right (by decide) (by omega)
    rw [Nat.div_eq_of_lt (by omega), Nat.div_eq_of_lt (by omega)]

/-- What is reached inside a round: the sum, and what is carried. -/
def mulS (A g y i k : Nat) : Nat := A + g * (y % 1000000000 ^ k) * 1000000000 ^ i
theorem mulS_zero (A g y i : Nat) : mulS A g y i 0 = A := by unfold mulS; rw [Nat.pow_zero, Nat.mod_one, Nat.mul_zero, Nat.zero_mul, Nat.add_zero]
theorem mulS_succ (A g y i k : Nat) : mulS A g y i (k + 1) = mulS A g y i k + g * (y / 1000000000 ^ k % 1000000000) * 1000000000 ^ (i + k) := by
  unfold mulS
  rw [Nat.mod_pow_succ, Nat.mul_add, Nat.add_mul, Nat.add_assoc, Nat.pow_add]
  congr 2
  ac_rfl
theorem mul_step {A S q c m z : Nat} (h : S / 1000000000 ^ q = A / 1000000000 ^ q + c) (hz : c + (A / 1000000000 ^ q % 1000000000 + m) = z) :
    (S + m * 1000000000 ^ q) % 1000000000 ^ q = S % 1000000000 ^ q ∧ (S + m * 1000000000 ^ q) / 1000000000 ^ q % 1000000000 = z % 1000000000 ∧
      (S + m * 1000000000 ^ q) / 1000000000 ^ (q + 1) = A / 1000000000 ^ (q + 1) + z / 1000000000 := by
  have hP := p9pos q
  have h1 : (S + m * 1000000000 ^ q) / 1000000000 ^ q = S / 1000000000 ^ q + m := Nat.add_mul_div_right _ _ hP
  have h2 := Nat.div_add_mod (A / 1000000000 ^ q) 1000000000
  refine ⟨Nat.add_mul_mod_self_right _ _ _, ?_, ?_⟩
  · rw [h1, h]; omega
  · rw [Nat.pow_succ, ← Nat.div_div_eq_div_mul, ← Nat.div_div_eq_div_mul, h1, h]; omega
theorem mul_last {x y i m g : Nat} (hm : y < 1000000000 ^ m) (hg : x / 1000000000 ^ i % 1000000000 = g) : mulS (x % 1000000000 ^ i * y) g y i m = x % 1000000000 ^ (i + 1) * y := by
  unfold mulS
  rw [Nat.mod_eq_of_lt hm, Nat.mod_pow_succ, hg, Nat.add_mul]
  congr 1
  ac_rfl
theorem mul_lim {x y i m : Nat} (hm : y < 1000000000 ^ m) : x % 1000000000 ^ i * y < 1000000000 ^ (i + m) := by
  rw [Nat.pow_add]
  exact Nat.mul_lt_mul'' (Nat.mod_lt _ (p9pos i)) hm

set_option maxRecDepth 20000 in
set_option maxHeartbeats 4000000 in
theorem times_any (x y : Nat) (vx vy : Value) (w : World) (hx : NatA w vx (grp x)) (hy : NatA w vy (grp y)) (hnx : nG x ≤ 2000) (hny : nG y ≤ 2000) :
    Calls Tryd.prog 138 #[vx, vy] w fun e w' => ∃ u, e = .returned u ∧ NatA w' u (grp (x * y)) ∧ Below w.heap.size w w' := by
  have HX := hid hx
  have HY := hid hy
  obtain ⟨xa, xc, rfl⟩ := natA_formR hx
  obtain ⟨ya, yc, rfl⟩ := natA_formR hy
  have hxl := lt_pow_nG x
  have hyl := lt_pow_nG y
  obtain ⟨G, HG⟩ : ∃ G : Nat, Hid (nG x = G) := ⟨_, rfl⟩
  obtain ⟨K, HK⟩ : ∃ K : Nat, Hid (nG y = K) := ⟨_, rfl⟩
  simp only [grp_length] at *
  rw [HG.out] at HX hnx hxl ⊢
  rw [HK.out] at HY hny hyl ⊢
  have HXl := hid hxl
  have HYl := hid hyl
  have HGx : Hid (∀ wr, Below w.heap.size w wr → ∀ i, i < G → ∃ b o, xa = some ⟨b, o, none⟩ ∧ wr.cell? ⟨b, o + i, none⟩ = some (.int .u64 ((x / 1000000000 ^ i % 1000000000 : Nat) : Int))) := by
    intro wr hb i hi
    have h := HX.out.below hb (Nat.le_refl _)
    rw [← HG.out] at h hi
    obtain ⟨b, o, cap, e, hc⟩ := natA_get h i hi
    simp only [Value.slice.injEq] at e
    exact ⟨b, o, e.1, hc⟩
  have HGy : Hid (∀ wr, Below w.heap.size w wr → ∀ i, i < K → ∃ b o, ya = some ⟨b, o, none⟩ ∧ wr.cell? ⟨b, o + i, none⟩ = some (.int .u64 ((y / 1000000000 ^ i % 1000000000 : Nat) : Int))) := by
    intro wr hb i hi
    have h := HY.out.below hb (Nat.le_refl _)
    rw [← HK.out] at h hi
    obtain ⟨b, o, cap, e, hc⟩ := natA_get h i hi
    simp only [Value.slice.injEq] at e
    exact ⟨b, o, e.1, hc⟩
  obtain ⟨L, HL⟩ : ∃ L : Nat, Hid (G + K = L) := ⟨_, rfl⟩
  have hLI : (G : Int) + (K : Int) = (L : Int) := by have := HL.out; omega
  have hLl : L ≤ 4000 := by have := HL.out; omega
  have HTr : Hid (∀ v w, NatA w v (grpN L (x * y)) → Calls Tryd.prog 99 #[v] w fun e w' => ∃ u, e = .returned u ∧ NatA w' u (grp (x * y)) ∧ w' = w) := fun v w h => trimmed_any L (x * y) v w h (by rw [← HL.out, Nat.pow_add]; exact Nat.mul_lt_mul'' HXl.out HYl.out)
  obtain ⟨i0, hi, hz0, hz1, hz2⟩ := info_partsZ Tryd.infoWordZ
  have Hi := hid hi
  have Hz0 := hid hz0
  have Hz1 := hid hz1
  have Hz2 := hid hz2
  clear hi hz0 hz1 hz2 hx hy hxl hyl
  go_enter Tryd.func138, Tryd.ntmps138
  go_wp2_with (at_make; go_loud (refine wpList_make_new _ rfl _ _ 48 rfl 80 i0 (.int .u64 0) 1 Tryd.underlying48 Hi.out Hz0.out Hz1.out .i64 .i64 L (by rfl) (by rfl) (by rw [Hz2.out]; omega) (by unfold maxLen; omega) ?_))
  go_loopw [19] (fun i wr => ∃ j : Nat, i = .int .i64 j ∧ j ≤ G ∧ Hid (GrA wr w.heap.size (grpN L (x % 1000000000 ^ j * y))) ∧ Hid (Below w.heap.size w wr)) (fun i _ => G - (intOf i).toNat)
  case atStart =>
    refine ⟨0, rfl, Nat.zero_le _, ?_, (Below.refl _ _).alloc (Nat.le_refl _) _⟩
    show GrA _ _ _
    rw [Nat.pow_zero, Nat.mod_one, Nat.zero_mul]
    exact made_zero w L
  case round =>
    obtain ⟨j, rfl, hj, HA, HB⟩ := hrel
    by_cases hlt : j < G
    · obtain ⟨b1, o1, rfl, c1⟩ := HGx.out wr HB.out j hlt
      obtain ⟨g, HGg⟩ : ∃ g, Hid (x / 1000000000 ^ j % 1000000000 = g) := ⟨_, rfl⟩
      rw [HGg.out] at c1
      have hg9 : g < 1000000000 := by rw [← HGg.out]; exact Nat.mod_lt _ (by decide)
      obtain ⟨A, HAe⟩ : ∃ A, Hid (x % 1000000000 ^ j * y = A) := ⟨_, rfl⟩
      have HAl : Hid (A < 1000000000 ^ (j + K)) := by show _ < _; rw [← HAe.out]; exact mul_lim HYl.out
      have HEnd : Hid (mulS A g y j K = x % 1000000000 ^ (j + 1) * y) := by show _ = _; rw [← HAe.out]; exact mul_last HYl.out HGg.out
      rw [HAe.out] at HA
      go_wp2_with fail
      rename World => w1
      go_loopw [8, 26] (fun c k wr => ∃ (kk cc : Nat), k = .int .i64 kk ∧ c = .int .u64 cc ∧ kk ≤ K ∧ cc < 1000000000 ∧ Hid (mulS A g y j kk / 1000000000 ^ (j + kk) = A / 1000000000 ^ (j + kk) + cc) ∧ Hid (GrA wr w.heap.size (mixN L (j + kk) (mulS A g y j kk) A)) ∧ Hid (Below w.heap.size w wr)) (fun _ k _ => K - (intOf k).toNat)
      case atStart =>
        refine ⟨0, 0, rfl, rfl, Nat.zero_le _, by decide, ?_, ?_, HB.out⟩
        · show _ = _; rw [mulS_zero]; rfl
        · show GrA _ _ _; rw [mulS_zero, mixN_start]; exact HA.out
      case round =>
        obtain ⟨k, c, rfl, rfl, hk, hc9, HC, HM, HB2⟩ := hrel
        obtain ⟨p, HP⟩ : ∃ p : Nat, Hid (j + k = p) := ⟨_, rfl⟩
        have hpi : (j : Int) + (k : Int) = (p : Int) := by have := HP.out; omega
        rw [HP.out] at HC HM
        by_cases hlt2 : k < K
        · obtain ⟨b2, o2, rfl, c2⟩ := HGy.out wr HB2.out k hlt2
          obtain ⟨d, HD⟩ : ∃ d, Hid (y / 1000000000 ^ k % 1000000000 = d) := ⟨_, rfl⟩
          rw [HD.out] at c2
          have hd9 : d < 1000000000 := by rw [← HD.out]; exact Nat.mod_lt _ (by decide)
          have hpL : p < L := by have := HP.out; have := HL.out; omega
          have hpml : p < (mixN L p (mulS A g y j k) A).length := by rw [mixN_length]; exact hpL
          have c3 := HM.out.get p hpml
          rw [mixN_get, if_neg (Nat.lt_irrefl _)] at c3
          have f3 := HM.out.frozen p
          obtain ⟨a, HAa⟩ : ∃ a, Hid (A / 1000000000 ^ p % 1000000000 = a) := ⟨_, rfl⟩
          rw [HAa.out] at c3
          have ha9 : a < 1000000000 := by rw [← HAa.out]; exact Nat.mod_lt _ (by decide)
          obtain ⟨m, HMm⟩ : ∃ m, Hid (g * d = m) := ⟨_, rfl⟩
          have hmi : (g : Int) * (d : Int) = (m : Int) := by rw [← HMm.out]; simp
          have hm9 : m ≤ 999999999 * 999999999 := by rw [← HMm.out]; exact Nat.mul_le_mul (by omega) (by omega)
          obtain ⟨z, HZ⟩ : ∃ z, Hid (c + (a + m) = z) := ⟨_, rfl⟩
          have hzl : z < 1000000000 * 1000000000 := by rw [← HZ.out]; omega
          have hst := mul_step (m := m) (z := z) HC.out (by rw [HAa.out]; exact HZ.out)
          have hsu := mulS_succ A g y j k
          rw [HD.out, HMm.out, HP.out] at hsu
          rw [← hsu] at hst
          have HSt := hid hst
          have hv1 : IntKind.u64.wrap ((g : Int) * (d : Int)) = (m : Int) := by rw [hmi]; simp [IntKind.wrap, IntKind.bits, IntKind.signed]; omega
          have hv2 : IntKind.u64.wrap ((c : Int) + IntKind.u64.wrap ((a : Int) + (m : Int))) = (z : Int) := by
            have h := HZ.out
            have e : IntKind.u64.wrap ((a : Int) + (m : Int)) = (a : Int) + (m : Int) := by simp [IntKind.wrap, IntKind.bits, IntKind.signed]; omega
            rw [e]; simp [IntKind.wrap, IntKind.bits, IntKind.signed]; omega
          have hv3 : IntKind.u64.wrap ((z : Int).tmod 1000000000) = ((z % 1000000000 : Nat) : Int) := by
            rw [Int.tmod_eq_emod_of_nonneg (by omega)]; simp [IntKind.wrap, IntKind.bits, IntKind.signed]; omega
          have hv4 : IntKind.u64.wrap ((z : Int).tdiv 1000000000) = ((z / 1000000000 : Nat) : Int) := by
            rw [Int.tdiv_eq_ediv_of_nonneg (by omega)]; simp [IntKind.wrap, IntKind.bits, IntKind.signed]; omega
          have hw1 : IntKind.i64.wrap ((j : Int) + (k : Int)) = (p : Int) := by rw [hpi]; simp [IntKind.wrap, IntKind.bits, IntKind.signed]; omega
          have hwr : IntKind.i64.wrap (p : Int) = (p : Int) := by simp [IntKind.wrap, IntKind.bits, IntKind.signed]; omega
          have hp0 : (0 : Int) ≤ (p : Int) := by omega
          have hpLI : (p : Int) < (L : Int) := by omega
          clear hpi hmi hst hsu hpml
          rename World => w2
          go_wp2_with fail
          have HZi : Hid ((c : Int) + ((a : Int) + (m : Int)) = (z : Int)) := by have := HZ.out; show _ = _; omega
          have hzd : z / 1000000000 < 1000000000 := by omega
          refine ⟨⟨k + 1, z / 1000000000, by go_num, by rw [HZi.out]; congr 1, by omega, hzd, ?_, ?_, HB2.out.setCell (p := ⟨w.heap.size, p, none⟩) (Nat.le_refl _) _⟩, by simp [intOf]; omega⟩
          · show _ = _
            rw [← Nat.add_assoc, HP.out]
            exact HSt.out.2.2
          · show GrA _ _ _
            rw [← Nat.add_assoc, HP.out, HZi.out, ← mixN_set HSt.out.1, HSt.out.2.1]
            have h := HM.out.set p (z % 1000000000)
            have e : ((z % 1000000000 : Nat) : Int) = (z : Int) % 1000000000 := by omega
            rw [e] at h
            exact h
        · obtain rfl : k = K := by omega
          have hpL : p < L := by have := HP.out; have := HL.out; omega
          have hpml : p < (mixN L p (mulS A g y j k) A).length := by rw [mixN_length]; exact hpL
          have f3 := HM.out.frozen p
          have c3 := HM.out.get p hpml
          have HAl2 := HAl.out
          rw [HP.out] at HAl2
          have hc : mulS A g y j k / 1000000000 ^ p = c := by
            have h := HC.out
            rw [Nat.div_eq_of_lt HAl2, Nat.zero_add] at h
            exact h
          have HGr : Hid ((mixN L p (mulS A g y j k) A).set p c = grpN L (x % 1000000000 ^ (j + 1) * y)) := by
            have h1 := mixN_set (L := L) (q := p) (S := mulS A g y j k) (T := mulS A g y j k) (A := A) rfl
            rw [hc, Nat.mod_eq_of_lt hc9] at h1
            show _ = _
            rw [h1, ← HEnd.out]
            refine mixN_end (Nat.lt_of_lt_of_le HAl2 (Nat.pow_le_pow_right (by decide) (Nat.le_succ p))) ?_
            rw [HEnd.out]
            have h2 := mul_lim (x := x) (i := j + 1) HYl.out
            rw [show j + 1 + k = p + 1 by have := HP.out; omega] at h2
            exact h2
          have hw1 : IntKind.i64.wrap ((j : Int) + (k : Int)) = (p : Int) := by rw [hpi]; simp [IntKind.wrap, IntKind.bits, IntKind.signed]; omega
          have hwr : IntKind.i64.wrap (p : Int) = (p : Int) := by simp [IntKind.wrap, IntKind.bits, IntKind.signed]; omega
          have hp0 : (0 : Int) ≤ (p : Int) := by omega
          have hpLI : (p : Int) < (L : Int) := by omega
          have HML : Hid (GrA (wr.setCell ⟨w.heap.size, p, none⟩ (.int .u64 (c : Int))) w.heap.size (grpN L (x % 1000000000 ^ (j + 1) * y))) := by
            show GrA _ _ _
            rw [← HGr.out]
            exact HM.out.set p c
          clear hpi hc HAl2
          rename World => w2
          go_wp2_with fail
          refine ⟨⟨j + 1, by go_num, hlt, HML.out, HB2.out.setCell (p := ⟨w.heap.size, p, none⟩) (Nat.le_refl _) _⟩, by simp [intOf]; omega⟩
    · obtain rfl : j = G := by omega
      rw [Nat.mod_eq_of_lt HXl.out] at HA
      have HN := hid (grA_natN HA.out (by omega))
      go_wp2_with fail
      refine (HTr.out _ _ HN.out).mono ?_
      rintro e w4 ⟨u, rfl, hu, hw⟩
      obtain rfl := hw.symm
      obtain ⟨ua, uc, rfl⟩ := natA_formR hu
      have HU := hid hu
      clear hu
      go_wp2_with fail
      go_ret
      refine ⟨.slice ua (grp (x * y)).length uc, rfl, ?_, ?_⟩
      · exact HU.out
      · exact HB.out
end Go.Proofs.YtbbffhpppacihaaDoor

namespace Go.Proofs.YtbbffhpppacihaaDoor
open Go.RowKit Go.Siskin

/-- Three boxes of a call's own. -/
theorem boxes3 (w : World) (c1 c2 c3 : Array Value) (t1 t2 t3 : TypeId) {W : World} (h : Below (w.heap.size + 3) (((w.alloc (.cells c1 t1)).alloc (.cells c2 t2)).alloc (.cells c3 t3)) W) :
    Own W w.heap.size t1 c1 ∧ Own W (w.heap.size + 1) t2 c2 ∧ Own W (w.heap.size + 1 + 1) t3 c3 ∧ Below w.heap.size w W := by
  have h1 : Own (((w.alloc (.cells c1 t1)).alloc (.cells c2 t2)).alloc (.cells c3 t3)) w.heap.size t1 c1 := ((Below.heap_alloc _ _ _ (by simp; omega)).trans (Below.heap_alloc _ _ _ (by simp))).trans (own_new w _ _)
  have h2 := own_new (w.alloc (.cells c1 t1)) c2 t2
  rw [World.size_alloc] at h2
  have h2' : Own (((w.alloc (.cells c1 t1)).alloc (.cells c2 t2)).alloc (.cells c3 t3)) (w.heap.size + 1) t2 c2 := (Below.heap_alloc _ _ _ (by simp)).trans h2
  have h3 := own_new ((w.alloc (.cells c1 t1)).alloc (.cells c2 t2)) c3 t3
  rw [World.size_alloc, World.size_alloc] at h3
  exact ⟨h1.keep h (by omega), h2'.keep h (by omega), h3.keep h (by omega), ((((Below.refl _ _).alloc (Nat.le_refl _) _).alloc (by simp) _).alloc (by simp; omega) _).trans (h.mono (by omega))⟩
theorem own2V {w : World} {g : Nat} {e : TypeId} {a b : Value} (h : Own w g e #[a, b]) : (w.cell? ⟨g, 0, none⟩ = some a ∧ w.cell? ⟨g, 1, none⟩ = some b) ∧ w.frozen? ⟨g, 0, none⟩ = false ∧ w.frozen? ⟨g, 1, none⟩ = false := ⟨⟨h.cell 0, h.cell 1⟩, h.frozen 0, h.frozen 1⟩
/-- A box that is no row of groups. -/
theorem natA_boxG {w : World} {v : Value} {gs : List Nat} {fb : Nat} {e : TypeId} {cs : Array Value} (h : NatA w v gs) (ho : Own w fb e cs) (hc : ∀ (i : Nat) (n : Int), cs[i]? ≠ some (.int .u64 n)) {W : World} (hW : ∀ b, b ≠ fb → W.heap[b]? = w.heap[b]?) (hs : w.heap.size ≤ W.heap.size) : NatA W v gs := by
  obtain ⟨a, cap, e1, h1, h2, h3⟩ := h
  refine ⟨a, cap, e1, h1, h2, ?_⟩
  rcases h3 with h3 | ⟨b, o, e2, hb, hcl⟩
  · exact Or.inl h3
  · by_cases hg : gs = []
    · exact Or.inl hg
    · have hne : b ≠ fb := by
        rintro rfl
        have h := hcl 0 (List.length_pos_iff.2 hg)
        rw [Own.cell ho (o + 0)] at h
        exact hc _ _ h
      refine Or.inr ⟨b, o, e2, by omega, fun i hi => ?_⟩
      rw [← hcl i hi]
      exact World.cell?_of_block (w := w) (hW b hne)

abbrev boxI (n : Bool) (v : Value) : Obj := .cells #[.bool n, v] 50
theorem intBox_no (n : Bool) (a : Option Addr) (l c : Nat) : ∀ (i : Nat) (z : Int), (#[Value.bool n, .slice a l c] : Array Value)[i]? ≠ some (.int .u64 z) := by
  intro i z
  rcases i with _ | _ | i <;> simp
/-- A store of two cells. -/
theorem natA_set2 {w : World} {v : Value} {gs : List Nat} {fb : Nat} {e : TypeId} {n : Bool} {a : Option Addr} {l c : Nat} (h : NatA w v gs) (ho : Own w fb e #[.bool n, .slice a l c]) (x y : Value) : NatA ((w.setCell ⟨fb, 0, none⟩ x).setCell ⟨fb, 1, none⟩ y) v gs :=
  natA_boxG h ho (intBox_no n a l c) (fun b hb => by rw [Below.heap_setCell _ _ _ _ hb, Below.heap_setCell _ _ _ _ hb]) (by simp [World.setCell])

theorem own_set2 {w : World} {g r : Nat} {e : TypeId} {cs : Array Value} (h : Own w g e cs) (hne : g ≠ r) (x y : Value) : Own ((w.setCell ⟨r, 0, none⟩ x).setCell ⟨r, 1, none⟩ y) g e cs := by
  unfold Own
  rw [Below.heap_setCell _ ⟨r, 1, none⟩ _ _ hne, Below.heap_setCell _ ⟨r, 0, none⟩ _ _ hne]
  exact h
theorem own_set4 {w : World} {g r : Nat} {e : TypeId} {cs : Array Value} (h : Own w g e cs) (hne : g ≠ r) (x y z t : Value) : Own ((((w.setCell ⟨r, 0, none⟩ x).setCell ⟨r, 1, none⟩ y).setCell ⟨r, 2, none⟩ z).setCell ⟨r, 3, none⟩ t) g e cs := by
  unfold Own
  rw [Below.heap_setCell _ ⟨r, 3, none⟩ _ _ hne, Below.heap_setCell _ ⟨r, 2, none⟩ _ _ hne, Below.heap_setCell _ ⟨r, 1, none⟩ _ _ hne, Below.heap_setCell _ ⟨r, 0, none⟩ _ _ hne]
  exact h
theorem below_set2 {B r : Nat} {w W : World} (h : Below B w W) (hr : B ≤ r) (x y : Value) : Below B w ((W.setCell ⟨r, 0, none⟩ x).setCell ⟨r, 1, none⟩ y) := (h.setCell (p := ⟨r, 0, none⟩) hr x).setCell (p := ⟨r, 1, none⟩) hr y
theorem below_set4 {B r : Nat} {w W : World} (h : Below B w W) (hr : B ≤ r) (x y z t : Value) : Below B w ((((W.setCell ⟨r, 0, none⟩ x).setCell ⟨r, 1, none⟩ y).setCell ⟨r, 2, none⟩ z).setCell ⟨r, 3, none⟩ t) :=
  (((h.setCell (p := ⟨r, 0, none⟩) hr x).setCell (p := ⟨r, 1, none⟩) hr y).setCell (p := ⟨r, 2, none⟩) hr z).setCell (p := ⟨r, 3, none⟩) hr t

set_option maxRecDepth 20000 in
set_option maxHeartbeats 2000000 in
theorem intTimes_any (n1 n2 : Bool) (x y : Nat) (vx vy : Value) (w : World) (hx : NatA w vx (grp x)) (hy : NatA w vy (grp y)) (hnx : nG x ≤ 2000) (hny : nG y ≤ 2000) :
    Calls Tryd.prog 141 #[.agg #[.bool n1, vx], .agg #[.bool n2, vy]] w fun e w' => ∃ u, e = .returned (.agg #[.bool (n1 != n2), u]) ∧ NatA w' u (grp (x * y)) ∧ Below w.heap.size w w' := by
  obtain ⟨xa, xc, rfl⟩ := natA_formR hx
  obtain ⟨ya, yc, rfl⟩ := natA_formR hy
  obtain ⟨W0, HW0⟩ : ∃ W, Hid (((w.alloc (boxI n1 (.slice xa (grp x).length xc))).alloc (boxI n2 (.slice ya (grp y).length yc))).alloc (boxI false (.slice none 0 0)) = W) := ⟨_, rfl⟩
  have HX : Hid (∀ W, Below (w.heap.size + 3) W0 W → Own W w.heap.size 50 #[.bool n1, .slice xa (grp x).length xc] ∧ Own W (w.heap.size + 1) 50 #[.bool n2, .slice ya (grp y).length yc] ∧ Own W (w.heap.size + 1 + 1) 50 #[.bool false, .slice none 0 0] ∧ Below w.heap.size w W) := fun W h => by
    rw [← HW0.out] at h
    exact boxes3 w _ _ _ _ _ _ h
  have HCT : Hid (∀ W, Below w.heap.size w W → Calls Tryd.prog 138 #[.slice xa (grp x).length xc, .slice ya (grp y).length yc] W fun e w' => ∃ ua uc, e = .returned (.slice ua (grp (x * y)).length uc) ∧ NatA w' (.slice ua (grp (x * y)).length uc) (grp (x * y)) ∧ Below W.heap.size W w') := fun W hb => by
    refine (times_any x y _ _ W (hx.below hb (Nat.le_refl _)) (hy.below hb (Nat.le_refl _)) hnx hny).mono ?_
    rintro e w' ⟨u, rfl, h1, h2⟩
    obtain ⟨ua, uc, rfl⟩ := natA_formR h1
    exact ⟨ua, uc, rfl, h1, h2⟩
  have HSt : Hid (∀ W, Below (w.heap.size + 3) W0 W → ∀ x' y' : Value, ((((W.setCell ⟨w.heap.size + 1 + 1, 0, none⟩ x').setCell ⟨w.heap.size + 1 + 1, 1, none⟩ y').cell? ⟨w.heap.size, 0, none⟩ = some (.bool n1) ∧ ((W.setCell ⟨w.heap.size + 1 + 1, 0, none⟩ x').setCell ⟨w.heap.size + 1 + 1, 1, none⟩ y').cell? ⟨w.heap.size, 1, none⟩ = some (.slice xa (grp x).length xc)) ∧
      ((W.setCell ⟨w.heap.size + 1 + 1, 0, none⟩ x').setCell ⟨w.heap.size + 1 + 1, 1, none⟩ y').cell? ⟨w.heap.size + 1, 0, none⟩ = some (.bool n2) ∧ ((W.setCell ⟨w.heap.size + 1 + 1, 0, none⟩ x').setCell ⟨w.heap.size + 1 + 1, 1, none⟩ y').cell? ⟨w.heap.size + 1, 1, none⟩ = some (.slice ya (grp y).length yc))) := fun W h x' y' => by
    have h0 := HX.out W h
    exact ⟨(own2V (own_set2 h0.1 (by omega) x' y')).1, (own2V (own_set2 h0.2.1 (by omega) x' y')).1⟩
  have HS0 : Hid (w.heap.size + 3 ≤ W0.heap.size) := by show _ ≤ _; rw [← HW0.out]; simp
  clear hx hy
  generalize (grp x).length = lx at *
  generalize (grp y).length = ly at *
  go_enter Tryd.func141, Tryd.ntmps141
  go_wp2_with fail
  rw [HW0.out]
  have HB : Hid (Below (w.heap.size + 3) W0 W0.drew) := (Below.refl _ _).drew
  obtain ⟨⟨r0, r1⟩, q0, q1⟩ := own2V (HX.out _ HB.out).2.2.1
  go_region_held3 (fun W => (W.cell? ⟨w.heap.size, 0, none⟩ = some (.bool n1) ∧ W.cell? ⟨w.heap.size, 1, none⟩ = some (.slice xa lx xc)) ∧ W.cell? ⟨w.heap.size + 1, 0, none⟩ = some (.bool n2) ∧ W.cell? ⟨w.heap.size + 1, 1, none⟩ = some (.slice ya ly yc))
    (first
      | exact ⟨(own2V (HX.out _ HB.out).1).1, (own2V (HX.out _ HB.out).2.1).1⟩
      | exact HSt.out _ HB.out _ _)
    (first
      | (go_at_call 138
         go_loud (
         refine (HCT.out _ (HX.out _ HB.out).2.2.2).mono ?_
         rintro e w3 ⟨ua, uc, rfl, hu, hw3⟩
         have HU := hid hu
         have HB := hid (HB.out.trans (hw3.mono (Nat.le_trans HS0.out HB.out.size)))
         clear hu hw3 r0 r1 q0 q1
         obtain ⟨⟨r0, r1⟩, q0, q1⟩ := own2V (HX.out _ HB.out).2.2.1)))
  go_wp2_with fail
  refine bodyPost_ret (v := .agg #[.bool (!n1 == n2), .slice ua (grp (x * y)).length uc]) (by simp [results, Tryd.results141, go_sem, r0, r1]) rfl ⟨.slice ua (grp (x * y)).length uc, rfl, ?_, ?_⟩
  · exact natA_set2 HU.out (HX.out _ HB.out).2.2.1 _ _
  · exact below_set2 (HX.out _ HB.out).2.2.2 (by omega) _ _
end Go.Proofs.YtbbffhpppacihaaDoor

namespace Go.Proofs.YtbbffhpppacihaaDoor
open Go.RowKit Go.Siskin

theorem box3_keep {w Wb : World} {B : Nat} {t1 t2 t3 : TypeId} {c1 c2 c3 : Array Value} (h0 : Own Wb B t1 c1 ∧ Own Wb (B + 1) t2 c2 ∧ Own Wb (B + 1 + 1) t3 c3 ∧ Below B w Wb) {W : World} (h : Below (B + 3) Wb W) :
    Own W B t1 c1 ∧ Own W (B + 1) t2 c2 ∧ Own W (B + 1 + 1) t3 c3 ∧ Below B w W :=
  ⟨h0.1.keep h (by omega), h0.2.1.keep h (by omega), h0.2.2.1.keep h (by omega), h0.2.2.2.trans (h.mono (by omega))⟩

set_option maxRecDepth 20000 in
set_option maxHeartbeats 2000000 in
theorem intPlus_same (n : Bool) (x y : Nat) (vx vy : Value) (w : World) (hx : NatA w vx (grp x)) (hy : NatA w vy (grp y)) (hnx : nG x ≤ 5000) (hny : nG y ≤ 5000) :
    Calls Tryd.prog 140 #[.agg #[.bool n, vx], .agg #[.bool n, vy]] w fun e w' => ∃ u, e = .returned (.agg #[.bool n, u]) ∧ NatA w' u (grp (x + y)) ∧ Below w.heap.size w w' := by
  obtain ⟨xa, xc, rfl⟩ := natA_formR hx
  obtain ⟨ya, yc, rfl⟩ := natA_formR hy
  have hnn : (n == n) = true := by simp
  obtain ⟨W0, HW0⟩ : ∃ W, Hid (((w.alloc (boxI n (.slice xa (grp x).length xc))).alloc (boxI n (.slice ya (grp y).length yc))).alloc (boxI false (.slice none 0 0)) = W) := ⟨_, rfl⟩
  have HX : Hid (∀ W, Below (w.heap.size + 3) W0 W → Own W w.heap.size 50 #[.bool n, .slice xa (grp x).length xc] ∧ Own W (w.heap.size + 1) 50 #[.bool n, .slice ya (grp y).length yc] ∧ Own W (w.heap.size + 1 + 1) 50 #[.bool false, .slice none 0 0] ∧ Below w.heap.size w W) := fun W h => by
    rw [← HW0.out] at h
    exact boxes3 w _ _ _ _ _ _ h
  have HCT : Hid (∀ W, Below w.heap.size w W → Calls Tryd.prog 137 #[.slice xa (grp x).length xc, .slice ya (grp y).length yc] W fun e w' => ∃ ua uc, e = .returned (.slice ua (grp (x + y)).length uc) ∧ NatA w' (.slice ua (grp (x + y)).length uc) (grp (x + y)) ∧ Below W.heap.size W w') := fun W hb => by
    refine (plus_any x y _ _ W (hx.below hb (Nat.le_refl _)) (hy.below hb (Nat.le_refl _)) hnx hny).mono ?_
    rintro e w' ⟨u, rfl, h1, h2⟩
    obtain ⟨ua, uc, rfl⟩ := natA_formR h1
    exact ⟨ua, uc, rfl, h1, h2⟩
  have HSt : Hid (∀ W, Below (w.heap.size + 3) W0 W → ∀ x' y' : Value, ((((W.setCell ⟨w.heap.size + 1 + 1, 0, none⟩ x').setCell ⟨w.heap.size + 1 + 1, 1, none⟩ y').cell? ⟨w.heap.size, 0, none⟩ = some (.bool n) ∧ ((W.setCell ⟨w.heap.size + 1 + 1, 0, none⟩ x').setCell ⟨w.heap.size + 1 + 1, 1, none⟩ y').cell? ⟨w.heap.size, 1, none⟩ = some (.slice xa (grp x).length xc)) ∧
      ((W.setCell ⟨w.heap.size + 1 + 1, 0, none⟩ x').setCell ⟨w.heap.size + 1 + 1, 1, none⟩ y').cell? ⟨w.heap.size + 1, 0, none⟩ = some (.bool n) ∧ ((W.setCell ⟨w.heap.size + 1 + 1, 0, none⟩ x').setCell ⟨w.heap.size + 1 + 1, 1, none⟩ y').cell? ⟨w.heap.size + 1, 1, none⟩ = some (.slice ya (grp y).length yc))) := fun W h x' y' => by
    have h0 := HX.out W h
    exact ⟨(own2V (own_set2 h0.1 (by omega) x' y')).1, (own2V (own_set2 h0.2.1 (by omega) x' y')).1⟩
  have HS0 : Hid (w.heap.size + 3 ≤ W0.heap.size) := by show _ ≤ _; rw [← HW0.out]; simp
  clear hx hy
  generalize (grp x).length = lx at *
  generalize (grp y).length = ly at *
  go_enter Tryd.func140, Tryd.ntmps140
  go_wp2_with fail
  rw [HW0.out]
  have HB : Hid (Below (w.heap.size + 3) W0 W0.drew) := (Below.refl _ _).drew
  obtain ⟨⟨r0, r1⟩, q0, q1⟩ := own2V (HX.out _ HB.out).2.2.1
  go_region_held3 (fun W => (W.cell? ⟨w.heap.size, 0, none⟩ = some (.bool n) ∧ W.cell? ⟨w.heap.size, 1, none⟩ = some (.slice xa lx xc)) ∧ W.cell? ⟨w.heap.size + 1, 0, none⟩ = some (.bool n) ∧ W.cell? ⟨w.heap.size + 1, 1, none⟩ = some (.slice ya ly yc))
    (first
      | exact ⟨(own2V (HX.out _ HB.out).1).1, (own2V (HX.out _ HB.out).2.1).1⟩
      | exact HSt.out _ HB.out _ _)
    (first
      | (go_at_call 137
         go_loud (
         refine (HCT.out _ (HX.out _ HB.out).2.2.2).mono ?_
         rintro e w3 ⟨ua, uc, rfl, hu, hw3⟩
         have HU := hid hu
         have HB := hid (HB.out.trans (hw3.mono (Nat.le_trans HS0.out HB.out.size)))
         clear hu hw3 r0 r1 q0 q1
         obtain ⟨⟨r0, r1⟩, q0, q1⟩ := own2V (HX.out _ HB.out).2.2.1)))
  go_wp2_with fail
  refine bodyPost_ret (v := .agg #[.bool n, .slice ua (grp (x + y)).length uc]) (by simp [results, Tryd.results140, go_sem, r0, r1]) rfl ⟨.slice ua (grp (x + y)).length uc, rfl, ?_, ?_⟩
  · exact natA_set2 HU.out (HX.out _ HB.out).2.2.1 _ _
  · exact below_set2 (HX.out _ HB.out).2.2.2 (by omega) _ _

theorem ordN_lt {x y : Nat} (h : x < y) : ordN x y = -1 := if_pos h
theorem ordN_ge {x y : Nat} (h : ¬ x < y) : 0 ≤ ordN x y := by
  unfold ordN
  rw [if_neg h]
  split <;> decide

set_option maxRecDepth 20000 in
set_option maxHeartbeats 4000000 in
theorem intPlus_diff (n : Bool) (x y : Nat) (vx vy : Value) (w : World) (hx : NatA w vx (grp x)) (hy : NatA w vy (grp y)) (hnx : nG x ≤ 5000) (hny : nG y ≤ 5000) :
    Calls Tryd.prog 140 #[.agg #[.bool n, vx], .agg #[.bool !n, vy]] w fun e w' => ∃ u, e = .returned (.agg #[.bool (if x < y then !n else n), u]) ∧ NatA w' u (grp (if x < y then y - x else x - y)) ∧ Below w.heap.size w w' := by
  obtain ⟨xa, xc, rfl⟩ := natA_formR hx
  obtain ⟨ya, yc, rfl⟩ := natA_formR hy
  obtain ⟨n', hn'⟩ : ∃ b, (!n) = b := ⟨_, rfl⟩
  have hnn : (n == n') = false := by rw [← hn']; cases n <;> rfl
  rw [hn']
  clear hn'
  obtain ⟨W0, HW0⟩ : ∃ W, Hid (((w.alloc (boxI n (.slice xa (grp x).length xc))).alloc (boxI n' (.slice ya (grp y).length yc))).alloc (boxI false (.slice none 0 0)) = W) := ⟨_, rfl⟩
  have HX : Hid (∀ W, Below (w.heap.size + 3) W0 W → Own W w.heap.size 50 #[.bool n, .slice xa (grp x).length xc] ∧ Own W (w.heap.size + 1) 50 #[.bool n', .slice ya (grp y).length yc] ∧ Own W (w.heap.size + 1 + 1) 50 #[.bool false, .slice none 0 0] ∧ Below w.heap.size w W) := fun W h => by
    rw [← HW0.out] at h
    exact boxes3 w _ _ _ _ _ _ h
  have HCC := hid (fun W (hb : Below w.heap.size w W) => compare_any x y _ _ W (hx.below hb (Nat.le_refl _)) (hy.below hb (Nat.le_refl _)) hnx hny)
  have HMi : Hid (∀ W x y vx vy, NatA W vx (grp x) → NatA W vy (grp y) → nG x ≤ 5000 → ¬ x < y → Calls Tryd.prog 143 #[vx, vy] W fun e w' => ∃ ua uc, e = .returned (.slice ua (grp (x - y)).length uc) ∧ NatA w' (.slice ua (grp (x - y)).length uc) (grp (x - y)) ∧ Below W.heap.size W w') := fun W x y vx vy hx hy hnx h => by
    refine (minus_any x y _ _ W hx hy hnx (by omega)).mono ?_
    rintro e w' ⟨u, rfl, h1, h2⟩
    obtain ⟨ua, uc, rfl⟩ := natA_formR h1
    exact ⟨ua, uc, rfl, h1, h2⟩
  have HXn := hid hx
  have HYn := hid hy
  have HNx := hid hnx
  have HNy := hid hny
  have HS0 : Hid (w.heap.size + 3 ≤ W0.heap.size) := by show _ ≤ _; rw [← HW0.out]; simp
  clear hx hy
  obtain ⟨lx, HLx⟩ : ∃ l, Hid ((grp x).length = l) := ⟨_, rfl⟩
  obtain ⟨ly, HLy⟩ : ∃ l, Hid ((grp y).length = l) := ⟨_, rfl⟩
  rw [HLx.out] at HXn
  rw [HLy.out] at HYn
  rw [HLx.out, HLy.out] at HW0 HX HCC ⊢
  have HB0 : Hid (Below (w.heap.size + 3) W0 W0) := Below.refl _ _
  obtain ⟨⟨a0, a1⟩, d0, d1⟩ := own2V (HX.out _ HB0.out).1
  obtain ⟨⟨b0, b1⟩, p0, p1⟩ := own2V (HX.out _ HB0.out).2.1
  by_cases hlt : x < y
  · rw [if_pos hlt, if_pos hlt]
    rw [ordN_lt hlt] at HCC
    have HLt := hid hlt
    clear hlt
    go_enter Tryd.func140, Tryd.ntmps140
    go_wp2_with fail
    rw [HW0.out]
    go_wp2_with fail
    refine (HCC.out _ (HX.out _ HB0.out).2.2.2).mono ?_
    rintro e w1 ⟨rfl, hw1⟩
    have HB1 := hid (HB0.out.trans (hw1.mono HS0.out))
    clear hw1 a0 a1 b0 b1 d0 d1 p0 p1
    obtain ⟨⟨a0, a1⟩, d0, d1⟩ := own2V (HX.out _ HB1.out).1
    obtain ⟨⟨b0, b1⟩, p0, p1⟩ := own2V (HX.out _ HB1.out).2.1
    go_wp2_with fail
    obtain ⟨W2, HW2⟩ : ∃ W, Hid (((((w1.setCell ⟨w.heap.size, 0, none⟩ (.bool n')).setCell ⟨w.heap.size, 1, none⟩ (.slice ya ly yc)).setCell ⟨w.heap.size + 1, 0, none⟩ (.bool n)).setCell ⟨w.heap.size + 1, 1, none⟩ (.slice xa lx xc)) = W) := ⟨_, rfl⟩
    rw [HW2.out]
    have h1 := HX.out _ HB1.out
    have H2 : Hid (Own W2 w.heap.size 50 #[.bool n', .slice ya ly yc] ∧ Own W2 (w.heap.size + 1) 50 #[.bool n, .slice xa lx xc] ∧ Own W2 (w.heap.size + 1 + 1) 50 #[.bool false, .slice none 0 0] ∧ Below w.heap.size w W2) := by
      rw [← HW2.out]
      exact ⟨own_set2 ((h1.1.set 0 _).set 1 _) (by omega) _ _, ((own_set2 h1.2.1 (by omega) _ _).set 0 _).set 1 _, own_set2 (own_set2 h1.2.2.1 (by omega) _ _) (by omega) _ _, below_set2 (below_set2 h1.2.2.2 (Nat.le_refl _) _ _) (by omega) _ _⟩
    have HSz : Hid (w.heap.size + 3 ≤ W2.heap.size) := by
      show _ ≤ _
      rw [← HW2.out]
      have := HB1.out.size
      have := HS0.out
      simp [World.setCell]; omega
    have HM2 : Hid (∀ W, Below (w.heap.size + 3) W2 W → Calls Tryd.prog 143 #[.slice ya ly yc, .slice xa lx xc] W fun e w' => ∃ ua uc, e = .returned (.slice ua (grp (y - x)).length uc) ∧ NatA w' (.slice ua (grp (y - x)).length uc) (grp (y - x)) ∧ Below W.heap.size W w') := fun W hb => HMi.out W y x _ _ (HYn.out.below (H2.out.2.2.2.trans (hb.mono (by omega))) (Nat.le_refl _)) (HXn.out.below (H2.out.2.2.2.trans (hb.mono (by omega))) (Nat.le_refl _)) HNy.out (by have := HLt.out; omega)
    clear h1 a0 a1 b0 b1 d0 d1 p0 p1
    have HX2 : Hid (∀ W, Below (w.heap.size + 3) W2 W → Own W w.heap.size 50 #[.bool n', .slice ya ly yc] ∧ Own W (w.heap.size + 1) 50 #[.bool n, .slice xa lx xc] ∧ Own W (w.heap.size + 1 + 1) 50 #[.bool false, .slice none 0 0] ∧ Below w.heap.size w W) := fun W h => box3_keep H2.out h
    have HSt2 : Hid (∀ W, Below (w.heap.size + 3) W2 W → ∀ x' y' : Value, ((((W.setCell ⟨w.heap.size + 1 + 1, 0, none⟩ x').setCell ⟨w.heap.size + 1 + 1, 1, none⟩ y').cell? ⟨w.heap.size, 0, none⟩ = some (.bool n') ∧ ((W.setCell ⟨w.heap.size + 1 + 1, 0, none⟩ x').setCell ⟨w.heap.size + 1 + 1, 1, none⟩ y').cell? ⟨w.heap.size, 1, none⟩ = some (.slice ya ly yc)) ∧ ((W.setCell ⟨w.heap.size + 1 + 1, 0, none⟩ x').setCell ⟨w.heap.size + 1 + 1, 1, none⟩ y').cell? ⟨w.heap.size + 1, 0, none⟩ = some (.bool n) ∧ ((W.setCell ⟨w.heap.size + 1 + 1, 0, none⟩ x').setCell ⟨w.heap.size + 1 + 1, 1, none⟩ y').cell? ⟨w.heap.size + 1, 1, none⟩ = some (.slice xa lx xc))) := fun W h x' y' => by
      have h0 := HX2.out W h
      exact ⟨(own2V (own_set2 h0.1 (by omega) x' y')).1, (own2V (own_set2 h0.2.1 (by omega) x' y')).1⟩
    have HB : Hid (Below (w.heap.size + 3) W2 W2.drew) := (Below.refl _ _).drew
    obtain ⟨⟨r0, r1⟩, q0, q1⟩ := own2V (HX2.out _ HB.out).2.2.1
    go_region_held3 (fun W => (W.cell? ⟨w.heap.size, 0, none⟩ = some (.bool n') ∧ W.cell? ⟨w.heap.size, 1, none⟩ = some (.slice ya ly yc)) ∧ W.cell? ⟨w.heap.size + 1, 0, none⟩ = some (.bool n) ∧ W.cell? ⟨w.heap.size + 1, 1, none⟩ = some (.slice xa lx xc))
      (first
        | exact ⟨(own2V (HX2.out _ HB.out).1).1, (own2V (HX2.out _ HB.out).2.1).1⟩
        | exact HSt2.out _ HB.out _ _)
      (first
        | (go_at_call 143
           go_loud (
           refine (HM2.out _ HB.out).mono ?_
           rintro e w3 ⟨ua, uc, rfl, hu, hw3⟩
           have HU := hid hu
           have HB := hid (HB.out.trans (hw3.mono (Nat.le_trans HSz.out HB.out.size)))
           clear hu hw3 r0 r1 q0 q1
           obtain ⟨⟨r0, r1⟩, q0, q1⟩ := own2V (HX2.out _ HB.out).2.2.1)))
    go_wp2_with fail
    refine bodyPost_ret (v := .agg #[.bool n', .slice ua (grp (y - x)).length uc]) (by simp [results, Tryd.results140, go_sem, r0, r1]) rfl ⟨.slice ua (grp (y - x)).length uc, rfl, ?_, ?_⟩
    · exact natA_set2 HU.out (HX2.out _ HB.out).2.2.1 _ _
    · exact below_set2 (HX2.out _ HB.out).2.2.2 (by omega) _ _
  · rw [if_neg hlt, if_neg hlt]
    obtain ⟨c, hc⟩ : ∃ c, ordN x y = c := ⟨_, rfl⟩
    have hc0 : 0 ≤ c := by rw [← hc]; exact ordN_ge hlt
    rw [hc] at HCC
    have HLt := hid hlt
    clear hlt hc
    go_enter Tryd.func140, Tryd.ntmps140
    go_wp2_with fail
    rw [HW0.out]
    go_wp2_with fail
    refine (HCC.out _ (HX.out _ HB0.out).2.2.2).mono ?_
    rintro e w1 ⟨rfl, hw1⟩
    have HB1 := hid (HB0.out.trans (hw1.mono HS0.out))
    clear hw1 a0 a1 b0 b1 d0 d1 p0 p1
    go_wp2_with fail
    have H2 := hid (HX.out _ HB1.out)
    have HSz : Hid (w.heap.size + 3 ≤ w1.heap.size) := Nat.le_trans HS0.out HB1.out.size
    have HM2 : Hid (∀ W, Below (w.heap.size + 3) w1 W → Calls Tryd.prog 143 #[.slice xa lx xc, .slice ya ly yc] W fun e w' => ∃ ua uc, e = .returned (.slice ua (grp (x - y)).length uc) ∧ NatA w' (.slice ua (grp (x - y)).length uc) (grp (x - y)) ∧ Below W.heap.size W w') := fun W hb => HMi.out W x y _ _ (HXn.out.below (H2.out.2.2.2.trans (hb.mono (by omega))) (Nat.le_refl _)) (HYn.out.below (H2.out.2.2.2.trans (hb.mono (by omega))) (Nat.le_refl _)) HNx.out HLt.out
    have HX2 : Hid (∀ W, Below (w.heap.size + 3) w1 W → Own W w.heap.size 50 #[.bool n, .slice xa lx xc] ∧ Own W (w.heap.size + 1) 50 #[.bool n', .slice ya ly yc] ∧ Own W (w.heap.size + 1 + 1) 50 #[.bool false, .slice none 0 0] ∧ Below w.heap.size w W) := fun W h => box3_keep H2.out h
    have HSt2 : Hid (∀ W, Below (w.heap.size + 3) w1 W → ∀ x' y' : Value, ((((W.setCell ⟨w.heap.size + 1 + 1, 0, none⟩ x').setCell ⟨w.heap.size + 1 + 1, 1, none⟩ y').cell? ⟨w.heap.size, 0, none⟩ = some (.bool n) ∧ ((W.setCell ⟨w.heap.size + 1 + 1, 0, none⟩ x').setCell ⟨w.heap.size + 1 + 1, 1, none⟩ y').cell? ⟨w.heap.size, 1, none⟩ = some (.slice xa lx xc)) ∧ ((W.setCell ⟨w.heap.size + 1 + 1, 0, none⟩ x').setCell ⟨w.heap.size + 1 + 1, 1, none⟩ y').cell? ⟨w.heap.size + 1, 0, none⟩ = some (.bool n') ∧ ((W.setCell ⟨w.heap.size + 1 + 1, 0, none⟩ x').setCell ⟨w.heap.size + 1 + 1, 1, none⟩ y').cell? ⟨w.heap.size + 1, 1, none⟩ = some (.slice ya ly yc))) := fun W h x' y' => by
      have h0 := HX2.out W h
      exact ⟨(own2V (own_set2 h0.1 (by omega) x' y')).1, (own2V (own_set2 h0.2.1 (by omega) x' y')).1⟩
    have HB : Hid (Below (w.heap.size + 3) w1 w1.drew) := (Below.refl _ _).drew
    obtain ⟨⟨r0, r1⟩, q0, q1⟩ := own2V (HX2.out _ HB.out).2.2.1
    go_region_held3 (fun W => (W.cell? ⟨w.heap.size, 0, none⟩ = some (.bool n) ∧ W.cell? ⟨w.heap.size, 1, none⟩ = some (.slice xa lx xc)) ∧ W.cell? ⟨w.heap.size + 1, 0, none⟩ = some (.bool n') ∧ W.cell? ⟨w.heap.size + 1, 1, none⟩ = some (.slice ya ly yc))
      (first
        | exact ⟨(own2V (HX2.out _ HB.out).1).1, (own2V (HX2.out _ HB.out).2.1).1⟩
        | exact HSt2.out _ HB.out _ _)
      (first
        | (go_at_call 143
           go_loud (
           refine (HM2.out _ HB.out).mono ?_
           rintro e w3 ⟨ua, uc, rfl, hu, hw3⟩
           have HU := hid hu
           have HB := hid (HB.out.trans (hw3.mono (Nat.le_trans HSz.out HB.out.size)))
           clear hu hw3 r0 r1 q0 q1
           obtain ⟨⟨r0, r1⟩, q0, q1⟩ := own2V (HX2.out _ HB.out).2.2.1)))
    go_wp2_with fail
    refine bodyPost_ret (v := .agg #[.bool n, .slice ua (grp (x - y)).length uc]) (by simp [results, Tryd.results140, go_sem, r0, r1]) rfl ⟨.slice ua (grp (x - y)).length uc, rfl, ?_, ?_⟩
    · exact natA_set2 HU.out (HX2.out _ HB.out).2.2.1 _ _
    · exact below_set2 (HX2.out _ HB.out).2.2.2 (by omega) _ _
end Go.Proofs.YtbbffhpppacihaaDoor
