/-
  The program's order of two naturals. Condition: the groups lie in memory as NatA says; at most 5,000 groups.
  The program's product of naturals. Condition: the groups lie in memory as NatA says; at most 2,000 groups each.
-/
import Derived.Test.YtbbffhpppacihaaDoorPart4
namespace Go.Proofs.YtbbffhpppacihaaDoor
open Go.RowKit Go.Siskin

def ordN (a b : Nat) : Int := if a < b then -1 else if b < a then 1 else 0

set_option maxRecDepth 20000 in
set_option maxHeartbeats 1000000 in
theorem cmpInt_any (a b : Nat) (w : World) :
    Calls Tryd.prog 144 #[.int .i64 a, .int .i64 b] w fun e w' => e = .returned (.int .i64 (ordN a b)) ∧ w' = w := by
  have HN : Hid (∀ (x : Nat) w, Calls Tryd.prog 146 #[.int .i64 x] w fun e w' => e = .returned (.bool false) ∧ w' = w) := fun x w => by
    have h1 : ((x : Int) != (x : Int)) = false := by simp
    go_enter Tryd.func146, Tryd.ntmps146
    go_wp2_with fail
    go_ret
    exact ⟨rfl, rfl⟩
  obtain ⟨o, HO⟩ : ∃ o, Hid (ordN a b = o) := ⟨_, rfl⟩
  rw [HO.out]
  have hc : (a < b ∧ o = -1) ∨ (b < a ∧ o = 1) ∨ (a = b ∧ o = 0) := by
    rw [← HO.out]; unfold ordN
    rcases Nat.lt_trichotomy a b with h | h | h
    · exact Or.inl ⟨h, if_pos h⟩
    · exact Or.inr (Or.inr ⟨h, by rw [if_neg (by omega), if_neg (by omega)]⟩)
    · exact Or.inr (Or.inl ⟨h, by rw [if_neg (by omega), if_pos h]⟩)
  clear HO
  rcases hc with ⟨h, rfl⟩ | ⟨h, rfl⟩ | ⟨rfl, rfl⟩
  all_goals
    go_enter Tryd.func144, Tryd.ntmps144
    go_wp2_with fail
    refine (HN.out _ _).mono ?_
    rintro e w' ⟨rfl, hw⟩
    obtain rfl := hw.symm
    go_wp2_with fail
    refine (HN.out _ _).mono ?_
    rintro e w' ⟨rfl, hw⟩
    obtain rfl := hw.symm
    go_wp2_with fail
    go_ret
    exact ⟨rfl, rfl⟩

set_option maxRecDepth 20000 in
set_option maxHeartbeats 1000000 in
theorem cmpWord_any (a b : Nat) (w : World) :
    Calls Tryd.prog 145 #[.int .u64 a, .int .u64 b] w fun e w' => e = .returned (.int .i64 (ordN a b)) ∧ w' = w := by
  have HN : Hid (∀ (x : Nat) w, Calls Tryd.prog 147 #[.int .u64 x] w fun e w' => e = .returned (.bool false) ∧ w' = w) := fun x w => by
    have h1 : ((x : Int) != (x : Int)) = false := by simp
    go_enter Tryd.func147, Tryd.ntmps147
    go_wp2_with fail
    go_ret
    exact ⟨rfl, rfl⟩
  obtain ⟨o, HO⟩ : ∃ o, Hid (ordN a b = o) := ⟨_, rfl⟩
  rw [HO.out]
  have hc : (a < b ∧ o = -1) ∨ (b < a ∧ o = 1) ∨ (a = b ∧ o = 0) := by
    rw [← HO.out]; unfold ordN
    rcases Nat.lt_trichotomy a b with h | h | h
    · exact Or.inl ⟨h, if_pos h⟩
    · exact Or.inr (Or.inr ⟨h, by rw [if_neg (by omega), if_neg (by omega)]⟩)
    · exact Or.inr (Or.inl ⟨h, by rw [if_neg (by omega), if_pos h]⟩)
  clear HO
  rcases hc with ⟨h, rfl⟩ | ⟨h, rfl⟩ | ⟨rfl, rfl⟩
  all_goals
    go_enter Tryd.func145, Tryd.ntmps145
    go_wp2_with fail
    refine (HN.out _ _).mono ?_
    rintro e w' ⟨rfl, hw⟩
    obtain rfl := hw.symm
    go_wp2_with fail
    refine (HN.out _ _).mono ?_
    rintro e w' ⟨rfl, hw⟩
    obtain rfl := hw.symm
    go_wp2_with fail
    go_ret
    exact ⟨rfl, rfl⟩

theorem ordN_zero {a b : Nat} : ordN a b = 0 ↔ a = b := by
  unfold ordN
  split
  · constructor
    · intro h; cases h
    · intro h; omega
  · split
    · constructor
      · intro h; cases h
      · intro h; omega
    · constructor
      · intro _; omega
      · intro _; rfl
/-- One group further down. -/
theorem ordN_step {x y j : Nat} (h : x / 1000000000 ^ (j + 1) = y / 1000000000 ^ (j + 1)) : ordN (x / 1000000000 ^ j % 1000000000) (y / 1000000000 ^ j % 1000000000) = ordN (x / 1000000000 ^ j) (y / 1000000000 ^ j) := by
  rw [Nat.pow_succ, ← Nat.div_div_eq_div_mul, ← Nat.div_div_eq_div_mul] at h
  generalize x / 1000000000 ^ j = a at *
  generalize y / 1000000000 ^ j = b at *
  have h1 := Nat.div_add_mod a 1000000000
  have h2 := Nat.div_add_mod b 1000000000
  unfold ordN
  rcases Nat.lt_trichotomy a b with h3 | h3 | h3
  · rw [if_pos h3, if_pos (by omega)]
  · subst h3; rw [if_neg (by omega), if_neg (by omega), if_neg (by omega), if_neg (by omega)]
  · rw [if_neg (by omega), if_pos (by omega), if_neg (by omega), if_pos h3]
/-- What is told by the groups from j on. -/
theorem ordN_end {x y j : Nat} (h : ordN (x / 1000000000 ^ j) (y / 1000000000 ^ j) ≠ 0) : ordN x y = ordN (x / 1000000000 ^ j) (y / 1000000000 ^ j) := by
  unfold ordN at *
  rcases Nat.lt_trichotomy (x / 1000000000 ^ j) (y / 1000000000 ^ j) with h3 | h3 | h3
  · have : x < y := by
      rcases Nat.lt_or_ge x y with h4 | h4
      · exact h4
      · have := Nat.div_le_div_right (c := 1000000000 ^ j) h4; omega
    rw [if_pos h3, if_pos this]
  · exact absurd (by rw [if_neg (by omega), if_neg (by omega)]) h
  · have : y < x := by
      rcases Nat.lt_or_ge y x with h4 | h4
      · exact h4
      · have := Nat.div_le_div_right (c := 1000000000 ^ j) h4; omega
    rw [if_neg (by omega), if_pos this, if_neg (by omega), if_pos h3]
theorem ordN_groups {x y : Nat} (h : ordN (nG x) (nG y) ≠ 0) : ordN x y = ordN (nG x) (nG y) := by
  unfold ordN at *
  rcases Nat.lt_trichotomy (nG x) (nG y) with h3 | h3 | h3
  · rw [if_pos h3, if_pos (nG_lt h3)]
  · exact absurd (by rw [if_neg (by omega), if_neg (by omega)]) h
  · have := nG_lt h3
    rw [if_neg (by omega), if_pos this, if_neg (by omega), if_pos h3]

set_option maxRecDepth 20000 in
set_option maxHeartbeats 2000000 in
theorem compare_any (x y : Nat) (vx vy : Value) (w : World) (hx : NatA w vx (grp x)) (hy : NatA w vy (grp y)) (hnx : nG x ≤ 5000) (hny : nG y ≤ 5000) :
    Calls Tryd.prog 142 #[vx, vy] w fun e w' => e = .returned (.int .i64 (ordN x y)) ∧ Below w.heap.size w w' := by
  have HX := hid hx
  have HY := hid hy
  obtain ⟨xa, xc, rfl⟩ := natA_formR hx
  obtain ⟨ya, yc, rfl⟩ := natA_formR hy
  obtain ⟨G, HG⟩ : ∃ G : Nat, Hid (nG x = G) := ⟨_, rfl⟩
  obtain ⟨K, HK⟩ : ∃ K : Nat, Hid (nG y = K) := ⟨_, rfl⟩
  have HCi := hid (fun w => cmpInt_any G K w)
  have HCw := hid (fun (a b : Nat) w => cmpWord_any a b w)
  simp only [grp_length] at *
  rw [HG.out] at HX hnx ⊢
  rw [HK.out] at HY hny ⊢
  have HGx : Hid (∀ wr, Below w.heap.size w wr → ∀ i, i < G → ∃ b o, xa = some ⟨b, o, none⟩ ∧ wr.cell? ⟨b, o + i, none⟩ = some (.int .u64 ((x / 1000000000 ^ i % 1000000000 : Nat) : Int))) := by
    intro wr hb i hi
    have h := HX.out.below hb (Nat.le_refl _)
    rw [← HG.out] at h hi
    obtain ⟨b, o, cap, e, hc⟩ := natA_get h i hi
    simp only [Value.slice.injEq] at e
    exact ⟨b, o, e.1, hc⟩
  have HGy : Hid (∀ wr, Below w.heap.size w wr → ∀ i, i < K → ∃ b o, ya = some ⟨b, o, none⟩ ∧ wr.cell? ⟨b, o + i, none⟩ = some (.int .u64 ((y / 1000000000 ^ i % 1000000000 : Nat) : Int))) := by
    intro wr hb i hi
    have h := HY.out.below hb (Nat.le_refl _)
    rw [← HK.out] at h hi
    obtain ⟨b, o, cap, e, hc⟩ := natA_get h i hi
    simp only [Value.slice.injEq] at e
    exact ⟨b, o, e.1, hc⟩
  clear hx hy
  by_cases hne : ordN G K = 0
  · have hGK := ordN_zero.1 hne
    subst hGK
    have HXl : Hid (x / 1000000000 ^ G = 0 ∧ y / 1000000000 ^ G = 0) := ⟨Nat.div_eq_of_lt (by rw [← HG.out]; exact lt_pow_nG x), Nat.div_eq_of_lt (by rw [← HK.out]; exact lt_pow_nG y)⟩
    rw [hne] at HCi
    clear hne
    go_enter Tryd.func142, Tryd.ntmps142
    go_wp2_with fail
    refine (HCi.out _).mono ?_
    rintro e w' ⟨rfl, hw⟩
    obtain rfl := hw.symm
    go_wp2_with fail
    go_loopw [5, 6] (fun o i wr => ∃ (j : Nat) (c : Int), j ≤ G ∧ o = .int .i64 c ∧ i = .int .i64 ((j : Int) - 1) ∧ Hid (ordN (x / 1000000000 ^ j) (y / 1000000000 ^ j) = c) ∧ Hid (Below w.heap.size w wr)) (fun _ i _ => (intOf i + 1).toNat)
    case atStart => exact ⟨G, 0, Nat.le_refl _, rfl, rfl, by show _ = _; rw [HXl.out.1, HXl.out.2]; rfl, Below.refl _ _⟩
    case round =>
      obtain ⟨j, c, hj, rfl, rfl, HC, HB⟩ := hrel
      by_cases hc : c = 0
      · subst hc
        have hcb : ((0 : Int) == 0) = true := rfl
        by_cases hj0 : j = 0
        · subst hj0
          have HE : Hid (ordN x y = 0) := by
            have h := HC.out
            rw [Nat.pow_zero, Nat.div_one, Nat.div_one] at h
            exact h
          go_wp2_with fail
          go_ret
          exact ⟨ret_intz (by rw [HE.out]), HB.out⟩
        · obtain ⟨i, rfl⟩ : ∃ i, j = i + 1 := ⟨j - 1, by omega⟩
          have hi1 : ((i + 1 : Nat) : Int) - 1 = (i : Int) := by omega
          rw [hi1]
          obtain ⟨b1, o1, rfl, c1⟩ := HGx.out wr HB.out i (by omega)
          obtain ⟨b2, o2, rfl, c2⟩ := HGy.out wr HB.out i (by omega)
          have HSt := hid (ordN_step (ordN_zero.1 HC.out))
          obtain ⟨g1, hg1⟩ : ∃ g, x / 1000000000 ^ i % 1000000000 = g := ⟨_, rfl⟩
          obtain ⟨g2, hg2⟩ : ∃ g, y / 1000000000 ^ i % 1000000000 = g := ⟨_, rfl⟩
          rw [hg1] at c1 HSt
          rw [hg2] at c2 HSt
          clear hg1 hg2
          have h1 : (0 : Int) ≤ (i : Int) := by omega
          have h2 : (i : Int) < (G : Int) := by omega
          have h3 : (-1 : Int) ≤ (i : Int) - 1 := by omega
          go_wp2_with fail
          go_region_held3 (fun W => W.cell? ⟨b1, o1 + i, none⟩ = some (.int .u64 (g1 : Int)) ∧ W.cell? ⟨b2, o2 + i, none⟩ = some (.int .u64 (g2 : Int)))
            (exact ⟨c1, c2⟩)
            (first
              | (go_at_call 145
                 go_loud (
                 refine (HCw.out _ _ _).mono ?_
                 rintro e w3 ⟨rfl, hw⟩
                 obtain rfl := hw.symm)))
          all_goals
            go_wp2_with fail
            go_roundw
            case rel => exact ⟨i, _, by omega, rfl, rfl, HSt.out.symm, HB.out.drew⟩
            case measure => simp [intOf] <;> omega
      · have hcb : (c == 0) = false := by rw [beq_eq_false_iff_ne]; exact hc
        have HE : Hid (ordN x y = c) := by
          have h := HC.out
          show _ = _
          rw [← h]
          exact ordN_end (by rw [h]; exact hc)
        clear hc
        go_wp2_with fail
        go_ret
        exact ⟨ret_intz (by rw [HE.out]), HB.out⟩
  · have HE := hid (ordN_groups (x := x) (y := y) (by rw [HG.out, HK.out]; exact hne))
    rw [HG.out, HK.out] at HE
    obtain ⟨c, hc⟩ : ∃ c, ordN G K = c := ⟨_, rfl⟩
    rw [hc] at HE HCi hne
    have hcb : (c == 0) = false := by rw [beq_eq_false_iff_ne]; exact hne
    clear hc hne
    go_enter Tryd.func142, Tryd.ntmps142
    go_wp2_with fail
    refine (HCi.out _).mono ?_
    rintro e w' ⟨rfl, hw⟩
    obtain rfl := hw.symm
    go_wp2_with fail
    go_loopw [5, 6] (fun o i wr => o = .int .i64 c ∧ wr = w) (fun _ _ _ => 0)
    case atStart => exact ⟨rfl, rfl⟩
    case round =>
      obtain ⟨rfl, rfl⟩ := hrel
      go_wp2_with fail
      go_ret
      exact ⟨ret_intz (by rw [HE.out]), Below.refl _ _⟩
end Go.Proofs.YtbbffhpppacihaaDoor

namespace Go.Proofs.YtbbffhpppacihaaDoor
open Go.RowKit Go.Siskin

/-- Groups below a place of one number, from it on of another. -/
def mixN (L q S A : Nat) : List Nat := (List.range L).map fun p => (if p < q then S else A) / 1000000000 ^ p % 1000000000
theorem mixN_length (L q S A : Nat) : (mixN L q S A).length = L := by simp [mixN]
theorem mixN_get (L q S A p : Nat) (h : p < (mixN L q S A).length) : (mixN L q S A)[p] = (if p < q then S else A) / 1000000000 ^ p % 1000000000 := by simp [mixN]
theorem mixN_start (L q A : Nat) : mixN L q A A = grpN L A := by
  unfold mixN grpN
  refine List.map_congr_left fun p _ => ?_
  split <;> rfl
theorem low_group {S q p : Nat} (h : p < q) : S % 1000000000 ^ q / 1000000000 ^ p % 1000000000 = S / 1000000000 ^ p % 1000000000 := by
  obtain ⟨r, rfl⟩ : ∃ r, q = p + (r + 1) := ⟨q - p - 1, by omega⟩
  rw [Nat.pow_add, Nat.mod_mul_right_div_self, Nat.mod_mod_of_dvd]
  exact ⟨1000000000 ^ r, by rw [Nat.pow_succ, Nat.mul_comm]⟩
theorem mixN_set {L q S T A : Nat} (h : T % 1000000000 ^ q = S % 1000000000 ^ q) : (mixN L q S A).set q (T / 1000000000 ^ q % 1000000000) = mixN L (q + 1) T A := by
  apply List.ext_getElem
  · simp [mixN]
  · intro p h1 h2
    rw [List.getElem_set]
    by_cases hp : q = p
    · subst hp; rw [if_pos rfl, mixN_get, if_pos (Nat.lt_succ_self _)]
    · rw [if_neg hp, mixN_get, mixN_get]
      by_cases hq : p < q
      · rw [if_pos hq, if_pos (by omega), ← low_group hq, ← h, low_group hq]
      · rw [if_neg hq, if_neg (by omega)]
theorem mixN_end {L q S A : Nat} (hA : A < 1000000000 ^ q) (hS : S < 1000000000 ^ q) : mixN L q S A = grpN L S := by
  unfold mixN grpN
  refine List.map_congr_left fun p _ => ?_
  split
  · rfl
  · rename_i h
    have hp : 1000000000 ^ q ≤ 1000000000 ^ p := Nat.pow_le_pow_right (by decide) (by omega)
    rw [Nat.div_eq_of_lt (by omega), Nat.div_eq_of_lt (by omega)]

/-- What is reached inside a round: the sum, and what is carried. -/
def mulS (A g y i k : Nat) : Nat := A + g * (y % 1000000000 ^ k) * 1000000000 ^ i
theorem mulS_zero (A g y i : Nat) : mulS A g y i 0 = A := by unfold mulS; rw [Nat.pow_zero, Nat.mod_one, Nat.mul_zero, Nat.zero_mul, Nat.add_zero]
theorem mulS_succ (A g y i k : Nat) : mulS A g y i (k + 1) = mulS A g y i k + g * (y / 1000000000 ^ k % 1000000000) * 1000000000 ^ (i + k) := by
  unfold mulS
  rw [Nat.mod_pow_succ, Nat.mul_add, Nat.add_mul, Nat.add_assoc, Nat.pow_add]
  congr 2
  ac_rfl
theorem mul_step {A S q c m z : Nat} (h : S / 1000000000 ^ q = A / 1000000000 ^ q + c) (hz : c + (A / 1000000000 ^ q % 1000000000 + m) = z) :
    (S + m * 1000000000 ^ q) % 1000000000 ^ q = S % 1000000000 ^ q ∧ (S + m * 1000000000 ^ q) / 1000000000 ^ q % 1000000000 = z % 1000000000 ∧
      (S + m * 1000000000 ^ q) / 1000000000 ^ (q + 1) = A / 1000000000 ^ (q + 1) + z / 1000000000 := by
  have hP := p9pos q
  have h1 : (S + m * 1000000000 ^ q) / 1000000000 ^ q = S / 1000000000 ^ q + m := Nat.add_mul_div_right _ _ hP
  have h2 := Nat.div_add_mod (A / 1000000000 ^ q) 1000000000
  refine ⟨Nat.add_mul_mod_self_right _ _ _, ?_, ?_⟩
  · rw [h1, h]; omega
  · rw [Nat.pow_succ, ← Nat.div_div_eq_div_mul, ← Nat.div_div_eq_div_mul, h1, h]; omega
theorem mul_last {x y i m g : Nat} (hm : y < 1000000000 ^ m) (hg : x / 1000000000 ^ i % 1000000000 = g) : mulS (x % 1000000000 ^ i * y) g y i m = x % 1000000000 ^ (i + 1) * y := by
  unfold mulS
  rw [Nat.mod_eq_of_lt hm, Nat.mod_pow_succ, hg, Nat.add_mul]
  congr 1
  ac_rfl
theorem mul_lim {x y i m : Nat} (hm : y < 1000000000 ^ m) : x % 1000000000 ^ i * y < 1000000000 ^ (i + m) := by
  rw [Nat.pow_add]
  exact Nat.mul_lt_mul'' (Nat.mod_lt _ (p9pos i)) hm

set_option maxRecDepth 20000 in
set_option maxHeartbeats 4000000 in
theorem times_any (x y : Nat) (vx vy : Value) (w : World) (hx : NatA w vx (grp x)) (hy : NatA w vy (grp y)) (hnx : nG x ≤ 2000) (hny : nG y ≤ 2000) :
    Calls Tryd.prog 138 #[vx, vy] w fun e w' => ∃ u, e = .returned u ∧ NatA w' u (grp (x * y)) ∧ Below w.heap.size w w' := by
  have HX := hid hx
  have HY := hid hy
  obtain ⟨xa, xc, rfl⟩ := natA_formR hx
  obtain ⟨ya, yc, rfl⟩ := natA_formR hy
  have hxl := lt_pow_nG x
  have hyl := lt_pow_nG y
  obtain ⟨G, HG⟩ : ∃ G : Nat, Hid (nG x = G) := ⟨_, rfl⟩
  obtain ⟨K, HK⟩ : ∃ K : Nat, Hid (nG y = K) := ⟨_, rfl⟩
  simp only [grp_length] at *
  rw [HG.out] at HX hnx hxl ⊢
  rw [HK.out] at HY hny hyl ⊢
  have HXl := hid hxl
  have HYl := hid hyl
  have HGx : Hid (∀ wr, Below w.heap.size w wr → ∀ i, i < G → ∃ b o, xa = some ⟨b, o, none⟩ ∧ wr.cell? ⟨b, o + i, none⟩ = some (.int .u64 ((x / 1000000000 ^ i % 1000000000 : Nat) : Int))) := by
    intro wr hb i hi
    have h := HX.out.below hb (Nat.le_refl _)
    rw [← HG.out] at h hi
    obtain ⟨b, o, cap, e, hc⟩ := natA_get h i hi
    simp only [Value.slice.injEq] at e
    exact ⟨b, o, e.1, hc⟩
  have HGy : Hid (∀ wr, Below w.heap.size w wr → ∀ i, i < K → ∃ b o, ya = some ⟨b, o, none⟩ ∧ wr.cell? ⟨b, o + i, none⟩ = some (.int .u64 ((y / 1000000000 ^ i % 1000000000 : Nat) : Int))) := by
    intro wr hb i hi
    have h := HY.out.below hb (Nat.le_refl _)
    rw [← HK.out] at h hi
    obtain ⟨b, o, cap, e, hc⟩ := natA_get h i hi
    simp only [Value.slice.injEq] at e
    exact ⟨b, o, e.1, hc⟩
  obtain ⟨L, HL⟩ : ∃ L : Nat, Hid (G + K = L) := ⟨_, rfl⟩
  have hLI : (G : Int) + (K : Int) = (L : Int) := by have := HL.out; omega
  have hLl : L ≤ 4000 := by have := HL.out; omega
  have HTr : Hid (∀ v w, NatA w v (grpN L (x * y)) → Calls Tryd.prog 99 #[v] w fun e w' => ∃ u, e = .returned u ∧ NatA w' u (grp (x * y)) ∧ w' = w) := fun v w h => trimmed_any L (x * y) v w h (by rw [← HL.out, Nat.pow_add]; exact Nat.mul_lt_mul'' HXl.out HYl.out)
  obtain ⟨i0, hi, hz0, hz1, hz2⟩ := info_partsZ Tryd.infoWordZ
  have Hi := hid hi
  have Hz0 := hid hz0
  have Hz1 := hid hz1
  have Hz2 := hid hz2
  clear hi hz0 hz1 hz2 hx hy hxl hyl
  go_enter Tryd.func138, Tryd.ntmps138
  go_wp2_with (at_make; go_loud (refine wpList_make_new _ rfl _ _ 48 rfl 80 i0 (.int .u64 0) 1 Tryd.underlying48 Hi.out Hz0.out Hz1.out .i64 .i64 L (by rfl) (by rfl) (by rw [Hz2.out]; omega) (by unfold maxLen; omega) ?_))
  go_loopw [19] (fun i wr => ∃ j : Nat, i = .int .i64 j ∧ j ≤ G ∧ Hid (GrA wr w.heap.size (grpN L (x % 1000000000 ^ j * y))) ∧ Hid (Below w.heap.size w wr)) (fun i _ => G - (intOf i).toNat)
  case atStart =>
    refine ⟨0, rfl, Nat.zero_le _, ?_, (Below.refl _ _).alloc (Nat.le_refl _) _⟩
    show GrA _ _ _
    rw [Nat.pow_zero, Nat.mod_one, Nat.zero_mul]
    exact made_zero w L
  case round =>
    obtain ⟨j, rfl, hj, HA, HB⟩ := hrel
    by_cases hlt : j < G
    · obtain ⟨b1, o1, rfl, c1⟩ := HGx.out wr HB.out j hlt
      obtain ⟨g, HGg⟩ : ∃ g, Hid (x / 1000000000 ^ j % 1000000000 = g) := ⟨_, rfl⟩
      rw [HGg.out] at c1
      have hg9 : g < 1000000000 := by rw [← HGg.out]; exact Nat.mod_lt _ (by decide)
      obtain ⟨A, HAe⟩ : ∃ A, Hid (x % 1000000000 ^ j * y = A) := ⟨_, rfl⟩
      have HAl : Hid (A < 1000000000 ^ (j + K)) := by show _ < _; rw [← HAe.out]; exact mul_lim HYl.out
      have HEnd : Hid (mulS A g y j K = x % 1000000000 ^ (j + 1) * y) := by show _ = _; rw [← HAe.out]; exact mul_last HYl.out HGg.out
      rw [HAe.out] at HA
      go_wp2_with fail
      rename World => w1
      go_loopw [8, 26] (fun c k wr => ∃ (kk cc : Nat), k = .int .i64 kk ∧ c = .int .u64 cc ∧ kk ≤ K ∧ cc < 1000000000 ∧ Hid (mulS A g y j kk / 1000000000 ^ (j + kk) = A / 1000000000 ^ (j + kk) + cc) ∧ Hid (GrA wr w.heap.size (mixN L (j + kk) (mulS A g y j kk) A)) ∧ Hid (Below w.heap.size w wr)) (fun _ k _ => K - (intOf k).toNat)
      case atStart =>
        refine ⟨0, 0, rfl, rfl, Nat.zero_le _, by decide, ?_, ?_, HB.out⟩
        · show _ = _; rw [mulS_zero]; rfl
        · show GrA _ _ _; rw [mulS_zero, mixN_start]; exact HA.out
      case round =>
        obtain ⟨k, c, rfl, rfl, hk, hc9, HC, HM, HB2⟩ := hrel
        obtain ⟨p, HP⟩ : ∃ p : Nat, Hid (j + k = p) := ⟨_, rfl⟩
        have hpi : (j : Int) + (k : Int) = (p : Int) := by have := HP.out; omega
        rw [HP.out] at HC HM
        by_cases hlt2 : k < K
        · obtain ⟨b2, o2, rfl, c2⟩ := HGy.out wr HB2.out k hlt2
          obtain ⟨d, HD⟩ : ∃ d, Hid (y / 1000000000 ^ k % 1000000000 = d) := ⟨_, rfl⟩
          rw [HD.out] at c2
          have hd9 : d < 1000000000 := by rw [← HD.out]; exact Nat.mod_lt _ (by decide)
          have hpL : p < L := by have := HP.out; have := HL.out; omega
          have hpml : p < (mixN L p (mulS A g y j k) A).length := by rw [mixN_length]; exact hpL
          have c3 := HM.out.get p hpml
          rw [mixN_get, if_neg (Nat.lt_irrefl _)] at c3
          have f3 := HM.out.frozen p
          obtain ⟨a, HAa⟩ : ∃ a, Hid (A / 1000000000 ^ p % 1000000000 = a) := ⟨_, rfl⟩
          rw [HAa.out] at c3
          have ha9 : a < 1000000000 := by rw [← HAa.out]; exact Nat.mod_lt _ (by decide)
          obtain ⟨m, HMm⟩ : ∃ m, Hid (g * d = m) := ⟨_, rfl⟩
          have hmi : (g : Int) * (d : Int) = (m : Int) := by rw [← HMm.out]; simp
          have hm9 : m ≤ 999999999 * 999999999 := by rw [← HMm.out]; exact Nat.mul_le_mul (by omega) (by omega)
          obtain ⟨z, HZ⟩ : ∃ z, Hid (c + (a + m) = z) := ⟨_, rfl⟩
          have hzl : z < 1000000000 * 1000000000 := by rw [← HZ.out]; omega
          have hst := mul_step (m := m) (z := z) HC.out (by rw [HAa.out]; exact HZ.out)
          have hsu := mulS_succ A g y j k
          rw [HD.out, HMm.out, HP.out] at hsu
          rw [← hsu] at hst
          have HSt := hid hst
          have hv1 : IntKind.u64.wrap ((g : Int) * (d : Int)) = (m : Int) := by rw [hmi]; simp [IntKind.wrap, IntKind.bits, IntKind.signed]; omega
          have hv2 : IntKind.u64.wrap ((c : Int) + IntKind.u64.wrap ((a : Int) + (m : Int))) = (z : Int) := by
            have h := HZ.out
            have e : IntKind.u64.wrap ((a : Int) + (m : Int)) = (a : Int) + (m : Int) := by simp [IntKind.wrap, IntKind.bits, IntKind.signed]; omega
            rw [e]; simp [IntKind.wrap, IntKind.bits, IntKind.signed]; omega
          have hv3 : IntKind.u64.wrap ((z : Int).tmod 1000000000) = ((z % 1000000000 : Nat) : Int) := by
            rw [Int.tmod_eq_emod_of_nonneg (by omega)]; simp [IntKind.wrap, IntKind.bits, IntKind.signed]; omega
          have hv4 : IntKind.u64.wrap ((z : Int).tdiv 1000000000) = ((z / 1000000000 : Nat) : Int) := by
            rw [Int.tdiv_eq_ediv_of_nonneg (by omega)]; simp [IntKind.wrap, IntKind.bits, IntKind.signed]; omega
          have hw1 : IntKind.i64.wrap ((j : Int) + (k : Int)) = (p : Int) := by rw [hpi]; simp [IntKind.wrap, IntKind.bits, IntKind.signed]; omega
          have hwr : IntKind.i64.wrap (p : Int) = (p : Int) := by simp [IntKind.wrap, IntKind.bits, IntKind.signed]; omega
          have hp0 : (0 : Int) ≤ (p : Int) := by omega
          have hpLI : (p : Int) < (L : Int) := by omega
          clear hpi hmi hst hsu hpml
          rename World => w2
          go_wp2_with fail
          have HZi : Hid ((c : Int) + ((a : Int) + (m : Int)) = (z : Int)) := by have := HZ.out; show _ = _; omega
          have hzd : z / 1000000000 < 1000000000 := by omega
          refine ⟨⟨k + 1, z / 1000000000, by go_num, by rw [HZi.out]; congr 1, by omega, hzd, ?_, ?_, HB2.out.setCell (p := ⟨w.heap.size, p, none⟩) (Nat.le_refl _) _⟩, by simp [intOf]; omega⟩
          · show _ = _
            rw [← Nat.add_assoc, HP.out]
            exact HSt.out.2.2
          · show GrA _ _ _
            rw [← Nat.add_assoc, HP.out, HZi.out, ← mixN_set HSt.out.1, HSt.out.2.1]
            have h := HM.out.set p (z % 1000000000)
            have e : ((z % 1000000000 : Nat) : Int) = (z : Int) % 1000000000 := by omega
            rw [e] at h
            exact h
        · obtain rfl : k = K := by omega
          have hpL : p < L := by have := HP.out; have := HL.out; omega
          have hpml : p < (mixN L p (mulS A g y j k) A).length := by rw [mixN_length]; exact hpL
          have f3 := HM.out.frozen p
          have c3 := HM.out.get p hpml
          have HAl2 := HAl.out
          rw [HP.out] at HAl2
          have hc : mulS A g y j k / 1000000000 ^ p = c := by
            have h := HC.out
            rw [Nat.div_eq_of_lt HAl2, Nat.zero_add] at h
            exact h
          have HGr : Hid ((mixN L p (mulS A g y j k) A).set p c = grpN L (x % 1000000000 ^ (j + 1) * y)) := by
            have h1 := mixN_set (L := L) (q := p) (S := mulS A g y j k) (T := mulS A g y j k) (A := A) rfl
            rw [hc, Nat.mod_eq_of_lt hc9] at h1
            show _ = _
            rw [h1, ← HEnd.out]
            refine mixN_end (Nat.lt_of_lt_of_le HAl2 (Nat.pow_le_pow_right (by decide) (Nat.le_succ p))) ?_
            rw [HEnd.out]
            have h2 := mul_lim (x := x) (i := j + 1) HYl.out
            rw [show j + 1 + k = p + 1 by have := HP.out; omega] at h2
            exact h2
          have hw1 : IntKind.i64.wrap ((j : Int) + (k : Int)) = (p : Int) := by rw [hpi]; simp [IntKind.wrap, IntKind.bits, IntKind.signed]; omega
          have hwr : IntKind.i64.wrap (p : Int) = (p : Int) := by simp [IntKind.wrap, IntKind.bits, IntKind.signed]; omega
          have hp0 : (0 : Int) ≤ (p : Int) := by omega
          have hpLI : (p : Int) < (L : Int) := by omega
          have HML : Hid (GrA (wr.setCell ⟨w.heap.size, p, none⟩ (.int .u64 (c : Int))) w.heap.size (grpN L (x % 1000000000 ^ (j + 1) * y))) := by
            show GrA _ _ _
            rw [← HGr.out]
            exact HM.out.set p c
          clear hpi hc HAl2
          rename World => w2
          go_wp2_with fail
          refine ⟨⟨j + 1, by go_num, hlt, HML.out, HB2.out.setCell (p := ⟨w.heap.size, p, none⟩) (Nat.le_refl _) _⟩, by simp [intOf]; omega⟩
    · obtain rfl : j = G := by omega
      rw [Nat.mod_eq_of_lt HXl.out] at HA
      have HN := hid (grA_natN HA.out (by omega))
      go_wp2_with fail
      refine (HTr.out _ _ HN.out).mono ?_
      rintro e w4 ⟨u, rfl, hu, hw⟩
      obtain rfl := hw.symm
      obtain ⟨ua, uc, rfl⟩ := natA_formR hu
      have HU := hid hu
      clear hu
      go_wp2_with fail
      go_ret
      refine ⟨.slice ua (grp (x * y)).length uc, rfl, ?_, ?_⟩
      · exact HU.out
      · exact HB.out
end Go.Proofs.YtbbffhpppacihaaDoor
