/-
  The program's takeMost: how often another natural goes into the groups at a place, which keep what is left. Condition: it goes fewer times than a group holds; its greatest group but one is not nought, its greatest is.
  The program's dividedBy: long division. Condition: the groups lie in memory as NatA says, what is divided by is not nought.
  The program's sums and differences of naturals, and which of two is more. Condition: the groups lie in memory as NatA says; at most 2,000 groups; what is taken away is not more.
  The program's order of two naturals. Condition: the groups lie in memory as NatA says; at most 5,000 groups.
-/
import Derived.Test.YtbbffhpppacihaaDoorPart4
import Derived.Deep.RegionHeld3
namespace Go.Proofs.YtbbffhpppacihaaDoor
open Go.RowKit Go.Siskin

/-- The guess is not too small. -/
theorem guess_ge {X s m a1 a0 h : Nat} (hm : 0 < m) (hX : X < 1000000000 * s) (hs : s < 1000000000 ^ m) (h1 : X / 1000000000 ^ m % 1000000000 = a1) (h0 : X / 1000000000 ^ (m - 1) % 1000000000 = a0) (hh : s / 1000000000 ^ (m - 1) % 1000000000 = h) (hpos : 1000000000 ^ (m - 1) ≤ s) :
    0 < h ∧ X / s ≤ (a1 * 1000000000 + a0) / h ∧ X / s ≤ 999999999 := by
  obtain ⟨k, rfl⟩ : ∃ k, m = k + 1 := ⟨m - 1, by omega⟩
  rw [Nat.add_sub_cancel] at *
  have hP := p9pos k
  rw [Nat.pow_succ] at hs h1
  have hs2 : s / 1000000000 ^ k < 1000000000 := Nat.div_lt_of_lt_mul hs
  rw [Nat.mod_eq_of_lt hs2] at hh
  have hspos : 0 < s := by omega
  have hh0 : 0 < h := by rw [← hh]; exact Nat.div_pos hpos hP
  rw [← Nat.div_div_eq_div_mul] at h1
  have hXk : X / 1000000000 ^ k = a1 * 1000000000 + a0 := by
    have h2 : X / 1000000000 ^ k / 1000000000 < 1000000000 := by
      refine Nat.div_lt_of_lt_mul (Nat.div_lt_of_lt_mul ?_)
      have : 1000000000 * s ≤ 1000000000 * (1000000000 ^ k * 1000000000) := Nat.mul_le_mul_left _ (Nat.le_of_lt hs)
      have e : 1000000000 ^ k * (1000000000 * 1000000000) = 1000000000 * (1000000000 ^ k * 1000000000) := by ac_rfl
      omega
    rw [Nat.mod_eq_of_lt h2] at h1
    rw [← h1, ← h0]; omega
  refine ⟨hh0, ?_, ?_⟩
  · rw [← hXk, Nat.div_div_eq_div_mul]
    refine Nat.div_le_div_left ?_ (Nat.mul_pos hP hh0)
    rw [← hh]; exact Nat.mul_div_le s _
  · have := Nat.div_lt_of_lt_mul (show X < s * 1000000000 by rw [Nat.mul_comm]; exact hX)
    omega

theorem ow_le {G s m Y X ow : Nat} (hG : G ≤ 999999999) (hs : s < 1000000000 ^ m) (h : Y + G * s = X + ow * 1000000000 ^ (m + 1)) (hY : Y < 1000000000 ^ (m + 1)) : ow ≤ 1 := by
  rw [Nat.pow_succ] at *
  generalize 1000000000 ^ m = P at *
  have h1 : G * s ≤ 999999999 * P := Nat.mul_le_mul hG (Nat.le_of_lt hs)
  rcases Nat.lt_or_ge ow 2 with h2 | h2
  · omega
  · exfalso
    have h3 : 2 * (P * 1000000000) ≤ ow * (P * 1000000000) := Nat.mul_le_mul_right _ h2
    omega
theorem low_high (V i Y : Nat) : (V % 1000000000 ^ i + 1000000000 ^ i * Y) / 1000000000 ^ i = Y ∧ (V % 1000000000 ^ i + 1000000000 ^ i * Y) % 1000000000 ^ i = V % 1000000000 ^ i := by
  have hP := p9pos i
  have hl := Nat.mod_lt V hP
  generalize 1000000000 ^ i = P at *
  constructor
  · rw [Nat.add_mul_div_left _ _ hP, Nat.div_eq_of_lt hl, Nat.zero_add]
  · rw [Nat.add_mul_mod_self_left, Nat.mod_eq_of_lt hl]
theorem low_lt {V i Y mm : Nat} (hY : Y < 1000000000 ^ mm) : V % 1000000000 ^ i + 1000000000 ^ i * Y < 1000000000 ^ (i + mm) := by
  have hl := Nat.mod_lt V (p9pos i)
  rw [Nat.pow_add]
  generalize 1000000000 ^ i = P at *
  have h := Nat.mul_le_mul_left P (Nat.succ_le_of_lt hY)
  rw [Nat.succ_eq_add_one, Nat.mul_add, Nat.mul_one] at h
  omega
theorem give_down {Y g s X Q : Nat} (h : Y + g * s = X + 1 * Q) (hY : Y < Q) : 1 ≤ g ∧ X / s ≤ g - 1 := by
  have h1 : X < g * s := by omega
  have hg : 1 ≤ g := by
    rcases Nat.eq_zero_or_pos g with h2 | h2
    · subst h2; rw [Nat.zero_mul] at h1; omega
    · exact h2
  refine ⟨hg, ?_⟩
  have := Nat.div_lt_of_lt_mul (show X < s * g by rw [Nat.mul_comm]; exact h1)
  omega
theorem ca_le {Y2 ca Q Y s : Nat} (h : Y2 + ca * Q = Y + s) (hY : Y < Q) (hs : s < Q) : ca ≤ 1 := by
  rcases Nat.lt_or_ge ca 2 with h2 | h2
  · omega
  · exfalso
    have h3 : 2 * Q ≤ ca * Q := Nat.mul_le_mul_right _ h2
    omega
theorem give_eq {Y2 ca Q Y s g X : Nat} (h : Y + g * s = X + 1 * Q) (h2 : Y2 + ca * Q = Y + s) (hg : 1 ≤ g) (hca : ca ≤ 1) : Y2 + (g - 1) * s = X + (1 - ca) * Q := by
  obtain ⟨k, rfl⟩ : ∃ k, g = k + 1 := ⟨g - 1, by omega⟩
  rw [Nat.add_sub_cancel]
  rw [Nat.add_mul, Nat.one_mul] at h
  rcases Nat.lt_or_ge ca 1 with h3 | h3
  · have : ca = 0 := by omega
    subst this
    rw [Nat.zero_mul] at h2
    rw [Nat.sub_zero]; omega
  · have : ca = 1 := by omega
    subst this
    rw [Nat.sub_self, Nat.zero_mul]; omega
theorem most_end {Y g s X : Nat} (h : Y + g * s = X) (hg : X / s ≤ g) (hs : 0 < s) : X / s = g ∧ X % s = Y := by
  have h1 : g ≤ X / s := (Nat.le_div_iff_mul_le hs).2 (by omega)
  have h2 : X / s = g := by omega
  refine ⟨h2, ?_⟩
  have h3 := Nat.div_add_mod X s
  rw [h2, Nat.mul_comm] at h3
  omega

set_option maxRecDepth 20000 in
set_option maxHeartbeats 4000000 in
theorem takeMost_any (M V s b i m nl nc : Nat) (vs : Value) (w : World) (hG : GrA w b (grpN M V)) (hs : RowOf .u64 (fun k => k ≠ b) w vs (grpN (m + 1) s)) (him : i + (m + 1) ≤ M) (hnl : m + 1 ≤ nl) (hnc : nl ≤ nc) (hncm : nc ≤ 1000000)
    (hm : 0 < m) (hX : V / 1000000000 ^ i < 1000000000 * s) (hsl : s < 1000000000 ^ m) (hsp : 1000000000 ^ (m - 1) ≤ s) :
    Calls Tryd.prog 105 #[.slice (some ⟨b, i, none⟩) nl nc, vs] w fun e w' => e = .returned (.int .u64 ((V / 1000000000 ^ i / s : Nat) : Int)) ∧ GrA w' b (grpN M (V % 1000000000 ^ i + 1000000000 ^ i * (V / 1000000000 ^ i % s))) ∧ Wr b w w' := by
  have HS := hid hs
  have HG := hid hG
  have HSl := hid hsl
  have HIM := hid him
  have hsl1 : s < 1000000000 ^ (m + 1) := Nat.lt_of_lt_of_le hsl (Nat.pow_le_pow_right (by decide) (Nat.le_succ m))
  have hVl : V < 1000000000 ^ (i + (m + 1)) := by
    have h1 := Nat.div_add_mod V (1000000000 ^ i)
    have h2 := Nat.mod_lt V (p9pos i)
    rw [Nat.pow_add, Nat.pow_succ]
    have h3 : V / 1000000000 ^ i + 1 ≤ 1000000000 ^ m * 1000000000 := by
      have : 1000000000 * s ≤ 1000000000 * 1000000000 ^ m := Nat.mul_le_mul_left _ (Nat.le_of_lt hsl)
      rw [Nat.mul_comm (1000000000 ^ m)]; omega
    have h4 := Nat.mul_le_mul_left (1000000000 ^ i) h3
    rw [Nat.mul_add, Nat.mul_one] at h4
    omega
  have HSl1 := hid hsl1
  have HVl := hid hVl
  obtain ⟨sa, sc, e0, q1, q2, q3⟩ := hs
  subst e0
  rw [grpN_length] at *
  unfold maxLen at q2
  have hGlen := grpN_length M V
  have g1 := hG.get (i + m) (by rw [grpN_length]; omega)
  have g0 := hG.get (i + (m - 1)) (by rw [grpN_length]; omega)
  rw [grpN_get] at g1 g0
  rcases q3 with h | ⟨b', o', rfl, hne, hc⟩
  · have := congrArg List.length h; rw [grpN_length] at this; simp at this
  have gs := hc (m - 1) (by rw [grpN_length]; omega)
  rw [grpN_get] at gs
  obtain ⟨X, HXX⟩ : ∃ X : Nat, Hid (V / 1000000000 ^ i = X) := ⟨_, rfl⟩
  have e1 : V / 1000000000 ^ (i + m) = X / 1000000000 ^ m := by rw [Nat.pow_add, ← Nat.div_div_eq_div_mul, HXX.out]
  have e2 : V / 1000000000 ^ (i + (m - 1)) = X / 1000000000 ^ (m - 1) := by rw [Nat.pow_add, ← Nat.div_div_eq_div_mul, HXX.out]
  rw [e1] at g1
  rw [e2] at g0
  rw [HXX.out] at hX ⊢
  obtain ⟨a1, HA1⟩ : ∃ a : Nat, Hid (X / 1000000000 ^ m % 1000000000 = a) := ⟨_, rfl⟩
  obtain ⟨a0, HA0⟩ : ∃ a : Nat, Hid (X / 1000000000 ^ (m - 1) % 1000000000 = a) := ⟨_, rfl⟩
  obtain ⟨h, HH⟩ : ∃ a : Nat, Hid (s / 1000000000 ^ (m - 1) % 1000000000 = a) := ⟨_, rfl⟩
  have hgu := guess_ge hm hX hsl HA1.out HA0.out HH.out hsp
  rw [HA1.out] at g1
  rw [HA0.out] at g0
  rw [HH.out] at gs
  have ha1 : a1 < 1000000000 := by rw [← HA1.out]; exact Nat.mod_lt _ (by decide)
  have ha0 : a0 < 1000000000 := by rw [← HA0.out]; exact Nat.mod_lt _ (by decide)
  have hh9 : h < 1000000000 := by rw [← HH.out]; exact Nat.mod_lt _ (by decide)
  have hh0 := hgu.1
  have hhn : ((h : Int) == 0) = false := by rw [beq_eq_false_iff_ne]; omega
  obtain ⟨G, HGG⟩ : ∃ G : Nat, Hid (min ((a1 * 1000000000 + a0) / h) 999999999 = G) := ⟨_, rfl⟩
  have HGge : Hid (X / s ≤ G) := by show _ ≤ _; rw [← HGG.out]; exact Nat.le_min.2 hgu.2
  have hG9 : G ≤ 999999999 := by rw [← HGG.out]; exact Nat.min_le_right _ _
  obtain ⟨m', HM'⟩ : ∃ m' : Nat, Hid (m - 1 = m') := ⟨_, rfl⟩
  have hm' : m = m' + 1 := by have := HM'.out; omega
  rw [HM'.out] at g0 gs
  have HXl := hid hX
  have hmI : ((m : Int) + 1 - 1) = (m : Int) := by omega
  have hmI2 : (m : Int) - 1 = (m' : Int) := by omega
  have hn1 : (m : Int) < (nl : Int) := by omega
  have hn2 : (m' : Int) < (nl : Int) := by omega
  have hn3 : (m' : Int) < (m : Int) + 1 := by omega
  have hnz : ¬ h = 0 := by omega
  have hwm : IntKind.i64.wrap (m' : Int) = (m' : Int) := by simp [IntKind.wrap, IntKind.bits, IntKind.signed]; omega
  obtain ⟨p, HPp⟩ : ∃ p : Nat, Hid (a1 * 1000000000 = p) := ⟨_, rfl⟩
  obtain ⟨y, HY⟩ : ∃ y : Nat, Hid (p + a0 = y) := ⟨_, rfl⟩
  have hp18 : p ≤ 1000000000000000000 := by rw [← HPp.out]; omega
  have hy18 : y ≤ 2000000000000000000 := by rw [← HY.out]; omega
  have hwa : IntKind.u64.wrap ((a1 : Int) * 1000000000) = (p : Int) := by rw [← HPp.out]; simp [IntKind.wrap, IntKind.bits, IntKind.signed]; omega
  have hwb : IntKind.u64.wrap ((p : Int) + (a0 : Int)) = (y : Int) := by rw [← HY.out]; simp [IntKind.wrap, IntKind.bits, IntKind.signed]; omega
  obtain ⟨q, HQ⟩ : ∃ q : Nat, Hid (y / h = q) := ⟨_, rfl⟩
  have hq18 : q ≤ 2000000000000000000 := by rw [← HQ.out]; exact Nat.le_trans (Nat.div_le_self _ _) hy18
  have hwc : (y : Int) / (h : Int) = (q : Int) := by rw [← HQ.out, Int.natCast_ediv]
  have hwd : (y : Int).tdiv (h : Int) = (q : Int) := by rw [Int.tdiv_eq_ediv_of_nonneg (by omega), hwc]
  have hwe : IntKind.u64.wrap (q : Int) = (q : Int) := by simp [IntKind.wrap, IntKind.bits, IntKind.signed]; omega
  have HGq : Hid (min q 999999999 = G) := by show _ = _; rw [← HGG.out, ← HQ.out, ← HY.out, ← HPp.out]
  have hmin : (if (999999999 : Int) < (q : Int) then (999999999 : Int) else (q : Int)) = (G : Int) := by
    have h := HGq.out
    rw [Nat.min_def] at h
    split at h <;> split <;> omega
  clear hG hc hGlen e1 e2 hgu hsl hsl1 hVl hsp him hX hm'
  go_enter Tryd.func105, Tryd.ntmps105
  go_wp2_with fail
  go_region_law (fail)
  all_goals
    go_wp2_with fail
    refine (take_any M V s b i (m + 1) nl nc G _ w.drew HG.out HS.out HIM.out hnl hnc hncm (by omega) HVl.out HSl1.out).mono ?_
    rintro e w1 ⟨Y0, ow, rfl, hG1, hY1, hE1, hW1⟩
    rw [HXX.out] at hE1
    have HG1 := hid hG1
    have HY1 := hid hY1
    have HE1 := hid hE1
    have HW1 : Hid (Wr b w w1) := (Wr.refl b w).drew.trans hW1
    have how : ow ≤ 1 := ow_le hG9 HSl.out HE1.out HY1.out
    clear hG1 hY1 hE1 hW1
    go_wp2_with fail
    go_loopw [6, 7] (fun gu sh wr => ∃ (g Y c : Nat), gu = .int .u64 g ∧ sh = .bool (decide (0 < c)) ∧ g ≤ 999999999 ∧ c ≤ 1 ∧ Hid (X / s ≤ g) ∧ Hid (Y < 1000000000 ^ (m + 1)) ∧ Hid (GrA wr b (grpN M (V % 1000000000 ^ i + 1000000000 ^ i * Y))) ∧ Hid (Y + g * s = X + c * 1000000000 ^ (m + 1)) ∧ Hid (Wr b w wr)) (fun gu _ _ => (intOf gu).toNat)
    case atStart => exact ⟨G, Y0, ow, rfl, rfl, hG9, how, HGge, HY1, HG1, HE1, HW1⟩
    case round =>
      obtain ⟨g, Y, c, rfl, rfl, hg9, hc1, HGe, HYl, HGr, HEq, HWr⟩ := hrel
      by_cases hc : 0 < c
      · have hc' : c = 1 := by omega
        subst hc'
        have HV1 : Hid ((V % 1000000000 ^ i + 1000000000 ^ i * Y) / 1000000000 ^ i = Y ∧ (V % 1000000000 ^ i + 1000000000 ^ i * Y) % 1000000000 ^ i = V % 1000000000 ^ i) := low_high V i Y
        have HV1l : Hid (V % 1000000000 ^ i + 1000000000 ^ i * Y < 1000000000 ^ (i + (m + 1))) := low_lt HYl.out
        have HRow : Hid (RowOf .u64 (fun k => k ≠ b) wr (.slice (some ⟨b', o', none⟩) (m + 1) sc) (grpN (m + 1) s)) := RowOf.keep HS.out HWr.out.2.1
        have hgd := give_down HEq.out HYl.out
        have hg1 : 1 ≤ g := hgd.1
        have HGd := hid hgd.2
        clear hc hgd
        go_wp2_with fail
        refine (give_any M _ s b i (m + 1) nl nc _ _ HGr.out HRow.out HIM.out hnl hnc hncm HV1l.out HSl1.out).mono ?_
        rintro e w2 ⟨Y2, ca, rfl, hG2, hY2, hE2, hW2⟩
        rw [HV1.out.1] at hE2
        rw [HV1.out.2] at hG2
        have hca : ca ≤ 1 := ca_le hE2 HYl.out HSl1.out
        have HG2 := hid hG2
        have HY2 := hid hY2
        have HE2 := hid hE2
        have HW2 := hid (HWr.out.trans hW2)
        clear hG2 hY2 hE2 hW2
        go_wp2_with fail
        refine ⟨⟨g - 1, Y2, 1 - ca, by congr 1; omega, ?_, by omega, by omega, HGd.out, HY2, HG2, give_eq HEq.out HE2.out hg1 hca, HW2⟩, by simp [intOf]; omega⟩
        congr 1
        by_cases h0 : ca = 0
        · subst h0; rfl
        · have : ca = 1 := by omega
          subst this; rfl
      · have hc' : c = 0 := by omega
        subst hc'
        have HE0 : Hid (Y + g * s = X) := by show _ = _; have h := HEq.out; rw [Nat.zero_mul, Nat.add_zero] at h; exact h
        have HFin := hid (most_end HE0.out HGe.out (by have := HXl.out; omega))
        go_wp2_with fail
        go_ret
        refine ⟨ret_intz (by rw [HFin.out.1]), ?_, HWr.out⟩
        rw [HFin.out.2]
        exact HGr.out
end Go.Proofs.YtbbffhpppacihaaDoor

namespace Go.Proofs.YtbbffhpppacihaaDoor
open Go.RowKit Go.Siskin

theorem natA_get {w : World} {v : Value} {x : Nat} (h : NatA w v (grp x)) (i : Nat) (hi : i < nG x) : ∃ b o cap, v = .slice (some ⟨b, o, none⟩) (nG x) cap ∧ w.cell? ⟨b, o + i, none⟩ = some (.int .u64 ((x / 1000000000 ^ i % 1000000000 : Nat) : Int)) := by
  obtain ⟨a, cap, e, h1, h2, h3⟩ := h
  rw [grp_length] at e
  rcases h3 with h3 | ⟨b, o, rfl, -, hc⟩
  · have := congrArg List.length h3; rw [grp_length] at this; simp at this; omega
  · refine ⟨b, o, cap, e, ?_⟩
    rw [hc i (by rw [grp_length]; exact hi)]
    unfold grp; rw [grpN_get]
theorem nG_lt {x y : Nat} (h : nG x < nG y) : x < y := by
  rcases Nat.lt_or_ge x y with h1 | h1
  · exact h1
  · have := nG_mono h1; omega
/-- The scale. -/
theorem scale_facts {y m t sc : Nat} (hy : 0 < y) (hm : nG y = m) (ht : y / 1000000000 ^ (m - 1) = t) (hsc : 1000000000 / (t + 1) = sc) : 0 < sc ∧ sc ≤ 1000000000 ∧ y * sc < 1000000000 ^ m ∧ 1000000000 ^ (m - 1) ≤ y * sc ∧ t < 1000000000 := by
  have tp := top_pos hy
  rw [hm, ht] at tp
  have hmp : 0 < m := by rw [← hm]; exact nG_pos hy
  have hsc1 : 0 < sc := by rw [← hsc]; exact Nat.div_pos (by omega) (by omega)
  have hsc2 : sc ≤ 1000000000 := by rw [← hsc]; exact Nat.div_le_self _ _
  have hsc3 : (t + 1) * sc ≤ 1000000000 := by rw [← hsc]; exact Nat.mul_div_le _ _
  refine ⟨hsc1, hsc2, ?_, ?_, tp.2⟩
  · obtain ⟨k, rfl⟩ : ∃ k, m = k + 1 := ⟨m - 1, by omega⟩
    rw [Nat.add_sub_cancel] at ht
    have h1 := Nat.div_add_mod y (1000000000 ^ k)
    have h2 := Nat.mod_lt y (p9pos k)
    rw [ht] at h1
    rw [Nat.pow_succ]
    generalize 1000000000 ^ k = P at *
    have h3 : y < P * (t + 1) := by rw [Nat.mul_add]; omega
    have h4 : y * sc < P * (t + 1) * sc := Nat.mul_lt_mul_of_pos_right h3 hsc1
    have h5 : P * ((t + 1) * sc) ≤ P * 1000000000 := Nat.mul_le_mul_left _ hsc3
    rw [Nat.mul_assoc] at h4
    omega
  · have h1 := pow_le_nG hy
    rw [hm] at h1
    exact Nat.le_trans h1 (Nat.le_mul_of_pos_right _ hsc1)
theorem start_small {x y L m sc : Nat} (hL : nG x = L) (hm : nG y = m) (hmL : m ≤ L) (hy : 0 < y) (hsc : 0 < sc) : x * sc / 1000000000 ^ (L + 1 - m) < y * sc := by
  have h1 := lt_pow_nG x
  have h2 := pow_le_nG hy
  have hmp : 0 < m := by rw [← hm]; exact nG_pos hy
  rw [hL] at h1
  rw [hm] at h2
  refine Nat.div_lt_of_lt_mul ?_
  have h3 : x * sc < 1000000000 ^ L * sc := Nat.mul_lt_mul_of_pos_right h1 hsc
  refine Nat.lt_of_lt_of_le h3 ?_
  have e : 1000000000 ^ L = 1000000000 ^ (L + 1 - m) * 1000000000 ^ (m - 1) := by rw [← Nat.pow_add]; congr 1; omega
  rw [e, Nat.mul_assoc]
  exact Nat.mul_le_mul_left _ (Nat.mul_le_mul_right _ h2)
/-- A round of the long division. -/
theorem round_facts {U s i : Nat} (hs : 0 < s) : (U / 1000000000 ^ (i + 1) % s * 1000000000 ^ (i + 1) + U % 1000000000 ^ (i + 1)) / 1000000000 ^ i = U / 1000000000 ^ (i + 1) % s * 1000000000 + U / 1000000000 ^ i % 1000000000 ∧
    (U / 1000000000 ^ (i + 1) % s * 1000000000 ^ (i + 1) + U % 1000000000 ^ (i + 1)) % 1000000000 ^ i = U % 1000000000 ^ i ∧
    U / 1000000000 ^ (i + 1) % s * 1000000000 + U / 1000000000 ^ i % 1000000000 < 1000000000 * s := by
  have hP := p9pos i
  have hr := Nat.mod_lt (U / 1000000000 ^ (i + 1)) hs
  generalize U / 1000000000 ^ (i + 1) % s = r at *
  have hg := Nat.mod_lt (U / 1000000000 ^ i) (show 0 < 1000000000 by decide)
  have hU := Nat.mod_lt U hP
  rw [Nat.mod_pow_succ, Nat.pow_succ]
  generalize 1000000000 ^ i = P at *
  generalize U / P % 1000000000 = g at *
  generalize U % P = l at *
  have e : r * (P * 1000000000) + (l + P * g) = l + P * (r * 1000000000 + g) := by
    rw [Nat.mul_add]
    have : r * (P * 1000000000) = P * (r * 1000000000) := by ac_rfl
    omega
  rw [e]
  refine ⟨?_, ?_, by omega⟩
  · rw [Nat.add_mul_div_left _ _ hP, Nat.div_eq_of_lt hU, Nat.zero_add]
  · rw [Nat.add_mul_mod_self_left, Nat.mod_eq_of_lt hU]

set_option maxRecDepth 20000 in
set_option maxHeartbeats 4000000 in
theorem dividedBy_small (x y : Nat) (vx vy : Value) (w : World) (hx : NatA w vx (grp x)) (hy : NatA w vy (grp y)) (hlt : nG x < nG y) :
    Calls Tryd.prog 85 #[vx, vy] w fun e w' => ∃ q r, e = .returned (.tuple #[q, r]) ∧ NatA w' q (grp (x / y)) ∧ NatA w' r (grp (x % y)) ∧ Below w.heap.size w w' := by
  have hxy := nG_lt hlt
  have hq : x / y = 0 := Nat.div_eq_of_lt hxy
  have hr : x % y = x := Nat.mod_eq_of_lt hxy
  rw [hq, hr]
  have HX := hid hx
  obtain ⟨xa, xc, rfl, x1, x2, -⟩ := hx
  obtain ⟨ya, yc, rfl, y1, y2, -⟩ := hy
  simp only [grp_length] at *
  unfold maxLen at x2 y2
  have hltI : (nG x : Int) < (nG y : Int) := by omega
  clear hxy hq hr
  go_enter Tryd.func85, Tryd.ntmps85
  go_wp2_with fail
  go_ret2
  exact ⟨.slice none 0 0, .slice xa (nG x) xc, rfl, NatA.nil, HX.out, Below.refl _ _⟩

set_option maxRecDepth 20000 in
set_option maxHeartbeats 4000000 in
theorem dividedBy_one (x y : Nat) (vx vy : Value) (w : World) (hx : NatA w vx (grp x)) (hy : NatA w vy (grp y)) (hn : nG x ≤ 1000) (hy1 : nG y = 1) (hle : ¬ nG x < nG y) :
    Calls Tryd.prog 85 #[vx, vy] w fun e w' => ∃ q r, e = .returned (.tuple #[q, r]) ∧ NatA w' q (grp (x / y)) ∧ NatA w' r (grp (x % y)) ∧ Below w.heap.size w w' := by
  have hy0 : 0 < y := by
    rcases Nat.eq_zero_or_pos y with h | h
    · subst h; simp [nG] at hy1
    · exact h
  have hyl : y < 1000000000 := by have := lt_pow_nG y; rw [hy1, Nat.pow_one] at this; exact this
  obtain ⟨b, o, yc, rfl, gy⟩ := natA_get hy 0 (by omega)
  rw [Nat.pow_zero, Nat.div_one, Nat.mod_eq_of_lt hyl, Nat.add_zero] at gy
  have HDv := hid (dividedByGroup_any x y vx w hx (by omega) (by omega) hy0)
  have HNO := hid (fun w => naturalOf_any (x % y) w (by have := Nat.mod_lt x hy0; omega))
  obtain ⟨ya, yc', e', y1, y2, -⟩ := hy
  obtain ⟨xa, xc, rfl, x1, x2, -⟩ := hx
  simp only [grp_length] at *
  simp only [Value.slice.injEq, true_and] at e'
  obtain ⟨-, rfl⟩ := e'
  unfold maxLen at x2 y2
  have hltI : ¬ (nG x : Int) < (1 : Int) := by omega
  rw [hy1] at *
  clear hy1 hle
  go_enter Tryd.func85, Tryd.ntmps85
  go_wp2_with fail
  refine HDv.out.mono ?_
  rintro e w1 ⟨u, rfl, hu, hw1⟩
  have HU := hid hu
  have HW1 := hid hw1
  obtain ⟨ua, uc, rfl⟩ := natA_formR hu
  clear hu hw1
  go_wp2_with fail
  refine (HNO.out _).mono ?_
  rintro e w2 ⟨r, rfl, hr, hw2⟩
  have HR := hid hr
  have HW2 := hid hw2
  obtain ⟨ra, rc, rfl⟩ := natA_formR hr
  clear hr hw2
  go_wp2_with fail
  go_ret2
  exact ⟨.slice ua _ uc, .slice ra _ rc, rfl, HU.out.below HW2.out (Nat.le_refl _), HR.out, HW1.out.trans (HW2.out.mono HW1.out.size)⟩
end Go.Proofs.YtbbffhpppacihaaDoor

namespace Go.Proofs.YtbbffhpppacihaaDoor
open Go.RowKit Go.Siskin

theorem grA_rowNe {w : World} {b b1 M x : Nat} (h : GrA w b (grpN M x)) (hne : b ≠ b1) (hM : M ≤ 200000) : RowOf .u64 (fun k => k ≠ b1) w (.slice (some ⟨b, 0, none⟩) M M) (grpN M x) := by
  have hr := h.rowEq (cap := M) (by rw [grpN_length]; omega) (by unfold maxLen; omega)
  rw [grpN_length] at hr
  exact hr.mono (fun k e => by subst e; exact hne)
theorem grA_natN {w : World} {b M x : Nat} (h : GrA w b (grpN M x)) (hM : M ≤ 200000) : NatA w (.slice (some ⟨b, 0, none⟩) M M) (grpN M x) := by
  have hr := h.natA (cap := M) (by rw [grpN_length]; omega) (by unfold maxLen; omega)
  rw [grpN_length] at hr
  exact hr
theorem sum_lim {x y M : Nat} (hx : nG x ≤ M) (hy : nG y ≤ M) : x + y < 1000000000 ^ (M + 1) := by
  have h1 := Nat.lt_of_lt_of_le (lt_pow_nG x) (Nat.pow_le_pow_right (by decide) hx)
  have h2 := Nat.lt_of_lt_of_le (lt_pow_nG y) (Nat.pow_le_pow_right (by decide) hy)
  rw [Nat.pow_succ]; omega
theorem give_sum {Y ca P x y : Nat} (h : Y + ca * P = x + y) (hs : x + y < P) : Y = x + y := by
  rcases Nat.eq_zero_or_pos ca with h0 | h0
  · subst h0; omega
  · have := Nat.mul_le_mul_right P h0
    omega
theorem take_rest {Y ow P x y : Nat} (h : Y + 1 * y = x + ow * P) (hY : Y < P) (hle : y ≤ x) : Y = x - y := by
  rcases Nat.eq_zero_or_pos ow with h0 | h0
  · subst h0; omega
  · have := Nat.mul_le_mul_right P h0
    omega

set_option maxRecDepth 20000 in
set_option maxHeartbeats 2000000 in
theorem plus_any (x y : Nat) (vx vy : Value) (w : World) (hx : NatA w vx (grp x)) (hy : NatA w vy (grp y)) (hnx : nG x ≤ 5000) (hny : nG y ≤ 5000) :
    Calls Tryd.prog 137 #[vx, vy] w fun e w' => ∃ u, e = .returned u ∧ NatA w' u (grp (x + y)) ∧ Below w.heap.size w w' := by
  have HX := hid hx
  have HY := hid hy
  obtain ⟨xa, xc, rfl⟩ := natA_formR hx
  obtain ⟨ya, yc, rfl⟩ := natA_formR hy
  obtain ⟨M, hM⟩ : ∃ M : Nat, (nG x < nG y ∧ M = nG y) ∨ (¬ nG x < nG y ∧ M = nG x) := by
    by_cases h : nG x < nG y
    · exact ⟨_, Or.inl ⟨h, rfl⟩⟩
    · exact ⟨_, Or.inr ⟨h, rfl⟩⟩
  have hMx : nG x ≤ M := by omega
  have hMy : nG y ≤ M := by omega
  have hMl : M ≤ 5000 := by omega
  have HWx : Hid (∀ w v, NatA w v (grp x) → Calls Tryd.prog 116 #[v, .int .i64 ((M : Int) + 1)] w fun e w' => e = .returned (.slice (some ⟨w.heap.size, 0, none⟩) (M + 1) (M + 1)) ∧ GrA w' w.heap.size (grpN (M + 1) x) ∧ Below w.heap.size w w') := fun w v h => widened_any x (M + 1) v w h (by omega) (by omega)
  have HWy : Hid (∀ w v, NatA w v (grp y) → Calls Tryd.prog 116 #[v, .int .i64 ((M : Int) + 1)] w fun e w' => e = .returned (.slice (some ⟨w.heap.size, 0, none⟩) (M + 1) (M + 1)) ∧ GrA w' w.heap.size (grpN (M + 1) y) ∧ Below w.heap.size w w') := fun w v h => widened_any y (M + 1) v w h (by omega) (by omega)
  have HSum := hid (sum_lim hMx hMy)
  have HGv := hid (fun b vs w h1 h2 => give_any (M + 1) x y b 0 (M + 1) (M + 1) (M + 1) vs w h1 h2 (by omega) (Nat.le_refl _) (Nat.le_refl _) (by omega) (by have := HSum.out; rw [Nat.zero_add]; omega) (by have := HSum.out; omega))
  have HTr := hid (fun v w h => trimmed_any (M + 1) (x + y) v w h HSum.out)
  simp only [grp_length] at *
  clear hx hy
  rcases hM with ⟨h, rfl⟩ | ⟨h, rfl⟩
  all_goals
    go_enter Tryd.func137, Tryd.ntmps137
    go_wp2_with fail
    refine (HWx.out _ _ HX.out).mono ?_
    rintro e w1 ⟨rfl, hg1, hw1⟩
    have HG1 := hid hg1
    have HB1 := hid hw1
    have hlt1 := hg1.lt
    clear hg1 hw1
    go_wp2_with fail
    refine (HWy.out _ _ (HY.out.below HB1.out (Nat.le_refl _))).mono ?_
    rintro e w2 ⟨rfl, hg2, hw2⟩
    have HG2 := hid hg2
    have HG1b := hid (HG1.out.keep hw2 hlt1)
    have HB2 := hid (HB1.out.trans (hw2.mono (by omega)))
    clear hg2 hw2
    go_wp2_with fail
    refine (HGv.out w.heap.size _ w2 HG1b.out (grA_rowNe HG2.out (by omega) (by omega))).mono ?_
    rintro e w3 ⟨Y, ca, rfl, hg3, hY, hE, hW⟩
    rw [Nat.pow_zero, Nat.mod_one, Nat.zero_add, Nat.one_mul] at hg3
    rw [Nat.pow_zero, Nat.div_one] at hE
    have hYe := give_sum hE HSum.out
    subst hYe
    have HG3 := hid hg3
    have HB3 := hid (HB2.out.trans hW.1)
    clear hg3 hY hE hW
    go_wp2_with fail
    refine (HTr.out _ _ (grA_natN HG3.out (by omega))).mono ?_
    rintro e w4 ⟨u, rfl, hu, hw⟩
    obtain rfl := hw.symm
    obtain ⟨ua, uc, rfl⟩ := natA_formR hu
    have HU := hid hu
    clear hu
    go_wp2_with fail
    go_ret
    refine ⟨.slice ua (grp (x + y)).length uc, rfl, ?_, ?_⟩
    · exact HU.out
    · exact HB3.out

set_option maxRecDepth 20000 in
set_option maxHeartbeats 2000000 in
theorem minus_any (x y : Nat) (vx vy : Value) (w : World) (hx : NatA w vx (grp x)) (hy : NatA w vy (grp y)) (hnx : nG x ≤ 5000) (hle : y ≤ x) :
    Calls Tryd.prog 143 #[vx, vy] w fun e w' => ∃ u, e = .returned u ∧ NatA w' u (grp (x - y)) ∧ Below w.heap.size w w' := by
  have HX := hid hx
  have HY := hid hy
  obtain ⟨xa, xc, rfl⟩ := natA_formR hx
  obtain ⟨ya, yc, rfl⟩ := natA_formR hy
  have hMy := nG_mono hle
  have hx9 := lt_pow_nG x
  obtain ⟨M, HM⟩ : ∃ M : Nat, Hid (nG x = M) := ⟨_, rfl⟩
  have HWx : Hid (∀ w v, NatA w v (grp x) → Calls Tryd.prog 116 #[v, .int .i64 (M : Int)] w fun e w' => e = .returned (.slice (some ⟨w.heap.size, 0, none⟩) M M) ∧ GrA w' w.heap.size (grpN M x) ∧ Below w.heap.size w w') := fun w v h => widened_any x M v w h (by rw [HM.out]; omega) (by rw [← HM.out]; omega)
  have HWy : Hid (∀ w v, NatA w v (grp y) → Calls Tryd.prog 116 #[v, .int .i64 (M : Int)] w fun e w' => e = .returned (.slice (some ⟨w.heap.size, 0, none⟩) M M) ∧ GrA w' w.heap.size (grpN M y) ∧ Below w.heap.size w w') := fun w v h => widened_any y M v w h (by rw [← HM.out]; exact hMy) (by rw [← HM.out]; omega)
  rw [HM.out] at hx9 hnx
  have HX9 := hid hx9
  have HLe := hid hle
  have HTk : Hid (∀ (b : Nat) (vs : Value) (w : World), GrA w b (grpN M x) → RowOf .u64 (fun k => k ≠ b) w vs (grpN M y) → Calls Tryd.prog 117 #[.slice (some ⟨b, 0, none⟩) M M, vs, .int .u64 1] w fun e w' => ∃ (Y ow : Nat), e = .returned (.bool (decide (0 < ow))) ∧ GrA w' b (grpN M (x % 1000000000 ^ 0 + 1000000000 ^ 0 * Y)) ∧ Y < 1000000000 ^ M ∧ Y + 1 * y = x / 1000000000 ^ 0 + ow * 1000000000 ^ M ∧ Wr b w w') :=
    fun b vs w h1 h2 => take_any M x y b 0 M M M 1 vs w h1 h2 (by omega) (Nat.le_refl _) (Nat.le_refl _) (by omega) (by decide) (by have := HX9.out; rw [Nat.zero_add]; omega) (by have := HX9.out; have := HLe.out; omega)
  have HTr := hid (fun v w h => trimmed_any M (x - y) v w h (by have := HX9.out; omega))
  simp only [grp_length] at *
  rw [HM.out] at HX ⊢
  clear hx hy hx9 hle hMy
  go_enter Tryd.func143, Tryd.ntmps143
  go_wp2_with fail
  refine (HWx.out _ _ HX.out).mono ?_
  rintro e w1 ⟨rfl, hg1, hw1⟩
  have HG1 := hid hg1
  have HB1 := hid hw1
  have hlt1 := hg1.lt
  clear hg1 hw1
  go_wp2_with fail
  refine (HWy.out _ _ (HY.out.below HB1.out (Nat.le_refl _))).mono ?_
  rintro e w2 ⟨rfl, hg2, hw2⟩
  have HG2 := hid hg2
  have HG1b := hid (HG1.out.keep hw2 hlt1)
  have HB2 := hid (HB1.out.trans (hw2.mono (by omega)))
  clear hg2 hw2
  go_wp2_with fail
  refine (HTk.out w.heap.size (.slice (some ⟨w1.heap.size, 0, none⟩) M M) w2 HG1b.out (grA_rowNe HG2.out (by omega) (by omega))).mono ?_
  rintro e w3 ⟨Y, ow, rfl, hg3, hY, hE, hW⟩
  rw [Nat.pow_zero, Nat.mod_one, Nat.zero_add, Nat.one_mul] at hg3
  rw [Nat.pow_zero, Nat.div_one] at hE
  have hYe := take_rest hE hY HLe.out
  subst hYe
  have HG3 := hid hg3
  have HB3 := hid (HB2.out.trans hW.1)
  clear hg3 hY hE hW
  go_wp2_with fail
  refine (HTr.out _ _ (grA_natN HG3.out (by omega))).mono ?_
  rintro e w4 ⟨u, rfl, hu, hw⟩
  obtain rfl := hw.symm
  obtain ⟨ua, uc, rfl⟩ := natA_formR hu
  have HU := hid hu
  clear hu
  go_wp2_with fail
  go_ret
  refine ⟨.slice ua (grp (x - y)).length uc, rfl, ?_, ?_⟩
  · exact HU.out
  · exact HB3.out
end Go.Proofs.YtbbffhpppacihaaDoor

namespace Go.Proofs.YtbbffhpppacihaaDoor
open Go.RowKit Go.Siskin

def ordN (a b : Nat) : Int := if a < b then -1 else if b < a then 1 else 0

set_option maxRecDepth 20000 in
set_option maxHeartbeats 1000000 in
theorem cmpInt_any (a b : Nat) (w : World) :
    Calls Tryd.prog 144 #[.int .i64 a, .int .i64 b] w fun e w' => e = .returned (.int .i64 (ordN a b)) ∧ w' = w := by
  have HN : Hid (∀ (x : Nat) w, Calls Tryd.prog 146 #[.int .i64 x] w fun e w' => e = .returned (.bool false) ∧ w' = w) := fun x w => by
    have h1 : ((x : Int) != (x : Int)) = false := by simp
    go_enter Tryd.func146, Tryd.ntmps146
    go_wp2_with fail
    go_ret
    exact ⟨rfl, rfl⟩
  obtain ⟨o, HO⟩ : ∃ o, Hid (ordN a b = o) := ⟨_, rfl⟩
  rw [HO.out]
  have hc : (a < b ∧ o = -1) ∨ (b < a ∧ o = 1) ∨ (a = b ∧ o = 0) := by
    rw [← HO.out]; unfold ordN
    rcases Nat.lt_trichotomy a b with h | h | h
    · exact Or.inl ⟨h, if_pos h⟩
    · exact Or.inr (Or.inr ⟨h, by rw [if_neg (by omega), if_neg (by omega)]⟩)
    · exact Or.inr (Or.inl ⟨h, by rw [if_neg (by omega), if_pos h]⟩)
  clear HO
  rcases hc with ⟨h, rfl⟩ | ⟨h, rfl⟩ | ⟨rfl, rfl⟩
  all_goals
    go_enter Tryd.func144, Tryd.ntmps144
    go_wp2_with fail
    refine (HN.out _ _).mono ?_
    rintro e w' ⟨rfl, hw⟩
    obtain rfl := hw.symm
    go_wp2_with fail
    refine (HN.out _ _).mono ?_
    rintro e w' ⟨rfl, hw⟩
    obtain rfl := hw.symm
    go_wp2_with fail
    go_ret
    exact ⟨rfl, rfl⟩

set_option maxRecDepth 20000 in
set_option maxHeartbeats 1000000 in
theorem cmpWord_any (a b : Nat) (w : World) :
    Calls Tryd.prog 145 #[.int .u64 a, .int .u64 b] w fun e w' => e = .returned (.int .i64 (ordN a b)) ∧ w' = w := by
  have HN : Hid (∀ (x : Nat) w, Calls Tryd.prog 147 #[.int .u64 x] w fun e w' => e = .returned (.bool false) ∧ w' = w) := fun x w => by
    have h1 : ((x : Int) != (x : Int)) = false := by simp
    go_enter Tryd.func147, Tryd.ntmps147
    go_wp2_with fail
    go_ret
    exact ⟨rfl, rfl⟩
  obtain ⟨o, HO⟩ : ∃ o, Hid (ordN a b = o) := ⟨_, rfl⟩
  rw [HO.out]
  have hc : (a < b ∧ o = -1) ∨ (b < a ∧ o = 1) ∨ (a = b ∧ o = 0) := by
    rw [← HO.out]; unfold ordN
    rcases Nat.lt_trichotomy a b with h | h | h
    · exact Or.inl ⟨h, if_pos h⟩
    · exact Or.inr (Or.inr ⟨h, by rw [if_neg (by omega), if_neg (by omega)]⟩)
    · exact Or.inr (Or.inl ⟨h, by rw [if_neg (by omega), if_pos h]⟩)
  clear HO
  rcases hc with ⟨h, rfl⟩ | ⟨h, rfl⟩ | ⟨rfl, rfl⟩
  all_goals
    go_enter Tryd.func145, Tryd.ntmps145
    go_wp2_with fail
    refine (HN.out _ _).mono ?_
    rintro e w' ⟨rfl, hw⟩
    obtain rfl := hw.symm
    go_wp2_with fail
    refine (HN.out _ _).mono ?_
    rintro e w' ⟨rfl, hw⟩
    obtain rfl := hw.symm
    go_wp2_with fail
    go_ret
    exact ⟨rfl, rfl⟩

theorem ordN_zero {a b : Nat} : ordN a b = 0 ↔ a = b := by
  unfold ordN
  split
  · constructor
    · intro h; cases h
    · intro h; omega
  · split
    · constructor
      · intro h; cases h
      · intro h; omega
    · constructor
      · intro _; omega
      · intro _; rfl
/-- One group further down. -/
theorem ordN_step {x y j : Nat} (h : x / 1000000000 ^ (j + 1) = y / 1000000000 ^ (j + 1)) : ordN (x / 1000000000 ^ j % 1000000000) (y / 1000000000 ^ j % 1000000000) = ordN (x / 1000000000 ^ j) (y / 1000000000 ^ j) := by
  rw [Nat.pow_succ, ← Nat.div_div_eq_div_mul, ← Nat.div_div_eq_div_mul] at h
  generalize x / 1000000000 ^ j = a at *
  generalize y / 1000000000 ^ j = b at *
  have h1 := Nat.div_add_mod a 1000000000
  have h2 := Nat.div_add_mod b 1000000000
  unfold ordN
  rcases Nat.lt_trichotomy a b with h3 | h3 | h3
  · rw [if_pos h3, if_pos (by omega)]
  · subst h3; rw [if_neg (by omega), if_neg (by omega), if_neg (by omega), if_neg (by omega)]
  · rw [if_neg (by omega), if_pos (by omega), if_neg (by omega), if_pos h3]
/-- What is told by the groups from j on. -/
theorem ordN_end {x y j : Nat} (h : ordN (x / 1000000000 ^ j) (y / 1000000000 ^ j) ≠ 0) : ordN x y = ordN (x / 1000000000 ^ j) (y / 1000000000 ^ j) := by
  unfold ordN at *
  rcases Nat.lt_trichotomy (x / 1000000000 ^ j) (y / 1000000000 ^ j) with h3 | h3 | h3
  · have : x < y := by
      rcases Nat.lt_or_ge x y with h4 | h4
      · exact h4
      · have := Nat.div_le_div_right (c := 1000000000 ^ j) h4; omega
    rw [if_pos h3, if_pos this]
  · exact absurd (by rw [if_neg (by omega), if_neg (by omega)]) h
  · have : y < x := by
      rcases Nat.lt_or_ge y x with h4 | h4
      · exact h4
      · have := Nat.div_le_div_right (c := 1000000000 ^ j) h4; omega
    rw [if_neg (by omega), if_pos this, if_neg (by omega), if_pos h3]
theorem ordN_groups {x y : Nat} (h : ordN (nG x) (nG y) ≠ 0) : ordN x y = ordN (nG x) (nG y) := by
  unfold ordN at *
  rcases Nat.lt_trichotomy (nG x) (nG y) with h3 | h3 | h3
  · rw [if_pos h3, if_pos (nG_lt h3)]
  · exact absurd (by rw [if_neg (by omega), if_neg (by omega)]) h
  · have := nG_lt h3
    rw [if_neg (by omega), if_pos this, if_neg (by omega), if_pos h3]

set_option maxRecDepth 20000 in
set_option maxHeartbeats 2000000 in
theorem compare_any (x y : Nat) (vx vy : Value) (w : World) (hx : NatA w vx (grp x)) (hy : NatA w vy (grp y)) (hnx : nG x ≤ 5000) (hny : nG y ≤ 5000) :
    Calls Tryd.prog 142 #[vx, vy] w fun e w' => e = .returned (.int .i64 (ordN x y)) ∧ Below w.heap.size w w' := by
  have HX := hid hx
  have HY := hid hy
  obtain ⟨xa, xc, rfl⟩ := natA_formR hx
  obtain ⟨ya, yc, rfl⟩ := natA_formR hy
  obtain ⟨G, HG⟩ : ∃ G : Nat, Hid (nG x = G) := ⟨_, rfl⟩
  obtain ⟨K, HK⟩ : ∃ K : Nat, Hid (nG y = K) := ⟨_, rfl⟩
  have HCi := hid (fun w => cmpInt_any G K w)
  have HCw := hid (fun (a b : Nat) w => cmpWord_any a b w)
  simp only [grp_length] at *
  rw [HG.out] at HX hnx ⊢
  rw [HK.out] at HY hny ⊢
  have HGx : Hid (∀ wr, Below w.heap.size w wr → ∀ i, i < G → ∃ b o, xa = some ⟨b, o, none⟩ ∧ wr.cell? ⟨b, o + i, none⟩ = some (.int .u64 ((x / 1000000000 ^ i % 1000000000 : Nat) : Int))) := by
    intro wr hb i hi
    have h := HX.out.below hb (Nat.le_refl _)
    rw [← HG.out] at h hi
    obtain ⟨b, o, cap, e, hc⟩ := natA_get h i hi
    simp only [Value.slice.injEq] at e
    exact ⟨b, o, e.1, hc⟩
  have HGy : Hid (∀ wr, Below w.heap.size w wr → ∀ i, i < K → ∃ b o, ya = some ⟨b, o, none⟩ ∧ wr.cell? ⟨b, o + i, none⟩ = some (.int .u64 ((y / 1000000000 ^ i % 1000000000 : Nat) : Int))) := by
    intro wr hb i hi
    have h := HY.out.below hb (Nat.le_refl _)
    rw [← HK.out] at h hi
    obtain ⟨b, o, cap, e, hc⟩ := natA_get h i hi
    simp only [Value.slice.injEq] at e
    exact ⟨b, o, e.1, hc⟩
  clear hx hy
  by_cases hne : ordN G K = 0
  · have hGK := ordN_zero.1 hne
    subst hGK
    have HXl : Hid (x / 1000000000 ^ G = 0 ∧ y / 1000000000 ^ G = 0) := ⟨Nat.div_eq_of_lt (by rw [← HG.out]; exact lt_pow_nG x), Nat.div_eq_of_lt (by rw [← HK.out]; exact lt_pow_nG y)⟩
    rw [hne] at HCi
    clear hne
    go_enter Tryd.func142, Tryd.ntmps142
    go_wp2_with fail
    refine (HCi.out _).mono ?_
    rintro e w' ⟨rfl, hw⟩
    obtain rfl := hw.symm
    go_wp2_with fail
    go_loopw [5, 6] (fun o i wr => ∃ (j : Nat) (c : Int), j ≤ G ∧ o = .int .i64 c ∧ i = .int .i64 ((j : Int) - 1) ∧ Hid (ordN (x / 1000000000 ^ j) (y / 1000000000 ^ j) = c) ∧ Hid (Below w.heap.size w wr)) (fun _ i _ => (intOf i + 1).toNat)
    case atStart => exact ⟨G, 0, Nat.le_refl _, rfl, rfl, by show _ = _; rw [HXl.out.1, HXl.out.2]; rfl, Below.refl _ _⟩
    case round =>
      obtain ⟨j, c, hj, rfl, rfl, HC, HB⟩ := hrel
      by_cases hc : c = 0
      · subst hc
        have hcb : ((0 : Int) == 0) = true := rfl
        by_cases hj0 : j = 0
        · subst hj0
          have HE : Hid (ordN x y = 0) := by
            have h := HC.out
            rw [Nat.pow_zero, Nat.div_one, Nat.div_one] at h
            exact h
          go_wp2_with fail
          go_ret
          exact ⟨ret_intz (by rw [HE.out]), HB.out⟩
        · obtain ⟨i, rfl⟩ : ∃ i, j = i + 1 := ⟨j - 1, by omega⟩
          have hi1 : ((i + 1 : Nat) : Int) - 1 = (i : Int) := by omega
          rw [hi1]
          obtain ⟨b1, o1, rfl, c1⟩ := HGx.out wr HB.out i (by omega)
          obtain ⟨b2, o2, rfl, c2⟩ := HGy.out wr HB.out i (by omega)
          have HSt := hid (ordN_step (ordN_zero.1 HC.out))
          obtain ⟨g1, hg1⟩ : ∃ g, x / 1000000000 ^ i % 1000000000 = g := ⟨_, rfl⟩
          obtain ⟨g2, hg2⟩ : ∃ g, y / 1000000000 ^ i % 1000000000 = g := ⟨_, rfl⟩
          rw [hg1] at c1 HSt
          rw [hg2] at c2 HSt
          clear hg1 hg2
          have h1 : (0 : Int) ≤ (i : Int) := by omega
          have h2 : (i : Int) < (G : Int) := by omega
          have h3 : (-1 : Int) ≤ (i : Int) - 1 := by omega
          go_wp2_with fail
          go_region_held3 (fun W => W.cell? ⟨b1, o1 + i, none⟩ = some (.int .u64 (g1 : Int)) ∧ W.cell? ⟨b2, o2 + i, none⟩ = some (.int .u64 (g2 : Int)))
            (exact ⟨c1, c2⟩)
            (first
              | (go_at_call 145
                 go_loud (
                 refine (HCw.out _ _ _).mono ?_
                 rintro e w3 ⟨rfl, hw⟩
                 obtain rfl := hw.symm)))
          all_goals
            go_wp2_with fail
            go_roundw
            case rel => exact ⟨i, _, by omega, rfl, rfl, HSt.out.symm, HB.out.drew⟩
            case measure => simp [intOf] <;> omega
      · have hcb : (c == 0) = false := by rw [beq_eq_false_iff_ne]; exact hc
        have HE : Hid (ordN x y = c) := by
          have h := HC.out
          show _ = _
          rw [← h]
          exact ordN_end (by rw [h]; exact hc)
        clear hc
        go_wp2_with fail
        go_ret
        exact ⟨ret_intz (by rw [HE.out]), HB.out⟩
  · have HE := hid (ordN_groups (x := x) (y := y) (by rw [HG.out, HK.out]; exact hne))
    rw [HG.out, HK.out] at HE
    obtain ⟨c, hc⟩ : ∃ c, ordN G K = c := ⟨_, rfl⟩
    rw [hc] at HE HCi hne
    have hcb : (c == 0) = false := by rw [beq_eq_false_iff_ne]; exact hne
    clear hc hne
    go_enter Tryd.func142, Tryd.ntmps142
    go_wp2_with fail
    refine (HCi.out _).mono ?_
    rintro e w' ⟨rfl, hw⟩
    obtain rfl := hw.symm
    go_wp2_with fail
    go_loopw [5, 6] (fun o i wr => o = .int .i64 c ∧ wr = w) (fun _ _ _ => 0)
    case atStart => exact ⟨rfl, rfl⟩
    case round =>
      obtain ⟨rfl, rfl⟩ := hrel
      go_wp2_with fail
      go_ret
      exact ⟨ret_intz (by rw [HE.out]), Below.refl _ _⟩
end Go.Proofs.YtbbffhpppacihaaDoor
