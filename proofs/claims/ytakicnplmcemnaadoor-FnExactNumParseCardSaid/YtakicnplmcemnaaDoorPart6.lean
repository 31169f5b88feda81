/-
  The program's takeMost: how often another natural goes into the groups at a place, which keep what is left. Condition: it goes fewer times than a group holds; its greatest group but one is not nought, its greatest is.
  The program's timesPlus and dividedByGroup. Condition: the groups lie in memory as NatA says, and the factor, what is added, what is divided by are no more than a group.
  The program's scaledUp: a natural times a factor in new groups, one more. Condition: the groups lie in memory as NatA says, the factor is no more than a group.
-/
import Derived.Test.YtakicnplmcemnaaDoorPart5
import Derived.Test.YtakicnplmcemnaaDoorPart2
import Derived.Laws.MakeOwn
import Derived.Laws.CopyOwn
namespace Go.Proofs.YtakicnplmcemnaaDoor
open Go.RowKit Go.Siskin

/-- The guess is not too small. -/
theorem guess_ge {X s m a1 a0 h : Nat} (hm : 0 < m) (hX : X < 1000000000 * s) (hs : s < 1000000000 ^ m) (h1 : X / 1000000000 ^ m % 1000000000 = a1) (h0 : X / 1000000000 ^ (m - 1) % 1000000000 = a0) (hh : s / 1000000000 ^ (m - 1) % 1000000000 = h) (hpos : 1000000000 ^ (m - 1) ≤ s) :
    0 < h ∧ X / s ≤ (a1 * 1000000000 + a0) / h ∧ X / s ≤ 999999999 := by
  obtain ⟨k, rfl⟩ : ∃ k, m = k + 1 := ⟨m - 1, by omega⟩
  rw [Nat.add_sub_cancel] at *
  have hP := p9pos k
  rw [Nat.pow_succ] at hs h1
  have hs2 : s / 1000000000 ^ k < 1000000000 := Nat.div_lt_of_lt_mul hs
  rw [Nat.mod_eq_of_lt hs2] at hh
  have hspos : 0 < s := by omega
  have hh0 : 0 < h := by rw [← hh]; exact Nat.div_pos hpos hP
  rw [← Nat.div_div_eq_div_mul] at h1
  have hXk : X / 1000000000 ^ k = a1 * 1000000000 + a0 := by
    have h2 : X / 1000000000 ^ k / 1000000000 < 1000000000 := by
      refine Nat.div_lt_of_lt_mul (Nat.div_lt_of_lt_mul ?_)
      have : 1000000000 * s ≤ 1000000000 * (1000000000 ^ k * 1000000000) := Nat.mul_le_mul_left _ (Nat.le_of_lt hs)
      have e : 1000000000 ^ k * (1000000000 * 1000000000) = 1000000000 * (1000000000 ^ k * 1000000000) := by ac_rfl
      omega
    rw [Nat.mod_eq_of_lt h2] at h1
    rw [← h1, ← h0]; omega
  refine ⟨hh0, ?_, ?_⟩
  · rw [← hXk, Nat.div_div_eq_div_mul]
    refine Nat.div_le_div_left ?_ (Nat.mul_pos hP hh0)
    rw [← hh]; exact Nat.mul_div_le s _
  · have := Nat.div_lt_of_lt_mul (show X < s * 1000000000 by rw [Nat.mul_comm]; exact hX)
    omega

theorem ow_le {G s m Y X ow : Nat} (hG : G ≤ 999999999) (hs : s < 1000000000 ^ m) (h : Y + G * s = X + ow * 1000000000 ^ (m + 1)) (hY : Y < 1000000000 ^ (m + 1)) : ow ≤ 1 := by
  rw [Nat.pow_succ] at *
  generalize 1000000000 ^ m = P at *
  have h1 : G * s ≤ 999999999 * P := Nat.mul_le_mul hG (Nat.le_of_lt hs)
  rcases Nat.lt_or_ge ow 2 with h2 | h2
  · omega
  · exfalso
    have h3 : 2 * (P * 1000000000) ≤ ow * (P * 1000000000) := Nat.mul_le_mul_right _ h2
    omega
theorem low_high (V i Y : Nat) : (V % 1000000000 ^ i + 1000000000 ^ i * Y) / 1000000000 ^ i = Y ∧ (V % 1000000000 ^ i + 1000000000 ^ i * Y) % 1000000000 ^ i = V % 1000000000 ^ i := by
  have hP := p9pos i
  have hl := Nat.mod_lt V hP
  generalize 1000000000 ^ i = P at *
  constructor
  · rw [Nat.add_mul_div_left _ _ hP, Nat.div_eq_of_lt hl, Nat.zero_add]
  · rw [Nat.add_mul_mod_self_left, Nat.mod_eq_of_lt hl]
theorem low_lt {V i Y mm : Nat} (hY : Y < 1000000000 ^ mm) : V % 1000000000 ^ i + 1000000000 ^ i * Y < 1000000000 ^ (i + mm) := by
  have hl := Nat.mod_lt V (p9pos i)
  rw [Nat.pow_add]
  generalize 1000000000 ^ i = P at *
  have h := Nat.mul_le_mul_left P (Nat.succ_le_of_lt hY)
  rw [Nat.succ_eq_add_one, Nat.mul_add, Nat.mul_one] at h
  omega
theorem give_down {Y g s X Q : Nat} (h : Y + g * s = X + 1 * Q) (hY : Y < Q) : 1 ≤ g ∧ X / s ≤ g - 1 := by
  have h1 : X < g * s := by omega
  have hg : 1 ≤ g := by
    rcases Nat.eq_zero_or_pos g with h2 | h2
    · subst h2; rw [Nat.zero_mul] at h1; omega
    · exact h2
  refine ⟨hg, ?_⟩
  have := Nat.div_lt_of_lt_mul (show X < s * g by rw [Nat.mul_comm]; exact h1)
  omega
theorem ca_le {Y2 ca Q Y s : Nat} (h : Y2 + ca * Q = Y + s) (hY : Y < Q) (hs : s < Q) : ca ≤ 1 := by
  rcases Nat.lt_or_ge ca 2 with h2 | h2
  · omega
  · exfalso
    have h3 : 2 * Q ≤ ca * Q := Nat.mul_le_mul_right _ h2
    omega
theorem give_eq {Y2 ca Q Y s g X : Nat} (h : Y + g * s = X + 1 * Q) (h2 : Y2 + ca * Q = Y + s) (hg : 1 ≤ g) (hca : ca ≤ 1) : Y2 + (g - 1) * s = X + (1 - ca) * Q := by
  obtain ⟨k, rfl⟩ : ∃ k, g = k + 1 := ⟨g - 1, by omega⟩
  rw [Nat.add_sub_cancel]
  rw [Nat.add_mul, Nat.one_mul] at h
  rcases Nat.lt_or_ge ca 1 with h3 | h3
  · have : ca = 0 := by omega
    subst this
    rw [Nat.zero_mul] at h2
    rw [Nat.sub_zero]; omega
  · have : ca = 1 := by omega
    subst this
    rw [Nat.sub_self, Nat.zero_mul]; omega
theorem most_end {Y g s X : Nat} (h : Y + g * s = X) (hg : X / s ≤ g) (hs : 0 < s) : X / s = g ∧ X % s = Y := by
  have h1 : g ≤ X / s := (Nat.le_div_iff_mul_le hs).2 (by omega)
  have h2 : X / s = g := by omega
  refine ⟨h2, ?_⟩
  have h3 := Nat.div_add_mod X s
  rw [h2, Nat.mul_comm] at h3
  omega

set_option maxRecDepth 20000 in
set_option maxHeartbeats 4000000 in
theorem takeMost_any (M V s b i m nl nc : Nat) (vs : Value) (w : World) (hG : GrA w b (grpN M V)) (hs : RowOf .u64 (fun k => k ≠ b) w vs (grpN (m + 1) s)) (him : i + (m + 1) ≤ M) (hnl : m + 1 ≤ nl) (hnc : nl ≤ nc) (hncm : nc ≤ 1000000)
    (hm : 0 < m) (hX : V / 1000000000 ^ i < 1000000000 * s) (hsl : s < 1000000000 ^ m) (hsp : 1000000000 ^ (m - 1) ≤ s) :
    Calls Tryd.prog 104 #[.slice (some ⟨b, i, none⟩) nl nc, vs] w fun e w' => e = .returned (.int .u64 ((V / 1000000000 ^ i / s : Nat) : Int)) ∧ GrA w' b (grpN M (V % 1000000000 ^ i + 1000000000 ^ i * (V / 1000000000 ^ i % s))) ∧ Wr b w w' := by
  have HS := hid hs
  have HG := hid hG
  have HSl := hid hsl
  have HIM := hid him
  have hsl1 : s < 1000000000 ^ (m + 1) := Nat.lt_of_lt_of_le hsl (Nat.pow_le_pow_right (by decide) (Nat.le_succ m))
  have hVl : V < 1000000000 ^ (i + (m + 1)) := by
    have h1 := Nat.div_add_mod V (1000000000 ^ i)
    have h2 := Nat.mod_lt V (p9pos i)
    rw [Nat.pow_add, Nat.pow_succ]
    have h3 : V / 1000000000 ^ i + 1 ≤ 1000000000 ^ m * 1000000000 := by
      have : 1000000000 * s ≤ 1000000000 * 1000000000 ^ m := Nat.mul_le_mul_left _ (Nat.le_of_lt hsl)
      rw [Nat.mul_comm (1000000000 ^ m)]; omega
    have h4 := Nat.mul_le_mul_left (1000000000 ^ i) h3
    rw [Nat.mul_add, Nat.mul_one] at h4
    omega
  have HSl1 := hid hsl1
  have HVl := hid hVl
  obtain ⟨sa, sc, e0, q1, q2, q3⟩ := hs
  subst e0
  rw [grpN_length] at *
  unfold maxLen at q2
  have hGlen := grpN_length M V
  have g1 := hG.get (i + m) (by rw [grpN_length]; omega)
  have g0 := hG.get (i + (m - 1)) (by rw [grpN_length]; omega)
  rw [grpN_get] at g1 g0
  rcases q3 with h | ⟨b', o', rfl, hne, hc⟩
  · have := congrArg List.length h; rw [grpN_length] at this; simp at this
  have gs := hc (m - 1) (by rw [grpN_length]; omega)
  rw [grpN_get] at gs
  obtain ⟨X, HXX⟩ : ∃ X : Nat, Hid (V / 1000000000 ^ i = X) := ⟨_, rfl⟩
  have e1 : V / 1000000000 ^ (i + m) = X / 1000000000 ^ m := by rw [Nat.pow_add, ← Nat.div_div_eq_div_mul, HXX.out]
  have e2 : V / 1000000000 ^ (i + (m - 1)) = X / 1000000000 ^ (m - 1) := by rw [Nat.pow_add, ← Nat.div_div_eq_div_mul, HXX.out]
  rw [e1] at g1
  rw [e2] at g0
  rw [HXX.out] at hX ⊢
  obtain ⟨a1, HA1⟩ : ∃ a : Nat, Hid (X / 1000000000 ^ m % 1000000000 = a) := ⟨_, rfl⟩
  obtain ⟨a0, HA0⟩ : ∃ a : Nat, Hid (X / 1000000000 ^ (m - 1) % 1000000000 = a) := ⟨_, rfl⟩
  obtain ⟨h, HH⟩ : ∃ a : Nat, Hid (s / 1000000000 ^ (m - 1) % 1000000000 = a) := ⟨_, rfl⟩
  have hgu := guess_ge hm hX hsl HA1.out HA0.out HH.out hsp
  rw [HA1.out] at g1
  rw [HA0.out] at g0
  rw [HH.out] at gs
  have ha1 : a1 < 1000000000 := by rw [← HA1.out]; exact Nat.mod_lt _ (by decide)
  have ha0 : a0 < 1000000000 := by rw [← HA0.out]; exact Nat.mod_lt _ (by decide)
  have hh9 : h < 1000000000 := by rw [← HH.out]; exact Nat.mod_lt _ (by decide)
  have hh0 := hgu.1
  have hhn : ((h : Int) == 0) = false := by rw [beq_eq_false_iff_ne]; omega
  obtain ⟨G, HGG⟩ : ∃ G : Nat, Hid (min ((a1 * 1000000000 + a0) / h) 999999999 = G) := ⟨_, rfl⟩
  have HGge : Hid (X / s ≤ G) := by show _ ≤ _; rw [← HGG.out]; exact Nat.le_min.2 hgu.2
  have hG9 : G ≤ 999999999 := by rw [← HGG.out]; exact Nat.min_le_right _ _
  obtain ⟨m', HM'⟩ : ∃ m' : Nat, Hid (m - 1 = m') := ⟨_, rfl⟩
  have hm' : m = m' + 1 := by have := HM'.out; omega
  rw [HM'.out] at g0 gs
  have HXl := hid hX
  have hmI : ((m : Int) + 1 - 1) = (m : Int) := by omega
  have hmI2 : (m : Int) - 1 = (m' : Int) := by omega
  have hn1 : (m : Int) < (nl : Int) := by omega
  have hn2 : (m' : Int) < (nl : Int) := by omega
  have hn3 : (m' : Int) < (m : Int) + 1 := by omega
  have hnz : ¬ h = 0 := by omega
  have hwm : IntKind.i64.wrap (m' : Int) = (m' : Int) := by simp [IntKind.wrap, IntKind.bits, IntKind.signed]; omega
  obtain ⟨p, HPp⟩ : ∃ p : Nat, Hid (a1 * 1000000000 = p) := ⟨_, rfl⟩
  obtain ⟨y, HY⟩ : ∃ y : Nat, Hid (p + a0 = y) := ⟨_, rfl⟩
  have hp18 : p ≤ 1000000000000000000 := by rw [← HPp.out]; omega
  have hy18 : y ≤ 2000000000000000000 := by rw [← HY.out]; omega
  have hwa : IntKind.u64.wrap ((a1 : Int) * 1000000000) = (p : Int) := by rw [← HPp.out]; simp [IntKind.wrap, IntKind.bits, IntKind.signed]; omega
  have hwb : IntKind.u64.wrap ((p : Int) + (a0 : Int)) = (y : Int) := by rw [← HY.out]; simp [IntKind.wrap, IntKind.bits, IntKind.signed]; omega
  obtain ⟨q, HQ⟩ : ∃ q : Nat, Hid (y / h = q) := ⟨_, rfl⟩
  have hq18 : q ≤ 2000000000000000000 := by rw [← HQ.out]; exact Nat.le_trans (Nat.div_le_self _ _) hy18
  have hwc : (y : Int) / (h : Int) = (q : Int) := by rw [← HQ.out, Int.natCast_ediv]
  have hwd : (y : Int).tdiv (h : Int) = (q : Int) := by rw [Int.tdiv_eq_ediv_of_nonneg (by omega), hwc]
  have hwe : IntKind.u64.wrap (q : Int) = (q : Int) := by simp [IntKind.wrap, IntKind.bits, IntKind.signed]; omega
  have HGq : Hid (min q 999999999 = G) := by show _ = _; rw [← HGG.out, ← HQ.out, ← HY.out, ← HPp.out]
  have hmin : (if (999999999 : Int) < (q : Int) then (999999999 : Int) else (q : Int)) = (G : Int) := by
    have h := HGq.out
    rw [Nat.min_def] at h
    split at h <;> split <;> omega
  clear hG hc hGlen e1 e2 hgu hsl hsl1 hVl hsp him hX hm'
  go_enter Tryd.func104, Tryd.ntmps104
  go_wp2_with fail
  go_region_law (fail)
  all_goals
    go_wp2_with fail
    refine (take_any M V s b i (m + 1) nl nc G _ w.drew HG.out HS.out HIM.out hnl hnc hncm (by omega) HVl.out HSl1.out).mono ?_
    rintro e w1 ⟨Y0, ow, rfl, hG1, hY1, hE1, hW1⟩
    rw [HXX.out] at hE1
    have HG1 := hid hG1
    have HY1 := hid hY1
    have HE1 := hid hE1
    have HW1 : Hid (Wr b w w1) := (Wr.refl b w).drew.trans hW1
    have how : ow ≤ 1 := ow_le hG9 HSl.out HE1.out HY1.out
    clear hG1 hY1 hE1 hW1
    go_wp2_with fail
    go_loopw [6, 7] (fun gu sh wr => ∃ (g Y c : Nat), gu = .int .u64 g ∧ sh = .bool (decide (0 < c)) ∧ g ≤ 999999999 ∧ c ≤ 1 ∧ Hid (X / s ≤ g) ∧ Hid (Y < 1000000000 ^ (m + 1)) ∧ Hid (GrA wr b (grpN M (V % 1000000000 ^ i + 1000000000 ^ i * Y))) ∧ Hid (Y + g * s = X + c * 1000000000 ^ (m + 1)) ∧ Hid (Wr b w wr)) (fun gu _ _ => (intOf gu).toNat)
    case atStart => exact ⟨G, Y0, ow, rfl, rfl, hG9, how, HGge, HY1, HG1, HE1, HW1⟩
    case round =>
      obtain ⟨g, Y, c, rfl, rfl, hg9, hc1, HGe, HYl, HGr, HEq, HWr⟩ := hrel
      by_cases hc : 0 < c
      · have hc' : c = 1 := by omega
        subst hc'
        have HV1 : Hid ((V % 1000000000 ^ i + 1000000000 ^ i * Y) / 1000000000 ^ i = Y ∧ (V % 1000000000 ^ i + 1000000000 ^ i * Y) % 1000000000 ^ i = V % 1000000000 ^ i) := low_high V i Y
        have HV1l : Hid (V % 1000000000 ^ i + 1000000000 ^ i * Y < 1000000000 ^ (i + (m + 1))) := low_lt HYl.out
        have HRow : Hid (RowOf .u64 (fun k => k ≠ b) wr (.slice (some ⟨b', o', none⟩) (m + 1) sc) (grpN (m + 1) s)) := RowOf.keep HS.out HWr.out.2.1
        have hgd := give_down HEq.out HYl.out
        have hg1 : 1 ≤ g := hgd.1
        have HGd := hid hgd.2
        clear hc hgd
        go_wp2_with fail
        refine (give_any M _ s b i (m + 1) nl nc _ _ HGr.out HRow.out HIM.out hnl hnc hncm HV1l.out HSl1.out).mono ?_
        rintro e w2 ⟨Y2, ca, rfl, hG2, hY2, hE2, hW2⟩
        rw [HV1.out.1] at hE2
        rw [HV1.out.2] at hG2
        have hca : ca ≤ 1 := ca_le hE2 HYl.out HSl1.out
        have HG2 := hid hG2
        have HY2 := hid hY2
        have HE2 := hid hE2
        have HW2 := hid (HWr.out.trans hW2)
        clear hG2 hY2 hE2 hW2
        go_wp2_with fail
        refine ⟨⟨g - 1, Y2, 1 - ca, by congr 1; omega, ?_, by omega, by omega, HGd.out, HY2, HG2, give_eq HEq.out HE2.out hg1 hca, HW2⟩, by simp [intOf]; omega⟩
        congr 1
        by_cases h0 : ca = 0
        · subst h0; rfl
        · have : ca = 1 := by omega
          subst this; rfl
      · have hc' : c = 0 := by omega
        subst hc'
        have HE0 : Hid (Y + g * s = X) := by show _ = _; have h := HEq.out; rw [Nat.zero_mul, Nat.add_zero] at h; exact h
        have HFin := hid (most_end HE0.out HGe.out (by have := HXl.out; omega))
        go_wp2_with fail
        go_ret
        refine ⟨ret_intz (by rw [HFin.out.1]), ?_, HWr.out⟩
        rw [HFin.out.2]
        exact HGr.out
end Go.Proofs.YtakicnplmcemnaaDoor

namespace Go.Proofs.YtakicnplmcemnaaDoor
open Go.RowKit Go.Siskin

/-- 'make([]T, 0, n)' at the operation: a row of the call's own. -/
theorem wpList_make_room {P : Program} (w : World) {ops : Array Oper} {rest : List Oper} {o : Oper} {a : Act} {Q : Exit → Act → World → Prop}
    (hg : o.guard = none) (l c : Operand) (t : TypeId) (hop : o.op = Op.makeSlice t l c) (base : Nat)
    (e : TypeId) (i : TypeInfo) (z : Value) (size : Nat) (h1 : P.underlying t = some (.slice e)) (h2 : P.info? e = some i) (h3 : i.zero = some z) (h4 : i.size = size)
    (kl kc : IntKind) (n : Nat) (hl : a.eval l = .int kl 0) (hc : a.eval c = .int kc (n : Int)) (b2 : i.bytes * n ≤ 281474976710656) (b3 : n ≤ maxLen) (hb : base ≤ w.heap.size)
    (hK : ∀ w', w'.ownsRow base e size (.slice (some ⟨w.heap.size, 0, none⟩) 0 n) 0 [] → w.grownBy w' none → wpList P ops Q rest (a.put o.dst (.slice (some ⟨w.heap.size, 0, none⟩) 0 n)) w') :
    wpList P ops Q (o :: rest) a w := by
  refine wpList_plain hg fun K hK' => ?_
  obtain ⟨w', hr, h5, h6⟩ := run_make_own (P := P) w base t e i z size h1 h2 h3 h4 kl kc n b2 b3 hb
  unfold Oper.wp
  simp [execOp, hop, hl, hc, hr, Result.andThen]
  exact hK' _ _ (hK w' h5 h6)

theorem tp_step (x f m k : Nat) : ((x % 1000000000 ^ k) * f + m) / 1000000000 ^ k + x / 1000000000 ^ k % 1000000000 * f = ((x % 1000000000 ^ (k + 1)) * f + m) / 1000000000 ^ k ∧
    ((x % 1000000000 ^ (k + 1)) * f + m) / 1000000000 ^ k % 1000000000 = (x * f + m) / 1000000000 ^ k % 1000000000 ∧
    ((x % 1000000000 ^ (k + 1)) * f + m) / 1000000000 ^ k / 1000000000 = ((x % 1000000000 ^ (k + 1)) * f + m) / 1000000000 ^ (k + 1) := by
  have hP := p9pos k
  refine ⟨?_, ?_, ?_⟩
  · rw [Nat.mod_pow_succ]
    generalize 1000000000 ^ k = P at *
    generalize x / P % 1000000000 = g
    have e : (x % P + P * g) * f + m = P * (g * f) + (x % P * f + m) := by rw [Nat.add_mul, Nat.mul_assoc]; omega
    rw [e, Nat.mul_add_div hP]; omega
  · have hx := Nat.div_add_mod x (1000000000 ^ (k + 1))
    rw [Nat.pow_succ] at hx ⊢
    generalize 1000000000 ^ k = P at *
    generalize x % (P * 1000000000) = r at *
    generalize x / (P * 1000000000) = q at *
    have e : x * f + m = P * (1000000000 * (q * f)) + (r * f + m) := by
      rw [← hx, Nat.add_mul, Nat.mul_assoc, Nat.mul_assoc, Nat.add_assoc]
    rw [e, Nat.mul_add_div hP, Nat.mul_add_mod]
  · rw [Nat.div_div_eq_div_mul, ← Nat.pow_succ]
theorem tp_lt {x f m k : Nat} (hf : f ≤ 1000000000) (hm : m < 1000000000) : ((x % 1000000000 ^ k) * f + m) / 1000000000 ^ k < 1000000000 := by
  have hP := p9pos k
  refine Nat.div_lt_of_lt_mul ?_
  have hx := Nat.mod_lt x hP
  generalize x % 1000000000 ^ k = r at *
  generalize 1000000000 ^ k = P at *
  have h1 : r * f ≤ (P - 1) * 1000000000 := Nat.mul_le_mul (by omega) hf
  rw [Nat.sub_mul] at h1
  have h2 : 1 * 1000000000 ≤ P * 1000000000 := Nat.mul_le_mul_right _ hP
  omega

theorem natA_formR {w : World} {v : Value} {gs : List Nat} (h : NatA w v gs) : ∃ a cap, v = .slice a gs.length cap := by
  obtain ⟨a, cap, e, -⟩ := h
  exact ⟨a, cap, e⟩

set_option maxRecDepth 20000 in
set_option maxHeartbeats 2000000 in
theorem timesPlus_any (x f m : Nat) (v : Value) (w : World) (h : NatA w v (grp x)) (hn : nG x ≤ 100000) (hf : f ≤ 1000000000) (hm : m < 1000000000) :
    Calls Tryd.prog 101 #[v, .int .u64 f, .int .u64 m] w fun e w' => ∃ u, e = .returned u ∧ NatA w' u (grp (x * f + m)) ∧ Below w.heap.size w w' := by
  have HNA := hid h
  obtain ⟨a, cap, rfl, h1, h2, h3⟩ := h
  rw [grp_length] at *
  unfold maxLen at h2
  have HG3 := hid h3
  have HF := hid hf
  have HM := hid hm
  obtain ⟨G, HG⟩ : ∃ G : Nat, Hid (nG x = G) := ⟨_, rfl⟩
  rw [HG.out] at h1 hn ⊢
  have HGet : Hid (∀ wr, Below w.heap.size w wr → ∀ i, i < G → ∃ b o, a = some ⟨b, o, none⟩ ∧ wr.cell? ⟨b, o + i, none⟩ = some (.int .u64 ((x / 1000000000 ^ i % 1000000000 : Nat) : Int))) := by
    intro wr hb i hi
    rcases HG3.out with h | ⟨b, o, e, hlt, hc⟩
    · have := congrArg List.length h; rw [grp_length, HG.out] at this; simp at this; omega
    · refine ⟨b, o, e, ?_⟩
      rw [hb.cell (p := ⟨b, o + i, none⟩) hlt, hc i (by rw [grp_length, HG.out]; exact hi)]
      unfold grp; rw [grpN_get]
  obtain ⟨i0, hi, hz0, hz1, hz2⟩ := info_partsZ Tryd.infoWordZ
  have Hi := hid hi
  have Hz0 := hid hz0
  have Hz1 := hid hz1
  have Hz2 := hid hz2
  clear hi hz0 hz1 hz2 h3
  go_enter Tryd.func101, Tryd.ntmps101
  go_wp2_with (at_make; go_loud (refine wpList_make_room _ rfl _ _ 44 rfl w.heap.size 52 i0 (.int .u64 0) 1 Tryd.underlying44 Hi.out Hz0.out Hz1.out .i64 .i64 (G + 1) rfl (by rfl) (by rw [Hz2.out]; omega) (by unfold maxLen; omega) (Nat.le_refl _) ?_; intro w1 hown hgr))
  have HOwn := hid hown
  have HGr := hid hgr
  have hs1 := hgr.size
  clear hown hgr
  go_loopw [2, 7, 16] (fun mo pr i wr => ∃ (k y : Nat) (ua : Option Addr) (uc : Nat), i = .int .i64 k ∧ mo = .int .u64 y ∧ pr = .slice ua k uc ∧ Hid (((x % 1000000000 ^ k) * f + m) / 1000000000 ^ k = y) ∧ y < 1000000000 ∧ k ≤ G ∧ Hid (wr.ownsRow w.heap.size 52 1 (.slice ua k uc) k (numL .u64 (grpN k (x * f + m)))) ∧ Hid (Below w.heap.size w wr)) (fun _ _ i _ => G - (intOf i).toNat)
  case atStart => exact ⟨0, m, _, _, rfl, rfl, rfl, by show _ = _; simp [Nat.mod_one], hm, Nat.zero_le _, HOwn.out, (Below.refl _ _).grown HGr.out (Nat.le_refl _) (fun k e => by cases e)⟩
  case round =>
    obtain ⟨k, y, ua, uc, rfl, rfl, rfl, HY, hy9, hk, HU, HB⟩ := hrel
    have hsz := HB.out.size
    by_cases hlt : k < G
    · obtain ⟨b, o, hab, g0⟩ := HGet.out wr HB.out k hlt
      subst hab
      obtain ⟨g, HGg⟩ : ∃ g : Nat, Hid (x / 1000000000 ^ k % 1000000000 = g) := ⟨_, rfl⟩
      have hg9 : g < 1000000000 := by rw [← HGg.out]; exact Nat.mod_lt _ (by decide)
      rw [HGg.out] at g0
      have hst := tp_step x f m k
      rw [HY.out, HGg.out] at hst
      obtain ⟨z, HZ⟩ : ∃ z : Nat, Hid (y + g * f = z) := ⟨_, rfl⟩
      rw [HZ.out] at hst
      have HST := hid hst
      have hgf : g * f ≤ 999999999 * 1000000000 := Nat.mul_le_mul (by omega) HF.out
      have hzl : z ≤ 1000000000000000000 := by rw [← HZ.out]; omega
      have hval : IntKind.u64.wrap ((y : Int) + IntKind.u64.wrap ((g : Int) * (f : Int))) = (z : Int) := by
        have e4 : (g : Int) * (f : Int) = ((g * f : Nat) : Int) := by simp
        rw [e4]
        have hz := HZ.out
        generalize g * f = q at *
        have e5 : IntKind.u64.wrap (q : Int) = (q : Int) := by simp [IntKind.wrap, IntKind.bits, IntKind.signed]; omega
        rw [e5]
        simp [IntKind.wrap, IntKind.bits, IntKind.signed]; omega
      have hw1 : IntKind.u64.wrap ((z : Int).tmod 1000000000) = (z : Int) % 1000000000 := by
        rw [Int.tmod_eq_emod_of_nonneg (by omega)]; simp [IntKind.wrap, IntKind.bits, IntKind.signed]; omega
      have hw2 : IntKind.u64.wrap ((z : Int).tdiv 1000000000) = (z : Int) / 1000000000 := by
        rw [Int.tdiv_eq_ediv_of_nonneg (by omega)]; simp [IntKind.wrap, IntKind.bits, IntKind.signed]; omega
      have HY2 : Hid (((x % 1000000000 ^ (k + 1)) * f + m) / 1000000000 ^ (k + 1) = z / 1000000000) := by
        show _ = _; rw [← HST.out.2.2, ← HST.out.1]
      have HY3 : Hid (z / 1000000000 < 1000000000) := by show _ < _; rw [← HY2.out]; exact tp_lt HF.out HM.out
      clear hst hgf
      go_wp2_with (at_builtin; go_loud (refine wpList_append_lies _ rfl _ _ _ rfl w.heap.size 52 i0 (.int .u64 0) 1 8 Tryd.underlying44 Hi.out Hz0.out Hz1.out Hz2.out rfl (by decide) _ k (numL .u64 (grpN k (x * f + m))) rfl (HU.out.alloc _) ⟨wr.heap.size, 0, none⟩ 1 1 [.int .u64 ((z : Int) % 1000000000)] rfl rfl (cell_one_newZ _ _ _) (by simp [Value.oneCell']) (by omega) (by unfold maxLen; omega) (by omega) (by simp; omega) (wr.heap.size + 1) (by simp) ?_; intro gg cc w4 hown' hg hat hgl; have hall := (World.grownBy_alloc wr _ _).trans hg))
      have hlow : ∀ g, (Value.slice ua k uc).ownBlock = some g → w.heap.size ≤ g := fun g e => (HU.out.lt g e).1
      have e2 : (((x * f + m) / 1000000000 ^ k % 1000000000 : Nat) : Int) = (z : Int) % 1000000000 := by rw [← HST.out.2.1, ← HST.out.1]; omega
      refine ⟨⟨k + 1, z / 1000000000, some ⟨gg, 0, none⟩, cc, by go_num, by congr 1, rfl, HY2.out, HY3.out, by omega, ?_, HB.out.grown hall hsz hlow⟩, by simp [intOf]; omega⟩
      show World.ownsRow _ _ _ _ _ _ _
      rw [grpN_snoc, numL_snoc, e2]
      exact hown'
    · have hkG : k = G := by omega
      subst hkG
      have HYe : Hid ((x * f + m) / 1000000000 ^ k = y) := by
        have h := HY.out
        rw [Nat.mod_eq_of_lt (by rw [← HG.out]; exact lt_pow_nG x)] at h
        exact h
      have HE : Hid ((x * f + m) / 1000000000 ^ k % 1000000000 = y) := by show _ = _; rw [HYe.out]; exact Nat.mod_eq_of_lt hy9
      have HT := hid (fun v w hv => trimmed_any (k + 1) (x * f + m) v w hv (by
        rw [Nat.pow_succ]
        have h := HYe.out
        have hP := p9pos k
        generalize 1000000000 ^ k = P at *
        have h2 := Nat.div_add_mod (x * f + m) P
        have h3 := Nat.mod_lt (x * f + m) hP
        rw [h] at h2
        have h4 : P * y ≤ P * 999999999 := Nat.mul_le_mul_left _ (by omega)
        omega))
      go_wp2_with (at_builtin; go_loud (refine wpList_append_lies _ rfl _ _ _ rfl w.heap.size 52 i0 (.int .u64 0) 1 8 Tryd.underlying44 Hi.out Hz0.out Hz1.out Hz2.out rfl (by decide) _ k (numL .u64 (grpN k (x * f + m))) rfl (HU.out.alloc _) ⟨wr.heap.size, 0, none⟩ 1 1 [.int .u64 (y : Int)] rfl rfl (cell_one_newZ _ _ _) (by simp [Value.oneCell']) (by omega) (by unfold maxLen; omega) (by omega) (by simp; omega) (wr.heap.size + 1) (by simp) ?_; intro gg cc w4 hown' hg hat hgl; have hall := (World.grownBy_alloc wr _ _).trans hg))
      have hlow : ∀ g, (Value.slice ua k uc).ownBlock = some g → w.heap.size ≤ g := fun g e => (HU.out.lt g e).1
      have HB4 := hid (HB.out.grown hall hsz hlow)
      have HN4 : Hid (NatA w4 (.slice (some ⟨gg, 0, none⟩) (k + 1) cc) (grpN (k + 1) (x * f + m))) := by
        refine natA_own (base := w.heap.size) (n := k + 1) (e := 52) ?_
        rw [grpN_snoc, numL_snoc, HE.out]
        exact hown'
      refine (HT.out _ _ HN4.out).mono ?_
      rintro e w' ⟨u, rfl, hu, hw⟩
      obtain rfl := hw.symm
      have HU2 := hid hu
      clear hu
      obtain ⟨ra, rc, rfl⟩ := natA_formR HU2.out
      clear hown' hg hat hall hlow
      go_wp2_with fail
      go_ret
      exact ⟨_, rfl, HU2.out, HB4.out⟩

/-- Dividing by a group. -/
theorem db_set (x by' M j : Nat) : grpN M (x / 1000000000 ^ j / by' * 1000000000 ^ j) = (grpN M (x / 1000000000 ^ (j + 1) / by' * 1000000000 ^ (j + 1))).set j (x / 1000000000 ^ j / by' % 1000000000) := by
  have hP := p9pos j
  apply List.ext_getElem
  · simp [grpN]
  · intro t h1 h2
    rw [grpN_get, List.getElem_set]
    by_cases ht : j = t
    · subst ht
      rw [if_pos rfl, Nat.mul_div_cancel _ hP]
    · rw [if_neg ht, grpN_get]
      rcases Nat.lt_or_ge t j with h | h
      · obtain ⟨s, hs⟩ : ∃ s, j = t + (s + 1) := ⟨j - t - 1, by omega⟩
        have e : ∀ y n : Nat, y * 1000000000 ^ (t + (n + 1)) / 1000000000 ^ t % 1000000000 = 0 := by
          intro y n
          rw [Nat.pow_add, Nat.mul_comm (1000000000 ^ t), ← Nat.mul_assoc, Nat.mul_div_cancel _ (p9pos t), Nat.pow_succ, ← Nat.mul_assoc, Nat.mul_mod_left]
        rw [hs, e, show t + (s + 1) + 1 = t + ((s + 1) + 1) by omega, e]
      · obtain ⟨s, hs⟩ : ∃ s, t = j + 1 + s := ⟨t - j - 1, by omega⟩
        rw [hs, Nat.pow_add, ← Nat.div_div_eq_div_mul, ← Nat.div_div_eq_div_mul, Nat.mul_div_cancel _ (p9pos (j + 1))]
        rw [Nat.pow_succ, ← Nat.div_div_eq_div_mul, ← Nat.div_div_eq_div_mul, Nat.mul_div_cancel _ hP]
        congr 2
        simp only [Nat.div_div_eq_div_mul]
        congr 1
        ac_rfl
theorem db_step (x by' j : Nat) (hb : 0 < by') : (x / 1000000000 ^ (j + 1) % by' * 1000000000 + x / 1000000000 ^ j % 1000000000) / by' = x / 1000000000 ^ j / by' % 1000000000 ∧
    (x / 1000000000 ^ (j + 1) % by' * 1000000000 + x / 1000000000 ^ j % 1000000000) % by' = x / 1000000000 ^ j % by' := by
  rw [Nat.pow_succ, ← Nat.div_div_eq_div_mul]
  generalize x / 1000000000 ^ j = y
  have h1 := Nat.div_add_mod (y / 1000000000) by'
  have h2 := Nat.mod_lt (y / 1000000000) hb
  generalize y / 1000000000 / by' = q at *
  generalize y / 1000000000 % by' = r at *
  have h3 : y = by' * (1000000000 * q) + (r * 1000000000 + y % 1000000000) := by
    have e : by' * (1000000000 * q) = 1000000000 * (by' * q) := by rw [← Nat.mul_assoc, Nat.mul_comm by', Nat.mul_assoc]
    omega
  have h4 : r * 1000000000 + y % 1000000000 < by' * 1000000000 := by omega
  have h5 : (r * 1000000000 + y % 1000000000) / by' < 1000000000 := Nat.div_lt_of_lt_mul h4
  generalize hz : r * 1000000000 + y % 1000000000 = z at *
  constructor
  · have e : y / by' = 1000000000 * q + z / by' := by rw [h3, Nat.mul_add_div hb]
    rw [e, Nat.mul_add_mod, Nat.mod_eq_of_lt h5]
  · have e : y % by' = z % by' := by
      have e2 : y % by' = (by' * (1000000000 * q) + z) % by' := congrArg (· % by') h3
      rw [e2, Nat.mul_add_mod]
    rw [e]

theorem rowOf_formR {k : IntKind} {B : Nat → Prop} {w : World} {v : Value} {gs : List Nat} (h : RowOf k B w v gs) : ∃ a cap, v = .slice a gs.length cap := by
  obtain ⟨a, cap, e, -⟩ := h
  exact ⟨a, cap, e⟩
theorem GrA.rowEq {w : World} {b cap : Nat} {ls : List Nat} (h : GrA w b ls) (h1 : ls.length ≤ cap) (h2 : cap ≤ maxLen) : RowOf .u64 (fun k => k = b) w (.slice (some ⟨b, 0, none⟩) ls.length cap) ls :=
  ⟨some ⟨b, 0, none⟩, cap, rfl, h1, h2, Or.inr ⟨b, 0, rfl, rfl, fun i hi => by rw [Nat.zero_add]; exact h.get i hi⟩⟩

set_option maxRecDepth 20000 in
set_option maxHeartbeats 2000000 in
theorem dividedByGroup_row (x d : Nat) (v : Value) (w : World) (h : NatA w v (grp x)) (hn : nG x ≤ 100000) (hd : d ≤ 1000000000) (hd0 : 0 < d) :
    Calls Tryd.prog 88 #[v, .int .u64 d] w fun e w' => ∃ u, e = .returned (.tuple #[u, .int .u64 ((x % d : Nat) : Int)]) ∧ RowOf .u64 (fun b => b = w.heap.size) w' u (grp (x / d)) ∧ Below w.heap.size w w' ∧ w.heap.size < w'.heap.size := by
  obtain ⟨a, cap, rfl, h1, h2, h3⟩ := h
  rw [grp_length] at *
  unfold maxLen at h2
  have HG3 := hid h3
  have HD0 := hid hd0
  obtain ⟨G, HG⟩ : ∃ G : Nat, Hid (nG x = G) := ⟨_, rfl⟩
  rw [HG.out] at h1 hn ⊢
  have HGet : Hid (∀ wr, Below w.heap.size w wr → ∀ i, i < G → ∃ b o, a = some ⟨b, o, none⟩ ∧ wr.cell? ⟨b, o + i, none⟩ = some (.int .u64 ((x / 1000000000 ^ i % 1000000000 : Nat) : Int))) := by
    intro wr hb i hi
    rcases HG3.out with h | ⟨b, o, e, hlt, hc⟩
    · have := congrArg List.length h; rw [grp_length, HG.out] at this; simp at this; omega
    · refine ⟨b, o, e, ?_⟩
      rw [hb.cell (p := ⟨b, o + i, none⟩) hlt, hc i (by rw [grp_length, HG.out]; exact hi)]
      unfold grp; rw [grpN_get]
  obtain ⟨i0, hi, hz0, hz1, hz2⟩ := info_partsZ Tryd.infoWordZ
  have Hi := hid hi
  have Hz0 := hid hz0
  have Hz1 := hid hz1
  have Hz2 := hid hz2
  have hdn : ((d : Int) == 0) = false := by rw [beq_eq_false_iff_ne]; omega
  clear hi hz0 hz1 hz2 h3
  go_enter Tryd.func88, Tryd.ntmps88
  go_wp2_with (at_make; go_loud (refine wpList_make_new _ rfl _ _ 44 rfl 52 i0 (.int .u64 0) 1 Tryd.underlying44 Hi.out Hz0.out Hz1.out .i64 .i64 G rfl rfl (by rw [Hz2.out]; omega) (by unfold maxLen; omega) ?_))
  go_loopw [7, 8] (fun l i wr => ∃ j : Nat, j ≤ G ∧ i = .int .i64 ((j : Int) - 1) ∧ l = .int .u64 ((x / 1000000000 ^ j % d : Nat) : Int) ∧ Hid (GrA wr w.heap.size (grpN G (x / 1000000000 ^ j / d * 1000000000 ^ j))) ∧ Hid (Below w.heap.size w wr)) (fun _ i _ => (intOf i + 1).toNat)
  case atStart =>
    have e : x / 1000000000 ^ G = 0 := Nat.div_eq_of_lt (by rw [← HG.out]; exact lt_pow_nG x)
    refine ⟨G, Nat.le_refl _, rfl, by rw [e, Nat.zero_mod]; rfl, ?_, (Below.refl _ _).alloc (Nat.le_refl _) _⟩
    show GrA _ _ _
    rw [e, Nat.zero_div, Nat.zero_mul]
    exact made_zero w G
  case round =>
    obtain ⟨j, hj, rfl, rfl, HQ, HB⟩ := hrel
    have hsz := HB.out.size
    by_cases hj0 : j = 0
    · subst hj0
      rw [Nat.pow_zero, Nat.div_one, Nat.mul_one] at HQ
      rw [Nat.pow_zero, Nat.div_one]
      have HT := hid (trimmed_row (fun b => b = w.heap.size) G (x / d) (.slice (some ⟨w.heap.size, 0, none⟩) G G) wr (by have h := HQ.out.rowEq (cap := G) (by rw [grpN_length]; omega) (by unfold maxLen; omega); rw [grpN_length] at h; exact h) (Nat.lt_of_le_of_lt (Nat.div_le_self _ _) (by rw [← HG.out]; exact lt_pow_nG x)))
      obtain ⟨q, HQq⟩ : ∃ q : Nat, Hid (x % d = q) := ⟨_, rfl⟩
      rw [HQq.out]
      go_wp2_with fail
      refine HT.out.mono ?_
      rintro e w' ⟨u, rfl, hu, hw⟩
      obtain rfl := hw.symm
      have HU2 := hid hu
      clear hu
      obtain ⟨ra, rc, rfl⟩ := rowOf_formR HU2.out
      go_wp2_with fail
      go_ret2
      exact ⟨.slice ra (grp (x / d)).length rc, by first | rfl | (rw [HQq.out]; rfl) | (rw [← HQq.out]; rfl), HU2.out, HB.out, HQ.out.lt⟩
    · obtain ⟨i, rfl⟩ : ∃ i, j = i + 1 := ⟨j - 1, by omega⟩
      have hiG : i < G := by omega
      obtain ⟨b, o, hab, g0⟩ := HGet.out wr HB.out i hiG
      subst hab
      obtain ⟨g, HGg⟩ : ∃ g : Nat, Hid (x / 1000000000 ^ i % 1000000000 = g) := ⟨_, rfl⟩
      have hg9 : g < 1000000000 := by rw [← HGg.out]; exact Nat.mod_lt _ (by decide)
      rw [HGg.out] at g0
      have hst := db_step x d i HD0.out
      obtain ⟨l, HL⟩ : ∃ l : Nat, Hid (x / 1000000000 ^ (i + 1) % d = l) := ⟨_, rfl⟩
      have hld : l < d := by rw [← HL.out]; exact Nat.mod_lt _ HD0.out
      rw [HL.out, HGg.out] at hst
      rw [HL.out]
      have HST := hid hst
      obtain ⟨z, HZ⟩ : ∃ z : Nat, Hid (l * 1000000000 + g = z) := ⟨_, rfl⟩
      have hzl : z ≤ 1000000000000000000 := by rw [← HZ.out]; omega
      have hval : IntKind.u64.wrap (IntKind.u64.wrap ((l : Int) * 1000000000) + (g : Int)) = (z : Int) := by
        have hz := HZ.out
        have e5 : IntKind.u64.wrap ((l : Int) * 1000000000) = (l : Int) * 1000000000 := by simp [IntKind.wrap, IntKind.bits, IntKind.signed]; omega
        rw [e5]
        simp [IntKind.wrap, IntKind.bits, IntKind.signed]; omega
      obtain ⟨q, HQq⟩ : ∃ q : Nat, Hid (z / d = q) := ⟨_, rfl⟩
      obtain ⟨r, HR⟩ : ∃ r : Nat, Hid (z % d = r) := ⟨_, rfl⟩
      have hql : q ≤ 1000000000000000000 := by rw [← HQq.out]; exact Nat.le_trans (Nat.div_le_self _ _) hzl
      have hrl : r ≤ 1000000000000000000 := by rw [← HR.out]; exact Nat.le_trans (Nat.mod_le _ _) hzl
      have e1 : (z : Int) / (d : Int) = (q : Int) := by rw [← HQq.out, Int.natCast_ediv]
      have e2 : (z : Int) % (d : Int) = (r : Int) := by rw [← HR.out, Int.natCast_emod]
      have e3 : (z : Int).tdiv (d : Int) = (q : Int) := by rw [Int.tdiv_eq_ediv_of_nonneg (by omega), e1]
      have e4 : (z : Int).tmod (d : Int) = (r : Int) := by rw [Int.tmod_eq_emod_of_nonneg (by omega), e2]
      have hzI : (l : Int) * 1000000000 + (g : Int) = (z : Int) := by have := HZ.out; omega
      have eq1 : ((l : Int) * 1000000000 + (g : Int)) / (d : Int) = (q : Int) := by rw [hzI, e1]
      have eq2 : ((l : Int) * 1000000000 + (g : Int)) % (d : Int) = (r : Int) := by rw [hzI, e2]
      have HzI := hid hzI
      clear hzI
      have e5 : IntKind.u64.wrap (q : Int) = (q : Int) := by simp [IntKind.wrap, IntKind.bits, IntKind.signed]; omega
      have e6 : IntKind.u64.wrap (r : Int) = (r : Int) := by simp [IntKind.wrap, IntKind.bits, IntKind.signed]; omega
      have HSet := hid (db_set x d G i)
      obtain ⟨L, HLL⟩ : ∃ L : List Nat, Hid (grpN G (x / 1000000000 ^ (i + 1) / d * 1000000000 ^ (i + 1)) = L) := ⟨_, rfl⟩
      have HLlen : Hid (L.length = G) := by show _ = _; rw [← HLL.out, grpN_length]
      rw [HLL.out] at HQ HSet
      have g1 := HQ.out.get i (by rw [HLlen.out]; exact hiG)
      have f1 := HQ.out.frozen i
      obtain ⟨old, HOld⟩ : ∃ old : Nat, Hid (L[i]'(by rw [HLlen.out]; exact hiG) = old) := ⟨_, hid rfl⟩
      rw [HOld.out] at g1
      have hi1 : ((i + 1 : Nat) : Int) - 1 = (i : Int) := by omega
      rw [hi1]
      clear hst
      go_wp2_with fail
      refine ⟨⟨i, by omega, rfl, ?_, ?_, HB.out.setCell (p := ⟨w.heap.size, i, none⟩) (Nat.le_refl _) _⟩, by simp [intOf] <;> omega⟩
      · rw [← HST.out.2, HZ.out, HR.out, eq2]
      · show GrA _ _ _
        rw [HSet.out, ← HST.out.1, HZ.out, HQq.out]
        exact HQ.out.set i q
theorem dividedByGroup_any (x d : Nat) (v : Value) (w : World) (h : NatA w v (grp x)) (hn : nG x ≤ 100000) (hd : d ≤ 1000000000) (hd0 : 0 < d) :
    Calls Tryd.prog 88 #[v, .int .u64 d] w fun e w' => ∃ u, e = .returned (.tuple #[u, .int .u64 ((x % d : Nat) : Int)]) ∧ NatA w' u (grp (x / d)) ∧ Below w.heap.size w w' := by
  refine (dividedByGroup_row x d v w h hn hd hd0).mono ?_
  rintro e w' ⟨u, rfl, h1, h2, h3⟩
  exact ⟨u, rfl, RowOf.mono h1 (fun b hb => by rw [hb]; exact h3), h2⟩
end Go.Proofs.YtakicnplmcemnaaDoor

namespace Go.Proofs.YtakicnplmcemnaaDoor
open Go.RowKit Go.Siskin

theorem splice_grp {M k V : Nat} (hk : k ≤ M) (hV : V < 1000000000 ^ k) : splice (numL .u64 (grpN M 0)) 0 (numL .u64 (grpN k V)) = numL .u64 (grpN M V) := by
  have e : grpN M V = grpN k V ++ (grpN M 0).drop k := by
    rw [grpN_drop, Nat.zero_div]
    apply List.ext_getElem
    · simp [grpN]; omega
    · intro i h1 h2
      rw [grpN_get, List.getElem_append]
      split
      · rw [grpN_get]
      · rename_i h
        rw [grpN_length] at h
        rw [grpN_get, Nat.zero_div, Nat.div_eq_of_lt (Nat.lt_of_lt_of_le hV (Nat.pow_le_pow_right (by decide) (by omega)))]
  unfold splice numL
  rw [e]
  simp [grpN_length]

theorem Tryd.sizeWord : (Tryd.prog.info? 52).map (·.size) = some 1 := by kernel_rfl

theorem res_doneZ {w W : World} {o : Obj} (h : Below (w.heap.size + 1) (w.alloc o) W) : Below w.heap.size w W := ((Below.refl _ _).alloc (Nat.le_refl _) _).trans (h.mono (Nat.le_succ _))

set_option maxRecDepth 20000 in
set_option maxHeartbeats 2000000 in
theorem widened_any (x M : Nat) (v : Value) (w : World) (h : NatA w v (grp x)) (hM : nG x ≤ M) (hn : M ≤ 200000) :
    Calls Tryd.prog 108 #[v, .int .i64 M] w fun e w' => e = .returned (.slice (some ⟨w.heap.size, 0, none⟩) M M) ∧ GrA w' w.heap.size (grpN M x) ∧ Below w.heap.size w w' := by
  have HNA := hid (h.alloc (.cells (madeCells #[Value.int .u64 0] M) 52))
  obtain ⟨ra, rc, rfl, h1, h2, h3⟩ := h
  rw [grp_length] at *
  unfold maxLen at h2
  obtain ⟨K, HK⟩ : ∃ K : Nat, Hid (nG x = K) := ⟨_, rfl⟩
  rw [HK.out] at h1 hM HNA ⊢
  have HLK : Hid (x < 1000000000 ^ K) := by show _ < _; rw [← HK.out]; exact lt_pow_nG _
  obtain ⟨i0, hi, hz0, hz1, hz2⟩ := info_partsZ Tryd.infoWordZ
  have Hi := hid hi
  have Hz0 := hid hz0
  have Hz1 := hid hz1
  have Hz2 := hid hz2
  clear hi hz0 hz1 hz2 h3
  have HMk : Hid (GrA (w.alloc (.cells (madeCells #[Value.int .u64 0] M) 52)) w.heap.size (grpN M 0)) := made_zero w M
  have HPos : Hid (0 < (numL .u64 (grpN K x)).length → ∃ ad, ra = some ad ∧ ∀ j v, (numL .u64 (grpN K x))[j]? = some v → (w.alloc (.cells (madeCells #[Value.int .u64 0] M) 52)).cell? (ad.add j) = some v) := by
    intro h0
    obtain ⟨ra', rc', e0, k1, k2, k3⟩ := HNA.out
    simp only [Value.slice.injEq] at e0
    obtain ⟨rfl, -, -⟩ := e0
    rcases k3 with h | ⟨b, o, e, hb, hc⟩
    · rw [numL_length, grpN_length] at h0
      have := congrArg List.length h; rw [grp_length, HK.out] at this; simp at this; omega
    · refine ⟨⟨b, o, none⟩, e, fun j v hj => ?_⟩
      have hjK : j < K := by
        rcases Nat.lt_or_ge j K with h | h
        · exact h
        · rw [List.getElem?_eq_none (by rw [numL_length, grpN_length]; exact h)] at hj; cases hj
      rw [numL_get .u64 _ j (by rw [grpN_length]; exact hjK), grpN_get] at hj
      rw [Go.WideShapes.add_plain, hc j (by rw [grp_length, HK.out]; exact hjK), ← hj]
      unfold grp; rw [grpN_get]
  have HOne : Hid (∀ v ∈ numL .u64 (grpN K x), v.oneCell' = true) := by
    intro u hu
    obtain ⟨z, _, rfl⟩ := List.mem_map.1 hu
    rfl
  have HBel : Hid (Below w.heap.size w (w.alloc (.cells (madeCells #[Value.int .u64 0] M) 52))) := (Below.refl _ _).alloc (Nat.le_refl _) _
  go_enter Tryd.func108, Tryd.ntmps108
  go_wp2_with first
    | (at_make; go_loud (refine wpList_make_new _ rfl _ _ 44 rfl 52 i0 (.int .u64 0) 1 Tryd.underlying44 Hi.out Hz0.out Hz1.out .i64 .i64 M (by rfl) (by rfl) (by rw [Hz2.out]; omega) (by unfold maxLen; omega) ?_))
    | (refine wpList_copy_splice rfl (.tmp 8) (.tmp 9) _ _ rfl 52 Tryd.underlying44 Tryd.sizeWord (some ⟨w.heap.size, 0, none⟩) ra M M K rc (by rfl) (by rfl) w.heap.size 0 (numL .u64 (grpN M 0)) 52 HMk.out (numL .u64 (grpN K x)) (by rw [numL_length, grpN_length]; exact (Nat.min_eq_left hM).symm) (fun h0 => ⟨rfl, HPos.out h0⟩) (by rw [numL_length, numL_length, grpN_length, grpN_length]; omega) HOne.out w.heap.size w HBel.out (Nat.le_refl _) ?_; intro w2 hw2 hb2)
  go_ret
  refine ⟨rfl, ?_, hb2⟩
  have h := hw2.out
  rw [splice_grp hM HLK.out] at h
  exact h

set_option maxRecDepth 20000 in
set_option maxHeartbeats 2000000 in
theorem scaledUp_any (x f : Nat) (v : Value) (w : World) (h : NatA w v (grp x)) (hn : nG x ≤ 100000) (hf : f ≤ 1000000000) :
    Calls Tryd.prog 103 #[v, .int .u64 f] w fun e w' => ∃ g, e = .returned (.slice (some ⟨g, 0, none⟩) (nG x + 1) (nG x + 1)) ∧ w.heap.size ≤ g ∧ g < w'.heap.size ∧ GrA w' g (grpN (nG x + 1) (x * f)) ∧ Below w.heap.size w w' := by
  have HTP : Hid (∀ (w : World) (v : Value), NatA w v (grp x) → Calls Tryd.prog 101 #[v, .int .u64 f, .int .u64 0] w fun e w' => ∃ u, e = .returned u ∧ NatA w' u (grp (x * f)) ∧ Below w.heap.size w w') := fun w v h => timesPlus_any x f 0 v w h hn hf (by decide)
  have hxf : x * f < 1000000000 ^ (nG x + 1) := by
    have h1 := lt_pow_nG x
    rw [Nat.pow_succ]
    rcases Nat.eq_zero_or_pos f with h0 | h0
    · subst h0; rw [Nat.mul_zero]; exact Nat.mul_pos (p9pos _) (by decide)
    · exact Nat.lt_of_lt_of_le (Nat.mul_lt_mul_of_pos_right h1 h0) (Nat.mul_le_mul_left _ hf)
  have hLe : nG (x * f) ≤ nG x + 1 := nG_le hxf
  have HNA := hid h
  obtain ⟨a, cap, rfl, h1, h2, h3⟩ := h
  rw [grp_length] at *
  unfold maxLen at h2
  have HWd : Hid (∀ (w : World) (v : Value), NatA w v (grp (x * f)) → Calls Tryd.prog 108 #[v, .int .i64 ((nG x : Int) + 1)] w fun e w' => e = .returned (.slice (some ⟨w.heap.size, 0, none⟩) (nG x + 1) (nG x + 1)) ∧ GrA w' w.heap.size (grpN (nG x + 1) (x * f)) ∧ Below w.heap.size w w') := fun w v h => by
    have h := widened_any (x * f) (nG x + 1) v w h hLe (by omega)
    exact h
  obtain ⟨G, HG⟩ : ∃ G : Nat, Hid (nG x = G) := ⟨_, rfl⟩
  rw [HG.out] at h1 hn HNA HWd ⊢
  clear h3 hxf hLe
  go_enter Tryd.func103, Tryd.ntmps103
  go_wp2_with fail
  refine (HTP.out _ _ HNA.out).mono ?_
  rintro e w1 ⟨u, rfl, hu, hw⟩
  obtain ⟨qa, qc, rfl⟩ := natA_formR hu
  have HU := hid hu
  have HW := hid hw
  clear hu hw
  go_wp2_with fail
  refine (HWd.out _ _ HU.out).mono ?_
  rintro e w2 ⟨rfl, hg, hw2⟩
  have HG2 := hid hg
  have HW2 := hid (HW.out.trans (hw2.mono HW.out.size))
  have HLe := hid HW.out.size
  clear hg hw2
  go_wp2_with fail
  go_ret
  exact ⟨_, rfl, HLe.out, HG2.out.lt, HG2.out, HW2.out⟩
end Go.Proofs.YtakicnplmcemnaaDoor
