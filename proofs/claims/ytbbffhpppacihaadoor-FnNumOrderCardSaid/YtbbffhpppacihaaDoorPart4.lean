/-
  The program's giveBack, and both as numbers; takeMost. Condition: the groups lie in a block of the call's own, the other natural elsewhere.
  The program's timesPlus and dividedByGroup. Condition: the groups lie in memory as NatA says, and the factor, what is added, what is divided by are no more than a group.
  The program's scaledUp: a natural times a factor in new groups, one more. Condition: the groups lie in memory as NatA says, the factor is no more than a group.
-/
import Derived.Test.YtbbffhpppacihaaDoorPart3
import Derived.Deep.RegionLaw
import Derived.Deep.QuietTactic
import Derived.BigQuiet
import Derived.Deep.Draws
import Derived.Laws.MakeOwn
import Derived.Laws.CopyOwn
namespace Go.Proofs.YtbbffhpppacihaaDoor
open Go.RowKit Go.Siskin

theorem give_step {A S L ca g x z P : Nat} (h : A + ca * P = L + S) (hz : ca + (x + g) = z) :
    A + z % 1000000000 * P + z / 1000000000 * (P * 1000000000) = L + x * P + (S + g * P) := by
  have h2 : z * P = ca * P + x * P + g * P := by rw [← hz, Nat.add_mul, Nat.add_mul, Nat.add_assoc]
  have h3 : z / 1000000000 * (P * 1000000000) = 1000000000 * (z / 1000000000) * P := by ac_rfl
  have h4 : (z % 1000000000 + 1000000000 * (z / 1000000000)) * P = z * P := by rw [Nat.mod_add_div]
  rw [Nat.add_mul] at h4
  rw [h3]
  omega

set_option maxRecDepth 20000 in
set_option maxHeartbeats 2000000 in
theorem give_list (M V s b i mm nl nc : Nat) (vs : Value) (w : World) (hG : GrA w b (grpN M V)) (hs : RowOf .u64 (fun k => k ≠ b) w vs (grpN mm s)) (him : i + mm ≤ M) (hnl : mm ≤ nl) (hnc : nl ≤ nc) (hncm : nc ≤ 1000000) :
    Calls Tryd.prog 118 #[.slice (some ⟨b, i, none⟩) nl nc, vs] w fun e w' => ∃ (ls : List Nat) (ca : Nat), e = .returned (.bool (decide (0 < ca))) ∧ GrA w' b ls ∧ ls.length = M ∧ (∀ k, ls.getD k 0 < 1000000000) ∧
      (∀ k, k < i ∨ i + mm ≤ k → ls.getD k 0 = (grpN M V).getD k 0) ∧ ga ls i mm + ca * 1000000000 ^ mm = ga (grpN M V) i mm + ga (grpN mm s) 0 mm ∧ Wr b w w' := by
  obtain ⟨sa, sc, rfl, q1, q2, q3⟩ := hs
  rw [grpN_length] at *
  unfold maxLen at q2
  have HG := hid hG
  have HS : Hid (∀ wr, Wr b w wr → ∀ k, k < mm → ∃ b' o', sa = some ⟨b', o', none⟩ ∧ wr.cell? ⟨b', o' + k, none⟩ = some (.int .u64 (((grpN mm s).getD k 0 : Nat) : Int))) := by
    intro wr hb k hk
    rcases q3 with h | ⟨b', o', e, hne, hc⟩
    · have := congrArg List.length h; rw [grpN_length] at this; simp at this; omega
    · refine ⟨b', o', e, ?_⟩
      rw [SameOn.cell (R := fun k => k ≠ b) hb.2.1 hne (o' + k), hc k (by rw [grpN_length]; exact hk), getD_of k (by rw [grpN_length]; exact hk)]
  clear hG q3
  go_enter Tryd.func118, Tryd.ntmps118
  go_wp2_with fail
  go_loopw [5, 10] (fun o j wr => ∃ (k ow : Nat) (ls : List Nat), j = .int .i64 k ∧ o = .int .u64 ow ∧ k ≤ mm ∧ ow ≤ 2 ∧ Hid (GrA wr b ls) ∧ Hid (ls.length = M) ∧ Hid (∀ k, ls.getD k 0 < 1000000000) ∧
      Hid (∀ t, t < i ∨ i + k ≤ t → ls.getD t 0 = (grpN M V).getD t 0) ∧ Hid (ga ls i k + ow * 1000000000 ^ k = ga (grpN M V) i k + ga (grpN mm s) 0 k) ∧ Hid (Wr b w wr)) (fun _ j _ => mm - (intOf j).toNat)
  case atStart => exact ⟨0, 0, _, rfl, rfl, Nat.zero_le _, Nat.zero_le _, HG.out, grpN_length _ _, grpN_small M V, fun _ _ => rfl, by show _ = _; simp [ga], Wr.refl _ _⟩
  case round =>
    obtain ⟨k, ow, ls, rfl, rfl, hk, how, HL, HLen, HSm, HOut, HEq, HW⟩ := hrel
    by_cases hlt : k < mm
    · obtain ⟨b', o', hab, g0⟩ := HS.out wr HW.out k hlt
      subst hab
      obtain ⟨g, HGg⟩ : ∃ g : Nat, Hid ((grpN mm s).getD k 0 = g) := ⟨_, rfl⟩
      have hg9 : g < 1000000000 := by rw [← HGg.out]; exact grpN_small mm s k
      rw [HGg.out] at g0
      have hik : i + k < ls.length := by rw [HLen.out]; omega
      have g1 := HL.out.get (i + k) hik
      have f1 := HL.out.frozen (i + k)
      obtain ⟨x, HX⟩ : ∃ x : Nat, Hid (ls.getD (i + k) 0 = x) := ⟨_, rfl⟩
      have hx9 : x < 1000000000 := by rw [← HX.out]; exact HSm.out _
      have HXV : Hid ((grpN M V).getD (i + k) 0 = x) := by show _ = _; rw [← HX.out]; exact (HOut.out (i + k) (Or.inr (Nat.le_refl _))).symm
      rw [getD_of (i + k) hik, HX.out] at g1
      obtain ⟨z, HZ⟩ : ∃ z : Nat, Hid (ow + (x + g) = z) := ⟨_, rfl⟩
      have hzl : z ≤ 2000000000 := by rw [← HZ.out]; omega
      have hzI : (ow : Int) + ((x : Int) + (g : Int)) = (z : Int) := by have := HZ.out; omega
      obtain ⟨low, HLow⟩ : ∃ low : Nat, Hid (z % 1000000000 = low) := ⟨_, rfl⟩
      obtain ⟨ov, HOv⟩ : ∃ ov : Nat, Hid (z / 1000000000 = ov) := ⟨_, rfl⟩
      have hl9 : low < 1000000000 := by rw [← HLow.out]; exact Nat.mod_lt _ (by decide)
      have hov : ov ≤ 2 := by rw [← HOv.out]; omega
      have hw1 : (z : Int) % 1000000000 = (low : Int) := by have := HLow.out; omega
      have hw2 : (z : Int) / 1000000000 = (ov : Int) := by have := HOv.out; omega
      have HStep := hid (give_step HEq.out HZ.out)
      rw [HLow.out, HOv.out] at HStep
      have hnlI : (k : Int) < (nl : Int) := by omega
      have HR : Hid ((∀ t, (ls.set (i + k) low).getD t 0 < 1000000000) ∧ (∀ t, t < i ∨ i + (k + 1) ≤ t → (ls.set (i + k) low).getD t 0 = (grpN M V).getD t 0) ∧
          ga (ls.set (i + k) low) i (k + 1) + ov * 1000000000 ^ (k + 1) = ga (grpN M V) i (k + 1) + ga (grpN mm s) 0 (k + 1)) := by
        refine ⟨fun t => ?_, fun t ht => ?_, ?_⟩
        · rw [getD_set hik]; split
          · exact hl9
          · exact HSm.out t
        · rw [getD_set hik, if_neg (by omega)]; exact HOut.out t (by omega)
        · rw [ga_set_past hik, ga, ga, Nat.zero_add, HGg.out, HXV.out, Nat.pow_succ]
          exact HStep.out
      go_wp2_with fail
      refine ⟨⟨k + 1, ov, ls.set (i + k) low, by go_num, by first | rfl | (congr 1), by omega, by omega, ?_, by show _ = _; rw [List.length_set]; exact HLen.out, HR.out.1, HR.out.2.1, HR.out.2.2, HW.out.set (i + k) _⟩, by simp [intOf]; omega⟩
      show GrA _ _ _
      exact HL.out.set (i + k) low
    · have hkm : k = mm := by omega
      subst hkm
      go_wp2_with fail
      go_ret
      exact ⟨ls, ow, ret_boolz (by simp), HL.out, HLen.out, HSm.out, HOut.out, HEq.out, HW.out⟩

/-- take, as numbers. -/
theorem take_any (M V s b i mm nl nc T : Nat) (vs : Value) (w : World) (hG : GrA w b (grpN M V)) (hs : RowOf .u64 (fun k => k ≠ b) w vs (grpN mm s)) (him : i + mm ≤ M) (hnl : mm ≤ nl) (hnc : nl ≤ nc) (hncm : nc ≤ 1000000) (hT : T < 1000000000)
    (hV : V < 1000000000 ^ (i + mm)) (hsl : s < 1000000000 ^ mm) :
    Calls Tryd.prog 117 #[.slice (some ⟨b, i, none⟩) nl nc, vs, .int .u64 T] w fun e w' => ∃ (Y ow : Nat), e = .returned (.bool (decide (0 < ow))) ∧ GrA w' b (grpN M (V % 1000000000 ^ i + 1000000000 ^ i * Y)) ∧ Y < 1000000000 ^ mm ∧
      Y + T * s = V / 1000000000 ^ i + ow * 1000000000 ^ mm ∧ Wr b w w' := by
  refine (take_list M V s b i mm nl nc T vs w hG hs him hnl hnc hncm hT).mono ?_
  rintro e w' ⟨ls, ow, rfl, h1, h2, h3, h4, h5, h6⟩
  refine ⟨ga ls i mm, ow, rfl, ?_, ga_lt h3 mm, ?_, h6⟩
  · rw [← grpN_turned h2 h3 him hV h4]; exact h1
  · rw [ga_grpN M V i mm him, ga_grpN mm s 0 mm (by omega), Nat.pow_zero, Nat.div_one, Nat.mod_eq_of_lt hsl, Nat.mod_eq_of_lt (Nat.div_lt_of_lt_mul (by rw [← Nat.pow_add]; exact hV))] at h5
    exact h5
/-- giveBack, as numbers. -/
theorem give_any (M V s b i mm nl nc : Nat) (vs : Value) (w : World) (hG : GrA w b (grpN M V)) (hs : RowOf .u64 (fun k => k ≠ b) w vs (grpN mm s)) (him : i + mm ≤ M) (hnl : mm ≤ nl) (hnc : nl ≤ nc) (hncm : nc ≤ 1000000)
    (hV : V < 1000000000 ^ (i + mm)) (hsl : s < 1000000000 ^ mm) :
    Calls Tryd.prog 118 #[.slice (some ⟨b, i, none⟩) nl nc, vs] w fun e w' => ∃ (Y ca : Nat), e = .returned (.bool (decide (0 < ca))) ∧ GrA w' b (grpN M (V % 1000000000 ^ i + 1000000000 ^ i * Y)) ∧ Y < 1000000000 ^ mm ∧
      Y + ca * 1000000000 ^ mm = V / 1000000000 ^ i + s ∧ Wr b w w' := by
  refine (give_list M V s b i mm nl nc vs w hG hs him hnl hnc hncm).mono ?_
  rintro e w' ⟨ls, ow, rfl, h1, h2, h3, h4, h5, h6⟩
  refine ⟨ga ls i mm, ow, rfl, ?_, ga_lt h3 mm, ?_, h6⟩
  · rw [← grpN_turned h2 h3 him hV h4]; exact h1
  · rw [ga_grpN M V i mm him, ga_grpN mm s 0 mm (by omega), Nat.pow_zero, Nat.div_one, Nat.mod_eq_of_lt hsl, Nat.mod_eq_of_lt (Nat.div_lt_of_lt_mul (by rw [← Nat.pow_add]; exact hV))] at h5
    exact h5
end Go.Proofs.YtbbffhpppacihaaDoor

namespace Go.Proofs.YtbbffhpppacihaaDoor
open Go.RowKit Go.Siskin

/-- 'make([]T, 0, n)' at the operation: a row of the call's own. -/
theorem wpList_make_room {P : Program} (w : World) {ops : Array Oper} {rest : List Oper} {o : Oper} {a : Act} {Q : Exit → Act → World → Prop}
    (hg : o.guard = none) (l c : Operand) (t : TypeId) (hop : o.op = Op.makeSlice t l c) (base : Nat)
    (e : TypeId) (i : TypeInfo) (z : Value) (size : Nat) (h1 : P.underlying t = some (.slice e)) (h2 : P.info? e = some i) (h3 : i.zero = some z) (h4 : i.size = size)
    (kl kc : IntKind) (n : Nat) (hl : a.eval l = .int kl 0) (hc : a.eval c = .int kc (n : Int)) (b2 : i.bytes * n ≤ 281474976710656) (b3 : n ≤ maxLen) (hb : base ≤ w.heap.size)
    (hK : ∀ w', w'.ownsRow base e size (.slice (some ⟨w.heap.size, 0, none⟩) 0 n) 0 [] → w.grownBy w' none → wpList P ops Q rest (a.put o.dst (.slice (some ⟨w.heap.size, 0, none⟩) 0 n)) w') :
    wpList P ops Q (o :: rest) a w := by
  refine wpList_plain hg fun K hK' => ?_
  obtain ⟨w', hr, h5, h6⟩ := run_make_own (P := P) w base t e i z size h1 h2 h3 h4 kl kc n b2 b3 hb
  unfold Oper.wp
  simp [execOp, hop, hl, hc, hr, Result.andThen]
  exact hK' _ _ (hK w' h5 h6)

theorem tp_step (x f m k : Nat) : ((x % 1000000000 ^ k) * f + m) / 1000000000 ^ k + x / 1000000000 ^ k % 1000000000 * f = ((x % 1000000000 ^ (k + 1)) * f + m) / 1000000000 ^ k ∧
    ((x % 1000000000 ^ (k + 1)) * f + m) / 1000000000 ^ k % 1000000000 = (x * f + m) / 1000000000 ^ k % 1000000000 ∧
    ((x % 1000000000 ^ (k + 1)) * f + m) / 1000000000 ^ k / 1000000000 = ((x % 1000000000 ^ (k + 1)) * f + m) / 1000000000 ^ (k + 1) := by
  have hP := p9pos k
  refine ⟨?_, ?_, ?_⟩
  · rw [Nat.mod_pow_succ]
    generalize 1000000000 ^ k = P at *
    generalize x / P % 1000000000 = g
    have e : (x % P + P * g) * f + m = P * (g * f) + (x % P * f + m) := by rw [Nat.add_mul, Nat.mul_assoc]; omega
    rw [e, Nat.mul_add_div hP]; omega
  · have hx := Nat.div_add_mod x (1000000000 ^ (k + 1))
    rw [Nat.pow_succ] at hx ⊢
    generalize 1000000000 ^ k = P at *
    generalize x % (P * 1000000000) = r at *
    generalize x / (P * 1000000000) = q at *
    have e : x * f + m = P * (1000000000 * (q * f)) + (r * f + m) := by
      rw [← hx, Nat.add_mul, Nat.mul_assoc, Nat.mul_assoc, Nat.add_assoc]
    rw [e, Nat.mul_add_div hP, Nat.mul_add_mod]
  · rw [Nat.div_div_eq_div_mul, ← Nat.pow_succ]
theorem tp_lt {x f m k : Nat} (hf : f ≤ 1000000000) (hm : m < 1000000000) : ((x % 1000000000 ^ k) * f + m) / 1000000000 ^ k < 1000000000 := by
  have hP := p9pos k
  refine Nat.div_lt_of_lt_mul ?_
  have hx := Nat.mod_lt x hP
  generalize x % 1000000000 ^ k = r at *
  generalize 1000000000 ^ k = P at *
  have h1 : r * f ≤ (P - 1) * 1000000000 := Nat.mul_le_mul (by omega) hf
  rw [Nat.sub_mul] at h1
  have h2 : 1 * 1000000000 ≤ P * 1000000000 := Nat.mul_le_mul_right _ hP
  omega

theorem natA_formR {w : World} {v : Value} {gs : List Nat} (h : NatA w v gs) : ∃ a cap, v = .slice a gs.length cap := by
  obtain ⟨a, cap, e, -⟩ := h
  exact ⟨a, cap, e⟩

set_option maxRecDepth 20000 in
set_option maxHeartbeats 2000000 in
theorem timesPlus_any (x f m : Nat) (v : Value) (w : World) (h : NatA w v (grp x)) (hn : nG x ≤ 100000) (hf : f ≤ 1000000000) (hm : m < 1000000000) :
    Calls Tryd.prog 115 #[v, .int .u64 f, .int .u64 m] w fun e w' => ∃ u, e = .returned u ∧ NatA w' u (grp (x * f + m)) ∧ Below w.heap.size w w' := by
  have HNA := hid h
  obtain ⟨a, cap, rfl, h1, h2, h3⟩ := h
  rw [grp_length] at *
  unfold maxLen at h2
  have HG3 := hid h3
  have HF := hid hf
  have HM := hid hm
  obtain ⟨G, HG⟩ : ∃ G : Nat, Hid (nG x = G) := ⟨_, rfl⟩
  rw [HG.out] at h1 hn ⊢
  have HGet : Hid (∀ wr, Below w.heap.size w wr → ∀ i, i < G → ∃ b o, a = some ⟨b, o, none⟩ ∧ wr.cell? ⟨b, o + i, none⟩ = some (.int .u64 ((x / 1000000000 ^ i % 1000000000 : Nat) : Int))) := by
    intro wr hb i hi
    rcases HG3.out with h | ⟨b, o, e, hlt, hc⟩
    · have := congrArg List.length h; rw [grp_length, HG.out] at this; simp at this; omega
    · refine ⟨b, o, e, ?_⟩
      rw [hb.cell (p := ⟨b, o + i, none⟩) hlt, hc i (by rw [grp_length, HG.out]; exact hi)]
      unfold grp; rw [grpN_get]
  obtain ⟨i0, hi, hz0, hz1, hz2⟩ := info_partsZ Tryd.infoWordZ
  have Hi := hid hi
  have Hz0 := hid hz0
  have Hz1 := hid hz1
  have Hz2 := hid hz2
  clear hi hz0 hz1 hz2 h3
  go_enter Tryd.func115, Tryd.ntmps115
  go_wp2_with (at_make; go_loud (refine wpList_make_room _ rfl _ _ 48 rfl w.heap.size 80 i0 (.int .u64 0) 1 Tryd.underlying48 Hi.out Hz0.out Hz1.out .i64 .i64 (G + 1) rfl (by rfl) (by rw [Hz2.out]; omega) (by unfold maxLen; omega) (Nat.le_refl _) ?_; intro w1 hown hgr))
  have HOwn := hid hown
  have HGr := hid hgr
  have hs1 := hgr.size
  clear hown hgr
  go_loopw [2, 7, 16] (fun mo pr i wr => ∃ (k y : Nat) (ua : Option Addr) (uc : Nat), i = .int .i64 k ∧ mo = .int .u64 y ∧ pr = .slice ua k uc ∧ Hid (((x % 1000000000 ^ k) * f + m) / 1000000000 ^ k = y) ∧ y < 1000000000 ∧ k ≤ G ∧ Hid (wr.ownsRow w.heap.size 80 1 (.slice ua k uc) k (numL .u64 (grpN k (x * f + m)))) ∧ Hid (Below w.heap.size w wr)) (fun _ _ i _ => G - (intOf i).toNat)
  case atStart => exact ⟨0, m, _, _, rfl, rfl, rfl, by show _ = _; simp [Nat.mod_one], hm, Nat.zero_le _, HOwn.out, (Below.refl _ _).grown HGr.out (Nat.le_refl _) (fun k e => by cases e)⟩
  case round =>
    obtain ⟨k, y, ua, uc, rfl, rfl, rfl, HY, hy9, hk, HU, HB⟩ := hrel
    have hsz := HB.out.size
    by_cases hlt : k < G
    · obtain ⟨b, o, hab, g0⟩ := HGet.out wr HB.out k hlt
      subst hab
      obtain ⟨g, HGg⟩ : ∃ g : Nat, Hid (x / 1000000000 ^ k % 1000000000 = g) := ⟨_, rfl⟩
      have hg9 : g < 1000000000 := by rw [← HGg.out]; exact Nat.mod_lt _ (by decide)
      rw [HGg.out] at g0
      have hst := tp_step x f m k
      rw [HY.out, HGg.out] at hst
      obtain ⟨z, HZ⟩ : ∃ z : Nat, Hid (y + g * f = z) := ⟨_, rfl⟩
      rw [HZ.out] at hst
      have HST := hid hst
      have hgf : g * f ≤ 999999999 * 1000000000 := Nat.mul_le_mul (by omega) HF.out
      have hzl : z ≤ 1000000000000000000 := by rw [← HZ.out]; omega
      have hval : IntKind.u64.wrap ((y : Int) + IntKind.u64.wrap ((g : Int) * (f : Int))) = (z : Int) := by
        have e4 : (g : Int) * (f : Int) = ((g * f : Nat) : Int) := by simp
        rw [e4]
        have hz := HZ.out
        generalize g * f = q at *
        have e5 : IntKind.u64.wrap (q : Int) = (q : Int) := by simp [IntKind.wrap, IntKind.bits, IntKind.signed]; omega
        rw [e5]
        simp [IntKind.wrap, IntKind.bits, IntKind.signed]; omega
      have hw1 : IntKind.u64.wrap ((z : Int).tmod 1000000000) = (z : Int) % 1000000000 := by
        rw [Int.tmod_eq_emod_of_nonneg (by omega)]; simp [IntKind.wrap, IntKind.bits, IntKind.signed]; omega
      have hw2 : IntKind.u64.wrap ((z : Int).tdiv 1000000000) = (z : Int) / 1000000000 := by
        rw [Int.tdiv_eq_ediv_of_nonneg (by omega)]; simp [IntKind.wrap, IntKind.bits, IntKind.signed]; omega
      have HY2 : Hid (((x % 1000000000 ^ (k + 1)) * f + m) / 1000000000 ^ (k + 1) = z / 1000000000) := by
        show _ = _; rw [← HST.out.2.2, ← HST.out.1]
      have HY3 : Hid (z / 1000000000 < 1000000000) := by show _ < _; rw [← HY2.out]; exact tp_lt HF.out HM.out
      clear hst hgf
      go_wp2_with (at_builtin; go_loud (refine wpList_append_lies _ rfl _ _ _ rfl w.heap.size 80 i0 (.int .u64 0) 1 8 Tryd.underlying48 Hi.out Hz0.out Hz1.out Hz2.out rfl (by decide) _ k (numL .u64 (grpN k (x * f + m))) rfl (HU.out.alloc _) ⟨wr.heap.size, 0, none⟩ 1 1 [.int .u64 ((z : Int) % 1000000000)] rfl rfl (cell_one_newZ _ _ _) (by simp [Value.oneCell']) (by omega) (by unfold maxLen; omega) (by omega) (by simp; omega) (wr.heap.size + 1) (by simp) ?_; intro gg cc w4 hown' hg hat hgl; have hall := (World.grownBy_alloc wr _ _).trans hg))
      have hlow : ∀ g, (Value.slice ua k uc).ownBlock = some g → w.heap.size ≤ g := fun g e => (HU.out.lt g e).1
      have e2 : (((x * f + m) / 1000000000 ^ k % 1000000000 : Nat) : Int) = (z : Int) % 1000000000 := by rw [← HST.out.2.1, ← HST.out.1]; omega
      refine ⟨⟨k + 1, z / 1000000000, some ⟨gg, 0, none⟩, cc, by go_num, by congr 1, rfl, HY2.out, HY3.out, by omega, ?_, HB.out.grown hall hsz hlow⟩, by simp [intOf]; omega⟩
      show World.ownsRow _ _ _ _ _ _ _
      rw [grpN_snoc, numL_snoc, e2]
      exact hown'
    · have hkG : k = G := by omega
      subst hkG
      have HYe : Hid ((x * f + m) / 1000000000 ^ k = y) := by
        have h := HY.out
        rw [Nat.mod_eq_of_lt (by rw [← HG.out]; exact lt_pow_nG x)] at h
        exact h
      have HE : Hid ((x * f + m) / 1000000000 ^ k % 1000000000 = y) := by show _ = _; rw [HYe.out]; exact Nat.mod_eq_of_lt hy9
      have HT := hid (fun v w hv => trimmed_any (k + 1) (x * f + m) v w hv (by
        rw [Nat.pow_succ]
        have h := HYe.out
        have hP := p9pos k
        generalize 1000000000 ^ k = P at *
        have h2 := Nat.div_add_mod (x * f + m) P
        have h3 := Nat.mod_lt (x * f + m) hP
        rw [h] at h2
        have h4 : P * y ≤ P * 999999999 := Nat.mul_le_mul_left _ (by omega)
        omega))
      go_wp2_with (at_builtin; go_loud (refine wpList_append_lies _ rfl _ _ _ rfl w.heap.size 80 i0 (.int .u64 0) 1 8 Tryd.underlying48 Hi.out Hz0.out Hz1.out Hz2.out rfl (by decide) _ k (numL .u64 (grpN k (x * f + m))) rfl (HU.out.alloc _) ⟨wr.heap.size, 0, none⟩ 1 1 [.int .u64 (y : Int)] rfl rfl (cell_one_newZ _ _ _) (by simp [Value.oneCell']) (by omega) (by unfold maxLen; omega) (by omega) (by simp; omega) (wr.heap.size + 1) (by simp) ?_; intro gg cc w4 hown' hg hat hgl; have hall := (World.grownBy_alloc wr _ _).trans hg))
      have hlow : ∀ g, (Value.slice ua k uc).ownBlock = some g → w.heap.size ≤ g := fun g e => (HU.out.lt g e).1
      have HB4 := hid (HB.out.grown hall hsz hlow)
      have HN4 : Hid (NatA w4 (.slice (some ⟨gg, 0, none⟩) (k + 1) cc) (grpN (k + 1) (x * f + m))) := by
        refine natA_own (base := w.heap.size) (n := k + 1) (e := 80) ?_
        rw [grpN_snoc, numL_snoc, HE.out]
        exact hown'
      refine (HT.out _ _ HN4.out).mono ?_
      rintro e w' ⟨u, rfl, hu, hw⟩
      obtain rfl := hw.symm
      have HU2 := hid hu
      clear hu
      obtain ⟨ra, rc, rfl⟩ := natA_formR HU2.out
      clear hown' hg hat hall hlow
      go_wp2_with fail
      go_ret
      exact ⟨_, rfl, HU2.out, HB4.out⟩

/-- Dividing by a group. -/
theorem db_set (x by' M j : Nat) : grpN M (x / 1000000000 ^ j / by' * 1000000000 ^ j) = (grpN M (x / 1000000000 ^ (j + 1) / by' * 1000000000 ^ (j + 1))).set j (x / 1000000000 ^ j / by' % 1000000000) := by
  have hP := p9pos j
  apply List.ext_getElem
  · simp [grpN]
  · intro t h1 h2
    rw [grpN_get, List.getElem_set]
    by_cases ht : j = t
    · subst ht
      rw [if_pos rfl, Nat.mul_div_cancel _ hP]
    · rw [if_neg ht, grpN_get]
      rcases Nat.lt_or_ge t j with h | h
      · obtain ⟨s, hs⟩ : ∃ s, j = t + (s + 1) := ⟨j - t - 1, by omega⟩
        have e : ∀ y n : Nat, y * 1000000000 ^ (t + (n + 1)) / 1000000000 ^ t % 1000000000 = 0 := by
          intro y n
          rw [Nat.pow_add, Nat.mul_comm (1000000000 ^ t), ← Nat.mul_assoc, Nat.mul_div_cancel _ (p9pos t), Nat.pow_succ, ← Nat.mul_assoc, Nat.mul_mod_left]
        rw [hs, e, show t + (s + 1) + 1 = t + ((s + 1) + 1) by omega, e]
      · obtain ⟨s, hs⟩ : ∃ s, t = j + 1 + s := ⟨t - j - 1, by omega⟩
        rw [hs, Nat.pow_add, ← Nat.div_div_eq_div_mul, ← Nat.div_div_eq_div_mul, Nat.mul_div_cancel _ (p9pos (j + 1))]
        rw [Nat.pow_succ, ← Nat.div_div_eq_div_mul, ← Nat.div_div_eq_div_mul, Nat.mul_div_cancel _ hP]
        congr 2
        simp only [Nat.div_div_eq_div_mul]
        congr 1
        ac_rfl
theorem db_step (x by' j : Nat) (hb : 0 < by') : (x / 1000000000 ^ (j + 1) % by' * 1000000000 + x / 1000000000 ^ j % 1000000000) / by' = x / 1000000000 ^ j / by' % 1000000000 ∧
    (x / 1000000000 ^ (j + 1) % by' * 1000000000 + x / 1000000000 ^ j % 1000000000) % by' = x / 1000000000 ^ j % by' := by
  rw [Nat.pow_succ, ← Nat.div_div_eq_div_mul]
  generalize x / 1000000000 ^ j = y
  have h1 := Nat.div_add_mod (y / 1000000000) by'
  have h2 := Nat.mod_lt (y / 1000000000) hb
  generalize y / 1000000000 / by' = q at *
  generalize y / 1000000000 % by' = r at *
  have h3 : y = by' * (1000000000 * q) + (r * 1000000000 + y % 1000000000) := by
    have e : by' * (1000000000 * q) = 1000000000 * (by' * q) := by rw [← Nat.mul_assoc, Nat.mul_comm by', Nat.mul_assoc]
    omega
  have h4 : r * 1000000000 + y % 1000000000 < by' * 1000000000 := by omega
  have h5 : (r * 1000000000 + y % 1000000000) / by' < 1000000000 := Nat.div_lt_of_lt_mul h4
  generalize hz : r * 1000000000 + y % 1000000000 = z at *
  constructor
  · have e : y / by' = 1000000000 * q + z / by' := by rw [h3, Nat.mul_add_div hb]
    rw [e, Nat.mul_add_mod, Nat.mod_eq_of_lt h5]
  · have e : y % by' = z % by' := by
      have e2 : y % by' = (by' * (1000000000 * q) + z) % by' := congrArg (· % by') h3
      rw [e2, Nat.mul_add_mod]
    rw [e]

theorem rowOf_formR {k : IntKind} {B : Nat → Prop} {w : World} {v : Value} {gs : List Nat} (h : RowOf k B w v gs) : ∃ a cap, v = .slice a gs.length cap := by
  obtain ⟨a, cap, e, -⟩ := h
  exact ⟨a, cap, e⟩
theorem GrA.rowEq {w : World} {b cap : Nat} {ls : List Nat} (h : GrA w b ls) (h1 : ls.length ≤ cap) (h2 : cap ≤ maxLen) : RowOf .u64 (fun k => k = b) w (.slice (some ⟨b, 0, none⟩) ls.length cap) ls :=
  ⟨some ⟨b, 0, none⟩, cap, rfl, h1, h2, Or.inr ⟨b, 0, rfl, rfl, fun i hi => by rw [Nat.zero_add]; exact h.get i hi⟩⟩

set_option maxRecDepth 20000 in
set_option maxHeartbeats 2000000 in
theorem dividedByGroup_row (x d : Nat) (v : Value) (w : World) (h : NatA w v (grp x)) (hn : nG x ≤ 100000) (hd : d ≤ 1000000000) (hd0 : 0 < d) :
    Calls Tryd.prog 103 #[v, .int .u64 d] w fun e w' => ∃ u, e = .returned (.tuple #[u, .int .u64 ((x % d : Nat) : Int)]) ∧ RowOf .u64 (fun b => b = w.heap.size) w' u (grp (x / d)) ∧ Below w.heap.size w w' ∧ w.heap.size < w'.heap.size := by
  obtain ⟨a, cap, rfl, h1, h2, h3⟩ := h
  rw [grp_length] at *
  unfold maxLen at h2
  have HG3 := hid h3
  have HD0 := hid hd0
  obtain ⟨G, HG⟩ : ∃ G : Nat, Hid (nG x = G) := ⟨_, rfl⟩
  rw [HG.out] at h1 hn ⊢
  have HGet : Hid (∀ wr, Below w.heap.size w wr → ∀ i, i < G → ∃ b o, a = some ⟨b, o, none⟩ ∧ wr.cell? ⟨b, o + i, none⟩ = some (.int .u64 ((x / 1000000000 ^ i % 1000000000 : Nat) : Int))) := by
    intro wr hb i hi
    rcases HG3.out with h | ⟨b, o, e, hlt, hc⟩
    · have := congrArg List.length h; rw [grp_length, HG.out] at this; simp at this; omega
    · refine ⟨b, o, e, ?_⟩
      rw [hb.cell (p := ⟨b, o + i, none⟩) hlt, hc i (by rw [grp_length, HG.out]; exact hi)]
      unfold grp; rw [grpN_get]
  obtain ⟨i0, hi, hz0, hz1, hz2⟩ := info_partsZ Tryd.infoWordZ
  have Hi := hid hi
  have Hz0 := hid hz0
  have Hz1 := hid hz1
  have Hz2 := hid hz2
  have hdn : ((d : Int) == 0) = false := by rw [beq_eq_false_iff_ne]; omega
  clear hi hz0 hz1 hz2 h3
  go_enter Tryd.func103, Tryd.ntmps103
  go_wp2_with (at_make; go_loud (refine wpList_make_new _ rfl _ _ 48 rfl 80 i0 (.int .u64 0) 1 Tryd.underlying48 Hi.out Hz0.out Hz1.out .i64 .i64 G rfl rfl (by rw [Hz2.out]; omega) (by unfold maxLen; omega) ?_))
  go_loopw [7, 8] (fun l i wr => ∃ j : Nat, j ≤ G ∧ i = .int .i64 ((j : Int) - 1) ∧ l = .int .u64 ((x / 1000000000 ^ j % d : Nat) : Int) ∧ Hid (GrA wr w.heap.size (grpN G (x / 1000000000 ^ j / d * 1000000000 ^ j))) ∧ Hid (Below w.heap.size w wr)) (fun _ i _ => (intOf i + 1).toNat)
  case atStart =>
    have e : x / 1000000000 ^ G = 0 := Nat.div_eq_of_lt (by rw [← HG.out]; exact lt_pow_nG x)
    refine ⟨G, Nat.le_refl _, rfl, by rw [e, Nat.zero_mod]; rfl, ?_, (Below.refl _ _).alloc (Nat.le_refl _) _⟩
    show GrA _ _ _
    rw [e, Nat.zero_div, Nat.zero_mul]
    exact made_zero w G
  case round =>
    obtain ⟨j, hj, rfl, rfl, HQ, HB⟩ := hrel
    have hsz := HB.out.size
    by_cases hj0 : j = 0
    · subst hj0
      rw [Nat.pow_zero, Nat.div_one, Nat.mul_one] at HQ
      rw [Nat.pow_zero, Nat.div_one]
      have HT := hid (trimmed_row (fun b => b = w.heap.size) G (x / d) (.slice (some ⟨w.heap.size, 0, none⟩) G G) wr (by have h := HQ.out.rowEq (cap := G) (by rw [grpN_length]; omega) (by unfold maxLen; omega); rw [grpN_length] at h; exact h) (Nat.lt_of_le_of_lt (Nat.div_le_self _ _) (by rw [← HG.out]; exact lt_pow_nG x)))
      obtain ⟨q, HQq⟩ : ∃ q : Nat, Hid (x % d = q) := ⟨_, rfl⟩
      rw [HQq.out]
      go_wp2_with fail
      refine HT.out.mono ?_
      rintro e w' ⟨u, rfl, hu, hw⟩
      obtain rfl := hw.symm
      have HU2 := hid hu
      clear hu
      obtain ⟨ra, rc, rfl⟩ := rowOf_formR HU2.out
      go_wp2_with fail
      go_ret2
      exact ⟨.slice ra (grp (x / d)).length rc, by first | rfl | (rw [HQq.out]; rfl) | (rw [← HQq.out]; rfl), HU2.out, HB.out, HQ.out.lt⟩
    · obtain ⟨i, rfl⟩ : ∃ i, j = i + 1 := ⟨j - 1, by omega⟩
      have hiG : i < G := by omega
      obtain ⟨b, o, hab, g0⟩ := HGet.out wr HB.out i hiG
      subst hab
      obtain ⟨g, HGg⟩ : ∃ g : Nat, Hid (x / 1000000000 ^ i % 1000000000 = g) := ⟨_, rfl⟩
      have hg9 : g < 1000000000 := by rw [← HGg.out]; exact Nat.mod_lt _ (by decide)
      rw [HGg.out] at g0
      have hst := db_step x d i HD0.out
      obtain ⟨l, HL⟩ : ∃ l : Nat, Hid (x / 1000000000 ^ (i + 1) % d = l) := ⟨_, rfl⟩
      have hld : l < d := by rw [← HL.out]; exact Nat.mod_lt _ HD0.out
      rw [HL.out, HGg.out] at hst
      rw [HL.out]
      have HST := hid hst
      obtain ⟨z, HZ⟩ : ∃ z : Nat, Hid (l * 1000000000 + g = z) := ⟨_, rfl⟩
      have hzl : z ≤ 1000000000000000000 := by rw [← HZ.out]; omega
      have hval : IntKind.u64.wrap (IntKind.u64.wrap ((l : Int) * 1000000000) + (g : Int)) = (z : Int) := by
        have hz := HZ.out
        have e5 : IntKind.u64.wrap ((l : Int) * 1000000000) = (l : Int) * 1000000000 := by simp [IntKind.wrap, IntKind.bits, IntKind.signed]; omega
        rw [e5]
        simp [IntKind.wrap, IntKind.bits, IntKind.signed]; omega
      obtain ⟨q, HQq⟩ : ∃ q : Nat, Hid (z / d = q) := ⟨_, rfl⟩
      obtain ⟨r, HR⟩ : ∃ r : Nat, Hid (z % d = r) := ⟨_, rfl⟩
      have hql : q ≤ 1000000000000000000 := by rw [← HQq.out]; exact Nat.le_trans (Nat.div_le_self _ _) hzl
      have hrl : r ≤ 1000000000000000000 := by rw [← HR.out]; exact Nat.le_trans (Nat.mod_le _ _) hzl
      have e1 : (z : Int) / (d : Int) = (q : Int) := by rw [← HQq.out, Int.natCast_ediv]
      have e2 : (z : Int) % (d : Int) = (r : Int) := by rw [← HR.out, Int.natCast_emod]
      have e3 : (z : Int).tdiv (d : Int) = (q : Int) := by rw [Int.tdiv_eq_ediv_of_nonneg (by omega), e1]
      have e4 : (z : Int).tmod (d : Int) = (r : Int) := by rw [Int.tmod_eq_emod_of_nonneg (by omega), e2]
      have hzI : (l : Int) * 1000000000 + (g : Int) = (z : Int) := by have := HZ.out; omega
      have eq1 : ((l : Int) * 1000000000 + (g : Int)) / (d : Int) = (q : Int) := by rw [hzI, e1]
      have eq2 : ((l : Int) * 1000000000 + (g : Int)) % (d : Int) = (r : Int) := by rw [hzI, e2]
      have HzI := hid hzI
      clear hzI
      have e5 : IntKind.u64.wrap (q : Int) = (q : Int) := by simp [IntKind.wrap, IntKind.bits, IntKind.signed]; omega
      have e6 : IntKind.u64.wrap (r : Int) = (r : Int) := by simp [IntKind.wrap, IntKind.bits, IntKind.signed]; omega
      have HSet := hid (db_set x d G i)
      obtain ⟨L, HLL⟩ : ∃ L : List Nat, Hid (grpN G (x / 1000000000 ^ (i + 1) / d * 1000000000 ^ (i + 1)) = L) := ⟨_, rfl⟩
      have HLlen : Hid (L.length = G) := by show _ = _; rw [← HLL.out, grpN_length]
      rw [HLL.out] at HQ HSet
      have g1 := HQ.out.get i (by rw [HLlen.out]; exact hiG)
      have f1 := HQ.out.frozen i
      obtain ⟨old, HOld⟩ : ∃ old : Nat, Hid (L[i]'(by rw [HLlen.out]; exact hiG) = old) := ⟨_, hid rfl⟩
      rw [HOld.out] at g1
      have hi1 : ((i + 1 : Nat) : Int) - 1 = (i : Int) := by omega
      rw [hi1]
      clear hst
      go_wp2_with fail
      refine ⟨⟨i, by omega, rfl, ?_, ?_, HB.out.setCell (p := ⟨w.heap.size, i, none⟩) (Nat.le_refl _) _⟩, by simp [intOf] <;> omega⟩
      · rw [← HST.out.2, HZ.out, HR.out, eq2]
      · show GrA _ _ _
        rw [HSet.out, ← HST.out.1, HZ.out, HQq.out]
        exact HQ.out.set i q
theorem dividedByGroup_any (x d : Nat) (v : Value) (w : World) (h : NatA w v (grp x)) (hn : nG x ≤ 100000) (hd : d ≤ 1000000000) (hd0 : 0 < d) :
    Calls Tryd.prog 103 #[v, .int .u64 d] w fun e w' => ∃ u, e = .returned (.tuple #[u, .int .u64 ((x % d : Nat) : Int)]) ∧ NatA w' u (grp (x / d)) ∧ Below w.heap.size w w' := by
  refine (dividedByGroup_row x d v w h hn hd hd0).mono ?_
  rintro e w' ⟨u, rfl, h1, h2, h3⟩
  exact ⟨u, rfl, RowOf.mono h1 (fun b hb => by rw [hb]; exact h3), h2⟩
end Go.Proofs.YtbbffhpppacihaaDoor

namespace Go.Proofs.YtbbffhpppacihaaDoor
open Go.RowKit Go.Siskin

theorem splice_grp {M k V : Nat} (hk : k ≤ M) (hV : V < 1000000000 ^ k) : splice (numL .u64 (grpN M 0)) 0 (numL .u64 (grpN k V)) = numL .u64 (grpN M V) := by
  have e : grpN M V = grpN k V ++ (grpN M 0).drop k := by
    rw [grpN_drop, Nat.zero_div]
    apply List.ext_getElem
    · simp [grpN]; omega
    · intro i h1 h2
      rw [grpN_get, List.getElem_append]
      split
      · rw [grpN_get]
      · rename_i h
        rw [grpN_length] at h
        rw [grpN_get, Nat.zero_div, Nat.div_eq_of_lt (Nat.lt_of_lt_of_le hV (Nat.pow_le_pow_right (by decide) (by omega)))]
  unfold splice numL
  rw [e]
  simp [grpN_length]

theorem Tryd.sizeWord : (Tryd.prog.info? 80).map (·.size) = some 1 := by kernel_rfl

theorem res_doneZ {w W : World} {o : Obj} (h : Below (w.heap.size + 1) (w.alloc o) W) : Below w.heap.size w W := ((Below.refl _ _).alloc (Nat.le_refl _) _).trans (h.mono (Nat.le_succ _))

set_option maxRecDepth 20000 in
set_option maxHeartbeats 2000000 in
theorem widened_any (x M : Nat) (v : Value) (w : World) (h : NatA w v (grp x)) (hM : nG x ≤ M) (hn : M ≤ 200000) :
    Calls Tryd.prog 116 #[v, .int .i64 M] w fun e w' => e = .returned (.slice (some ⟨w.heap.size, 0, none⟩) M M) ∧ GrA w' w.heap.size (grpN M x) ∧ Below w.heap.size w w' := by
  have HNA := hid (h.alloc (.cells (madeCells #[Value.int .u64 0] M) 80))
  obtain ⟨ra, rc, rfl, h1, h2, h3⟩ := h
  rw [grp_length] at *
  unfold maxLen at h2
  obtain ⟨K, HK⟩ : ∃ K : Nat, Hid (nG x = K) := ⟨_, rfl⟩
  rw [HK.out] at h1 hM HNA ⊢
  have HLK : Hid (x < 1000000000 ^ K) := by show _ < _; rw [← HK.out]; exact lt_pow_nG _
  obtain ⟨i0, hi, hz0, hz1, hz2⟩ := info_partsZ Tryd.infoWordZ
  have Hi := hid hi
  have Hz0 := hid hz0
  have Hz1 := hid hz1
  have Hz2 := hid hz2
  clear hi hz0 hz1 hz2 h3
  have HMk : Hid (GrA (w.alloc (.cells (madeCells #[Value.int .u64 0] M) 80)) w.heap.size (grpN M 0)) := made_zero w M
  have HPos : Hid (0 < (numL .u64 (grpN K x)).length → ∃ ad, ra = some ad ∧ ∀ j v, (numL .u64 (grpN K x))[j]? = some v → (w.alloc (.cells (madeCells #[Value.int .u64 0] M) 80)).cell? (ad.add j) = some v) := by
    intro h0
    obtain ⟨ra', rc', e0, k1, k2, k3⟩ := HNA.out
    simp only [Value.slice.injEq] at e0
    obtain ⟨rfl, -, -⟩ := e0
    rcases k3 with h | ⟨b, o, e, hb, hc⟩
    · rw [numL_length, grpN_length] at h0
      have := congrArg List.length h; rw [grp_length, HK.out] at this; simp at this; omega
    · refine ⟨⟨b, o, none⟩, e, fun j v hj => ?_⟩
      have hjK : j < K := by
        rcases Nat.lt_or_ge j K with h | h
        · exact h
        · rw [List.getElem?_eq_none (by rw [numL_length, grpN_length]; exact h)] at hj; cases hj
      rw [numL_get .u64 _ j (by rw [grpN_length]; exact hjK), grpN_get] at hj
      rw [Go.WideShapes.add_plain, hc j (by rw [grp_length, HK.out]; exact hjK), ← hj]
      unfold grp; rw [grpN_get]
  have HOne : Hid (∀ v ∈ numL .u64 (grpN K x), v.oneCell' = true) := by
    intro u hu
    obtain ⟨z, _, rfl⟩ := List.mem_map.1 hu
    rfl
  have HBel : Hid (Below w.heap.size w (w.alloc (.cells (madeCells #[Value.int .u64 0] M) 80))) := (Below.refl _ _).alloc (Nat.le_refl _) _
  go_enter Tryd.func116, Tryd.ntmps116
  go_wp2_with first
    | (at_make; go_loud (refine wpList_make_new _ rfl _ _ 48 rfl 80 i0 (.int .u64 0) 1 Tryd.underlying48 Hi.out Hz0.out Hz1.out .i64 .i64 M (by rfl) (by rfl) (by rw [Hz2.out]; omega) (by unfold maxLen; omega) ?_))
    | (refine wpList_copy_splice rfl (.tmp 8) (.tmp 9) _ _ rfl 80 Tryd.underlying48 Tryd.sizeWord (some ⟨w.heap.size, 0, none⟩) ra M M K rc (by rfl) (by rfl) w.heap.size 0 (numL .u64 (grpN M 0)) 80 HMk.out (numL .u64 (grpN K x)) (by rw [numL_length, grpN_length]; exact (Nat.min_eq_left hM).symm) (fun h0 => ⟨rfl, HPos.out h0⟩) (by rw [numL_length, numL_length, grpN_length, grpN_length]; omega) HOne.out w.heap.size w HBel.out (Nat.le_refl _) ?_; intro w2 hw2 hb2)
  go_ret
  refine ⟨rfl, ?_, hb2⟩
  have h := hw2.out
  rw [splice_grp hM HLK.out] at h
  exact h

set_option maxRecDepth 20000 in
set_option maxHeartbeats 2000000 in
theorem scaledUp_any (x f : Nat) (v : Value) (w : World) (h : NatA w v (grp x)) (hn : nG x ≤ 100000) (hf : f ≤ 1000000000) :
    Calls Tryd.prog 104 #[v, .int .u64 f] w fun e w' => ∃ g, e = .returned (.slice (some ⟨g, 0, none⟩) (nG x + 1) (nG x + 1)) ∧ w.heap.size ≤ g ∧ g < w'.heap.size ∧ GrA w' g (grpN (nG x + 1) (x * f)) ∧ Below w.heap.size w w' := by
  have HTP : Hid (∀ (w : World) (v : Value), NatA w v (grp x) → Calls Tryd.prog 115 #[v, .int .u64 f, .int .u64 0] w fun e w' => ∃ u, e = .returned u ∧ NatA w' u (grp (x * f)) ∧ Below w.heap.size w w') := fun w v h => timesPlus_any x f 0 v w h hn hf (by decide)
  have hxf : x * f < 1000000000 ^ (nG x + 1) := by
    have h1 := lt_pow_nG x
    rw [Nat.pow_succ]
    rcases Nat.eq_zero_or_pos f with h0 | h0
    · subst h0; rw [Nat.mul_zero]; exact Nat.mul_pos (p9pos _) (by decide)
    · exact Nat.lt_of_lt_of_le (Nat.mul_lt_mul_of_pos_right h1 h0) (Nat.mul_le_mul_left _ hf)
  have hLe : nG (x * f) ≤ nG x + 1 := nG_le hxf
  have HNA := hid h
  obtain ⟨a, cap, rfl, h1, h2, h3⟩ := h
  rw [grp_length] at *
  unfold maxLen at h2
  have HWd : Hid (∀ (w : World) (v : Value), NatA w v (grp (x * f)) → Calls Tryd.prog 116 #[v, .int .i64 ((nG x : Int) + 1)] w fun e w' => e = .returned (.slice (some ⟨w.heap.size, 0, none⟩) (nG x + 1) (nG x + 1)) ∧ GrA w' w.heap.size (grpN (nG x + 1) (x * f)) ∧ Below w.heap.size w w') := fun w v h => by
    have h := widened_any (x * f) (nG x + 1) v w h hLe (by omega)
    exact h
  obtain ⟨G, HG⟩ : ∃ G : Nat, Hid (nG x = G) := ⟨_, rfl⟩
  rw [HG.out] at h1 hn HNA HWd ⊢
  clear h3 hxf hLe
  go_enter Tryd.func104, Tryd.ntmps104
  go_wp2_with fail
  refine (HTP.out _ _ HNA.out).mono ?_
  rintro e w1 ⟨u, rfl, hu, hw⟩
  obtain ⟨qa, qc, rfl⟩ := natA_formR hu
  have HU := hid hu
  have HW := hid hw
  clear hu hw
  go_wp2_with fail
  refine (HWd.out _ _ HU.out).mono ?_
  rintro e w2 ⟨rfl, hg, hw2⟩
  have HG2 := hid hg
  have HW2 := hid (HW.out.trans (hw2.mono HW.out.size))
  have HLe := hid HW.out.size
  clear hg hw2
  go_wp2_with fail
  go_ret
  exact ⟨_, rfl, HLe.out, HG2.out.lt, HG2.out, HW2.out⟩
end Go.Proofs.YtbbffhpppacihaaDoor
