/-
  The program's dividedBy, its long case, and whole. Condition: the groups lie in memory as NatA says, what is divided by is not nought.
  The program's naturalIn, walked.
  The model's l11Add: the sum of two numbers in decimal digits. Condition: the two are numerals of at most 100,000 digits.
  The model's l11Sub: what is left when a number is taken from one that is not less. Condition: numerals of at most 100,000 digits.
-/
import Derived.Test.YtbbffhpppacihaaDoorPart5
import Derived.Test.YtbbffhpppacihaaDoorPart4
import Derived.Test.YtbbffhpppacihaaDoorPart3
namespace Go.Proofs.YtbbffhpppacihaaDoor
open Go.RowKit Go.Siskin

theorem grA_row {w : World} {b b1 cap : Nat} {ls : List Nat} (h : GrA w b ls) (hne : b ≠ b1) (h1 : ls.length ≤ cap) (h2 : cap ≤ maxLen) : RowOf .u64 (fun k => k ≠ b1) w (.slice (some ⟨b, 0, none⟩) ls.length cap) ls :=
  ⟨some ⟨b, 0, none⟩, cap, rfl, h1, h2, Or.inr ⟨b, 0, rfl, hne, fun i hi => by rw [Nat.zero_add]; exact h.get i hi⟩⟩
theorem GrA.other {w w' : World} {b b1 : Nat} {ls : List Nat} (h : GrA w b ls) (hw : Wr b1 w w') (hne : b ≠ b1) : GrA w' b ls := (hw.2.1 b hne).trans h
theorem GrA.setOther {w : World} {b b1 : Nat} {ls : List Nat} (h : GrA w b ls) (i : Nat) (u : Value) (hne : b ≠ b1) : GrA (w.setCell ⟨b1, i, none⟩ u) b ls := (Below.heap_setCell w ⟨b1, i, none⟩ u b hne).trans h

set_option maxRecDepth 20000 in
set_option maxHeartbeats 8000000 in
theorem dividedBy_long (x y L m : Nat) (vx vy : Value) (w : World) (hx : NatA w vx (grp x)) (hy : NatA w vy (grp y)) (HLx : Hid (nG x = L)) (HLy : Hid (nG y = m)) (hn : L ≤ 1000) (hm2 : 2 ≤ m) (hle : m ≤ L) :
    Calls Tryd.prog 85 #[vx, vy] w fun e w' => ∃ q r, e = .returned (.tuple #[q, r]) ∧ NatA w' q (grp (x / y)) ∧ NatA w' r (grp (x % y)) ∧ Below w.heap.size w w' := by
  have hy0 : 0 < y := by
    rcases Nat.eq_zero_or_pos y with h | h
    · subst h; have := HLy.out; simp [nG] at this; omega
    · exact h
  obtain ⟨t, HT⟩ : ∃ t : Nat, Hid (y / 1000000000 ^ (m - 1) = t) := ⟨_, rfl⟩
  obtain ⟨sc, HSc⟩ : ∃ sc : Nat, Hid (1000000000 / (t + 1) = sc) := ⟨_, rfl⟩
  obtain ⟨hsc0, hsc9, hs1, hs2, ht9⟩ := scale_facts hy0 HLy.out HT.out HSc.out
  have hst := start_small (x := x) HLx.out HLy.out hle hy0 hsc0
  obtain ⟨b, o, yc, rfl, gy⟩ := natA_get hy (m - 1) (by rw [HLy.out]; omega)
  have htop := top_get hy0
  rw [HLy.out] at htop
  rw [htop, HT.out] at gy
  have HX := hid hx
  have HY := hid hy
  have HSx := hid (fun (w : World) (h : NatA w vx (grp x)) => scaledUp_any x sc vx w h (by rw [HLx.out]; omega) hsc9)
  have HSy := hid (fun (w : World) (h : NatA w (.slice (some ⟨b, o, none⟩) (nG y) yc) (grp y)) => scaledUp_any y sc _ w h (by rw [HLy.out]; omega) hsc9)
  obtain ⟨ya, yc', e', y1, y2, -⟩ := hy
  obtain ⟨xa, xc, rfl, x1, x2, -⟩ := hx
  simp only [grp_length] at *
  simp only [Value.slice.injEq, true_and] at e'
  obtain ⟨-, rfl⟩ := e'
  unfold maxLen at x2 y2
  rw [HLx.out] at HSx HX x1 ⊢
  rw [HLy.out] at HSy HY y1 ⊢
  obtain ⟨U, HU⟩ : ∃ U : Nat, Hid (x * sc = U) := ⟨_, rfl⟩
  obtain ⟨s, HS⟩ : ∃ s : Nat, Hid (y * sc = s) := ⟨_, rfl⟩
  rw [HU.out] at HSx hst
  rw [HS.out] at HSy hst hs1 hs2
  have HSt := hid hst
  have HS1 := hid hs1
  have HS2 := hid hs2
  have HSp : Hid (0 < s) := Nat.lt_of_lt_of_le (p9pos _) hs2
  have hlt : ¬ (L : Int) < (m : Int) := by omega
  have hmne : ((m : Int) == 1) = false := by rw [beq_eq_false_iff_ne]; omega
  obtain ⟨m', hm'⟩ : ∃ m', m = m' + 1 := ⟨m - 1, by omega⟩
  have hm'I : (m : Int) - 1 = (m' : Int) := by omega
  have hmm : m - 1 = m' := by omega
  rw [hmm] at gy
  have hm'lt : (m' : Int) < (m : Int) := by omega
  have htI : (t : Int) + 1 ≠ 0 := by omega
  have hsI : (1000000000 : Int) / ((t : Int) + 1) = (sc : Int) := by rw [← HSc.out]; simp
  have hsI2 : (1000000000 : Int).tdiv ((t : Int) + 1) = (sc : Int) := by rw [Int.tdiv_eq_ediv_of_nonneg (by omega), hsI]
  have hsI3 : IntKind.u64.wrap (sc : Int) = (sc : Int) := by simp [IntKind.wrap, IntKind.bits, IntKind.signed]; omega
  obtain ⟨i0, hi, hz0, hz1, hz2⟩ := info_partsZ Tryd.infoWordZ
  have Hi := hid hi
  have Hz0 := hid hz0
  have Hz1 := hid hz1
  have Hz2 := hid hz2
  obtain ⟨N, HN⟩ : ∃ N : Nat, Hid (L + 1 - m = N) := ⟨_, rfl⟩
  have hNI : (L : Int) + 1 - (m : Int) = (N : Int) := by have := HN.out; omega
  have hN1 : N ≤ 1000 := by have := HN.out; omega
  have HM' := hid hm'
  clear hi hz0 hz1 hz2 hst hs1 hs2 htop hmm hm'
  go_enter Tryd.func85, Tryd.ntmps85
  go_wp2_with fail
  refine (HSx.out _ HX.out).mono ?_
  rintro e w1 ⟨p1, rfl, hp1, hs1, hG1, hb1⟩
  have HB1 := hid hb1
  have HL1 := hid hG1
  clear hG1 hb1
  go_wp2_with fail
  refine (HSy.out _ (HY.out.below HB1.out (Nat.le_refl _))).mono ?_
  rintro e w2 ⟨p2, rfl, hp2, hs2, hG2, hb2⟩
  have HB2 := hid (HB1.out.trans (hb2.mono HB1.out.size))
  have HL2 := hid (HL1.out.keep hb2 hs1)
  have HS2' := hid hG2
  clear hG2 hb2
  go_wp2_with (at_make; go_loud (refine wpList_make_new _ rfl _ _ 48 rfl 80 i0 (.int .u64 0) 1 Tryd.underlying48 Hi.out Hz0.out Hz1.out .i64 .i64 N (by rfl) (by rfl) (by rw [Hz2.out]; omega) (by unfold maxLen; omega) ?_))
  go_loopw [12] (fun i wr => ∃ j : Nat, j ≤ N ∧ i = .int .i64 ((j : Int) - 1) ∧ Hid (GrA wr p1 (grpN (L + 1) (U / 1000000000 ^ j % s * 1000000000 ^ j + U % 1000000000 ^ j))) ∧ Hid (GrA wr p2 (grpN (m + 1) s)) ∧ Hid (GrA wr w2.heap.size (grpN N (U / 1000000000 ^ j / s * 1000000000 ^ j))) ∧ Hid (Below w.heap.size w wr)) (fun i _ => (intOf i + 1).toNat)
  case atStart =>
    have hst := HSt.out
    rw [HN.out] at hst
    refine ⟨N, Nat.le_refl _, rfl, ?_, ?_, ?_, HB2.out.alloc (by omega) _⟩
    · show GrA _ _ _
      rw [Nat.mod_eq_of_lt hst, Nat.mul_comm, Nat.div_add_mod]
      exact HL2.out.keep ((Below.refl w2.heap.size w2).alloc (Nat.le_refl _) _) (by omega)
    · exact GrA.keep HS2'.out ((Below.refl w2.heap.size w2).alloc (Nat.le_refl _) _) hs2
    · show GrA _ _ _
      rw [Nat.div_eq_of_lt hst, Nat.zero_mul]
      exact made_zero w2 N
  case round =>
    obtain ⟨j, hj, rfl, HQ1, HQ2, HQ3, HB⟩ := hrel
    have hsz := HB.out.size
    by_cases hj0 : j = 0
    · subst hj0
      rw [Nat.pow_zero, Nat.div_one, Nat.mul_one, Nat.mod_one, Nat.add_zero] at HQ1
      rw [Nat.pow_zero, Nat.div_one, Nat.mul_one] at HQ3
      have hUs : U / s = x / y := by rw [← HU.out, ← HS.out, Nat.mul_div_mul_right _ _ hsc0]
      have hUm : U % s / sc = x % y := by rw [← HU.out, ← HS.out, Nat.mul_mod_mul_right, Nat.mul_div_cancel _ hsc0]
      rw [hUs] at HQ3
      have hUsl : U % s < 1000000000 ^ (L + 1) := Nat.lt_of_lt_of_le (Nat.mod_lt _ HSp.out) (Nat.le_trans (Nat.le_of_lt HS1.out) (Nat.pow_le_pow_right (by decide) (by omega)))
      have HT1 := hid (trimmed_any (L + 1) (U % s) (.slice (some ⟨p1, 0, none⟩) (L + 1) (L + 1)) wr (by have h := HQ1.out.natA (cap := L + 1) (by rw [grpN_length]; omega) (by unfold maxLen; omega); rw [grpN_length] at h; exact h) hUsl)
      have HDv := hid (fun (v : Value) (w : World) (h : NatA w v (grp (U % s))) => dividedByGroup_any (U % s) sc v w h (Nat.le_trans (nG_le hUsl) (by omega)) hsc9 hsc0)
      rw [hUm] at HDv
      have HXY : Hid (x / y < 1000000000 ^ N) := by
        have h := HSt.out
        rw [HN.out] at h
        have h2 : U / s < 1000000000 ^ N := by
          refine Nat.div_lt_of_lt_mul ?_
          have h3 := Nat.div_add_mod U (1000000000 ^ N)
          have h4 := Nat.mod_lt U (p9pos N)
          generalize 1000000000 ^ N = P at *
          have h5 := Nat.mul_le_mul_left P (Nat.succ_le_of_lt h)
          rw [Nat.succ_eq_add_one, Nat.mul_add, Nat.mul_one] at h5
          rw [Nat.mul_comm s P]; omega
        show _ < _; rw [← hUs]; exact h2
      have HT2 := hid (fun (wr : World) (h : GrA wr w2.heap.size (grpN N (x / y))) => trimmed_any N (x / y) (.slice (some ⟨w2.heap.size, 0, none⟩) N N) wr (by have h := h.natA (cap := N) (by rw [grpN_length]; omega) (by unfold maxLen; omega); rw [grpN_length] at h; exact h) HXY.out)
      clear hUs hUm hUsl
      go_wp2_with fail
      refine HT1.out.mono ?_
      rintro e w' ⟨u, rfl, hu, hw⟩
      obtain rfl := hw.symm
      have HU1 := hid hu
      obtain ⟨ua, uc, rfl⟩ := natA_formR hu
      clear hu
      go_wp2_with fail
      refine (HDv.out _ _ HU1.out).mono ?_
      rintro e w3 ⟨r, rfl, hr, hw3⟩
      have HR := hid hr
      have HW3 := hid hw3
      obtain ⟨ra, rc, rfl⟩ := natA_formR hr
      have HQ4 : Hid (GrA w3 w2.heap.size (grpN N (x / y))) := GrA.keep HQ3.out hw3 HQ3.out.lt
      clear hr hw3
      go_wp2_with fail
      refine (HT2.out _ HQ4.out).mono ?_
      rintro e w' ⟨q, rfl, hq, hw⟩
      obtain rfl := hw.symm
      have HQq := hid hq
      obtain ⟨qa, qc, rfl⟩ := natA_formR hq
      clear hq
      go_wp2_with fail
      go_ret2
      exact ⟨.slice qa _ qc, .slice ra _ rc, rfl, HQq.out, HR.out, HB.out.trans (HW3.out.mono HB.out.size)⟩
    · obtain ⟨i, rfl⟩ : ∃ i, j = i + 1 := ⟨j - 1, by omega⟩
      have hi1 : ((i + 1 : Nat) : Int) - 1 = (i : Int) := by omega
      rw [hi1]
      have HNi : Hid (i + (m + 1) ≤ L + 1) := by have := HN.out; show _ ≤ _; omega
      have HNm : Hid (m + 1 ≤ L + 1 - i ∧ L + 1 - i ≤ 1000000) := by have := HN.out; exact ⟨by omega, by omega⟩
      have hrf := round_facts (U := U) (i := i) HSp.out
      have hds := db_step U s i HSp.out
      obtain ⟨V, HV⟩ : ∃ V : Nat, Hid (U / 1000000000 ^ (i + 1) % s * 1000000000 ^ (i + 1) + U % 1000000000 ^ (i + 1) = V) := ⟨_, rfl⟩
      rw [HV.out] at HQ1 hrf
      have HTk := hid (fun (wr : World) (h1 : GrA wr p1 (grpN (L + 1) V)) (h2 : GrA wr p2 (grpN (m + 1) s)) => takeMost_any (L + 1) V s p1 i m (L + 1 - i) (L + 1 - i) (.slice (some ⟨p2, 0, none⟩) (m + 1) (m + 1)) wr h1 (by have h := grA_row h2 (b1 := p1) (by omega) (cap := m + 1) (by rw [grpN_length]; omega) (by unfold maxLen; omega); rw [grpN_length] at h; exact h) HNi.out HNm.out.1 (Nat.le_refl _) HNm.out.2 (by omega) (by rw [hrf.1]; exact hrf.2.2) HS1.out HS2.out)
      rw [hrf.1, hrf.2.1, hds.1, hds.2] at HTk
      have HSet := hid (db_set U s N i)
      obtain ⟨q, HQq⟩ : ∃ q : Nat, Hid (U / 1000000000 ^ i / s % 1000000000 = q) := ⟨_, rfl⟩
      rw [HQq.out] at HTk HSet
      obtain ⟨LL, HLL⟩ : ∃ LL : List Nat, Hid (grpN N (U / 1000000000 ^ (i + 1) / s * 1000000000 ^ (i + 1)) = LL) := ⟨_, rfl⟩
      have HLlen : Hid (LL.length = N) := by show _ = _; rw [← HLL.out, grpN_length]
      rw [HLL.out] at HQ3 HSet
      have hiN : i < N := by omega
      have hcap : ¬ (L + 1 = i) := by have := HN.out; omega
      have hiL : (i : Int) ≤ (L : Int) + 1 := by have := HN.out; omega
      clear hrf hds
      go_wp2_with fail
      refine (HTk.out _ HQ1.out HQ2.out).mono ?_
      rintro e w3 ⟨rfl, hG, hW⟩
      have HGn := hid hG
      have HWn := hid hW
      have HQ3n : Hid (GrA w3 w2.heap.size LL) := GrA.other HQ3.out hW (by omega)
      have HQ2n : Hid (GrA w3 p2 (grpN (m + 1) s)) := GrA.other HQ2.out hW (by omega)
      have g1 := HQ3n.out.get i (by rw [HLlen.out]; exact hiN)
      have f1 := HQ3n.out.frozen i
      obtain ⟨old, HOld⟩ : ∃ old : Nat, Hid (LL[i]'(by rw [HLlen.out]; exact hiN) = old) := ⟨_, hid rfl⟩
      rw [HOld.out] at g1
      have HB3 : Hid (Below w.heap.size w w3) := HB.out.trans (hW.1.mono hp1)
      clear hG hW
      go_wp2_with fail
      refine ⟨⟨i, by omega, rfl, ?_, GrA.setOther HQ2n.out _ _ (by omega), ?_, HB3.out.setCell (p := ⟨w2.heap.size, i, none⟩) (by show w.heap.size ≤ w2.heap.size; omega) _⟩, by simp [intOf] <;> omega⟩
      · show GrA _ _ _
        have h := GrA.setOther HGn.out i (.int .u64 (q : Int)) (show p1 ≠ w2.heap.size by omega)
        rw [Nat.add_comm (U % 1000000000 ^ i), Nat.mul_comm (1000000000 ^ i)] at h
        exact h
      · show GrA _ _ _
        rw [HSet.out]
        exact HQ3n.out.set i q

theorem dividedBy_any (x y : Nat) (vx vy : Value) (w : World) (hx : NatA w vx (grp x)) (hy : NatA w vy (grp y)) (hy0 : 0 < y) (hn : nG x ≤ 1000) :
    Calls Tryd.prog 85 #[vx, vy] w fun e w' => ∃ q r, e = .returned (.tuple #[q, r]) ∧ NatA w' q (grp (x / y)) ∧ NatA w' r (grp (x % y)) ∧ Below w.heap.size w w' := by
  by_cases h1 : nG x < nG y
  · exact dividedBy_small x y vx vy w hx hy h1
  · by_cases h2 : nG y = 1
    · exact dividedBy_one x y vx vy w hx hy hn h2 h1
    · have := nG_pos hy0
      exact dividedBy_long x y _ _ vx vy w hx hy rfl rfl hn (by omega) (by omega)

/-- What a slice of groups comes to, read out of memory. -/
def natRead (w : World) : Value → Nat
  | .slice (some a) n _ => ((List.range n).map fun i => (match w.cell? (a.add i) with | some (.int _ z) => z.toNat | _ => 0) * 1000000000 ^ i).sum
  | _ => 0
theorem sum_groups (x : Nat) : ∀ m : Nat, ((List.range m).map fun i => x / 1000000000 ^ i % 1000000000 * 1000000000 ^ i).sum = x % 1000000000 ^ m
  | 0 => by simp [Nat.mod_one]
  | m + 1 => by
    rw [List.range_succ, List.map_append, List.sum_append, sum_groups x m, Nat.mod_pow_succ]
    simp [Nat.mul_comm]
theorem natRead_eq {w : World} {v : Value} {x : Nat} (h : NatA w v (grp x)) : natRead w v = x := by
  obtain ⟨a, cap, rfl, h1, h2, h3⟩ := h
  rw [grp_length] at *
  rcases h3 with h3 | ⟨b, o, rfl, -, hc⟩
  · have hx : nG x = 0 := by have := congrArg List.length h3; rw [grp_length] at this; simpa using this
    have hx0 := nG_is_zero.1 hx
    subst hx0
    rw [hx]
    unfold natRead
    cases a <;> rfl
  · show ((List.range (nG x)).map fun i => (match w.cell? ((⟨b, o, none⟩ : Addr).add i) with | some (.int _ z) => z.toNat | _ => 0) * 1000000000 ^ i).sum = x
    have e : ((List.range (nG x)).map fun i => (match w.cell? ((⟨b, o, none⟩ : Addr).add i) with | some (.int _ z) => z.toNat | _ => 0) * 1000000000 ^ i) = (List.range (nG x)).map fun i => x / 1000000000 ^ i % 1000000000 * 1000000000 ^ i := by
      refine List.map_congr_left fun i hi => ?_
      have hi' : i < nG x := List.mem_range.1 hi
      rw [Go.WideShapes.add_plain, hc i (by rw [grp_length]; exact hi')]
      show (((grp x)[i]'(by rw [grp_length]; exact hi') : Nat) : Int).toNat * _ = _
      rw [Int.toNat_natCast]
      congr 1
      unfold grp; rw [grpN_get]
    rw [e, sum_groups, Nat.mod_eq_of_lt (lt_pow_nG x)]

set_option maxRecDepth 20000 in
set_option maxHeartbeats 2000000 in
theorem commonOf_any (a b : Nat) (va vb : Value) (w : World) (ha : NatA w va (grp a)) (hb : NatA w vb (grp b)) (hna : nG a ≤ 1000) (hnb : nG b ≤ 1000) :
    Calls Tryd.prog 61 #[va, vb] w fun e w' => ∃ g, e = .returned g ∧ NatA w' g (grp (Nat.gcd a b)) ∧ Below w.heap.size w w' := by
  obtain ⟨G, HG⟩ : ∃ G : Nat, Hid (Nat.gcd a b = G) := ⟨_, rfl⟩
  rw [HG.out]
  have HA := hid ha
  have HBb := hid hb
  obtain ⟨aa, ac, rfl⟩ := natA_formR ha
  obtain ⟨ba, bc, rfl⟩ := natA_formR hb
  have HNa := hid hna
  have HNb := hid hnb
  clear ha hb hna hnb
  go_enter Tryd.func61, Tryd.ntmps61
  go_wp2_with fail
  go_loopw [0, 1] (fun x y wr => ∃ (u v : Nat) (xa ya : Option Addr) (xc yc : Nat), x = .slice xa (grp u).length xc ∧ y = .slice ya (grp v).length yc ∧ Hid (NatA wr (.slice xa (grp u).length xc) (grp u)) ∧ Hid (NatA wr (.slice ya (grp v).length yc) (grp v)) ∧ Hid (Nat.gcd u v = G) ∧ Hid (nG u ≤ 1000) ∧ Hid (nG v ≤ 1000) ∧ Hid (Below w.heap.size w wr)) (fun _ y wr => natRead wr y)
  case atStart => exact ⟨a, b, aa, ba, ac, bc, rfl, rfl, HA.out, HBb.out, HG.out, HNa.out, HNb.out, Below.refl _ _⟩
  case round =>
    obtain ⟨u, v, xa, ya, xc, yc, rfl, rfl, HU, HV, HGu, HNu, HNv, HB⟩ := hrel
    have hsz := HB.out.size
    have HNo := hid (isNought_any v _ wr HV.out)
    by_cases hv : v = 0
    · have hvb : (v == 0) = true := by rw [hv]; rfl
      rw [hvb] at HNo
      have HE : Hid (u = G) := by rw [← HGu.out, hv]; exact (Nat.gcd_zero_right u).symm
      clear hv hvb
      go_wp2_with fail
      refine HNo.out.mono ?_
      rintro e w' ⟨rfl, hw⟩
      obtain rfl := hw.symm
      go_wp2_with fail
      go_ret
      exact ⟨.slice xa (grp u).length xc, rfl, by rw [← HE.out]; exact HU.out, HB.out⟩
    · have hvb : (v == 0) = false := by rw [beq_eq_false_iff_ne]; exact hv
      rw [hvb] at HNo
      have HD := hid (dividedBy_any u v _ _ wr HU.out HV.out (by omega) HNu.out)
      have HM : Hid (u % v < v) := Nat.mod_lt _ (by omega)
      have HGs : Hid (Nat.gcd v (u % v) = G) := by
        show _ = _
        rw [← HGu.out, Nat.gcd_comm u v, Nat.gcd_rec v u, Nat.gcd_comm]
      have HN2 : Hid (nG (u % v) ≤ 1000) := by
        show _ ≤ _
        exact Nat.le_trans (nG_mono (Nat.le_of_lt HM.out)) HNv.out
      have HRd : Hid (natRead wr (.slice ya (grp v).length yc) = v) := natRead_eq HV.out
      clear hv hvb
      go_wp2_with fail
      refine HNo.out.mono ?_
      rintro e w' ⟨rfl, hw⟩
      obtain rfl := hw.symm
      go_wp2_with fail
      refine HD.out.mono ?_
      rintro e w2 ⟨q, r, rfl, hq, hr, hw⟩
      have HR := hid hr
      have HW := hid hw
      obtain ⟨ra, rc, rfl⟩ := natA_formR hr
      obtain ⟨qa, qc, rfl⟩ := natA_formR hq
      have HVn : Hid (NatA w2 (.slice ya (grp v).length yc) (grp v)) := HV.out.below hw (Nat.le_refl _)
      have HRd2 : Hid (natRead w2 (.slice ra (grp (u % v)).length rc) = u % v) := natRead_eq hr
      clear hq hr hw
      go_wp2_with fail
      refine ⟨⟨v, u % v, ya, ra, yc, rc, rfl, rfl, HVn.out, HR.out, HGs, HNv, HN2, HB.out.trans (HW.out.mono hsz)⟩, ?_⟩
      have h1 := HRd.out
      have h2 := HRd2.out
      have h3 := HM.out
      show natRead w2 (.slice ra (grp (u % v)).length rc) < natRead wr (.slice ya (grp v).length yc)
      omega
end Go.Proofs.YtbbffhpppacihaaDoor

namespace Go.Proofs.YtbbffhpppacihaaDoor
open Go.RowKit Go.Siskin

theorem natA_formQ {w : World} {v : Value} {gs : List Nat} (h : NatA w v gs) : ∃ a cap, v = .slice a gs.length cap := by
  obtain ⟨a, cap, e, -⟩ := h
  exact ⟨a, cap, e⟩

set_option maxRecDepth 20000 in
set_option maxHeartbeats 2000000 in
theorem naturalIn_of (v n : Nat) (w : World) (HNv : Hid (Lib.nDigits v = n)) (hn : n ≤ 100000) (hP : Pow9 w) :
    Calls Tryd.prog 80 #[.string (dec v)] w fun e w' => ∃ u, e = .returned u ∧ NatA w' u (grp v) ∧ Below w.heap.size w w' := by
  have hla : ((dec v).size : Int) = (n : Int) := by rw [dec_size, HNv.out]
  have hsz0 : (dec v).size = n := by rw [dec_size, HNv.out]
  have HDig : Hid (∀ i (h : i < (dec v).size), (((dec v)[i]).toNat : Int) = 48 + ((v / 10 ^ (n - 1 - i) % 10 : Nat) : Int)) := by
    intro i h
    have h2 := digT_nat (Lib.nDigits v) v i h
    rw [← HNv.out]
    exact h2
  have HP := hid hP
  have HSz := hid hsz0
  obtain ⟨i0, hi, hz0, hz1, hz2⟩ := info_partsZ Tryd.infoWordZ
  have Hi := hid hi
  have Hz0 := hid hz0
  have Hz1 := hid hz1
  have Hz2 := hid hz2
  clear hi hz0 hz1 hz2 hP hsz0
  obtain ⟨M, HMM⟩ : ∃ M : Nat, Hid (n / 9 + 1 = M) := ⟨_, rfl⟩
  have hM1 : (n : Int) / 9 + 1 = (M : Int) := by have := HMM.out; omega
  have hMl : M ≤ 20000 := by have := HMM.out; omega
  go_enter Tryd.func80, Tryd.ntmps80
  go_wp2_with (at_make; go_loud (refine wpList_make_new _ rfl _ _ 48 rfl 80 i0 (.int .u64 0) 1 Tryd.underlying48 Hi.out Hz0.out Hz1.out .i64 .i64 M rfl rfl (by rw [Hz2.out]; omega) (by unfold maxLen; omega) ?_))
  go_loopw [13] (fun i wr => ∃ k : Nat, k ≤ n ∧ i = .int .i64 k ∧ Hid (GrA wr w.heap.size (grpN M (v / 10 ^ (n - k) * 10 ^ (n - k)))) ∧ Hid (Below w.heap.size w wr)) (fun i _ => n - (intOf i).toNat)
  case atStart =>
    refine ⟨0, Nat.zero_le _, rfl, ?_, (Below.refl _ _).alloc (Nat.le_refl _) _⟩
    have e : v / 10 ^ (n - 0) * 10 ^ (n - 0) = 0 := by rw [Nat.sub_zero, Nat.div_eq_of_lt (by rw [← HNv.out]; exact Lib.lt_pow_nDigits v), Nat.zero_mul]
    show GrA _ _ _
    rw [e]
    exact made_zero w M
  case round =>
    obtain ⟨k, hk, rfl, HQ, HB⟩ := hrel
    have hsz := HB.out.size
    by_cases hlt : k < n
    · obtain ⟨p, HPp⟩ : ∃ p : Nat, Hid (n - 1 - k = p) := ⟨_, rfl⟩
      have hpi : (n : Int) - 1 - (k : Int) = (p : Int) := by have := HPp.out; omega
      have hpn : p < n := by have := HPp.out; omega
      obtain ⟨q, HQq⟩ : ∃ q : Nat, Hid (p / 9 = q) := ⟨_, rfl⟩
      obtain ⟨r, HR⟩ : ∃ r : Nat, Hid (p % 9 = r) := ⟨_, rfl⟩
      have hq1 : ((p : Int)).tdiv 9 = (q : Int) := by rw [Int.tdiv_eq_ediv_of_nonneg (by omega), ← HQq.out]; omega
      have hr1 : ((p : Int)).tmod 9 = (r : Int) := by rw [Int.tmod_eq_emod_of_nonneg (by omega), ← HR.out]; omega
      have hq2 : (p : Int) / 9 = (q : Int) := by rw [← HQq.out]; omega
      have hr2 : (p : Int) % 9 = (r : Int) := by rw [← HR.out]; omega
      have hqM : q < M := by have := HQq.out; have := HMM.out; omega
      have hr9 : r < 9 := by have := HR.out; omega
      have hfd := first_digits (v := v) hlt
      obtain ⟨d, HD⟩ : ∃ d : Nat, Hid (v / 10 ^ (n - 1 - k) % 10 = d) := ⟨_, rfl⟩
      have hd10 : d < 10 := by rw [← HD.out]; exact Nat.mod_lt _ (by decide)
      have hdig := HDig.out k (by rw [HSz.out]; exact hlt)
      rw [HD.out] at hfd hdig
      have HPd := hid (put_digit M (v / 10 ^ (n - k)) p d hd10)
      rw [HPp.out] at hfd
      have HF1 := hid hfd.1
      have HF2 := hid hfd.2
      have HPd2 : Hid (grpN M (v / 10 ^ (n - (k + 1)) * 10 ^ (n - (k + 1))) = (grpN M (v / 10 ^ (n - k) * 10 ^ (n - k))).set q (v / 10 ^ (n - k) * 10 ^ (n - k) / 1000000000 ^ q % 1000000000 + d * 10 ^ r)) := by
        show _ = _
        rw [HF1.out, HF2.out, HPd.out, HQq.out, HR.out]
      obtain ⟨L, HL⟩ : ∃ L : List Nat, Hid (grpN M (v / 10 ^ (n - k) * 10 ^ (n - k)) = L) := ⟨_, rfl⟩
      have HLlen : Hid (L.length = M) := by show _ = _; rw [← HL.out, grpN_length]
      obtain ⟨x, HX⟩ : ∃ x : Nat, Hid (v / 10 ^ (n - k) * 10 ^ (n - k) / 1000000000 ^ q % 1000000000 = x) := ⟨_, rfl⟩
      have hx9 : x < 1000000000 := by rw [← HX.out]; exact Nat.mod_lt _ (by decide)
      rw [HL.out] at HQ HPd2
      rw [HX.out] at HPd2
      have g1 : wr.cell? ⟨w.heap.size, q, none⟩ = some (.int .u64 (x : Int)) := by
        have h := HQ.out.get q (by rw [HLlen.out]; exact hqM)
        have e : L[q]'(by rw [HLlen.out]; exact hqM) = x := by
          have e1 : (grpN M (v / 10 ^ (n - k) * 10 ^ (n - k)))[q]'(by rw [grpN_length]; exact hqM) = x := by rw [grpN_get]; exact HX.out
          rw [← e1]; congr 1; exact HL.out.symm
        rw [e] at h; exact h
      have f1 := HQ.out.frozen q
      have g2 := (HP.out.below HB.out (Nat.le_refl _)).2 r hr9
      obtain ⟨t, HT⟩ : ∃ t : Nat, Hid (10 ^ r = t) := ⟨_, rfl⟩
      rw [HT.out] at g2 HPd2
      have ht1 : t ≤ 100000000 := by rw [← HT.out]; exact Nat.le_trans (Nat.pow_le_pow_right (by decide) (show r ≤ 8 by omega)) (by decide)
      obtain ⟨c, HC⟩ : ∃ c : UInt8, Hid ((dec v)[k]'(by rw [HSz.out]; exact hlt) = c) := ⟨_, hid rfl⟩
      rw [HC.out] at hdig
      have hkd : k < (dec v).size := by rw [HSz.out]; exact hlt
      have hwq : IntKind.i64.wrap (q : Int) = (q : Int) := by simp [IntKind.wrap, IntKind.bits, IntKind.signed]; omega
      have hqMI : (q : Int) < (M : Int) := by omega
      have hr9I : (r : Int) < 9 := by omega
      have hkI : (k : Int) < (n : Int) := by omega
      obtain ⟨z, HZ⟩ : ∃ z : Nat, Hid (x + d * t = z) := ⟨_, rfl⟩
      rw [HZ.out] at HPd2
      have hval : IntKind.u64.wrap ((x : Int) + IntKind.u64.wrap (IntKind.u64.wrap (IntKind.u8.wrap ((((dec v)[k]'hkd).toNat : Int) - 48)) * (t : Int))) = (z : Int) := by
        have e1 : (((dec v)[k]'hkd).toNat : Int) = 48 + (d : Int) := by rw [← hdig, ← HC.out]
        rw [e1]
        have e2 : IntKind.u8.wrap (48 + (d : Int) - 48) = (d : Int) := by simp [IntKind.wrap, IntKind.bits, IntKind.signed]; omega
        have e3 : IntKind.u64.wrap (d : Int) = (d : Int) := by simp [IntKind.wrap, IntKind.bits, IntKind.signed]; omega
        have hdt : d * t ≤ 1000000000 := Nat.le_trans (Nat.mul_le_mul (show d ≤ 10 by omega) ht1) (by decide)
        have e4 : (d : Int) * (t : Int) = ((d * t : Nat) : Int) := by simp
        rw [e2, e3, e4]
        have hz := HZ.out
        generalize d * t = y at *
        have e5 : IntKind.u64.wrap (y : Int) = (y : Int) := by simp [IntKind.wrap, IntKind.bits, IntKind.signed]; omega
        rw [e5]
        simp [IntKind.wrap, IntKind.bits, IntKind.signed]; omega
      clear hfd
      go_wp2_with fail
      go_region_law (fail)
      all_goals
        go_wp2_with fail
        refine ⟨⟨k + 1, by omega, by go_num, ?_, (HB.out.setCell (p := ⟨w.heap.size, q, none⟩) (Nat.le_refl _) _).drew⟩, by simp [intOf]; omega⟩
        show GrA _ _ _
        rw [HPd2.out]
        exact HQ.out.set q z
    · obtain rfl : k = n := by omega
      have e : v / 10 ^ (k - k) * 10 ^ (k - k) = v := by rw [Nat.sub_self, Nat.pow_zero, Nat.div_one, Nat.mul_one]
      rw [e] at HQ
      have HT := hid (trimmed_any M v (.slice (some ⟨w.heap.size, 0, none⟩) M M) wr (by have h := HQ.out.natA (cap := M) (by rw [grpN_length]; omega) (by unfold maxLen; omega); rw [grpN_length] at h; exact h) (by
        rw [p9k]
        refine Nat.lt_of_lt_of_le (Lib.lt_pow_nDigits v) (Nat.pow_le_pow_right (by decide) ?_)
        have := HNv.out; have := HMM.out; omega))
      clear e
      go_wp2_with fail
      refine HT.out.mono ?_
      rintro e w' ⟨u, rfl, hu, hw⟩
      obtain rfl := hw.symm
      have HU := hid hu
      clear hu
      obtain ⟨ua, uc, rfl⟩ := natA_formQ HU.out
      go_wp2_with fail
      go_ret
      exact ⟨_, rfl, HU.out, HB.out⟩
theorem naturalIn_any (v : Nat) (w : World) (hn : Lib.nDigits v ≤ 100000) (hP : Pow9 w) :
    Calls Tryd.prog 80 #[.string (dec v)] w fun e w' => ∃ u, e = .returned u ∧ NatA w' u (grp v) ∧ Below w.heap.size w w' := naturalIn_of v _ w rfl hn hP
end Go.Proofs.YtbbffhpppacihaaDoor

namespace Go.Proofs.YtbbffhpppacihaaDoor
open Go.RowKit Go.Siskin

theorem atD (v k : Nat) (w : World) (hm : Lib.nDigits v ≤ 100000) (hk : k ≤ 1000000) : Calls Tryd.prog 86 #[.string (dec v), .int .i64 k] w fun e w' => e = .returned (.int .i64 ((v / 10 ^ k % 10 : Nat) : Int)) ∧ w' = w :=
  l11At_any (Lib.nDigits v) v k w (by unfold maxLen; omega) (by unfold maxLen; omega) (Lib.lt_pow_nDigits v)

set_option maxRecDepth 20000 in
set_option maxHeartbeats 2000000 in
theorem l11Add_of (a b la lb : Nat) (w : World) (HLa : Hid (Lib.nDigits a = la)) (HLb : Hid (Lib.nDigits b = lb)) (ha : la ≤ 100000) (hb : lb ≤ 100000) :
    Calls Tryd.prog 78 #[.string (dec a), .string (dec b)] w fun e w' => e = .returned (.string (dec (a + b))) ∧ Below w.heap.size w w' := by
  have Hna := hid (fun (k : Nat) (w : World) (hk : k ≤ 1000000) => atD a k w (by rw [HLa.out]; exact ha) hk)
  have Hnb := hid (fun (k : Nat) (w : World) (hk : k ≤ 1000000) => atD b k w (by rw [HLb.out]; exact hb) hk)
  have hla : ((dec a).size : Int) = (la : Int) := by rw [dec_size, HLa.out]
  have hlb : ((dec b).size : Int) = (lb : Int) := by rw [dec_size, HLb.out]
  obtain ⟨i0, hi, hz0, hz1, hz2⟩ := info_partsZ Tryd.infoIntZ
  have Hi := hid hi
  have Hz0 := hid hz0
  have Hz1 := hid hz1
  have Hz2 := hid hz2
  clear hi hz0 hz1 hz2
  go_enter Tryd.func78, Tryd.ntmps78
  go_wp2_with fail
  go_loopw [5, 6, 7] (fun o c i wr => ∃ (k cy : Nat) (ds : List Nat) (ua : Option Addr) (uc : Nat), i = .int .i64 k ∧ c = .int .i64 cy ∧ o = .slice ua k uc ∧ Hid (ds.length = k) ∧ Hid (OkD ds) ∧ Hid (lowD ds + cy * 10 ^ k = a % 10 ^ k + b % 10 ^ k) ∧ cy ≤ 1 ∧ k ≤ la + lb + 1 ∧ Hid (wr.ownsRow w.heap.size 3 1 (.slice ua k uc) k (numL .i64 ds)) ∧ Hid (Below w.heap.size w wr)) (fun _ _ i _ => la + lb + 2 - (intOf i).toNat)
  case atStart => exact ⟨0, 0, [], _, 0, rfl, rfl, rfl, rfl, fun d h => by simp at h, by show _ = _; simp [lowD, Nat.mod_one], by omega, by omega, World.ownsRow_made w #[] 0 (Nat.le_refl _) (Nat.zero_le _) (by simp), (Below.refl _ _).alloc (Nat.le_refl _) _⟩
  case round =>
    obtain ⟨k, cy, ds, ua, uc, rfl, rfl, rfl, HKL, HOD, HS, hc1, hk, HU, HB⟩ := hrel
    have hsz := HB.out.size
    by_cases hgo : k < la ∨ k < lb ∨ 0 < cy
    · have hk2 : k ≤ la + lb := by
        rcases hgo with h | h | h
        · omega
        · omega
        · rcases Nat.lt_or_ge k la with h1 | h1
          · omega
          rcases Nat.lt_or_ge k lb with h2 | h2
          · omega
          exact add_more HS.out h (by rw [HLa.out]; omega) (by rw [HLb.out]; omega)
      have HCA := hid (Hna.out k)
      have HCB := hid (Hnb.out k)
      obtain ⟨x, HX⟩ : ∃ x, Hid (a / 10 ^ k % 10 = x) := ⟨_, rfl⟩
      obtain ⟨y, HY⟩ : ∃ y, Hid (b / 10 ^ k % 10 = y) := ⟨_, rfl⟩
      have hx10 : x < 10 := by rw [← HX.out]; exact Nat.mod_lt _ (by decide)
      have hy10 : y < 10 := by rw [← HY.out]; exact Nat.mod_lt _ (by decide)
      rw [HX.out] at HCA
      rw [HY.out] at HCB
      have hcase : (k < la) ∨ (¬ k < la ∧ k < lb) ∨ (¬ k < la ∧ ¬ k < lb ∧ 0 < cy) := by omega
      clear hgo
      rcases hcase with h1 | ⟨h1, h2⟩ | ⟨h1, h2, h3⟩
      all_goals
        go_wp2_with fail
        refine (HCA.out _ (by omega)).mono ?_
        rintro e w' ⟨rfl, rfl⟩
        go_wp2_with fail
        refine (HCB.out _ (by omega)).mono ?_
        rintro e w' ⟨rfl, rfl⟩
        go_wp2_with (at_builtin; refine wpList_append_lies _ rfl _ _ _ rfl w.heap.size 3 i0 (.int .i64 0) 1 8 Tryd.underlying112 Hi.out Hz0.out Hz1.out Hz2.out rfl (by decide) _ k (numL .i64 ds) rfl (HU.out.alloc _) ⟨w'.heap.size, 0, none⟩ 1 1 [.int .i64 (((x : Int) + (y : Int) + (cy : Int)) % 10)] rfl rfl (cell_one_newZ _ _ _) (by simp [Value.oneCell']) (by omega) (by unfold maxLen; omega) (by omega) (by simp; omega) (w'.heap.size + 1) (by simp) ?_; intro gg cc w4 hown' hg hat hgl; have hall := (World.grownBy_alloc w' _ _).trans hg)
        have hlow : ∀ g, (Value.slice ua k uc).ownBlock = some g → w.heap.size ≤ g := fun g e => (HU.out.lt g e).1
        refine ⟨⟨k + 1, (x + y + cy) / 10, ds ++ [(x + y + cy) % 10], some ⟨gg, 0, none⟩, cc, by go_num, by congr 1, rfl, by show _ = _; rw [List.length_append, HKL.out]; rfl, okD_snoc HOD.out (by omega), add_step HKL.out HS.out HX.out HY.out, by omega, by omega, ?_, HB.out.grown hall hsz hlow⟩, by simp [intOf]; omega⟩
        show World.ownsRow _ _ _ _ _ _ _
        rw [numL_snoc]
        simpa using hown'
    · have HT := hid (l11Text_any ds (fun b => b < wr.heap.size) (.slice ua k uc) wr (intsAt_own HU.out (by rw [HKL.out]; unfold maxLen; omega)) (fun b h => h) (by rw [HKL.out]; omega) HOD.out)
      have HV : Hid (lowD ds = a + b) := add_end HS.out (by rw [HLa.out]; omega) (by rw [HLb.out]; omega) (by omega)
      rw [HV.out] at HT
      go_wp2_with fail
      refine HT.out.mono ?_
      rintro e w2 ⟨rfl, hw⟩
      have HW := hid hw
      clear hw
      go_wp2_with fail
      go_ret
      exact ⟨rfl, HB.out.trans (HW.out.mono (by omega))⟩
theorem l11Add_any (a b : Nat) (w : World) (ha : Lib.nDigits a ≤ 100000) (hb : Lib.nDigits b ≤ 100000) :
    Calls Tryd.prog 78 #[.string (dec a), .string (dec b)] w fun e w' => e = .returned (.string (dec (a + b))) ∧ Below w.heap.size w w' :=
  l11Add_of a b _ _ w rfl rfl ha hb
end Go.Proofs.YtbbffhpppacihaaDoor

namespace Go.Proofs.YtbbffhpppacihaaDoor
open Go.RowKit Go.Siskin

set_option maxRecDepth 20000 in
set_option maxHeartbeats 2000000 in
theorem l11Sub_of (a b la : Nat) (w : World) (HLa : Hid (Lib.nDigits a = la)) (ha : la ≤ 100000) (hab : b ≤ a) :
    Calls Tryd.prog 64 #[.string (dec a), .string (dec b)] w fun e w' => e = .returned (.string (dec (a - b))) ∧ Below w.heap.size w w' := by
  have Hna := hid (fun (k : Nat) (w : World) (hk : k ≤ 1000000) => atD a k w (by rw [HLa.out]; exact ha) hk)
  have Hnb := hid (fun (k : Nat) (w : World) (hk : k ≤ 1000000) => atD b k w (Nat.le_trans (nDigits_mono hab) (by rw [HLa.out]; exact ha)) hk)
  have hla : ((dec a).size : Int) = (la : Int) := by rw [dec_size, HLa.out]
  have HAB := hid hab
  obtain ⟨i0, hi, hz0, hz1, hz2⟩ := info_partsZ Tryd.infoIntZ
  have Hi := hid hi
  have Hz0 := hid hz0
  have Hz1 := hid hz1
  have Hz2 := hid hz2
  clear hi hz0 hz1 hz2 hab
  go_enter Tryd.func64, Tryd.ntmps64
  go_wp2_with fail
  go_loopw [5, 6, 7] (fun o c i wr => ∃ (k cy : Nat) (ds : List Nat) (ua : Option Addr) (uc : Nat), i = .int .i64 k ∧ c = .int .i64 cy ∧ o = .slice ua k uc ∧ Hid (ds.length = k) ∧ Hid (OkD ds) ∧ Hid (lowD ds + b % 10 ^ k = a % 10 ^ k + cy * 10 ^ k) ∧ cy ≤ 1 ∧ k ≤ la ∧ Hid (wr.ownsRow w.heap.size 3 1 (.slice ua k uc) k (numL .i64 ds)) ∧ Hid (Below w.heap.size w wr)) (fun _ _ i _ => la - (intOf i).toNat)
  case atStart => exact ⟨0, 0, [], _, 0, rfl, rfl, rfl, rfl, fun d h => by simp at h, by show _ = _; simp [lowD, Nat.mod_one], by omega, by omega, World.ownsRow_made w #[] 0 (Nat.le_refl _) (Nat.zero_le _) (by simp), (Below.refl _ _).alloc (Nat.le_refl _) _⟩
  case round =>
    obtain ⟨k, cy, ds, ua, uc, rfl, rfl, rfl, HKL, HOD, HS, hc1, hk, HU, HB⟩ := hrel
    have hsz := HB.out.size
    by_cases hgo : k < la
    · have HCA := hid (Hna.out k)
      have HCB := hid (Hnb.out k)
      obtain ⟨x, HX⟩ : ∃ x, Hid (a / 10 ^ k % 10 = x) := ⟨_, rfl⟩
      obtain ⟨y, HY⟩ : ∃ y, Hid (b / 10 ^ k % 10 = y) := ⟨_, rfl⟩
      have hx10 : x < 10 := by rw [← HX.out]; exact Nat.mod_lt _ (by decide)
      have hy10 : y < 10 := by rw [← HY.out]; exact Nat.mod_lt _ (by decide)
      rw [HX.out] at HCA
      rw [HY.out] at HCB
      by_cases hneg : x < y + cy
      · have HSt := hid (sub_step1 HKL.out HS.out HX.out HY.out hneg hc1)
        obtain ⟨d, HD⟩ : ∃ d : Nat, Hid ((x : Int) - y - cy + 10 = (d : Int)) := ⟨(x + 10 - y - cy), by show _ = _; omega⟩
        have hd10 : d < 10 := by have := HD.out; omega
        have hde : x + 10 - y - cy = d := by have := HD.out; omega
        rw [hde] at HSt
        clear hde
        go_wp2_with fail
        refine (HCA.out _ (by omega)).mono ?_
        rintro e w' ⟨rfl, hw⟩
        obtain rfl := hw.symm
        go_wp2_with fail
        refine (HCB.out _ (by omega)).mono ?_
        rintro e w' ⟨rfl, hw⟩
        obtain rfl := hw.symm
        have hde := HD.out
        go_wp2_with (at_builtin; go_loud (refine wpList_append_lies _ rfl _ _ _ rfl w.heap.size 3 i0 (.int .i64 0) 1 8 Tryd.underlying112 Hi.out Hz0.out Hz1.out Hz2.out rfl (by decide) _ k (numL .i64 ds) rfl (HU.out.alloc _) ⟨wr.heap.size, 0, none⟩ 1 1 [.int .i64 (d : Int)] rfl rfl (cell_one_newZ _ _ _) (by simp [Value.oneCell']) (by omega) (by unfold maxLen; omega) (by omega) (by simp; omega) (wr.heap.size + 1) (by simp) ?_; intro gg cc w4 hown' hg hat hgl; have hall := (World.grownBy_alloc wr _ _).trans hg))
        have hlow : ∀ g, (Value.slice ua k uc).ownBlock = some g → w.heap.size ≤ g := fun g e => (HU.out.lt g e).1
        refine ⟨⟨k + 1, 1, ds ++ [d], some ⟨gg, 0, none⟩, cc, by go_num, rfl, rfl, by show _ = _; rw [List.length_append, HKL.out]; rfl, okD_snoc HOD.out hd10, HSt.out, by omega, by omega, ?_, HB.out.grown hall hsz hlow⟩, by simp [intOf]; omega⟩
        show World.ownsRow _ _ _ _ _ _ _
        rw [numL_snoc]
        exact hown'
      · have HSt := hid (sub_step0 HKL.out HS.out HX.out HY.out (by omega))
        obtain ⟨d, HD⟩ : ∃ d : Nat, Hid ((x : Int) - y - cy = (d : Int)) := ⟨(x - y - cy), by show _ = _; omega⟩
        have hd10 : d < 10 := by have := HD.out; omega
        have hde : x - y - cy = d := by have := HD.out; omega
        rw [hde] at HSt
        clear hde
        go_wp2_with fail
        refine (HCA.out _ (by omega)).mono ?_
        rintro e w' ⟨rfl, hw⟩
        obtain rfl := hw.symm
        go_wp2_with fail
        refine (HCB.out _ (by omega)).mono ?_
        rintro e w' ⟨rfl, hw⟩
        obtain rfl := hw.symm
        have hde := HD.out
        go_wp2_with (at_builtin; go_loud (refine wpList_append_lies _ rfl _ _ _ rfl w.heap.size 3 i0 (.int .i64 0) 1 8 Tryd.underlying112 Hi.out Hz0.out Hz1.out Hz2.out rfl (by decide) _ k (numL .i64 ds) rfl (HU.out.alloc _) ⟨wr.heap.size, 0, none⟩ 1 1 [.int .i64 (d : Int)] rfl rfl (cell_one_newZ _ _ _) (by simp [Value.oneCell']) (by omega) (by unfold maxLen; omega) (by omega) (by simp; omega) (wr.heap.size + 1) (by simp) ?_; intro gg cc w4 hown' hg hat hgl; have hall := (World.grownBy_alloc wr _ _).trans hg))
        have hlow : ∀ g, (Value.slice ua k uc).ownBlock = some g → w.heap.size ≤ g := fun g e => (HU.out.lt g e).1
        refine ⟨⟨k + 1, 0, ds ++ [d], some ⟨gg, 0, none⟩, cc, by go_num, rfl, rfl, by show _ = _; rw [List.length_append, HKL.out]; rfl, okD_snoc HOD.out hd10, HSt.out, by omega, by omega, ?_, HB.out.grown hall hsz hlow⟩, by simp [intOf]; omega⟩
        show World.ownsRow _ _ _ _ _ _ _
        rw [numL_snoc]
        exact hown'
    · have hkla : k = la := by omega
      have HT := hid (l11Text_any ds (fun b => b < wr.heap.size) (.slice ua k uc) wr (intsAt_own HU.out (by rw [HKL.out]; unfold maxLen; omega)) (fun b h => h) (by rw [HKL.out]; omega) HOD.out)
      have HV : Hid (lowD ds = a - b) := sub_end HOD.out HKL.out HS.out (by rw [HLa.out, hkla]) HAB.out
      rw [HV.out] at HT
      clear hkla
      go_wp2_with fail
      refine HT.out.mono ?_
      rintro e w2 ⟨rfl, hw⟩
      have HW := hid hw
      clear hw
      go_wp2_with fail
      go_ret
      exact ⟨rfl, HB.out.trans (HW.out.mono (by omega))⟩
theorem l11Sub_any (a b : Nat) (w : World) (ha : Lib.nDigits a ≤ 100000) (hab : b ≤ a) :
    Calls Tryd.prog 64 #[.string (dec a), .string (dec b)] w fun e w' => e = .returned (.string (dec (a - b))) ∧ Below w.heap.size w w' :=
  l11Sub_of a b _ w rfl ha hab
end Go.Proofs.YtbbffhpppacihaaDoor
