/-
  The law FnNumOrder. Condition: the table of powers stands; the codes are bytes that lie in memory.
  The table of powers of ten as the card lists it, and as the walks read it.
-/
import Derived.Test.YtbbffhpppacihaaDoorPart27
import Derived.Test.YtbbffhpppacihaaDoorRows
import Derived.Test.YtbbffhpppacihaaDoorPart1
import Derived.ProofKit
import Derived.OpenShut
import Derived.ShutString
import Derived.ChangeOld
import Derived.ChangeVars
import Derived.Below
import Derived.Carry
import Derived.LaidMore
import Derived.Stop.Joined
import Derived.Stop.LaidErr
import Derived.Lib.LaidTab
namespace Go.Proofs.YtbbffhpppacihaaDoor
open Go.RowKit Go.Siskin

theorem St.new2 {w W : World} {l : List (Nat × Array Value)} (h : St w W l) (c1 c2 : Array Value) : St w ((W.alloc (.cells c1 25)).alloc (.cells c2 25)) ((W.heap.size + 1, c2) :: (W.heap.size, c1) :: l) := by
  have := (h.new c1).new c2
  rw [World.size_alloc] at this
  exact this

set_option maxRecDepth 20000 in
set_option maxHeartbeats 4000000 in
theorem lawOrder_any (R : Nat → Prop) (w : World) (n1 n2 : Nat) (v1 v2 : Value) (hv1 : BytesAt R w v1 n1) (hv2 : BytesAt R w v2 n2) (hR : ∀ b, R b → b < w.heap.size) (hP : Pow9 w) :
    Calls Tryd.prog 6 #[v1, v2] w fun e w' => e = .returned (.bool true) ∧ Below w.heap.size w w' := by
  have HD1 : Hid (n1 ≤ 1048576 → ∀ W, Below w.heap.size w W → Calls Tryd.prog 26 #[v1] W fun e w' => AnyN2 e ∧ Below W.heap.size W w') := fun h W hb => DrawNumCmp_any R W n1 v1 (hv1.keep fun b hb' => hb.block b (hR b hb')) h (fun b h => Nat.lt_of_lt_of_le (hR b h) hb.size)
  have HD2 : Hid (n2 ≤ 1048576 → ∀ W, Below w.heap.size w W → Calls Tryd.prog 26 #[v2] W fun e w' => AnyN2 e ∧ Below W.heap.size W w') := fun h W hb => DrawNumCmp_any R W n2 v2 (hv2.keep fun b hb' => hb.block b (hR b hb')) h (fun b h => Nat.lt_of_lt_of_le (hR b h) hb.size)
  have HP := hid hP
  obtain ⟨a1, cap1, rfl, -, -⟩ := hv1
  obtain ⟨a2, cap2, rfl, -, -⟩ := hv2
  clear hR hP
  by_cases h1 : 1048576 < n1
  · have h1i : ((1048576 : Int) < (n1 : Int)) := by omega
    go_enter Tryd.func6, Tryd.ntmps6
    go_wp2_with fail
    go_ret
    exact ⟨rfl, Below.refl _ _⟩
  by_cases h2 : 1048576 < n2
  · have h1i : ¬ ((1048576 : Int) < (n1 : Int)) := by omega
    have h2i : ((1048576 : Int) < (n2 : Int)) := by omega
    go_enter Tryd.func6, Tryd.ntmps6
    go_wp2_with fail
    go_ret
    exact ⟨rfl, Below.refl _ _⟩
  have h1i : ¬ ((1048576 : Int) < (n1 : Int)) := by omega
  have h2i : ¬ ((1048576 : Int) < (n2 : Int)) := by omega
  have HE1 := hid (HD1.out (by omega))
  have HE2 := hid (HD2.out (by omega))
  have S0 := hid (St.start w)
  clear HD1 HD2
  go_enter Tryd.func6, Tryd.ntmps6
  go_wp2_with fail
  refine (HE1.out _ S0.out.bel).mono ?_
  rintro e w1 ⟨⟨ma, Ta, Da, mb, Tb, Db, hs1, rfl⟩, hw⟩
  have S1 := hid ((S0.out.call hw).new2 #[.bool ma, .string Ta, .string Da] #[.bool mb, .string Tb, .string Db])
  clear hw
  go_wp2_with fail
  refine (HE2.out _ S1.out.bel).mono ?_
  rintro e w2 ⟨⟨mc, Tc, Dc, md, Td, Dd, hs2, rfl⟩, hw⟩
  have S2 := hid ((S1.out.call hw).new2 #[.bool mc, .string Tc, .string Dc] #[.bool md, .string Td, .string Dd])
  clear hw
  have l1 := Nat.le_trans hs1.1 (show 2000 ≤ maxLen by decide)
  have l2 := Nat.le_trans hs1.2.1 (show 2000 ≤ maxLen by decide)
  have l3 := Nat.le_trans hs1.2.2.1 (show 2000 ≤ maxLen by decide)
  have l4 := Nat.le_trans hs1.2.2.2 (show 2000 ≤ maxLen by decide)
  have l5 := Nat.le_trans hs2.1 (show 2000 ≤ maxLen by decide)
  have l6 := Nat.le_trans hs2.2.1 (show 2000 ≤ maxLen by decide)
  obtain ⟨z, zb, hc1, hc2, hc3, hzb, hz, hcq⟩ := cmp_facts ma mb Ta Da Tb Db l1 l2 l3 l4
  subst hzb
  obtain ⟨oa, hoa, ha1, ha2⟩ := ok_facts ma Ta Da l1 l2
  obtain ⟨ob, hob, hb1, hb2⟩ := ok_facts mb Tb Db l3 l4
  obtain ⟨oc, hoc, hd1, hd2⟩ := ok_facts mc Tc Dc l5 l6
  have HC1 := hid hc1
  have HC2 := hid hc2
  have HC3 := hid hc3
  have HA1 := hid ha1
  have HA2 := hid ha2
  have HB1 := hid hb1
  have HD1 := hid hd1
  have HCQ := hid hcq
  have HOa := hid hoa
  have HOb := hid hob
  have HOc := hid hoc
  have hz1 := hz.1
  have hz2 := hz.2
  have hwz : IntKind.i64.wrap z = z := by simp [IntKind.wrap, IntKind.bits, IntKind.signed]; omega
  have hzz : (z != z) = false := by simp
  have hoo : (oa != oa) = false := by simp
  have HL : Hid (∀ W, St w W [(w2.heap.size + 1, #[.bool md, .string Td, .string Dd]), (w2.heap.size, #[.bool mc, .string Tc, .string Dc]), (w1.heap.size + 1, #[.bool mb, .string Tb, .string Db]), (w1.heap.size, #[.bool ma, .string Ta, .string Da])] → (W.cell? ⟨w1.heap.size, 0, none⟩ = some (.bool ma) ∧ W.cell? ⟨w1.heap.size, 1, none⟩ = some (.string Ta) ∧ W.cell? ⟨w1.heap.size, 2, none⟩ = some (.string Da)) ∧ W.cell? ⟨w1.heap.size + 1, 0, none⟩ = some (.bool mb) ∧ W.cell? ⟨w1.heap.size + 1, 1, none⟩ = some (.string Tb) ∧ W.cell? ⟨w1.heap.size + 1, 2, none⟩ = some (.string Db)) := fun W h => ⟨h.at 3 rfl, h.at 2 rfl⟩
  clear l1 l2 l3 l4 l5 l6 hs1 hs2 hc1 hc2 hc3 hcq ha1 ha2 hb1 hb2 hd1 hd2 hoa hob hoc hz
  obtain ⟨x0, x1, x2⟩ := S2.out.at 3 rfl
  obtain ⟨y0, y1, y2⟩ := S2.out.at 2 rfl
  go_wp2_with fail
  refine (HC2.out _ (S2.out.pow HP.out)).mono ?_
  rintro e w3 ⟨rfl, hw⟩
  have S3 := hid (S2.out.call hw)
  clear hw x0 x1 x2 y0 y1 y2
  go_wp2_with fail
  go_cut [58] (fun t wc => t = .bool false ∧ Hid (St w wc [(w2.heap.size + 1, #[.bool md, .string Td, .string Dd]), (w2.heap.size, #[.bool mc, .string Tc, .string Dc]), (w1.heap.size + 1, #[.bool mb, .string Tb, .string Db]), (w1.heap.size, #[.bool ma, .string Ta, .string Da])]))
  case first =>
    have HR := hid S3.out.drew
    go_region_held3 (fun W => (W.cell? ⟨w1.heap.size, 0, none⟩ = some (.bool ma) ∧ W.cell? ⟨w1.heap.size, 1, none⟩ = some (.string Ta) ∧ W.cell? ⟨w1.heap.size, 2, none⟩ = some (.string Da)) ∧ W.cell? ⟨w1.heap.size + 1, 0, none⟩ = some (.bool mb) ∧ W.cell? ⟨w1.heap.size + 1, 1, none⟩ = some (.string Tb) ∧ W.cell? ⟨w1.heap.size + 1, 2, none⟩ = some (.string Db))
      (exact HL.out _ HR.out)
      (first
        | (go_at_call 28
           go_loud (
             refine (HC1.out _).mono ?_
             rintro e w5 ⟨rfl, hw5⟩
             have HR := hid (HR.out.call hw5)
             clear hw5))
        | (go_at_call 27
           go_loud (
             refine (HC3.out _ (HR.out.pow HP.out)).mono ?_
             rintro e w5 ⟨rfl, hw5⟩
             have HR := hid (HR.out.call hw5)
             clear hw5))
        | (go_at_call 20
           go_loud (
             refine (HA2.out _ (HR.out.pow HP.out)).mono ?_
             rintro e w5 ⟨rfl, hw5⟩
             have HR := hid (HR.out.call hw5)
             clear hw5))
        | (go_at_call 21
           go_loud (
             refine (HA1.out _).mono ?_
             rintro e w5 ⟨rfl, hw5⟩
             have HR := hid (HR.out.call hw5)
             clear hw5)))
    all_goals go_wp2_with fail
    all_goals go_meet
    all_goals exact ⟨rfl, HR⟩
  case rest =>
    obtain ⟨rfl, S4⟩ := hcut
    clear S3 S2 S1 S0
    obtain ⟨x0, x1, x2⟩ := S4.out.at 3 rfl
    go_wp2_with fail
    refine (HA1.out _).mono ?_
    rintro e w5 ⟨rfl, hw⟩
    have S5 := hid (S4.out.call hw)
    clear hw x0 x1 x2
    cases oa
    · go_wp2_with fail
      go_ret
      exact ⟨rfl, S5.out.bel⟩
    obtain ⟨x0, x1, x2⟩ := S5.out.at 2 rfl
    go_wp2_with fail
    refine (HB1.out _).mono ?_
    rintro e w6 ⟨rfl, hw⟩
    have S6 := hid (S5.out.call hw)
    clear hw x0 x1 x2
    cases ob
    · go_wp2_with fail
      go_ret
      exact ⟨rfl, S6.out.bel⟩
    obtain ⟨x0, x1, x2⟩ := S6.out.at 1 rfl
    go_wp2_with fail
    refine (HD1.out _).mono ?_
    rintro e w7 ⟨rfl, hw⟩
    have S7 := hid (S6.out.call hw)
    clear hw x0 x1 x2
    cases oc
    · go_wp2_with fail
      go_ret
      exact ⟨rfl, S7.out.bel⟩
    go_upto_region 10 with fail
    obtain ⟨p, hp, ea1, ea2, ea3⟩ := numP_R (HOa.out.1 (by trivial))
    obtain ⟨q, hq, eb1, eb2, eb3⟩ := numP_R (HOb.out.1 (by trivial))
    obtain ⟨r, hr, ec1, ec2, ec3⟩ := numP_R (HOc.out.1 (by trivial))
    have HEa : Hid (numT ma Ta Da = numR p) := by show _ = _; rw [ea1, ea2, ea3]; rfl
    have HEb : Hid (numT mb Tb Db = numR q) := by show _ = _; rw [eb1, eb2, eb3]; rfl
    have HEc : Hid (numT mc Tc Dc = numR r) := by show _ = _; rw [ec1, ec2, ec3]; rfl
    have HZq := hid (HCQ.out p q hp hq HEa.out HEb.out)
    clear ea1 ea2 ea3 eb1 eb2 eb3 ec1 ec2 ec3 HC1 HC2 HC3 HA1 HA2 HB1 HD1 HCQ HOa HOb HOc S4 S5 S6
    obtain ⟨ez, hez⟩ : ∃ e : Bool, ((z : Int) == 0) = e := ⟨_, rfl⟩
    have HNe : Hid (ez = true → ma = mb ∧ Ta.toList = Tb.toList ∧ Da.toList = Db.toList) := by
      intro h
      have hz0 : z = 0 := by rw [← hez] at h; simpa using h
      rw [HZq.out, cmpR_zero] at hz0
      have h1 := HEa.out
      rw [hz0, ← HEb.out] at h1
      simp only [Value.agg.injEq, Array.mk.injEq, List.cons.injEq, Value.bool.injEq, Value.string.injEq, and_true] at h1
      exact ⟨h1.1, congrArg _ h1.2.1, congrArg _ h1.2.2⟩
    have HEq : Hid (ma = mb → Ta.toList = Tb.toList → Da.toList = Db.toList → ez = true) := by
      intro e1 e2 e3
      have h1 := HEa.out
      rw [e1, toL_inj e2, toL_inj e3, HEb.out] at h1
      have hpq : p = q := by
        unfold numR at h1
        simp only [Value.agg.injEq, Array.mk.injEq, List.cons.injEq, Value.bool.injEq, Value.string.injEq, and_true] at h1
        exact (numR_inj h1.1 h1.2.1 h1.2.2).symm
      have hz0 : z = 0 := by rw [HZq.out, cmpR_zero]; exact hpq
      rw [← hez, hz0]; rfl
    obtain ⟨x0, x1, x2⟩ := S7.out.at 3 rfl
    obtain ⟨y0, y1, y2⟩ := S7.out.at 2 rfl
    go_cut [77] (fun t wc => t = .bool false ∧ wc = w7)
    case first =>
      go_wp2_with fail
      all_goals go_meet
      all_goals (refine ⟨?_, rfl⟩)
      · have h := HEq.out ‹_› ‹_› ‹_›
        rw [h]; rfl
      all_goals
        cases hcz : ez
        · rfl
        · obtain ⟨e1, e2, e3⟩ := HNe.out hcz
          contradiction
    case rest =>
      obtain ⟨rfl, hwc⟩ := hcut
      subst hwc
      clear x0 x1 x2 y0 y1 y2 hez HNe HEq
      obtain ⟨mx, Tx, Dx, dx, HX, hx⟩ := two_facts (fun W hW => addR p r hp hr W hW) HEa.out HEc.out
      obtain ⟨my, Ty, Dy, dy, HY, hy⟩ := two_facts (fun W hW => addR q r hq hr W hW) HEb.out HEc.out
      obtain ⟨mp, Tp, Dp, dp, HPp, hpp⟩ := two_facts (fun W hW => mulR p r hp hr W hW) HEa.out HEc.out
      obtain ⟨mq, Tq, Dq, dq, HQ, hqq⟩ := two_facts (fun W hW => mulR q r hq hr W hW) HEb.out HEc.out
      obtain ⟨ms, Ts, Ds, ds, HS, hs⟩ := two_facts (fun W hW => subR p q hp hq W hW) HEa.out HEb.out
      have HXY : Hid (Sm (p + r) ∧ numT mx Tx Dx = numR (p + r) → Sm (q + r) ∧ numT my Ty Dy = numR (q + r) → ∀ W, Pow9 W → Calls Tryd.prog 27 #[numT mx Tx Dx, numT my Ty Dy] W fun e w' => e = .returned (.int .i64 z) ∧ Below W.heap.size W w') := fun h1 h2 W hW => by
        rw [h1.2, h2.2, HZq.out, ← cmpR_add p q r]
        exact cmpRR _ _ h1.1 h2.1 W hW
      obtain ⟨sg, hsg⟩ : ∃ sg, cmpR r 0 = sg := ⟨_, rfl⟩
      have hsr := cmpR_range r 0
      rw [hsg] at hsr
      have HPQ : Hid (Sm (p * r) ∧ numT mp Tp Dp = numR (p * r) → Sm (q * r) ∧ numT mq Tq Dq = numR (q * r) → ∀ W, Pow9 W → Calls Tryd.prog 27 #[numT mp Tp Dp, numT mq Tq Dq] W fun e w' => e = .returned (.int .i64 (z * sg)) ∧ Below W.heap.size W w') := fun h1 h2 W hW => by
        rw [h1.2, h2.2, HZq.out, ← hsg, ← cmpR_mul p q r]
        exact cmpRR _ _ h1.1 h2.1 W hW
      obtain ⟨v, hv⟩ : ∃ v, z * sg = v := ⟨_, rfl⟩
      rw [hv] at HPQ
      have hwv : IntKind.i64.wrap (z * sg) = v := by
        have hzr : z = -1 ∨ z = 0 ∨ z = 1 := by omega
        rcases hzr with h | h | h <;> rcases hsr with h' | h' | h' <;> rw [h, h'] at hv ⊢ <;> rw [← hv] <;> rfl
      have hvv : (v != v) = false := by simp
      obtain ⟨m0, T0, D0, h0⟩ : ∃ (m : Bool) (T D : ByteArray), numT m T D = numR 0 := ⟨_, _, _, rfl⟩
      have HI0 : Hid (∀ W, Pow9 W → Calls Tryd.prog 25 #[.int .i64 0] W fun e w' => e = .returned (numT m0 T0 D0) ∧ Below W.heap.size W w') := fun W hW => by
        rw [h0]; exact intR 0 W (by decide) (by decide) hW
      have HSg : Hid (∀ W, Pow9 W → Calls Tryd.prog 27 #[numT mc Tc Dc, numT m0 T0 D0] W fun e w' => e = .returned (.int .i64 sg) ∧ Below W.heap.size W w') := fun W hW => by
        rw [h0, HEc.out, ← hsg]; exact cmpRR r 0 hr sm_zero W hW
      have HSz : Hid (Sm (p - q) ∧ numT ms Ts Ds = numR (p - q) → ∀ W, Pow9 W → Calls Tryd.prog 27 #[numT ms Ts Ds, numT m0 T0 D0] W fun e w' => e = .returned (.int .i64 z) ∧ Below W.heap.size W w') := fun h1 W hW => by
        rw [h1.2, h0, HZq.out, ← cmpR_sub p q]; exact cmpRR _ 0 h1.1 sm_zero W hW
      have HHx := hid hx
      have HHy := hid hy
      have HHp := hid hpp
      have HHq := hid hqq
      have HHs := hid hs
      clear hx hy hpp hqq hs hsg hsr hv h0
      obtain ⟨x0, x1, x2⟩ := S7.out.at 3 rfl
      obtain ⟨y0, y1, y2⟩ := S7.out.at 1 rfl
      go_wp2_with fail
      refine (HX _ (S7.out.pow HP.out)).mono ?_
      rintro e w8 ⟨rfl, hw⟩
      have S8 := hid ((S7.out.call hw).new #[.bool mx, .string Tx, .string Dx])
      clear hw x0 x1 x2 y0 y1 y2
      obtain ⟨x0, x1, x2⟩ := S8.out.at 3 rfl
      obtain ⟨y0, y1, y2⟩ := S8.out.at 2 rfl
      go_wp2_with fail
      refine (HY _ (S8.out.pow HP.out)).mono ?_
      rintro e w9 ⟨rfl, hw⟩
      have S9 := hid ((S8.out.call hw).new #[.bool my, .string Ty, .string Dy])
      clear hw x0 x1 x2 y0 y1 y2
      go_upto_region 14 with fail
      go_cut [11, 13, 102] (fun d e t wc => t = .bool false ∧ Hid (St w wc [(w9.heap.size, #[.bool my, .string Ty, .string Dy]), (w8.heap.size, #[.bool mx, .string Tx, .string Dx]), (w2.heap.size + 1, #[.bool md, .string Td, .string Dd]), (w2.heap.size, #[.bool mc, .string Tc, .string Dc]), (w1.heap.size + 1, #[.bool mb, .string Tb, .string Db]), (w1.heap.size, #[.bool ma, .string Ta, .string Da])]))
      case first =>
        rcases HHx.out with ⟨h1, h1'⟩ | h1
        · rcases HHy.out with ⟨h2, h2'⟩ | h2
          · have hC := hid (HXY.out h1 h2)
            clear h1 h2
            obtain ⟨x0, x1, x2⟩ := S9.out.at 1 rfl
            obtain ⟨y0, y1, y2⟩ := S9.out.at 0 rfl
            go_wp2_with fail
            refine (hC.out _ (S9.out.pow HP.out)).mono ?_
            rintro e w20 ⟨rfl, hw⟩
            have HR := hid (S9.out.call hw)
            clear hw
            go_wp2_with fail
            go_meet
            exact ⟨rfl, HR⟩
          · clear h1
            go_wp2_with fail
            go_meet
            exact ⟨rfl, S9⟩
        · go_wp2_with fail
          go_meet
          exact ⟨rfl, S9⟩
      case rest =>
        obtain ⟨rfl, S10⟩ := hcut
        rename World => w10
        obtain ⟨x0, x1, x2⟩ := S10.out.at 5 rfl
        obtain ⟨y0, y1, y2⟩ := S10.out.at 3 rfl
        go_wp2_with fail
        refine (HPp _ (S10.out.pow HP.out)).mono ?_
        rintro e w11 ⟨rfl, hw⟩
        have S11 := hid ((S10.out.call hw).new #[.bool mp, .string Tp, .string Dp])
        clear hw x0 x1 x2 y0 y1 y2
        obtain ⟨x0, x1, x2⟩ := S11.out.at 5 rfl
        obtain ⟨y0, y1, y2⟩ := S11.out.at 4 rfl
        go_wp2_with fail
        refine (HQ _ (S11.out.pow HP.out)).mono ?_
        rintro e w12 ⟨rfl, hw⟩
        have S12 := hid ((S11.out.call hw).new #[.bool mq, .string Tq, .string Dq])
        clear hw x0 x1 x2 y0 y1 y2
        have HLc : Hid (∀ W, St w W [(w12.heap.size, #[.bool mq, .string Tq, .string Dq]), (w11.heap.size, #[.bool mp, .string Tp, .string Dp]), (w9.heap.size, #[.bool my, .string Ty, .string Dy]), (w8.heap.size, #[.bool mx, .string Tx, .string Dx]), (w2.heap.size + 1, #[.bool md, .string Td, .string Dd]), (w2.heap.size, #[.bool mc, .string Tc, .string Dc]), (w1.heap.size + 1, #[.bool mb, .string Tb, .string Db]), (w1.heap.size, #[.bool ma, .string Ta, .string Da])] → (W.cell? ⟨w2.heap.size, 0, none⟩ = some (.bool mc) ∧ W.cell? ⟨w2.heap.size, 1, none⟩ = some (.string Tc) ∧ W.cell? ⟨w2.heap.size, 2, none⟩ = some (.string Dc))) := fun W h => h.at 5 rfl
        go_upto_region 18 with fail
        go_cut [16] (fun t wc => t = .int .i64 sg ∧ Hid (St w wc [(w12.heap.size, #[.bool mq, .string Tq, .string Dq]), (w11.heap.size, #[.bool mp, .string Tp, .string Dp]), (w9.heap.size, #[.bool my, .string Ty, .string Dy]), (w8.heap.size, #[.bool mx, .string Tx, .string Dx]), (w2.heap.size + 1, #[.bool md, .string Td, .string Dd]), (w2.heap.size, #[.bool mc, .string Tc, .string Dc]), (w1.heap.size + 1, #[.bool mb, .string Tb, .string Db]), (w1.heap.size, #[.bool ma, .string Ta, .string Da])]))
        case first =>
          have HR := hid S12.out.drew
          go_region_held3 (fun W => (W.cell? ⟨w2.heap.size, 0, none⟩ = some (.bool mc) ∧ W.cell? ⟨w2.heap.size, 1, none⟩ = some (.string Tc) ∧ W.cell? ⟨w2.heap.size, 2, none⟩ = some (.string Dc)))
            (exact HLc.out _ HR.out)
            (first
              | (go_at_call 25
                 go_loud (
                   refine (HI0.out _ (HR.out.pow HP.out)).mono ?_
                   rintro e w5 ⟨rfl, hw5⟩
                   have HR := hid (HR.out.call hw5)
                   clear hw5))
              | (go_at_call 27
                 go_loud (
                   refine (HSg.out _ (HR.out.pow HP.out)).mono ?_
                   rintro e w5 ⟨rfl, hw5⟩
                   have HR := hid (HR.out.call hw5)
                   clear hw5)))
          all_goals go_wp2_with fail
          all_goals go_meet
          all_goals exact ⟨rfl, HR⟩
        case rest =>
          obtain ⟨rfl, S13⟩ := hcut
          rename World => w13
          go_upto_region 19 with fail
          go_cut [11, 13, 132] (fun d e t wc => t = .bool false ∧ Hid (St w wc [(w12.heap.size, #[.bool mq, .string Tq, .string Dq]), (w11.heap.size, #[.bool mp, .string Tp, .string Dp]), (w9.heap.size, #[.bool my, .string Ty, .string Dy]), (w8.heap.size, #[.bool mx, .string Tx, .string Dx]), (w2.heap.size + 1, #[.bool md, .string Td, .string Dd]), (w2.heap.size, #[.bool mc, .string Tc, .string Dc]), (w1.heap.size + 1, #[.bool mb, .string Tb, .string Db]), (w1.heap.size, #[.bool ma, .string Ta, .string Da])]))
          case first =>
            rcases HHp.out with ⟨h1, h1'⟩ | h1
            · rcases HHq.out with ⟨h2, h2'⟩ | h2
              · have hC := hid (HPQ.out h1 h2)
                clear h1 h2
                obtain ⟨x0, x1, x2⟩ := S13.out.at 1 rfl
                obtain ⟨y0, y1, y2⟩ := S13.out.at 0 rfl
                go_wp2_with fail
                refine (hC.out _ (S13.out.pow HP.out)).mono ?_
                rintro e w20 ⟨rfl, hw⟩
                have HR := hid (S13.out.call hw)
                clear hw
                go_wp2_with fail
                go_meet
                exact ⟨rfl, HR⟩
              · clear h1
                go_wp2_with fail
                go_meet
                exact ⟨rfl, S13⟩
            · go_wp2_with fail
              go_meet
              exact ⟨rfl, S13⟩
          case rest =>
            obtain ⟨rfl, S14⟩ := hcut
            rename World => w14
            obtain ⟨x0, x1, x2⟩ := S14.out.at 7 rfl
            obtain ⟨y0, y1, y2⟩ := S14.out.at 6 rfl
            go_wp2_with fail
            refine (HS _ (S14.out.pow HP.out)).mono ?_
            rintro e w15 ⟨rfl, hw⟩
            have S15 := hid ((S14.out.call hw).new #[.bool ms, .string Ts, .string Ds])
            clear hw x0 x1 x2 y0 y1 y2
            have HLs : Hid (∀ W, St w W [(w15.heap.size, #[.bool ms, .string Ts, .string Ds]), (w12.heap.size, #[.bool mq, .string Tq, .string Dq]), (w11.heap.size, #[.bool mp, .string Tp, .string Dp]), (w9.heap.size, #[.bool my, .string Ty, .string Dy]), (w8.heap.size, #[.bool mx, .string Tx, .string Dx]), (w2.heap.size + 1, #[.bool md, .string Td, .string Dd]), (w2.heap.size, #[.bool mc, .string Tc, .string Dc]), (w1.heap.size + 1, #[.bool mb, .string Tb, .string Db]), (w1.heap.size, #[.bool ma, .string Ta, .string Da])] → (W.cell? ⟨w15.heap.size, 0, none⟩ = some (.bool ms) ∧ W.cell? ⟨w15.heap.size, 1, none⟩ = some (.string Ts) ∧ W.cell? ⟨w15.heap.size, 2, none⟩ = some (.string Ds))) := fun W h => h.at 0 rfl
            go_upto_region 22 with fail
            rcases HHs.out with ⟨h1, h1'⟩ | h1
            · have hC := hid (HSz.out h1)
              clear h1
              have HR := hid S15.out.drew
              go_region_held3 (fun W => (W.cell? ⟨w15.heap.size, 0, none⟩ = some (.bool ms) ∧ W.cell? ⟨w15.heap.size, 1, none⟩ = some (.string Ts) ∧ W.cell? ⟨w15.heap.size, 2, none⟩ = some (.string Ds)))
                (exact HLs.out _ HR.out)
                (first
                  | (go_at_call 25
                     go_loud (
                       refine (HI0.out _ (HR.out.pow HP.out)).mono ?_
                       rintro e w5 ⟨rfl, hw5⟩
                       have HR := hid (HR.out.call hw5)
                       clear hw5))
                  | (go_at_call 27
                     go_loud (
                       refine (hC.out _ (HR.out.pow HP.out)).mono ?_
                       rintro e w5 ⟨rfl, hw5⟩
                       have HR := hid (HR.out.call hw5)
                       clear hw5)))
              all_goals go_wp2_with fail
              all_goals go_ret
              all_goals exact ⟨by simp, HR.out.bel⟩
            · have HR := hid S15.out.drew
              have hne : (ds != 0) = true := by rw [h1]; rfl
              clear h1
              have L0 : Hid True := trivial
              refine wp_region_held_drew (S := fun W => True) rfl L0.out (fun _ => ?_)
              refine wpAnyH_take (i := 0) (oi := ({ dst := some 139, op := _, type := _, pos := _, after := _, guard := _ } : Oper)) (v := (.int .i64 ds)) rfl (by kernel_rfl) (by kernel_rfl) (by kernel_rfl) (fun _ _ _ h => h) (Or.inl ⟨by rfl, ?_⟩) L0.out ?_
              · intro w hSw; (try dsimp only at hSw); go_simp
              try simp only [Act.put, List.setIfInBounds_toArray, List.set_cons_zero, List.set_cons_succ]
              refine wpAnyH_take (i := 1) (oi := ({ dst := some 140, op := _, type := _, pos := _, after := _, guard := _ } : Oper)) (v := (.bool true)) rfl (by kernel_rfl) (by kernel_rfl) (by kernel_rfl) (fun _ _ _ h => h) (Or.inl ⟨by rfl, ?_⟩) L0.out ?_
              · intro w hSw; (try dsimp only at hSw); go_simp
              try simp only [Act.put, List.setIfInBounds_toArray, List.set_cons_zero, List.set_cons_succ]
              refine wpAnyH_take (i := 2) (oi := ({ dst := some 141, op := _, type := _, pos := _, after := _, guard := _ } : Oper)) (v := (.bool true)) rfl (by kernel_rfl) (by kernel_rfl) (by kernel_rfl) (fun _ _ _ h => h) (Or.inl ⟨by rfl, ?_⟩) L0.out ?_
              · intro w hSw; (try dsimp only at hSw); go_simp
              try simp only [Act.put, List.setIfInBounds_toArray, List.set_cons_zero, List.set_cons_succ]
              refine wpAnyH_take (i := 3) (oi := ({ dst := some 142, op := _, type := _, pos := _, after := _, guard := _ } : Oper)) (v := undef) rfl (by kernel_rfl) (by kernel_rfl) (by kernel_rfl) (fun _ _ _ h => h) (Or.inr ⟨by rfl, rfl⟩) L0.out ?_
              try simp only [Act.put, List.setIfInBounds_toArray, List.set_cons_zero, List.set_cons_succ]
              refine wpAnyH_take (i := 4) (oi := ({ dst := some 143, op := _, type := _, pos := _, after := _, guard := _ } : Oper)) (v := undef) rfl (by kernel_rfl) (by kernel_rfl) (by kernel_rfl) (fun _ _ _ h => h) (Or.inr ⟨by rfl, rfl⟩) L0.out ?_
              try simp only [Act.put, List.setIfInBounds_toArray, List.set_cons_zero, List.set_cons_succ]
              refine wpAnyH_take (i := 5) (oi := ({ dst := some 144, op := _, type := _, pos := _, after := _, guard := _ } : Oper)) (v := undef) rfl (by kernel_rfl) (by kernel_rfl) (by kernel_rfl) (fun _ _ _ h => h) (Or.inr ⟨by rfl, rfl⟩) L0.out ?_
              try simp only [Act.put, List.setIfInBounds_toArray, List.set_cons_zero, List.set_cons_succ]
              refine wpAnyH_take (i := 6) (oi := ({ dst := some 145, op := _, type := _, pos := _, after := _, guard := _ } : Oper)) (v := undef) rfl (by kernel_rfl) (by kernel_rfl) (by kernel_rfl) (fun _ _ _ h => h) (Or.inr ⟨by rfl, rfl⟩) L0.out ?_
              try simp only [Act.put, List.setIfInBounds_toArray, List.set_cons_zero, List.set_cons_succ]
              refine wpAnyH_take (i := 7) (oi := ({ dst := some 146, op := _, type := _, pos := _, after := _, guard := _ } : Oper)) (v := undef) rfl (by kernel_rfl) (by kernel_rfl) (by kernel_rfl) (fun _ _ _ h => h) (Or.inr ⟨by rfl, rfl⟩) L0.out ?_
              try simp only [Act.put, List.setIfInBounds_toArray, List.set_cons_zero, List.set_cons_succ]
              refine wpAnyH_take (i := 8) (oi := ({ dst := some 147, op := _, type := _, pos := _, after := _, guard := _ } : Oper)) (v := (.bool true)) rfl (by kernel_rfl) (by kernel_rfl) (by kernel_rfl) (fun _ _ _ h => h) (Or.inl ⟨by rfl, ?_⟩) L0.out ?_
              · intro w hSw; (try dsimp only at hSw); go_simp
              try simp only [Act.put, List.setIfInBounds_toArray, List.set_cons_zero, List.set_cons_succ]
              refine wpAnyH_take (i := 9) (oi := ({ dst := some 4, op := _, type := _, pos := _, after := _, guard := _ } : Oper)) (v := (.bool true)) rfl (by kernel_rfl) (by kernel_rfl) (by kernel_rfl) (fun _ _ _ h => h) (Or.inl ⟨by rfl, ?_⟩) L0.out ?_
              · intro w hSw; (try dsimp only at hSw); go_simp
              try simp only [Act.put, List.setIfInBounds_toArray, List.set_cons_zero, List.set_cons_succ]
              refine wpAnyH_done (by kernel_rfl) ?_ _
              go_wp2_with fail
              go_ret
              exact ⟨rfl, HR.out.bel⟩
end Go.Proofs.YtbbffhpppacihaaDoor

namespace Go.Proofs.YtbbffhpppacihaaDoor
open Go.ChangeShapes Go.WideShapes Go.ChangeAt Go.RowKit Go.Siskin

theorem ownZ : ownKnob Tryd.prog.godebug = none := by kernel_rfl
theorem laidOutZ : laidOutB Tryd.prog = true := by kernel_rfl

/-- What is listed. -/
abbrev laidZ : List (String × DataW Unit) := [("loop.example/siskin/impl.powersOfTen", Rows.laid_loop_example_siskin_impl_powersOfTen)]
def tabZ : List Int := [1, 10, 100, 1000, 10000, 100000, 1000000, 10000000, 100000000]

theorem door_metZ (os : Os) (args : Array Value) : laidMetH Tryd.prog laidZ ((World.doorLaid Tryd.prog 400 os).forCall (fun _ _ => 0) ⟨#[], args, []⟩).memory :=
  laidMetH_of_parts3 (fuel := 8) (laidMet_of_run' 8 (by kernel_rfl) (by kernel_rfl)) (by kernel_rfl) (by kernel_rfl)

theorem tab_dataZ : (Rows.laid_loop_example_siskin_impl_powersOfTen : DataW Unit) = Lib.tabData .u64 tabZ := by kernel_rfl
theorem tab_ofZ {W : World} (h : laidMetH Tryd.prog laidZ W) : Pow9 W := by
  rw [MakeChecks.laidMetH_plain _ _ _ (by kernel_rfl)] at h
  rw [laidZ, tab_dataZ] at h
  have hT : Lib.TabIs Tryd.prog W "loop.example/siskin/impl.powersOfTen" .u64 tabZ :=
    Lib.tabIs_of_head (g := 1) (t := 134) (e := 80) (n := 9) (by kernel_rfl) (by kernel_rfl) (by kernel_rfl) (by kernel_rfl) (by kernel_rfl) (by kernel_rfl) h
  have hc : ∀ i, i < 9 → W.cell? ⟨1, i, none⟩ = some (.int .u64 ((10 ^ i : Nat) : Int)) := by
    intro i hi
    rw [hT.cell (g := 1) (by kernel_rfl) i (by simpa [tabZ] using hi)]
    have hcase : i = 0 ∨ i = 1 ∨ i = 2 ∨ i = 3 ∨ i = 4 ∨ i = 5 ∨ i = 6 ∨ i = 7 ∨ i = 8 := by omega
    rcases hcase with rfl | rfl | rfl | rfl | rfl | rfl | rfl | rfl | rfl <;> rfl
  refine ⟨?_, hc⟩
  have h0 := hc 0 (by omega)
  unfold World.cell? at h0
  cases e : W.heap[1]? with
  | none => rw [e] at h0; simp at h0
  | some o => exact (Array.getElem?_eq_some_iff.1 e).1

theorem var_belowZ {P : Program} {B g : Nat} {W W' : World} {n : String} {cs : Array Value} (h : Below B W W') (hg : P.globalNamed n = some g) (hgB : g < B) (hv : W.var? P n = some cs) : W'.var? P n = some cs := by
  unfold World.var? at hv ⊢
  simp only [hg, Option.bind_some] at hv ⊢
  rw [h.block g hgB]
  exact hv

/-- The listed variable reads behind the call as it did. -/
theorem vars_keptZ {H : Type} {enc : TypeId × Value → H} {W W' : World} {gs : List (DataW H)} {q : List MemPlace} (hV : DataW.TrodVars enc Tryd.prog W (fun _ => true) ["loop.example/siskin/impl.powersOfTen"] gs q) (hb : Below W.heap.size W W') (hP : Pow9 W) :
    ∃ pv, DataW.TrodVars enc Tryd.prog W' (fun b => decide (b < W.heap.size)) ["loop.example/siskin/impl.powersOfTen"] gs pv := by
  obtain ⟨g, t, cs, fuel, d, p, rfl, hg, ht, hvar, hd, rfl⟩ := trodVars_one hV
  have hg0 : Tryd.prog.globalNamed "loop.example/siskin/impl.powersOfTen" = some 1 := by kernel_rfl
  obtain rfl := Option.some.inj (hg0.symm.trans hg)
  have ht0 : (Tryd.prog.globals[1]?).map (·.type) = some 134 := by kernel_rfl
  obtain rfl := Option.some.inj (ht0.symm.trans ht)
  have lt0 : ∀ x ∈ p, x.block < W.heap.size := DataW.trod_lt fuel _ _ _ hd
  obtain ⟨f2, hd2⟩ := Below.trod laidOutZ (by kernel_rfl) (of_decide_eq_true (by kernel_rfl)) (v := .agg cs) (⟨fuel, by simpa [Value.cells] using hd⟩ : DataW.Trod enc Tryd.prog W 0 (fun _ => true) true 134 (.agg cs) d p) hb lt0
  exact ⟨_, trodVars_mk1 (enc := enc) (spare := fun b => decide (b < W.heap.size)) hg ht (var_belowZ hb hg hP.1 hvar) (by simpa [Value.cells] using hd2)⟩
end Go.Proofs.YtbbffhpppacihaaDoor
