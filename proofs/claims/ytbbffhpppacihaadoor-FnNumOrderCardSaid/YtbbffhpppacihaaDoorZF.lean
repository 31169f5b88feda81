/-
  The program's digits of a natural. Condition: the groups lie in memory as NatA says, and the table of powers stands.
-/
import Derived.Test.YtbbffhpppacihaaDoorPart3
namespace Go.Proofs.YtbbffhpppacihaaDoor
open Go.RowKit Go.Siskin

theorem run_index_nums {P : Program} {t e : TypeId} {n : Nat} (ht : P.underlying t = some (.array n e)) (he : P.plainKey e = true) {i : TypeInfo} (hi : P.info? e = some i) (h1 : P.cellsOf e = 1) {cs : Array Value} {k : Nat} {kk : IntKind} (hk : k < n) {v : Value} (hv : cs[k]? = some v) (w : World) :
    (Instr.index t (.agg cs) (.int kk k)).run P w = .ok v w := by
  have hk' : (0 : Int) ≤ k ∧ (k : Int) < n := ⟨by omega, by omega⟩
  unfold Instr.index
  simp only [asIntOf, Sem.run_bind, Sem.run_pure, Result.andThen_ok, run_underlying ht, if_pos hk', run_sizeOf w hi, h1, Nat.mul_one, Int.toNat_natCast]
  exact run_part_plain w he hv
/-- An element of an array that is held. -/
theorem wpList_index_nums {P : Program} (w : World) {ops : Array Oper} {rest : List Oper} {o : Oper} {a : Act} {Q : Exit → Act → World → Prop} (hgd : o.guard = none) (x i : Operand) (t : TypeId) (hop : o.op = Op.index t x i)
    {e : TypeId} {n : Nat} (ht : P.underlying t = some (.array n e)) (he : P.plainKey e = true) {inf : TypeInfo} (hi : P.info? e = some inf) (h1 : P.cellsOf e = 1) (cs : Array Value) (hx : a.eval x = .agg cs) (k : Nat) (kk : IntKind) (hk : a.eval i = .int kk k) (hkn : k < n) (v : Value) (hv : cs[k]? = some v)
    (hK : wpList P ops Q rest (a.put o.dst v) w) : wpList P ops Q (o :: rest) a w := by
  refine wpList_plain hgd fun K hK' => ?_
  unfold Oper.wp execOp
  simp only [hop, hx, hk, run_index_nums ht he hi h1 hkn hv w, Sem.run_bind, Result.andThen_ok, Sem.run_pure]
  exact hK' _ _ hK
theorem Tryd.plainWord : Tryd.prog.plainKey 80 = true := by kernel_rfl
theorem Tryd.cellsWord : Tryd.prog.cellsOf 80 = 1 := by kernel_rfl

set_option maxRecDepth 20000 in
set_option maxHeartbeats 1000000 in
theorem digits_any (x : Nat) (v : Value) (w : World) (h : NatA w v (grp x)) (hn : nG x ≤ 1000000) (hP : Pow9 w) :
    Calls Tryd.prog 96 #[v] w fun e w' => e = .returned (.int .i64 (Lib.nDigits x)) ∧ w' = w := by
  have HN := hid h
  have HC := hid (isNought_any x v w h)
  obtain ⟨a, cap, rfl, h1, h2, h3⟩ := h
  rw [grp_length] at *
  unfold maxLen at h2
  rcases Nat.eq_zero_or_pos x with h0 | h0
  · subst h0
    clear h3
    go_enter Tryd.func96, Tryd.ntmps96
    go_wp2_with (go_at_call 81; refine HC.out.mono ?_; rintro e w' ⟨rfl, rfl⟩)
    go_ret
    exact ⟨ret_intz (by rw [Lib.nDigits_small (by decide)]; rfl), rfl⟩
  · have hx0 : (x == 0) = false := by rw [beq_eq_false_iff_ne]; omega
    rw [hx0] at HC
    clear hx0
    have hg := nG_pos h0
    have HT := hid (top_pos h0)
    have HD := hid (nDigits_top h0)
    rcases h3 with h3 | ⟨b, o, rfl, -, h3⟩
    · have := congrArg List.length h3; rw [grp_length] at this; simp at this; omega
    obtain ⟨t, HTG⟩ : ∃ t, Hid (nG x = t + 1) := ⟨nG x - 1, by show _ = _; omega⟩
    rw [HTG.out] at h1 hn HC
    have g : w.cell? ⟨b, o + t, none⟩ = some (.int .u64 ((x / 1000000000 ^ t : Nat) : Int)) := by
      have h := h3 t (by rw [grp_length, HTG.out]; omega)
      rw [h]
      have e := top_get h0
      rw [HTG.out, Nat.add_sub_cancel] at e
      unfold grp; rw [grpN_get, e]
    have HT2 : Hid (0 < x / 1000000000 ^ t ∧ x / 1000000000 ^ t < 1000000000) := by
      have h := HT.out; rw [HTG.out, Nat.add_sub_cancel] at h; exact h
    have HD2 : Hid (Lib.nDigits x = 9 * t + Lib.nDigits (x / 1000000000 ^ t)) := by
      have h := HD.out; rw [HTG.out, Nat.add_sub_cancel] at h; exact h
    obtain ⟨z, HZ⟩ : ∃ z, Hid (x / 1000000000 ^ t = z) := ⟨_, rfl⟩
    rw [HZ.out] at g HT2 HD2
    rw [HTG.out]
    have P0 := hP.2 0 (by omega)
    have P1 := hP.2 1 (by omega)
    have P2 := hP.2 2 (by omega)
    have P3 := hP.2 3 (by omega)
    have P4 := hP.2 4 (by omega)
    have P5 := hP.2 5 (by omega)
    have P6 := hP.2 6 (by omega)
    have P7 := hP.2 7 (by omega)
    have P8 := hP.2 8 (by omega)
    obtain ⟨i0, hi, -, -, -⟩ := info_partsZ Tryd.infoWordZ
    have Hi := hid hi
    clear hi
    clear h3 hg hP HD HT HN
    go_enter Tryd.func96, Tryd.ntmps96
    go_wp2_with (go_at_call 81; refine HC.out.mono ?_; rintro e w' ⟨rfl, rfl⟩)
    go_loop [4, 15] (fun c i => ∃ k : Nat, k ≤ 9 ∧ i = .int .i64 k ∧ c = .int .i64 ((t : Int) * 9 + ((nPow z k : Nat) : Int))) (fun _ i => 9 - (intOf i).toNat)
    case atStart => exact ⟨0, by omega, rfl, by simp [nPow]⟩
    case round =>
      obtain ⟨k, hk, rfl, rfl⟩ := hrel
      have hle := nPow_le z k
      by_cases hlt : k < 9
      · have HS := hid (nPow_succ z k)
        obtain ⟨q, HQ⟩ : ∃ q, Hid (nPow z k = q) := ⟨_, rfl⟩
        rw [HQ.out] at hle ⊢
        have hzz : z < 1000000000 := HT2.out.2
        have HV : Hid ((#[.int .u64 1, .int .u64 10, .int .u64 100, .int .u64 1000, .int .u64 10000, .int .u64 100000, .int .u64 1000000, .int .u64 10000000, .int .u64 100000000] : Array Value)[k]? = some (.int .u64 ((10 ^ k : Nat) : Int))) := by
          have hcase : k = 0 ∨ k = 1 ∨ k = 2 ∨ k = 3 ∨ k = 4 ∨ k = 5 ∨ k = 6 ∨ k = 7 ∨ k = 8 := by omega
          show _ = _
          rcases hcase with rfl | rfl | rfl | rfl | rfl | rfl | rfl | rfl | rfl <;> rfl
        obtain ⟨p, HPk⟩ : ∃ p : Nat, Hid (10 ^ k = p) := ⟨_, rfl⟩
        rw [HPk.out] at HV HS
        by_cases hz : p ≤ z
        · have HS2 : Hid (nPow z (k + 1) = q + 1) := by show _ = _; rw [HS.out, if_pos hz, HQ.out]
          go_wp2_with (refine wpList_index_nums _ rfl (.tmp 14) (.tmp 15) _ rfl Tryd.underlying134 Tryd.plainWord Hi.out Tryd.cellsWord _ rfl k .i64 rfl hlt _ HV.out ?_)
          go_round
          case rel => exact ⟨k + 1, by omega, by congr 1, by rw [HS2.out]; congr 1⟩
          case measure => simp [intOf]; omega
        · have HS2 : Hid (nPow z (k + 1) = q) := by show _ = _; rw [HS.out, if_neg hz, HQ.out]; rfl
          go_wp2_with (refine wpList_index_nums _ rfl (.tmp 14) (.tmp 15) _ rfl Tryd.underlying134 Tryd.plainWord Hi.out Tryd.cellsWord _ rfl k .i64 rfl hlt _ HV.out ?_)
          go_round
          case rel => exact ⟨k + 1, by omega, by congr 1, by rw [HS2.out]⟩
          case measure => simp [intOf]; omega
      · obtain rfl : k = 9 := by omega
        have HF : Hid ((t : Int) * 9 + ((nPow z 9 : Nat) : Int) = (Lib.nDigits x : Int)) := by
          show _ = _
          rw [HD2.out, nPow_nine HT2.out.1 HT2.out.2]; omega
        go_wp2_with fail
        go_ret
        exact ⟨ret_intz HF.out, rfl⟩
end Go.Proofs.YtbbffhpppacihaaDoor
