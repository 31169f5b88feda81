/-
  The library's slices.Grow of no slice, and slices.Concat of slices of ints, as the program calls them. Condition: the slices lie in memory as IntsAt says.
  The library's slices.Concat of slices of ints. Condition: the slices lie in memory as IntsAt says, side by side in one block.
-/
import Derived.Test.YtghgilkdmdppcaaGreatPart2
import Derived.Lib.AppendZeros
namespace Go.Proofs.YtghgilkdmdppcaaGreat
open Go.RowKit Go.Siskin

/-- A row of the call's own is a slice of its length. -/
theorem row_shape {w : World} {base size n : Nat} {e : TypeId} {v : Value} {xs : List Value} (h : w.ownsRow base e size v n xs) : ∃ a c, v = .slice a n c := by
  rcases h.2 with ⟨rfl, rfl⟩ | ⟨g, cap, cur, rfl, -⟩
  · exact ⟨none, 0, rfl⟩
  · exact ⟨_, _, rfl⟩

/-- 'append(s, u...)' of ints onto whatever row of the call's own. -/
theorem run_append_ints_all (w : World) (base : Nat) (i : TypeInfo) (ty : TypeId) (hi : Tryz.prog.info? 3 = some i) (hz : i.zero = some (.int .i64 0)) (h1 : i.size = 1) (h2 : i.bytes = 8)
    (v : Value) (n : Nat) (ys : List Int) (hown : w.ownsRow base 3 1 v n (ys.map (Value.int .i64))) (B : Nat → Prop) (u : Value) (xs : List Int) (hu : IntsAt B w u xs) (hn : n + xs.length ≤ 1048576 * 2) (hb : base ≤ w.heap.size) :
    ∃ a c w', (Builtin.append_ #[22, 22] ty #[v, u]).run Tryz.prog w = .ok (.slice a (n + xs.length) c) w' ∧ w'.ownsRow base 3 1 (.slice a (n + xs.length) c) (n + xs.length) ((ys ++ xs).map (Value.int .i64)) ∧ w.grownBy w' v.ownBlock := by
  rcases hown.2 with ⟨rfl, rfl⟩ | ⟨g, cap, cur, rfl, -⟩
  · have hys : ys = [] := by have := hown.1; simpa using this
    subst hys
    obtain ⟨a, cu, rfl, -, hu⟩ := hu
    have some_case : ∀ (ad : Addr), (∀ j u, (xs.map (Value.int .i64))[j]? = some u → w.cell? (ad.add j) = some u) → ∃ a c w', (Builtin.append_ #[22, 22] ty #[.slice none 0 0, .slice (some ad) xs.length cu]).run Tryz.prog w = .ok (.slice a (0 + xs.length) c) w' ∧ w'.ownsRow base 3 1 (.slice a (0 + xs.length) c) (0 + xs.length) (([] ++ xs).map (Value.int .i64)) ∧ w.grownBy w' (Value.slice none 0 0).ownBlock := by
      intro ad had
      obtain ⟨v', w', hr, ho, hg, -, -⟩ := run_append_own_at (P := Tryz.prog) w base 22 ty 3 i (.int .i64 0) 1 8 Tryz.underlying22 hi hz h1 h2 rfl (by decide) _ 0 _ hown ad xs.length cu (xs.map (Value.int .i64)) (by simp) had (fun u hu => by obtain ⟨x, -, rfl⟩ := List.mem_map.1 hu; rfl) (by unfold maxLen; omega) (by omega) hb
      obtain ⟨a, c, rfl⟩ := row_shape ho
      exact ⟨a, c, w', hr, by simpa using ho, hg⟩
    rcases hu with rfl | ⟨b, o, rfl, -, hu⟩
    · cases a with
      | some ad => exact some_case ad (fun j u hj => by simp at hj)
      | none =>
        refine ⟨none, 0, w, ?_, World.ownsRow_nil _ _ _ _, World.grownBy.refl _ _⟩
        simp [Builtin.append_, run_underlying Tryz.underlying22, sizeOf, typeInfo, hi, Builtin.lenOf, Builtin.firstCells]
    · refine some_case ⟨b, o, none⟩ fun j u hj => ?_
      rw [List.getElem?_map] at hj
      by_cases hjl : j < xs.length
      · rw [List.getElem?_eq_getElem hjl] at hj
        cases hj
        have := hu j hjl
        rw [Go.WideShapes.add_plain, this, List.getD_eq_getElem?_getD, List.getElem?_eq_getElem hjl]; rfl
      · rw [List.getElem?_eq_none (by omega)] at hj
        cases hj
  · obtain ⟨g', c, w', hr, r1, r2, -⟩ := run_append_ints w base i ty hi hz h1 h2 g n cap ys hown B u xs hu hn hb
    exact ⟨_, c, w', hr, r1, r2⟩

/-- The same at the operation. -/
theorem wpList_append_all (w : World) {ops : Array Oper} {rest : List Oper} {o : Oper} {a : Act} {Q : Exit → Act → World → Prop} (hgd : o.guard = none) (s x : Operand)
    (ho : o.op = .call { callee := .builtin .append, args := #[s, x], argTypes := #[22, 22] })
    (base : Nat) (i : TypeInfo) (hi : Tryz.prog.info? 3 = some i) (hz : i.zero = some (.int .i64 0)) (h1 : i.size = 1) (h2 : i.bytes = 8)
    (v : Value) (n : Nat) (ys : List Int) (hs : a.eval s = v) (hown : w.ownsRow base 3 1 v n (ys.map (Value.int .i64))) (B : Nat → Prop) (u : Value) (xs : List Int) (hx : a.eval x = u) (hu : IntsAt B w u xs) (hn : n + xs.length ≤ 1048576 * 2) (hb : base ≤ w.heap.size)
    (h : ∀ a' c w', w'.ownsRow base 3 1 (.slice a' (n + xs.length) c) (n + xs.length) ((ys ++ xs).map (Value.int .i64)) → w.grownBy w' v.ownBlock → wpList Tryz.prog ops Q rest (a.put o.dst (.slice a' (n + xs.length) c)) w') :
    wpList Tryz.prog ops Q (o :: rest) a w := by
  refine wpList_plain hgd fun K hK => ?_
  obtain ⟨a', c, w', hr, r1, r2⟩ := run_append_ints_all w base i o.type hi hz h1 h2 v n ys hown B u xs hu hn hb
  unfold Oper.wp execOp
  simp only [ho, resolve, invoke, builtin, Sem.run_bind, Sem.run_pure, Result.andThen_ok, List.map_toArray, List.map_cons, List.map_nil, hs, hx, hr]
  exact hK _ _ (h a' c w' r1 r2)

/-- And at a step of a region that draws its order. -/
theorem step_append_all (w : World) {ops : Array Oper} {o : Oper} {a : Act} {K : Act → World → Prop} {Q : Exit → Act → World → Prop} {E : Prop} (hgd : o.guard = none) (s x : Operand)
    (ho : o.op = .call { callee := .builtin .append, args := #[s, x], argTypes := #[22, 22] })
    (base : Nat) (i : TypeInfo) (hi : Tryz.prog.info? 3 = some i) (hz : i.zero = some (.int .i64 0)) (h1 : i.size = 1) (h2 : i.bytes = 8)
    (v : Value) (n : Nat) (ys : List Int) (hs : a.eval s = v) (hown : w.ownsRow base 3 1 v n (ys.map (Value.int .i64))) (B : Nat → Prop) (u : Value) (xs : List Int) (hx : a.eval x = u) (hu : IntsAt B w u xs) (hn : n + xs.length ≤ 1048576 * 2) (hb : base ≤ w.heap.size)
    (h : ∀ a' c w', w'.ownsRow base 3 1 (.slice a' (n + xs.length) c) (n + xs.length) ((ys ++ xs).map (Value.int .i64)) → w.grownBy w' v.ownBlock → K (a.put o.dst (.slice a' (n + xs.length) c)) w') :
    if Region.wanted o (yielded ops a.tmps) = true then Oper.wp Tryz.prog o a w K Q else E := by
  have hw : Region.wanted o (yielded ops a.tmps) = true := by simp [Region.wanted, hgd]
  rw [if_pos hw]
  obtain ⟨a', c, w', hr, r1, r2⟩ := run_append_ints_all w base i o.type hi hz h1 h2 v n ys hown B u xs hu hn hb
  unfold Oper.wp execOp
  simp only [ho, resolve, invoke, builtin, Sem.run_bind, Sem.run_pure, Result.andThen_ok, List.map_toArray, List.map_cons, List.map_nil, hs, hx, hr]
  exact h a' c w' r1 r2

set_option maxRecDepth 20000 in
set_option maxHeartbeats 1000000 in
theorem grow_any (w : World) (n : Nat) (hn : n ≤ 1048576 * 2) :
    Calls Tryz.prog 57 #[.slice none 0 0, .int .i64 n] w fun e w' => ∃ v, e = .returned v ∧ w'.ownsRow w.heap.size 3 1 v 0 (([] : List Int).map (Value.int .i64)) ∧ Below w.heap.size w w' := by
  obtain ⟨i0, hi, hz0, hz1, hz2⟩ := info_parts Tryz.infoIntE
  by_cases h0 : n = 0
  · subst h0
    go_enter Tryz.func57, Tryz.ntmps57
    go_wp2_with fail
    go_ret
    exact ⟨_, rfl, World.ownsRow_nil _ _ _ _, Below.refl _ _⟩
  · have hr : ∀ ty, (Builtin.append_ #[22, 3] ty #[.slice none 0 0, .int .i64 n]).run Tryz.prog w = _ := fun ty => Go.Lib.run_append_nil_zeros (P := Tryz.prog) w 22 3 ty 3 i0 (.int .i64 0) .i64 .i64 Tryz.underlying22 Tryz.underlying3 hi hz0 n (by omega) (by omega) (by omega) (by rw [hz2]; omega)
    have hGn : n ≤ grownCap w n 0 3 := grownCap_ge w _ _ _
    have hG63 := grownCap_le_maxLen w n 0 3 (by unfold maxLen; omega)
    obtain ⟨G, hG⟩ : ∃ G, G = grownCap w n 0 3 := ⟨_, rfl⟩
    rw [← hG] at hr hGn hG63
    have HR := hid hr
    have hG9 : G ≤ 9223372036854775807 := by unfold maxLen at hG63; omega
    have p2 : (0 : Int) < (n : Int) := by omega
    have HM := hid hG63
    clear hr hG hi hz0 hz1 hz2 hG63
    go_enter Tryz.func57, Tryz.ntmps57
    go_wp2_with (at_builtin; refine Lib.wpList_append_run _ rfl _ _ _ _ rfl _ _ rfl rfl _ _ (HR.out _) ?_)
    all_goals
      go_ret
      refine ⟨_, rfl, ?_, ((Below.refl _ _).drew).alloc (by simp) _⟩
      exact World.ownsRow_made w.drew _ G (by simp) HM.out (by simp [size_zeroCells]; omega)

end Go.Proofs.YtghgilkdmdppcaaGreat

namespace Go.Proofs.YtghgilkdmdppcaaGreat
open Go.RowKit Go.Siskin

theorem belowJ {B : Nat} {a w : World} (h : Below B a w) (n : Nat) : Below B a (w.drewN n) := h.trans ⟨rfl, rfl, rfl, Nat.le_refl _, fun _ _ => rfl⟩
theorem flat_take {xss : List (List Int)} {k : Nat} (h : k < xss.length) : (xss.take (k + 1)).flatten = (xss.take k).flatten ++ xss[k] := by
  rw [List.take_succ_eq_append_getElem h, List.flatten_append]; simp only [List.flatten_cons, List.flatten_nil, List.append_nil]
theorem flat_le (xss : List (List Int)) (k : Nat) : (xss.take k).flatten.length ≤ xss.flatten.length := by
  have h := List.take_append_drop k xss
  have : xss.flatten = (xss.take k).flatten ++ (xss.drop k).flatten := by rw [← List.flatten_append, h]
  rw [this, List.length_append]; omega

set_option maxRecDepth 20000 in
set_option maxHeartbeats 1000000 in
theorem concat_any (B : Nat → Prop) (w : World) (b cp : Nat) (xss : List (List Int)) (xs : List Int) (hfl : xss.flatten = xs) (hb : b < w.heap.size) (hB : ∀ i, B i → i < w.heap.size)
    (hc : ∀ (i : Nat) (hi : i < xss.length), ∃ v, w.cell? ⟨b, i, none⟩ = some v ∧ IntsAt B w v xss[i]) (hn : xs.length ≤ 1048576 * 2) (hl : xss.length ≤ 10) :
    Calls Tryz.prog 48 #[.slice (some ⟨b, 0, none⟩) xss.length cp] w fun e w' => ∃ a c, e = .returned (.slice a xs.length c) ∧ w'.ownsRow w.heap.size 3 1 (.slice a xs.length c) xs.length (xs.map (Value.int .i64)) ∧ Below w.heap.size w w' := by
  have HB := hid hB
  have HC := hid hc
  have HF : Hid (∀ k, (xss.take k).flatten.length ≤ xs.length) := fun k => by rw [← hfl]; exact flat_le xss k
  have HL : Hid (xss.flatten = xs) := hfl
  clear hB hc hfl
  obtain ⟨i0, hi, hz0, hz1, hz2⟩ := info_parts Tryz.infoIntE
  have Hi := hid hi
  have Hz0 := hid hz0
  have Hz1 := hid hz1
  have Hz2 := hid hz2
  clear hi hz0 hz1 hz2
  go_enter Tryz.func48, Tryz.ntmps48
  go_wp2_with fail
  go_loopw [3, 11] (fun sz i wr => (∃ n, wr = w.drewN n) ∧ ∃ k m : Nat, k ≤ xss.length ∧ i = .int .i64 k ∧ sz = .int .i64 m ∧ Hid (m = (xss.take k).flatten.length)) (fun _ i _ => xss.length - (intOf i).toNat)
  case atStart => exact ⟨⟨0, rfl⟩, 0, 0, Nat.zero_le _, rfl, rfl, rfl⟩
  case round =>
    obtain ⟨⟨n, rfl⟩, k, m, hk, rfl, rfl, HM⟩ := hrel
    by_cases hlt : k < xss.length
    · obtain ⟨v, hv, a, ca, rfl, hla, -⟩ := HC.out k hlt
      have HT := hid (congrArg List.length (flat_take hlt))
      have hf : (xss.take k).flatten.length + xss[k].length ≤ 1048576 * 2 := by
        have h1 := HF.out (k + 1)
        rw [HT.out, List.length_append] at h1
        omega
      have hm : m + xss[k].length ≤ 1048576 * 2 := by have := HM.out; omega
      clear hf
      have hpos : ¬ ((m : Int) + (xss[k].length : Int) < 0) := by omega
      go_wp2_with fail
      refine ⟨⟨⟨n, rfl⟩, k + 1, m + xss[k].length, by omega, by go_num, by go_num, ?_⟩, by simp [intOf]; omega⟩
      show _ = _
      rw [HT.out, List.length_append, ← HM.out]
    · have hkl : k = xss.length := by omega
      have hm : m = xs.length := by have h := HM.out; rw [h, hkl, List.take_length, HL.out]
      clear HM
      subst hm
      go_wp2_with fail
      refine (grow_any _ xs.length hn).mono ?_
      rintro e w1 ⟨v, rfl, ho, hbl⟩
      have ho2 := ho
      obtain ⟨a, c, rfl⟩ := row_shape ho2
      have HO := hid ho
      have HW := hid ((belowJ (Below.refl w.heap.size w) n).trans hbl)
      clear ho hbl ho2
      go_wp2_with fail
      go_loopw [6, 27] (fun s i wr => ∃ k m : Nat, k ≤ xss.length ∧ i = .int .i64 k ∧ ∃ a c, s = .slice a m c ∧ Hid (m = (xss.take k).flatten.length) ∧ Hid (wr.ownsRow w.heap.size 3 1 (.slice a m c) m ((xss.take k).flatten.map (Value.int .i64))) ∧ Hid (Below w.heap.size w wr)) (fun _ i _ => xss.length - (intOf i).toNat)
      case atStart => exact ⟨0, 0, Nat.zero_le _, rfl, _, _, rfl, rfl, HO, HW⟩
      case round =>
        obtain ⟨j, m, hj, rfl, a1, c1, rfl, HM, HR, HV⟩ := hrel
        have hsz := HV.out.size
        by_cases hjt : j < xss.length
        · obtain ⟨v, hv, hin⟩ := HC.out j hjt
          have hcell := HV.out.cell (p := ⟨b, j, none⟩) hb
          rw [hv] at hcell
          have HU := hid (hin.keep (HV.out.on HB.out))
          obtain ⟨a2, ca, rfl, hla, -⟩ := hin
          have HT := hid (flat_take hjt)
          have hm : m + xss[j].length ≤ 1048576 * 2 := by
            have h1 := HF.out (j + 1)
            rw [HT.out, List.length_append] at h1
            have := HM.out
            omega
          go_wp2_with (at_builtin; refine wpList_append_all _ rfl _ _ rfl w.heap.size i0 Hi.out Hz0.out Hz1.out Hz2.out _ m _ rfl HR.out B _ xss[j] rfl HU.out hm (by omega) ?_; intro a3 c3 w3 hown hg)
          refine ⟨⟨j + 1, m + xss[j].length, by omega, by go_num, a3, c3, rfl, ?_, ?_, ?_⟩, by simp [intOf]; omega⟩
          · show _ = _
            rw [HT.out, List.length_append, ← HM.out]
          · show World.ownsRow _ _ _ _ _ _ _
            rw [HT.out]; exact hown
          · exact HV.out.grown hg hsz fun g e => (HR.out.lt g e).1
        · have hjl : j = xss.length := by omega
          have hm : m = xs.length := by have h := HM.out; rw [h, hjl, List.take_length, HL.out]
          rw [hjl, List.take_length, HL.out] at HR
          clear HM
          subst hm
          go_wp2_with fail
          go_ret
          exact ⟨a1, c1, rfl, HR.out, HV.out⟩

end Go.Proofs.YtghgilkdmdppcaaGreat
