/-
  The model's l11Text and l11Small: digits from the right as a numeral, and the numeral of a small number. Condition: the digits lie in memory as IntsAt says.
  The program's naturals: isNought, isOne, trimmed, naturalOf. Condition: the groups lie in memory as NatA says.
  The program's digits of a natural. Condition: the groups lie in memory as NatA says, and the table of powers stands.
-/
import Derived.Test.YtakicnplmcemnaaDoorPart1
import Derived.Deep.RegionHeld3
import Derived.Deep.RegionLaw
import Derived.Deep.AppendLies
import Derived.Deep.QuietTactic
import Derived.BigQuiet
import Derived.Deep.Draws
namespace Go.Proofs.YtakicnplmcemnaaDoor
open Go.RowKit Go.Siskin

theorem Tryd.infoByteZ : (Tryd.prog.info? 5).map (fun i => (i.zero, i.size, i.bytes)) = some (some (.int .u8 0), 1, 1) := by kernel_rfl
theorem info_partsZ {P : Program} {t : TypeId} {z : Option Value} {s b : Nat} (h : (P.info? t).map (fun i => (i.zero, i.size, i.bytes)) = some (z, s, b)) : ∃ i, P.info? t = some i ∧ i.zero = z ∧ i.size = s ∧ i.bytes = b := by
  obtain ⟨i, hi, he⟩ := Option.map_eq_some_iff.1 h
  simp only [Prod.mk.injEq] at he
  exact ⟨i, hi, he.1, he.2.1, he.2.2⟩

/-- Digits from the right. -/
def lowD : List Nat → Nat
  | [] => 0
  | d :: r => d + 10 * lowD r
def OkD (ds : List Nat) : Prop := ∀ d ∈ ds, d < 10
theorem lowD_lt : ∀ ds : List Nat, OkD ds → lowD ds < 10 ^ ds.length
  | [], _ => by simp [lowD]
  | d :: r, h => by
    have h1 := lowD_lt r (fun x hx => h x (List.mem_cons_of_mem _ hx))
    have h2 := h d (List.mem_cons_self ..)
    rw [lowD, List.length_cons, Nat.pow_succ]; omega
theorem lowD_append : ∀ (ds : List Nat) (x : Nat), lowD (ds ++ [x]) = lowD ds + x * 10 ^ ds.length
  | [], x => by simp [lowD]
  | d :: r, x => by
    rw [List.cons_append, lowD, lowD_append r x, lowD, List.length_cons, Nat.pow_succ, Nat.mul_add, Nat.mul_comm (10 ^ r.length) 10, ← Nat.mul_assoc, ← Nat.mul_assoc, Nat.mul_comm 10 x]; omega
theorem lowD_get : ∀ (ds : List Nat) (k : Nat) (h : k < ds.length), OkD ds → lowD ds / 10 ^ k % 10 = ds[k]
  | d :: r, 0, _, h => by
    have := h d (List.mem_cons_self ..)
    simp [lowD]; omega
  | d :: r, k + 1, hk, h => by
    have h0 := h d (List.mem_cons_self ..)
    have h1 := lowD_get r k (by simpa using hk) (fun x hx => h x (List.mem_cons_of_mem _ hx))
    rw [lowD, Nat.pow_succ, Nat.mul_comm (10 ^ k) 10, ← Nat.div_div_eq_div_mul, show (d + 10 * lowD r) / 10 = lowD r by omega, h1]; rfl

theorem conv_dig (W : World) (g cap : Nat) (l : List UInt8) (cs : Array Value) (e : TypeId) (ho : Own W g e cs) (hl : ∀ j (h : j < l.length), cs[j]? = some (.int .u8 (l[j].toNat : Int))) :
    (convert 67 9 (.slice (some ⟨g, 0, none⟩) l.length cap)).run Tryd.prog W = .ok (.string ⟨l.toArray⟩) W :=
  run_convert_bytes_back (P := Tryd.prog) W 67 9 5 ⟨g, 0, none⟩ cap l Tryd.underlying67 Tryd.underlying5 Tryd.underlying9 (fun j hj => by
    have h := ho.cell j
    rw [show (⟨g, 0, none⟩ : Addr).add j = ⟨g, j, none⟩ by unfold Addr.add; split <;> simp_all]
    exact h.trans (hl j hj))

set_option maxRecDepth 20000 in
set_option maxHeartbeats 1000000 in
theorem l11Text_any (ds : List Nat) (B : Nat → Prop) (va : Value) (w : World) (ha : IntsAt B w va (ds.map fun d : Nat => (d : Int))) (hB : ∀ b, B b → b < w.heap.size) (hn : ds.length ≤ 1048576) (hd : OkD ds) :
    Calls Tryd.prog 77 #[va] w fun e w' => e = .returned (.string (dec (lowD ds))) ∧ Below w.heap.size w w' := by
  obtain ⟨a, ca, rfl, hla, ha⟩ := ha
  rw [List.length_map] at *
  obtain ⟨i, hi, hz0, hz1, hz2⟩ := info_partsZ Tryd.infoByteZ
  have Hi := hid hi
  have Hz0 := hid hz0
  have Hz1 := hid hz1
  have Hz2 := hid hz2
  have HD := hid hd
  have HBB := hid hB
  clear hi hz0 hz1 hz2 hla hd hB
  generalize hL : ds.length = L at *
  go_enter Tryd.func77, Tryd.ntmps77
  go_wp2_with (at_make; refine wpList_make_new _ rfl _ _ 67 rfl 5 i (.int .u8 0) 1 Tryd.underlying67 Hi.out Hz0.out Hz1.out .i64 .i64 L rfl rfl (by rw [Hz2.out]; omega) (by unfold maxLen; omega) ?_)
  go_loopw [4] (fun i wr => ∃ k : Nat, k ≤ L ∧ i = .int .i64 k ∧ Hid (∃ cs : Array Value, Own wr w.heap.size 5 cs ∧ cs.size = L ∧ (∀ j, L - k ≤ j → j < L → cs[j]? = some (.int .u8 ((Lib.dg (lowD ds) (L - 1 - j)).toNat : Int))) ∧ Below w.heap.size w wr)) (fun i _ => L - (intOf i).toNat)
  case atStart => exact ⟨0, Nat.zero_le _, rfl, _, own_new _ _ _, by simp [size_madeCells], fun j h1 h2 => absurd h2 (by omega), (Below.refl _ _).alloc (Nat.le_refl _) _⟩
  case round =>
    obtain ⟨k, hk, rfl, HA⟩ := hrel
    obtain ⟨cs, ho, hcs, hgot, hbel⟩ := HA.out
    have HO := hid ho
    have HG := hid hgot
    have HB := hid hbel
    have HCS := hid hcs
    by_cases hlt : k < L
    · rcases ha with ha | ⟨ba, oa, rfl, hb, ha⟩
      · have := List.map_eq_nil_iff.1 ha; subst this; simp at hL; omega
      have hk' : k < ds.length := by omega
      have ga := (hbel.cell (p := ⟨ba, oa + k, none⟩) (HBB.out ba hb)).trans (ha k hlt)
      rw [show (ds.map fun d : Nat => (d : Int)).getD k 0 = (ds[k] : Int) by simp [List.getD_eq_getElem?_getD, hk']] at ga
      have gc := ho.cell (L - 1 - k)
      rw [Array.getElem?_eq_getElem (by omega)] at gc
      have gf := ho.frozen (L - 1 - k)
      have hdk : ds[k] < 10 := HD.out _ (List.getElem_mem hk')
      have HX : Hid (lowD ds / 10 ^ k % 10 = ds[k]) := lowD_get ds k hk' HD.out
      generalize ds[k] = x at *
      generalize hgd : cs[L - 1 - k] = old at gc
      clear ha HA ho hgot hbel hcs hgd
      go_wp2_with fail
      refine ⟨⟨k + 1, by omega, by go_num, _, HO.out.set (L - 1 - k) _, by simp [HCS.out], ?_, HB.out.setCell (Nat.le_refl _) _⟩, by simp [intOf]; omega⟩
      intro j h1 h2
      by_cases e : j = L - 1 - k
      · subst e
        rw [Array.getElem?_setIfInBounds, if_pos rfl, if_pos (by rw [HCS.out]; omega), show L - 1 - (L - 1 - k) = k by omega, dg_nat, HX.out]
        congr 2 <;> omega
      · rw [Array.getElem?_setIfInBounds, if_neg (by omega)]; exact HG.out j (by omega) h2
    · clear HA ho hgot hbel hcs
      obtain rfl : k = L := by omega
      by_cases h0 : k = 0
      · subst h0
        have : ds = [] := List.length_eq_zero_iff.1 hL
        subst this
        have HZ : Hid ((⟨#[48]⟩ : ByteArray) = dec (lowD [])) := by show _ = _; rw [dec_small (by simp [lowD])]; rfl
        go_wp2_with fail
        go_ret
        exact ⟨ret_strz HZ.out, HB.out⟩
      · have h0' : ((k : Int) == 0) = false := by rw [beq_eq_false_iff_ne]; omega
        have hcv := conv_dig wr w.heap.size k (digL k (lowD ds)) cs 5 HO.out (fun j h => by
          rw [digL_length] at h
          rw [HG.out j (by omega) h]
          simp [digL])
        rw [digL_length] at hcv
        have HT := hid (l11Trim_any k (lowD ds) wr (by unfold maxLen; omega) (by omega) (by rw [← hL]; exact lowD_lt ds HD.out))
        have hcv' : (convert 67 9 (.slice (some ⟨w.heap.size, 0, none⟩) k k)).run Tryd.prog wr = .ok (.string (digT k (lowD ds))) wr := hcv
        clear hcv
        go_wp2_with (go_at_call 93; refine HT.out.mono ?_; rintro e w' ⟨rfl, rfl⟩)
        go_ret
        exact ⟨rfl, HB.out⟩
end Go.Proofs.YtakicnplmcemnaaDoor

namespace Go.Proofs.YtakicnplmcemnaaDoor
open Go.RowKit Go.Siskin

theorem nG_lim {x : Nat} (h : nG x ≤ 1000) : (nG x : Int) ≤ 1000 := by omega

set_option maxHeartbeats 400000 in
theorem isNought_any (x : Nat) (v : Value) (w : World) (h : NatA w v (grp x)) :
    Calls Tryd.prog 50 #[v] w fun e w' => e = .returned (.bool (x == 0)) ∧ w' = w := by
  obtain ⟨a, cap, rfl, h1, h2, h3⟩ := h
  rw [grp_length] at *
  have HE : Hid ((x == 0) = ((nG x : Int) == 0)) := by
    show _ = _
    rw [Bool.eq_iff_iff]
    have := @nG_is_zero x
    simp; omega
  unfold maxLen at h2
  clear h3
  go_enter Tryd.func50, Tryd.ntmps50
  go_wp2_with fail
  go_ret
  exact ⟨ret_boolz HE.out.symm, rfl⟩

set_option maxHeartbeats 400000 in
theorem isOne_any (x : Nat) (v : Value) (w : World) (h : NatA w v (grp x)) :
    Calls Tryd.prog 75 #[v] w fun e w' => e = .returned (.bool (x == 1)) ∧ w' = w := by
  obtain ⟨a, cap, rfl, h1, h2, h3⟩ := h
  have HG := hid (grpN_get (nG x) x)
  rw [grp_length] at *
  unfold maxLen at h2
  by_cases h1x : nG x = 1
  · have hb : ((nG x : Int) == 1) = true := by rw [h1x]; rfl
    rcases h3 with h3 | ⟨b, o, rfl, -, h3⟩
    · have := congrArg List.length h3; rw [grp_length, h1x] at this; simp at this
    have hx0 : 0 < x := by
      rcases Nat.eq_zero_or_pos x with h | h
      · subst h; simp [nG] at h1x
      · exact h
    have hxs := lt_pow_nG x
    rw [h1x, Nat.pow_one] at hxs
    have g : w.cell? ⟨b, o, none⟩ = some (.int .u64 (x : Int)) := by
      have h := h3 0 (by rw [grp_length]; omega)
      rw [Nat.add_zero] at h
      rw [h]
      unfold grp; rw [HG.out]; simp [Nat.mod_eq_of_lt hxs]
    have hpos : 0 < nG x := by omega
    clear h3 h1x HG
    go_enter Tryd.func75, Tryd.ntmps75
    go_wp2_with fail
    go_ret
    exact ⟨ret_boolz (by rw [Bool.eq_iff_iff]; simp; omega), rfl⟩
  · have hb : ((nG x : Int) == 1) = false := by rw [beq_eq_false_iff_ne]; omega
    have HE : Hid ((x == 1) = false) := by
      show _ = _
      rw [beq_eq_false_iff_ne]; rintro rfl; exact h1x (nG_one (by decide) (by decide))
    clear h3 HG
    go_enter Tryd.func75, Tryd.ntmps75
    go_wp2_with fail
    go_ret
    exact ⟨ret_boolz HE.out.symm, rfl⟩

set_option maxHeartbeats 1000000 in
theorem trimmed_row (B : Nat → Prop) (m x : Nat) (v : Value) (w : World) (h : RowOf .u64 B w v (grpN m x)) (hx : x < 1000000000 ^ m) :
    Calls Tryd.prog 94 #[v] w fun e w' => ∃ u, e = .returned u ∧ RowOf .u64 B w' u (grp x) ∧ w' = w := by
  obtain ⟨a, cap, rfl, h1, h2, h3⟩ := h
  have HG := hid (grpN_get m x)
  have HN := hid h3
  rw [grpN_length] at *
  unfold maxLen at h2
  have HX := hid hx
  clear h3 hx
  go_enter Tryd.func94, Tryd.ntmps94
  go_wp2_with fail
  go_loop [0] (fun n => ∃ j : Nat, j ≤ m ∧ n = .slice a j cap ∧ Hid (x < 1000000000 ^ j)) (fun n => match n with | .slice _ j _ => j | _ => 0)
  case atStart => exact ⟨m, Nat.le_refl _, rfl, HX.out⟩
  case round =>
    obtain ⟨j, hj, rfl, HJ⟩ := hrel
    have HEnd : Hid ((j = 0 ∨ 1000000000 ^ (j - 1) ≤ x) → RowOf .u64 B w (.slice a j cap) (grp x)) := fun hh => by
      have e := grpN_grp HJ.out hh
      rw [← e]
      refine ⟨a, cap, by rw [grpN_length], by rw [grpN_length]; omega, by unfold maxLen; omega, ?_⟩
      rcases HN.out with h | ⟨b, o, e1, hb, h⟩
      · left
        have := congrArg List.length h; rw [grpN_length] at this; simp at this
        have : j = 0 := by omega
        subst this; rfl
      · refine Or.inr ⟨b, o, e1, hb, fun i hi => ?_⟩
        rw [grpN_length] at hi
        rw [h i (by rw [grpN_length]; omega), grpN_get, grpN_get]
    by_cases h0 : j = 0
    · subst h0
      go_wp2_with fail
      go_ret
      exact ⟨_, rfl, HEnd.out (by simp), rfl⟩
    · have hj0 : 0 < j := by omega
      rcases HN.out with h | ⟨b, o, rfl, hb, h⟩
      · have := congrArg List.length h; rw [grpN_length] at this; simp at this; omega
      have g := h (j - 1) (by rw [grpN_length]; omega)
      rw [grpN_get, show o + (j - 1) = o + (j - 1) from rfl] at g
      clear h hb
      obtain ⟨i, rfl⟩ : ∃ i, j = i + 1 := ⟨j - 1, by omega⟩
      rw [Nat.add_sub_cancel] at g
      obtain ⟨y, HY⟩ : ∃ y, Hid (x / 1000000000 ^ i % 1000000000 = y) := ⟨_, rfl⟩
      rw [HY.out] at g
      by_cases hy : y = 0
      · subst hy
        have HJ2 : Hid (x < 1000000000 ^ i) := by
          have h1 := HJ.out
          rw [Nat.pow_succ] at h1
          have h2 : x / 1000000000 ^ i < 1000000000 := Nat.div_lt_of_lt_mul h1
          have h3 := HY.out
          rw [Nat.mod_eq_of_lt h2] at h3
          have hp := p9pos i
          rcases Nat.lt_or_ge x (1000000000 ^ i) with h | h
          · exact h
          · have := Nat.div_pos h hp; omega
        go_wp2_with fail
        go_round
        case rel => exact ⟨i, by omega, by congr 1, HJ2⟩
        case measure => simp
      · have hyb : ((y : Int) == 0) = false := by rw [beq_eq_false_iff_ne]; omega
        have HE2 : Hid (RowOf .u64 B w (.slice (some ⟨b, o, none⟩) (i + 1) cap) (grp x)) := HEnd.out (Or.inr (by
          rw [Nat.add_sub_cancel]
          rcases Nat.lt_or_ge x (1000000000 ^ i) with h | h
          · have := HY.out; rw [Nat.div_eq_of_lt h] at this; simp at this; omega
          · exact h))
        clear hy
        go_wp2_with fail
        go_ret
        exact ⟨_, rfl, HE2.out, rfl⟩
theorem trimmed_any (m x : Nat) (v : Value) (w : World) (h : NatA w v (grpN m x)) (hx : x < 1000000000 ^ m) :
    Calls Tryd.prog 94 #[v] w fun e w' => ∃ u, e = .returned u ∧ NatA w' u (grp x) ∧ w' = w := by
  refine (trimmed_row (fun b => b < w.heap.size) m x v w h hx).mono ?_
  rintro e w' ⟨u, rfl, h1, rfl⟩
  exact ⟨u, rfl, h1, rfl⟩

set_option maxRecDepth 20000 in
set_option maxHeartbeats 1000000 in
theorem naturalOf_any (x : Nat) (w : World) (hx : x ≤ 18446744073709551615) :
    Calls Tryd.prog 39 #[.int .u64 x] w fun e w' => ∃ u, e = .returned u ∧ NatA w' u (grp x) ∧ Below w.heap.size w w' := by
  obtain ⟨i0, hi, hz0, hz1, hz2⟩ := info_partsZ Tryd.infoWordZ
  have Hi := hid hi
  have Hz0 := hid hz0
  have Hz1 := hid hz1
  have Hz2 := hid hz2
  clear hi hz0 hz1 hz2
  have HX := hid hx
  clear hx
  go_enter Tryd.func39, Tryd.ntmps39
  go_wp2_with fail
  go_loopw [0, 3] (fun z n wr => ∃ (k y : Nat) (ua : Option Addr) (uc : Nat), z = .int .u64 y ∧ n = .slice ua k uc ∧ Hid (x / 1000000000 ^ k = y) ∧ k ≤ 3 ∧ Hid (k = 0 ∨ 1000000000 ^ (k - 1) ≤ x) ∧ Hid (wr.ownsRow w.heap.size 52 1 (.slice ua k uc) k (numL .u64 (grpN k x))) ∧ Hid (Below w.heap.size w wr)) (fun _ n _ => match n with | .slice _ j _ => 3 - j | _ => 0)
  case atStart => exact ⟨0, x, none, 0, rfl, rfl, by show _ = _; simp, by omega, Or.inl rfl, World.ownsRow_nil _ _ _ _, Below.refl _ _⟩
  case round =>
    obtain ⟨k, y, ua, uc, rfl, rfl, HY, hk3, HT, HU, HB⟩ := hrel
    have hsz := HB.out.size
    by_cases hy : 0 < y
    · have hk : k < 3 := by
        rcases Nat.lt_or_ge k 3 with h | h
        · exact h
        · exfalso
          have hk3 : k = 3 := by omega
          subst hk3
          have h1 := HY.out
          have h2 := HX.out
          rw [Nat.div_eq_of_lt (by simp; omega)] at h1
          omega
      have HT2 : Hid (1000000000 ^ k ≤ x) := by
        rcases Nat.lt_or_ge x (1000000000 ^ k) with h | h
        · have := HY.out; rw [Nat.div_eq_of_lt h] at this; omega
        · exact h
      have hyl : y ≤ 18446744073709551615 := by rw [← HY.out]; exact Nat.le_trans (Nat.div_le_self _ _) HX.out
      have hw1 : IntKind.u64.wrap ((y : Int).tmod 1000000000) = (y : Int) % 1000000000 := by
        rw [Int.tmod_eq_emod_of_nonneg (by omega)]; simp [IntKind.wrap, IntKind.bits, IntKind.signed]; omega
      have hw2 : IntKind.u64.wrap ((y : Int).tdiv 1000000000) = (y : Int) / 1000000000 := by
        rw [Int.tdiv_eq_ediv_of_nonneg (by omega)]; simp [IntKind.wrap, IntKind.bits, IntKind.signed]; omega
      have HYL := hid hyl
      clear hyl
      go_wp2_with (at_builtin; refine wpList_append_lies _ rfl _ _ _ rfl w.heap.size 52 i0 (.int .u64 0) 1 8 Tryd.underlying44 Hi.out Hz0.out Hz1.out Hz2.out rfl (by decide) _ k (numL .u64 (grpN k x)) rfl (HU.out.alloc _) ⟨wr.heap.size, 0, none⟩ 1 1 [.int .u64 ((y : Int) % 1000000000)] rfl rfl (cell_one_newZ _ _ _) (by simp [Value.oneCell']) (by omega) (by unfold maxLen; omega) (by omega) (by simp; omega) (wr.heap.size + 1) (by simp) ?_; intro gg cc w4 hown' hg hat hgl; have hall := (World.grownBy_alloc wr _ _).trans hg)
      have hlow : ∀ g, (Value.slice ua k uc).ownBlock = some g → w.heap.size ≤ g := fun g e => (HU.out.lt g e).1
      have e2 : ((x / 1000000000 ^ k % 1000000000 : Nat) : Int) = (y : Int) % 1000000000 := by rw [HY.out]; omega
      refine ⟨⟨k + 1, y / 1000000000, some ⟨gg, 0, none⟩, cc, by congr 1, rfl, by show _ = _; rw [Nat.pow_succ, ← Nat.div_div_eq_div_mul, HY.out], by omega, Or.inr (by rw [Nat.add_sub_cancel]; exact HT2.out), ?_, HB.out.grown hall hsz hlow⟩, by simp; omega⟩
      show World.ownsRow _ _ _ _ _ _ _
      rw [grpN_snoc, numL_snoc, e2]
      exact hown'
    · obtain rfl : y = 0 := by omega
      have HE := hid (grpN_grp (v := x) (m := k) (by
        have h := HY.out
        rcases Nat.lt_or_ge x (1000000000 ^ k) with h' | h'
        · exact h'
        · have := Nat.div_pos h' (p9pos k); omega) HT.out)
      go_wp2_with fail
      go_ret
      refine ⟨_, rfl, ?_, HB.out⟩
      have := natA_own HU.out
      rw [HE.out] at this
      exact this
end Go.Proofs.YtakicnplmcemnaaDoor

namespace Go.Proofs.YtakicnplmcemnaaDoor
open Go.RowKit Go.Siskin

theorem run_index_nums {P : Program} {t e : TypeId} {n : Nat} (ht : P.underlying t = some (.array n e)) (he : P.plainKey e = true) {i : TypeInfo} (hi : P.info? e = some i) (h1 : P.cellsOf e = 1) {cs : Array Value} {k : Nat} {kk : IntKind} (hk : k < n) {v : Value} (hv : cs[k]? = some v) (w : World) :
    (Instr.index t (.agg cs) (.int kk k)).run P w = .ok v w := by
  have hk' : (0 : Int) ≤ k ∧ (k : Int) < n := ⟨by omega, by omega⟩
  unfold Instr.index
  simp only [asIntOf, Sem.run_bind, Sem.run_pure, Result.andThen_ok, run_underlying ht, if_pos hk', run_sizeOf w hi, h1, Nat.mul_one, Int.toNat_natCast]
  exact run_part_plain w he hv
/-- An element of an array that is held. -/
theorem wpList_index_nums {P : Program} (w : World) {ops : Array Oper} {rest : List Oper} {o : Oper} {a : Act} {Q : Exit → Act → World → Prop} (hgd : o.guard = none) (x i : Operand) (t : TypeId) (hop : o.op = Op.index t x i)
    {e : TypeId} {n : Nat} (ht : P.underlying t = some (.array n e)) (he : P.plainKey e = true) {inf : TypeInfo} (hi : P.info? e = some inf) (h1 : P.cellsOf e = 1) (cs : Array Value) (hx : a.eval x = .agg cs) (k : Nat) (kk : IntKind) (hk : a.eval i = .int kk k) (hkn : k < n) (v : Value) (hv : cs[k]? = some v)
    (hK : wpList P ops Q rest (a.put o.dst v) w) : wpList P ops Q (o :: rest) a w := by
  refine wpList_plain hgd fun K hK' => ?_
  unfold Oper.wp execOp
  simp only [hop, hx, hk, run_index_nums ht he hi h1 hkn hv w, Sem.run_bind, Result.andThen_ok, Sem.run_pure]
  exact hK' _ _ hK
theorem Tryd.plainWord : Tryd.prog.plainKey 52 = true := by kernel_rfl
theorem Tryd.cellsWord : Tryd.prog.cellsOf 52 = 1 := by kernel_rfl

set_option maxRecDepth 20000 in
set_option maxHeartbeats 1000000 in
theorem digits_any (x : Nat) (v : Value) (w : World) (h : NatA w v (grp x)) (hn : nG x ≤ 1000000) (hP : Pow9 w) :
    Calls Tryd.prog 96 #[v] w fun e w' => e = .returned (.int .i64 (Lib.nDigits x)) ∧ w' = w := by
  have HN := hid h
  have HC := hid (isNought_any x v w h)
  obtain ⟨a, cap, rfl, h1, h2, h3⟩ := h
  rw [grp_length] at *
  unfold maxLen at h2
  rcases Nat.eq_zero_or_pos x with h0 | h0
  · subst h0
    clear h3
    go_enter Tryd.func96, Tryd.ntmps96
    go_wp2_with (go_at_call 50; refine HC.out.mono ?_; rintro e w' ⟨rfl, rfl⟩)
    go_ret
    exact ⟨ret_intz (by rw [Lib.nDigits_small (by decide)]; rfl), rfl⟩
  · have hx0 : (x == 0) = false := by rw [beq_eq_false_iff_ne]; omega
    rw [hx0] at HC
    clear hx0
    have hg := nG_pos h0
    have HT := hid (top_pos h0)
    have HD := hid (nDigits_top h0)
    rcases h3 with h3 | ⟨b, o, rfl, -, h3⟩
    · have := congrArg List.length h3; rw [grp_length] at this; simp at this; omega
    obtain ⟨t, HTG⟩ : ∃ t, Hid (nG x = t + 1) := ⟨nG x - 1, by show _ = _; omega⟩
    rw [HTG.out] at h1 hn HC
    have g : w.cell? ⟨b, o + t, none⟩ = some (.int .u64 ((x / 1000000000 ^ t : Nat) : Int)) := by
      have h := h3 t (by rw [grp_length, HTG.out]; omega)
      rw [h]
      have e := top_get h0
      rw [HTG.out, Nat.add_sub_cancel] at e
      unfold grp; rw [grpN_get, e]
    have HT2 : Hid (0 < x / 1000000000 ^ t ∧ x / 1000000000 ^ t < 1000000000) := by
      have h := HT.out; rw [HTG.out, Nat.add_sub_cancel] at h; exact h
    have HD2 : Hid (Lib.nDigits x = 9 * t + Lib.nDigits (x / 1000000000 ^ t)) := by
      have h := HD.out; rw [HTG.out, Nat.add_sub_cancel] at h; exact h
    obtain ⟨z, HZ⟩ : ∃ z, Hid (x / 1000000000 ^ t = z) := ⟨_, rfl⟩
    rw [HZ.out] at g HT2 HD2
    rw [HTG.out]
    have P0 := hP.2 0 (by omega)
    have P1 := hP.2 1 (by omega)
    have P2 := hP.2 2 (by omega)
    have P3 := hP.2 3 (by omega)
    have P4 := hP.2 4 (by omega)
    have P5 := hP.2 5 (by omega)
    have P6 := hP.2 6 (by omega)
    have P7 := hP.2 7 (by omega)
    have P8 := hP.2 8 (by omega)
    obtain ⟨i0, hi, -, -, -⟩ := info_partsZ Tryd.infoWordZ
    have Hi := hid hi
    clear hi
    clear h3 hg hP HD HT HN
    go_enter Tryd.func96, Tryd.ntmps96
    go_wp2_with (go_at_call 50; refine HC.out.mono ?_; rintro e w' ⟨rfl, rfl⟩)
    go_loop [4, 15] (fun c i => ∃ k : Nat, k ≤ 9 ∧ i = .int .i64 k ∧ c = .int .i64 ((t : Int) * 9 + ((nPow z k : Nat) : Int))) (fun _ i => 9 - (intOf i).toNat)
    case atStart => exact ⟨0, by omega, rfl, by simp [nPow]⟩
    case round =>
      obtain ⟨k, hk, rfl, rfl⟩ := hrel
      have hle := nPow_le z k
      by_cases hlt : k < 9
      · have HS := hid (nPow_succ z k)
        obtain ⟨q, HQ⟩ : ∃ q, Hid (nPow z k = q) := ⟨_, rfl⟩
        rw [HQ.out] at hle ⊢
        have hzz : z < 1000000000 := HT2.out.2
        have HV : Hid ((#[.int .u64 1, .int .u64 10, .int .u64 100, .int .u64 1000, .int .u64 10000, .int .u64 100000, .int .u64 1000000, .int .u64 10000000, .int .u64 100000000] : Array Value)[k]? = some (.int .u64 ((10 ^ k : Nat) : Int))) := by
          have hcase : k = 0 ∨ k = 1 ∨ k = 2 ∨ k = 3 ∨ k = 4 ∨ k = 5 ∨ k = 6 ∨ k = 7 ∨ k = 8 := by omega
          show _ = _
          rcases hcase with rfl | rfl | rfl | rfl | rfl | rfl | rfl | rfl | rfl <;> rfl
        obtain ⟨p, HPk⟩ : ∃ p : Nat, Hid (10 ^ k = p) := ⟨_, rfl⟩
        rw [HPk.out] at HV HS
        by_cases hz : p ≤ z
        · have HS2 : Hid (nPow z (k + 1) = q + 1) := by show _ = _; rw [HS.out, if_pos hz, HQ.out]
          go_wp2_with (refine wpList_index_nums _ rfl (.tmp 14) (.tmp 15) _ rfl Tryd.underlying113 Tryd.plainWord Hi.out Tryd.cellsWord _ rfl k .i64 rfl hlt _ HV.out ?_)
          go_round
          case rel => exact ⟨k + 1, by omega, by congr 1, by rw [HS2.out]; congr 1⟩
          case measure => simp [intOf]; omega
        · have HS2 : Hid (nPow z (k + 1) = q) := by show _ = _; rw [HS.out, if_neg hz, HQ.out]; rfl
          go_wp2_with (refine wpList_index_nums _ rfl (.tmp 14) (.tmp 15) _ rfl Tryd.underlying113 Tryd.plainWord Hi.out Tryd.cellsWord _ rfl k .i64 rfl hlt _ HV.out ?_)
          go_round
          case rel => exact ⟨k + 1, by omega, by congr 1, by rw [HS2.out]⟩
          case measure => simp [intOf]; omega
      · obtain rfl : k = 9 := by omega
        have HF : Hid ((t : Int) * 9 + ((nPow z 9 : Nat) : Int) = (Lib.nDigits x : Int)) := by
          show _ = _
          rw [HD2.out, nPow_nine HT2.out.1 HT2.out.2]; omega
        go_wp2_with fail
        go_ret
        exact ⟨ret_intz HF.out, rfl⟩
end Go.Proofs.YtakicnplmcemnaaDoor
