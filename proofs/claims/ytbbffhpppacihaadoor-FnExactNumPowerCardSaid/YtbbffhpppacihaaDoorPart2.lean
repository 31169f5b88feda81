/-
  The model's l11Text and l11Small: digits from the right as a numeral, and the numeral of a small number. Condition: the digits lie in memory as IntsAt says.
  The program's naturals: isNought, isOne, trimmed, naturalOf. Condition: the groups lie in memory as NatA says.
  Plain numbers: digits from the right under adding, taking away; what carrying comes to. No program is named.
  The program's naturalIn: what decimal digits tell, in groups. Condition: the text is a numeral of at most 100,000 digits, and the table of powers stands.
  Plain numbers: groups from a place on, and what they come to. No program is named.
-/
import Derived.Test.YtbbffhpppacihaaDoorPart1
import Derived.Deep.RegionHeld3
import Derived.Deep.RegionLaw
import Derived.Deep.AppendLies
import Derived.Deep.QuietTactic
import Derived.BigQuiet
import Derived.Deep.Draws
namespace Go.Proofs.YtbbffhpppacihaaDoor
open Go.RowKit Go.Siskin

theorem Tryd.infoByteZ : (Tryd.prog.info? 5).map (fun i => (i.zero, i.size, i.bytes)) = some (some (.int .u8 0), 1, 1) := by kernel_rfl
theorem info_partsZ {P : Program} {t : TypeId} {z : Option Value} {s b : Nat} (h : (P.info? t).map (fun i => (i.zero, i.size, i.bytes)) = some (z, s, b)) : ∃ i, P.info? t = some i ∧ i.zero = z ∧ i.size = s ∧ i.bytes = b := by
  obtain ⟨i, hi, he⟩ := Option.map_eq_some_iff.1 h
  simp only [Prod.mk.injEq] at he
  exact ⟨i, hi, he.1, he.2.1, he.2.2⟩

/-- Digits from the right. -/
def lowD : List Nat → Nat
  | [] => 0
  | d :: r => d + 10 * lowD r
def OkD (ds : List Nat) : Prop := ∀ d ∈ ds, d < 10
theorem lowD_lt : ∀ ds : List Nat, OkD ds → lowD ds < 10 ^ ds.length
  | [], _ => by simp [lowD]
  | d :: r, h => by
    have h1 := lowD_lt r (fun x hx => h x (List.mem_cons_of_mem _ hx))
    have h2 := h d (List.mem_cons_self ..)
    rw [lowD, List.length_cons, Nat.pow_succ]; omega
theorem lowD_append : ∀ (ds : List Nat) (x : Nat), lowD (ds ++ [x]) = lowD ds + x * 10 ^ ds.length
  | [], x => by simp [lowD]
  | d :: r, x => by
    rw [List.cons_append, lowD, lowD_append r x, lowD, List.length_cons, Nat.pow_succ, Nat.mul_add, Nat.mul_comm (10 ^ r.length) 10, ← Nat.mul_assoc, ← Nat.mul_assoc, Nat.mul_comm 10 x]; omega
theorem lowD_get : ∀ (ds : List Nat) (k : Nat) (h : k < ds.length), OkD ds → lowD ds / 10 ^ k % 10 = ds[k]
  | d :: r, 0, _, h => by
    have := h d (List.mem_cons_self ..)
    simp [lowD]; omega
  | d :: r, k + 1, hk, h => by
    have h0 := h d (List.mem_cons_self ..)
    have h1 := lowD_get r k (by simpa using hk) (fun x hx => h x (List.mem_cons_of_mem _ hx))
    rw [lowD, Nat.pow_succ, Nat.mul_comm (10 ^ k) 10, ← Nat.div_div_eq_div_mul, show (d + 10 * lowD r) / 10 = lowD r by omega, h1]; rfl

theorem conv_dig (W : World) (g cap : Nat) (l : List UInt8) (cs : Array Value) (e : TypeId) (ho : Own W g e cs) (hl : ∀ j (h : j < l.length), cs[j]? = some (.int .u8 (l[j].toNat : Int))) :
    (convert 34 9 (.slice (some ⟨g, 0, none⟩) l.length cap)).run Tryd.prog W = .ok (.string ⟨l.toArray⟩) W :=
  run_convert_bytes_back (P := Tryd.prog) W 34 9 5 ⟨g, 0, none⟩ cap l Tryd.underlying34 Tryd.underlying5 Tryd.underlying9 (fun j hj => by
    have h := ho.cell j
    rw [show (⟨g, 0, none⟩ : Addr).add j = ⟨g, j, none⟩ by unfold Addr.add; split <;> simp_all]
    exact h.trans (hl j hj))

set_option maxRecDepth 20000 in
set_option maxHeartbeats 1000000 in
theorem l11Text_any (ds : List Nat) (B : Nat → Prop) (va : Value) (w : World) (ha : IntsAt B w va (ds.map fun d : Nat => (d : Int))) (hB : ∀ b, B b → b < w.heap.size) (hn : ds.length ≤ 1048576) (hd : OkD ds) :
    Calls Tryd.prog 87 #[va] w fun e w' => e = .returned (.string (dec (lowD ds))) ∧ Below w.heap.size w w' := by
  obtain ⟨a, ca, rfl, hla, ha⟩ := ha
  rw [List.length_map] at *
  obtain ⟨i, hi, hz0, hz1, hz2⟩ := info_partsZ Tryd.infoByteZ
  have Hi := hid hi
  have Hz0 := hid hz0
  have Hz1 := hid hz1
  have Hz2 := hid hz2
  have HD := hid hd
  have HBB := hid hB
  clear hi hz0 hz1 hz2 hla hd hB
  generalize hL : ds.length = L at *
  go_enter Tryd.func87, Tryd.ntmps87
  go_wp2_with (at_make; refine wpList_make_new _ rfl _ _ 34 rfl 5 i (.int .u8 0) 1 Tryd.underlying34 Hi.out Hz0.out Hz1.out .i64 .i64 L rfl rfl (by rw [Hz2.out]; omega) (by unfold maxLen; omega) ?_)
  go_loopw [4] (fun i wr => ∃ k : Nat, k ≤ L ∧ i = .int .i64 k ∧ Hid (∃ cs : Array Value, Own wr w.heap.size 5 cs ∧ cs.size = L ∧ (∀ j, L - k ≤ j → j < L → cs[j]? = some (.int .u8 ((Lib.dg (lowD ds) (L - 1 - j)).toNat : Int))) ∧ Below w.heap.size w wr)) (fun i _ => L - (intOf i).toNat)
  case atStart => exact ⟨0, Nat.zero_le _, rfl, _, own_new _ _ _, by simp [size_madeCells], fun j h1 h2 => absurd h2 (by omega), (Below.refl _ _).alloc (Nat.le_refl _) _⟩
  case round =>
    obtain ⟨k, hk, rfl, HA⟩ := hrel
    obtain ⟨cs, ho, hcs, hgot, hbel⟩ := HA.out
    have HO := hid ho
    have HG := hid hgot
    have HB := hid hbel
    have HCS := hid hcs
    by_cases hlt : k < L
    · rcases ha with ha | ⟨ba, oa, rfl, hb, ha⟩
      · have := List.map_eq_nil_iff.1 ha; subst this; simp at hL; omega
      have hk' : k < ds.length := by omega
      have ga := (hbel.cell (p := ⟨ba, oa + k, none⟩) (HBB.out ba hb)).trans (ha k hlt)
      rw [show (ds.map fun d : Nat => (d : Int)).getD k 0 = (ds[k] : Int) by simp [List.getD_eq_getElem?_getD, hk']] at ga
      have gc := ho.cell (L - 1 - k)
      rw [Array.getElem?_eq_getElem (by omega)] at gc
      have gf := ho.frozen (L - 1 - k)
      have hdk : ds[k] < 10 := HD.out _ (List.getElem_mem hk')
      have HX : Hid (lowD ds / 10 ^ k % 10 = ds[k]) := lowD_get ds k hk' HD.out
      generalize ds[k] = x at *
      generalize hgd : cs[L - 1 - k] = old at gc
      clear ha HA ho hgot hbel hcs hgd
      go_wp2_with fail
      refine ⟨⟨k + 1, by omega, by go_num, _, HO.out.set (L - 1 - k) _, by simp [HCS.out], ?_, HB.out.setCell (Nat.le_refl _) _⟩, by simp [intOf]; omega⟩
      intro j h1 h2
      by_cases e : j = L - 1 - k
      · subst e
        rw [Array.getElem?_setIfInBounds, if_pos rfl, if_pos (by rw [HCS.out]; omega), show L - 1 - (L - 1 - k) = k by omega, dg_nat, HX.out]
        congr 2 <;> omega
      · rw [Array.getElem?_setIfInBounds, if_neg (by omega)]; exact HG.out j (by omega) h2
    · clear HA ho hgot hbel hcs
      obtain rfl : k = L := by omega
      by_cases h0 : k = 0
      · subst h0
        have : ds = [] := List.length_eq_zero_iff.1 hL
        subst this
        have HZ : Hid ((⟨#[48]⟩ : ByteArray) = dec (lowD [])) := by show _ = _; rw [dec_small (by simp [lowD])]; rfl
        go_wp2_with fail
        go_ret
        exact ⟨ret_strz HZ.out, HB.out⟩
      · have h0' : ((k : Int) == 0) = false := by rw [beq_eq_false_iff_ne]; omega
        have hcv := conv_dig wr w.heap.size k (digL k (lowD ds)) cs 5 HO.out (fun j h => by
          rw [digL_length] at h
          rw [HG.out j (by omega) h]
          simp [digL])
        rw [digL_length] at hcv
        have HT := hid (l11Trim_any k (lowD ds) wr (by unfold maxLen; omega) (by omega) (by rw [← hL]; exact lowD_lt ds HD.out))
        have hcv' : (convert 34 9 (.slice (some ⟨w.heap.size, 0, none⟩) k k)).run Tryd.prog wr = .ok (.string (digT k (lowD ds))) wr := hcv
        clear hcv
        go_wp2_with (go_at_call 62; refine HT.out.mono ?_; rintro e w' ⟨rfl, rfl⟩)
        go_ret
        exact ⟨rfl, HB.out⟩
end Go.Proofs.YtbbffhpppacihaaDoor

namespace Go.Proofs.YtbbffhpppacihaaDoor
open Go.RowKit Go.Siskin

theorem nG_lim {x : Nat} (h : nG x ≤ 1000) : (nG x : Int) ≤ 1000 := by omega

set_option maxHeartbeats 400000 in
theorem isNought_any (x : Nat) (v : Value) (w : World) (h : NatA w v (grp x)) :
    Calls Tryd.prog 81 #[v] w fun e w' => e = .returned (.bool (x == 0)) ∧ w' = w := by
  obtain ⟨a, cap, rfl, h1, h2, h3⟩ := h
  rw [grp_length] at *
  have HE : Hid ((x == 0) = ((nG x : Int) == 0)) := by
    show _ = _
    rw [Bool.eq_iff_iff]
    have := @nG_is_zero x
    simp; omega
  unfold maxLen at h2
  clear h3
  go_enter Tryd.func81, Tryd.ntmps81
  go_wp2_with fail
  go_ret
  exact ⟨ret_boolz HE.out.symm, rfl⟩

set_option maxHeartbeats 400000 in
theorem isOne_any (x : Nat) (v : Value) (w : World) (h : NatA w v (grp x)) :
    Calls Tryd.prog 82 #[v] w fun e w' => e = .returned (.bool (x == 1)) ∧ w' = w := by
  obtain ⟨a, cap, rfl, h1, h2, h3⟩ := h
  have HG := hid (grpN_get (nG x) x)
  rw [grp_length] at *
  unfold maxLen at h2
  by_cases h1x : nG x = 1
  · have hb : ((nG x : Int) == 1) = true := by rw [h1x]; rfl
    rcases h3 with h3 | ⟨b, o, rfl, -, h3⟩
    · have := congrArg List.length h3; rw [grp_length, h1x] at this; simp at this
    have hx0 : 0 < x := by
      rcases Nat.eq_zero_or_pos x with h | h
      · subst h; simp [nG] at h1x
      · exact h
    have hxs := lt_pow_nG x
    rw [h1x, Nat.pow_one] at hxs
    have g : w.cell? ⟨b, o, none⟩ = some (.int .u64 (x : Int)) := by
      have h := h3 0 (by rw [grp_length]; omega)
      rw [Nat.add_zero] at h
      rw [h]
      unfold grp; rw [HG.out]; simp [Nat.mod_eq_of_lt hxs]
    have hpos : 0 < nG x := by omega
    clear h3 h1x HG
    go_enter Tryd.func82, Tryd.ntmps82
    go_wp2_with fail
    go_ret
    exact ⟨ret_boolz (by rw [Bool.eq_iff_iff]; simp; omega), rfl⟩
  · have hb : ((nG x : Int) == 1) = false := by rw [beq_eq_false_iff_ne]; omega
    have HE : Hid ((x == 1) = false) := by
      show _ = _
      rw [beq_eq_false_iff_ne]; rintro rfl; exact h1x (nG_one (by decide) (by decide))
    clear h3 HG
    go_enter Tryd.func82, Tryd.ntmps82
    go_wp2_with fail
    go_ret
    exact ⟨ret_boolz HE.out.symm, rfl⟩

set_option maxHeartbeats 1000000 in
theorem trimmed_row (B : Nat → Prop) (m x : Nat) (v : Value) (w : World) (h : RowOf .u64 B w v (grpN m x)) (hx : x < 1000000000 ^ m) :
    Calls Tryd.prog 99 #[v] w fun e w' => ∃ u, e = .returned u ∧ RowOf .u64 B w' u (grp x) ∧ w' = w := by
  obtain ⟨a, cap, rfl, h1, h2, h3⟩ := h
  have HG := hid (grpN_get m x)
  have HN := hid h3
  rw [grpN_length] at *
  unfold maxLen at h2
  have HX := hid hx
  clear h3 hx
  go_enter Tryd.func99, Tryd.ntmps99
  go_wp2_with fail
  go_loop [0] (fun n => ∃ j : Nat, j ≤ m ∧ n = .slice a j cap ∧ Hid (x < 1000000000 ^ j)) (fun n => match n with | .slice _ j _ => j | _ => 0)
  case atStart => exact ⟨m, Nat.le_refl _, rfl, HX.out⟩
  case round =>
    obtain ⟨j, hj, rfl, HJ⟩ := hrel
    have HEnd : Hid ((j = 0 ∨ 1000000000 ^ (j - 1) ≤ x) → RowOf .u64 B w (.slice a j cap) (grp x)) := fun hh => by
      have e := grpN_grp HJ.out hh
      rw [← e]
      refine ⟨a, cap, by rw [grpN_length], by rw [grpN_length]; omega, by unfold maxLen; omega, ?_⟩
      rcases HN.out with h | ⟨b, o, e1, hb, h⟩
      · left
        have := congrArg List.length h; rw [grpN_length] at this; simp at this
        have : j = 0 := by omega
        subst this; rfl
      · refine Or.inr ⟨b, o, e1, hb, fun i hi => ?_⟩
        rw [grpN_length] at hi
        rw [h i (by rw [grpN_length]; omega), grpN_get, grpN_get]
    by_cases h0 : j = 0
    · subst h0
      go_wp2_with fail
      go_ret
      exact ⟨_, rfl, HEnd.out (by simp), rfl⟩
    · have hj0 : 0 < j := by omega
      rcases HN.out with h | ⟨b, o, rfl, hb, h⟩
      · have := congrArg List.length h; rw [grpN_length] at this; simp at this; omega
      have g := h (j - 1) (by rw [grpN_length]; omega)
      rw [grpN_get, show o + (j - 1) = o + (j - 1) from rfl] at g
      clear h hb
      obtain ⟨i, rfl⟩ : ∃ i, j = i + 1 := ⟨j - 1, by omega⟩
      rw [Nat.add_sub_cancel] at g
      obtain ⟨y, HY⟩ : ∃ y, Hid (x / 1000000000 ^ i % 1000000000 = y) := ⟨_, rfl⟩
      rw [HY.out] at g
      by_cases hy : y = 0
      · subst hy
        have HJ2 : Hid (x < 1000000000 ^ i) := by
          have h1 := HJ.out
          rw [Nat.pow_succ] at h1
          have h2 : x / 1000000000 ^ i < 1000000000 := Nat.div_lt_of_lt_mul h1
          have h3 := HY.out
          rw [Nat.mod_eq_of_lt h2] at h3
          have hp := p9pos i
          rcases Nat.lt_or_ge x (1000000000 ^ i) with h | h
          · exact h
          · have := Nat.div_pos h hp; omega
        go_wp2_with fail
        go_round
        case rel => exact ⟨i, by omega, by congr 1, HJ2⟩
        case measure => simp
      · have hyb : ((y : Int) == 0) = false := by rw [beq_eq_false_iff_ne]; omega
        have HE2 : Hid (RowOf .u64 B w (.slice (some ⟨b, o, none⟩) (i + 1) cap) (grp x)) := HEnd.out (Or.inr (by
          rw [Nat.add_sub_cancel]
          rcases Nat.lt_or_ge x (1000000000 ^ i) with h | h
          · have := HY.out; rw [Nat.div_eq_of_lt h] at this; simp at this; omega
          · exact h))
        clear hy
        go_wp2_with fail
        go_ret
        exact ⟨_, rfl, HE2.out, rfl⟩
theorem trimmed_any (m x : Nat) (v : Value) (w : World) (h : NatA w v (grpN m x)) (hx : x < 1000000000 ^ m) :
    Calls Tryd.prog 99 #[v] w fun e w' => ∃ u, e = .returned u ∧ NatA w' u (grp x) ∧ w' = w := by
  refine (trimmed_row (fun b => b < w.heap.size) m x v w h hx).mono ?_
  rintro e w' ⟨u, rfl, h1, rfl⟩
  exact ⟨u, rfl, h1, rfl⟩

set_option maxRecDepth 20000 in
set_option maxHeartbeats 1000000 in
theorem naturalOf_any (x : Nat) (w : World) (hx : x ≤ 18446744073709551615) :
    Calls Tryd.prog 56 #[.int .u64 x] w fun e w' => ∃ u, e = .returned u ∧ NatA w' u (grp x) ∧ Below w.heap.size w w' := by
  obtain ⟨i0, hi, hz0, hz1, hz2⟩ := info_partsZ Tryd.infoWordZ
  have Hi := hid hi
  have Hz0 := hid hz0
  have Hz1 := hid hz1
  have Hz2 := hid hz2
  clear hi hz0 hz1 hz2
  have HX := hid hx
  clear hx
  go_enter Tryd.func56, Tryd.ntmps56
  go_wp2_with fail
  go_loopw [0, 3] (fun z n wr => ∃ (k y : Nat) (ua : Option Addr) (uc : Nat), z = .int .u64 y ∧ n = .slice ua k uc ∧ Hid (x / 1000000000 ^ k = y) ∧ k ≤ 3 ∧ Hid (k = 0 ∨ 1000000000 ^ (k - 1) ≤ x) ∧ Hid (wr.ownsRow w.heap.size 80 1 (.slice ua k uc) k (numL .u64 (grpN k x))) ∧ Hid (Below w.heap.size w wr)) (fun _ n _ => match n with | .slice _ j _ => 3 - j | _ => 0)
  case atStart => exact ⟨0, x, none, 0, rfl, rfl, by show _ = _; simp, by omega, Or.inl rfl, World.ownsRow_nil _ _ _ _, Below.refl _ _⟩
  case round =>
    obtain ⟨k, y, ua, uc, rfl, rfl, HY, hk3, HT, HU, HB⟩ := hrel
    have hsz := HB.out.size
    by_cases hy : 0 < y
    · have hk : k < 3 := by
        rcases Nat.lt_or_ge k 3 with h | h
        · exact h
        · exfalso
          have hk3 : k = 3 := by omega
          subst hk3
          have h1 := HY.out
          have h2 := HX.out
          rw [Nat.div_eq_of_lt (by simp; omega)] at h1
          omega
      have HT2 : Hid (1000000000 ^ k ≤ x) := by
        rcases Nat.lt_or_ge x (1000000000 ^ k) with h | h
        · have := HY.out; rw [Nat.div_eq_of_lt h] at this; omega
        · exact h
      have hyl : y ≤ 18446744073709551615 := by rw [← HY.out]; exact Nat.le_trans (Nat.div_le_self _ _) HX.out
      have hw1 : IntKind.u64.wrap ((y : Int).tmod 1000000000) = (y : Int) % 1000000000 := by
        rw [Int.tmod_eq_emod_of_nonneg (by omega)]; simp [IntKind.wrap, IntKind.bits, IntKind.signed]; omega
      have hw2 : IntKind.u64.wrap ((y : Int).tdiv 1000000000) = (y : Int) / 1000000000 := by
        rw [Int.tdiv_eq_ediv_of_nonneg (by omega)]; simp [IntKind.wrap, IntKind.bits, IntKind.signed]; omega
      have HYL := hid hyl
      clear hyl
      go_wp2_with (at_builtin; refine wpList_append_lies _ rfl _ _ _ rfl w.heap.size 80 i0 (.int .u64 0) 1 8 Tryd.underlying48 Hi.out Hz0.out Hz1.out Hz2.out rfl (by decide) _ k (numL .u64 (grpN k x)) rfl (HU.out.alloc _) ⟨wr.heap.size, 0, none⟩ 1 1 [.int .u64 ((y : Int) % 1000000000)] rfl rfl (cell_one_newZ _ _ _) (by simp [Value.oneCell']) (by omega) (by unfold maxLen; omega) (by omega) (by simp; omega) (wr.heap.size + 1) (by simp) ?_; intro gg cc w4 hown' hg hat hgl; have hall := (World.grownBy_alloc wr _ _).trans hg)
      have hlow : ∀ g, (Value.slice ua k uc).ownBlock = some g → w.heap.size ≤ g := fun g e => (HU.out.lt g e).1
      have e2 : ((x / 1000000000 ^ k % 1000000000 : Nat) : Int) = (y : Int) % 1000000000 := by rw [HY.out]; omega
      refine ⟨⟨k + 1, y / 1000000000, some ⟨gg, 0, none⟩, cc, by congr 1, rfl, by show _ = _; rw [Nat.pow_succ, ← Nat.div_div_eq_div_mul, HY.out], by omega, Or.inr (by rw [Nat.add_sub_cancel]; exact HT2.out), ?_, HB.out.grown hall hsz hlow⟩, by simp; omega⟩
      show World.ownsRow _ _ _ _ _ _ _
      rw [grpN_snoc, numL_snoc, e2]
      exact hown'
    · obtain rfl : y = 0 := by omega
      have HE := hid (grpN_grp (v := x) (m := k) (by
        have h := HY.out
        rcases Nat.lt_or_ge x (1000000000 ^ k) with h' | h'
        · exact h'
        · have := Nat.div_pos h' (p9pos k); omega) HT.out)
      go_wp2_with fail
      go_ret
      refine ⟨_, rfl, ?_, HB.out⟩
      have := natA_own HU.out
      rw [HE.out] at this
      exact this
end Go.Proofs.YtbbffhpppacihaaDoor

namespace Go.Proofs.YtbbffhpppacihaaDoor
open Go.RowKit Go.Siskin

theorem okD_snoc {ds : List Nat} {x : Nat} (h : OkD ds) (hx : x < 10) : OkD (ds ++ [x]) := by
  intro d hd
  rcases List.mem_append.1 hd with hd | hd
  · exact h d hd
  · simp at hd; omega
theorem add_step {ds : List Nat} {a b k x y c : Nat} (hl : ds.length = k) (h : lowD ds + c * 10 ^ k = a % 10 ^ k + b % 10 ^ k) (hx : a / 10 ^ k % 10 = x) (hy : b / 10 ^ k % 10 = y) :
    lowD (ds ++ [(x + y + c) % 10]) + (x + y + c) / 10 * 10 ^ (k + 1) = a % 10 ^ (k + 1) + b % 10 ^ (k + 1) := by
  rw [lowD_append, hl, Nat.mod_pow_succ, Nat.mod_pow_succ, hx, hy, Nat.pow_succ]
  have e : (x + y + c) % 10 * 10 ^ k + (x + y + c) / 10 * (10 ^ k * 10) = (x + y + c) * 10 ^ k := by
    rw [Nat.mul_comm (10 ^ k) 10, ← Nat.mul_assoc, ← Nat.add_mul]
    congr 1; omega
  have e2 : (x + y + c) * 10 ^ k = 10 ^ k * x + 10 ^ k * y + c * 10 ^ k := by
    rw [Nat.add_mul, Nat.add_mul, Nat.mul_comm x, Nat.mul_comm y]
  omega
theorem add_more {ds : List Nat} {a b k c M : Nat} (h : lowD ds + c * 10 ^ k = a % 10 ^ k + b % 10 ^ k) (hc : 0 < c) (hM1 : Lib.nDigits a ≤ M) (hM2 : Lib.nDigits b ≤ M) : k ≤ M := by
  rcases Nat.lt_or_ge M k with hk | hk
  · exfalso
    have h1 : a < 10 ^ M := Nat.lt_of_lt_of_le (Lib.lt_pow_nDigits a) (Nat.pow_le_pow_right (by decide) hM1)
    have h2 : b < 10 ^ M := Nat.lt_of_lt_of_le (Lib.lt_pow_nDigits b) (Nat.pow_le_pow_right (by decide) hM2)
    have h3 : 10 ^ (M + 1) ≤ 10 ^ k := Nat.pow_le_pow_right (by decide) hk
    rw [Nat.pow_succ] at h3
    have h4 := Nat.mod_le a (10 ^ k)
    have h5 := Nat.mod_le b (10 ^ k)
    have h6 : 10 ^ k ≤ c * 10 ^ k := Nat.le_mul_of_pos_left _ hc
    omega
  · exact hk
theorem add_end {ds : List Nat} {a b k c : Nat} (h : lowD ds + c * 10 ^ k = a % 10 ^ k + b % 10 ^ k) (ha : Lib.nDigits a ≤ k) (hb : Lib.nDigits b ≤ k) (hc : c = 0) : lowD ds = a + b := by
  have h1 : a < 10 ^ k := Nat.lt_of_lt_of_le (Lib.lt_pow_nDigits a) (Nat.pow_le_pow_right (by decide) ha)
  have h2 : b < 10 ^ k := Nat.lt_of_lt_of_le (Lib.lt_pow_nDigits b) (Nat.pow_le_pow_right (by decide) hb)
  rw [Nat.mod_eq_of_lt h1, Nat.mod_eq_of_lt h2, hc] at h
  omega
theorem sub_step0 {ds : List Nat} {a b k x y c : Nat} (hl : ds.length = k) (h : lowD ds + b % 10 ^ k = a % 10 ^ k + c * 10 ^ k) (hx : a / 10 ^ k % 10 = x) (hy : b / 10 ^ k % 10 = y) (hle : y + c ≤ x) :
    lowD (ds ++ [x - y - c]) + b % 10 ^ (k + 1) = a % 10 ^ (k + 1) + 0 * 10 ^ (k + 1) := by
  rw [lowD_append, hl, Nat.mod_pow_succ, Nat.mod_pow_succ, hx, hy]
  obtain ⟨z, rfl⟩ : ∃ z, x = z + y + c := ⟨x - y - c, by omega⟩
  rw [show z + y + c - y - c = z by omega]
  have : 10 ^ k * (z + y + c) = z * 10 ^ k + 10 ^ k * y + c * 10 ^ k := by rw [Nat.mul_add, Nat.mul_add, Nat.mul_comm _ z, Nat.mul_comm _ c]
  omega
theorem sub_step1 {ds : List Nat} {a b k x y c : Nat} (hl : ds.length = k) (h : lowD ds + b % 10 ^ k = a % 10 ^ k + c * 10 ^ k) (hx : a / 10 ^ k % 10 = x) (hy : b / 10 ^ k % 10 = y) (hle : x < y + c) (hc : c ≤ 1) :
    lowD (ds ++ [x + 10 - y - c]) + b % 10 ^ (k + 1) = a % 10 ^ (k + 1) + 1 * 10 ^ (k + 1) := by
  rw [lowD_append, hl, Nat.mod_pow_succ, Nat.mod_pow_succ, hx, hy, Nat.pow_succ]
  obtain ⟨z, hz⟩ : ∃ z, x + 10 = z + y + c := ⟨x + 10 - y - c, by omega⟩
  rw [show x + 10 - y - c = z by omega]
  have e : 10 ^ k * (x + 10) = 10 ^ k * (z + y + c) := by rw [hz]
  have e2 : 10 ^ k * (z + y + c) = z * 10 ^ k + 10 ^ k * y + c * 10 ^ k := by rw [Nat.mul_add, Nat.mul_add, Nat.mul_comm _ z, Nat.mul_comm _ c]
  rw [Nat.mul_add] at e
  omega
theorem sub_end {ds : List Nat} {a b k c : Nat} (hd : OkD ds) (hl : ds.length = k) (h : lowD ds + b % 10 ^ k = a % 10 ^ k + c * 10 ^ k) (ha : Lib.nDigits a = k) (hb : b ≤ a) : lowD ds = a - b := by
  have h1 : a < 10 ^ k := by rw [← ha]; exact Lib.lt_pow_nDigits a
  have h3 := lowD_lt ds hd
  rw [hl] at h3
  rw [Nat.mod_eq_of_lt h1, Nat.mod_eq_of_lt (Nat.lt_of_le_of_lt hb h1)] at h
  have : c = 0 := by
    rcases Nat.eq_zero_or_pos c with h0 | h0
    · exact h0
    · have h6 : 10 ^ k ≤ c * 10 ^ k := Nat.le_mul_of_pos_left _ h0
      omega
  subst this
  omega
end Go.Proofs.YtbbffhpppacihaaDoor

namespace Go.Proofs.YtbbffhpppacihaaDoor
open Go.RowKit Go.Siskin

/-- One digit more: its group alone turns. -/
theorem put_digit (M u p d : Nat) (hd : d < 10) : grpN M (10 ^ (p + 1) * u + d * 10 ^ p) = (grpN M (10 ^ (p + 1) * u)).set (p / 9) (10 ^ (p + 1) * u / 1000000000 ^ (p / 9) % 1000000000 + d * 10 ^ (p % 9)) := by
  obtain ⟨q, hq⟩ : ∃ q, p / 9 = q := ⟨_, rfl⟩
  obtain ⟨r, hr⟩ : ∃ r, p % 9 = r := ⟨_, rfl⟩
  have hp : p = 9 * q + r := by omega
  have hr9 : r < 9 := by omega
  rw [hq, hr]

  have e0 : 10 ^ (p + 1) * u + d * 10 ^ p = 10 ^ p * (10 * u + d) := by
    rw [Nat.pow_succ, Nat.mul_add, Nat.mul_comm d, Nat.mul_assoc]
  have e1 : 10 ^ (p + 1) * u = 10 ^ p * (10 * u) := by rw [Nat.pow_succ, Nat.mul_assoc]
  have key : ∀ y k, k < q → 10 ^ p * y / 1000000000 ^ k % 1000000000 = 0 := by
    intro y k hk
    rw [p9k]
    obtain ⟨s, hs⟩ : ∃ s, p = 9 * k + (9 + s) := ⟨p - 9 * k - 9, by omega⟩
    rw [hs, Nat.pow_add, Nat.mul_assoc, Nat.mul_div_cancel_left _ (Nat.pow_pos (by decide)), Nat.pow_add, Nat.mul_assoc, p9, Nat.mul_mod_right]
  have key2 : ∀ k, q < k → 10 ^ p * (10 * u + d) / 1000000000 ^ k = 10 ^ p * (10 * u) / 1000000000 ^ k := by
    intro k hk
    rw [p9k]
    obtain ⟨s, hs⟩ : ∃ s, 9 * k = p + (s + 1) := ⟨9 * k - p - 1, by omega⟩
    rw [hs, Nat.pow_add, ← Nat.div_div_eq_div_mul, ← Nat.div_div_eq_div_mul, Nat.mul_div_cancel_left _ (Nat.pow_pos (by decide)), Nat.mul_div_cancel_left _ (Nat.pow_pos (by decide)), Nat.pow_succ, Nat.mul_comm (10 ^ s), ← Nat.div_div_eq_div_mul, ← Nat.div_div_eq_div_mul]
    congr 1
    omega
  have key3 : 10 ^ p * (10 * u + d) / 1000000000 ^ q % 1000000000 = 10 ^ p * (10 * u) / 1000000000 ^ q % 1000000000 + d * 10 ^ r := by
    rw [p9k, hp, Nat.pow_add, Nat.mul_assoc, Nat.mul_assoc, Nat.mul_div_cancel_left _ (Nat.pow_pos (by decide)), Nat.mul_div_cancel_left _ (Nat.pow_pos (by decide))]
    obtain ⟨s, hs⟩ : ∃ s, 9 = r + (s + 1) := ⟨9 - r - 1, by omega⟩
    rw [p9, hs, Nat.pow_add, Nat.mul_mod_mul_left, Nat.mul_mod_mul_left, Nat.pow_succ, Nat.mul_comm (10 ^ s) 10, Nat.mul_mod_mul_left]
    have e : (10 * u + d) % (10 * 10 ^ s) = 10 * (u % 10 ^ s) + d := by
      rw [Nat.mod_mul]
      have a1 : (10 * u + d) % 10 = d := by omega
      have a2 : (10 * u + d) / 10 = u := by omega
      rw [a1, a2]; omega
    rw [e, Nat.mul_add, Nat.mul_comm (10 ^ r) d]
  rw [e0, e1]
  apply List.ext_getElem
  · simp [grpN]
  · intro k h1 h2
    rw [grpN_get, List.getElem_set]
    by_cases hk : q = k
    · subst hk
      rw [if_pos rfl]; exact key3
    · rw [if_neg hk, grpN_get]
      rcases Nat.lt_or_ge k q with h | h
      · rw [key _ k h, key _ k h]
      · rw [key2 k (by omega)]
/-- What the first digits tell. -/
theorem first_digits {v n i : Nat} (hi : i < n) : v / 10 ^ (n - (i + 1)) * 10 ^ (n - (i + 1)) = 10 ^ (n - 1 - i + 1) * (v / 10 ^ (n - i)) + v / 10 ^ (n - 1 - i) % 10 * 10 ^ (n - 1 - i) ∧ v / 10 ^ (n - i) * 10 ^ (n - i) = 10 ^ (n - 1 - i + 1) * (v / 10 ^ (n - i)) := by
  obtain ⟨k, hk⟩ : ∃ k, n - (i + 1) = k := ⟨_, rfl⟩
  rw [hk, show n - i = k + 1 by omega, show n - 1 - i = k by omega]
  refine ⟨?_, by rw [Nat.mul_comm]⟩
  rw [Nat.pow_succ, ← Nat.div_div_eq_div_mul]
  generalize v / 10 ^ k = y
  have h : y = 10 * (y / 10) + y % 10 := by omega
  have e : 10 ^ k * 10 * (y / 10) = 10 * (y / 10) * 10 ^ k := by rw [Nat.mul_assoc, Nat.mul_comm]
  rw [e, ← Nat.add_mul, ← h]

/-- A block of groups, all of it written by the call. -/
def GrA (w : World) (b : Nat) (ls : List Nat) : Prop := Own w b 80 (numL .u64 ls).toArray
theorem GrA.get {w : World} {b : Nat} {ls : List Nat} (h : GrA w b ls) (i : Nat) (hi : i < ls.length) : w.cell? ⟨b, i, none⟩ = some (.int .u64 (ls[i] : Int)) := by
  rw [Own.cell h i]
  rw [List.getElem?_toArray]
  exact numL_get .u64 ls i hi
theorem GrA.set {w : World} {b : Nat} {ls : List Nat} (h : GrA w b ls) (i x : Nat) : GrA (w.setCell ⟨b, i, none⟩ (.int .u64 (x : Int))) b (ls.set i x) := by
  have := Own.set h i (.int .u64 (x : Int))
  unfold GrA
  rw [numL_set]
  simpa using this
theorem GrA.keep {w w' : World} {b N : Nat} {ls : List Nat} (h : GrA w b ls) (hb : Below N w w') (hN : b < N) : GrA w' b ls := Own.keep h hb hN
theorem GrA.frozen {w : World} {b : Nat} {ls : List Nat} (h : GrA w b ls) (i : Nat) : w.frozen? ⟨b, i, none⟩ = false := Own.frozen h i
theorem GrA.natA {w : World} {b cap : Nat} {ls : List Nat} (h : GrA w b ls) (h1 : ls.length ≤ cap) (h2 : cap ≤ maxLen) : NatA w (.slice (some ⟨b, 0, none⟩) ls.length cap) ls :=
  ⟨some ⟨b, 0, none⟩, cap, rfl, h1, h2, Or.inr ⟨b, 0, rfl, Own.lt h, fun i hi => by rw [Nat.zero_add]; exact h.get i hi⟩⟩
theorem GrA.lt {w : World} {b : Nat} {ls : List Nat} (h : GrA w b ls) : b < w.heap.size := Own.lt h
theorem made_zero (w : World) (n : Nat) : GrA (w.alloc (.cells (madeCells #[Value.int .u64 0] n) 80)) w.heap.size (grpN n 0) := by
  have h := own_new w (madeCells #[Value.int .u64 0] n) 80
  unfold GrA
  have e : (numL .u64 (grpN n 0)).toArray = madeCells #[Value.int .u64 0] n := by
    apply Array.ext
    · simp [numL, grpN, size_madeCells]
    · intro i h1 h2
      simp [numL, grpN, madeCells, Nat.mod_one]
  rw [e]; exact h
end Go.Proofs.YtbbffhpppacihaaDoor

namespace Go.Siskin

/-- What j groups from place i on come to. -/
def ga (ls : List Nat) (i : Nat) : Nat → Nat
  | 0 => 0
  | j + 1 => ga ls i j + ls.getD (i + j) 0 * 1000000000 ^ j
theorem ga_congr {ls ls' : List Nat} {i : Nat} : ∀ {j : Nat}, (∀ k, k < j → ls.getD (i + k) 0 = ls'.getD (i + k) 0) → ga ls i j = ga ls' i j
  | 0, _ => rfl
  | j + 1, h => by rw [ga, ga, ga_congr (j := j) (fun k hk => h k (by omega)), h j (by omega)]
theorem ga_lt {ls : List Nat} {i : Nat} (h : ∀ k, ls.getD k 0 < 1000000000) : ∀ j, ga ls i j < 1000000000 ^ j
  | 0 => by simp [ga]
  | j + 1 => by
    have h1 := ga_lt h (i := i) j
    have h2 := h (i + j)
    rw [ga, Nat.pow_succ]
    generalize 1000000000 ^ j = P at *
    have h3 : ls.getD (i + j) 0 * P ≤ 999999999 * P := Nat.mul_le_mul_right _ (by omega)
    omega
theorem ga_zero {ls : List Nat} {i : Nat} : ∀ {j : Nat}, (∀ k, k < j → ls.getD (i + k) 0 = 0) → ga ls i j = 0
  | 0, _ => rfl
  | j + 1, h => by rw [ga, ga_zero (j := j) (fun k hk => h k (by omega)), h j (by omega)]; simp
theorem ga_split (ls : List Nat) (i j : Nat) : ∀ k, ga ls i (j + k) = ga ls i j + 1000000000 ^ j * ga ls (i + j) k
  | 0 => by simp [ga]
  | k + 1 => by
    rw [← Nat.add_assoc, ga, ga_split ls i j k, ga, Nat.pow_add, Nat.mul_add, Nat.add_assoc i j k]
    have : ls.getD (i + (j + k)) 0 * (1000000000 ^ j * 1000000000 ^ k) = 1000000000 ^ j * (ls.getD (i + (j + k)) 0 * 1000000000 ^ k) := by ac_rfl
    omega
theorem ga_get {ls : List Nat} {i : Nat} (h : ∀ k, ls.getD k 0 < 1000000000) : ∀ (j k : Nat), k < j → ga ls i j / 1000000000 ^ k % 1000000000 = ls.getD (i + k) 0
  | j + 1, k, hk => by
    have hlt := ga_lt h (i := i) j
    rw [ga]
    by_cases e : k = j
    · subst e
      rw [Nat.add_mul_div_right _ _ (p9pos k), Nat.div_eq_of_lt hlt, Nat.zero_add, Nat.mod_eq_of_lt (h (i + k))]
    · have hk' : k < j := by omega
      have ih := ga_get h (i := i) j k hk'
      obtain ⟨s, hs⟩ : ∃ s, j = k + (s + 1) := ⟨j - k - 1, by omega⟩
      rw [hs] at ih ⊢
      have e2 : ls.getD (i + (k + (s + 1))) 0 * 1000000000 ^ (k + (s + 1)) = (1000000000 * (ls.getD (i + (k + (s + 1))) 0 * 1000000000 ^ s)) * 1000000000 ^ k := by
        rw [Nat.pow_add, Nat.pow_succ]; ac_rfl
      rw [e2, Nat.add_mul_div_right _ _ (p9pos k), Nat.add_mul_mod_self_left]
      exact ih
theorem getD_grpN (M V k : Nat) : (grpN M V).getD k 0 = if k < M then V / 1000000000 ^ k % 1000000000 else 0 := by
  by_cases h : k < M
  · rw [if_pos h, List.getD_eq_getElem?_getD, List.getElem?_eq_getElem (by rw [grpN_length]; exact h), grpN_get]; rfl
  · rw [if_neg h, List.getD_eq_getElem?_getD, List.getElem?_eq_none (by rw [grpN_length]; omega)]; rfl
theorem grpN_small (M V k : Nat) : (grpN M V).getD k 0 < 1000000000 := by
  rw [getD_grpN]
  split
  · exact Nat.mod_lt _ (by decide)
  · decide
theorem ga_grpN (M V i : Nat) : ∀ j, i + j ≤ M → ga (grpN M V) i j = V / 1000000000 ^ i % 1000000000 ^ j
  | 0, _ => by simp [ga, Nat.mod_one]
  | j + 1, h => by
    rw [ga, ga_grpN M V i j (by omega), getD_grpN, if_pos (by omega), Nat.mod_pow_succ, Nat.pow_add, ← Nat.div_div_eq_div_mul, Nat.mul_comm]
theorem grpN_of {ls : List Nat} {M : Nat} (hl : ls.length = M) (h : ∀ k, ls.getD k 0 < 1000000000) : ls = grpN M (ga ls 0 M) := by
  apply List.ext_getElem
  · rw [grpN_length, hl]
  · intro k h1 h2
    rw [grpN_get, ga_get h M k (by omega), Nat.zero_add, List.getD_eq_getElem?_getD, List.getElem?_eq_getElem h1]; rfl
/-- A list of which only some groups have turned. -/
theorem grpN_turned {ls : List Nat} {M V i mm : Nat} (hl : ls.length = M) (h : ∀ k, ls.getD k 0 < 1000000000) (him : i + mm ≤ M) (hV : V < 1000000000 ^ (i + mm))
    (hout : ∀ k, k < i ∨ i + mm ≤ k → ls.getD k 0 = (grpN M V).getD k 0) : ls = grpN M (V % 1000000000 ^ i + 1000000000 ^ i * ga ls i mm) := by
  have e := grpN_of hl h
  have e1 : ga ls 0 M = V % 1000000000 ^ i + 1000000000 ^ i * ga ls i mm := by
    obtain ⟨r, hr⟩ : ∃ r, M = i + (mm + r) := ⟨M - i - mm, by omega⟩
    have hz : ga ls (i + mm) r = 0 := ga_zero fun k hk => by
      rw [hout _ (Or.inr (by omega)), getD_grpN]
      split
      · rw [Nat.div_eq_of_lt (Nat.lt_of_lt_of_le hV (Nat.pow_le_pow_right (by decide) (by omega)))]
      · rfl
    have h0 : ga ls 0 i = V % 1000000000 ^ i := by
      have h1 := ga_grpN M V 0 i (by omega)
      rw [Nat.pow_zero, Nat.div_one] at h1
      rw [← h1]
      exact ga_congr fun k hk => hout _ (Or.inl (by omega))
    rw [hr, ga_split, Nat.zero_add, ga_split, hz, h0, Nat.mul_zero, Nat.add_zero]
  rw [e1] at e
  exact e
theorem getD_set {ls : List Nat} {p x k : Nat} (hp : p < ls.length) : (ls.set p x).getD k 0 = if k = p then x else ls.getD k 0 := by
  rw [List.getD_eq_getElem?_getD, List.getElem?_set]
  by_cases h : k = p
  · subst h; rw [if_pos rfl, if_pos hp, if_pos rfl]; rfl
  · rw [if_neg (by omega), if_neg h, List.getD_eq_getElem?_getD]
theorem ga_set_past {ls : List Nat} {i k x : Nat} (hp : i + k < ls.length) : ga (ls.set (i + k) x) i (k + 1) = ga ls i k + x * 1000000000 ^ k := by
  rw [ga, getD_set hp, if_pos rfl]
  congr 1
  exact ga_congr fun t ht => by rw [getD_set hp, if_neg (by omega)]
theorem take_step {A S L ow g T x y z c P : Nat} (h : A + T * S = L + ow * P) (hz : ow + g * T = z) (hy : y + z % 1000000000 = x + c * 1000000000) :
    A + y * P + T * (S + g * P) = L + x * P + (z / 1000000000 + c) * (P * 1000000000) := by
  have h1 : y + z = x + (z / 1000000000 + c) * 1000000000 := by rw [Nat.add_mul]; omega
  have h2 : (y + z) * P = (x + (z / 1000000000 + c) * 1000000000) * P := by rw [h1]
  have h3 : (z / 1000000000 + c) * (P * 1000000000) = (z / 1000000000 + c) * 1000000000 * P := by ac_rfl
  have h4 : T * (g * P) = g * T * P := by ac_rfl
  rw [Nat.add_mul, Nat.add_mul x] at h2
  rw [h3, Nat.mul_add, h4]
  have h5 : z * P = ow * P + g * T * P := by rw [← hz, Nat.add_mul]
  omega
end Go.Siskin
