/-
  Digits with room above: setting one, adding a row of a product, carrying on. Condition: none.
  The model's l11Mul: the product of two numbers in decimal digits. Condition: the two are numerals of at most 10,000 digits.
  The model's l11Sub: what is left when a number is taken from one that is not less. Condition: numerals of at most 100,000 digits.
  The model's l11Cmp over numerals: which number is less.
  The model's l11Div and l11Gcd: dividing numerals, and what divides both. Condition: numerals of at most 10,000 digits.
-/
import Derived.Test.YtakicnplmcemnaaDoorPart2
import Derived.Deep.RegionHeld3
namespace Go.Proofs.YtakicnplmcemnaaDoor
open Go.RowKit Go.Siskin

theorem lowD_set : ∀ (ds : List Nat) (i x : Nat) (h : i < ds.length), lowD (ds.set i x) + ds[i] * 10 ^ i = lowD ds + x * 10 ^ i
  | d :: r, 0, x, _ => by simp [lowD]; omega
  | d :: r, i + 1, x, h => by
    have h1 := lowD_set r i x (by simpa using h)
    rw [List.set_cons_succ, lowD, lowD, List.getElem_cons_succ, Nat.pow_succ, ← Nat.mul_assoc, ← Nat.mul_assoc]
    omega
theorem lowD_one : ∀ (ds : List Nat) (i : Nat) (h : i < ds.length), ds[i] * 10 ^ i ≤ lowD ds
  | d :: r, 0, _ => by simp [lowD]
  | d :: r, i + 1, h => by
    have h1 := lowD_one r i (by simpa using h)
    rw [lowD, List.getElem_cons_succ, Nat.pow_succ, ← Nat.mul_assoc]
    omega
theorem mod_step (v i : Nat) : v % 10 ^ (i + 1) = v % 10 ^ i + v / 10 ^ i % 10 * 10 ^ i := by
  rw [Nat.pow_succ, Nat.mod_mul, Nat.mul_comm (10 ^ i)]

/-- Behind k digits of b in row i of a. -/
def MulIn (a b i k L : Nat) (ds : List Nat) : Prop :=
  ds.length = L ∧ (∀ t, ds.getD t 0 ≤ 90) ∧ (∀ t, i + k ≤ t → ds.getD t 0 ≤ 9) ∧ lowD ds = a % 10 ^ i * b + a / 10 ^ i % 10 * 10 ^ i * (b % 10 ^ k)
theorem getD_setV (ds : List Nat) (i x t : Nat) : (ds.set i x).getD t 0 = if t = i ∧ i < ds.length then x else ds.getD t 0 := by
  rw [List.getD_eq_getElem?_getD, List.getD_eq_getElem?_getD, List.getElem?_set]
  by_cases h : i = t
  · subst h
    by_cases h2 : i < ds.length
    · simp [h2]
    · simp [h2]
  · rw [if_neg h, if_neg (fun e => h e.1.symm)]
theorem getD_atV {ds : List Nat} {t : Nat} (h : t < ds.length) : ds.getD t 0 = ds[t] := by rw [List.getD_eq_getElem?_getD, List.getElem?_eq_getElem h]; rfl
theorem mulIn_step {a b i k L x y : Nat} {ds : List Nat} (h : MulIn a b i k L ds) (hp : i + k < L) (hx : a / 10 ^ i % 10 = x) (hy : b / 10 ^ k % 10 = y) :
    MulIn a b i (k + 1) L (ds.set (i + k) (ds.getD (i + k) 0 + x * y)) := by
  obtain ⟨h1, h2, h3, h4⟩ := h
  have hxl : x ≤ 9 := by rw [← hx]; omega
  have hyl : y ≤ 9 := by rw [← hy]; omega
  have hxy : x * y ≤ 9 * 9 := Nat.mul_le_mul hxl hyl
  have h9 := h3 (i + k) (Nat.le_refl _)
  refine ⟨by rw [List.length_set]; exact h1, fun t => ?_, fun t ht => ?_, ?_⟩
  · rw [getD_setV]; split
    · omega
    · exact h2 t
  · rw [getD_setV, if_neg (by omega)]; exact h3 t (by omega)
  · have hs := lowD_set ds (i + k) (ds.getD (i + k) 0 + x * y) (by omega)
    rw [← getD_atV (by omega), Nat.add_mul, h4] at hs
    rw [mod_step b k, hx, hy, Nat.mul_add]
    rw [hx] at hs
    have e : x * 10 ^ i * (y * 10 ^ k) = x * y * 10 ^ (i + k) := by rw [Nat.pow_add, Nat.mul_mul_mul_comm]
    omega

/-- Behind j digits of the carrying. -/
def MulOut (V j L : Nat) (ds : List Nat) : Prop :=
  ds.length = L ∧ (∀ t, ds.getD t 0 ≤ 100) ∧ (∀ t, j < t → ds.getD t 0 ≤ 90) ∧ (∀ t, t < j → ds.getD t 0 ≤ 9) ∧ lowD ds = V
theorem mulOut_step {V j L : Nat} {ds : List Nat} (h : MulOut V j L ds) (hp : j + 1 < L) :
    MulOut V (j + 1) L ((ds.set (j + 1) (ds.getD (j + 1) 0 + ds.getD j 0 / 10)).set j (ds.getD j 0 % 10)) := by
  obtain ⟨h1, h2, h3, h4, h5⟩ := h
  have a1 := h2 j
  have a2 := h3 (j + 1) (Nat.lt_succ_self _)
  refine ⟨by rw [List.length_set, List.length_set]; exact h1, fun t => ?_, fun t ht => ?_, fun t ht => ?_, ?_⟩
  · rw [getD_setV, getD_setV]; split
    · omega
    · split
      · omega
      · exact h2 t
  · rw [getD_setV, getD_setV, if_neg (by omega), if_neg (by omega)]; exact h3 t (by omega)
  · rw [getD_setV, getD_setV]; split
    · omega
    · rename_i hne
      rw [List.length_set] at hne
      rw [if_neg (by omega)]
      exact h4 t (by omega)
  · have s1 := lowD_set ds (j + 1) (ds.getD (j + 1) 0 + ds.getD j 0 / 10) (by omega)
    have s2 := lowD_set (ds.set (j + 1) (ds.getD (j + 1) 0 + ds.getD j 0 / 10)) j (ds.getD j 0 % 10) (by rw [List.length_set]; omega)
    rw [← getD_atV (by omega)] at s1
    rw [← getD_atV (by rw [List.length_set]; omega), getD_setV, if_neg (by omega)] at s2
    rw [Nat.add_mul, Nat.pow_succ, ← Nat.mul_assoc, ← Nat.mul_assoc] at s1
    have e : ds.getD j 0 * 10 ^ j = (ds.getD j 0 / 10) * 10 ^ j * 10 + (ds.getD j 0 % 10) * 10 ^ j := by
      have := Nat.div_add_mod (ds.getD j 0) 10
      rw [Nat.mul_right_comm, ← Nat.add_mul]; congr 1; omega
    have e2 : ds.getD j 0 / 10 * (10 ^ j * 10) = ds.getD j 0 / 10 * 10 ^ j * 10 := by rw [Nat.mul_assoc]
    omega
theorem mulOut_end {V j L : Nat} {ds : List Nat} (h : MulOut V j L ds) (hj : j + 1 = L) (hV : V < 10 ^ L) : OkD ds := by
  obtain ⟨h1, h2, h3, h4, h5⟩ := h
  intro d hd
  obtain ⟨t, ht, rfl⟩ := List.getElem_of_mem hd
  rcases Nat.lt_or_ge t j with h | h
  · have := h4 t h; rw [getD_atV ht] at this; omega
  · have e : t = j := by omega
    subst e
    have h6 := lowD_one ds t ht
    rw [h5] at h6
    rw [← hj, Nat.pow_succ] at hV
    have h7 : ds[t] * 10 ^ t < 10 * 10 ^ t := by omega
    exact Nat.lt_of_mul_lt_mul_right h7
theorem mul_lt {a b i la lb : Nat} (hb : Lib.nDigits b = lb) (hi : i ≤ la) : a % 10 ^ i * b < 10 ^ (la + lb) := by
  have h1 : a % 10 ^ i < 10 ^ la := Nat.lt_of_lt_of_le (Nat.mod_lt _ (Nat.pow_pos (by decide))) (Nat.pow_le_pow_right (by decide) hi)
  have h2 : b < 10 ^ lb := by rw [← hb]; exact Lib.lt_pow_nDigits b
  rw [Nat.pow_add]
  exact Nat.lt_of_le_of_lt (Nat.mul_le_mul_left _ (Nat.le_of_lt h2)) (Nat.mul_lt_mul_of_pos_right h1 (Nat.pow_pos (by decide)))
theorem mulIn_start {a b i L : Nat} {ds : List Nat} (h1 : ds.length = L) (h2 : OkD ds) (h3 : lowD ds = a % 10 ^ i * b) : MulIn a b i 0 L ds := by
  have h9 : ∀ t, ds.getD t 0 ≤ 9 := fun t => by
    rcases Nat.lt_or_ge t ds.length with h | h
    · rw [getD_atV h]; have := h2 _ (List.getElem_mem h); omega
    · rw [List.getD_eq_getElem?_getD, List.getElem?_eq_none h]; simp
  exact ⟨h1, fun t => by have := h9 t; omega, fun t _ => h9 t, by rw [h3, Nat.pow_zero, Nat.mod_one, Nat.mul_zero, Nat.add_zero]⟩
theorem mulIn_out {a b i lb L : Nat} {ds : List Nat} (hb : Lib.nDigits b = lb) (h : MulIn a b i lb L ds) : MulOut (a % 10 ^ (i + 1) * b) 0 L ds := by
  obtain ⟨h1, h2, h3, h4⟩ := h
  refine ⟨h1, fun t => by have := h2 t; omega, fun t _ => h2 t, fun t ht => by omega, ?_⟩
  have e : b % 10 ^ lb = b := Nat.mod_eq_of_lt (by rw [← hb]; exact Lib.lt_pow_nDigits b)
  rw [h4, e, mod_step, Nat.add_mul]

/-- Ints that lie in a block of their own. -/
def GrI (w : World) (b : Nat) (ls : List Nat) : Prop := Own w b 3 (numL .i64 ls).toArray
theorem GrI.get {w : World} {b : Nat} {ls : List Nat} (h : GrI w b ls) (i : Nat) (hi : i < ls.length) : w.cell? ⟨b, i, none⟩ = some (.int .i64 ((ls.getD i 0 : Nat) : Int)) := by
  rw [Own.cell h i, List.getElem?_toArray, getD_atV hi]
  exact numL_get .i64 ls i hi
theorem GrI.set {w : World} {b : Nat} {ls : List Nat} (h : GrI w b ls) (i x : Nat) : GrI (w.setCell ⟨b, i, none⟩ (.int .i64 (x : Int))) b (ls.set i x) := by
  have := Own.set h i (.int .i64 (x : Int))
  unfold GrI
  rw [numL_set]
  simpa using this
theorem GrI.frozen {w : World} {b : Nat} {ls : List Nat} (h : GrI w b ls) (i : Nat) : w.frozen? ⟨b, i, none⟩ = false := Own.frozen h i
theorem GrI.ints {w : World} {b cap : Nat} {ls : List Nat} (h : GrI w b ls) (h1 : ls.length ≤ cap) (h2 : cap ≤ maxLen) : IntsAt (fun b => b < w.heap.size) w (.slice (some ⟨b, 0, none⟩) ls.length cap) (ls.map fun d : Nat => (d : Int)) := by
  refine ⟨some ⟨b, 0, none⟩, cap, by rw [List.length_map], ⟨by rw [List.length_map]; omega, by rw [List.length_map]; omega⟩, ?_⟩
  refine Or.inr ⟨b, 0, rfl, Own.lt h, fun i hi => ?_⟩
  rw [List.length_map] at hi
  rw [Nat.zero_add, h.get i hi, getD_atV hi]
  simp [List.getD_eq_getElem?_getD, hi]
theorem GrI.made (w : World) (n : Nat) : GrI (w.alloc (.cells (madeCells #[Value.int .i64 0] n) 3)) w.heap.size (List.replicate n 0) := by
  have h := own_new w (madeCells #[Value.int .i64 0] n) 3
  unfold GrI
  have e : (numL .i64 (List.replicate n 0)).toArray = madeCells #[Value.int .i64 0] n := by
    apply Array.ext
    · simp [numL, size_madeCells]
    · intro i h1 h2
      simp [numL, madeCells, Nat.mod_one]
  rw [e]; exact h
theorem lowD_zeros : ∀ n, lowD (List.replicate n 0) = 0
  | 0 => rfl
  | n + 1 => by rw [List.replicate_succ, lowD, lowD_zeros n]
end Go.Proofs.YtakicnplmcemnaaDoor

namespace Go.Proofs.YtakicnplmcemnaaDoor
open Go.RowKit Go.Siskin

set_option maxRecDepth 20000 in
set_option maxHeartbeats 800000 in
theorem l11Mul_of (a b la lb : Nat) (w : World) (HLa : Hid (Lib.nDigits a = la)) (HLb : Hid (Lib.nDigits b = lb)) (ha : la ≤ 10000) (hb : lb ≤ 10000) :
    Calls Tryd.prog 68 #[.string (dec a), .string (dec b)] w fun e w' => e = .returned (.string (dec (a * b))) ∧ Below w.heap.size w w' := by
  have Hna := hid (fun (k : Nat) (w : World) (hk : k ≤ 1000000) => atD a k w (by rw [HLa.out]; omega) hk)
  have Hnb := hid (fun (k : Nat) (w : World) (hk : k ≤ 1000000) => atD b k w (by rw [HLb.out]; omega) hk)
  have hla : ((dec a).size : Int) = (la : Int) := by rw [dec_size, HLa.out]
  have hlb : ((dec b).size : Int) = (lb : Int) := by rw [dec_size, HLb.out]
  have ha1 : 1 ≤ la := by rw [← HLa.out]; exact Lib.nDigits_pos _
  have hb1 : 1 ≤ lb := by rw [← HLb.out]; exact Lib.nDigits_pos _
  obtain ⟨i0, hi, hz0, hz1, hz2⟩ := info_partsZ Tryd.infoIntZ
  have Hi := hid hi
  have Hz0 := hid hz0
  have Hz1 := hid hz1
  have Hz2 := hid hz2
  clear hi hz0 hz1 hz2
  obtain ⟨L, HL⟩ : ∃ L : Nat, Hid (la + lb = L) := ⟨_, rfl⟩
  have hLi : (la : Int) + (lb : Int) = (L : Int) := by have := HL.out; omega
  have hL2 : L ≤ 20000 := by have := HL.out; omega
  have hL1 : 2 ≤ L := by have := HL.out; omega
  go_enter Tryd.func68, Tryd.ntmps68
  go_wp2_with (at_make; go_loud (refine wpList_make_new _ rfl _ _ 94 rfl 3 i0 (.int .i64 0) 1 Tryd.underlying94 Hi.out Hz0.out Hz1.out .i64 .i64 L rfl rfl (by rw [Hz2.out]; omega) (by unfold maxLen; omega) ?_))
  go_loopw [6] (fun i wr => ∃ (p : Nat) (ds : List Nat), i = .int .i64 p ∧ p ≤ la ∧ Hid (ds.length = L) ∧ Hid (OkD ds) ∧ Hid (lowD ds = a % 10 ^ p * b) ∧ Hid (GrI wr w.heap.size ds) ∧ Hid (Below w.heap.size w wr)) (fun i _ => la - (intOf i).toNat)
  case atStart =>
    refine ⟨0, List.replicate L 0, rfl, Nat.zero_le _, List.length_replicate, fun d hd => ?_, ?_, GrI.made w L, (Below.refl _ _).alloc (Nat.le_refl _) _⟩
    · rw [List.eq_of_mem_replicate hd]; decide
    · show _ = _
      rw [lowD_zeros, Nat.pow_zero, Nat.mod_one, Nat.zero_mul]
  case round =>
    obtain ⟨p, ds, rfl, hp, HDl, HOk, HLow, HG, HB⟩ := hrel
    by_cases hlt : p < la
    · go_wp2_with fail
      rename World => w1
      have HIn0 : Hid (MulIn a b p 0 L ds) := mulIn_start HDl.out HOk.out HLow.out
      go_loopw [7] (fun k wr => ∃ (q : Nat) (es : List Nat), k = .int .i64 q ∧ q ≤ lb ∧ Hid (MulIn a b p q L es) ∧ Hid (GrI wr w.heap.size es) ∧ Hid (Below w.heap.size w wr)) (fun k _ => lb - (intOf k).toNat)
      case atStart => exact ⟨0, ds, rfl, Nat.zero_le _, HIn0.out, HG.out, HB.out⟩
      case round =>
        obtain ⟨q, es, rfl, hq, HIn, HG2, HB2⟩ := hrel
        by_cases hlt2 : q < lb
        · obtain ⟨x, HX⟩ : ∃ x, Hid (a / 10 ^ p % 10 = x) := ⟨_, rfl⟩
          obtain ⟨y, HY⟩ : ∃ y, Hid (b / 10 ^ q % 10 = y) := ⟨_, rfl⟩
          have HCA := hid (fun w => Hna.out p w (by omega))
          have HCB := hid (fun w => Hnb.out q w (by omega))
          rw [HX.out] at HCA
          rw [HY.out] at HCB
          obtain ⟨r, HR⟩ : ∃ r : Nat, Hid (p + q = r) := ⟨_, rfl⟩
          have hri : (p : Int) + (q : Int) = (r : Int) := by have := HR.out; omega
          have hrl : r < L := by have := HR.out; have := HL.out; omega
          have HStep := hid (mulIn_step HIn.out (by rw [HR.out]; exact hrl) HX.out HY.out)
          rw [HR.out] at HStep
          have hrs : r < es.length := by rw [HIn.out.1]; exact hrl
          have g0 := HG2.out.get r hrs
          have f0 := HG2.out.frozen r
          obtain ⟨z, HZ⟩ : ∃ z : Nat, Hid (es.getD r 0 = z) := ⟨_, rfl⟩
          have hz90 : z ≤ 90 := by rw [← HZ.out]; exact HIn.out.2.1 r
          rw [HZ.out] at g0 HStep
          obtain ⟨m, HM⟩ : ∃ m : Nat, Hid (x * y = m) := ⟨_, rfl⟩
          have hmi : (x : Int) * (y : Int) = (m : Int) := by rw [← HM.out]; simp
          have hm81 : m ≤ 81 := by
            rw [← HM.out]
            exact Nat.mul_le_mul (by rw [← HX.out]; omega : x ≤ 9) (by rw [← HY.out]; omega : y ≤ 9)
          rw [HM.out] at HStep
          have hw1 : IntKind.i64.wrap ((p : Int) + (q : Int)) = (r : Int) := by rw [hri]; simp [IntKind.wrap, IntKind.bits, IntKind.signed]; omega
          have hw2 : IntKind.i64.wrap ((x : Int) * (y : Int)) = (m : Int) := by rw [hmi]; simp [IntKind.wrap, IntKind.bits, IntKind.signed]; omega
          have hw3 : IntKind.i64.wrap ((z : Int) + (m : Int)) = ((z + m : Nat) : Int) := by simp [IntKind.wrap, IntKind.bits, IntKind.signed]; omega
          have hr0 : (0 : Int) ≤ (r : Int) := by omega
          have hrL : (r : Int) < (L : Int) := by omega
          clear hri hmi
          have hwr : IntKind.i64.wrap (r : Int) = (r : Int) := by simp [IntKind.wrap, IntKind.bits, IntKind.signed]; omega
          rename World => w2
          go_wp2_with fail
          go_region_with (first
              | (go_at_call_of 76 (Value.string (dec a))
                 go_loud (
                  refine (HCA.out _).mono ?_
                  rintro e w' ⟨rfl, hw⟩
                  obtain rfl := hw.symm))
              | (go_at_call_of 76 (Value.string (dec b))
                 go_loud (
                  refine (HCB.out _).mono ?_
                  rintro e w' ⟨rfl, hw⟩
                  obtain rfl := hw.symm)))
          all_goals
            go_wp2_with fail
            refine ⟨⟨q + 1, es.set r (z + m), by go_num, by omega, HStep.out, ?_, (HB2.out.setCell (p := ⟨w.heap.size, r, none⟩) (Nat.le_refl _) _).drew⟩, by simp [intOf]; omega⟩
            show GrI (w2.setCell _ _) _ _
            have h := HG2.out.set r (z + m)
            rw [Int.natCast_add] at h
            exact h
        · obtain rfl : q = lb := by omega
          have HOut0 := hid (mulIn_out HLb.out HIn.out)
          obtain ⟨V, HV⟩ : ∃ V : Nat, Hid (a % 10 ^ (p + 1) * b = V) := ⟨_, rfl⟩
          have HVl : Hid (V < 10 ^ L) := by show _ < _; rw [← HV.out, ← HL.out]; exact mul_lt HLb.out (by omega)
          rw [HV.out] at HOut0
          rename World => w2
          go_wp2_with fail
          go_loopw [8] (fun j wr => ∃ (t : Nat) (fs : List Nat), j = .int .i64 t ∧ t + 1 ≤ L ∧ Hid (MulOut V t L fs) ∧ Hid (GrI wr w.heap.size fs) ∧ Hid (Below w.heap.size w wr)) (fun j _ => L - (intOf j).toNat)
          case atStart => exact ⟨0, es, rfl, by omega, HOut0.out, HG2.out, HB2.out⟩
          case round =>
            obtain ⟨t, fs, rfl, ht, HO, HG3, HB3⟩ := hrel
            by_cases hlt3 : t + 1 < L
            · have HStep := hid (mulOut_step HO.out hlt3)
              have l0 : t < fs.length := by rw [HO.out.1]; omega
              have l1 : t + 1 < fs.length := by rw [HO.out.1]; exact hlt3
              have g0 := HG3.out.get t l0
              have g1 := HG3.out.get (t + 1) l1
              have f0 := HG3.out.frozen t
              have f1 := HG3.out.frozen (t + 1)
              obtain ⟨x, HX⟩ : ∃ x : Nat, Hid (fs.getD t 0 = x) := ⟨_, rfl⟩
              obtain ⟨y, HY⟩ : ∃ y : Nat, Hid (fs.getD (t + 1) 0 = y) := ⟨_, rfl⟩
              have hx : x ≤ 100 := by rw [← HX.out]; exact HO.out.2.1 t
              have hy : y ≤ 100 := by rw [← HY.out]; exact HO.out.2.1 (t + 1)
              rw [HX.out] at g0 HStep
              rw [HY.out] at g1 HStep
              obtain ⟨c, HC⟩ : ∃ c : Nat, Hid (x / 10 = c) := ⟨_, rfl⟩
              obtain ⟨d, HD⟩ : ∃ d : Nat, Hid (x % 10 = d) := ⟨_, rfl⟩
              rw [HC.out, HD.out] at HStep
              have hc1 : (x : Int).tdiv 10 = (c : Int) := by rw [Int.tdiv_eq_ediv_of_nonneg (by omega), ← HC.out]; omega
              have hc2 : (x : Int) / 10 = (c : Int) := by rw [← HC.out]; omega
              have hd1 : (x : Int).tmod 10 = (d : Int) := by rw [Int.tmod_eq_emod_of_nonneg (by omega), ← HD.out]; omega
              have hd2 : (x : Int) % 10 = (d : Int) := by rw [← HD.out]; omega
              have hcl : c ≤ 10 := by rw [← HC.out]; omega
              have hw1 : IntKind.i64.wrap (c : Int) = (c : Int) := by simp [IntKind.wrap, IntKind.bits, IntKind.signed]; omega
              have hw2 : IntKind.i64.wrap ((y : Int) + (c : Int)) = (y : Int) + (c : Int) := by simp [IntKind.wrap, IntKind.bits, IntKind.signed]; omega
              have hw3 : IntKind.i64.wrap ((t : Int) + 1) = (t : Int) + 1 := by simp [IntKind.wrap, IntKind.bits, IntKind.signed]; omega
              have ht0 : (0 : Int) ≤ (t : Int) := by omega
              have ht1 : (t : Int) + 1 < (L : Int) := by omega
              have ht2 : (0 : Int) ≤ (t : Int) + 1 := by omega
              have ht3 : (t : Int) < (L : Int) := by omega
              rename World => w3
              go_wp2_with fail
              go_region
              all_goals
                go_wp2_with fail
                refine ⟨⟨t + 1, (fs.set (t + 1) (y + c)).set t d, by go_num, by omega, HStep.out, ?_, ((HB3.out.setCell (p := ⟨w.heap.size, t + 1, none⟩) (Nat.le_refl _) _).setCell (p := ⟨w.heap.size, t, none⟩) (Nat.le_refl _) _).drew⟩, by simp [intOf]; omega⟩
                show GrI ((w3.setCell _ _).setCell _ _) _ _
                have h := (HG3.out.set (t + 1) (y + c)).set t d
                rw [Int.natCast_add] at h
                exact h
            · obtain rfl : t + 1 = L := by omega
              have HOk2 := hid (mulOut_end HO.out rfl HVl.out)
              have HLw := hid (HO.out.2.2.2.2.trans HV.out.symm)
              go_wp2_with fail
              exact ⟨⟨p + 1, fs, by go_num, by omega, HO.out.1, HOk2.out, HLw.out, HG3.out, HB3.out⟩, by simp [intOf]; omega⟩
    · obtain rfl : p = la := by omega
      have HT := hid (l11Text_any ds (fun b => b < wr.heap.size) (.slice (some ⟨w.heap.size, 0, none⟩) L L) wr (by have h := HG.out.ints (cap := L) (by rw [HDl.out]; exact Nat.le_refl _) (by unfold maxLen; omega); rw [HDl.out] at h; exact h) (fun b h => h) (by rw [HDl.out]; omega) HOk.out)
      have HV : Hid (lowD ds = a * b) := by show _ = _; rw [HLow.out, Nat.mod_eq_of_lt (by rw [← HLa.out]; exact Lib.lt_pow_nDigits a)]
      have hsz := HB.out.size
      rw [HV.out] at HT
      go_wp2_with fail
      refine HT.out.mono ?_
      rintro e w2 ⟨rfl, hw⟩
      have HW := hid hw
      clear hw
      go_wp2_with fail
      go_ret
      exact ⟨rfl, HB.out.trans (HW.out.mono (by omega))⟩
theorem l11Mul_any (a b : Nat) (w : World) (ha : Lib.nDigits a ≤ 10000) (hb : Lib.nDigits b ≤ 10000) :
    Calls Tryd.prog 68 #[.string (dec a), .string (dec b)] w fun e w' => e = .returned (.string (dec (a * b))) ∧ Below w.heap.size w w' :=
  l11Mul_of a b _ _ w rfl rfl ha hb
end Go.Proofs.YtakicnplmcemnaaDoor

namespace Go.Proofs.YtakicnplmcemnaaDoor
open Go.RowKit Go.Siskin

set_option maxRecDepth 20000 in
set_option maxHeartbeats 2000000 in
theorem l11Sub_of (a b la : Nat) (w : World) (HLa : Hid (Lib.nDigits a = la)) (ha : la ≤ 100000) (hab : b ≤ a) :
    Calls Tryd.prog 92 #[.string (dec a), .string (dec b)] w fun e w' => e = .returned (.string (dec (a - b))) ∧ Below w.heap.size w w' := by
  have Hna := hid (fun (k : Nat) (w : World) (hk : k ≤ 1000000) => atD a k w (by rw [HLa.out]; exact ha) hk)
  have Hnb := hid (fun (k : Nat) (w : World) (hk : k ≤ 1000000) => atD b k w (Nat.le_trans (nDigits_mono hab) (by rw [HLa.out]; exact ha)) hk)
  have hla : ((dec a).size : Int) = (la : Int) := by rw [dec_size, HLa.out]
  have HAB := hid hab
  obtain ⟨i0, hi, hz0, hz1, hz2⟩ := info_partsZ Tryd.infoIntZ
  have Hi := hid hi
  have Hz0 := hid hz0
  have Hz1 := hid hz1
  have Hz2 := hid hz2
  clear hi hz0 hz1 hz2 hab
  go_enter Tryd.func92, Tryd.ntmps92
  go_wp2_with fail
  go_loopw [5, 6, 7] (fun o c i wr => ∃ (k cy : Nat) (ds : List Nat) (ua : Option Addr) (uc : Nat), i = .int .i64 k ∧ c = .int .i64 cy ∧ o = .slice ua k uc ∧ Hid (ds.length = k) ∧ Hid (OkD ds) ∧ Hid (lowD ds + b % 10 ^ k = a % 10 ^ k + cy * 10 ^ k) ∧ cy ≤ 1 ∧ k ≤ la ∧ Hid (wr.ownsRow w.heap.size 3 1 (.slice ua k uc) k (numL .i64 ds)) ∧ Hid (Below w.heap.size w wr)) (fun _ _ i _ => la - (intOf i).toNat)
  case atStart => exact ⟨0, 0, [], _, 0, rfl, rfl, rfl, rfl, fun d h => by simp at h, by show _ = _; simp [lowD, Nat.mod_one], by omega, by omega, World.ownsRow_made w #[] 0 (Nat.le_refl _) (Nat.zero_le _) (by simp), (Below.refl _ _).alloc (Nat.le_refl _) _⟩
  case round =>
    obtain ⟨k, cy, ds, ua, uc, rfl, rfl, rfl, HKL, HOD, HS, hc1, hk, HU, HB⟩ := hrel
    have hsz := HB.out.size
    by_cases hgo : k < la
    · have HCA := hid (Hna.out k)
      have HCB := hid (Hnb.out k)
      obtain ⟨x, HX⟩ : ∃ x, Hid (a / 10 ^ k % 10 = x) := ⟨_, rfl⟩
      obtain ⟨y, HY⟩ : ∃ y, Hid (b / 10 ^ k % 10 = y) := ⟨_, rfl⟩
      have hx10 : x < 10 := by rw [← HX.out]; exact Nat.mod_lt _ (by decide)
      have hy10 : y < 10 := by rw [← HY.out]; exact Nat.mod_lt _ (by decide)
      rw [HX.out] at HCA
      rw [HY.out] at HCB
      by_cases hneg : x < y + cy
      · have HSt := hid (sub_step1 HKL.out HS.out HX.out HY.out hneg hc1)
        obtain ⟨d, HD⟩ : ∃ d : Nat, Hid ((x : Int) - y - cy + 10 = (d : Int)) := ⟨(x + 10 - y - cy), by show _ = _; omega⟩
        have hd10 : d < 10 := by have := HD.out; omega
        have hde : x + 10 - y - cy = d := by have := HD.out; omega
        rw [hde] at HSt
        clear hde
        go_wp2_with fail
        refine (HCA.out _ (by omega)).mono ?_
        rintro e w' ⟨rfl, hw⟩
        obtain rfl := hw.symm
        go_wp2_with fail
        refine (HCB.out _ (by omega)).mono ?_
        rintro e w' ⟨rfl, hw⟩
        obtain rfl := hw.symm
        have hde := HD.out
        go_wp2_with (at_builtin; go_loud (refine wpList_append_lies _ rfl _ _ _ rfl w.heap.size 3 i0 (.int .i64 0) 1 8 Tryd.underlying94 Hi.out Hz0.out Hz1.out Hz2.out rfl (by decide) _ k (numL .i64 ds) rfl (HU.out.alloc _) ⟨wr.heap.size, 0, none⟩ 1 1 [.int .i64 (d : Int)] rfl rfl (cell_one_newZ _ _ _) (by simp [Value.oneCell']) (by omega) (by unfold maxLen; omega) (by omega) (by simp; omega) (wr.heap.size + 1) (by simp) ?_; intro gg cc w4 hown' hg hat hgl; have hall := (World.grownBy_alloc wr _ _).trans hg))
        have hlow : ∀ g, (Value.slice ua k uc).ownBlock = some g → w.heap.size ≤ g := fun g e => (HU.out.lt g e).1
        refine ⟨⟨k + 1, 1, ds ++ [d], some ⟨gg, 0, none⟩, cc, by go_num, rfl, rfl, by show _ = _; rw [List.length_append, HKL.out]; rfl, okD_snoc HOD.out hd10, HSt.out, by omega, by omega, ?_, HB.out.grown hall hsz hlow⟩, by simp [intOf]; omega⟩
        show World.ownsRow _ _ _ _ _ _ _
        rw [numL_snoc]
        exact hown'
      · have HSt := hid (sub_step0 HKL.out HS.out HX.out HY.out (by omega))
        obtain ⟨d, HD⟩ : ∃ d : Nat, Hid ((x : Int) - y - cy = (d : Int)) := ⟨(x - y - cy), by show _ = _; omega⟩
        have hd10 : d < 10 := by have := HD.out; omega
        have hde : x - y - cy = d := by have := HD.out; omega
        rw [hde] at HSt
        clear hde
        go_wp2_with fail
        refine (HCA.out _ (by omega)).mono ?_
        rintro e w' ⟨rfl, hw⟩
        obtain rfl := hw.symm
        go_wp2_with fail
        refine (HCB.out _ (by omega)).mono ?_
        rintro e w' ⟨rfl, hw⟩
        obtain rfl := hw.symm
        have hde := HD.out
        go_wp2_with (at_builtin; go_loud (refine wpList_append_lies _ rfl _ _ _ rfl w.heap.size 3 i0 (.int .i64 0) 1 8 Tryd.underlying94 Hi.out Hz0.out Hz1.out Hz2.out rfl (by decide) _ k (numL .i64 ds) rfl (HU.out.alloc _) ⟨wr.heap.size, 0, none⟩ 1 1 [.int .i64 (d : Int)] rfl rfl (cell_one_newZ _ _ _) (by simp [Value.oneCell']) (by omega) (by unfold maxLen; omega) (by omega) (by simp; omega) (wr.heap.size + 1) (by simp) ?_; intro gg cc w4 hown' hg hat hgl; have hall := (World.grownBy_alloc wr _ _).trans hg))
        have hlow : ∀ g, (Value.slice ua k uc).ownBlock = some g → w.heap.size ≤ g := fun g e => (HU.out.lt g e).1
        refine ⟨⟨k + 1, 0, ds ++ [d], some ⟨gg, 0, none⟩, cc, by go_num, rfl, rfl, by show _ = _; rw [List.length_append, HKL.out]; rfl, okD_snoc HOD.out hd10, HSt.out, by omega, by omega, ?_, HB.out.grown hall hsz hlow⟩, by simp [intOf]; omega⟩
        show World.ownsRow _ _ _ _ _ _ _
        rw [numL_snoc]
        exact hown'
    · have hkla : k = la := by omega
      have HT := hid (l11Text_any ds (fun b => b < wr.heap.size) (.slice ua k uc) wr (intsAt_own HU.out (by rw [HKL.out]; unfold maxLen; omega)) (fun b h => h) (by rw [HKL.out]; omega) HOD.out)
      have HV : Hid (lowD ds = a - b) := sub_end HOD.out HKL.out HS.out (by rw [HLa.out, hkla]) HAB.out
      rw [HV.out] at HT
      clear hkla
      go_wp2_with fail
      refine HT.out.mono ?_
      rintro e w2 ⟨rfl, hw⟩
      have HW := hid hw
      clear hw
      go_wp2_with fail
      go_ret
      exact ⟨rfl, HB.out.trans (HW.out.mono (by omega))⟩
theorem l11Sub_any (a b : Nat) (w : World) (ha : Lib.nDigits a ≤ 100000) (hab : b ≤ a) :
    Calls Tryd.prog 92 #[.string (dec a), .string (dec b)] w fun e w' => e = .returned (.string (dec (a - b))) ∧ Below w.heap.size w w' :=
  l11Sub_of a b _ w rfl ha hab
end Go.Proofs.YtakicnplmcemnaaDoor

namespace Go.Proofs.YtakicnplmcemnaaDoor
open Go.RowKit Go.Siskin

theorem bytes_irr : ∀ l : List UInt8, Op.bytesLess l l = false
  | [] => by simp [Op.bytesLess]
  | a :: r => by simp [Op.bytesLess, bytes_irr r]
/-- Of as many digits the bytes tell which number is less. -/
theorem bytes_dig : ∀ (m a b : Nat), a < 10 ^ m → b < 10 ^ m → Op.bytesLess (digL m a) (digL m b) = decide (a < b)
  | 0, a, b, h1, h2 => by
    simp at h1 h2; subst h1; subst h2
    simp [digL, Op.bytesLess]
  | m + 1, a, b, h1, h2 => by
    have e : ∀ v, digL (m + 1) v = Lib.dg v m :: digL m (v % 10 ^ m) := by
      intro v
      apply List.ext_getElem
      · simp [digL]
      · intro i g1 g2
        cases i with
        | zero => simp [digL]
        | succ i =>
          simp [digL] at g1 g2 ⊢
          unfold Lib.dg
          congr 2
          have hi : i < m := g1
          obtain ⟨q, hq⟩ : ∃ q, m - 1 - i = q := ⟨_, rfl⟩
          rw [show m - (i + 1) = q by omega, hq]
          obtain ⟨s, hs⟩ : ∃ s, m = q + (s + 1) := ⟨m - q - 1, by omega⟩
          rw [hs, Nat.pow_add, Nat.mod_mul_right_div_self, Nat.mod_mod_of_dvd]
          exact ⟨10 ^ s, by rw [Nat.pow_succ, Nat.mul_comm]⟩
    have ht : ∀ v, v < 10 ^ (m + 1) → v = 10 ^ m * (v / 10 ^ m) + v % 10 ^ m ∧ v / 10 ^ m < 10 := by
      intro v hv
      exact ⟨(Nat.div_add_mod v _).symm, Nat.div_lt_of_lt_mul (by rw [← Nat.pow_succ]; exact hv)⟩
    obtain ⟨ea, la⟩ := ht a h1
    obtain ⟨eb, lb⟩ := ht b h2
    have hp : 0 < 10 ^ m := Nat.pow_pos (by decide)
    have ra := Nat.mod_lt a hp
    have rb := Nat.mod_lt b hp
    have ih := bytes_dig m (a % 10 ^ m) (b % 10 ^ m) ra rb
    rw [e, e]
    have da := dg_nat a m
    have db := dg_nat b m
    rw [Nat.mod_eq_of_lt la] at da
    rw [Nat.mod_eq_of_lt lb] at db
    generalize a / 10 ^ m = x at *
    generalize b / 10 ^ m = y at *
    generalize a % 10 ^ m = u at *
    generalize b % 10 ^ m = v at *
    generalize Lib.dg a m = c at *
    generalize Lib.dg b m = d at *
    generalize 10 ^ m = P at *
    rcases Nat.lt_trichotomy x y with h | h | h
    · have hcd : c < d := by rw [UInt8.lt_iff_toNat_lt]; omega
      have hlt : a < b := by
        have : P * (x + 1) ≤ P * y := Nat.mul_le_mul_left _ h
        rw [Nat.mul_add, Nat.mul_one] at this; omega
      simp [Op.bytesLess, hcd, hlt]
    · subst h
      have hcd : c = d := by apply UInt8.toNat_inj.1; omega
      subst hcd
      have e3 : (a < b) = (u < v) := by rw [ea, eb]; simp
      simp only [e3]
      rw [← ih]
      simp [Op.bytesLess]
    · have hcd : d < c := by rw [UInt8.lt_iff_toNat_lt]; omega
      have hlt : ¬ a < b := by
        have : P * (y + 1) ≤ P * x := Nat.mul_le_mul_left _ h
        rw [Nat.mul_add, Nat.mul_one] at this; omega
      have hne : ¬ c < d := by rw [UInt8.lt_iff_toNat_lt] at *; omega
      have hne2 : ¬ c = d := by rintro rfl; rw [UInt8.lt_iff_toNat_lt] at hcd; omega
      simp [Op.bytesLess, hne, hne2, hlt]

def cmpI (a b : Nat) : Int := if a < b then -1 else if b < a then 1 else 0
theorem lt_of_digits {a b : Nat} (h : Lib.nDigits a < Lib.nDigits b) : a < b := by
  rcases Nat.lt_or_ge a b with h1 | h1
  · exact h1
  · have := nDigits_mono h1; omega

set_option maxHeartbeats 1000000 in
theorem l11Cmp_any (a b : Nat) (w : World) :
    Calls Tryd.prog 90 #[.string (dec a), .string (dec b)] w fun e w' => e = .returned (.int .i64 (cmpI a b)) ∧ w' = w := by
  obtain ⟨la, HLa⟩ : ∃ la, Hid (Lib.nDigits a = la) := ⟨_, rfl⟩
  obtain ⟨lb, HLb⟩ : ∃ lb, Hid (Lib.nDigits b = lb) := ⟨_, rfl⟩
  have hla : ((dec a).size : Int) = (la : Int) := by rw [dec_size, HLa.out]
  have hlb : ((dec b).size : Int) = (lb : Int) := by rw [dec_size, HLb.out]
  rcases Nat.lt_trichotomy la lb with h | h | h
  · have hne : ((la : Int) != (lb : Int)) = true := by rw [bne_iff_ne]; omega
    have HV : Hid (cmpI a b = -1) := by show _ = _; unfold cmpI; rw [if_pos (lt_of_digits (by rw [HLa.out, HLb.out]; exact h))]
    rw [HV.out]
    go_enter Tryd.func90, Tryd.ntmps90
    go_wp2_with fail
    go_ret
    exact ⟨rfl, rfl⟩
  · subst h
    have hne : ((la : Int) != (la : Int)) = false := by simp
    have h1 : Op.bytesLess (dec a).toList (dec b).toList = decide (a < b) := by
      have e1 : (dec a).toList = digL la a := by rw [Go.ByteArray.toList_eq]; unfold dec; rw [HLa.out]; simp [digT]
      have e2 : (dec b).toList = digL la b := by rw [Go.ByteArray.toList_eq]; unfold dec; rw [HLb.out]; simp [digT]
      rw [e1, e2]
      exact bytes_dig la a b (by rw [← HLa.out]; exact Lib.lt_pow_nDigits a) (by rw [← HLb.out]; exact Lib.lt_pow_nDigits b)
    have h2 : Op.bytesLess (dec b).toList (dec a).toList = decide (b < a) := by
      have e1 : (dec a).toList = digL la a := by rw [Go.ByteArray.toList_eq]; unfold dec; rw [HLa.out]; simp [digT]
      have e2 : (dec b).toList = digL la b := by rw [Go.ByteArray.toList_eq]; unfold dec; rw [HLb.out]; simp [digT]
      rw [e1, e2]
      exact bytes_dig la b a (by rw [← HLb.out]; exact Lib.lt_pow_nDigits b) (by rw [← HLa.out]; exact Lib.lt_pow_nDigits a)
    rcases Nat.lt_trichotomy a b with h | h | h
    · have HV : Hid (cmpI a b = -1) := by show _ = _; unfold cmpI; rw [if_pos h]
      rw [HV.out]
      rw [decide_eq_true h] at h1
      clear h2
      go_enter Tryd.func90, Tryd.ntmps90
      go_wp2_with fail
      go_ret
      exact ⟨rfl, rfl⟩
    · subst h
      have HV : Hid (cmpI a a = 0) := by show _ = _; unfold cmpI; rw [if_neg (by omega), if_neg (by omega)]
      rw [HV.out]
      have h3 : Op.bytesLess (dec a).toList (dec a).toList = false := bytes_irr _
      have h4 : ((dec a).toList == (dec a).toList) = true := by simp
      clear h1 h2
      go_enter Tryd.func90, Tryd.ntmps90
      go_wp2_with fail
      go_ret
      exact ⟨rfl, rfl⟩
    · have HV : Hid (cmpI a b = 1) := by show _ = _; unfold cmpI; rw [if_neg (by omega), if_pos h]
      rw [HV.out]
      rw [decide_eq_false (show ¬ a < b by omega)] at h1
      have h4 : ((dec a).toList == (dec b).toList) = false := by
        rw [beq_eq_false_iff_ne]
        intro e
        rw [Go.ByteArray.toList_eq, Go.ByteArray.toList_eq] at e
        have := dec_inj (ba_ext e); omega
      clear h2
      go_enter Tryd.func90, Tryd.ntmps90
      go_wp2_with fail
      go_ret
      exact ⟨rfl, rfl⟩
  · have hne : ((la : Int) != (lb : Int)) = true := by rw [bne_iff_ne]; omega
    have HV : Hid (cmpI a b = 1) := by
      have := lt_of_digits (a := b) (b := a) (by rw [HLa.out, HLb.out]; exact h)
      show _ = _; unfold cmpI; rw [if_neg (by omega), if_pos this]
    rw [HV.out]
    go_enter Tryd.func90, Tryd.ntmps90
    go_wp2_with fail
    go_ret
    exact ⟨rfl, rfl⟩
end Go.Proofs.YtakicnplmcemnaaDoor

namespace Go.Proofs.YtakicnplmcemnaaDoor
open Go.RowKit Go.Siskin

theorem Tryd.infoByteZ2 : (Tryd.prog.info? 5).map (fun i => (i.zero, i.size, i.bytes)) = some (some (.int .u8 0), 1, 1) := by kernel_rfl
/-- The bytes of a text as cells. -/
def byteL (t : ByteArray) : List Value := t.data.toList.map fun c : UInt8 => Value.int .u8 (c.toNat : Int)
theorem byteL_length (t : ByteArray) : (byteL t).length = t.size := by simp [byteL]
theorem byteL_snoc (m v d : Nat) (h : d < 10) : byteL (digT (m + 1) (v * 10 + d)) = byteL (digT m v) ++ [.int .u8 (((48 + d : Nat)) : Int)] := by
  rw [← digT_snoc m v d h]
  unfold byteL
  rw [ByteArray.data_append]
  have e : (UInt8.ofNat (48 + d)).toNat = 48 + d := by simp; omega
  simp only [Array.toList_append, List.map_append, List.map_cons, List.map_nil, e]

theorem conv_back (W : World) (base n g cap : Nat) (t : ByteArray) (h : W.ownsRow base 5 1 (.slice (some ⟨g, 0, none⟩) n cap) n (byteL t)) : (convert 67 9 (.slice (some ⟨g, 0, none⟩) n cap)).run Tryd.prog W = .ok (.string t) W := by
  have hl := h.1
  rw [byteL_length] at hl
  have hcells := h.cells (g := g) rfl
  have e := run_convert_bytes_back (P := Tryd.prog) W 67 9 5 ⟨g, 0, none⟩ cap t.data.toList Tryd.underlying67 Tryd.underlying5 Tryd.underlying9 (fun j hj => hcells j (.int .u8 (t.data.toList[j].toNat : Int)) (by rw [byteL, List.getElem?_map, List.getElem?_eq_getElem hj]; rfl))
  have hn : t.data.toList.length = n := by
    have : t.data.toList.length = t.size := by rw [Array.length_toList]; rfl
    omega
  rw [hn] at e
  simpa using e

/-- What a text of digits tells. -/
def valL (l : List UInt8) : Nat := l.foldl (fun v c => v * 10 + (c.toNat - 48)) 0
def valT (t : ByteArray) : Nat := valL t.data.toList
theorem valL_snoc (l : List UInt8) (c : UInt8) : valL (l ++ [c]) = valL l * 10 + (c.toNat - 48) := by simp [valL]
theorem valL_dig : ∀ (m v : Nat), v < 10 ^ m → valL (digL m v) = v
  | 0, v, h => by simp at h; subst h; rfl
  | m + 1, v, h => by
    rw [digL_succ, valL_snoc, valL_dig m (v / 10) (by rw [Nat.pow_succ] at h; omega)]
    have e : (UInt8.ofNat (48 + v % 10)).toNat = 48 + v % 10 := by simp; omega
    rw [e]; omega
theorem valT_dec (v : Nat) : valT (dec v) = v := by
  show valL (digL (Lib.nDigits v) v).toArray.toList = v
  rw [List.toList_toArray]
  exact valL_dig _ v (Lib.lt_pow_nDigits v)

/-- Dividing digit by digit. -/
theorem div_step {a b i n : Nat} (hb : 0 < b) (hi : i < n) : a / 10 ^ (n - (i + 1)) / b = a / 10 ^ (n - i) / b * 10 + (a / 10 ^ (n - i) % b * 10 + a / 10 ^ (n - 1 - i) % 10) / b ∧
    a / 10 ^ (n - (i + 1)) % b = (a / 10 ^ (n - i) % b * 10 + a / 10 ^ (n - 1 - i) % 10) % b ∧ a / 10 ^ (n - i) % b * 10 + a / 10 ^ (n - 1 - i) % 10 < b * 10 := by
  obtain ⟨k, hk⟩ : ∃ k, n - (i + 1) = k := ⟨_, rfl⟩
  rw [hk, show n - i = k + 1 by omega, show n - 1 - i = k by omega, Nat.pow_succ, ← Nat.div_div_eq_div_mul]
  generalize a / 10 ^ k = y
  have h1 := Nat.div_add_mod (y / 10) b
  have h2 := Nat.mod_lt (y / 10) hb
  generalize y / 10 / b = q at *
  generalize y / 10 % b = r at *
  have h3 : y = b * (q * 10) + (r * 10 + y % 10) := by
    have e : b * (q * 10) = b * q * 10 := by rw [Nat.mul_assoc]
    omega
  refine ⟨?_, ?_, by omega⟩
  · rw [h3]
    rw [Nat.mul_add_div hb]
    congr 2
    omega
  · have e : y % b = (b * (q * 10) + (r * 10 + y % 10)) % b := congrArg (· % b) h3
    rw [e, Nat.mul_add_mod]
end Go.Proofs.YtakicnplmcemnaaDoor
