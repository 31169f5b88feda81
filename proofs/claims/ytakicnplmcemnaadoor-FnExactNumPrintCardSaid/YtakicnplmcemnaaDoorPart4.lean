/-
  A letter of a constant text by its place; the program's isOk and the model's l12Radix.
  The program's naturalIn: what decimal digits tell, in groups. Condition: the text is a numeral of at most 100,000 digits, and the table of powers stands.
  Plain numbers: groups from a place on, and what they come to. No program is named.
  The program's take and giveBack: another natural taken away so many times from the groups at a place, and added to them. Condition: the groups lie in a block of the call's own, the other natural elsewhere.
  slices.Reverse over bytes. Condition: the bytes lie in a block of the call's own.
-/
import Derived.Test.YtakicnplmcemnaaDoorPart3
import Derived.Test.YtakicnplmcemnaaDoorPart2
import Derived.Deep.RegionLaw
namespace Go.Proofs.YtakicnplmcemnaaDoor
open Go.RowKit Go.Siskin

theorem run_index_str {P : Program} {t : TypeId} (ht : P.underlying t = some .string) {s : ByteArray} {k : Nat} {kk : IntKind} {b : UInt8} (hb : s[k]? = some b) (w : World) :
    (Instr.index t (.string s) (.int kk k)).run P w = .ok (.int .u8 (b.toNat : Int)) w := by
  have hk' : (0 : Int) ≤ k := by omega
  unfold Instr.index
  simp only [asIntOf, Sem.run_bind, Sem.run_pure, Result.andThen_ok, run_underlying ht, if_pos hk', Int.toNat_natCast, hb]
/-- A letter of a text at the operation. -/
theorem wpList_index_str {P : Program} (w : World) {ops : Array Oper} {rest : List Oper} {o : Oper} {a : Act} {Q : Exit → Act → World → Prop} (hgd : o.guard = none) (x i : Operand) (t : TypeId) (hop : o.op = Op.index t x i)
    (ht : P.underlying t = some .string) (s : ByteArray) (hx : a.eval x = .string s) (k : Nat) (kk : IntKind) (hk : a.eval i = .int kk k) (b : UInt8) (hb : s[k]? = some b)
    (hK : wpList P ops Q rest (a.put o.dst (.int .u8 (b.toNat : Int))) w) : wpList P ops Q (o :: rest) a w := by
  refine wpList_plain hgd fun K hK' => ?_
  unfold Oper.wp execOp
  simp only [hop, hx, hk, run_index_str ht hb w, Sem.run_bind, Result.andThen_ok, Sem.run_pure]
  exact hK' _ _ hK

def hexS : ByteArray := ⟨#[48, 49, 50, 51, 52, 53, 54, 55, 56, 57, 97, 98, 99, 100, 101, 102]⟩
theorem hexS_get {d : Nat} (h : d < 16) : (⟨#[48, 49, 50, 51, 52, 53, 54, 55, 56, 57, 97, 98, 99, 100, 101, 102]⟩ : ByteArray)[d]? = some (hexB d) := by
  have hcase : d = 0 ∨ d = 1 ∨ d = 2 ∨ d = 3 ∨ d = 4 ∨ d = 5 ∨ d = 6 ∨ d = 7 ∨ d = 8 ∨ d = 9 ∨ d = 10 ∨ d = 11 ∨ d = 12 ∨ d = 13 ∨ d = 14 ∨ d = 15 := by omega
  rcases hcase with rfl | rfl | rfl | rfl | rfl | rfl | rfl | rfl | rfl | rfl | rfl | rfl | rfl | rfl | rfl | rfl <;> rfl

/-- Whether it is a radix. -/
def radB (r : Int) : Bool := r == 2 || r == 8 || r == 10 || r == 16
theorem radB_iff (r : Int) : radB r = true ↔ ∃ R : Nat, r = (R : Int) ∧ RadP R := by
  unfold radB RadP
  simp only [Bool.or_eq_true, beq_iff_eq]
  constructor
  · rintro (((h | h) | h) | h)
    · exact ⟨2, by omega, by omega⟩
    · exact ⟨8, by omega, by omega⟩
    · exact ⟨10, by omega, by omega⟩
    · exact ⟨16, by omega, by omega⟩
  · rintro ⟨R, rfl, h⟩
    omega

set_option maxRecDepth 20000 in
set_option maxHeartbeats 1000000 in
theorem isOk_any (r : Int) (w : World) : Calls Tryd.prog 47 #[.int .i64 r] w fun e w' => e = .returned (.bool (radB r)) ∧ w' = w := by
  unfold radB
  cases h1 : (r == 2) <;> cases h2 : (r == 8) <;> cases h3 : (r == 10) <;> cases h4 : (r == 16)
  all_goals
    go_enter Tryd.func47, Tryd.ntmps47
    go_wp2_with fail
    go_ret
    exact ⟨rfl, rfl⟩
set_option maxRecDepth 20000 in
set_option maxHeartbeats 1000000 in
theorem l12Radix_any (r : Int) (w : World) : Calls Tryd.prog 41 #[.int .i64 r] w fun e w' => e = .returned (.bool (radB r)) ∧ w' = w := by
  unfold radB
  cases h1 : (r == 2) <;> cases h2 : (r == 8) <;> cases h3 : (r == 10) <;> cases h4 : (r == 16)
  all_goals
    go_enter Tryd.func41, Tryd.ntmps41
    go_wp2_with fail
    go_ret
    exact ⟨rfl, rfl⟩
end Go.Proofs.YtakicnplmcemnaaDoor

namespace Go.Proofs.YtakicnplmcemnaaDoor
open Go.RowKit Go.Siskin

/-- One digit more: its group alone turns. -/
theorem put_digit (M u p d : Nat) (hd : d < 10) : grpN M (10 ^ (p + 1) * u + d * 10 ^ p) = (grpN M (10 ^ (p + 1) * u)).set (p / 9) (10 ^ (p + 1) * u / 1000000000 ^ (p / 9) % 1000000000 + d * 10 ^ (p % 9)) := by
  obtain ⟨q, hq⟩ : ∃ q, p / 9 = q := ⟨_, rfl⟩
  obtain ⟨r, hr⟩ : ∃ r, p % 9 = r := ⟨_, rfl⟩
  have hp : p = 9 * q + r := by omega
  have hr9 : r < 9 := by omega
  rw [hq, hr]

  have e0 : 10 ^ (p + 1) * u + d * 10 ^ p = 10 ^ p * (10 * u + d) := by
    rw [Nat.pow_succ, Nat.mul_add, Nat.mul_comm d, Nat.mul_assoc]
  have e1 : 10 ^ (p + 1) * u = 10 ^ p * (10 * u) := by rw [Nat.pow_succ, Nat.mul_assoc]
  have key : ∀ y k, k < q → 10 ^ p * y / 1000000000 ^ k % 1000000000 = 0 := by
    intro y k hk
    rw [p9k]
    obtain ⟨s, hs⟩ : ∃ s, p = 9 * k + (9 + s) := ⟨p - 9 * k - 9, by omega⟩
    rw [hs, Nat.pow_add, Nat.mul_assoc, Nat.mul_div_cancel_left _ (Nat.pow_pos (by decide)), Nat.pow_add, Nat.mul_assoc, p9, Nat.mul_mod_right]
  have key2 : ∀ k, q < k → 10 ^ p * (10 * u + d) / 1000000000 ^ k = 10 ^ p * (10 * u) / 1000000000 ^ k := by
    intro k hk
    rw [p9k]
    obtain ⟨s, hs⟩ : ∃ s, 9 * k = p + (s + 1) := ⟨9 * k - p - 1, by omega⟩
    rw [hs, Nat.pow_add, ← Nat.div_div_eq_div_mul, ← Nat.div_div_eq_div_mul, Nat.mul_div_cancel_left _ (Nat.pow_pos (by decide)), Nat.mul_div_cancel_left _ (Nat.pow_pos (by decide)), Nat.pow_succ, Nat.mul_comm (10 ^ s), ← Nat.div_div_eq_div_mul, ← Nat.div_div_eq_div_mul]
    congr 1
    omega
  have key3 : 10 ^ p * (10 * u + d) / 1000000000 ^ q % 1000000000 = 10 ^ p * (10 * u) / 1000000000 ^ q % 1000000000 + d * 10 ^ r := by
    rw [p9k, hp, Nat.pow_add, Nat.mul_assoc, Nat.mul_assoc, Nat.mul_div_cancel_left _ (Nat.pow_pos (by decide)), Nat.mul_div_cancel_left _ (Nat.pow_pos (by decide))]
    obtain ⟨s, hs⟩ : ∃ s, 9 = r + (s + 1) := ⟨9 - r - 1, by omega⟩
    rw [p9, hs, Nat.pow_add, Nat.mul_mod_mul_left, Nat.mul_mod_mul_left, Nat.pow_succ, Nat.mul_comm (10 ^ s) 10, Nat.mul_mod_mul_left]
    have e : (10 * u + d) % (10 * 10 ^ s) = 10 * (u % 10 ^ s) + d := by
      rw [Nat.mod_mul]
      have a1 : (10 * u + d) % 10 = d := by omega
      have a2 : (10 * u + d) / 10 = u := by omega
      rw [a1, a2]; omega
    rw [e, Nat.mul_add, Nat.mul_comm (10 ^ r) d]
  rw [e0, e1]
  apply List.ext_getElem
  · simp [grpN]
  · intro k h1 h2
    rw [grpN_get, List.getElem_set]
    by_cases hk : q = k
    · subst hk
      rw [if_pos rfl]; exact key3
    · rw [if_neg hk, grpN_get]
      rcases Nat.lt_or_ge k q with h | h
      · rw [key _ k h, key _ k h]
      · rw [key2 k (by omega)]
/-- What the first digits tell. -/
theorem first_digits {v n i : Nat} (hi : i < n) : v / 10 ^ (n - (i + 1)) * 10 ^ (n - (i + 1)) = 10 ^ (n - 1 - i + 1) * (v / 10 ^ (n - i)) + v / 10 ^ (n - 1 - i) % 10 * 10 ^ (n - 1 - i) ∧ v / 10 ^ (n - i) * 10 ^ (n - i) = 10 ^ (n - 1 - i + 1) * (v / 10 ^ (n - i)) := by
  obtain ⟨k, hk⟩ : ∃ k, n - (i + 1) = k := ⟨_, rfl⟩
  rw [hk, show n - i = k + 1 by omega, show n - 1 - i = k by omega]
  refine ⟨?_, by rw [Nat.mul_comm]⟩
  rw [Nat.pow_succ, ← Nat.div_div_eq_div_mul]
  generalize v / 10 ^ k = y
  have h : y = 10 * (y / 10) + y % 10 := by omega
  have e : 10 ^ k * 10 * (y / 10) = 10 * (y / 10) * 10 ^ k := by rw [Nat.mul_assoc, Nat.mul_comm]
  rw [e, ← Nat.add_mul, ← h]

/-- A block of groups, all of it written by the call. -/
def GrA (w : World) (b : Nat) (ls : List Nat) : Prop := Own w b 52 (numL .u64 ls).toArray
theorem GrA.get {w : World} {b : Nat} {ls : List Nat} (h : GrA w b ls) (i : Nat) (hi : i < ls.length) : w.cell? ⟨b, i, none⟩ = some (.int .u64 (ls[i] : Int)) := by
  rw [Own.cell h i]
  rw [List.getElem?_toArray]
  exact numL_get .u64 ls i hi
theorem GrA.set {w : World} {b : Nat} {ls : List Nat} (h : GrA w b ls) (i x : Nat) : GrA (w.setCell ⟨b, i, none⟩ (.int .u64 (x : Int))) b (ls.set i x) := by
  have := Own.set h i (.int .u64 (x : Int))
  unfold GrA
  rw [numL_set]
  simpa using this
theorem GrA.keep {w w' : World} {b N : Nat} {ls : List Nat} (h : GrA w b ls) (hb : Below N w w') (hN : b < N) : GrA w' b ls := Own.keep h hb hN
theorem GrA.frozen {w : World} {b : Nat} {ls : List Nat} (h : GrA w b ls) (i : Nat) : w.frozen? ⟨b, i, none⟩ = false := Own.frozen h i
theorem GrA.natA {w : World} {b cap : Nat} {ls : List Nat} (h : GrA w b ls) (h1 : ls.length ≤ cap) (h2 : cap ≤ maxLen) : NatA w (.slice (some ⟨b, 0, none⟩) ls.length cap) ls :=
  ⟨some ⟨b, 0, none⟩, cap, rfl, h1, h2, Or.inr ⟨b, 0, rfl, Own.lt h, fun i hi => by rw [Nat.zero_add]; exact h.get i hi⟩⟩
theorem GrA.lt {w : World} {b : Nat} {ls : List Nat} (h : GrA w b ls) : b < w.heap.size := Own.lt h
theorem made_zero (w : World) (n : Nat) : GrA (w.alloc (.cells (madeCells #[Value.int .u64 0] n) 52)) w.heap.size (grpN n 0) := by
  have h := own_new w (madeCells #[Value.int .u64 0] n) 52
  unfold GrA
  have e : (numL .u64 (grpN n 0)).toArray = madeCells #[Value.int .u64 0] n := by
    apply Array.ext
    · simp [numL, grpN, size_madeCells]
    · intro i h1 h2
      simp [numL, grpN, madeCells, Nat.mod_one]
  rw [e]; exact h
end Go.Proofs.YtakicnplmcemnaaDoor

namespace Go.Siskin

/-- What j groups from place i on come to. -/
def ga (ls : List Nat) (i : Nat) : Nat → Nat
  | 0 => 0
  | j + 1 => ga ls i j + ls.getD (i + j) 0 * 1000000000 ^ j
theorem ga_congr {ls ls' : List Nat} {i : Nat} : ∀ {j : Nat}, (∀ k, k < j → ls.getD (i + k) 0 = ls'.getD (i + k) 0) → ga ls i j = ga ls' i j
  | 0, _ => rfl
  | j + 1, h => by rw [ga, ga, ga_congr (j := j) (fun k hk => h k (by omega)), h j (by omega)]
theorem ga_lt {ls : List Nat} {i : Nat} (h : ∀ k, ls.getD k 0 < 1000000000) : ∀ j, ga ls i j < 1000000000 ^ j
  | 0 => by simp [ga]
  | j + 1 => by
    have h1 := ga_lt h (i := i) j
    have h2 := h (i + j)
    rw [ga, Nat.pow_succ]
    generalize 1000000000 ^ j = P at *
    have h3 : ls.getD (i + j) 0 * P ≤ 999999999 * P := Nat.mul_le_mul_right _ (by omega)
    omega
theorem ga_zero {ls : List Nat} {i : Nat} : ∀ {j : Nat}, (∀ k, k < j → ls.getD (i + k) 0 = 0) → ga ls i j = 0
  | 0, _ => rfl
  | j + 1, h => by rw [ga, ga_zero (j := j) (fun k hk => h k (by omega)), h j (by omega)]; simp
theorem ga_split (ls : List Nat) (i j : Nat) : ∀ k, ga ls i (j + k) = ga ls i j + 1000000000 ^ j * ga ls (i + j) k
  | 0 => by simp [ga]
  | k + 1 => by
    rw [← Nat.add_assoc, ga, ga_split ls i j k, ga, Nat.pow_add, Nat.mul_add, Nat.add_assoc i j k]
    have : ls.getD (i + (j + k)) 0 * (1000000000 ^ j * 1000000000 ^ k) = 1000000000 ^ j * (ls.getD (i + (j + k)) 0 * 1000000000 ^ k) := by ac_rfl
    omega
theorem ga_get {ls : List Nat} {i : Nat} (h : ∀ k, ls.getD k 0 < 1000000000) : ∀ (j k : Nat), k < j → ga ls i j / 1000000000 ^ k % 1000000000 = ls.getD (i + k) 0
  | j + 1, k, hk => by
    have hlt := ga_lt h (i := i) j
    rw [ga]
    by_cases e : k = j
    · subst e
      rw [Nat.add_mul_div_right _ _ (p9pos k), Nat.div_eq_of_lt hlt, Nat.zero_add, Nat.mod_eq_of_lt (h (i + k))]
    · have hk' : k < j := by omega
      have ih := ga_get h (i := i) j k hk'
      obtain ⟨s, hs⟩ : ∃ s, j = k + (s + 1) := ⟨j - k - 1, by omega⟩
      rw [hs] at ih ⊢
      have e2 : ls.getD (i + (k + (s + 1))) 0 * 1000000000 ^ (k + (s + 1)) = (1000000000 * (ls.getD (i + (k + (s + 1))) 0 * 1000000000 ^ s)) * 1000000000 ^ k := by
        rw [Nat.pow_add, Nat.pow_succ]; ac_rfl
      rw [e2, Nat.add_mul_div_right _ _ (p9pos k), Nat.add_mul_mod_self_left]
      exact ih
theorem getD_grpN (M V k : Nat) : (grpN M V).getD k 0 = if k < M then V / 1000000000 ^ k % 1000000000 else 0 := by
  by_cases h : k < M
  · rw [if_pos h, List.getD_eq_getElem?_getD, List.getElem?_eq_getElem (by rw [grpN_length]; exact h), grpN_get]; rfl
  · rw [if_neg h, List.getD_eq_getElem?_getD, List.getElem?_eq_none (by rw [grpN_length]; omega)]; rfl
theorem grpN_small (M V k : Nat) : (grpN M V).getD k 0 < 1000000000 := by
  rw [getD_grpN]
  split
  · exact Nat.mod_lt _ (by decide)
  · decide
theorem ga_grpN (M V i : Nat) : ∀ j, i + j ≤ M → ga (grpN M V) i j = V / 1000000000 ^ i % 1000000000 ^ j
  | 0, _ => by simp [ga, Nat.mod_one]
  | j + 1, h => by
    rw [ga, ga_grpN M V i j (by omega), getD_grpN, if_pos (by omega), Nat.mod_pow_succ, Nat.pow_add, ← Nat.div_div_eq_div_mul, Nat.mul_comm]
theorem grpN_of {ls : List Nat} {M : Nat} (hl : ls.length = M) (h : ∀ k, ls.getD k 0 < 1000000000) : ls = grpN M (ga ls 0 M) := by
  apply List.ext_getElem
  · rw [grpN_length, hl]
  · intro k h1 h2
    rw [grpN_get, ga_get h M k (by omega), Nat.zero_add, List.getD_eq_getElem?_getD, List.getElem?_eq_getElem h1]; rfl
/-- A list of which only some groups have turned. -/
theorem grpN_turned {ls : List Nat} {M V i mm : Nat} (hl : ls.length = M) (h : ∀ k, ls.getD k 0 < 1000000000) (him : i + mm ≤ M) (hV : V < 1000000000 ^ (i + mm))
    (hout : ∀ k, k < i ∨ i + mm ≤ k → ls.getD k 0 = (grpN M V).getD k 0) : ls = grpN M (V % 1000000000 ^ i + 1000000000 ^ i * ga ls i mm) := by
  have e := grpN_of hl h
  have e1 : ga ls 0 M = V % 1000000000 ^ i + 1000000000 ^ i * ga ls i mm := by
    obtain ⟨r, hr⟩ : ∃ r, M = i + (mm + r) := ⟨M - i - mm, by omega⟩
    have hz : ga ls (i + mm) r = 0 := ga_zero fun k hk => by
      rw [hout _ (Or.inr (by omega)), getD_grpN]
      split
      · rw [Nat.div_eq_of_lt (Nat.lt_of_lt_of_le hV (Nat.pow_le_pow_right (by decide) (by omega)))]
      · rfl
    have h0 : ga ls 0 i = V % 1000000000 ^ i := by
      have h1 := ga_grpN M V 0 i (by omega)
      rw [Nat.pow_zero, Nat.div_one] at h1
      rw [← h1]
      exact ga_congr fun k hk => hout _ (Or.inl (by omega))
    rw [hr, ga_split, Nat.zero_add, ga_split, hz, h0, Nat.mul_zero, Nat.add_zero]
  rw [e1] at e
  exact e
theorem getD_set {ls : List Nat} {p x k : Nat} (hp : p < ls.length) : (ls.set p x).getD k 0 = if k = p then x else ls.getD k 0 := by
  rw [List.getD_eq_getElem?_getD, List.getElem?_set]
  by_cases h : k = p
  · subst h; rw [if_pos rfl, if_pos hp, if_pos rfl]; rfl
  · rw [if_neg (by omega), if_neg h, List.getD_eq_getElem?_getD]
theorem ga_set_past {ls : List Nat} {i k x : Nat} (hp : i + k < ls.length) : ga (ls.set (i + k) x) i (k + 1) = ga ls i k + x * 1000000000 ^ k := by
  rw [ga, getD_set hp, if_pos rfl]
  congr 1
  exact ga_congr fun t ht => by rw [getD_set hp, if_neg (by omega)]
theorem take_step {A S L ow g T x y z c P : Nat} (h : A + T * S = L + ow * P) (hz : ow + g * T = z) (hy : y + z % 1000000000 = x + c * 1000000000) :
    A + y * P + T * (S + g * P) = L + x * P + (z / 1000000000 + c) * (P * 1000000000) := by
  have h1 : y + z = x + (z / 1000000000 + c) * 1000000000 := by rw [Nat.add_mul]; omega
  have h2 : (y + z) * P = (x + (z / 1000000000 + c) * 1000000000) * P := by rw [h1]
  have h3 : (z / 1000000000 + c) * (P * 1000000000) = (z / 1000000000 + c) * 1000000000 * P := by ac_rfl
  have h4 : T * (g * P) = g * T * P := by ac_rfl
  rw [Nat.add_mul, Nat.add_mul x] at h2
  rw [h3, Nat.mul_add, h4]
  have h5 : z * P = ow * P + g * T * P := by rw [← hz, Nat.add_mul]
  omega
end Go.Siskin

namespace Go.Proofs.YtakicnplmcemnaaDoor
open Go.RowKit Go.Siskin

/-- Only block b has been written. -/
def Wr (b : Nat) (w w' : World) : Prop := Below b w w' ∧ SameOn (fun k => k ≠ b) w w' ∧ w'.heap.size = w.heap.size
theorem Wr.refl (b : Nat) (w : World) : Wr b w w := ⟨Below.refl _ _, SameOn.refl _ _, rfl⟩
theorem Wr.trans {b : Nat} {w w1 w2 : World} (h : Wr b w w1) (k : Wr b w1 w2) : Wr b w w2 := ⟨h.1.trans k.1, h.2.1.trans k.2.1, k.2.2.trans h.2.2⟩
theorem Wr.set {b : Nat} {w w1 : World} (h : Wr b w w1) (i : Nat) (u : Value) : Wr b w (w1.setCell ⟨b, i, none⟩ u) :=
  ⟨h.1.setCell (p := ⟨b, i, none⟩) (Nat.le_refl _) _, h.2.1.setCell (p := ⟨b, i, none⟩) (fun h => h rfl) _, by simp [World.setCell]; exact h.2.2⟩
theorem Wr.drew {b : Nat} {w w1 : World} (h : Wr b w w1) : Wr b w w1.drew := ⟨h.1.drew, h.2.1, h.2.2⟩
theorem GrA.small {ls : List Nat} (h : ∀ k, ls.getD k 0 < 1000000000) (i : Nat) (hi : i < ls.length) : ls[i] < 1000000000 := by
  have := h i
  rw [List.getD_eq_getElem?_getD, List.getElem?_eq_getElem hi] at this
  exact this
theorem getD_of {ls : List Nat} (i : Nat) (hi : i < ls.length) : ls[i] = ls.getD i 0 := by
  rw [List.getD_eq_getElem?_getD, List.getElem?_eq_getElem hi]; rfl

set_option maxRecDepth 20000 in
set_option maxHeartbeats 2000000 in
theorem take_list (M V s b i mm nl nc T : Nat) (vs : Value) (w : World) (hG : GrA w b (grpN M V)) (hs : RowOf .u64 (fun k => k ≠ b) w vs (grpN mm s)) (him : i + mm ≤ M) (hnl : mm ≤ nl) (hnc : nl ≤ nc) (hncm : nc ≤ 1000000) (hT : T < 1000000000) :
    Calls Tryd.prog 109 #[.slice (some ⟨b, i, none⟩) nl nc, vs, .int .u64 T] w fun e w' => ∃ (ls : List Nat) (ow : Nat), e = .returned (.bool (decide (0 < ow))) ∧ GrA w' b ls ∧ ls.length = M ∧ (∀ k, ls.getD k 0 < 1000000000) ∧
      (∀ k, k < i ∨ i + mm ≤ k → ls.getD k 0 = (grpN M V).getD k 0) ∧ ga ls i mm + T * ga (grpN mm s) 0 mm = ga (grpN M V) i mm + ow * 1000000000 ^ mm ∧ Wr b w w' := by
  obtain ⟨sa, sc, rfl, q1, q2, q3⟩ := hs
  rw [grpN_length] at *
  unfold maxLen at q2
  have HG := hid hG
  have HS : Hid (∀ wr, Wr b w wr → ∀ k, k < mm → ∃ b' o', sa = some ⟨b', o', none⟩ ∧ wr.cell? ⟨b', o' + k, none⟩ = some (.int .u64 (((grpN mm s).getD k 0 : Nat) : Int))) := by
    intro wr hb k hk
    rcases q3 with h | ⟨b', o', e, hne, hc⟩
    · have := congrArg List.length h; rw [grpN_length] at this; simp at this; omega
    · refine ⟨b', o', e, ?_⟩
      rw [SameOn.cell (R := fun k => k ≠ b) hb.2.1 hne (o' + k), hc k (by rw [grpN_length]; exact hk), getD_of k (by rw [grpN_length]; exact hk)]
  have HTT := hid hT
  clear hG q3
  go_enter Tryd.func109, Tryd.ntmps109
  go_wp2_with fail
  go_loopw [7, 13] (fun o j wr => ∃ (k ow : Nat) (ls : List Nat), j = .int .i64 k ∧ o = .int .u64 ow ∧ k ≤ mm ∧ ow ≤ 1000000000 ∧ Hid (GrA wr b ls) ∧ Hid (ls.length = M) ∧ Hid (∀ k, ls.getD k 0 < 1000000000) ∧
      Hid (∀ t, t < i ∨ i + k ≤ t → ls.getD t 0 = (grpN M V).getD t 0) ∧ Hid (ga ls i k + T * ga (grpN mm s) 0 k = ga (grpN M V) i k + ow * 1000000000 ^ k) ∧ Hid (Wr b w wr)) (fun _ j _ => mm - (intOf j).toNat)
  case atStart => exact ⟨0, 0, _, rfl, rfl, Nat.zero_le _, Nat.zero_le _, HG.out, grpN_length _ _, grpN_small M V, fun _ _ => rfl, by show _ = _; simp [ga], Wr.refl _ _⟩
  case round =>
    obtain ⟨k, ow, ls, rfl, rfl, hk, how, HL, HLen, HSm, HOut, HEq, HW⟩ := hrel
    by_cases hlt : k < mm
    · obtain ⟨b', o', hab, g0⟩ := HS.out wr HW.out k hlt
      subst hab
      obtain ⟨g, HGg⟩ : ∃ g : Nat, Hid ((grpN mm s).getD k 0 = g) := ⟨_, rfl⟩
      have hg9 : g < 1000000000 := by rw [← HGg.out]; exact grpN_small mm s k
      rw [HGg.out] at g0
      have hik : i + k < ls.length := by rw [HLen.out]; omega
      have g1 := HL.out.get (i + k) hik
      have f1 := HL.out.frozen (i + k)
      obtain ⟨x, HX⟩ : ∃ x : Nat, Hid (ls.getD (i + k) 0 = x) := ⟨_, rfl⟩
      have hx9 : x < 1000000000 := by rw [← HX.out]; exact HSm.out _
      have HXV : Hid ((grpN M V).getD (i + k) 0 = x) := by show _ = _; rw [← HX.out]; exact (HOut.out (i + k) (Or.inr (Nat.le_refl _))).symm
      rw [getD_of (i + k) hik, HX.out] at g1
      obtain ⟨z, HZ⟩ : ∃ z : Nat, Hid (ow + g * T = z) := ⟨_, rfl⟩
      have hgT : g * T ≤ 999999999 * 999999999 := Nat.mul_le_mul (by omega) (by have := HTT.out; omega)
      have hzl : z ≤ 1000000000000000000 := by rw [← HZ.out]; omega
      have hzo : z / 1000000000 + 1 ≤ 1000000000 := by rw [← HZ.out]; omega
      have hval : IntKind.u64.wrap ((ow : Int) + IntKind.u64.wrap ((g : Int) * (T : Int))) = (z : Int) := by
        have e4 : (g : Int) * (T : Int) = ((g * T : Nat) : Int) := by simp
        rw [e4]
        have hz := HZ.out
        generalize g * T = q at *
        have e5 : IntKind.u64.wrap (q : Int) = (q : Int) := by simp [IntKind.wrap, IntKind.bits, IntKind.signed]; omega
        rw [e5]
        simp [IntKind.wrap, IntKind.bits, IntKind.signed]; omega
      obtain ⟨low, HLow⟩ : ∃ low : Nat, Hid (z % 1000000000 = low) := ⟨_, rfl⟩
      obtain ⟨ov, HOv⟩ : ∃ ov : Nat, Hid (z / 1000000000 = ov) := ⟨_, rfl⟩
      have hl9 : low < 1000000000 := by rw [← HLow.out]; exact Nat.mod_lt _ (by decide)
      have hov : ov + 1 ≤ 1000000000 := by rw [← HOv.out]; exact hzo
      have hw1 : (z : Int) % 1000000000 = (low : Int) := by have := HLow.out; omega
      have hw2 : (z : Int) / 1000000000 = (ov : Int) := by have := HOv.out; omega
      have HStep := hid (fun (y c : Nat) (hy : y + z % 1000000000 = x + c * 1000000000) => take_step (y := y) (c := c) HEq.out HZ.out hy)
      rw [HLow.out, HOv.out] at HStep
      have hnlI : (k : Int) < (nl : Int) := by omega
      have HRest : Hid (∀ y c : Nat, y + low = x + c * 1000000000 → y < 1000000000 → (∀ t, (ls.set (i + k) y).getD t 0 < 1000000000) ∧ (∀ t, t < i ∨ i + (k + 1) ≤ t → (ls.set (i + k) y).getD t 0 = (grpN M V).getD t 0) ∧
          ga (ls.set (i + k) y) i (k + 1) + T * ga (grpN mm s) 0 (k + 1) = ga (grpN M V) i (k + 1) + (ov + c) * 1000000000 ^ (k + 1)) := by
        intro y c hy hy9
        refine ⟨fun t => ?_, fun t ht => ?_, ?_⟩
        · rw [getD_set hik]; split
          · exact hy9
          · exact HSm.out t
        · rw [getD_set hik, if_neg (by omega)]; exact HOut.out t (by omega)
        · rw [ga_set_past hik, ga, ga, Nat.zero_add, HGg.out, HXV.out, Nat.pow_succ]
          exact HStep.out y c hy
      clear hgT
      by_cases hless : x < low
      · obtain ⟨y, HYy⟩ : ∃ y : Nat, Hid (x + 1000000000 - low = y) := ⟨_, rfl⟩
        have hyI : (x : Int) + 1000000000 - (low : Int) = (y : Int) := by have := HYy.out; omega
        have hy9 : y < 1000000000 := by have := HYy.out; omega
        have HR := hid (HRest.out y 1 (by have := HYy.out; omega) hy9)
        go_wp2_with fail
        refine ⟨⟨k + 1, ov + 1, ls.set (i + k) y, by go_num, by go_num, by omega, by omega, ?_, by show _ = _; rw [List.length_set]; exact HLen.out, HR.out.1, HR.out.2.1, HR.out.2.2, (HW.out.set (i + k) _).set (i + k) _⟩, by simp [intOf]; omega⟩
        show GrA _ _ _
        have h := (HL.out.set (i + k) (x + 1000000000)).set (i + k) y
        rw [List.set_set] at h
        simpa using h
      · obtain ⟨y, HYy⟩ : ∃ y : Nat, Hid (x - low = y) := ⟨_, rfl⟩
        have hyI : (x : Int) - (low : Int) = (y : Int) := by have := HYy.out; omega
        have hy9 : y < 1000000000 := by have := HYy.out; omega
        have HR := hid (HRest.out y 0 (by have := HYy.out; omega) hy9)
        go_wp2_with fail
        refine ⟨⟨k + 1, ov, ls.set (i + k) y, by go_num, rfl, by omega, by omega, ?_, by show _ = _; rw [List.length_set]; exact HLen.out, HR.out.1, HR.out.2.1, HR.out.2.2, HW.out.set (i + k) _⟩, by simp [intOf]; omega⟩
        show GrA _ _ _
        exact HL.out.set (i + k) y
    · have hkm : k = mm := by omega
      subst hkm
      go_wp2_with fail
      go_ret
      exact ⟨ls, ow, ret_boolz (by simp), HL.out, HLen.out, HSm.out, HOut.out, HEq.out, HW.out⟩
end Go.Proofs.YtakicnplmcemnaaDoor

namespace Go.Proofs.YtakicnplmcemnaaDoor
open Go.RowKit Go.Siskin

/-- Bytes that lie at the head of a block of the call's own. -/
def BRow (w : World) (g cap : Nat) (l : List UInt8) : Prop := ∃ cur : Array Value, Own w g 5 cur ∧ cur.size = cap ∧ l.length ≤ cap ∧ ∀ i (h : i < l.length), cur[i]? = some (.int .u8 (l[i].toNat : Int))
theorem BRow.cell {w : World} {g cap : Nat} {l : List UInt8} (h : BRow w g cap l) (i : Nat) (hi : i < l.length) : w.cell? ⟨g, i, none⟩ = some (.int .u8 (l[i].toNat : Int)) := by
  obtain ⟨cur, h1, h2, h3, h4⟩ := h
  rw [Own.cell h1 i]; exact h4 i hi
theorem BRow.frozen {w : World} {g cap : Nat} {l : List UInt8} (h : BRow w g cap l) (i : Nat) : w.frozen? ⟨g, i, none⟩ = false := by
  obtain ⟨cur, h1, -⟩ := h
  exact Own.frozen h1 i
theorem BRow.set {w : World} {g cap : Nat} {l : List UInt8} (h : BRow w g cap l) (i : Nat) (c : UInt8) : BRow (w.setCell ⟨g, i, none⟩ (.int .u8 (c.toNat : Int))) g cap (l.set i c) := by
  obtain ⟨cur, h1, h2, h3, h4⟩ := h
  refine ⟨_, Own.set h1 i _, by simpa using h2, by simpa using h3, fun j hj => ?_⟩
  rw [List.length_set] at hj
  rw [Array.getElem?_setIfInBounds, List.getElem_set]
  by_cases e : i = j
  · subst e; rw [if_pos rfl, if_pos (by omega), if_pos rfl]
  · rw [if_neg e, if_neg e]; exact h4 j hj
theorem BRow.keep {w w' : World} {g cap N : Nat} {l : List UInt8} (h : BRow w g cap l) (hb : Below N w w') (hN : g < N) : BRow w' g cap l := by
  obtain ⟨cur, h1, h2⟩ := h
  exact ⟨cur, h1.keep hb hN, h2⟩
theorem BRow.of_owns {w : World} {base n g cap : Nat} {l : List UInt8} (h : w.ownsRow base 5 1 (.slice (some ⟨g, 0, none⟩) n cap) n (l.map fun c : UInt8 => Value.int .u8 (c.toNat : Int))) : BRow w g cap l ∧ l.length = n := by
  have hl := h.1
  rw [List.length_map] at hl
  rcases h.2 with ⟨e, -⟩ | ⟨g', cap', cur, e, hb, hg, hcap, hc2, hc3, hc4⟩
  · cases e
  · simp only [Value.slice.injEq, Option.some.injEq, Addr.mk.injEq, and_true, true_and] at e
    obtain ⟨rfl, rfl⟩ := e
    refine ⟨⟨cur, hg, by omega, by omega, fun i hi => ?_⟩, by omega⟩
    have k := h.cells (g := g) rfl i (.int .u8 (l[i].toNat : Int)) (by rw [List.getElem?_map, List.getElem?_eq_getElem hi]; rfl)
    rw [Go.WideShapes.add_plain, Nat.zero_add, Own.cell hg i] at k
    exact k
theorem conv_row (W : World) (g cap : Nat) (l : List UInt8) (h : BRow W g cap l) : (convert 67 9 (.slice (some ⟨g, 0, none⟩) l.length cap)).run Tryd.prog W = .ok (.string ⟨l.toArray⟩) W :=
  run_convert_bytes_back (P := Tryd.prog) W 67 9 5 ⟨g, 0, none⟩ cap l Tryd.underlying67 Tryd.underlying5 Tryd.underlying9 (fun j hj => by
    rw [Go.WideShapes.add_plain, Nat.zero_add]; exact h.cell j hj)

set_option maxRecDepth 20000 in
set_option maxHeartbeats 2000000 in
theorem reverse_any (l : List UInt8) (g cap n : Nat) (w : World) (h : BRow w g cap l) (HLn : Hid (l.length = n)) (hn : n ≤ 100000) :
    Calls Tryd.prog 89 #[.slice (some ⟨g, 0, none⟩) n cap] w fun e w' => e = .returned (.tuple #[]) ∧ BRow w' g cap l.reverse ∧ Wr g w w' := by
  have HR := hid h
  have hcl : n ≤ cap := by obtain ⟨cur, -, -, h3, -⟩ := h; have := HLn.out; omega
  clear h
  go_enter Tryd.func89, Tryd.ntmps89
  go_wp2_with fail
  go_loopw [2, 3] (fun i j wr => ∃ (k : Nat) (l' : List UInt8), i = .int .i64 k ∧ j = .int .i64 ((n : Int) - 1 - k) ∧ k ≤ n ∧ Hid (l'.length = n) ∧ Hid (BRow wr g cap l') ∧ Hid (∀ t (h : t < l'.length), some l'[t] = if t < k ∨ n ≤ t + k then l[n - 1 - t]? else l[t]?) ∧ Hid (2 * k ≤ n + 1) ∧ Hid (Wr g w wr)) (fun i _ _ => n - (intOf i).toNat)
  case atStart => exact ⟨0, l, rfl, by congr 1; omega, Nat.zero_le _, HLn.out, HR.out, fun t h => by rw [if_neg (by have := HLn.out; omega), List.getElem?_eq_getElem h], by show _ ≤ _; omega, Wr.refl _ _⟩
  case round =>
    obtain ⟨k, l', rfl, rfl, hk, HLen, HRow, HAt, H2k, HW⟩ := hrel
    by_cases hlt : (k : Int) < (n : Int) - 1 - k
    · obtain ⟨j, HJ⟩ : ∃ j : Nat, Hid (n - 1 - k = j) := ⟨_, rfl⟩
      have hjI : (n : Int) - 1 - (k : Int) = (j : Int) := by have := HJ.out; omega
      rw [hjI] at hlt ⊢
      have hjn : j < n := by have := HJ.out; omega
      have hkn : k < n := by omega
      have g1 := HRow.out.cell k (by rw [HLen.out]; exact hkn)
      have g2 := HRow.out.cell j (by rw [HLen.out]; exact hjn)
      have f1 := HRow.out.frozen k
      have f2 := HRow.out.frozen j
      obtain ⟨a, HA⟩ : ∃ a : UInt8, Hid (l'[k]'(by rw [HLen.out]; exact hkn) = a) := ⟨_, hid rfl⟩
      obtain ⟨b, HBb⟩ : ∃ b : UInt8, Hid (l'[j]'(by rw [HLen.out]; exact hjn) = b) := ⟨_, hid rfl⟩
      rw [HA.out] at g1
      rw [HBb.out] at g2
      have hjnI : (j : Int) < (n : Int) := by omega
      have hknI : (k : Int) < (n : Int) := by omega
      have hkj : k ≠ j := by omega
      have hjj : ¬ (j = k) := by omega
      have HAt2 : Hid (∀ t (h : t < ((l'.set k b).set j a).length), some ((l'.set k b).set j a)[t] = if t < k + 1 ∨ n ≤ t + (k + 1) then l[n - 1 - t]? else l[t]?) := by
        intro t h
        have hJ := HJ.out
        rw [List.length_set, List.length_set, HLen.out] at h
        rw [List.getElem_set]
        by_cases e1 : j = t
        · subst e1
          rw [if_pos rfl, if_pos (by omega), show n - 1 - j = k by omega, ← HA.out, HAt.out k (by rw [HLen.out]; exact hkn), if_neg (by omega)]
        · rw [if_neg e1, List.getElem_set]
          by_cases e2 : k = t
          · subst e2
            rw [if_pos rfl, if_pos (by omega), hJ, ← HBb.out, HAt.out j (by rw [HLen.out]; exact hjn), if_neg (by omega)]
          · rw [if_neg e2, HAt.out t (by rw [HLen.out]; exact h)]
            by_cases c : t < k ∨ n ≤ t + k
            · rw [if_pos c, if_pos (by omega)]
            · rw [if_neg c, if_neg (by omega)]
      go_wp2_with fail
      go_region_law (fail)
      all_goals
        go_wp2_with fail
        refine ⟨⟨k + 1, (l'.set k b).set j a, by go_num, by congr 1; have := HJ.out; omega, by omega, by show _ = _; rw [List.length_set, List.length_set]; exact HLen.out, (HRow.out.set k b).set j a, HAt2.out, by have := HJ.out; show _ ≤ _; omega, ((HW.out.set k _).set j _).drew⟩, by simp [intOf]; omega⟩
    · have HE : Hid (l' = l.reverse) := by
        have h2k := H2k.out
        have hl := HLn.out
        apply List.ext_getElem
        · rw [HLen.out, List.length_reverse, hl]
        · intro t h1 h2
          rw [HLen.out] at h1
          have h3 := HAt.out t (by rw [HLen.out]; exact h1)
          rw [List.getElem_reverse]
          have e : l.length - 1 - t = n - 1 - t := by rw [hl]
          by_cases c : t < k ∨ n ≤ t + k
          · rw [if_pos c, List.getElem?_eq_getElem (by omega)] at h3
            have h4 := Option.some.inj h3
            rw [h4]; congr 1; omega
          · rw [if_neg c, List.getElem?_eq_getElem (by omega)] at h3
            have h4 := Option.some.inj h3
            rw [h4]; congr 1; omega
      go_wp2_with fail
      go_end0
      exact ⟨rfl, by rw [← HE.out]; exact HRow.out, HW.out⟩
end Go.Proofs.YtakicnplmcemnaaDoor
