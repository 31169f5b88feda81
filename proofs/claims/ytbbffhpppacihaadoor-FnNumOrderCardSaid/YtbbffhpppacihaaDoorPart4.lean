/-
  The program's naturalIn: what decimal digits tell, in groups. Condition: the text is a numeral of at most 100,000 digits, and the table of powers stands.
  Plain numbers: groups from a place on, and what they come to. No program is named.
  The program's take and giveBack: another natural taken away so many times from the groups at a place, and added to them. Condition: the groups lie in a block of the call's own, the other natural elsewhere.
  The program's giveBack, and both as numbers; takeMost. Condition: the groups lie in a block of the call's own, the other natural elsewhere.
  The program's takeMost: how often another natural goes into the groups at a place, which keep what is left. Condition: it goes fewer times than a group holds; its greatest group but one is not nought, its greatest is.
-/
import Derived.Test.YtbbffhpppacihaaDoorPart3
import Derived.Deep.RegionLaw
import Derived.Deep.QuietTactic
import Derived.BigQuiet
import Derived.Deep.Draws
namespace Go.Proofs.YtbbffhpppacihaaDoor
open Go.RowKit Go.Siskin

/-- One digit more: its group alone turns. -/
theorem put_digit (M u p d : Nat) (hd : d < 10) : grpN M (10 ^ (p + 1) * u + d * 10 ^ p) = (grpN M (10 ^ (p + 1) * u)).set (p / 9) (10 ^ (p + 1) * u / 1000000000 ^ (p / 9) % 1000000000 + d * 10 ^ (p % 9)) := by
  obtain ⟨q, hq⟩ : ∃ q, p / 9 = q := ⟨_, rfl⟩
  obtain ⟨r, hr⟩ : ∃ r, p % 9 = r := ⟨_, rfl⟩
  have hp : p = 9 * q + r := by omega
  have hr9 : r < 9 := by omega
  rw [hq, hr]

  have e0 : 10 ^ (p + 1) * u + d * 10 ^ p = 10 ^ p * (10 * u + d) := by
    rw [Nat.pow_succ, Nat.mul_add, Nat.mul_comm d, Nat.mul_assoc]
  have e1 : 10 ^ (p + 1) * u = 10 ^ p * (10 * u) := by rw [Nat.pow_succ, Nat.mul_assoc]
  have key : ∀ y k, k < q → 10 ^ p * y / 1000000000 ^ k % 1000000000 = 0 := by
    intro y k hk
    rw [p9k]
    obtain ⟨s, hs⟩ : ∃ s, p = 9 * k + (9 + s) := ⟨p - 9 * k - 9, by omega⟩
    rw [hs, Nat.pow_add, Nat.mul_assoc, Nat.mul_div_cancel_left _ (Nat.pow_pos (by decide)), Nat.pow_add, Nat.mul_assoc, p9, Nat.mul_mod_right]
  have key2 : ∀ k, q < k → 10 ^ p * (10 * u + d) / 1000000000 ^ k = 10 ^ p * (10 * u) / 1000000000 ^ k := by
    intro k hk
    rw [p9k]
    obtain ⟨s, hs⟩ : ∃ s, 9 * k = p + (s + 1) := ⟨9 * k - p - 1, by omega⟩
    rw [hs, Nat.pow_add, ← Nat.div_div_eq_div_mul, ← Nat.div_div_eq_div_mul, Nat.mul_div_cancel_left _ (Nat.pow_pos (by decide)), Nat.mul_div_cancel_left _ (Nat.pow_pos (by decide)), Nat.pow_succ, Nat.mul_comm (10 ^ s), ← Nat.div_div_eq_div_mul, ← Nat.div_div_eq_div_mul]
    congr 1
    omega
  have key3 : 10 ^ p * (10 * u + d) / 1000000000 ^ q % 1000000000 = 10 ^ p * (10 * u) / 1000000000 ^ q % 1000000000 + d * 10 ^ r := by
    rw [p9k, hp, Nat.pow_add, Nat.mul_assoc, Nat.mul_assoc, Nat.mul_div_cancel_left _ (Nat.pow_pos (by decide)), Nat.mul_div_cancel_left _ (Nat.pow_pos (by decide))]
    obtain ⟨s, hs⟩ : ∃ s, 9 = r + (s + 1) := ⟨9 - r - 1, by omega⟩
    rw [p9, hs, Nat.pow_add, Nat.mul_mod_mul_left, Nat.mul_mod_mul_left, Nat.pow_succ, Nat.mul_comm (10 ^ s) 10, Nat.mul_mod_mul_left]
    have e : (10 * u + d) % (10 * 10 ^ s) = 10 * (u % 10 ^ s) + d := by
      rw [Nat.mod_mul]
      have a1 : (10 * u + d) % 10 = d := by omega
      have a2 : (10 * u + d) / 10 = u := by omega
      rw [a1, a2]; omega
    rw [e, Nat.mul_add, Nat.mul_comm (10 ^ r) d]
  rw [e0, e1]
  apply List.ext_getElem
  · simp [grpN]
  · intro k h1 h2
    rw [grpN_get, List.getElem_set]
    by_cases hk : q = k
    · subst hk
      rw [if_pos rfl]; exact key3
    · rw [if_neg hk, grpN_get]
      rcases Nat.lt_or_ge k q with h | h
      · rw [key _ k h, key _ k h]
      · rw [key2 k (by omega)]
/-- What the first digits tell. -/
theorem first_digits {v n i : Nat} (hi : i < n) : v / 10 ^ (n - (i + 1)) * 10 ^ (n - (i + 1)) = 10 ^ (n - 1 - i + 1) * (v / 10 ^ (n - i)) + v / 10 ^ (n - 1 - i) % 10 * 10 ^ (n - 1 - i) ∧ v / 10 ^ (n - i) * 10 ^ (n - i) = 10 ^ (n - 1 - i + 1) * (v / 10 ^ (n - i)) := by
  obtain ⟨k, hk⟩ : ∃ k, n - (i + 1) = k := ⟨_, rfl⟩
  rw [hk, show n - i = k + 1 by omega, show n - 1 - i = k by omega]
  refine ⟨?_, by rw [Nat.mul_comm]⟩
  rw [Nat.pow_succ, ← Nat.div_div_eq_div_mul]
  generalize v / 10 ^ k = y
  have h : y = 10 * (y / 10) + y % 10 := by omega
  have e : 10 ^ k * 10 * (y / 10) = 10 * (y / 10) * 10 ^ k := by rw [Nat.mul_assoc, Nat.mul_comm]
  rw [e, ← Nat.add_mul, ← h]

/-- A block of groups, all of it written by the call. -/
def GrA (w : World) (b : Nat) (ls : List Nat) : Prop := Own w b 80 (numL .u64 ls).toArray
theorem GrA.get {w : World} {b : Nat} {ls : List Nat} (h : GrA w b ls) (i : Nat) (hi : i < ls.length) : w.cell? ⟨b, i, none⟩ = some (.int .u64 (ls[i] : Int)) := by
  rw [Own.cell h i]
  rw [List.getElem?_toArray]
  exact numL_get .u64 ls i hi
theorem GrA.set {w : World} {b : Nat} {ls : List Nat} (h : GrA w b ls) (i x : Nat) : GrA (w.setCell ⟨b, i, none⟩ (.int .u64 (x : Int))) b (ls.set i x) := by
  have := Own.set h i (.int .u64 (x : Int))
  unfold GrA
  rw [numL_set]
  simpa using this
theorem GrA.keep {w w' : World} {b N : Nat} {ls : List Nat} (h : GrA w b ls) (hb : Below N w w') (hN : b < N) : GrA w' b ls := Own.keep h hb hN
theorem GrA.frozen {w : World} {b : Nat} {ls : List Nat} (h : GrA w b ls) (i : Nat) : w.frozen? ⟨b, i, none⟩ = false := Own.frozen h i
theorem GrA.natA {w : World} {b cap : Nat} {ls : List Nat} (h : GrA w b ls) (h1 : ls.length ≤ cap) (h2 : cap ≤ maxLen) : NatA w (.slice (some ⟨b, 0, none⟩) ls.length cap) ls :=
  ⟨some ⟨b, 0, none⟩, cap, rfl, h1, h2, Or.inr ⟨b, 0, rfl, Own.lt h, fun i hi => by rw [Nat.zero_add]; exact h.get i hi⟩⟩
theorem GrA.lt {w : World} {b : Nat} {ls : List Nat} (h : GrA w b ls) : b < w.heap.size := Own.lt h
theorem made_zero (w : World) (n : Nat) : GrA (w.alloc (.cells (madeCells #[Value.int .u64 0] n) 80)) w.heap.size (grpN n 0) := by
  have h := own_new w (madeCells #[Value.int .u64 0] n) 80
  unfold GrA
  have e : (numL .u64 (grpN n 0)).toArray = madeCells #[Value.int .u64 0] n := by
    apply Array.ext
    · simp [numL, grpN, size_madeCells]
    · intro i h1 h2
      simp [numL, grpN, madeCells, Nat.mod_one]
  rw [e]; exact h
end Go.Proofs.YtbbffhpppacihaaDoor

namespace Go.Siskin

/-- What j groups from place i on come to. -/
def ga (ls : List Nat) (i : Nat) : Nat → Nat
  | 0 => 0
  | j + 1 => ga ls i j + ls.getD (i + j) 0 * 1000000000 ^ j
theorem ga_congr {ls ls' : List Nat} {i : Nat} : ∀ {j : Nat}, (∀ k, k < j → ls.getD (i + k) 0 = ls'.getD (i + k) 0) → ga ls i j = ga ls' i j
  | 0, _ => rfl
  | j + 1, h => by rw [ga, ga, ga_congr (j := j) (fun k hk => h k (by omega)), h j (by omega)]
theorem ga_lt {ls : List Nat} {i : Nat} (h : ∀ k, ls.getD k 0 < 1000000000) : ∀ j, ga ls i j < 1000000000 ^ j
  | 0 => by simp [ga]
  | j + 1 => by
    have h1 := ga_lt h (i := i) j
    have h2 := h (i + j)
    rw [ga, Nat.pow_succ]
    generalize 1000000000 ^ j = P at *
    have h3 : ls.getD (i + j) 0 * P ≤ 999999999 * P := Nat.mul_le_mul_right _ (by omega)
    omega
theorem ga_zero {ls : List Nat} {i : Nat} : ∀ {j : Nat}, (∀ k, k < j → ls.getD (i + k) 0 = 0) → ga ls i j = 0
  | 0, _ => rfl
  | j + 1, h => by rw [ga, ga_zero (j := j) (fun k hk => h k (by omega)), h j (by omega)]; simp
theorem ga_split (ls : List Nat) (i j : Nat) : ∀ k, ga ls i (j + k) = ga ls i j + 1000000000 ^ j * ga ls (i + j) k
  | 0 => by simp [ga]
  | k + 1 => by
    rw [← Nat.add_assoc, ga, ga_split ls i j k, ga, Nat.pow_add, Nat.mul_add, Nat.add_assoc i j k]
    have : ls.getD (i + (j + k)) 0 * (1000000000 ^ j * 1000000000 ^ k) = 1000000000 ^ j * (ls.getD (i + (j + k)) 0 * 1000000000 ^ k) := by ac_rfl
    omega
theorem ga_get {ls : List Nat} {i : Nat} (h : ∀ k, ls.getD k 0 < 1000000000) : ∀ (j k : Nat), k < j → ga ls i j / 1000000000 ^ k % 1000000000 = ls.getD (i + k) 0
  | j + 1, k, hk => by
    have hlt := ga_lt h (i := i) j
    rw [ga]
    by_cases e : k = j
    · subst e
      rw [Nat.add_mul_div_right _ _ (p9pos k), Nat.div_eq_of_lt hlt, Nat.zero_add, Nat.mod_eq_of_lt (h (i + k))]
    · have hk' : k < j := by omega
      have ih := ga_get h (i := i) j k hk'
      obtain ⟨s, hs⟩ : ∃ s, j = k + (s + 1) := ⟨j - k - 1, by omega⟩
      rw [hs] at ih ⊢
      have e2 : ls.getD (i + (k + (s + 1))) 0 * 1000000000 ^ (k + (s + 1)) = (1000000000 * (ls.getD (i + (k + (s + 1))) 0 * 1000000000 ^ s)) * 1000000000 ^ k := by
        rw [Nat.pow_add, Nat.pow_succ]; ac_rfl
      rw [e2, Nat.add_mul_div_right _ _ (p9pos k), Nat.add_mul_mod_self_left]
      exact ih
theorem getD_grpN (M V k : Nat) : (grpN M V).getD k 0 = if k < M then V / 1000000000 ^ k % 1000000000 else 0 := by
  by_cases h : k < M
  · rw [if_pos h, List.getD_eq_getElem?_getD, List.getElem?_eq_getElem (by rw [grpN_length]; exact h), grpN_get]; rfl
  · rw [if_neg h, List.getD_eq_getElem?_getD, List.getElem?_eq_none (by rw [grpN_length]; omega)]; rfl
theorem grpN_small (M V k : Nat) : (grpN M V).getD k 0 < 1000000000 := by
  rw [getD_grpN]
  split
  · exact Nat.mod_lt _ (by decide)
  · decide
theorem ga_grpN (M V i : Nat) : ∀ j, i + j ≤ M → ga (grpN M V) i j = V / 1000000000 ^ i % 1000000000 ^ j
  | 0, _ => by simp [ga, Nat.mod_one]
  | j + 1, h => by
    rw [ga, ga_grpN M V i j (by omega), getD_grpN, if_pos (by omega), Nat.mod_pow_succ, Nat.pow_add, ← Nat.div_div_eq_div_mul, Nat.mul_comm]
theorem grpN_of {ls : List Nat} {M : Nat} (hl : ls.length = M) (h : ∀ k, ls.getD k 0 < 1000000000) : ls = grpN M (ga ls 0 M) := by
  apply List.ext_getElem
  · rw [grpN_length, hl]
  · intro k h1 h2
    rw [grpN_get, ga_get h M k (by omega), Nat.zero_add, List.getD_eq_getElem?_getD, List.getElem?_eq_getElem h1]; rfl
/-- A list of which only some groups have turned. -/
theorem grpN_turned {ls : List Nat} {M V i mm : Nat} (hl : ls.length = M) (h : ∀ k, ls.getD k 0 < 1000000000) (him : i + mm ≤ M) (hV : V < 1000000000 ^ (i + mm))
    (hout : ∀ k, k < i ∨ i + mm ≤ k → ls.getD k 0 = (grpN M V).getD k 0) : ls = grpN M (V % 1000000000 ^ i + 1000000000 ^ i * ga ls i mm) := by
  have e := grpN_of hl h
  have e1 : ga ls 0 M = V % 1000000000 ^ i + 1000000000 ^ i * ga ls i mm := by
    obtain ⟨r, hr⟩ : ∃ r, M = i + (mm + r) := ⟨M - i - mm, by omega⟩
    have hz : ga ls (i + mm) r = 0 := ga_zero fun k hk => by
      rw [hout _ (Or.inr (by omega)), getD_grpN]
      split
      · rw [Nat.div_eq_of_lt (Nat.lt_of_lt_of_le hV (Nat.pow_le_pow_right (by decide) (by omega)))]
      · rfl
    have h0 : ga ls 0 i = V % 1000000000 ^ i := by
      have h1 := ga_grpN M V 0 i (by omega)
      rw [Nat.pow_zero, Nat.div_one] at h1
      rw [← h1]
      exact ga_congr fun k hk => hout _ (Or.inl (by omega))
    rw [hr, ga_split, Nat.zero_add, ga_split, hz, h0, Nat.mul_zero, Nat.add_zero]
  rw [e1] at e
  exact e
theorem getD_set {ls : List Nat} {p x k : Nat} (hp : p < ls.length) : (ls.set p x).getD k 0 = if k = p then x else ls.getD k 0 := by
  rw [List.getD_eq_getElem?_getD, List.getElem?_set]
  by_cases h : k = p
  · subst h; rw [if_pos rfl, if_pos hp, if_pos rfl]; rfl
  · rw [if_neg (by omega), if_neg h, List.getD_eq_getElem?_getD]
theorem ga_set_past {ls : List Nat} {i k x : Nat} (hp : i + k < ls.length) : ga (ls.set (i + k) x) i (k + 1) = ga ls i k + x * 1000000000 ^ k := by
  rw [ga, getD_set hp, if_pos rfl]
  congr 1
  exact ga_congr fun t ht => by rw [getD_set hp, if_neg (by omega)]
theorem take_step {A S L ow g T x y z c P : Nat} (h : A + T * S = L + ow * P) (hz : ow + g * T = z) (hy : y + z % 1000000000 = x + c * 1000000000) :
    A + y * P + T * (S + g * P) = L + x * P + (z / 1000000000 + c) * (P * 1000000000) := by
  have h1 : y + z = x + (z / 1000000000 + c) * 1000000000 := by rw [Nat.add_mul]; omega
  have h2 : (y + z) * P = (x + (z / 1000000000 + c) * 1000000000) * P := by rw [h1]
  have h3 : (z / 1000000000 + c) * (P * 1000000000) = (z / 1000000000 + c) * 1000000000 * P := by ac_rfl
  have h4 : T * (g * P) = g * T * P := by ac_rfl
  rw [Nat.add_mul, Nat.add_mul x] at h2
  rw [h3, Nat.mul_add, h4]
  have h5 : z * P = ow * P + g * T * P := by rw [← hz, Nat.add_mul]
  omega
end Go.Siskin

namespace Go.Proofs.YtbbffhpppacihaaDoor
open Go.RowKit Go.Siskin

/-- Only block b has been written. -/
def Wr (b : Nat) (w w' : World) : Prop := Below b w w' ∧ SameOn (fun k => k ≠ b) w w' ∧ w'.heap.size = w.heap.size
theorem Wr.refl (b : Nat) (w : World) : Wr b w w := ⟨Below.refl _ _, SameOn.refl _ _, rfl⟩
theorem Wr.trans {b : Nat} {w w1 w2 : World} (h : Wr b w w1) (k : Wr b w1 w2) : Wr b w w2 := ⟨h.1.trans k.1, h.2.1.trans k.2.1, k.2.2.trans h.2.2⟩
theorem Wr.set {b : Nat} {w w1 : World} (h : Wr b w w1) (i : Nat) (u : Value) : Wr b w (w1.setCell ⟨b, i, none⟩ u) :=
  ⟨h.1.setCell (p := ⟨b, i, none⟩) (Nat.le_refl _) _, h.2.1.setCell (p := ⟨b, i, none⟩) (fun h => h rfl) _, by simp [World.setCell]; exact h.2.2⟩
theorem Wr.drew {b : Nat} {w w1 : World} (h : Wr b w w1) : Wr b w w1.drew := ⟨h.1.drew, h.2.1, h.2.2⟩
theorem GrA.small {ls : List Nat} (h : ∀ k, ls.getD k 0 < 1000000000) (i : Nat) (hi : i < ls.length) : ls[i] < 1000000000 := by
  have := h i
  rw [List.getD_eq_getElem?_getD, List.getElem?_eq_getElem hi] at this
  exact this
theorem getD_of {ls : List Nat} (i : Nat) (hi : i < ls.length) : ls[i] = ls.getD i 0 := by
  rw [List.getD_eq_getElem?_getD, List.getElem?_eq_getElem hi]; rfl

set_option maxRecDepth 20000 in
set_option maxHeartbeats 2000000 in
theorem take_list (M V s b i mm nl nc T : Nat) (vs : Value) (w : World) (hG : GrA w b (grpN M V)) (hs : RowOf .u64 (fun k => k ≠ b) w vs (grpN mm s)) (him : i + mm ≤ M) (hnl : mm ≤ nl) (hnc : nl ≤ nc) (hncm : nc ≤ 1000000) (hT : T < 1000000000) :
    Calls Tryd.prog 117 #[.slice (some ⟨b, i, none⟩) nl nc, vs, .int .u64 T] w fun e w' => ∃ (ls : List Nat) (ow : Nat), e = .returned (.bool (decide (0 < ow))) ∧ GrA w' b ls ∧ ls.length = M ∧ (∀ k, ls.getD k 0 < 1000000000) ∧
      (∀ k, k < i ∨ i + mm ≤ k → ls.getD k 0 = (grpN M V).getD k 0) ∧ ga ls i mm + T * ga (grpN mm s) 0 mm = ga (grpN M V) i mm + ow * 1000000000 ^ mm ∧ Wr b w w' := by
  obtain ⟨sa, sc, rfl, q1, q2, q3⟩ := hs
  rw [grpN_length] at *
  unfold maxLen at q2
  have HG := hid hG
  have HS : Hid (∀ wr, Wr b w wr → ∀ k, k < mm → ∃ b' o', sa = some ⟨b', o', none⟩ ∧ wr.cell? ⟨b', o' + k, none⟩ = some (.int .u64 (((grpN mm s).getD k 0 : Nat) : Int))) := by
    intro wr hb k hk
    rcases q3 with h | ⟨b', o', e, hne, hc⟩
    · have := congrArg List.length h; rw [grpN_length] at this; simp at this; omega
    · refine ⟨b', o', e, ?_⟩
      rw [SameOn.cell (R := fun k => k ≠ b) hb.2.1 hne (o' + k), hc k (by rw [grpN_length]; exact hk), getD_of k (by rw [grpN_length]; exact hk)]
  have HTT := hid hT
  clear hG q3
  go_enter Tryd.func117, Tryd.ntmps117
  go_wp2_with fail
  go_loopw [7, 13] (fun o j wr => ∃ (k ow : Nat) (ls : List Nat), j = .int .i64 k ∧ o = .int .u64 ow ∧ k ≤ mm ∧ ow ≤ 1000000000 ∧ Hid (GrA wr b ls) ∧ Hid (ls.length = M) ∧ Hid (∀ k, ls.getD k 0 < 1000000000) ∧
      Hid (∀ t, t < i ∨ i + k ≤ t → ls.getD t 0 = (grpN M V).getD t 0) ∧ Hid (ga ls i k + T * ga (grpN mm s) 0 k = ga (grpN M V) i k + ow * 1000000000 ^ k) ∧ Hid (Wr b w wr)) (fun _ j _ => mm - (intOf j).toNat)
  case atStart => exact ⟨0, 0, _, rfl, rfl, Nat.zero_le _, Nat.zero_le _, HG.out, grpN_length _ _, grpN_small M V, fun _ _ => rfl, by show _ = _; simp [ga], Wr.refl _ _⟩
  case round =>
    obtain ⟨k, ow, ls, rfl, rfl, hk, how, HL, HLen, HSm, HOut, HEq, HW⟩ := hrel
    by_cases hlt : k < mm
    · obtain ⟨b', o', hab, g0⟩ := HS.out wr HW.out k hlt
      subst hab
      obtain ⟨g, HGg⟩ : ∃ g : Nat, Hid ((grpN mm s).getD k 0 = g) := ⟨_, rfl⟩
      have hg9 : g < 1000000000 := by rw [← HGg.out]; exact grpN_small mm s k
      rw [HGg.out] at g0
      have hik : i + k < ls.length := by rw [HLen.out]; omega
      have g1 := HL.out.get (i + k) hik
      have f1 := HL.out.frozen (i + k)
      obtain ⟨x, HX⟩ : ∃ x : Nat, Hid (ls.getD (i + k) 0 = x) := ⟨_, rfl⟩
      have hx9 : x < 1000000000 := by rw [← HX.out]; exact HSm.out _
      have HXV : Hid ((grpN M V).getD (i + k) 0 = x) := by show _ = _; rw [← HX.out]; exact (HOut.out (i + k) (Or.inr (Nat.le_refl _))).symm
      rw [getD_of (i + k) hik, HX.out] at g1
      obtain ⟨z, HZ⟩ : ∃ z : Nat, Hid (ow + g * T = z) := ⟨_, rfl⟩
      have hgT : g * T ≤ 999999999 * 999999999 := Nat.mul_le_mul (by omega) (by have := HTT.out; omega)
      have hzl : z ≤ 1000000000000000000 := by rw [← HZ.out]; omega
      have hzo : z / 1000000000 + 1 ≤ 1000000000 := by rw [← HZ.out]; omega
      have hval : IntKind.u64.wrap ((ow : Int) + IntKind.u64.wrap ((g : Int) * (T : Int))) = (z : Int) := by
        have e4 : (g : Int) * (T : Int) = ((g * T : Nat) : Int) := by simp
        rw [e4]
        have hz := HZ.out
        generalize g * T = q at *
        have e5 : IntKind.u64.wrap (q : Int) = (q : Int) := by simp [IntKind.wrap, IntKind.bits, IntKind.signed]; omega
        rw [e5]
        simp [IntKind.wrap, IntKind.bits, IntKind.signed]; omega
      obtain ⟨low, HLow⟩ : ∃ low : Nat, Hid (z % 1000000000 = low) := ⟨_, rfl⟩
      obtain ⟨ov, HOv⟩ : ∃ ov : Nat, Hid (z / 1000000000 = ov) := ⟨_, rfl⟩
      have hl9 : low < 1000000000 := by rw [← HLow.out]; exact Nat.mod_lt _ (by decide)
      have hov : ov + 1 ≤ 1000000000 := by rw [← HOv.out]; exact hzo
      have hw1 : (z : Int) % 1000000000 = (low : Int) := by have := HLow.out; omega
      have hw2 : (z : Int) / 1000000000 = (ov : Int) := by have := HOv.out; omega
      have HStep := hid (fun (y c : Nat) (hy : y + z % 1000000000 = x + c * 1000000000) => take_step (y := y) (c := c) HEq.out HZ.out hy)
      rw [HLow.out, HOv.out] at HStep
      have hnlI : (k : Int) < (nl : Int) := by omega
      have HRest : Hid (∀ y c : Nat, y + low = x + c * 1000000000 → y < 1000000000 → (∀ t, (ls.set (i + k) y).getD t 0 < 1000000000) ∧ (∀ t, t < i ∨ i + (k + 1) ≤ t → (ls.set (i + k) y).getD t 0 = (grpN M V).getD t 0) ∧
          ga (ls.set (i + k) y) i (k + 1) + T * ga (grpN mm s) 0 (k + 1) = ga (grpN M V) i (k + 1) + (ov + c) * 1000000000 ^ (k + 1)) := by
        intro y c hy hy9
        refine ⟨fun t => ?_, fun t ht => ?_, ?_⟩
        · rw [getD_set hik]; split
          · exact hy9
          · exact HSm.out t
        · rw [getD_set hik, if_neg (by omega)]; exact HOut.out t (by omega)
        · rw [ga_set_past hik, ga, ga, Nat.zero_add, HGg.out, HXV.out, Nat.pow_succ]
          exact HStep.out y c hy
      clear hgT
      by_cases hless : x < low
      · obtain ⟨y, HYy⟩ : ∃ y : Nat, Hid (x + 1000000000 - low = y) := ⟨_, rfl⟩
        have hyI : (x : Int) + 1000000000 - (low : Int) = (y : Int) := by have := HYy.out; omega
        have hy9 : y < 1000000000 := by have := HYy.out; omega
        have HR := hid (HRest.out y 1 (by have := HYy.out; omega) hy9)
        go_wp2_with fail
        refine ⟨⟨k + 1, ov + 1, ls.set (i + k) y, by go_num, by go_num, by omega, by omega, ?_, by show _ = _; rw [List.length_set]; exact HLen.out, HR.out.1, HR.out.2.1, HR.out.2.2, (HW.out.set (i + k) _).set (i + k) _⟩, by simp [intOf]; omega⟩
        show GrA _ _ _
        have h := (HL.out.set (i + k) (x + 1000000000)).set (i + k) y
        rw [List.set_set] at h
        simpa using h
      · obtain ⟨y, HYy⟩ : ∃ y : Nat, Hid (x - low = y) := ⟨_, rfl⟩
        have hyI : (x : Int) - (low : Int) = (y : Int) := by have := HYy.out; omega
        have hy9 : y < 1000000000 := by have := HYy.out; omega
        have HR := hid (HRest.out y 0 (by have := HYy.out; omega) hy9)
        go_wp2_with fail
        refine ⟨⟨k + 1, ov, ls.set (i + k) y, by go_num, rfl, by omega, by omega, ?_, by show _ = _; rw [List.length_set]; exact HLen.out, HR.out.1, HR.out.2.1, HR.out.2.2, HW.out.set (i + k) _⟩, by simp [intOf]; omega⟩
        show GrA _ _ _
        exact HL.out.set (i + k) y
    · have hkm : k = mm := by omega
      subst hkm
      go_wp2_with fail
      go_ret
      exact ⟨ls, ow, ret_boolz (by simp), HL.out, HLen.out, HSm.out, HOut.out, HEq.out, HW.out⟩
end Go.Proofs.YtbbffhpppacihaaDoor

namespace Go.Proofs.YtbbffhpppacihaaDoor
open Go.RowKit Go.Siskin

theorem give_step {A S L ca g x z P : Nat} (h : A + ca * P = L + S) (hz : ca + (x + g) = z) :
    A + z % 1000000000 * P + z / 1000000000 * (P * 1000000000) = L + x * P + (S + g * P) := by
  have h2 : z * P = ca * P + x * P + g * P := by rw [← hz, Nat.add_mul, Nat.add_mul, Nat.add_assoc]
  have h3 : z / 1000000000 * (P * 1000000000) = 1000000000 * (z / 1000000000) * P := by ac_rfl
  have h4 : (z % 1000000000 + 1000000000 * (z / 1000000000)) * P = z * P := by rw [Nat.mod_add_div]
  rw [Nat.add_mul] at h4
  rw [h3]
  omega

set_option maxRecDepth 20000 in
set_option maxHeartbeats 2000000 in
theorem give_list (M V s b i mm nl nc : Nat) (vs : Value) (w : World) (hG : GrA w b (grpN M V)) (hs : RowOf .u64 (fun k => k ≠ b) w vs (grpN mm s)) (him : i + mm ≤ M) (hnl : mm ≤ nl) (hnc : nl ≤ nc) (hncm : nc ≤ 1000000) :
    Calls Tryd.prog 118 #[.slice (some ⟨b, i, none⟩) nl nc, vs] w fun e w' => ∃ (ls : List Nat) (ca : Nat), e = .returned (.bool (decide (0 < ca))) ∧ GrA w' b ls ∧ ls.length = M ∧ (∀ k, ls.getD k 0 < 1000000000) ∧
      (∀ k, k < i ∨ i + mm ≤ k → ls.getD k 0 = (grpN M V).getD k 0) ∧ ga ls i mm + ca * 1000000000 ^ mm = ga (grpN M V) i mm + ga (grpN mm s) 0 mm ∧ Wr b w w' := by
  obtain ⟨sa, sc, rfl, q1, q2, q3⟩ := hs
  rw [grpN_length] at *
  unfold maxLen at q2
  have HG := hid hG
  have HS : Hid (∀ wr, Wr b w wr → ∀ k, k < mm → ∃ b' o', sa = some ⟨b', o', none⟩ ∧ wr.cell? ⟨b', o' + k, none⟩ = some (.int .u64 (((grpN mm s).getD k 0 : Nat) : Int))) := by
    intro wr hb k hk
    rcases q3 with h | ⟨b', o', e, hne, hc⟩
    · have := congrArg List.length h; rw [grpN_length] at this; simp at this; omega
    · refine ⟨b', o', e, ?_⟩
      rw [SameOn.cell (R := fun k => k ≠ b) hb.2.1 hne (o' + k), hc k (by rw [grpN_length]; exact hk), getD_of k (by rw [grpN_length]; exact hk)]
  clear hG q3
  go_enter Tryd.func118, Tryd.ntmps118
  go_wp2_with fail
  go_loopw [5, 10] (fun o j wr => ∃ (k ow : Nat) (ls : List Nat), j = .int .i64 k ∧ o = .int .u64 ow ∧ k ≤ mm ∧ ow ≤ 2 ∧ Hid (GrA wr b ls) ∧ Hid (ls.length = M) ∧ Hid (∀ k, ls.getD k 0 < 1000000000) ∧
      Hid (∀ t, t < i ∨ i + k ≤ t → ls.getD t 0 = (grpN M V).getD t 0) ∧ Hid (ga ls i k + ow * 1000000000 ^ k = ga (grpN M V) i k + ga (grpN mm s) 0 k) ∧ Hid (Wr b w wr)) (fun _ j _ => mm - (intOf j).toNat)
  case atStart => exact ⟨0, 0, _, rfl, rfl, Nat.zero_le _, Nat.zero_le _, HG.out, grpN_length _ _, grpN_small M V, fun _ _ => rfl, by show _ = _; simp [ga], Wr.refl _ _⟩
  case round =>
    obtain ⟨k, ow, ls, rfl, rfl, hk, how, HL, HLen, HSm, HOut, HEq, HW⟩ := hrel
    by_cases hlt : k < mm
    · obtain ⟨b', o', hab, g0⟩ := HS.out wr HW.out k hlt
      subst hab
      obtain ⟨g, HGg⟩ : ∃ g : Nat, Hid ((grpN mm s).getD k 0 = g) := ⟨_, rfl⟩
      have hg9 : g < 1000000000 := by rw [← HGg.out]; exact grpN_small mm s k
      rw [HGg.out] at g0
      have hik : i + k < ls.length := by rw [HLen.out]; omega
      have g1 := HL.out.get (i + k) hik
      have f1 := HL.out.frozen (i + k)
      obtain ⟨x, HX⟩ : ∃ x : Nat, Hid (ls.getD (i + k) 0 = x) := ⟨_, rfl⟩
      have hx9 : x < 1000000000 := by rw [← HX.out]; exact HSm.out _
      have HXV : Hid ((grpN M V).getD (i + k) 0 = x) := by show _ = _; rw [← HX.out]; exact (HOut.out (i + k) (Or.inr (Nat.le_refl _))).symm
      rw [getD_of (i + k) hik, HX.out] at g1
      obtain ⟨z, HZ⟩ : ∃ z : Nat, Hid (ow + (x + g) = z) := ⟨_, rfl⟩
      have hzl : z ≤ 2000000000 := by rw [← HZ.out]; omega
      have hzI : (ow : Int) + ((x : Int) + (g : Int)) = (z : Int) := by have := HZ.out; omega
      obtain ⟨low, HLow⟩ : ∃ low : Nat, Hid (z % 1000000000 = low) := ⟨_, rfl⟩
      obtain ⟨ov, HOv⟩ : ∃ ov : Nat, Hid (z / 1000000000 = ov) := ⟨_, rfl⟩
      have hl9 : low < 1000000000 := by rw [← HLow.out]; exact Nat.mod_lt _ (by decide)
      have hov : ov ≤ 2 := by rw [← HOv.out]; omega
      have hw1 : (z : Int) % 1000000000 = (low : Int) := by have := HLow.out; omega
      have hw2 : (z : Int) / 1000000000 = (ov : Int) := by have := HOv.out; omega
      have HStep := hid (give_step HEq.out HZ.out)
      rw [HLow.out, HOv.out] at HStep
      have hnlI : (k : Int) < (nl : Int) := by omega
      have HR : Hid ((∀ t, (ls.set (i + k) low).getD t 0 < 1000000000) ∧ (∀ t, t < i ∨ i + (k + 1) ≤ t → (ls.set (i + k) low).getD t 0 = (grpN M V).getD t 0) ∧
          ga (ls.set (i + k) low) i (k + 1) + ov * 1000000000 ^ (k + 1) = ga (grpN M V) i (k + 1) + ga (grpN mm s) 0 (k + 1)) := by
        refine ⟨fun t => ?_, fun t ht => ?_, ?_⟩
        · rw [getD_set hik]; split
          · exact hl9
          · exact HSm.out t
        · rw [getD_set hik, if_neg (by omega)]; exact HOut.out t (by omega)
        · rw [ga_set_past hik, ga, ga, Nat.zero_add, HGg.out, HXV.out, Nat.pow_succ]
          exact HStep.out
      go_wp2_with fail
      refine ⟨⟨k + 1, ov, ls.set (i + k) low, by go_num, by first | rfl | (congr 1), by omega, by omega, ?_, by show _ = _; rw [List.length_set]; exact HLen.out, HR.out.1, HR.out.2.1, HR.out.2.2, HW.out.set (i + k) _⟩, by simp [intOf]; omega⟩
      show GrA _ _ _
      exact HL.out.set (i + k) low
    · have hkm : k = mm := by omega
      subst hkm
      go_wp2_with fail
      go_ret
      exact ⟨ls, ow, ret_boolz (by simp), HL.out, HLen.out, HSm.out, HOut.out, HEq.out, HW.out⟩

/-- take, as numbers. -/
theorem take_any (M V s b i mm nl nc T : Nat) (vs : Value) (w : World) (hG : GrA w b (grpN M V)) (hs : RowOf .u64 (fun k => k ≠ b) w vs (grpN mm s)) (him : i + mm ≤ M) (hnl : mm ≤ nl) (hnc : nl ≤ nc) (hncm : nc ≤ 1000000) (hT : T < 1000000000)
    (hV : V < 1000000000 ^ (i + mm)) (hsl : s < 1000000000 ^ mm) :
    Calls Tryd.prog 117 #[.slice (some ⟨b, i, none⟩) nl nc, vs, .int .u64 T] w fun e w' => ∃ (Y ow : Nat), e = .returned (.bool (decide (0 < ow))) ∧ GrA w' b (grpN M (V % 1000000000 ^ i + 1000000000 ^ i * Y)) ∧ Y < 1000000000 ^ mm ∧
      Y + T * s = V / 1000000000 ^ i + ow * 1000000000 ^ mm ∧ Wr b w w' := by
  refine (take_list M V s b i mm nl nc T vs w hG hs him hnl hnc hncm hT).mono ?_
  rintro e w' ⟨ls, ow, rfl, h1, h2, h3, h4, h5, h6⟩
  refine ⟨ga ls i mm, ow, rfl, ?_, ga_lt h3 mm, ?_, h6⟩
  · rw [← grpN_turned h2 h3 him hV h4]; exact h1
  · rw [ga_grpN M V i mm him, ga_grpN mm s 0 mm (by omega), Nat.pow_zero, Nat.div_one, Nat.mod_eq_of_lt hsl, Nat.mod_eq_of_lt (Nat.div_lt_of_lt_mul (by rw [← Nat.pow_add]; exact hV))] at h5
    exact h5
/-- giveBack, as numbers. -/
theorem give_any (M V s b i mm nl nc : Nat) (vs : Value) (w : World) (hG : GrA w b (grpN M V)) (hs : RowOf .u64 (fun k => k ≠ b) w vs (grpN mm s)) (him : i + mm ≤ M) (hnl : mm ≤ nl) (hnc : nl ≤ nc) (hncm : nc ≤ 1000000)
    (hV : V < 1000000000 ^ (i + mm)) (hsl : s < 1000000000 ^ mm) :
    Calls Tryd.prog 118 #[.slice (some ⟨b, i, none⟩) nl nc, vs] w fun e w' => ∃ (Y ca : Nat), e = .returned (.bool (decide (0 < ca))) ∧ GrA w' b (grpN M (V % 1000000000 ^ i + 1000000000 ^ i * Y)) ∧ Y < 1000000000 ^ mm ∧
      Y + ca * 1000000000 ^ mm = V / 1000000000 ^ i + s ∧ Wr b w w' := by
  refine (give_list M V s b i mm nl nc vs w hG hs him hnl hnc hncm).mono ?_
  rintro e w' ⟨ls, ow, rfl, h1, h2, h3, h4, h5, h6⟩
  refine ⟨ga ls i mm, ow, rfl, ?_, ga_lt h3 mm, ?_, h6⟩
  · rw [← grpN_turned h2 h3 him hV h4]; exact h1
  · rw [ga_grpN M V i mm him, ga_grpN mm s 0 mm (by omega), Nat.pow_zero, Nat.div_one, Nat.mod_eq_of_lt hsl, Nat.mod_eq_of_lt (Nat.div_lt_of_lt_mul (by rw [← Nat.pow_add]; exact hV))] at h5
    exact h5
end Go.Proofs.YtbbffhpppacihaaDoor

namespace Go.Proofs.YtbbffhpppacihaaDoor
open Go.RowKit Go.Siskin

/-- The guess is not too small. -/
theorem guess_ge {X s m a1 a0 h : Nat} (hm : 0 < m) (hX : X < 1000000000 * s) (hs : s < 1000000000 ^ m) (h1 : X / 1000000000 ^ m % 1000000000 = a1) (h0 : X / 1000000000 ^ (m - 1) % 1000000000 = a0) (hh : s / 1000000000 ^ (m - 1) % 1000000000 = h) (hpos : 1000000000 ^ (m - 1) ≤ s) :
    0 < h ∧ X / s ≤ (a1 * 1000000000 + a0) / h ∧ X / s ≤ 999999999 := by
  obtain ⟨k, rfl⟩ : ∃ k, m = k + 1 := ⟨m - 1, by omega⟩
  rw [Nat.add_sub_cancel] at *
  have hP := p9pos k
  rw [Nat.pow_succ] at hs h1
  have hs2 : s / 1000000000 ^ k < 1000000000 := Nat.div_lt_of_lt_mul hs
  rw [Nat.mod_eq_of_lt hs2] at hh
  have hspos : 0 < s := by omega
  have hh0 : 0 < h := by rw [← hh]; exact Nat.div_pos hpos hP
  rw [← Nat.div_div_eq_div_mul] at h1
  have hXk : X / 1000000000 ^ k = a1 * 1000000000 + a0 := by
    have h2 : X / 1000000000 ^ k / 1000000000 < 1000000000 := by
      refine Nat.div_lt_of_lt_mul (Nat.div_lt_of_lt_mul ?_)
      have : 1000000000 * s ≤ 1000000000 * (1000000000 ^ k * 1000000000) := Nat.mul_le_mul_left _ (Nat.le_of_lt hs)
      have e : 1000000000 ^ k * (1000000000 * 1000000000) = 1000000000 * (1000000000 ^ k * 1000000000) := by ac_rfl
      omega
    rw [Nat.mod_eq_of_lt h2] at h1
    rw [← h1, ← h0]; omega
  refine ⟨hh0, ?_, ?_⟩
  · rw [← hXk, Nat.div_div_eq_div_mul]
    refine Nat.div_le_div_left ?_ (Nat.mul_pos hP hh0)
    rw [← hh]; exact Nat.mul_div_le s _
  · have := Nat.div_lt_of_lt_mul (show X < s * 1000000000 by rw [Nat.mul_comm]; exact hX)
    omega

theorem ow_le {G s m Y X ow : Nat} (hG : G ≤ 999999999) (hs : s < 1000000000 ^ m) (h : Y + G * s = X + ow * 1000000000 ^ (m + 1)) (hY : Y < 1000000000 ^ (m + 1)) : ow ≤ 1 := by
  rw [Nat.pow_succ] at *
  generalize 1000000000 ^ m = P at *
  have h1 : G * s ≤ 999999999 * P := Nat.mul_le_mul hG (Nat.le_of_lt hs)
  rcases Nat.lt_or_ge ow 2 with h2 | h2
  · omega
  · exfalso
    have h3 : 2 * (P * 1000000000) ≤ ow * (P * 1000000000) := Nat.mul_le_mul_right _ h2
    omega
theorem low_high (V i Y : Nat) : (V % 1000000000 ^ i + 1000000000 ^ i * Y) / 1000000000 ^ i = Y ∧ (V % 1000000000 ^ i + 1000000000 ^ i * Y) % 1000000000 ^ i = V % 1000000000 ^ i := by
  have hP := p9pos i
  have hl := Nat.mod_lt V hP
  generalize 1000000000 ^ i = P at *
  constructor
  · rw [Nat.add_mul_div_left _ _ hP, Nat.div_eq_of_lt hl, Nat.zero_add]
  · rw [Nat.add_mul_mod_self_left, Nat.mod_eq_of_lt hl]
theorem low_lt {V i Y mm : Nat} (hY : Y < 1000000000 ^ mm) : V % 1000000000 ^ i + 1000000000 ^ i * Y < 1000000000 ^ (i + mm) := by
  have hl := Nat.mod_lt V (p9pos i)
  rw [Nat.pow_add]
  generalize 1000000000 ^ i = P at *
  have h := Nat.mul_le_mul_left P (Nat.succ_le_of_lt hY)
  rw [Nat.succ_eq_add_one, Nat.mul_add, Nat.mul_one] at h
  omega
theorem give_down {Y g s X Q : Nat} (h : Y + g * s = X + 1 * Q) (hY : Y < Q) : 1 ≤ g ∧ X / s ≤ g - 1 := by
  have h1 : X < g * s := by omega
  have hg : 1 ≤ g := by
    rcases Nat.eq_zero_or_pos g with h2 | h2
    · subst h2; rw [Nat.zero_mul] at h1; omega
    · exact h2
  refine ⟨hg, ?_⟩
  have := Nat.div_lt_of_lt_mul (show X < s * g by rw [Nat.mul_comm]; exact h1)
  omega
theorem ca_le {Y2 ca Q Y s : Nat} (h : Y2 + ca * Q = Y + s) (hY : Y < Q) (hs : s < Q) : ca ≤ 1 := by
  rcases Nat.lt_or_ge ca 2 with h2 | h2
  · omega
  · exfalso
    have h3 : 2 * Q ≤ ca * Q := Nat.mul_le_mul_right _ h2
    omega
theorem give_eq {Y2 ca Q Y s g X : Nat} (h : Y + g * s = X + 1 * Q) (h2 : Y2 + ca * Q = Y + s) (hg : 1 ≤ g) (hca : ca ≤ 1) : Y2 + (g - 1) * s = X + (1 - ca) * Q := by
  obtain ⟨k, rfl⟩ : ∃ k, g = k + 1 := ⟨g - 1, by omega⟩
  rw [Nat.add_sub_cancel]
  rw [Nat.add_mul, Nat.one_mul] at h
  rcases Nat.lt_or_ge ca 1 with h3 | h3
  · have : ca = 0 := by omega
    subst this
    rw [Nat.zero_mul] at h2
    rw [Nat.sub_zero]; omega
  · have : ca = 1 := by omega
    subst this
    rw [Nat.sub_self, Nat.zero_mul]; omega
theorem most_end {Y g s X : Nat} (h : Y + g * s = X) (hg : X / s ≤ g) (hs : 0 < s) : X / s = g ∧ X % s = Y := by
  have h1 : g ≤ X / s := (Nat.le_div_iff_mul_le hs).2 (by omega)
  have h2 : X / s = g := by omega
  refine ⟨h2, ?_⟩
  have h3 := Nat.div_add_mod X s
  rw [h2, Nat.mul_comm] at h3
  omega

set_option maxRecDepth 20000 in
set_option maxHeartbeats 4000000 in
theorem takeMost_any (M V s b i m nl nc : Nat) (vs : Value) (w : World) (hG : GrA w b (grpN M V)) (hs : RowOf .u64 (fun k => k ≠ b) w vs (grpN (m + 1) s)) (him : i + (m + 1) ≤ M) (hnl : m + 1 ≤ nl) (hnc : nl ≤ nc) (hncm : nc ≤ 1000000)
    (hm : 0 < m) (hX : V / 1000000000 ^ i < 1000000000 * s) (hsl : s < 1000000000 ^ m) (hsp : 1000000000 ^ (m - 1) ≤ s) :
    Calls Tryd.prog 105 #[.slice (some ⟨b, i, none⟩) nl nc, vs] w fun e w' => e = .returned (.int .u64 ((V / 1000000000 ^ i / s : Nat) : Int)) ∧ GrA w' b (grpN M (V % 1000000000 ^ i + 1000000000 ^ i * (V / 1000000000 ^ i % s))) ∧ Wr b w w' := by
  have HS := hid hs
  have HG := hid hG
  have HSl := hid hsl
  have HIM := hid him
  have hsl1 : s < 1000000000 ^ (m + 1) := Nat.lt_of_lt_of_le hsl (Nat.pow_le_pow_right (by decide) (Nat.le_succ m))
  have hVl : V < 1000000000 ^ (i + (m + 1)) := by
    have h1 := Nat.div_add_mod V (1000000000 ^ i)
    have h2 := Nat.mod_lt V (p9pos i)
    rw [Nat.pow_add, Nat.pow_succ]
    have h3 : V / 1000000000 ^ i + 1 ≤ 1000000000 ^ m * 1000000000 := by
      have : 1000000000 * s ≤ 1000000000 * 1000000000 ^ m := Nat.mul_le_mul_left _ (Nat.le_of_lt hsl)
      rw [Nat.mul_comm (1000000000 ^ m)]; omega
    have h4 := Nat.mul_le_mul_left (1000000000 ^ i) h3
    rw [Nat.mul_add, Nat.mul_one] at h4
    omega
  have HSl1 := hid hsl1
  have HVl := hid hVl
  obtain ⟨sa, sc, e0, q1, q2, q3⟩ := hs
  subst e0
  rw [grpN_length] at *
  unfold maxLen at q2
  have hGlen := grpN_length M V
  have g1 := hG.get (i + m) (by rw [grpN_length]; omega)
  have g0 := hG.get (i + (m - 1)) (by rw [grpN_length]; omega)
  rw [grpN_get] at g1 g0
  rcases q3 with h | ⟨b', o', rfl, hne, hc⟩
  · have := congrArg List.length h; rw [grpN_length] at this; simp at this
  have gs := hc (m - 1) (by rw [grpN_length]; omega)
  rw [grpN_get] at gs
  obtain ⟨X, HXX⟩ : ∃ X : Nat, Hid (V / 1000000000 ^ i = X) := ⟨_, rfl⟩
  have e1 : V / 1000000000 ^ (i + m) = X / 1000000000 ^ m := by rw [Nat.pow_add, ← Nat.div_div_eq_div_mul, HXX.out]
  have e2 : V / 1000000000 ^ (i + (m - 1)) = X / 1000000000 ^ (m - 1) := by rw [Nat.pow_add, ← Nat.div_div_eq_div_mul, HXX.out]
  rw [e1] at g1
  rw [e2] at g0
  rw [HXX.out] at hX ⊢
  obtain ⟨a1, HA1⟩ : ∃ a : Nat, Hid (X / 1000000000 ^ m % 1000000000 = a) := ⟨_, rfl⟩
  obtain ⟨a0, HA0⟩ : ∃ a : Nat, Hid (X / 1000000000 ^ (m - 1) % 1000000000 = a) := ⟨_, rfl⟩
  obtain ⟨h, HH⟩ : ∃ a : Nat, Hid (s / 1000000000 ^ (m - 1) % 1000000000 = a) := ⟨_, rfl⟩
  have hgu := guess_ge hm hX hsl HA1.out HA0.out HH.out hsp
  rw [HA1.out] at g1
  rw [HA0.out] at g0
  rw [HH.out] at gs
  have ha1 : a1 < 1000000000 := by rw [← HA1.out]; exact Nat.mod_lt _ (by decide)
  have ha0 : a0 < 1000000000 := by rw [← HA0.out]; exact Nat.mod_lt _ (by decide)
  have hh9 : h < 1000000000 := by rw [← HH.out]; exact Nat.mod_lt _ (by decide)
  have hh0 := hgu.1
  have hhn : ((h : Int) == 0) = false := by rw [beq_eq_false_iff_ne]; omega
  obtain ⟨G, HGG⟩ : ∃ G : Nat, Hid (min ((a1 * 1000000000 + a0) / h) 999999999 = G) := ⟨_, rfl⟩
  have HGge : Hid (X / s ≤ G) := by show _ ≤ _; rw [← HGG.out]; exact Nat.le_min.2 hgu.2
  have hG9 : G ≤ 999999999 := by rw [← HGG.out]; exact Nat.min_le_right _ _
  obtain ⟨m', HM'⟩ : ∃ m' : Nat, Hid (m - 1 = m') := ⟨_, rfl⟩
  have hm' : m = m' + 1 := by have := HM'.out; omega
  rw [HM'.out] at g0 gs
  have HXl := hid hX
  have hmI : ((m : Int) + 1 - 1) = (m : Int) := by omega
  have hmI2 : (m : Int) - 1 = (m' : Int) := by omega
  have hn1 : (m : Int) < (nl : Int) := by omega
  have hn2 : (m' : Int) < (nl : Int) := by omega
  have hn3 : (m' : Int) < (m : Int) + 1 := by omega
  have hnz : ¬ h = 0 := by omega
  have hwm : IntKind.i64.wrap (m' : Int) = (m' : Int) := by simp [IntKind.wrap, IntKind.bits, IntKind.signed]; omega
  obtain ⟨p, HPp⟩ : ∃ p : Nat, Hid (a1 * 1000000000 = p) := ⟨_, rfl⟩
  obtain ⟨y, HY⟩ : ∃ y : Nat, Hid (p + a0 = y) := ⟨_, rfl⟩
  have hp18 : p ≤ 1000000000000000000 := by rw [← HPp.out]; omega
  have hy18 : y ≤ 2000000000000000000 := by rw [← HY.out]; omega
  have hwa : IntKind.u64.wrap ((a1 : Int) * 1000000000) = (p : Int) := by rw [← HPp.out]; simp [IntKind.wrap, IntKind.bits, IntKind.signed]; omega
  have hwb : IntKind.u64.wrap ((p : Int) + (a0 : Int)) = (y : Int) := by rw [← HY.out]; simp [IntKind.wrap, IntKind.bits, IntKind.signed]; omega
  obtain ⟨q, HQ⟩ : ∃ q : Nat, Hid (y / h = q) := ⟨_, rfl⟩
  have hq18 : q ≤ 2000000000000000000 := by rw [← HQ.out]; exact Nat.le_trans (Nat.div_le_self _ _) hy18
  have hwc : (y : Int) / (h : Int) = (q : Int) := by rw [← HQ.out, Int.natCast_ediv]
  have hwd : (y : Int).tdiv (h : Int) = (q : Int) := by rw [Int.tdiv_eq_ediv_of_nonneg (by omega), hwc]
  have hwe : IntKind.u64.wrap (q : Int) = (q : Int) := by simp [IntKind.wrap, IntKind.bits, IntKind.signed]; omega
  have HGq : Hid (min q 999999999 = G) := by show _ = _; rw [← HGG.out, ← HQ.out, ← HY.out, ← HPp.out]
  have hmin : (if (999999999 : Int) < (q : Int) then (999999999 : Int) else (q : Int)) = (G : Int) := by
    have h := HGq.out
    rw [Nat.min_def] at h
    split at h <;> split <;> omega
  clear hG hc hGlen e1 e2 hgu hsl hsl1 hVl hsp him hX hm'
  go_enter Tryd.func105, Tryd.ntmps105
  go_wp2_with fail
  go_region_law (fail)
  all_goals
    go_wp2_with fail
    refine (take_any M V s b i (m + 1) nl nc G _ w.drew HG.out HS.out HIM.out hnl hnc hncm (by omega) HVl.out HSl1.out).mono ?_
    rintro e w1 ⟨Y0, ow, rfl, hG1, hY1, hE1, hW1⟩
    rw [HXX.out] at hE1
    have HG1 := hid hG1
    have HY1 := hid hY1
    have HE1 := hid hE1
    have HW1 : Hid (Wr b w w1) := (Wr.refl b w).drew.trans hW1
    have how : ow ≤ 1 := ow_le hG9 HSl.out HE1.out HY1.out
    clear hG1 hY1 hE1 hW1
    go_wp2_with fail
    go_loopw [6, 7] (fun gu sh wr => ∃ (g Y c : Nat), gu = .int .u64 g ∧ sh = .bool (decide (0 < c)) ∧ g ≤ 999999999 ∧ c ≤ 1 ∧ Hid (X / s ≤ g) ∧ Hid (Y < 1000000000 ^ (m + 1)) ∧ Hid (GrA wr b (grpN M (V % 1000000000 ^ i + 1000000000 ^ i * Y))) ∧ Hid (Y + g * s = X + c * 1000000000 ^ (m + 1)) ∧ Hid (Wr b w wr)) (fun gu _ _ => (intOf gu).toNat)
    case atStart => exact ⟨G, Y0, ow, rfl, rfl, hG9, how, HGge, HY1, HG1, HE1, HW1⟩
    case round =>
      obtain ⟨g, Y, c, rfl, rfl, hg9, hc1, HGe, HYl, HGr, HEq, HWr⟩ := hrel
      by_cases hc : 0 < c
      · have hc' : c = 1 := by omega
        subst hc'
        have HV1 : Hid ((V % 1000000000 ^ i + 1000000000 ^ i * Y) / 1000000000 ^ i = Y ∧ (V % 1000000000 ^ i + 1000000000 ^ i * Y) % 1000000000 ^ i = V % 1000000000 ^ i) := low_high V i Y
        have HV1l : Hid (V % 1000000000 ^ i + 1000000000 ^ i * Y < 1000000000 ^ (i + (m + 1))) := low_lt HYl.out
        have HRow : Hid (RowOf .u64 (fun k => k ≠ b) wr (.slice (some ⟨b', o', none⟩) (m + 1) sc) (grpN (m + 1) s)) := RowOf.keep HS.out HWr.out.2.1
        have hgd := give_down HEq.out HYl.out
        have hg1 : 1 ≤ g := hgd.1
        have HGd := hid hgd.2
        clear hc hgd
        go_wp2_with fail
        refine (give_any M _ s b i (m + 1) nl nc _ _ HGr.out HRow.out HIM.out hnl hnc hncm HV1l.out HSl1.out).mono ?_
        rintro e w2 ⟨Y2, ca, rfl, hG2, hY2, hE2, hW2⟩
        rw [HV1.out.1] at hE2
        rw [HV1.out.2] at hG2
        have hca : ca ≤ 1 := ca_le hE2 HYl.out HSl1.out
        have HG2 := hid hG2
        have HY2 := hid hY2
        have HE2 := hid hE2
        have HW2 := hid (HWr.out.trans hW2)
        clear hG2 hY2 hE2 hW2
        go_wp2_with fail
        refine ⟨⟨g - 1, Y2, 1 - ca, by congr 1; omega, ?_, by omega, by omega, HGd.out, HY2, HG2, give_eq HEq.out HE2.out hg1 hca, HW2⟩, by simp [intOf]; omega⟩
        congr 1
        by_cases h0 : ca = 0
        · subst h0; rfl
        · have : ca = 1 := by omega
          subst this; rfl
      · have hc' : c = 0 := by omega
        subst hc'
        have HE0 : Hid (Y + g * s = X) := by show _ = _; have h := HEq.out; rw [Nat.zero_mul, Nat.add_zero] at h; exact h
        have HFin := hid (most_end HE0.out HGe.out (by have := HXl.out; omega))
        go_wp2_with fail
        go_ret
        refine ⟨ret_intz (by rw [HFin.out.1]), ?_, HWr.out⟩
        rw [HFin.out.2]
        exact HGr.out
end Go.Proofs.YtbbffhpppacihaaDoor
