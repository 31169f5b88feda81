/-
  The model's l12Nat: digits in a radix as a number. Condition: at most 480 bytes, the radix one of four.
  Plain numbers: groups from a place on, and what they come to. No program is named.
  The program's take and giveBack: another natural taken away so many times from the groups at a place, and added to them. Condition: the groups lie in a block of the call's own, the other natural elsewhere.
  The program's giveBack, and both as numbers; takeMost. Condition: the groups lie in a block of the call's own, the other natural elsewhere.
-/
import Derived.Test.YtakicnplmcemnaaDoorPart4
import Derived.Test.YtakicnplmcemnaaDoorPart2
import Derived.Deep.RegionLaw
import Derived.Deep.QuietTactic
import Derived.BigQuiet
import Derived.Deep.Draws
namespace Go.Proofs.YtakicnplmcemnaaDoor
open Go.RowKit Go.Siskin

theorem digV_le (c : UInt8) : digV c ≤ 99 := by
  unfold digV
  split
  · omega
  · split <;> omega
theorem dec_nought : dec 0 = ⟨#[48]⟩ := by rw [dec_small (by decide)]; rfl
theorem okR_false {R : Nat} {l : List UInt8} {k : Nat} (h : k < l.length) (hd : ¬ digV l[k] < R) : okR R l = false := by
  unfold okR
  rw [Bool.and_eq_false_iff]
  refine Or.inr ?_
  rw [List.all_eq_false]
  exact ⟨l[k], List.getElem_mem h, by simpa using hd⟩
theorem okR_true {R : Nat} {l : List UInt8} (h : l ≠ []) (hd : ∀ c ∈ l, digV c < R) : okR R l = true := by
  unfold okR
  rw [Bool.and_eq_true, List.all_eq_true]
  exact ⟨by cases l <;> simp_all, fun c hc => decide_eq_true (hd c hc)⟩
theorem ret_strb {a b : ByteArray} {x y : Bool} (h : a = b) (h2 : x = y) : Ending.returned (.tuple #[.string a, .bool x]) = .returned (.tuple #[.string b, .bool y]) := by rw [h, h2]
theorem list_at (s : ByteArray) (k : Nat) (h : k < s.size) : s.data.toList[k]'(by simpa using h) = s[k] := by simp [ByteArray.getElem_eq_getElem_data]

set_option maxRecDepth 20000 in
set_option maxHeartbeats 1000000 in
theorem l12Nat_any (s : ByteArray) (R : Nat) (w : World) (hs : s.size ≤ 480) (hR : RadP R) :
    Calls Tryd.prog 45 #[.string s, .int .i64 R] w fun e w' => e = .returned (.tuple #[.string (dec (if okR R s.data.toList = true then valR R s.data.toList else 0)), .bool (okR R s.data.toList)]) ∧ Below w.heap.size w w' := by
  have hR2 := rad_two hR
  have hR0 := hR2.1
  have hR16 := hR2.2
  have HLen : Hid (s.data.toList.length = s.size) := by show _ = _; simp
  have HSm := hid (fun n w (h : n ≤ 9223372036854775807) => l11Small_any n w h)
  clear hR2 hR
  by_cases h0 : s.size = 0
  · have hnil : s.data.toList = [] := List.length_eq_zero_iff.1 (by rw [HLen.out, h0])
    have h0b : (s.toList == []) = true := by rw [Go.ByteArray.toList_eq, hnil]; rfl
    have HV : Hid (okR R s.data.toList = false) := by show _ = _; rw [hnil]; rfl
    have HT : Hid (dec (if (false = true) then valR R s.data.toList else 0) = ⟨#[48]⟩) := by show _ = _; rw [if_neg (by decide), dec_nought]
    rw [HV.out, HT.out]
    clear hnil h0
    go_enter Tryd.func45, Tryd.ntmps45
    go_wp2_with fail
    refine bodyPost_ret (v := .tuple #[.string ⟨#[48]⟩, .bool false]) (by simp [results, Tryd.results45, go_sem]) rfl ⟨?_, Below.refl _ _⟩
    rfl
  · have hne : s.data.toList ≠ [] := fun e => h0 (by rw [← HLen.out, e]; rfl)
    have h0b : (s.toList == []) = false := by rw [Go.ByteArray.toList_eq, beq_eq_false_iff_ne]; exact hne
    obtain ⟨l, HL⟩ : ∃ l, Hid (s.data.toList = l) := ⟨_, rfl⟩
    have HAt : Hid (∀ k (h : k < s.size), ∃ h2 : k < l.length, l[k] = s[k]) := fun k h => by
      have e := list_at s k h
      have HL2 := HL.out
      subst HL2
      exact ⟨by simpa using h, e⟩
    rw [HL.out] at HLen hne ⊢
    have HNe := hid hne
    obtain ⟨B, HBo⟩ : ∃ B, Hid (okR R l = B) := ⟨_, rfl⟩
    obtain ⟨T, HTo⟩ : ∃ T, Hid (dec (if okR R l = true then valR R l else 0) = T) := ⟨_, rfl⟩
    rw [HTo.out, HBo.out]
    clear hne h0
    go_enter Tryd.func45, Tryd.ntmps45
    go_wp2_with fail
    go_loopw [6, 7] (fun n i wr => ∃ k : Nat, n = .string (dec (valR R (l.take k))) ∧ i = .int .i64 k ∧ k ≤ s.size ∧ Hid (∀ c ∈ l.take k, digV c < R) ∧ Hid (Below w.heap.size w wr)) (fun _ i _ => s.size - (intOf i).toNat)
    case atStart => exact ⟨0, by rw [List.take_zero, show valR R [] = 0 from rfl, dec_nought], rfl, Nat.zero_le _, fun c hc => by simp at hc, Below.refl _ _⟩
    case round =>
      obtain ⟨k, rfl, rfl, hk, HD, HB⟩ := hrel
      have hsz := HB.out.size
      by_cases hlt : k < s.size
      · obtain ⟨h2, hat⟩ := HAt.out k hlt
        have HDg := hid (fun w => l12Digit_any (s[k]'hlt) w)
        obtain ⟨d, HDv⟩ : ∃ d : Nat, Hid (digV (s[k]'hlt) = d) := ⟨_, rfl⟩
        rw [HDv.out] at HDg
        have HDl : Hid (digV l[k] = d) := by show _ = _; rw [hat, HDv.out]
        have hdl : d ≤ 99 := by rw [← HDv.out]; exact digV_le _
        have HLk := hid h2
        clear hat
        by_cases hge : d < R
        · obtain ⟨n, HN⟩ : ∃ n : Nat, Hid (valR R (l.take k) = n) := ⟨_, rfl⟩
          rw [HN.out]
          have HNd : Hid (Lib.nDigits n ≤ 961) := by
            show _ ≤ _
            have h := valR_digits hR16 HD.out
            rw [HN.out, List.length_take] at h
            omega
          have hN5 := HNd.out
          obtain ⟨M, HM⟩ : ∃ M : Nat, Hid (961 = M) := ⟨_, rfl⟩
          have hM : M = 961 := HM.out.symm
          have HMu := hid (fun w => l11Mul_any n R w (by have := HNd.out; omega) (by have h := nDigits_le (v := R) (m := 2) (by omega) (by decide); omega))
          have HAd := hid (fun w => l11Add_any (n * R) d w (by
            have h1 : n * R < 10 ^ (M + 2) := by
              have a1 := Lib.lt_pow_nDigits n
              have a2 : n < 10 ^ M := Nat.lt_of_lt_of_le a1 (Nat.pow_le_pow_right (by decide) (by rw [hM]; exact HNd.out))
              rw [Nat.pow_add]
              exact Nat.mul_lt_mul'' a2 (by omega)
            have h := nDigits_le h1 (by omega); omega) (by have h := nDigits_le (v := d) (m := 2) (by omega) (by decide); omega))
          have HTk : Hid (l.take (k + 1) = l.take k ++ [l[k]'HLk.out]) := by show _ = _; rw [List.take_succ_eq_append_getElem HLk.out]
          have HNx : Hid (n * R + d = valR R (l.take (k + 1))) := by show _ = _; rw [HTk.out, valR_snoc, HN.out, HDl.out]
          have HD2 : Hid (∀ c ∈ l.take (k + 1), digV c < R) := fun c hc => by
            rw [HTk.out] at hc
            rcases List.mem_append.1 hc with h | h
            · exact HD.out c h
            · rw [List.mem_singleton.1 h, HDl.out]; exact hge
          rw [HNx.out] at HAd
          generalize n * R = m at *
          go_wp2_with fail
          refine (HDg.out _).mono ?_
          rintro e w' ⟨rfl, hw⟩
          obtain rfl := hw.symm
          go_wp2_with fail
          refine (HSm.out R _ (by omega)).mono ?_
          rintro e w1 ⟨rfl, hw1⟩
          have HB1 := hid (HB.out.trans (hw1.mono hsz))
          have s1 := Nat.le_trans hsz hw1.size
          clear hw1
          go_wp2_with fail
          refine (HMu.out _).mono ?_
          rintro e w2 ⟨rfl, hw2⟩
          have HB2 := hid (HB1.out.trans (hw2.mono s1))
          have s2 := Nat.le_trans s1 hw2.size
          clear hw2
          go_wp2_with fail
          refine (HSm.out d _ (by omega)).mono ?_
          rintro e w3 ⟨rfl, hw3⟩
          have HB3 := hid (HB2.out.trans (hw3.mono s2))
          have s3 := Nat.le_trans s2 hw3.size
          clear hw3
          go_wp2_with fail
          refine (HAd.out _).mono ?_
          rintro e w4 ⟨rfl, hw4⟩
          have HB4 := hid (HB3.out.trans (hw4.mono s3))
          clear hw4
          go_wp2_with fail
          exact ⟨⟨k + 1, rfl, by go_num, by omega, HD2.out, HB4.out⟩, by simp [intOf]; omega⟩
        · have HV : Hid (okR R l = false) := okR_false HLk.out (by rw [HDl.out]; exact hge)
          go_wp2_with fail
          refine (HDg.out _).mono ?_
          rintro e w' ⟨rfl, hw⟩
          obtain rfl := hw.symm
          go_wp2_with fail
          refine bodyPost_ret (v := .tuple #[.string ⟨#[48]⟩, .bool false]) (by simp [results, Tryd.results45, go_sem]) rfl ⟨?_, HB.out⟩
          rw [← HTo.out, ← HBo.out, HV.out, if_neg (by decide), dec_nought]
      · have HTl : Hid (l.take k = l) := List.take_of_length_le (by rw [HLen.out]; omega)
        rw [HTl.out] at HD ⊢
        have HV : Hid (okR R l = true) := okR_true HNe.out HD.out
        go_wp2_with fail
        refine bodyPost_ret (v := .tuple #[.string (dec (valR R l)), .bool true]) (by simp [results, Tryd.results45, go_sem]) rfl ⟨?_, HB.out⟩
        rw [← HTo.out, ← HBo.out, HV.out, if_pos rfl]
end Go.Proofs.YtakicnplmcemnaaDoor

namespace Go.Siskin

/-- What j groups from place i on come to. -/
def ga (ls : List Nat) (i : Nat) : Nat → Nat
  | 0 => 0
  | j + 1 => ga ls i j + ls.getD (i + j) 0 * 1000000000 ^ j
theorem ga_congr {ls ls' : List Nat} {i : Nat} : ∀ {j : Nat}, (∀ k, k < j → ls.getD (i + k) 0 = ls'.getD (i + k) 0) → ga ls i j = ga ls' i j
  | 0, _ => rfl
  | j + 1, h => by rw [ga, ga, ga_congr (j := j) (fun k hk => h k (by omega)), h j (by omega)]
theorem ga_lt {ls : List Nat} {i : Nat} (h : ∀ k, ls.getD k 0 < 1000000000) : ∀ j, ga ls i j < 1000000000 ^ j
  | 0 => by simp [ga]
  | j + 1 => by
    have h1 := ga_lt h (i := i) j
    have h2 := h (i + j)
    rw [ga, Nat.pow_succ]
    generalize 1000000000 ^ j = P at *
    have h3 : ls.getD (i + j) 0 * P ≤ 999999999 * P := Nat.mul_le_mul_right _ (by omega)
    omega
theorem ga_zero {ls : List Nat} {i : Nat} : ∀ {j : Nat}, (∀ k, k < j → ls.getD (i + k) 0 = 0) → ga ls i j = 0
  | 0, _ => rfl
  | j + 1, h => by rw [ga, ga_zero (j := j) (fun k hk => h k (by omega)), h j (by omega)]; simp
theorem ga_split (ls : List Nat) (i j : Nat) : ∀ k, ga ls i (j + k) = ga ls i j + 1000000000 ^ j * ga ls (i + j) k
  | 0 => by simp [ga]
  | k + 1 => by
    rw [← Nat.add_assoc, ga, ga_split ls i j k, ga, Nat.pow_add, Nat.mul_add, Nat.add_assoc i j k]
    have : ls.getD (i + (j + k)) 0 * (1000000000 ^ j * 1000000000 ^ k) = 1000000000 ^ j * (ls.getD (i + (j + k)) 0 * 1000000000 ^ k) := by ac_rfl
    omega
theorem ga_get {ls : List Nat} {i : Nat} (h : ∀ k, ls.getD k 0 < 1000000000) : ∀ (j k : Nat), k < j → ga ls i j / 1000000000 ^ k % 1000000000 = ls.getD (i + k) 0
  | j + 1, k, hk => by
    have hlt := ga_lt h (i := i) j
    rw [ga]
    by_cases e : k = j
    · subst e
      rw [Nat.add_mul_div_right _ _ (p9pos k), Nat.div_eq_of_lt hlt, Nat.zero_add, Nat.mod_eq_of_lt (h (i + k))]
    · have hk' : k < j := by omega
      have ih := ga_get h (i := i) j k hk'
      obtain ⟨s, hs⟩ : ∃ s, j = k + (s + 1) := ⟨j - k - 1, by omega⟩
      rw [hs] at ih ⊢
      have e2 : ls.getD (i + (k + (s + 1))) 0 * 1000000000 ^ (k + (s + 1)) = (1000000000 * (ls.getD (i + (k + (s + 1))) 0 * 1000000000 ^ s)) * 1000000000 ^ k := by
        rw [Nat.pow_add, Nat.pow_succ]; ac_rfl
      rw [e2, Nat.add_mul_div_right _ _ (p9pos k), Nat.add_mul_mod_self_left]
      exact ih
theorem getD_grpN (M V k : Nat) : (grpN M V).getD k 0 = if k < M then V / 1000000000 ^ k % 1000000000 else 0 := by
  by_cases h : k < M
  · rw [if_pos h, List.getD_eq_getElem?_getD, List.getElem?_eq_getElem (by rw [grpN_length]; exact h), grpN_get]; rfl
  · rw [if_neg h, List.getD_eq_getElem?_getD, List.getElem?_eq_none (by rw [grpN_length]; omega)]; rfl
theorem grpN_small (M V k : Nat) : (grpN M V).getD k 0 < 1000000000 := by
  rw [getD_grpN]
  split
  · exact Nat.mod_lt _ (by decide)
  · decide
theorem ga_grpN (M V i : Nat) : ∀ j, i + j ≤ M → ga (grpN M V) i j = V / 1000000000 ^ i % 1000000000 ^ j
  | 0, _ => by simp [ga, Nat.mod_one]
  | j + 1, h => by
    rw [ga, ga_grpN M V i j (by omega), getD_grpN, if_pos (by omega), Nat.mod_pow_succ, Nat.pow_add, ← Nat.div_div_eq_div_mul, Nat.mul_comm]
theorem grpN_of {ls : List Nat} {M : Nat} (hl : ls.length = M) (h : ∀ k, ls.getD k 0 < 1000000000) : ls = grpN M (ga ls 0 M) := by
  apply List.ext_getElem
  · rw [grpN_length, hl]
  · intro k h1 h2
    rw [grpN_get, ga_get h M k (by omega), Nat.zero_add, List.getD_eq_getElem?_getD, List.getElem?_eq_getElem h1]; rfl
/-- A list of which only some groups have turned. -/
theorem grpN_turned {ls : List Nat} {M V i mm : Nat} (hl : ls.length = M) (h : ∀ k, ls.getD k 0 < 1000000000) (him : i + mm ≤ M) (hV : V < 1000000000 ^ (i + mm))
    (hout : ∀ k, k < i ∨ i + mm ≤ k → ls.getD k 0 = (grpN M V).getD k 0) : ls = grpN M (V % 1000000000 ^ i + 1000000000 ^ i * ga ls i mm) := by
  have e := grpN_of hl h
  have e1 : ga ls 0 M = V % 1000000000 ^ i + 1000000000 ^ i * ga ls i mm := by
    obtain ⟨r, hr⟩ : ∃ r, M = i + (mm + r) := ⟨M - i - mm, by omega⟩
    have hz : ga ls (i + mm) r = 0 := ga_zero fun k hk => by
      rw [hout _ (Or.inr (by omega)), getD_grpN]
      split
      · rw [Nat.div_eq_of_lt (Nat.lt_of_lt_of_le hV (Nat.pow_le_pow_right (by decide) (by omega)))]
      · rfl
    have h0 : ga ls 0 i = V % 1000000000 ^ i := by
      have h1 := ga_grpN M V 0 i (by omega)
      rw [Nat.pow_zero, Nat.div_one] at h1
      rw [← h1]
      exact ga_congr fun k hk => hout _ (Or.inl (by omega))
    rw [hr, ga_split, Nat.zero_add, ga_split, hz, h0, Nat.mul_zero, Nat.add_zero]
  rw [e1] at e
  exact e
theorem getD_set {ls : List Nat} {p x k : Nat} (hp : p < ls.length) : (ls.set p x).getD k 0 = if k = p then x else ls.getD k 0 := by
  rw [List.getD_eq_getElem?_getD, List.getElem?_set]
  by_cases h : k = p
  · subst h; rw [if_pos rfl, if_pos hp, if_pos rfl]; rfl
  · rw [if_neg (by omega), if_neg h, List.getD_eq_getElem?_getD]
theorem ga_set_past {ls : List Nat} {i k x : Nat} (hp : i + k < ls.length) : ga (ls.set (i + k) x) i (k + 1) = ga ls i k + x * 1000000000 ^ k := by
  rw [ga, getD_set hp, if_pos rfl]
  congr 1
  exact ga_congr fun t ht => by rw [getD_set hp, if_neg (by omega)]
theorem take_step {A S L ow g T x y z c P : Nat} (h : A + T * S = L + ow * P) (hz : ow + g * T = z) (hy : y + z % 1000000000 = x + c * 1000000000) :
    A + y * P + T * (S + g * P) = L + x * P + (z / 1000000000 + c) * (P * 1000000000) := by
  have h1 : y + z = x + (z / 1000000000 + c) * 1000000000 := by rw [Nat.add_mul]; omega
  have h2 : (y + z) * P = (x + (z / 1000000000 + c) * 1000000000) * P := by rw [h1]
  have h3 : (z / 1000000000 + c) * (P * 1000000000) = (z / 1000000000 + c) * 1000000000 * P := by ac_rfl
  have h4 : T * (g * P) = g * T * P := by ac_rfl
  rw [Nat.add_mul, Nat.add_mul x] at h2
  rw [h3, Nat.mul_add, h4]
  have h5 : z * P = ow * P + g * T * P := by rw [← hz, Nat.add_mul]
  omega
end Go.Siskin

namespace Go.Proofs.YtakicnplmcemnaaDoor
open Go.RowKit Go.Siskin

/-- Only block b has been written. -/
def Wr (b : Nat) (w w' : World) : Prop := Below b w w' ∧ SameOn (fun k => k ≠ b) w w' ∧ w'.heap.size = w.heap.size
theorem Wr.refl (b : Nat) (w : World) : Wr b w w := ⟨Below.refl _ _, SameOn.refl _ _, rfl⟩
theorem Wr.trans {b : Nat} {w w1 w2 : World} (h : Wr b w w1) (k : Wr b w1 w2) : Wr b w w2 := ⟨h.1.trans k.1, h.2.1.trans k.2.1, k.2.2.trans h.2.2⟩
theorem Wr.set {b : Nat} {w w1 : World} (h : Wr b w w1) (i : Nat) (u : Value) : Wr b w (w1.setCell ⟨b, i, none⟩ u) :=
  ⟨h.1.setCell (p := ⟨b, i, none⟩) (Nat.le_refl _) _, h.2.1.setCell (p := ⟨b, i, none⟩) (fun h => h rfl) _, by simp [World.setCell]; exact h.2.2⟩
theorem Wr.drew {b : Nat} {w w1 : World} (h : Wr b w w1) : Wr b w w1.drew := ⟨h.1.drew, h.2.1, h.2.2⟩
theorem GrA.small {ls : List Nat} (h : ∀ k, ls.getD k 0 < 1000000000) (i : Nat) (hi : i < ls.length) : ls[i] < 1000000000 := by
  have := h i
  rw [List.getD_eq_getElem?_getD, List.getElem?_eq_getElem hi] at this
  exact this
theorem getD_of {ls : List Nat} (i : Nat) (hi : i < ls.length) : ls[i] = ls.getD i 0 := by
  rw [List.getD_eq_getElem?_getD, List.getElem?_eq_getElem hi]; rfl

set_option maxRecDepth 20000 in
set_option maxHeartbeats 2000000 in
theorem take_list (M V s b i mm nl nc T : Nat) (vs : Value) (w : World) (hG : GrA w b (grpN M V)) (hs : RowOf .u64 (fun k => k ≠ b) w vs (grpN mm s)) (him : i + mm ≤ M) (hnl : mm ≤ nl) (hnc : nl ≤ nc) (hncm : nc ≤ 1000000) (hT : T < 1000000000) :
    Calls Tryd.prog 109 #[.slice (some ⟨b, i, none⟩) nl nc, vs, .int .u64 T] w fun e w' => ∃ (ls : List Nat) (ow : Nat), e = .returned (.bool (decide (0 < ow))) ∧ GrA w' b ls ∧ ls.length = M ∧ (∀ k, ls.getD k 0 < 1000000000) ∧
      (∀ k, k < i ∨ i + mm ≤ k → ls.getD k 0 = (grpN M V).getD k 0) ∧ ga ls i mm + T * ga (grpN mm s) 0 mm = ga (grpN M V) i mm + ow * 1000000000 ^ mm ∧ Wr b w w' := by
  obtain ⟨sa, sc, rfl, q1, q2, q3⟩ := hs
  rw [grpN_length] at *
  unfold maxLen at q2
  have HG := hid hG
  have HS : Hid (∀ wr, Wr b w wr → ∀ k, k < mm → ∃ b' o', sa = some ⟨b', o', none⟩ ∧ wr.cell? ⟨b', o' + k, none⟩ = some (.int .u64 (((grpN mm s).getD k 0 : Nat) : Int))) := by
    intro wr hb k hk
    rcases q3 with h | ⟨b', o', e, hne, hc⟩
    · have := congrArg List.length h; rw [grpN_length] at this; simp at this; omega
    · refine ⟨b', o', e, ?_⟩
      rw [SameOn.cell (R := fun k => k ≠ b) hb.2.1 hne (o' + k), hc k (by rw [grpN_length]; exact hk), getD_of k (by rw [grpN_length]; exact hk)]
  have HTT := hid hT
  clear hG q3
  go_enter Tryd.func109, Tryd.ntmps109
  go_wp2_with fail
  go_loopw [7, 13] (fun o j wr => ∃ (k ow : Nat) (ls : List Nat), j = .int .i64 k ∧ o = .int .u64 ow ∧ k ≤ mm ∧ ow ≤ 1000000000 ∧ Hid (GrA wr b ls) ∧ Hid (ls.length = M) ∧ Hid (∀ k, ls.getD k 0 < 1000000000) ∧
      Hid (∀ t, t < i ∨ i + k ≤ t → ls.getD t 0 = (grpN M V).getD t 0) ∧ Hid (ga ls i k + T * ga (grpN mm s) 0 k = ga (grpN M V) i k + ow * 1000000000 ^ k) ∧ Hid (Wr b w wr)) (fun _ j _ => mm - (intOf j).toNat)
  case atStart => exact ⟨0, 0, _, rfl, rfl, Nat.zero_le _, Nat.zero_le _, HG.out, grpN_length _ _, grpN_small M V, fun _ _ => rfl, by show _ = _; simp [ga], Wr.refl _ _⟩
  case round =>
    obtain ⟨k, ow, ls, rfl, rfl, hk, how, HL, HLen, HSm, HOut, HEq, HW⟩ := hrel
    by_cases hlt : k < mm
    · obtain ⟨b', o', hab, g0⟩ := HS.out wr HW.out k hlt
      subst hab
      obtain ⟨g, HGg⟩ : ∃ g : Nat, Hid ((grpN mm s).getD k 0 = g) := ⟨_, rfl⟩
      have hg9 : g < 1000000000 := by rw [← HGg.out]; exact grpN_small mm s k
      rw [HGg.out] at g0
      have hik : i + k < ls.length := by rw [HLen.out]; omega
      have g1 := HL.out.get (i + k) hik
      have f1 := HL.out.frozen (i + k)
      obtain ⟨x, HX⟩ : ∃ x : Nat, Hid (ls.getD (i + k) 0 = x) := ⟨_, rfl⟩
      have hx9 : x < 1000000000 := by rw [← HX.out]; exact HSm.out _
      have HXV : Hid ((grpN M V).getD (i + k) 0 = x) := by show _ = _; rw [← HX.out]; exact (HOut.out (i + k) (Or.inr (Nat.le_refl _))).symm
      rw [getD_of (i + k) hik, HX.out] at g1
      obtain ⟨z, HZ⟩ : ∃ z : Nat, Hid (ow + g * T = z) := ⟨_, rfl⟩
      have hgT : g * T ≤ 999999999 * 999999999 := Nat.mul_le_mul (by omega) (by have := HTT.out; omega)
      have hzl : z ≤ 1000000000000000000 := by rw [← HZ.out]; omega
      have hzo : z / 1000000000 + 1 ≤ 1000000000 := by rw [← HZ.out]; omega
      have hval : IntKind.u64.wrap ((ow : Int) + IntKind.u64.wrap ((g : Int) * (T : Int))) = (z : Int) := by
        have e4 : (g : Int) * (T : Int) = ((g * T : Nat) : Int) := by simp
        rw [e4]
        have hz := HZ.out
        generalize g * T = q at *
        have e5 : IntKind.u64.wrap (q : Int) = (q : Int) := by simp [IntKind.wrap, IntKind.bits, IntKind.signed]; omega
        rw [e5]
        simp [IntKind.wrap, IntKind.bits, IntKind.signed]; omega
      obtain ⟨low, HLow⟩ : ∃ low : Nat, Hid (z % 1000000000 = low) := ⟨_, rfl⟩
      obtain ⟨ov, HOv⟩ : ∃ ov : Nat, Hid (z / 1000000000 = ov) := ⟨_, rfl⟩
      have hl9 : low < 1000000000 := by rw [← HLow.out]; exact Nat.mod_lt _ (by decide)
      have hov : ov + 1 ≤ 1000000000 := by rw [← HOv.out]; exact hzo
      have hw1 : (z : Int) % 1000000000 = (low : Int) := by have := HLow.out; omega
      have hw2 : (z : Int) / 1000000000 = (ov : Int) := by have := HOv.out; omega
      have HStep := hid (fun (y c : Nat) (hy : y + z % 1000000000 = x + c * 1000000000) => take_step (y := y) (c := c) HEq.out HZ.out hy)
      rw [HLow.out, HOv.out] at HStep
      have hnlI : (k : Int) < (nl : Int) := by omega
      have HRest : Hid (∀ y c : Nat, y + low = x + c * 1000000000 → y < 1000000000 → (∀ t, (ls.set (i + k) y).getD t 0 < 1000000000) ∧ (∀ t, t < i ∨ i + (k + 1) ≤ t → (ls.set (i + k) y).getD t 0 = (grpN M V).getD t 0) ∧
          ga (ls.set (i + k) y) i (k + 1) + T * ga (grpN mm s) 0 (k + 1) = ga (grpN M V) i (k + 1) + (ov + c) * 1000000000 ^ (k + 1)) := by
        intro y c hy hy9
        refine ⟨fun t => ?_, fun t ht => ?_, ?_⟩
        · rw [getD_set hik]; split
          · exact hy9
          · exact HSm.out t
        · rw [getD_set hik, if_neg (by omega)]; exact HOut.out t (by omega)
        · rw [ga_set_past hik, ga, ga, Nat.zero_add, HGg.out, HXV.out, Nat.pow_succ]
          exact HStep.out y c hy
      clear hgT
      by_cases hless : x < low
      · obtain ⟨y, HYy⟩ : ∃ y : Nat, Hid (x + 1000000000 - low = y) := ⟨_, rfl⟩
        have hyI : (x : Int) + 1000000000 - (low : Int) = (y : Int) := by have := HYy.out; omega
        have hy9 : y < 1000000000 := by have := HYy.out; omega
        have HR := hid (HRest.out y 1 (by have := HYy.out; omega) hy9)
        go_wp2_with fail
        refine ⟨⟨k + 1, ov + 1, ls.set (i + k) y, by go_num, by go_num, by omega, by omega, ?_, by show _ = _; rw [List.length_set]; exact HLen.out, HR.out.1, HR.out.2.1, HR.out.2.2, (HW.out.set (i + k) _).set (i + k) _⟩, by simp [intOf]; omega⟩
        show GrA _ _ _
        have h := (HL.out.set (i + k) (x + 1000000000)).set (i + k) y
        rw [List.set_set] at h
        simpa using h
      · obtain ⟨y, HYy⟩ : ∃ y : Nat, Hid (x - low = y) := ⟨_, rfl⟩
        have hyI : (x : Int) - (low : Int) = (y : Int) := by have := HYy.out; omega
        have hy9 : y < 1000000000 := by have := HYy.out; omega
        have HR := hid (HRest.out y 0 (by have := HYy.out; omega) hy9)
        go_wp2_with fail
        refine ⟨⟨k + 1, ov, ls.set (i + k) y, by go_num, rfl, by omega, by omega, ?_, by show _ = _; rw [List.length_set]; exact HLen.out, HR.out.1, HR.out.2.1, HR.out.2.2, HW.out.set (i + k) _⟩, by simp [intOf]; omega⟩
        show GrA _ _ _
        exact HL.out.set (i + k) y
    · have hkm : k = mm := by omega
      subst hkm
      go_wp2_with fail
      go_ret
      exact ⟨ls, ow, ret_boolz (by simp), HL.out, HLen.out, HSm.out, HOut.out, HEq.out, HW.out⟩
end Go.Proofs.YtakicnplmcemnaaDoor

namespace Go.Proofs.YtakicnplmcemnaaDoor
open Go.RowKit Go.Siskin

theorem give_step {A S L ca g x z P : Nat} (h : A + ca * P = L + S) (hz : ca + (x + g) = z) :
    A + z % 1000000000 * P + z / 1000000000 * (P * 1000000000) = L + x * P + (S + g * P) := by
  have h2 : z * P = ca * P + x * P + g * P := by rw [← hz, Nat.add_mul, Nat.add_mul, Nat.add_assoc]
  have h3 : z / 1000000000 * (P * 1000000000) = 1000000000 * (z / 1000000000) * P := by ac_rfl
  have h4 : (z % 1000000000 + 1000000000 * (z / 1000000000)) * P = z * P := by rw [Nat.mod_add_div]
  rw [Nat.add_mul] at h4
  rw [h3]
  omega

set_option maxRecDepth 20000 in
set_option maxHeartbeats 2000000 in
theorem give_list (M V s b i mm nl nc : Nat) (vs : Value) (w : World) (hG : GrA w b (grpN M V)) (hs : RowOf .u64 (fun k => k ≠ b) w vs (grpN mm s)) (him : i + mm ≤ M) (hnl : mm ≤ nl) (hnc : nl ≤ nc) (hncm : nc ≤ 1000000) :
    Calls Tryd.prog 110 #[.slice (some ⟨b, i, none⟩) nl nc, vs] w fun e w' => ∃ (ls : List Nat) (ca : Nat), e = .returned (.bool (decide (0 < ca))) ∧ GrA w' b ls ∧ ls.length = M ∧ (∀ k, ls.getD k 0 < 1000000000) ∧
      (∀ k, k < i ∨ i + mm ≤ k → ls.getD k 0 = (grpN M V).getD k 0) ∧ ga ls i mm + ca * 1000000000 ^ mm = ga (grpN M V) i mm + ga (grpN mm s) 0 mm ∧ Wr b w w' := by
  obtain ⟨sa, sc, rfl, q1, q2, q3⟩ := hs
  rw [grpN_length] at *
  unfold maxLen at q2
  have HG := hid hG
  have HS : Hid (∀ wr, Wr b w wr → ∀ k, k < mm → ∃ b' o', sa = some ⟨b', o', none⟩ ∧ wr.cell? ⟨b', o' + k, none⟩ = some (.int .u64 (((grpN mm s).getD k 0 : Nat) : Int))) := by
    intro wr hb k hk
    rcases q3 with h | ⟨b', o', e, hne, hc⟩
    · have := congrArg List.length h; rw [grpN_length] at this; simp at this; omega
    · refine ⟨b', o', e, ?_⟩
      rw [SameOn.cell (R := fun k => k ≠ b) hb.2.1 hne (o' + k), hc k (by rw [grpN_length]; exact hk), getD_of k (by rw [grpN_length]; exact hk)]
  clear hG q3
  go_enter Tryd.func110, Tryd.ntmps110
  go_wp2_with fail
  go_loopw [5, 10] (fun o j wr => ∃ (k ow : Nat) (ls : List Nat), j = .int .i64 k ∧ o = .int .u64 ow ∧ k ≤ mm ∧ ow ≤ 2 ∧ Hid (GrA wr b ls) ∧ Hid (ls.length = M) ∧ Hid (∀ k, ls.getD k 0 < 1000000000) ∧
      Hid (∀ t, t < i ∨ i + k ≤ t → ls.getD t 0 = (grpN M V).getD t 0) ∧ Hid (ga ls i k + ow * 1000000000 ^ k = ga (grpN M V) i k + ga (grpN mm s) 0 k) ∧ Hid (Wr b w wr)) (fun _ j _ => mm - (intOf j).toNat)
  case atStart => exact ⟨0, 0, _, rfl, rfl, Nat.zero_le _, Nat.zero_le _, HG.out, grpN_length _ _, grpN_small M V, fun _ _ => rfl, by show _ = _; simp [ga], Wr.refl _ _⟩
  case round =>
    obtain ⟨k, ow, ls, rfl, rfl, hk, how, HL, HLen, HSm, HOut, HEq, HW⟩ := hrel
    by_cases hlt : k < mm
    · obtain ⟨b', o', hab, g0⟩ := HS.out wr HW.out k hlt
      subst hab
      obtain ⟨g, HGg⟩ : ∃ g : Nat, Hid ((grpN mm s).getD k 0 = g) := ⟨_, rfl⟩
      have hg9 : g < 1000000000 := by rw [← HGg.out]; exact grpN_small mm s k
      rw [HGg.out] at g0
      have hik : i + k < ls.length := by rw [HLen.out]; omega
      have g1 := HL.out.get (i + k) hik
      have f1 := HL.out.frozen (i + k)
      obtain ⟨x, HX⟩ : ∃ x : Nat, Hid (ls.getD (i + k) 0 = x) := ⟨_, rfl⟩
      have hx9 : x < 1000000000 := by rw [← HX.out]; exact HSm.out _
      have HXV : Hid ((grpN M V).getD (i + k) 0 = x) := by show _ = _; rw [← HX.out]; exact (HOut.out (i + k) (Or.inr (Nat.le_refl _))).symm
      rw [getD_of (i + k) hik, HX.out] at g1
      obtain ⟨z, HZ⟩ : ∃ z : Nat, Hid (ow + (x + g) = z) := ⟨_, rfl⟩
      have hzl : z ≤ 2000000000 := by rw [← HZ.out]; omega
      have hzI : (ow : Int) + ((x : Int) + (g : Int)) = (z : Int) := by have := HZ.out; omega
      obtain ⟨low, HLow⟩ : ∃ low : Nat, Hid (z % 1000000000 = low) := ⟨_, rfl⟩
      obtain ⟨ov, HOv⟩ : ∃ ov : Nat, Hid (z / 1000000000 = ov) := ⟨_, rfl⟩
      have hl9 : low < 1000000000 := by rw [← HLow.out]; exact Nat.mod_lt _ (by decide)
      have hov : ov ≤ 2 := by rw [← HOv.out]; omega
      have hw1 : (z : Int) % 1000000000 = (low : Int) := by have := HLow.out; omega
      have hw2 : (z : Int) / 1000000000 = (ov : Int) := by have := HOv.out; omega
      have HStep := hid (give_step HEq.out HZ.out)
      rw [HLow.out, HOv.out] at HStep
      have hnlI : (k : Int) < (nl : Int) := by omega
      have HR : Hid ((∀ t, (ls.set (i + k) low).getD t 0 < 1000000000) ∧ (∀ t, t < i ∨ i + (k + 1) ≤ t → (ls.set (i + k) low).getD t 0 = (grpN M V).getD t 0) ∧
          ga (ls.set (i + k) low) i (k + 1) + ov * 1000000000 ^ (k + 1) = ga (grpN M V) i (k + 1) + ga (grpN mm s) 0 (k + 1)) := by
        refine ⟨fun t => ?_, fun t ht => ?_, ?_⟩
        · rw [getD_set hik]; split
          · exact hl9
          · exact HSm.out t
        · rw [getD_set hik, if_neg (by omega)]; exact HOut.out t (by omega)
        · rw [ga_set_past hik, ga, ga, Nat.zero_add, HGg.out, HXV.out, Nat.pow_succ]
          exact HStep.out
      go_wp2_with fail
      refine ⟨⟨k + 1, ov, ls.set (i + k) low, by go_num, by first | rfl | (congr 1), by omega, by omega, ?_, by show _ = _; rw [List.length_set]; exact HLen.out, HR.out.1, HR.out.2.1, HR.out.2.2, HW.out.set (i + k) _⟩, by simp [intOf]; omega⟩
      show GrA _ _ _
      exact HL.out.set (i + k) low
    · have hkm : k = mm := by omega
      subst hkm
      go_wp2_with fail
      go_ret
      exact ⟨ls, ow, ret_boolz (by simp), HL.out, HLen.out, HSm.out, HOut.out, HEq.out, HW.out⟩

/-- take, as numbers. -/
theorem take_any (M V s b i mm nl nc T : Nat) (vs : Value) (w : World) (hG : GrA w b (grpN M V)) (hs : RowOf .u64 (fun k => k ≠ b) w vs (grpN mm s)) (him : i + mm ≤ M) (hnl : mm ≤ nl) (hnc : nl ≤ nc) (hncm : nc ≤ 1000000) (hT : T < 1000000000)
    (hV : V < 1000000000 ^ (i + mm)) (hsl : s < 1000000000 ^ mm) :
    Calls Tryd.prog 109 #[.slice (some ⟨b, i, none⟩) nl nc, vs, .int .u64 T] w fun e w' => ∃ (Y ow : Nat), e = .returned (.bool (decide (0 < ow))) ∧ GrA w' b (grpN M (V % 1000000000 ^ i + 1000000000 ^ i * Y)) ∧ Y < 1000000000 ^ mm ∧
      Y + T * s = V / 1000000000 ^ i + ow * 1000000000 ^ mm ∧ Wr b w w' := by
  refine (take_list M V s b i mm nl nc T vs w hG hs him hnl hnc hncm hT).mono ?_
  rintro e w' ⟨ls, ow, rfl, h1, h2, h3, h4, h5, h6⟩
  refine ⟨ga ls i mm, ow, rfl, ?_, ga_lt h3 mm, ?_, h6⟩
  · rw [← grpN_turned h2 h3 him hV h4]; exact h1
  · rw [ga_grpN M V i mm him, ga_grpN mm s 0 mm (by omega), Nat.pow_zero, Nat.div_one, Nat.mod_eq_of_lt hsl, Nat.mod_eq_of_lt (Nat.div_lt_of_lt_mul (by rw [← Nat.pow_add]; exact hV))] at h5
    exact h5
/-- giveBack, as numbers. -/
theorem give_any (M V s b i mm nl nc : Nat) (vs : Value) (w : World) (hG : GrA w b (grpN M V)) (hs : RowOf .u64 (fun k => k ≠ b) w vs (grpN mm s)) (him : i + mm ≤ M) (hnl : mm ≤ nl) (hnc : nl ≤ nc) (hncm : nc ≤ 1000000)
    (hV : V < 1000000000 ^ (i + mm)) (hsl : s < 1000000000 ^ mm) :
    Calls Tryd.prog 110 #[.slice (some ⟨b, i, none⟩) nl nc, vs] w fun e w' => ∃ (Y ca : Nat), e = .returned (.bool (decide (0 < ca))) ∧ GrA w' b (grpN M (V % 1000000000 ^ i + 1000000000 ^ i * Y)) ∧ Y < 1000000000 ^ mm ∧
      Y + ca * 1000000000 ^ mm = V / 1000000000 ^ i + s ∧ Wr b w w' := by
  refine (give_list M V s b i mm nl nc vs w hG hs him hnl hnc hncm).mono ?_
  rintro e w' ⟨ls, ow, rfl, h1, h2, h3, h4, h5, h6⟩
  refine ⟨ga ls i mm, ow, rfl, ?_, ga_lt h3 mm, ?_, h6⟩
  · rw [← grpN_turned h2 h3 him hV h4]; exact h1
  · rw [ga_grpN M V i mm him, ga_grpN mm s 0 mm (by omega), Nat.pow_zero, Nat.div_one, Nat.mod_eq_of_lt hsl, Nat.mod_eq_of_lt (Nat.div_lt_of_lt_mul (by rw [← Nat.pow_add]; exact hV))] at h5
    exact h5
end Go.Proofs.YtakicnplmcemnaaDoor
