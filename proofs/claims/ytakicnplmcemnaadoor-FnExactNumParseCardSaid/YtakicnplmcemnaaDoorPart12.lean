/-
  The model's l12Make: a number of a sign, above and below. Condition: numerals of at most 1,000 digits.
  The model's l12Over: digits, a stroke, and digits. Condition: at most 480 bytes.
  The model's l12Point: digits with a point among them. Condition: at most 480 bytes.
  The model's l12Find: the first place of a byte. Condition: none.
  The model's NumParse. Condition: none.
-/
import Derived.Test.YtakicnplmcemnaaDoorPart11
import Derived.Test.YtakicnplmcemnaaDoorPart4
import Derived.Test.YtakicnplmcemnaaDoorPart5
import Derived.Deep.RegionHeld3
import Derived.Test.YtakicnplmcemnaaDoorPart1
import Derived.Lib.IndexLaws
namespace Go.Proofs.YtakicnplmcemnaaDoor
open Go.RowKit Go.Siskin

abbrev noNum : Value := .tuple #[.agg #[.bool false, .string ⟨#[]⟩, .string ⟨#[]⟩], .bool false]
def makeV (neg : Bool) (u d : Nat) : Value := if d = 0 then noNum else closedV neg (u / Nat.gcd u d) (d / Nat.gcd u d)

set_option maxRecDepth 20000 in
set_option maxHeartbeats 1000000 in
theorem l12Make_any (neg : Bool) (u d : Nat) (w : World) (hu : Lib.nDigits u ≤ 1000) (hd : Lib.nDigits d ≤ 1000) :
    Calls Tryd.prog 46 #[.bool neg, .string (dec u), .string (dec d)] w fun e w' => e = .returned (makeV neg u d) ∧ Below w.heap.size w w' := by
  have HBw : Hid (Below (w.heap.size + 1) (w.alloc (.cells #[.bool false, .string ⟨#[]⟩, .string ⟨#[]⟩] 26)) (w.alloc (.cells #[.bool false, .string ⟨#[]⟩, .string ⟨#[]⟩] 26))) := Below.refl _ _
  obtain ⟨n0, n1, n2⟩ := res3 HBw.out
  obtain ⟨f0, f1, f2⟩ := res3f HBw.out
  have hzd := nought_text d
  by_cases hd0 : d = 0
  · rw [decide_eq_true hd0] at hzd
    have HV : Hid (makeV neg u d = noNum) := by show _ = _; unfold makeV; rw [if_pos hd0]
    rw [HV.out]
    clear hd0 hu hd
    generalize dec u = ut at *
    generalize dec d = dt at *
    go_enter Tryd.func46, Tryd.ntmps46
    go_wp2_with fail
    refine bodyPost_ret (v := noNum) (by simp [results, Tryd.results46, go_sem, n0, n1, n2]) rfl ⟨rfl, ?_⟩
    first | exact res_done HBw.out | exact below3 (res_done HBw.out) _ _ _
  · rw [decide_eq_false hd0] at hzd
    obtain ⟨G, HG⟩ : ∃ G : Nat, Hid (Nat.gcd u d = G) := ⟨_, rfl⟩
    have HGc := hid (fun w => l11Gcd_any u d w (by omega) (by omega))
    have hG0 : 0 < G := by rw [← HG.out]; exact Nat.gcd_pos_of_pos_right _ (by omega)
    have hGd : Lib.nDigits G ≤ 1000 := Nat.le_trans (nDigits_mono (by rw [← HG.out]; exact Nat.gcd_le_right _ (by omega))) hd
    rw [HG.out] at HGc
    have HDu := hid (fun w => l11Div_any u G w (by omega) (by omega) hG0)
    have HDd := hid (fun w => l11Div_any d G w (by omega) (by omega) hG0)
    obtain ⟨A, HA⟩ : ∃ A : Nat, Hid (u / G = A) := ⟨_, rfl⟩
    obtain ⟨B, HB⟩ : ∃ B : Nat, Hid (d / G = B) := ⟨_, rfl⟩
    have HV : Hid (makeV neg u d = if (dec A).size ≤ 60 ∧ (dec B).size ≤ 60 then .tuple #[.agg #[.bool (neg && !(A == 0)), .string (dec A), .string (dec B)], .bool true] else noNum) := by
      show _ = _
      unfold makeV
      rw [if_neg hd0, HG.out, HA.out, HB.out, dec_size, dec_size]
      rfl
    have hza := nought_text A
    have hqa : (A == 0) = decide (A = 0) := by rw [Bool.eq_iff_iff]; simp
    rw [hqa] at HV
    rw [HV.out]
    rw [HA.out] at HDu
    rw [HB.out] at HDd
    generalize decide (A = 0) = az at *
    generalize dec A = aT at *
    generalize dec B = bT at *
    generalize dec (u % G) = um at *
    generalize dec (d % G) = dm at *
    generalize dec G = gt at *
    generalize dec u = ut at *
    generalize dec d = dt at *
    obtain ⟨ZV, HZV⟩ : ∃ Z, Hid ((if aT.size ≤ 60 ∧ bT.size ≤ 60 then Value.tuple #[.agg #[.bool (neg && !az), .string aT, .string bT], .bool true] else noNum) = Z) := ⟨_, rfl⟩
    rw [HZV.out]
    clear hd0 hu hd hG0 hGd hqa
    have hzn : (aT.toList != [48]) = !az := by rw [bne, hza]
    have hparts : 60 < aT.size ∨ (¬ 60 < aT.size ∧ 60 < bT.size) ∨ (¬ 60 < aT.size ∧ ¬ 60 < bT.size) := by omega
    rcases hparts with h1 | ⟨h1, h2⟩ | ⟨h1, h2⟩
    · have HE : Hid (ZV = noNum) := by show _ = _; rw [← HZV.out, if_neg (by omega)]
      go_enter Tryd.func46, Tryd.ntmps46
      go_wp2_with fail
      refine (HGc.out _).mono ?_
      rintro e w1 ⟨rfl, hw1⟩
      have HB1 := hid (res_step HBw.out hw1)
      clear hw1
      go_wp2_with fail
      refine (HDu.out _).mono ?_
      rintro e w2 ⟨rfl, hw2⟩
      have HB2 := hid (res_step HB1.out hw2)
      clear hw2
      go_wp2_with fail
      refine (HDd.out _).mono ?_
      rintro e w3 ⟨rfl, hw3⟩
      have HB3 := hid (res_step HB2.out hw3)
      clear hw3 n0 n1 n2 f0 f1 f2
      obtain ⟨n0, n1, n2⟩ := res3 HB3.out
      obtain ⟨f0, f1, f2⟩ := res3f HB3.out
      go_wp2_with fail
      refine bodyPost_ret (v := noNum) (by simp [results, Tryd.results46, go_sem, n0, n1, n2]) rfl ⟨by rw [HE.out], ?_⟩
      first | exact res_done HB3.out | exact below3 (res_done HB3.out) _ _ _
    · have HE : Hid (ZV = noNum) := by show _ = _; rw [← HZV.out, if_neg (by omega)]
      go_enter Tryd.func46, Tryd.ntmps46
      go_wp2_with fail
      refine (HGc.out _).mono ?_
      rintro e w1 ⟨rfl, hw1⟩
      have HB1 := hid (res_step HBw.out hw1)
      clear hw1
      go_wp2_with fail
      refine (HDu.out _).mono ?_
      rintro e w2 ⟨rfl, hw2⟩
      have HB2 := hid (res_step HB1.out hw2)
      clear hw2
      go_wp2_with fail
      refine (HDd.out _).mono ?_
      rintro e w3 ⟨rfl, hw3⟩
      have HB3 := hid (res_step HB2.out hw3)
      clear hw3 n0 n1 n2 f0 f1 f2
      obtain ⟨n0, n1, n2⟩ := res3 HB3.out
      obtain ⟨f0, f1, f2⟩ := res3f HB3.out
      go_wp2_with fail
      refine bodyPost_ret (v := noNum) (by simp [results, Tryd.results46, go_sem, n0, n1, n2]) rfl ⟨by rw [HE.out], ?_⟩
      first | exact res_done HB3.out | exact below3 (res_done HB3.out) _ _ _
    · have HE : Hid (ZV = .tuple #[.agg #[.bool (neg && !az), .string aT, .string bT], .bool true]) := by show _ = _; rw [← HZV.out, if_pos (by omega)]
      cases neg <;> cases az
      all_goals
        go_enter Tryd.func46, Tryd.ntmps46
        go_wp2_with fail
        refine (HGc.out _).mono ?_
        rintro e w1 ⟨rfl, hw1⟩
        have HB1 := hid (res_step HBw.out hw1)
        clear hw1
        go_wp2_with fail
        refine (HDu.out _).mono ?_
        rintro e w2 ⟨rfl, hw2⟩
        have HB2 := hid (res_step HB1.out hw2)
        clear hw2
        go_wp2_with fail
        refine (HDd.out _).mono ?_
        rintro e w3 ⟨rfl, hw3⟩
        have HB3 := hid (res_step HB2.out hw3)
        clear hw3 n0 n1 n2 f0 f1 f2
        obtain ⟨n0, n1, n2⟩ := res3 HB3.out
        obtain ⟨f0, f1, f2⟩ := res3f HB3.out
        go_wp2_with fail
        refine bodyPost_ret (v := .tuple #[.agg #[.bool _, .string aT, .string bT], .bool true]) (by simp [results, Tryd.results46, go_sem, n0, n1, n2]; rfl) rfl ⟨by rw [HE.out]; rfl, ?_⟩
        first | exact res_done HB3.out | exact below3 (res_done HB3.out) _ _ _
end Go.Proofs.YtakicnplmcemnaaDoor

namespace Go.Proofs.YtakicnplmcemnaaDoor
open Go.RowKit Go.Siskin

theorem makeV_form (neg : Bool) (u d : Nat) : ∃ (a : Bool) (x y : ByteArray) (b : Bool), makeV neg u d = .tuple #[.agg #[.bool a, .string x, .string y], .bool b] := by
  unfold makeV closedV
  split
  · exact ⟨_, _, _, _, rfl⟩
  · split
    · exact ⟨_, _, _, _, rfl⟩
    · exact ⟨_, _, _, _, rfl⟩
theorem list_cut0 (s : ByteArray) (k : Nat) : (s.extract 0 k).data.toList = s.data.toList.take k := by simp
theorem list_cut1 (s : ByteArray) (k : Nat) : (s.extract k s.size).data.toList = s.data.toList.drop k := by
  simp
  exact List.take_of_length_le (by simp)
theorem valR_lim {R : Nat} (hR : R ≤ 16) {l : List UInt8} (hl : l.length ≤ 480) : Lib.nDigits (if okR R l = true then valR R l else 0) ≤ 1000 := by
  split
  · rename_i h
    unfold okR at h
    rw [Bool.and_eq_true, List.all_eq_true] at h
    have := valR_digits hR (l := l) (fun c hc => of_decide_eq_true (h.2 c hc))
    omega
  · rw [Lib.nDigits_small (by decide)]; decide

def overV (neg : Bool) (R : Nat) (a b : List UInt8) : Value := if okR R a = true ∧ okR R b = true then makeV neg (valR R a) (valR R b) else noNum

set_option maxRecDepth 20000 in
set_option maxHeartbeats 1000000 in
theorem l12Over_any (neg : Bool) (s : ByteArray) (k R : Nat) (w : World) (hs : s.size ≤ 480) (hk : k < s.size) (hR : RadP R) :
    Calls Tryd.prog 43 #[.bool neg, .string s, .int .i64 k, .int .i64 R] w fun e w' => e = .returned (overV neg R (s.data.toList.take k) (s.data.toList.drop (k + 1))) ∧ Below w.heap.size w w' := by
  have HBw : Hid (Below (w.heap.size + 1) (w.alloc (.cells #[.bool false, .string ⟨#[]⟩, .string ⟨#[]⟩] 26)) (w.alloc (.cells #[.bool false, .string ⟨#[]⟩, .string ⟨#[]⟩] 26))) := Below.refl _ _
  have HA := hid (fun w => l12Nat_any (s.extract 0 k) R w (by simp; omega) hR)
  have HB := hid (fun w => l12Nat_any (s.extract (k + 1) s.size) R w (by simp; omega) hR)
  rw [list_cut0] at HA
  rw [list_cut1] at HB
  have hla : (s.data.toList.take k).length ≤ 480 := by rw [List.length_take]; simp; omega
  have hlb : (s.data.toList.drop (k + 1)).length ≤ 480 := by rw [List.length_drop]; simp; omega
  have hda := valR_lim (rad_two hR).2 hla
  have hdb := valR_lim (rad_two hR).2 hlb
  have HMk := hid (fun w => l12Make_any neg _ _ w hda hdb)
  have HOv : Hid (overV neg R (s.data.toList.take k) (s.data.toList.drop (k + 1)) = if okR R (s.data.toList.take k) = true ∧ okR R (s.data.toList.drop (k + 1)) = true then makeV neg (if okR R (s.data.toList.take k) = true then valR R (s.data.toList.take k) else 0) (if okR R (s.data.toList.drop (k + 1)) = true then valR R (s.data.toList.drop (k + 1)) else 0) else noNum) := by
    show _ = _
    unfold overV
    split
    · rename_i h; rw [if_pos h.1, if_pos h.2]
    · rfl
  rw [HOv.out]
  obtain ⟨ma, mx, my, mb, hmf⟩ := makeV_form neg (if okR R (s.data.toList.take k) = true then valR R (s.data.toList.take k) else 0) (if okR R (s.data.toList.drop (k + 1)) = true then valR R (s.data.toList.drop (k + 1)) else 0)
  rw [hmf] at HMk ⊢
  clear hmf HOv hla hlb hda hdb hR
  generalize (if okR R (s.data.toList.take k) = true then valR R (s.data.toList.take k) else 0) = u at *
  generalize (if okR R (s.data.toList.drop (k + 1)) = true then valR R (s.data.toList.drop (k + 1)) else 0) = d at *
  generalize okR R (s.data.toList.take k) = oa at *
  generalize okR R (s.data.toList.drop (k + 1)) = ob at *
  generalize dec u = ut at *
  generalize dec d = dt at *
  obtain ⟨ZV, HZV⟩ : ∃ Z, Hid ((if oa = true ∧ ob = true then Value.tuple #[.agg #[.bool ma, .string mx, .string my], .bool mb] else noNum) = Z) := ⟨_, rfl⟩
  rw [HZV.out]
  cases oa <;> cases ob
  all_goals
    go_enter Tryd.func43, Tryd.ntmps43
    go_wp2_with fail
    refine (HA.out _).mono ?_
    rintro e w1 ⟨rfl, hw1⟩
    have HB1 := hid (res_step HBw.out hw1)
    clear hw1
    go_wp2_with fail
    refine (HB.out _).mono ?_
    rintro e w2 ⟨rfl, hw2⟩
    have HB2 := hid (res_step HB1.out hw2)
    clear hw2
    obtain ⟨n0, n1, n2⟩ := res3 HB2.out
    obtain ⟨f0, f1, f2⟩ := res3f HB2.out
    go_wp2_with fail
  all_goals first
    | (refine bodyPost_ret (v := noNum) (by simp [results, Tryd.results43, go_sem, n0, n1, n2]) rfl ⟨by rw [← HZV.out]; rfl, ?_⟩
       first | exact res_done HB2.out | exact below3 (res_done HB2.out) _ _ _)
    | (refine (HMk.out _).mono ?_
       rintro e w3 ⟨rfl, hw3⟩
       have HB3 := hid (res_step HB2.out hw3)
       clear hw3 n0 n1 n2 f0 f1 f2
       obtain ⟨n0, n1, n2⟩ := res3 HB3.out
       obtain ⟨f0, f1, f2⟩ := res3f HB3.out
       go_wp2_with fail
       refine bodyPost_ret (v := .tuple #[.agg #[.bool ma, .string mx, .string my], .bool mb]) (by simp [results, Tryd.results43, go_sem, n0, n1, n2]) rfl ⟨by rw [← HZV.out]; rfl, ?_⟩
       first | exact res_done HB3.out | exact below3 (res_done HB3.out) _ _ _)
end Go.Proofs.YtakicnplmcemnaaDoor

namespace Go.Proofs.YtakicnplmcemnaaDoor
open Go.RowKit Go.Siskin

theorem dec_noughts (j : Nat) : dec (10 ^ j) ++ ⟨#[48]⟩ = dec (10 ^ (j + 1)) := by
  have h1 : ¬ 10 ^ (j + 1) < 10 := by
    have : 0 < 10 ^ j := Nat.pow_pos (by decide)
    rw [Nat.pow_succ]; omega
  rw [dec_big h1, Nat.pow_succ, Nat.mul_div_cancel _ (by decide), Nat.mul_mod_left]
  rfl
theorem list_cut2 (s : ByteArray) (k : Nat) : (s.extract 0 k ++ s.extract (k + 1) s.size).data.toList = s.data.toList.take k ++ s.data.toList.drop (k + 1) := by
  rw [← list_cut0, ← list_cut1]; simp

def pointV (neg : Bool) (a b : List UInt8) : Value := if okR 10 (a ++ b) = true then makeV neg (valR 10 (a ++ b)) (10 ^ b.length) else noNum

set_option maxRecDepth 20000 in
set_option maxHeartbeats 1000000 in
theorem l12Point_any (neg : Bool) (s : ByteArray) (k : Nat) (w : World) (hs : s.size ≤ 480) (hk : k < s.size) :
    Calls Tryd.prog 44 #[.bool neg, .string s, .int .i64 k] w fun e w' => e = .returned (pointV neg (s.data.toList.take k) (s.data.toList.drop (k + 1))) ∧ Below w.heap.size w w' := by
  have HBw : Hid (Below (w.heap.size + 1) (w.alloc (.cells #[.bool false, .string ⟨#[]⟩, .string ⟨#[]⟩] 26)) (w.alloc (.cells #[.bool false, .string ⟨#[]⟩, .string ⟨#[]⟩] 26))) := Below.refl _ _
  have HA := hid (fun w => l12Nat_any (s.extract 0 k ++ s.extract (k + 1) s.size) 10 w (by simp; omega) (by unfold RadP; omega))
  rw [list_cut2] at HA
  have hsz : (s.extract 0 k).size + (s.extract (k + 1) s.size).size ≤ 480 := by simp; omega
  have hla : (s.data.toList.take k ++ s.data.toList.drop (k + 1)).length ≤ 480 := by rw [List.length_append, List.length_take, List.length_drop]; simp; omega
  have hda := valR_lim (R := 10) (by decide) hla
  obtain ⟨n, HN⟩ : ∃ n : Nat, Hid (s.size - (k + 1) = n) := ⟨_, rfl⟩
  have hn : k + 1 + n = s.size := by have := HN.out; omega
  have hnd : (s.data.toList.drop (k + 1)).length = n := by rw [List.length_drop, ← HN.out]; simp
  have hk0 : (0 : Int) ≤ (k : Int) := by omega
  have hk1 : (k : Int) ≤ (s.size : Int) := by omega
  have hk2 : IntKind.i64.wrap ((k : Int) + 1) = (k : Int) + 1 := by simp [IntKind.wrap, IntKind.bits, IntKind.signed]; omega
  have hk3 : (0 : Int) ≤ (k : Int) + 1 := by omega
  have hk4 : (k : Int) + 1 ≤ (s.size : Int) := by omega
  obtain ⟨X, hX⟩ : ∃ X, s.extract 0 k = X := ⟨_, rfl⟩
  obtain ⟨Y, hY⟩ : ∃ Y, s.extract (k + 1) s.size = Y := ⟨_, rfl⟩
  rw [hX, hY] at HA hsz
  have hn1 : ¬ ((9223372036854775807 : Nat) < X.size + Y.size) := by omega
  have hdb : Lib.nDigits (10 ^ n) ≤ 1000 := Nat.le_trans (nDigits_le (m := n + 1) (Nat.pow_lt_pow_right (by decide) (Nat.lt_succ_self _)) (by omega)) (by omega)
  have HMk := hid (fun w => l12Make_any neg _ _ w hda hdb)
  have HOv : Hid (pointV neg (s.data.toList.take k) (s.data.toList.drop (k + 1)) = if okR 10 (s.data.toList.take k ++ s.data.toList.drop (k + 1)) = true then makeV neg (if okR 10 (s.data.toList.take k ++ s.data.toList.drop (k + 1)) = true then valR 10 (s.data.toList.take k ++ s.data.toList.drop (k + 1)) else 0) (10 ^ n) else noNum) := by
    show _ = _
    unfold pointV
    rw [hnd]
    split
    · rfl
    · rfl
  rw [HOv.out]
  obtain ⟨ma, mx, my, mb, hmf⟩ := makeV_form neg (if okR 10 (s.data.toList.take k ++ s.data.toList.drop (k + 1)) = true then valR 10 (s.data.toList.take k ++ s.data.toList.drop (k + 1)) else 0) (10 ^ n)
  rw [hmf] at HMk ⊢
  clear hmf HOv hla hda hdb hnd
  generalize (if okR 10 (s.data.toList.take k ++ s.data.toList.drop (k + 1)) = true then valR 10 (s.data.toList.take k ++ s.data.toList.drop (k + 1)) else 0) = u at *
  generalize okR 10 (s.data.toList.take k ++ s.data.toList.drop (k + 1)) = oa at *
  generalize dec u = ut at *
  obtain ⟨ZV, HZV⟩ : ∃ Z, Hid ((if oa = true then Value.tuple #[.agg #[.bool ma, .string mx, .string my], .bool mb] else noNum) = Z) := ⟨_, rfl⟩
  rw [HZV.out]
  cases oa
  · go_enter Tryd.func44, Tryd.ntmps44
    go_wp2_with fail
    go_region_held3 (fun _ => True) (exact trivial)
      (first
        | (go_at_call 45
           go_loud (
            refine (HA.out _).mono ?_
            rintro e w1 ⟨rfl, hw1⟩
            have HB2 := hid (by first | exact res_step HBw.out hw1 | exact res_step HBw.out.drew hw1)
            clear hw1)))
    obtain ⟨n0, n1, n2⟩ := res3 HB2.out
    obtain ⟨f0, f1, f2⟩ := res3f HB2.out
    go_wp2_with fail
    refine bodyPost_ret (v := noNum) (by simp [results, Tryd.results44, go_sem, n0, n1, n2]) rfl ⟨by rw [← HZV.out]; rfl, ?_⟩
    first | exact res_done HB2.out | exact below3 (res_done HB2.out) _ _ _
  · go_enter Tryd.func44, Tryd.ntmps44
    go_wp2_with fail
    go_region_held3 (fun _ => True) (exact trivial)
      (first
        | (go_at_call 45
           go_loud (
            refine (HA.out _).mono ?_
            rintro e w1 ⟨rfl, hw1⟩
            have HB2 := hid (by first | exact res_step HBw.out hw1 | exact res_step HBw.out.drew hw1)
            clear hw1)))
    go_wp2_with fail
    go_loopw [10, 11] (fun dn i wr => ∃ j : Nat, dn = .string (dec (10 ^ j)) ∧ i = .int .i64 ((k + 1 + j : Nat) : Int) ∧ j ≤ n ∧ wr = w1) (fun _ i _ => s.size - (intOf i).toNat)
    case atStart => exact ⟨0, by rw [Nat.pow_zero, dec_one], by go_num, Nat.zero_le _, rfl⟩
    case round =>
      obtain ⟨j, rfl, rfl, hj, hw⟩ := hrel
      obtain rfl := hw.symm
      by_cases hlt : j < n
      · have hlt2 : k + 1 + j < s.size := by omega
        have HS := hid (dec_noughts j)
        have hds : (dec (10 ^ j)).size ≤ 481 := by
          rw [dec_size]
          exact Nat.le_trans (nDigits_le (m := j + 1) (Nat.pow_lt_pow_right (by decide) (Nat.lt_succ_self _)) (by omega)) (by omega)
        go_wp2_with fail
        exact ⟨⟨j + 1, by rw [← HS.out], by go_num, by omega, trivial⟩, by simp [intOf]; omega⟩
      · obtain rfl : j = n := by omega
        have hlt2 : ¬ k + 1 + j < s.size := by omega
        go_wp2_with fail
        refine (HMk.out _).mono ?_
        rintro e w3 ⟨rfl, hw3⟩
        have HB3 := hid (res_step HB2.out hw3)
        clear hw3
        obtain ⟨n0, n1, n2⟩ := res3 HB3.out
        obtain ⟨f0, f1, f2⟩ := res3f HB3.out
        go_wp2_with fail
        refine bodyPost_ret (v := .tuple #[.agg #[.bool ma, .string mx, .string my], .bool mb]) (by simp [results, Tryd.results44, go_sem, n0, n1, n2]) rfl ⟨by rw [← HZV.out]; rfl, ?_⟩
        first | exact res_done HB3.out | exact below3 (res_done HB3.out) _ _ _
end Go.Proofs.YtakicnplmcemnaaDoor

namespace Go.Proofs.YtakicnplmcemnaaDoor
open Go.RowKit Go.Siskin

theorem indexByte_at {l : List UInt8} {c : UInt8} {k : Nat} (h : l[k]? = some c) (hm : ∀ j, j < k → l[j]? ≠ some c) : Lib.indexByte l c = k := by
  have hge := Lib.indexByte_ge l c
  by_cases h1 : Lib.indexByte l c = -1
  · exact absurd h (Lib.indexByte_none h1 k)
  · obtain ⟨o, ho⟩ : ∃ o : Nat, Lib.indexByte l c = o := ⟨(Lib.indexByte l c).toNat, by omega⟩
    have h2 := Lib.indexByte_some ho
    rcases Nat.lt_trichotomy o k with h3 | h3 | h3
    · exact absurd h2.1 (hm o h3)
    · rw [ho, h3]
    · exact absurd h (h2.2 k h3)
theorem indexByte_no {l : List UInt8} {c : UInt8} (h : ∀ k : Nat, l[k]? ≠ some c) : Lib.indexByte l c = -1 := by
  have hge := Lib.indexByte_ge l c
  by_cases h1 : Lib.indexByte l c = -1
  · exact h1
  · obtain ⟨o, ho⟩ : ∃ o : Nat, Lib.indexByte l c = o := ⟨(Lib.indexByte l c).toNat, by omega⟩
    exact absurd (Lib.indexByte_some ho).1 (h o)

set_option maxRecDepth 20000 in
set_option maxHeartbeats 1000000 in
theorem l12Find_any (s : ByteArray) (b : UInt8) (w : World) (hs : s.size ≤ 1000000) :
    Calls Tryd.prog 42 #[.string s, .int .u8 (b.toNat : Int)] w fun e w' => e = .returned (.int .i64 (Lib.indexByte s.data.toList b)) ∧ w' = w := by
  have HAt : Hid (∀ k (h : k < s.size), s.data.toList[k]? = some (s[k]'h)) := fun k h => by
    rw [List.getElem?_eq_getElem (by simpa using h)]
    simp [ByteArray.getElem_eq_getElem_data]
  have HLen : Hid (s.data.toList.length = s.size) := by show _ = _; simp
  obtain ⟨l, HL⟩ : ∃ l, Hid (s.data.toList = l) := ⟨_, rfl⟩
  rw [HL.out] at HAt HLen ⊢
  obtain ⟨V, HV⟩ : ∃ V, Hid (Lib.indexByte l b = V) := ⟨_, rfl⟩
  rw [HV.out]
  go_enter Tryd.func42, Tryd.ntmps42
  go_wp2_with fail
  go_loopw [5] (fun i wr => ∃ k : Nat, i = .int .i64 k ∧ k ≤ s.size ∧ Hid (∀ j, j < k → l[j]? ≠ some b) ∧ wr = w) (fun i _ => s.size - (intOf i).toNat)
  case atStart => exact ⟨0, rfl, Nat.zero_le _, fun j h => by omega, rfl⟩
  case round =>
    obtain ⟨k, rfl, hk, HM, hw⟩ := hrel
    obtain rfl := hw.symm
    by_cases hlt : k < s.size
    · by_cases he : s[k]'hlt = b
      · have HR : Hid (Lib.indexByte l b = (k : Int)) := indexByte_at (by rw [HAt.out k hlt, he]) HM.out
        have heb : (((s[k]'hlt).toNat : Int) == (b.toNat : Int)) = true := by rw [he]; simp
        clear he
        go_wp2_with fail
        go_ret
        exact ⟨ret_intz (by rw [← HV.out, HR.out]), rfl⟩
      · have heb : (((s[k]'hlt).toNat : Int) == (b.toNat : Int)) = false := by
          rw [beq_eq_false_iff_ne]; intro e; exact he (UInt8.toNat_inj.1 (by omega))
        have HM2 : Hid (∀ j, j < k + 1 → l[j]? ≠ some b) := fun j h => by
          by_cases e : j = k
          · subst e; rw [HAt.out j hlt]; exact fun e2 => he (Option.some.inj e2)
          · exact HM.out j (by omega)
        clear he
        go_wp2_with fail
        exact ⟨⟨k + 1, by go_num, by omega, HM2.out, trivial⟩, by simp [intOf]; omega⟩
    · have HR : Hid (Lib.indexByte l b = -1) := indexByte_no fun j => by
        rcases Nat.lt_or_ge j k with h | h
        · exact HM.out j h
        · rw [List.getElem?_eq_none (by rw [HLen.out]; omega)]; simp
      go_wp2_with fail
      go_ret
      exact ⟨ret_intz (by rw [← HV.out, HR.out]), rfl⟩
end Go.Proofs.YtakicnplmcemnaaDoor

namespace Go.Proofs.YtakicnplmcemnaaDoor
open Go.RowKit Go.Siskin

/-- The sign ahead, and what is behind it. -/
def signV (t : ByteArray) : Bool × ByteArray := if h : 0 < t.size then (if t[0] = 45 then (true, t.extract 1 t.size) else if t[0] = 43 then (false, t.extract 1 t.size) else (false, t)) else (false, t)
def bodyV (N : Bool) (R : Nat) (l : List UInt8) : Value :=
  if 0 ≤ Lib.indexByte l 47 then overV N R (l.take (Lib.indexByte l 47).toNat) (l.drop ((Lib.indexByte l 47).toNat + 1))
  else if 0 ≤ Lib.indexByte l 46 ∧ R = 10 then pointV N (l.take (Lib.indexByte l 46).toNat) (l.drop ((Lib.indexByte l 46).toNat + 1))
  else if okR R l = true then makeV N (valR R l) 1 else noNum
theorem find_parts (l : List UInt8) (c : UInt8) : Lib.indexByte l c = -1 ∨ ∃ k : Nat, Lib.indexByte l c = k ∧ k < l.length := by
  have hge := Lib.indexByte_ge l c
  by_cases h1 : Lib.indexByte l c = -1
  · exact Or.inl h1
  · obtain ⟨o, ho⟩ : ∃ o : Nat, Lib.indexByte l c = o := ⟨(Lib.indexByte l c).toNat, by omega⟩
    have h2 := (Lib.indexByte_some ho).1
    exact Or.inr ⟨o, ho, (List.getElem?_eq_some_iff.1 h2).1⟩
theorem body_parts (N : Bool) (R : Nat) (l : List UInt8) :
    (∃ k : Nat, Lib.indexByte l 47 = k ∧ k < l.length ∧ bodyV N R l = overV N R (l.take k) (l.drop (k + 1))) ∨
    (∃ k : Nat, Lib.indexByte l 47 = -1 ∧ Lib.indexByte l 46 = k ∧ k < l.length ∧ R = 10 ∧ bodyV N R l = pointV N (l.take k) (l.drop (k + 1))) ∨
    (Lib.indexByte l 47 = -1 ∧ (Lib.indexByte l 46 = -1 ∨ (∃ k : Nat, Lib.indexByte l 46 = k) ∧ R ≠ 10) ∧ bodyV N R l = if okR R l = true then makeV N (valR R l) 1 else noNum) := by
  rcases find_parts l 47 with h | ⟨k, h, hk⟩
  · rcases find_parts l 46 with h2 | ⟨k, h2, hk⟩
    · exact Or.inr (Or.inr ⟨h, Or.inl h2, by unfold bodyV; rw [h, h2, if_neg (by decide), if_neg (fun e => absurd e.1 (by decide))]⟩)
    · by_cases hR : R = 10
      · exact Or.inr (Or.inl ⟨k, h, h2, hk, hR, by unfold bodyV; rw [h, h2, if_neg (by decide), if_pos ⟨by omega, hR⟩, Int.toNat_natCast]⟩)
      · exact Or.inr (Or.inr ⟨h, Or.inr ⟨⟨k, h2⟩, hR⟩, by unfold bodyV; rw [h, if_neg (by decide), if_neg (fun e => hR e.2)]⟩)
  · exact Or.inl ⟨k, h, hk, by unfold bodyV; rw [h, if_pos (by omega), Int.toNat_natCast]⟩
theorem overV_form (N : Bool) (R : Nat) (a b : List UInt8) : ∃ (n : Bool) (x y : ByteArray) (o : Bool), overV N R a b = .tuple #[.agg #[.bool n, .string x, .string y], .bool o] := by
  unfold overV
  split
  · exact makeV_form _ _ _
  · exact ⟨_, _, _, _, rfl⟩
theorem pointV_form (N : Bool) (a b : List UInt8) : ∃ (n : Bool) (x y : ByteArray) (o : Bool), pointV N a b = .tuple #[.agg #[.bool n, .string x, .string y], .bool o] := by
  unfold pointV
  split
  · exact makeV_form _ _ _
  · exact ⟨_, _, _, _, rfl⟩
theorem sign_parts (t : ByteArray) : (t.size = 0 ∧ signV t = (false, t)) ∨ (∃ h : 0 < t.size, (((t[0]'h).toNat : Int) == 45) = true ∧ signV t = (true, t.extract 1 t.size)) ∨
    (∃ h : 0 < t.size, (((t[0]'h).toNat : Int) == 45) = false ∧ (((t[0]'h).toNat : Int) == 43) = true ∧ signV t = (false, t.extract 1 t.size)) ∨
    (∃ h : 0 < t.size, (((t[0]'h).toNat : Int) == 45) = false ∧ (((t[0]'h).toNat : Int) == 43) = false ∧ signV t = (false, t)) := by
  have key : ∀ (a b : UInt8), a ≠ b → ((a.toNat : Int) == (b.toNat : Int)) = false := fun a b h => by
    rw [beq_eq_false_iff_ne]; intro e; exact h (UInt8.toNat_inj.1 (by omega))
  by_cases h : 0 < t.size
  · by_cases h1 : t[0]'h = 45
    · exact Or.inr (Or.inl ⟨h, by rw [h1]; rfl, by unfold signV; rw [dif_pos h, if_pos h1]⟩)
    · by_cases h2 : t[0]'h = 43
      · exact Or.inr (Or.inr (Or.inl ⟨h, key _ 45 h1, by rw [h2]; rfl, by unfold signV; rw [dif_pos h, if_neg h1, if_pos h2]⟩))
      · exact Or.inr (Or.inr (Or.inr ⟨h, key _ 45 h1, key _ 43 h2, by unfold signV; rw [dif_pos h, if_neg h1, if_neg h2]⟩))
  · exact Or.inl ⟨by omega, by unfold signV; rw [dif_neg h]⟩
end Go.Proofs.YtakicnplmcemnaaDoor
