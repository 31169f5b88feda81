/-
  The model's NumParse. Condition: none.
  The program's readFraction. Condition: at most 240 bytes, a radix of the four, the table of powers stands.
  The model's NumParse where it says no; the program's NumParse there. Condition: none.
  The program's NumParse; the law FnExactNumParse. Condition: the table of powers stands.
  The table of powers of ten as the card lists it, and as the walks read it.
-/
import Derived.Test.YtakicnplmcemnaaDoorPart12
import Derived.Test.YtakicnplmcemnaaDoorPart14
import Derived.Test.YtakicnplmcemnaaDoorRows
import Derived.Test.YtakicnplmcemnaaDoorPart1
import Derived.ProofKit
import Derived.OpenShut
import Derived.ShutString
import Derived.ChangeOld
import Derived.ChangeVars
import Derived.Below
import Derived.Carry
import Derived.LaidMore
import Derived.Stop.Joined
import Derived.Stop.LaidErr
import Derived.Lib.LaidTab
namespace Go.Proofs.YtakicnplmcemnaaDoor
open Go.RowKit Go.Siskin

set_option maxRecDepth 20000 in
set_option maxHeartbeats 4000000 in
theorem specNumParse_yes (t : ByteArray) (R : Nat) (w : World) (ht : t.size ≤ 240) (hR : RadP R) :
    Calls Tryd.prog 19 #[.string t, .int .i64 R] w fun e w' => e = .returned (bodyV (signV t).1 R (signV t).2.data.toList) ∧ Below w.heap.size w w' := by
  have HBw : Hid (Below (w.heap.size + 1) (w.alloc (.cells #[.bool false, .string ⟨#[]⟩, .string ⟨#[]⟩] 26)) (w.alloc (.cells #[.bool false, .string ⟨#[]⟩, .string ⟨#[]⟩] 26))) := Below.refl _ _
  obtain ⟨n0, n1, n2⟩ := res3 HBw.out
  obtain ⟨f0, f1, f2⟩ := res3f HBw.out
  have HRx := hid (fun w => l12Radix_any (R : Int) w)
  have hrb : radB (R : Int) = true := (radB_iff _).2 ⟨R, rfl, hR⟩
  rw [hrb] at HRx
  have HRad := hid hR
  clear hrb hR
  have hSs : (signV t).2.size ≤ 240 := by
    rcases sign_parts t with ⟨_, e⟩ | ⟨_, _, e⟩ | ⟨_, _, _, e⟩ | ⟨_, _, _, e⟩ <;> rw [e]
    · exact ht
    · simp; omega
    · simp; omega
    · exact ht
  have HSg := hid (sign_parts t)
  obtain ⟨N, HN⟩ : ∃ N, Hid ((signV t).1 = N) := ⟨_, rfl⟩
  obtain ⟨S, HS⟩ : ∃ S, Hid ((signV t).2 = S) := ⟨_, rfl⟩
  rw [HS.out] at hSs
  rw [HN.out, HS.out]
  have HSg2 : Hid ((t.size = 0 ∧ N = false ∧ S = t) ∨ (∃ h : 0 < t.size, (((t[0]'h).toNat : Int) == 45) = true ∧ N = true ∧ t.extract 1 t.size = S) ∨
      (∃ h : 0 < t.size, (((t[0]'h).toNat : Int) == 45) = false ∧ (((t[0]'h).toNat : Int) == 43) = true ∧ N = false ∧ t.extract 1 t.size = S) ∨
      (∃ h : 0 < t.size, (((t[0]'h).toNat : Int) == 45) = false ∧ (((t[0]'h).toNat : Int) == 43) = false ∧ N = false ∧ S = t)) := by
    rw [← HN.out, ← HS.out]
    rcases HSg.out with ⟨a, e⟩ | ⟨a, b, e⟩ | ⟨a, b, c, e⟩ | ⟨a, b, c, e⟩ <;> rw [e]
    · exact Or.inl ⟨a, rfl, rfl⟩
    · exact Or.inr (Or.inl ⟨a, b, rfl, rfl⟩)
    · exact Or.inr (Or.inr (Or.inl ⟨a, b, c, rfl, rfl⟩))
    · exact Or.inr (Or.inr (Or.inr ⟨a, b, c, rfl, rfl⟩))
  clear HSg HN HS
  have HLen : Hid (S.data.toList.length = S.size) := by show _ = _; simp
  have HF : Hid (∀ (c : UInt8) w, Calls Tryd.prog 42 #[.string S, .int .u8 (c.toNat : Int)] w fun e w' => e = .returned (.int .i64 (Lib.indexByte S.data.toList c)) ∧ w' = w) := fun c w => l12Find_any S c w (by omega)
  have HF47 : Hid (∀ w, Calls Tryd.prog 42 #[.string S, .int .u8 47] w fun e w' => e = .returned (.int .i64 (Lib.indexByte S.data.toList 47)) ∧ w' = w) := fun w => HF.out 47 w
  have HF46 : Hid (∀ w, Calls Tryd.prog 42 #[.string S, .int .u8 46] w fun e w' => e = .returned (.int .i64 (Lib.indexByte S.data.toList 46)) ∧ w' = w) := fun w => HF.out 46 w
  clear HF
  rcases body_parts N R S.data.toList with ⟨k, h47, hk, hb⟩ | ⟨k, h47, h46, hk, hR10, hb⟩ | ⟨h47, h46, hb⟩
  · rw [hb]
    rw [h47] at HF47
    have HOv := hid (fun w => l12Over_any N S k R w (by omega) (by rw [← HLen.out]; exact hk) HRad.out)
    obtain ⟨ma, mx, my, mb, hmf⟩ := overV_form N R (S.data.toList.take k) (S.data.toList.drop (k + 1))
    rw [hmf] at HOv ⊢
    have hk0 : (0 : Int) ≤ (k : Int) := by omega
    clear hb h47 hmf hk HF46
    rcases HSg2.out with ⟨g0, rfl, rfl⟩ | ⟨g0, g1, rfl, g3⟩ | ⟨g0, g1, g2, rfl, g3⟩ | ⟨g0, g1, g2, rfl, rfl⟩
    all_goals
      clear HSg2
      go_enter Tryd.func19, Tryd.ntmps19
      go_wp2_with fail
      refine (HRx.out _).mono ?_
      rintro e w' ⟨rfl, hw⟩
      obtain rfl := hw.symm
      go_wp2_with fail
      refine (HF47.out _).mono ?_
      rintro e w' ⟨rfl, hw⟩
      obtain rfl := hw.symm
      go_wp2_with fail
      refine (HOv.out _).mono ?_
      rintro e w3 ⟨rfl, hw3⟩
      have HB3 := hid (res_step HBw.out hw3)
      clear hw3 n0 n1 n2 f0 f1 f2
      obtain ⟨n0, n1, n2⟩ := res3 HB3.out
      obtain ⟨f0, f1, f2⟩ := res3f HB3.out
      go_wp2_with fail
      refine bodyPost_ret (v := .tuple #[.agg #[.bool ma, .string mx, .string my], .bool mb]) (by simp [results, Tryd.results19, go_sem, n0, n1, n2]) rfl ⟨rfl, ?_⟩
      first | exact res_done HB3.out | exact below3 (res_done HB3.out) _ _ _
  · rw [hb]
    rw [h47] at HF47
    rw [h46] at HF46
    have HOv := hid (fun w => l12Point_any N S k w (by omega) (by rw [← HLen.out]; exact hk))
    obtain ⟨ma, mx, my, mb, hmf⟩ := pointV_form N (S.data.toList.take k) (S.data.toList.drop (k + 1))
    rw [hmf] at HOv ⊢
    have hk0 : (0 : Int) ≤ (k : Int) := by omega
    subst hR10
    clear hb h47 h46 hmf hk
    rcases HSg2.out with ⟨g0, rfl, rfl⟩ | ⟨g0, g1, rfl, g3⟩ | ⟨g0, g1, g2, rfl, g3⟩ | ⟨g0, g1, g2, rfl, rfl⟩
    all_goals
      clear HSg2
      go_enter Tryd.func19, Tryd.ntmps19
      go_wp2_with fail
      refine (HRx.out _).mono ?_
      rintro e w' ⟨rfl, hw⟩
      obtain rfl := hw.symm
      go_wp2_with fail
      refine (HF47.out _).mono ?_
      rintro e w' ⟨rfl, hw⟩
      obtain rfl := hw.symm
      go_wp2_with fail
      refine (HF46.out _).mono ?_
      rintro e w' ⟨rfl, hw⟩
      obtain rfl := hw.symm
      go_wp2_with fail
      refine (HOv.out _).mono ?_
      rintro e w3 ⟨rfl, hw3⟩
      have HB3 := hid (res_step HBw.out hw3)
      clear hw3 n0 n1 n2 f0 f1 f2
      obtain ⟨n0, n1, n2⟩ := res3 HB3.out
      obtain ⟨f0, f1, f2⟩ := res3f HB3.out
      go_wp2_with fail
      refine bodyPost_ret (v := .tuple #[.agg #[.bool ma, .string mx, .string my], .bool mb]) (by simp [results, Tryd.results19, go_sem, n0, n1, n2]) rfl ⟨rfl, ?_⟩
      first | exact res_done HB3.out | exact below3 (res_done HB3.out) _ _ _
  · rw [hb]
    rw [h47] at HF47
    have HNat := hid (fun w => l12Nat_any S R w (by omega) HRad.out)
    have hlim := valR_lim (rad_two HRad.out).2 (l := S.data.toList) (by rw [HLen.out]; omega)
    have HMk := hid (fun w => l12Make_any N _ 1 w hlim (by rw [Lib.nDigits_small (by decide)]; decide))
    rw [dec_one] at HMk
    have hbe : (if okR R S.data.toList = true then makeV N (valR R S.data.toList) 1 else noNum) = if okR R S.data.toList = true then makeV N (if okR R S.data.toList = true then valR R S.data.toList else 0) 1 else noNum := by
      split
      · rfl
      · rfl
    rw [hbe]
    obtain ⟨ma, mx, my, mb, hmf⟩ := makeV_form N (if okR R S.data.toList = true then valR R S.data.toList else 0) 1
    rw [hmf] at HMk ⊢
    clear hbe hb h47 hmf hlim
    generalize (if okR R S.data.toList = true then valR R S.data.toList else 0) = u at *
    generalize okR R S.data.toList = oa at *
    generalize dec u = ut at *
    obtain ⟨ZV, HZV⟩ : ∃ Z, Hid ((if oa = true then Value.tuple #[.agg #[.bool ma, .string mx, .string my], .bool mb] else noNum) = Z) := ⟨_, rfl⟩
    rw [HZV.out]
    have h46c : (∃ f : Int, Lib.indexByte S.data.toList 46 = f ∧ f < 0) ∨ (∃ f : Int, Lib.indexByte S.data.toList 46 = f ∧ (0 : Int) ≤ f ∧ ((R : Int) == 10) = false) := by
      rcases h46 with h | ⟨⟨k, h⟩, h2⟩
      · exact Or.inl ⟨-1, h, by decide⟩
      · exact Or.inr ⟨(k : Int), h, by omega, by rw [beq_eq_false_iff_ne]; omega⟩
    clear h46
    rcases h46c with ⟨f, h46, hf⟩ | ⟨f, h46, hf, hR10⟩
    all_goals
      rw [h46] at HF46
      clear h46
      rcases HSg2.out with ⟨g0, rfl, rfl⟩ | ⟨g0, g1, rfl, g3⟩ | ⟨g0, g1, g2, rfl, g3⟩ | ⟨g0, g1, g2, rfl, rfl⟩
    all_goals
      clear HSg2
      cases oa
    all_goals
      go_enter Tryd.func19, Tryd.ntmps19
      go_wp2_with fail
      refine (HRx.out _).mono ?_
      rintro e w' ⟨rfl, hw⟩
      obtain rfl := hw.symm
      go_wp2_with fail
      refine (HF47.out _).mono ?_
      rintro e w' ⟨rfl, hw⟩
      obtain rfl := hw.symm
      go_wp2_with fail
      refine (HF46.out _).mono ?_
      rintro e w' ⟨rfl, hw⟩
      obtain rfl := hw.symm
      go_wp2_with fail
      refine (HNat.out _).mono ?_
      rintro e w2 ⟨rfl, hw2⟩
      have HB2 := hid (res_step HBw.out hw2)
      clear hw2 n0 n1 n2 f0 f1 f2
      obtain ⟨n0, n1, n2⟩ := res3 HB2.out
      obtain ⟨f0, f1, f2⟩ := res3f HB2.out
      go_wp2_with fail
    all_goals first
      | (refine bodyPost_ret (v := noNum) (by simp [results, Tryd.results19, go_sem, n0, n1, n2]) rfl ⟨by rw [← HZV.out]; rfl, ?_⟩
         first | exact res_done HB2.out | exact below3 (res_done HB2.out) _ _ _)
      | (refine (HMk.out _).mono ?_
         rintro e w3 ⟨rfl, hw3⟩
         have HB3 := hid (res_step HB2.out hw3)
         clear hw3 n0 n1 n2 f0 f1 f2
         obtain ⟨n0, n1, n2⟩ := res3 HB3.out
         obtain ⟨f0, f1, f2⟩ := res3f HB3.out
         go_wp2_with fail
         refine bodyPost_ret (v := .tuple #[.agg #[.bool ma, .string mx, .string my], .bool mb]) (by simp [results, Tryd.results19, go_sem, n0, n1, n2]) rfl ⟨by rw [← HZV.out]; rfl, ?_⟩
         first | exact res_done HB3.out | exact below3 (res_done HB3.out) _ _ _)
end Go.Proofs.YtakicnplmcemnaaDoor

namespace Go.Proofs.YtakicnplmcemnaaDoor
open Go.RowKit Go.Siskin

theorem nDigits_ten (n : Nat) : Lib.nDigits (10 ^ n) ≤ n + 1 := nDigits_le (Nat.pow_lt_pow_right (by decide) (Nat.lt_succ_self n)) (Nat.succ_pos n)
def vR (R : Nat) (l : List UInt8) : Nat := if okR R l = true then valR R l else 0
theorem nG_lim3 {x : Nat} (h : Lib.nDigits x ≤ 1000) : nG x ≤ 1000 := by unfold nG; split <;> omega
theorem nG_vR {R : Nat} (hR : R ≤ 16) {l : List UInt8} (hl : l.length ≤ 480) : nG (vR R l) ≤ 1000 := nG_lim3 (valR_lim hR hl)
theorem frac_end {w W : World} {vu vd : Value} {gu gd : List Nat} (h : Below (w.heap.size + 1) (w.alloc boxF) W) (hu : NatA W vu gu) (hd : NatA W vd gd) (x y z : Value) :
    NatA (((W.setCell ⟨w.heap.size, 0, none⟩ x).setCell ⟨w.heap.size, 1, none⟩ y).setCell ⟨w.heap.size, 2, none⟩ z) vu gu ∧ NatA (((W.setCell ⟨w.heap.size, 0, none⟩ x).setCell ⟨w.heap.size, 1, none⟩ y).setCell ⟨w.heap.size, 2, none⟩ z) vd gd ∧
      Below w.heap.size w (((W.setCell ⟨w.heap.size, 0, none⟩ x).setCell ⟨w.heap.size, 1, none⟩ y).setCell ⟨w.heap.size, 2, none⟩ z) := by
  have ho := (own_new w #[.bool false, .slice none 0 0, .slice none 0 0] 46).keep h (Nat.lt_succ_self _)
  exact ⟨natA_box hu ho x y z, natA_box hd ho x y z, below3 (res_done h) _ _ _⟩

set_option maxRecDepth 20000 in
set_option maxHeartbeats 4000000 in
theorem readFraction_any (s : ByteArray) (R : Nat) (w : World) (hs : s.size ≤ 240) (hR : RadP R) (hP : Pow9 w) :
    Calls Tryd.prog 49 #[.int .i64 R, .string s] w fun e w' => ∃ (u d : Value) (U D : Nat) (ok : Bool), e = .returned (.tuple #[.agg #[.bool false, u, d], .bool ok]) ∧ NatA w' u (grp U) ∧ NatA w' d (grp D) ∧ (nG U ≤ 1000 ∧ nG D ≤ 1000) ∧
      (∀ N, bodyV N R s.data.toList = if ok = true then makeV N U D else noNum) ∧ Below w.heap.size w w' := by
  have HBw : Hid (Below (w.heap.size + 1) (w.alloc boxF) (w.alloc boxF)) := Below.refl _ _
  have hlen : s.data.toList.length = s.size := by simp
  have hR2 := (rad_two hR).2
  have HP := hid hP
  clear hP
  rcases body_parts false R s.data.toList with ⟨k, h47, hk, -⟩ | ⟨k, h47, h46, hk, hR10, -⟩ | ⟨h47, h46, -⟩
  · rw [hlen] at hk
    have HC := hid (fun w => cut_yes s 47 k w (by omega) h47 hk)
    have HA := hid (fun w => readDigits_any (s.extract 0 k) R w (by simp; omega) hR)
    have HB := hid (fun w => readDigits_any (s.extract (k + 1) s.size) R w (by simp; omega) hR)
    rw [list_cut0] at HA
    rw [list_cut1] at HB
    have HF : Hid (∀ N, bodyV N R s.data.toList = if (okR R (s.data.toList.take k) && okR R (s.data.toList.drop (k + 1))) = true then makeV N (vR R (s.data.toList.take k)) (vR R (s.data.toList.drop (k + 1))) else noNum) := fun N => by
      unfold bodyV
      rw [h47, if_pos (by omega), Int.toNat_natCast]
      unfold overV vR
      cases okR R (s.data.toList.take k) <;> cases okR R (s.data.toList.drop (k + 1)) <;> simp
    have HGA := hid (nG_vR hR2 (l := s.data.toList.take k) (by rw [List.length_take, hlen]; omega))
    have HGB := hid (nG_vR hR2 (l := s.data.toList.drop (k + 1)) (by rw [List.length_drop, hlen]; omega))
    change Hid (∀ w, Calls _ _ _ w fun e w' => ∃ u, e = .returned (.tuple #[u, .bool (okR R (s.data.toList.take k))]) ∧ NatA w' u (grp (vR R (s.data.toList.take k))) ∧ Below w.heap.size w w') at HA
    change Hid (∀ w, Calls _ _ _ w fun e w' => ∃ u, e = .returned (.tuple #[u, .bool (okR R (s.data.toList.drop (k + 1)))]) ∧ NatA w' u (grp (vR R (s.data.toList.drop (k + 1)))) ∧ Below w.heap.size w w') at HB
    generalize vR R (s.data.toList.take k) = U at *
    generalize vR R (s.data.toList.drop (k + 1)) = D at *
    generalize okR R (s.data.toList.take k) = oa at *
    generalize okR R (s.data.toList.drop (k + 1)) = ob at *
    generalize s.extract 0 k = A at *
    generalize s.extract (k + 1) s.size = B at *
    clear hk h47 hR
    go_enter Tryd.func49, Tryd.ntmps49
    go_wp2_with fail
    refine (HC.out _).mono ?_
    rintro e w1 ⟨rfl, n, hw1⟩
    have HB1 : Hid (Below (w.heap.size + 1) (w.alloc boxF) w1) := by rw [hw1]; exact below_drewN HBw.out n
    clear hw1
    go_wp2_with fail
    refine (HA.out _).mono ?_
    rintro e w2 ⟨u, rfl, hu, hw2⟩
    have HB2 := hid (res_step HB1.out hw2)
    obtain ⟨ua, uc, rfl⟩ := natA_form hu
    have HU := hid hu
    clear hu hw2
    go_wp2_with fail
    refine (HB.out _).mono ?_
    rintro e w3 ⟨d, rfl, hd, hw3⟩
    have HU3 := hid (HU.out.below hw3 (Nat.le_refl _))
    have HB3 := hid (res_step HB2.out hw3)
    obtain ⟨da, dc, rfl⟩ := natA_form hd
    have HD := hid hd
    clear hd hw3
    obtain ⟨r0, r1, r2⟩ := res3 HB3.out
    obtain ⟨f0, f1, f2⟩ := res3f HB3.out
    cases oa <;> cases ob
    all_goals
      go_wp2_with fail
      refine bodyPost_ret (v := .tuple #[.agg #[.bool false, .slice ua (grp U).length uc, .slice da (grp D).length dc], .bool _]) (by simp [results, Tryd.results49, go_sem, r0, r1, r2]; rfl) rfl ?_
      have h := frac_end HB3.out HU3.out HD.out
      exact ⟨_, _, U, D, _, rfl, (h _ _ _).1, (h _ _ _).2.1, ⟨HGA.out, HGB.out⟩, HF.out, (h _ _ _).2.2⟩
  · rw [hlen] at hk
    subst hR10
    have HC47 := hid (fun w => cut_no s 47 w h47)
    have HC := hid (fun w => cut_yes s 46 k w (by omega) h46 hk)
    have HA := hid (fun w => readDigits_any (s.extract 0 k ++ s.extract (k + 1) s.size) 10 w (by simp; omega) hR)
    rw [list_cut2] at HA
    have HPw := hid (fun w h => powerOfTen_any (s.extract (k + 1) s.size).size w (by simp; omega) h)
    have hbl : (s.data.toList.drop (k + 1)).length = (s.extract (k + 1) s.size).size := by simp
    have HF : Hid (∀ N, bodyV N 10 s.data.toList = if okR 10 (s.data.toList.take k ++ s.data.toList.drop (k + 1)) = true then makeV N (vR 10 (s.data.toList.take k ++ s.data.toList.drop (k + 1))) (10 ^ (s.extract (k + 1) s.size).size) else noNum) := fun N => by
      unfold bodyV
      rw [h47, h46, if_neg (by decide), if_pos ⟨by omega, rfl⟩, Int.toNat_natCast]
      unfold pointV vR
      rw [hbl]
      cases okR 10 (s.data.toList.take k ++ s.data.toList.drop (k + 1)) <;> simp
    have HGA := hid (nG_vR hR2 (l := s.data.toList.take k ++ s.data.toList.drop (k + 1)) (by rw [List.length_append, List.length_take, List.length_drop, hlen]; omega))
    change Hid (∀ w, Calls _ _ _ w fun e w' => ∃ u, e = .returned (.tuple #[u, .bool (okR 10 (s.data.toList.take k ++ s.data.toList.drop (k + 1)))]) ∧ NatA w' u (grp (vR 10 (s.data.toList.take k ++ s.data.toList.drop (k + 1)))) ∧ Below w.heap.size w w') at HA
    have hBs : (s.extract (k + 1) s.size).size ≤ 240 := by simp; omega
    have hAs : (s.extract 0 k).size ≤ 240 := by simp; omega
    generalize vR 10 (s.data.toList.take k ++ s.data.toList.drop (k + 1)) = U at *
    generalize okR 10 (s.data.toList.take k ++ s.data.toList.drop (k + 1)) = oa at *
    generalize s.extract 0 k = A at *
    generalize s.extract (k + 1) s.size = B at *
    have hAB : ¬ ((9223372036854775807 : Nat) < A.size + B.size) := by omega
    have HGB : Hid (nG (10 ^ B.size) ≤ 1000) := nG_lim3 (Nat.le_trans (nDigits_ten B.size) (by omega))
    clear hk h47 h46 hR hbl
    go_enter Tryd.func49, Tryd.ntmps49
    go_wp2_with fail
    refine (HC47.out _).mono ?_
    rintro e w1 ⟨rfl, n, hw1⟩
    have HB1 : Hid (Below (w.heap.size + 1) (w.alloc boxF) w1) := by rw [hw1]; exact below_drewN HBw.out n
    clear hw1
    go_wp2_with fail
    refine (HC.out _).mono ?_
    rintro e w2 ⟨rfl, m, hw2⟩
    have HB2 : Hid (Below (w.heap.size + 1) (w.alloc boxF) w2) := by rw [hw2]; exact below_drewN HB1.out m
    clear hw2
    go_wp2_with fail
    refine (HA.out _).mono ?_
    rintro e w3 ⟨u, rfl, hu, hw3⟩
    have HB3 := hid (res_step HB2.out hw3)
    obtain ⟨ua, uc, rfl⟩ := natA_form hu
    have HU := hid hu
    clear hu hw3
    go_wp2_with fail
    refine (HPw.out _ (HP.out.below (res_done HB3.out) (Nat.le_refl _))).mono ?_
    rintro e w4 ⟨d, rfl, hd, hw4⟩
    have HU4 := hid (HU.out.below hw4 (Nat.le_refl _))
    have HB4 := hid (res_step HB3.out hw4)
    obtain ⟨da, dc, rfl⟩ := natA_form hd
    have HD := hid hd
    clear hd hw4
    obtain ⟨r0, r1, r2⟩ := res3 HB4.out
    obtain ⟨f0, f1, f2⟩ := res3f HB4.out
    go_wp2_with fail
    refine bodyPost_ret (v := .tuple #[.agg #[.bool false, .slice ua (grp U).length uc, .slice da (grp (10 ^ B.size)).length dc], .bool oa]) (by simp [results, Tryd.results49, go_sem, r0, r1, r2]) rfl ?_
    have h := frac_end HB4.out HU4.out HD.out
    exact ⟨_, _, U, _, _, rfl, (h _ _ _).1, (h _ _ _).2.1, ⟨HGA.out, HGB.out⟩, HF.out, (h _ _ _).2.2⟩
  · have HC47 := hid (fun w => cut_no s 47 w h47)
    have HA := hid (fun w => readDigits_any s R w (by omega) hR)
    have HPw : Hid (∀ w, Pow9 w → Calls Tryd.prog 84 #[.int .i64 0] w fun e w' => ∃ u, e = .returned u ∧ NatA w' u (grp 1) ∧ Below w.heap.size w w') := fun w h => powerOfTen_any 0 w (by decide) h
    have HF : Hid (∀ N, bodyV N R s.data.toList = if okR R s.data.toList = true then makeV N (vR R s.data.toList) 1 else noNum) := fun N => by
      rcases body_parts N R s.data.toList with ⟨k, h, -, -⟩ | ⟨k, -, h, -, hR10, -⟩ | ⟨-, -, h⟩
      · rw [h47] at h; omega
      · rcases h46 with h2 | ⟨-, h2⟩
        · rw [h2] at h; omega
        · exact absurd hR10 h2
      · rw [h]
        unfold vR
        cases okR R s.data.toList <;> simp
    have HGA := hid (nG_vR hR2 (l := s.data.toList) (by rw [hlen]; omega))
    have HGB : Hid (nG 1 ≤ 1000) := by show _ ≤ _; rw [nG_one (by decide) (by decide)]; decide
    change Hid (∀ w, Calls _ _ _ w fun e w' => ∃ u, e = .returned (.tuple #[u, .bool (okR R s.data.toList)]) ∧ NatA w' u (grp (vR R s.data.toList)) ∧ Below w.heap.size w w') at HA
    have hcase : (∃ A B b, Hid (∀ w, Calls Tryd.prog 82 #[.string s, .string ⟨#[46]⟩] w fun e w' => e = .returned (.tuple #[.string A, .string B, .bool b]) ∧ ∃ n, w' = w.drewN n) ∧ (b = false ∨ (b = true ∧ ((R : Int) == 10) = false))) := by
      rcases h46 with h | ⟨⟨k, h⟩, h2⟩
      · exact ⟨_, _, _, fun w => cut_no s 46 w h, Or.inl rfl⟩
      · have hk : k < s.size := by
          rcases index_lt s 46 with h3 | ⟨k', h3, h4⟩
          · rw [h] at h3; omega
          · rw [h] at h3; omega
        exact ⟨_, _, _, fun w => cut_yes s 46 k w (by omega) h hk, Or.inr ⟨rfl, by rw [beq_eq_false_iff_ne]; omega⟩⟩
    obtain ⟨A, B, b, HC, hb⟩ := hcase
    generalize vR R s.data.toList = U at *
    generalize okR R s.data.toList = oa at *
    clear h47 h46 hR
    rcases hb with rfl | ⟨rfl, hR10⟩
    all_goals
      go_enter Tryd.func49, Tryd.ntmps49
      go_wp2_with fail
      refine (HC47.out _).mono ?_
      rintro e w1 ⟨rfl, n, hw1⟩
      have HB1 : Hid (Below (w.heap.size + 1) (w.alloc boxF) w1) := by rw [hw1]; exact below_drewN HBw.out n
      clear hw1
      go_wp2_with fail
      refine (HC.out _).mono ?_
      rintro e w2 ⟨rfl, m, hw2⟩
      have HB2 : Hid (Below (w.heap.size + 1) (w.alloc boxF) w2) := by rw [hw2]; exact below_drewN HB1.out m
      clear hw2
      go_wp2_with fail
      refine (HA.out _).mono ?_
      rintro e w3 ⟨u, rfl, hu, hw3⟩
      have HB3 := hid (res_step HB2.out hw3)
      obtain ⟨ua, uc, rfl⟩ := natA_form hu
      have HU := hid hu
      clear hu hw3
      go_wp2_with fail
      refine (HPw.out _ (HP.out.below (res_done HB3.out) (Nat.le_refl _))).mono ?_
      rintro e w4 ⟨d, rfl, hd, hw4⟩
      have HU4 := hid (HU.out.below hw4 (Nat.le_refl _))
      have HB4 := hid (res_step HB3.out hw4)
      obtain ⟨da, dc, rfl⟩ := natA_form hd
      have HD := hid hd
      clear hd hw4
      obtain ⟨r0, r1, r2⟩ := res3 HB4.out
      obtain ⟨f0, f1, f2⟩ := res3f HB4.out
      go_wp2_with fail
      refine bodyPost_ret (v := .tuple #[.agg #[.bool false, .slice ua (grp U).length uc, .slice da (grp 1).length dc], .bool oa]) (by simp [results, Tryd.results49, go_sem, r0, r1, r2]) rfl ?_
      have h := frac_end HB4.out HU4.out HD.out
      exact ⟨_, _, U, _, _, rfl, (h _ _ _).1, (h _ _ _).2.1, ⟨HGA.out, HGB.out⟩, HF.out, (h _ _ _).2.2⟩
end Go.Proofs.YtakicnplmcemnaaDoor

namespace Go.Proofs.YtakicnplmcemnaaDoor
open Go.RowKit Go.Siskin

set_option maxRecDepth 20000 in
set_option maxHeartbeats 1000000 in
theorem specNumParse_no (t : ByteArray) (r : Int) (w : World) (ht : t.size ≤ maxLen) (hno : radB r = false ∨ 240 < t.size) :
    Calls Tryd.prog 19 #[.string t, .int .i64 r] w fun e w' => e = .returned noNum ∧ Below w.heap.size w w' := by
  have HBw : Hid (Below (w.heap.size + 1) (w.alloc (.cells #[.bool false, .string ⟨#[]⟩, .string ⟨#[]⟩] 26)) (w.alloc (.cells #[.bool false, .string ⟨#[]⟩, .string ⟨#[]⟩] 26))) := Below.refl _ _
  obtain ⟨n0, n1, n2⟩ := res3 HBw.out
  obtain ⟨f0, f1, f2⟩ := res3f HBw.out
  unfold maxLen at ht
  have HRx := hid (fun w => l12Radix_any r w)
  obtain ⟨b, hb⟩ : ∃ b, radB r = b := ⟨_, rfl⟩
  rw [hb] at HRx hno
  clear hb
  have hcase : b = false ∨ (b = true ∧ 240 < t.size) := by
    cases b
    · exact Or.inl rfl
    · rcases hno with h | h
      · cases h
      · exact Or.inr ⟨rfl, h⟩
  clear hno
  rcases hcase with rfl | ⟨rfl, h⟩
  all_goals
    go_enter Tryd.func19, Tryd.ntmps19
    go_wp2_with fail
    refine (HRx.out _).mono ?_
    rintro e w' ⟨rfl, hw⟩
    obtain rfl := hw.symm
    go_wp2_with fail
    refine bodyPost_ret (v := noNum) (by simp [results, Tryd.results19, go_sem, n0, n1, n2]) rfl ⟨rfl, ?_⟩
    first | exact res_done HBw.out | exact below3 (res_done HBw.out) _ _ _

set_option maxRecDepth 20000 in
set_option maxHeartbeats 1000000 in
theorem implNumParse_no (t : ByteArray) (r : Int) (w : World) (ht : t.size ≤ maxLen) (hno : radB r = false ∨ 240 < t.size) :
    Calls Tryd.prog 20 #[.string t, .int .i64 r] w fun e w' => e = .returned noNum ∧ Below w.heap.size w w' := by
  have HBw : Hid (Below (w.heap.size + 1) (w.alloc (.cells #[.bool false, .string ⟨#[]⟩, .string ⟨#[]⟩] 26)) (w.alloc (.cells #[.bool false, .string ⟨#[]⟩, .string ⟨#[]⟩] 26))) := Below.refl _ _
  obtain ⟨n0, n1, n2⟩ := res3 HBw.out
  obtain ⟨f0, f1, f2⟩ := res3f HBw.out
  unfold maxLen at ht
  have HRx := hid (fun w => isOk_any r w)
  obtain ⟨b, hb⟩ : ∃ b, radB r = b := ⟨_, rfl⟩
  rw [hb] at HRx hno
  clear hb
  have hcase : 240 < t.size ∨ (b = false ∧ ¬ 240 < t.size) := by
    by_cases h : 240 < t.size
    · exact Or.inl h
    · rcases hno with h1 | h1
      · exact Or.inr ⟨h1, h⟩
      · exact absurd h1 h
  clear hno
  rcases hcase with h | ⟨rfl, h⟩
  · go_enter Tryd.func20, Tryd.ntmps20
    go_wp2_with fail
    refine bodyPost_ret (v := noNum) (by simp [results, Tryd.results20, go_sem, n0, n1, n2]) rfl ⟨rfl, ?_⟩
    first | exact res_done HBw.out | exact below3 (res_done HBw.out) _ _ _
  · go_enter Tryd.func20, Tryd.ntmps20
    go_wp2_with fail
    refine (HRx.out _).mono ?_
    rintro e w' ⟨rfl, hw⟩
    obtain rfl := hw.symm
    go_wp2_with fail
    refine bodyPost_ret (v := noNum) (by simp [results, Tryd.results20, go_sem, n0, n1, n2]) rfl ⟨rfl, ?_⟩
    first | exact res_done HBw.out | exact below3 (res_done HBw.out) _ _ _
end Go.Proofs.YtakicnplmcemnaaDoor

namespace Go.Proofs.YtakicnplmcemnaaDoor
open Go.RowKit Go.Siskin

theorem sign_size (t : ByteArray) (h : t.size ≤ 240) : (signV t).2.size ≤ 240 := by
  rcases sign_parts t with ⟨_, e⟩ | ⟨_, _, e⟩ | ⟨_, _, _, e⟩ | ⟨_, _, _, e⟩ <;> rw [e]
  · exact h
  · simp; omega
  · simp; omega
  · exact h

set_option maxRecDepth 20000 in
set_option maxHeartbeats 4000000 in
theorem implNumParse_yes (t : ByteArray) (R : Nat) (w : World) (ht : t.size ≤ 240) (hR : RadP R) (hP : Pow9 w) :
    Calls Tryd.prog 20 #[.string t, .int .i64 R] w fun e w' => e = .returned (bodyV (signV t).1 R (signV t).2.data.toList) ∧ Below w.heap.size w w' := by
  have HBw : Hid (Below (w.heap.size + 1) (w.alloc (.cells #[.bool false, .string ⟨#[]⟩, .string ⟨#[]⟩] 26)) (w.alloc (.cells #[.bool false, .string ⟨#[]⟩, .string ⟨#[]⟩] 26))) := Below.refl _ _
  obtain ⟨n0, n1, n2⟩ := res3 HBw.out
  obtain ⟨f0, f1, f2⟩ := res3f HBw.out
  have HRx := hid (fun w => isOk_any (R : Int) w)
  have hrb : radB (R : Int) = true := (radB_iff _).2 ⟨R, rfl, hR⟩
  rw [hrb] at HRx
  have HCs := hid (fun w => cutSign_any t w (by omega))
  have hSs := sign_size t ht
  obtain ⟨N, HN⟩ : ∃ N, Hid ((signV t).1 = N) := ⟨_, rfl⟩
  obtain ⟨S, HS⟩ : ∃ S, Hid ((signV t).2 = S) := ⟨_, rfl⟩
  rw [HS.out] at hSs
  rw [HN.out, HS.out] at HCs ⊢
  have HFr := hid (fun w h => readFraction_any S R w hSs hR h)
  have HP := hid hP
  obtain ⟨BV, HBV⟩ : ∃ V, Hid (bodyV N R S.data.toList = V) := ⟨_, rfl⟩
  rw [HBV.out]
  clear hrb hR hP HN HS
  go_enter Tryd.func20, Tryd.ntmps20
  go_wp2_with fail
  refine (HRx.out _).mono ?_
  rintro e w' ⟨rfl, hw⟩
  obtain rfl := hw.symm
  go_wp2_with fail
  refine (HCs.out _).mono ?_
  rintro e w' ⟨rfl, hw⟩
  obtain rfl := hw.symm
  go_wp2_with fail
  refine (HFr.out _ (HP.out.alloc _)).mono ?_
  rintro e w3 ⟨vu, vd, U, D, ok, rfl, hu, hd, hg, hb, hw3⟩
  have HG := hid hg
  have HE : Hid (BV = if ok = true then makeV N U D else noNum) := by
    show _ = _
    rw [← HBV.out]; exact hb N
  rw [World.size_alloc] at hw3
  have HB3 : Hid (Below (w.heap.size + 1) (w.alloc (.cells #[.bool false, .string ⟨#[]⟩, .string ⟨#[]⟩] 26)) w3) := hw3
  have hs3 : w.heap.size + 1 ≤ w3.heap.size := by have := hw3.size; simpa using this
  obtain ⟨ua, uc, rfl⟩ := natA_form hu
  obtain ⟨da, dc, rfl⟩ := natA_form hd
  have HU := hid hu
  have HD := hid hd
  clear hu hd hg hb hw3 n0 n1 n2 f0 f1 f2
  have HB4 := hid (HB3.out.alloc hs3 (.cells #[.bool false, .slice ua (grp U).length uc, .slice da (grp D).length dc] 46))
  obtain ⟨n0, n1, n2⟩ := res3 HB4.out
  obtain ⟨f0, f1, f2⟩ := res3f HB4.out
  have hO := own_new w3 #[.bool false, .slice ua (grp U).length uc, .slice da (grp D).length dc] 46
  obtain ⟨⟨b0, b1, b2⟩, p0, p1, p2⟩ := own3V hO
  cases ok
  · have HV : Hid (BV = noNum) := by show _ = _; rw [HE.out]; rfl
    go_wp2_with fail
    refine bodyPost_ret (v := noNum) (by simp [results, Tryd.results20, go_sem, n0, n1, n2]) rfl ⟨by rw [HV.out], ?_⟩
    first | exact res_done HB4.out | exact below3 (res_done HB4.out) _ _ _
  · have HNt := hid (isNought_any D _ _ (HD.out.alloc (.cells #[.bool false, .slice ua (grp U).length uc, .slice da (grp D).length dc] 46)))
    by_cases h0 : D = 0
    · have HV : Hid (BV = noNum) := by show _ = _; rw [HE.out, if_pos rfl]; unfold makeV; rw [if_pos h0]
      have hz : (D == 0) = true := by rw [h0]; rfl
      rw [hz] at HNt
      clear h0 hz
      go_wp2_with fail
      refine HNt.out.mono ?_
      rintro e w' ⟨rfl, hw⟩
      obtain rfl := hw.symm
      go_wp2_with fail
      refine bodyPost_ret (v := noNum) (by simp [results, Tryd.results20, go_sem, n0, n1, n2]) rfl ⟨by rw [HV.out], ?_⟩
      first | exact res_done HB4.out | exact below3 (res_done HB4.out) _ _ _
    · have hz : (D == 0) = false := by rw [beq_eq_false_iff_ne]; exact h0
      rw [hz] at HNt
      have HV : Hid (BV = closedV N (U / Nat.gcd U D) (D / Nat.gcd U D)) := by show _ = _; rw [HE.out, if_pos rfl]; unfold makeV; rw [if_neg h0]
      have HCl := hid (fun w h1 h2 h3 => closed_any N U D (.slice ua (grp U).length uc) (.slice da (grp D).length dc) w h1 h2 HG.out.1 HG.out.2 (by omega) h3)
      rw [← HV.out] at HCl
      obtain ⟨ma, mx, my, mb, hmf⟩ : ∃ (n : Bool) (x y : ByteArray) (o : Bool), BV = .tuple #[.agg #[.bool n, .string x, .string y], .bool o] := by
        have := makeV_form N U D
        unfold makeV at this
        rw [if_neg h0, ← HV.out] at this
        exact this
      have HMF := hid hmf
      rw [hmf] at HCl
      have hbW : Below w3.heap.size w3 (w3.alloc (.cells #[.bool N, .slice ua (grp U).length uc, .slice da (grp D).length dc] 46)) := (Below.refl _ _).alloc (Nat.le_refl _) _
      have HCl2 := hid (HCl.out _ (HU.out.below hbW (Nat.le_refl _)) (HD.out.below hbW (Nat.le_refl _)) ((HP.out.below (res_done HB3.out) (Nat.le_refl _)).below hbW (Nat.le_refl _)))
      have HB5 := hid (HB3.out.alloc hs3 (.cells #[.bool N, .slice ua (grp U).length uc, .slice da (grp D).length dc] 46))
      clear h0 hz hmf HCl hbW hO
      go_wp2_with fail
      refine HNt.out.mono ?_
      rintro e w' ⟨rfl, hw⟩
      obtain rfl := hw.symm
      go_wp2_with fail
      refine HCl2.out.mono ?_
      rintro e w6 ⟨rfl, hw6⟩
      have HB6 := hid (HB5.out.trans (hw6.mono (by simp; omega)))
      clear hw6 n0 n1 n2 f0 f1 f2 b0 b1 b2 p0 p1 p2
      obtain ⟨n0, n1, n2⟩ := res3 HB6.out
      obtain ⟨f0, f1, f2⟩ := res3f HB6.out
      go_wp2_with fail
      refine bodyPost_ret (v := .tuple #[.agg #[.bool ma, .string mx, .string my], .bool mb]) (by simp [results, Tryd.results20, go_sem, n0, n1, n2]) rfl ⟨by rw [HMF.out], ?_⟩
      first | exact res_done HB6.out | exact below3 (res_done HB6.out) _ _ _

theorem numParse_both (t : ByteArray) (r : Int) (ht : t.size ≤ maxLen) :
    ∃ (n : Bool) (x y : ByteArray) (o : Bool), (∀ w, Calls Tryd.prog 19 #[.string t, .int .i64 r] w fun e w' => e = .returned (.tuple #[.agg #[.bool n, .string x, .string y], .bool o]) ∧ Below w.heap.size w w') ∧
      (∀ w, Pow9 w → Calls Tryd.prog 20 #[.string t, .int .i64 r] w fun e w' => e = .returned (.tuple #[.agg #[.bool n, .string x, .string y], .bool o]) ∧ Below w.heap.size w w') := by
  by_cases h : radB r = true ∧ t.size ≤ 240
  · obtain ⟨R, rfl, hR⟩ := (radB_iff r).1 h.1
    have hs := fun w => specNumParse_yes t R w h.2 hR
    have hi := fun w hP => implNumParse_yes t R w h.2 hR hP
    obtain ⟨n, x, y, o, e⟩ : ∃ (n : Bool) (x y : ByteArray) (o : Bool), bodyV (signV t).1 R (signV t).2.data.toList = .tuple #[.agg #[.bool n, .string x, .string y], .bool o] := by
      rcases body_parts (signV t).1 R (signV t).2.data.toList with ⟨k, -, -, e⟩ | ⟨k, -, -, -, -, e⟩ | ⟨-, -, e⟩ <;> rw [e]
      · exact overV_form _ _ _ _
      · exact pointV_form _ _ _
      · split
        · exact makeV_form _ _ _
        · exact ⟨_, _, _, _, rfl⟩
    rw [e] at hs hi
    exact ⟨n, x, y, o, hs, hi⟩
  · have hno : radB r = false ∨ 240 < t.size := by
      by_cases h1 : radB r = true
      · exact Or.inr (by rcases Nat.lt_or_ge 240 t.size with h2 | h2
                         · exact h2
                         · exact absurd ⟨h1, h2⟩ h)
      · exact Or.inl (by simpa using h1)
    exact ⟨_, _, _, _, fun w => specNumParse_no t r w ht hno, fun w _ => implNumParse_no t r w ht hno⟩

set_option maxRecDepth 20000 in
set_option maxHeartbeats 4000000 in
theorem lawNumParse_any (t : ByteArray) (r : Int) (w : World) (ht : t.size ≤ maxLen) (hP : Pow9 w) :
    Calls Tryd.prog 5 #[.string t, .int .i64 r] w fun e w' => e = .returned (.bool true) ∧ Below w.heap.size w w' := by
  obtain ⟨n, x, y, o, hS, hI⟩ := numParse_both t r ht
  have HS := hid hS
  have HI := hid hI
  have HP := hid hP
  have HE := hid (eqNum_same n x y)
  have hoo : (o != o) = false := by simp
  unfold maxLen at ht
  clear hP hS hI
  by_cases hbig : (1048576 : Int) < (t.size : Int)
  · go_enter Tryd.func5, Tryd.ntmps5
    go_wp2_with fail
    go_ret
    exact ⟨rfl, Below.refl _ _⟩
  · go_enter Tryd.func5, Tryd.ntmps5
    go_wp2_with fail
    refine (HS.out _).mono ?_
    rintro e w1 ⟨rfl, hw1⟩
    have HB1 := hid hw1
    have hs1 := hw1.size
    clear hw1
    have HB1a : Hid (Below (w1.heap.size + 1) (w1.alloc (.cells #[.bool n, .string x, .string y] 26)) (w1.alloc (.cells #[.bool n, .string x, .string y] 26))) := Below.refl _ _
    go_wp2_with fail
    refine (HI.out _ ((HP.out.below HB1.out (Nat.le_refl _)).alloc _)).mono ?_
    rintro e w2 ⟨rfl, hw2⟩
    have HB2 := hid (res_step HB1a.out hw2)
    obtain ⟨n0, n1, n2⟩ := res3 HB2.out
    have hs2 : w1.heap.size + 1 ≤ w2.heap.size := by have := hw2.size; simpa using this
    have hlt : w1.heap.size < w2.heap.size := by omega
    clear hw2
    go_wp2_with fail
    refine (HE.out _).mono ?_
    rintro e w3 ⟨rfl, hw3⟩
    have HB3 := hid hw3
    clear hw3
    go_wp2_with fail
    go_ret
    exact ⟨rfl, (HB1.out.trans (((res_done HB2.out).alloc (by omega) _).mono hs1)).trans (HB3.out.mono (by simp; omega))⟩
end Go.Proofs.YtakicnplmcemnaaDoor

namespace Go.Proofs.YtakicnplmcemnaaDoor
open Go.ChangeShapes Go.WideShapes Go.ChangeAt Go.RowKit Go.Siskin

theorem ownZ : ownKnob Tryd.prog.godebug = none := by kernel_rfl
theorem laidOutZ : laidOutB Tryd.prog = true := by kernel_rfl

/-- What is listed. -/
abbrev laidZ : List (String × DataW Unit) := [("loop.example/siskin/impl.powersOfTen", Rows.laid_loop_example_siskin_impl_powersOfTen)]
def tabZ : List Int := [1, 10, 100, 1000, 10000, 100000, 1000000, 10000000, 100000000]

theorem door_metZ (os : Os) (args : Array Value) : laidMetH Tryd.prog laidZ ((World.doorLaid Tryd.prog 400 os).forCall (fun _ _ => 0) ⟨#[], args, []⟩).memory :=
  laidMetH_of_parts3 (fuel := 8) (laidMet_of_run' 8 (by kernel_rfl) (by kernel_rfl)) (by kernel_rfl) (by kernel_rfl)

theorem tab_dataZ : (Rows.laid_loop_example_siskin_impl_powersOfTen : DataW Unit) = Lib.tabData .u64 tabZ := by kernel_rfl
theorem tab_ofZ {W : World} (h : laidMetH Tryd.prog laidZ W) : Pow9 W := by
  rw [MakeChecks.laidMetH_plain _ _ _ (by kernel_rfl)] at h
  rw [laidZ, tab_dataZ] at h
  have hT : Lib.TabIs Tryd.prog W "loop.example/siskin/impl.powersOfTen" .u64 tabZ :=
    Lib.tabIs_of_head (g := 0) (t := 113) (e := 52) (n := 9) (by kernel_rfl) (by kernel_rfl) (by kernel_rfl) (by kernel_rfl) (by kernel_rfl) (by kernel_rfl) h
  have hc : ∀ i, i < 9 → W.cell? ⟨0, i, none⟩ = some (.int .u64 ((10 ^ i : Nat) : Int)) := by
    intro i hi
    rw [hT.cell (g := 0) (by kernel_rfl) i (by simpa [tabZ] using hi)]
    have hcase : i = 0 ∨ i = 1 ∨ i = 2 ∨ i = 3 ∨ i = 4 ∨ i = 5 ∨ i = 6 ∨ i = 7 ∨ i = 8 := by omega
    rcases hcase with rfl | rfl | rfl | rfl | rfl | rfl | rfl | rfl | rfl <;> rfl
  refine ⟨?_, hc⟩
  have h0 := hc 0 (by omega)
  unfold World.cell? at h0
  cases e : W.heap[0]? with
  | none => rw [e] at h0; simp at h0
  | some o => exact (Array.getElem?_eq_some_iff.1 e).1

theorem var_belowZ {P : Program} {B g : Nat} {W W' : World} {n : String} {cs : Array Value} (h : Below B W W') (hg : P.globalNamed n = some g) (hgB : g < B) (hv : W.var? P n = some cs) : W'.var? P n = some cs := by
  unfold World.var? at hv ⊢
  simp only [hg, Option.bind_some] at hv ⊢
  rw [h.block g hgB]
  exact hv

/-- The listed variable reads behind the call as it did. -/
theorem vars_keptZ {H : Type} {enc : TypeId × Value → H} {W W' : World} {gs : List (DataW H)} {q : List MemPlace} (hV : DataW.TrodVars enc Tryd.prog W (fun _ => true) ["loop.example/siskin/impl.powersOfTen"] gs q) (hb : Below W.heap.size W W') (hP : Pow9 W) :
    ∃ pv, DataW.TrodVars enc Tryd.prog W' (fun b => decide (b < W.heap.size)) ["loop.example/siskin/impl.powersOfTen"] gs pv := by
  obtain ⟨g, t, cs, fuel, d, p, rfl, hg, ht, hvar, hd, rfl⟩ := trodVars_one hV
  have hg0 : Tryd.prog.globalNamed "loop.example/siskin/impl.powersOfTen" = some 0 := by kernel_rfl
  obtain rfl := Option.some.inj (hg0.symm.trans hg)
  have ht0 : (Tryd.prog.globals[0]?).map (·.type) = some 113 := by kernel_rfl
  obtain rfl := Option.some.inj (ht0.symm.trans ht)
  have lt0 : ∀ x ∈ p, x.block < W.heap.size := DataW.trod_lt fuel _ _ _ hd
  obtain ⟨f2, hd2⟩ := Below.trod laidOutZ (by kernel_rfl) (of_decide_eq_true (by kernel_rfl)) (v := .agg cs) (⟨fuel, by simpa [Value.cells] using hd⟩ : DataW.Trod enc Tryd.prog W 0 (fun _ => true) true 113 (.agg cs) d p) hb lt0
  exact ⟨_, trodVars_mk1 (enc := enc) (spare := fun b => decide (b < W.heap.size)) hg ht (var_belowZ hb hg hP.1 hvar) (by simpa [Value.cells] using hd2)⟩
end Go.Proofs.YtakicnplmcemnaaDoor
