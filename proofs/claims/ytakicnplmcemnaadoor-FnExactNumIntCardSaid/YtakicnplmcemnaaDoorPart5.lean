/-
  The model's l11Small: the numeral of a number of the machine.
  NumInt: the model's and the program's, and the law's eqNum. Condition: the table of powers stands.
  The table of powers of ten as the card lists it, and as the walks read it.
-/
import Derived.Test.YtakicnplmcemnaaDoorPart2
import Derived.Test.YtakicnplmcemnaaDoorPart4
import Derived.Test.YtakicnplmcemnaaDoorRows
import Derived.Test.YtakicnplmcemnaaDoorPart1
import Derived.ProofKit
import Derived.OpenShut
import Derived.ShutString
import Derived.ChangeOld
import Derived.ChangeVars
import Derived.Below
import Derived.Carry
import Derived.LaidMore
import Derived.Stop.Joined
import Derived.Stop.LaidErr
import Derived.Lib.LaidTab
namespace Go.Proofs.YtakicnplmcemnaaDoor
open Go.RowKit Go.Siskin

theorem conv_one (W : World) (b : Nat) (x : Int) (c : UInt8) (hc : (c.toNat : Int) = x) (hg : W.cell? ⟨b, 0, none⟩ = some (.int .u8 x)) :
    (convert 67 9 (.slice (some ⟨b, 0, none⟩) 1 1)).run Tryd.prog W = .ok (.string ⟨#[c]⟩) W :=
  run_convert_bytes_back (P := Tryd.prog) W 67 9 5 ⟨b, 0, none⟩ 1 [c] Tryd.underlying67 Tryd.underlying5 Tryd.underlying9 (fun j hj => by
    simp at hj; subst hj
    rw [show (⟨b, 0, none⟩ : Addr).add 0 = ⟨b, 0, none⟩ by simp [Addr.add], hg]
    simp [hc])
theorem cell_newz (w : World) (v : Value) (e : TypeId) : (w.alloc (.cells #[v] e)).cell? ⟨w.heap.size, 0, none⟩ = some v := (own_new w #[v] e).cell 0

set_option maxRecDepth 20000 in
set_option maxHeartbeats 1000000 in
theorem l11Small_any (n : Nat) : ∀ (w : World) (_ : n ≤ 9223372036854775807),
    Calls Tryd.prog 36 #[.int .i64 n] w fun e w' => e = .returned (.string (dec n)) ∧ Below w.heap.size w w' := by
  induction n using Nat.strongRecOn with
  | _ n ih =>
    intro w hn
    by_cases h : n < 10
    · obtain ⟨c, hc⟩ : ∃ c : UInt8, c = UInt8.ofNat (48 + n) := ⟨_, rfl⟩
      have hcn : (c.toNat : Int) = 48 + (n : Int) := by rw [hc]; simp; omega
      have hcv := conv_one (w.alloc (.cells #[.int .u8 (48 + (n : Int))] 5)) w.heap.size (48 + n) c hcn (cell_newz w _ _)
      have HD : Hid ((⟨#[c]⟩ : ByteArray) = dec n) := by show _ = _; rw [hc, dec_small h]
      clear hc hcn
      go_enter Tryd.func36, Tryd.ntmps36
      go_wp2_with fail
      go_ret
      exact ⟨ret_strz HD.out, (Below.refl _ _).alloc (Nat.le_refl _) _⟩
    · have HI : Hid (∀ w, Calls Tryd.prog 36 #[.int .i64 ((n : Int) / 10)] w fun e w' => e = .returned (.string (dec (n / 10))) ∧ Below w.heap.size w w') := by
        show ∀ w, _
        intro w
        rw [show (n : Int) / 10 = ((n / 10 : Nat) : Int) by omega]
        exact ih (n / 10) (by omega) w (by omega)
      obtain ⟨c, hc⟩ : ∃ c : UInt8, c = UInt8.ofNat (48 + n % 10) := ⟨_, rfl⟩
      have HD : Hid (dec (n / 10) ++ (⟨#[c]⟩ : ByteArray) = dec n) := by show _ = _; rw [hc, dec_big h]
      have HC : Hid ((c.toNat : Int) = 48 + ((n % 10 : Nat) : Int)) := by show _ = _; rw [hc]; simp; omega
      have hwr : IntKind.i64.wrap ((n : Int) / 10) = (n : Int) / 10 := by simp [IntKind.wrap, IntKind.bits, IntKind.signed]; omega
      clear ih hc
      go_enter Tryd.func36, Tryd.ntmps36
      go_wp2_with fail
      have hcv : ∀ (W : World) (b : Nat), W.cell? ⟨b, 0, none⟩ = some (.int .u8 (48 + (n : Int) % 10)) → (convert 67 9 (.slice (some ⟨b, 0, none⟩) 1 1)).run Tryd.prog W = .ok (.string ⟨#[c]⟩) W := fun W b h => conv_one W b _ c (by rw [HC.out]; omega) h
      have hx : IntKind.u8.wrap (IntKind.i64.wrap (48 + (n : Int).tmod 10)) = 48 + (n : Int) % 10 := by
        rw [Int.tmod_eq_emod_of_nonneg (by omega)]
        simp [IntKind.wrap, IntKind.bits, IntKind.signed]; omega
      have hds : (dec (n / 10)).size ≤ 20 := by rw [dec_size]; exact nDigits_le (by omega) (by omega)
      go_region_with (first
        | (go_at_call 36
           go_loud (
            refine (HI.out _).mono ?_
            rintro e w1 ⟨rfl, hb⟩
            have q := bcell hb
            have s1 := hb.size
            have HB := hid hb
            clear hb)))
      all_goals go_wp2_with fail
      all_goals go_ret
      · exact ⟨ret_strz HD.out, ((Below.refl w.heap.size w).drew.trans HB.out).alloc (by have : w.heap.size ≤ w1.heap.size := s1; omega) _⟩
      all_goals exact ⟨ret_strz HD.out, (((Below.refl w.heap.size w).alloc (Nat.le_refl _) _).drew.trans (HB.out.mono (by simp)))⟩
end Go.Proofs.YtakicnplmcemnaaDoor

namespace Go.Proofs.YtakicnplmcemnaaDoor
open Go.RowKit Go.Siskin

def oneT : ByteArray := ⟨#[49]⟩
theorem dec_one : dec 1 = ⟨#[49]⟩ := by rw [dec_small (by decide)]; rfl
theorem nDigits_int {n : Nat} (h : n ≤ 18446744073709551615) : Lib.nDigits n ≤ 20 := nDigits_le (by omega) (by omega)
theorem nG_int {n : Nat} (h : n ≤ 18446744073709551615) : nG n ≤ 3 := nG_le (by omega)

theorem below3 {B : Nat} {w W : World} (h : Below B w W) (x y z : Value) : Below B w (((W.setCell ⟨B, 0, none⟩ x).setCell ⟨B, 1, none⟩ y).setCell ⟨B, 2, none⟩ z) :=
  ((h.setCell (p := ⟨B, 0, none⟩) (Nat.le_refl _) _).setCell (p := ⟨B, 1, none⟩) (Nat.le_refl _) _).setCell (p := ⟨B, 2, none⟩) (Nat.le_refl _) _

/-- A result's three cells, behind calls. -/
theorem res3 {w W : World} {a b c : Value} {t : TypeId} (h : Below (w.heap.size + 1) (w.alloc (.cells #[a, b, c] t)) W) : W.cell? ⟨w.heap.size, 0, none⟩ = some a ∧ W.cell? ⟨w.heap.size, 1, none⟩ = some b ∧ W.cell? ⟨w.heap.size, 2, none⟩ = some c :=
  own3 ((own_new w #[a, b, c] t).keep h (Nat.lt_succ_self _))
theorem res3f {w W : World} {a b c : Value} {t : TypeId} (h : Below (w.heap.size + 1) (w.alloc (.cells #[a, b, c] t)) W) : W.frozen? ⟨w.heap.size, 0, none⟩ = false ∧ W.frozen? ⟨w.heap.size, 1, none⟩ = false ∧ W.frozen? ⟨w.heap.size, 2, none⟩ = false := by
  have k := (own_new w #[a, b, c] t).keep h (Nat.lt_succ_self _)
  exact ⟨k.frozen 0, k.frozen 1, k.frozen 2⟩
theorem res_done {w W : World} {o : Obj} (h : Below (w.heap.size + 1) (w.alloc o) W) : Below w.heap.size w W := ((Below.refl _ _).alloc (Nat.le_refl _) _).trans (h.mono (Nat.le_succ _))
theorem res_step {w W W2 : World} {o : Obj} (h : Below (w.heap.size + 1) (w.alloc o) W) (h2 : Below W.heap.size W W2) : Below (w.heap.size + 1) (w.alloc o) W2 := h.trans (h2.mono (by have := h.size; simpa using this))

set_option maxRecDepth 20000 in
set_option maxHeartbeats 2000000 in
theorem specNumInt_any (i : Int) (w : World) (h1 : -9223372036854775808 ≤ i) (h2 : i ≤ 9223372036854775807) :
    Calls Tryd.prog 16 #[.int .i64 i] w fun e w' => e = .returned (.agg #[.bool (decide (i < 0)), .string (dec i.natAbs), .string (dec 1)]) ∧ Below w.heap.size w w' := by
  rw [dec_one]
  by_cases h : 0 ≤ i
  · obtain ⟨n, rfl⟩ := Int.eq_ofNat_of_zero_le h
    have HN : Hid (decide ((n : Int) < 0) = false) := by show _ = _; simp
    have HS := hid (fun w => l11Small_any n w (by omega))
    rw [HN.out, Int.natAbs_natCast]
    clear HN h
    go_enter Tryd.func16, Tryd.ntmps16
    go_wp2_with fail
    refine (HS.out _).mono ?_
    rintro e w1 ⟨rfl, hw⟩
    rw [World.size_alloc] at hw
    obtain ⟨r0, r1, r2⟩ := res3 hw
    obtain ⟨f0, f1, f2⟩ := res3f hw
    have HW := hid hw
    clear hw
    go_wp2_with fail
    refine bodyPost_ret (v := .agg #[.bool false, .string (dec n), .string ⟨#[49]⟩]) ?_ rfl ⟨rfl, below3 (res_done HW.out) _ _ _⟩
    simp [results, Tryd.results16, go_sem, r0, r1, r2]
  · obtain ⟨n, hn⟩ : ∃ n : Nat, -(i + 1) = (n : Int) := ⟨(-(i + 1)).toNat, by omega⟩
    have HN : Hid (decide (i < 0) = true) := by show _ = _; simp; omega
    have HS := hid (fun w => l11Small_any n w (by omega))
    have HA := hid (fun w => l11Add_any n 1 w (Nat.le_trans (nDigits_int (n := n) (by omega)) (by decide)) (by rw [Lib.nDigits_small (by decide)]; decide))
    have HE : Hid (dec (n + 1) = dec i.natAbs) := by show _ = _; congr 1; omega
    rw [HN.out, ← HE.out]
    rw [dec_one] at HA
    have hi1 : i + 1 ≤ 0 := by omega
    have hi2 : -9223372036854775807 ≤ i + 1 := by omega
    clear HN HE
    go_enter Tryd.func16, Tryd.ntmps16
    go_wp2_with fail
    refine (HS.out _).mono ?_
    rintro e w1 ⟨rfl, hw⟩
    rw [World.size_alloc] at hw
    have HW := hid hw
    clear hw
    go_wp2_with fail
    refine (HA.out _).mono ?_
    rintro e w2 ⟨rfl, hw2⟩
    have hw3 := res_step HW.out hw2
    obtain ⟨r0, r1, r2⟩ := res3 hw3
    obtain ⟨f0, f1, f2⟩ := res3f hw3
    have HW2 := hid hw3
    clear hw2 hw3
    go_wp2_with fail
    refine bodyPost_ret (v := .agg #[.bool true, .string (dec (n + 1)), .string ⟨#[49]⟩]) ?_ rfl ⟨rfl, below3 (res_done HW2.out) _ _ _⟩
    simp [results, Tryd.results16, go_sem, r0, r1, r2]

set_option maxRecDepth 20000 in
set_option maxHeartbeats 1000000 in
theorem sizeOf_any (i : Int) (w : World) (h1 : -9223372036854775808 ≤ i) (h2 : i ≤ 9223372036854775807) :
    Calls Tryd.prog 38 #[.int .i64 i] w fun e w' => ∃ u, e = .returned u ∧ NatA w' u (grp i.natAbs) ∧ Below w.heap.size w w' := by
  obtain ⟨n, hn⟩ : ∃ n : Nat, i.natAbs = n := ⟨_, rfl⟩
  rw [hn]
  have HNl : Hid (n ≤ 18446744073709551615) := by show _ ≤ _; omega
  have HO := hid (fun w => naturalOf_any n w HNl.out)
  have c1 : 0 ≤ i → IntKind.u64.wrap i = (n : Int) := by intro h; simp [IntKind.wrap, IntKind.bits, IntKind.signed]; omega
  have c2 : i < 0 → IntKind.u64.wrap (-IntKind.u64.wrap i) = (n : Int) := by intro h; simp [IntKind.wrap, IntKind.bits, IntKind.signed]; omega
  by_cases h : 0 ≤ i
  · have hc := c1 h
    clear c1 c2 hn
    go_enter Tryd.func38, Tryd.ntmps38
    go_wp2_with fail
    refine (HO.out _).mono ?_
    rintro e w1 ⟨vu, rfl, hu, hw⟩
    have HU := hid hu
    have HW := hid hw
    clear hw hu
    go_wp2_with fail
    go_ret
    exact ⟨_, rfl, HU.out, HW.out⟩
  · have hlt : i < 0 := by omega
    have hc := c2 hlt
    clear c1 c2 hn
    go_enter Tryd.func38, Tryd.ntmps38
    go_wp2_with fail
    refine (HO.out _).mono ?_
    rintro e w1 ⟨vu, rfl, hu, hw⟩
    have HU := hid hu
    have HW := hid hw
    clear hw hu
    go_wp2_with fail
    go_ret
    exact ⟨_, rfl, HU.out, HW.out⟩

set_option maxRecDepth 20000 in
set_option maxHeartbeats 1000000 in
theorem implNumInt_any (i : Int) (w : World) (h1 : -9223372036854775808 ≤ i) (h2 : i ≤ 9223372036854775807) (hP : Pow9 w) :
    Calls Tryd.prog 17 #[.int .i64 i] w fun e w' => e = .returned (.agg #[.bool (decide (i < 0)), .string (dec i.natAbs), .string (dec 1)]) ∧ Below w.heap.size w w' := by
  obtain ⟨n, hn⟩ : ∃ n : Nat, i.natAbs = n := ⟨_, rfl⟩
  have HO := hid (fun w => sizeOf_any i w h1 h2)
  rw [hn] at HO
  rw [hn]
  have HNl : Hid (n ≤ 18446744073709551615) := by show _ ≤ _; omega
  have HO1 := hid (fun w => naturalOf_any 1 w (by decide))
  have HP := hid hP
  have HPl := hid (fun neg vu vd w => plain_any neg n 1 vu vd w)
  have HG := hid (nG_int HNl.out)
  obtain ⟨b, hb⟩ : ∃ b : Bool, decide (i < 0) = b := ⟨_, rfl⟩
  rw [hb]
  clear hP hn
  go_enter Tryd.func17, Tryd.ntmps17
  go_wp2_with fail
  refine (HO.out _).mono ?_
  rintro e w1 ⟨vu, rfl, hu, hw⟩
  rw [World.size_alloc] at hw
  have HU := hid hu
  have HW := hid hw
  obtain ⟨ua, uc, rfl⟩ := natA_form hu
  clear hw hu
  go_wp2_with fail
  refine (HO1.out _).mono ?_
  rintro e w2 ⟨vd, rfl, hd1, hw2⟩
  have HD := hid hd1
  have HW2 := hid (res_step HW.out hw2)
  have HU2 := hid (HU.out.below hw2 (Nat.le_refl _))
  obtain ⟨da, dc, rfl⟩ := natA_form hd1
  clear hw2 hd1
  have HP2 := hid (HP.out.below (res_done HW2.out) (Nat.le_refl _))
  go_wp2_with fail
  refine (HPl.out _ _ _ _ HU2.out HD.out (Nat.le_trans HG.out (by decide)) (Nat.le_trans (nG_int (n := 1) (by decide)) (by decide)) HP2.out).mono ?_
  rintro e w3 ⟨rfl, hw3⟩
  have hw4 := res_step HW2.out hw3
  obtain ⟨r0, r1, r2⟩ := res3 hw4
  obtain ⟨f0, f1, f2⟩ := res3f hw4
  have HW4 := hid hw4
  clear hw3 hw4
  go_wp2_with fail
  refine bodyPost_ret (v := .agg #[.bool b, .string (dec n), .string (dec 1)]) ?_ rfl ⟨rfl, below3 (res_done HW4.out) _ _ _⟩
  simp [results, Tryd.results17, go_sem, r0, r1, r2]

/-- The law's eqNum. -/
def eqN (n1 : Bool) (u1 d1 : ByteArray) (n2 : Bool) (u2 d2 : ByteArray) : Bool := n1 == n2 && u1 == u2 && d1 == d2

set_option maxRecDepth 20000 in
set_option maxHeartbeats 2000000 in
theorem eqNum_same (n : Bool) (u d : ByteArray) (w : World) :
    Calls Tryd.prog 18 #[.agg #[.bool n, .string u, .string d], .agg #[.bool n, .string u, .string d]] w fun e w' => e = .returned (.bool true) ∧ Below w.heap.size w w' := by
  have h1 : (n != n) = false := by simp
  go_enter Tryd.func18, Tryd.ntmps18
  go_wp2_with fail
  go_ret
  exact ⟨rfl, ((Below.refl _ _).alloc (Nat.le_refl _) _).alloc (by simp) _⟩

set_option maxRecDepth 20000 in
set_option maxHeartbeats 2000000 in
theorem lawNumInt_any (i : Int) (w : World) (h1 : -9223372036854775808 ≤ i) (h2 : i ≤ 9223372036854775807) (hP : Pow9 w) :
    Calls Tryd.prog 4 #[.int .i64 i] w fun e w' => e = .returned (.bool true) ∧ Below w.heap.size w w' := by
  have HS := hid (fun w => specNumInt_any i w h1 h2)
  have HI := hid (fun w => implNumInt_any i w h1 h2)
  have HE := hid (eqNum_same (decide (i < 0)) (dec i.natAbs) (dec 1))
  have HP := hid hP
  clear hP
  generalize decide (i < 0) = b at *
  generalize dec i.natAbs = u at *
  generalize dec 1 = d at *
  go_enter Tryd.func4, Tryd.ntmps4
  go_wp2_with fail
  refine (HS.out _).mono ?_
  rintro e w1 ⟨rfl, hw1⟩
  have HW1 := hid hw1
  clear hw1
  go_wp2_with fail
  refine (HI.out _ ((HP.out.below HW1.out (Nat.le_refl _)).alloc _)).mono ?_
  rintro e w2 ⟨rfl, hw2⟩
  rw [World.size_alloc] at hw2
  obtain ⟨r0, r1, r2⟩ := res3 hw2
  have hs2 := hw2.size
  rw [World.size_alloc] at hs2
  have hlt : w1.heap.size < w2.heap.size := by omega
  have HW2 := hid (HW1.out.trans ((res_done hw2).mono HW1.out.size))
  clear hw2
  go_wp2_with fail
  refine (HE.out _).mono ?_
  rintro e w3 ⟨rfl, hw3⟩
  have HW3 := hid hw3
  clear hw3
  go_wp2_with fail
  go_ret
  exact ⟨rfl, (HW2.out.alloc (by have := HW2.out.size; omega) _).trans (HW3.out.mono (by have := HW2.out.size; simp; omega))⟩
end Go.Proofs.YtakicnplmcemnaaDoor

namespace Go.Proofs.YtakicnplmcemnaaDoor
open Go.ChangeShapes Go.WideShapes Go.ChangeAt Go.RowKit Go.Siskin

theorem ownZ : ownKnob Tryd.prog.godebug = none := by kernel_rfl
theorem laidOutZ : laidOutB Tryd.prog = true := by kernel_rfl

/-- What is listed. -/
abbrev laidZ : List (String × DataW Unit) := [("loop.example/siskin/impl.powersOfTen", Rows.laid_loop_example_siskin_impl_powersOfTen)]
def tabZ : List Int := [1, 10, 100, 1000, 10000, 100000, 1000000, 10000000, 100000000]

theorem door_metZ (os : Os) (args : Array Value) : laidMetH Tryd.prog laidZ ((World.doorLaid Tryd.prog 400 os).forCall (fun _ _ => 0) ⟨#[], args, []⟩).memory :=
  laidMetH_of_parts3 (fuel := 8) (laidMet_of_run' 8 (by kernel_rfl) (by kernel_rfl)) (by kernel_rfl) (by kernel_rfl)

theorem tab_dataZ : (Rows.laid_loop_example_siskin_impl_powersOfTen : DataW Unit) = Lib.tabData .u64 tabZ := by kernel_rfl
theorem tab_ofZ {W : World} (h : laidMetH Tryd.prog laidZ W) : Pow9 W := by
  rw [MakeChecks.laidMetH_plain _ _ _ (by kernel_rfl)] at h
  rw [laidZ, tab_dataZ] at h
  have hT : Lib.TabIs Tryd.prog W "loop.example/siskin/impl.powersOfTen" .u64 tabZ :=
    Lib.tabIs_of_head (g := 0) (t := 113) (e := 52) (n := 9) (by kernel_rfl) (by kernel_rfl) (by kernel_rfl) (by kernel_rfl) (by kernel_rfl) (by kernel_rfl) h
  have hc : ∀ i, i < 9 → W.cell? ⟨0, i, none⟩ = some (.int .u64 ((10 ^ i : Nat) : Int)) := by
    intro i hi
    rw [hT.cell (g := 0) (by kernel_rfl) i (by simpa [tabZ] using hi)]
    have hcase : i = 0 ∨ i = 1 ∨ i = 2 ∨ i = 3 ∨ i = 4 ∨ i = 5 ∨ i = 6 ∨ i = 7 ∨ i = 8 := by omega
    rcases hcase with rfl | rfl | rfl | rfl | rfl | rfl | rfl | rfl | rfl <;> rfl
  refine ⟨?_, hc⟩
  have h0 := hc 0 (by omega)
  unfold World.cell? at h0
  cases e : W.heap[0]? with
  | none => rw [e] at h0; simp at h0
  | some o => exact (Array.getElem?_eq_some_iff.1 e).1

theorem var_belowZ {P : Program} {B g : Nat} {W W' : World} {n : String} {cs : Array Value} (h : Below B W W') (hg : P.globalNamed n = some g) (hgB : g < B) (hv : W.var? P n = some cs) : W'.var? P n = some cs := by
  unfold World.var? at hv ⊢
  simp only [hg, Option.bind_some] at hv ⊢
  rw [h.block g hgB]
  exact hv

/-- The listed variable reads behind the call as it did. -/
theorem vars_keptZ {H : Type} {enc : TypeId × Value → H} {W W' : World} {gs : List (DataW H)} {q : List MemPlace} (hV : DataW.TrodVars enc Tryd.prog W (fun _ => true) ["loop.example/siskin/impl.powersOfTen"] gs q) (hb : Below W.heap.size W W') (hP : Pow9 W) :
    ∃ pv, DataW.TrodVars enc Tryd.prog W' (fun b => decide (b < W.heap.size)) ["loop.example/siskin/impl.powersOfTen"] gs pv := by
  obtain ⟨g, t, cs, fuel, d, p, rfl, hg, ht, hvar, hd, rfl⟩ := trodVars_one hV
  have hg0 : Tryd.prog.globalNamed "loop.example/siskin/impl.powersOfTen" = some 0 := by kernel_rfl
  obtain rfl := Option.some.inj (hg0.symm.trans hg)
  have ht0 : (Tryd.prog.globals[0]?).map (·.type) = some 113 := by kernel_rfl
  obtain rfl := Option.some.inj (ht0.symm.trans ht)
  have lt0 : ∀ x ∈ p, x.block < W.heap.size := DataW.trod_lt fuel _ _ _ hd
  obtain ⟨f2, hd2⟩ := Below.trod laidOutZ (by kernel_rfl) (of_decide_eq_true (by kernel_rfl)) (v := .agg cs) (⟨fuel, by simpa [Value.cells] using hd⟩ : DataW.Trod enc Tryd.prog W 0 (fun _ => true) true 113 (.agg cs) d p) hb lt0
  exact ⟨_, trodVars_mk1 (enc := enc) (spare := fun b => decide (b < W.heap.size)) hg ht (var_belowZ hb hg hP.1 hvar) (by simpa [Value.cells] using hd2)⟩
end Go.Proofs.YtakicnplmcemnaaDoor
