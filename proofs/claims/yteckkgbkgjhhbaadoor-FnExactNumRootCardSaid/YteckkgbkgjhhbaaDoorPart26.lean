/-
  The law FnExactNumRoot. Condition: the table of powers and errors.errorType stand. Made by wip/tools/genlaw8.py.
  The table of powers of ten as the card lists it, and as the walks read it.
  The table of powers of ten and errors.errorType as the card lists them, and as the walks read them.
-/
import Derived.Test.YteckkgbkgjhhbaaDoorPart25
import Derived.Test.YteckkgbkgjhhbaaDoorPart12
import Derived.Test.YteckkgbkgjhhbaaDoorRows
import Derived.Test.YteckkgbkgjhhbaaDoorPart1
import Derived.ProofKit
import Derived.OpenShut
import Derived.ShutString
import Derived.ChangeOld
import Derived.ChangeVars
import Derived.Below
import Derived.Carry
import Derived.LaidMore
import Derived.Stop.Joined
import Derived.Stop.LaidErr
import Derived.Lib.LaidTab
import Derived.LaidSub
namespace Go.Proofs.YteckkgbkgjhhbaaDoor
open Go.RowKit Go.Siskin

set_option maxRecDepth 20000 in
set_option maxHeartbeats 4000000 in
theorem lawNumRoot_of (n1 : Bool) (T1 R1 : ByteArray) (w : World) (h1 : T1.size ≤ maxLen) (h2 : R1.size ≤ maxLen) (hP : PowE w) (n : Bool) (x y : ByteArray) (m : Bool) (z t : ByteArray) (c : Int)
    (hS : ∀ w, Calls Tryd.prog 25 #[.agg #[.bool n1, .string T1, .string R1]] w fun e w' => e = .returned (.tuple #[.agg #[.bool n, .string x, .string y], .agg #[.bool m, .string z, .string t], .int .i64 c]) ∧ Below w.heap.size w w')
    (hI : ∀ w, PowE w → Calls Tryd.prog 26 #[.agg #[.bool n1, .string T1, .string R1]] w fun e w' => e = .returned (.tuple #[.agg #[.bool n, .string x, .string y], .agg #[.bool m, .string z, .string t], .int .i64 c]) ∧ Below w.heap.size w w') :
    Calls Tryd.prog 8 #[.agg #[.bool n1, .string T1, .string R1]] w fun e w' => e = .returned (.bool true) ∧ Below w.heap.size w w' := by
  have HZ1 := hid (fun w => szNum_any n1 T1 R1 1048576 w (by decide) (by decide) h1 h2)
  obtain ⟨z1, hz1⟩ : ∃ z, szN T1.size R1.size 1048576 = z := ⟨_, rfl⟩
  rw [hz1] at HZ1
  have HT1 := hid (fun w => toNum_any n1 T1 R1 w)
  have HS := hid hS
  have HI := hid hI
  have HPw := hid hP
  have HE := hid (eqNum_same n x y)
  have HE2 := hid (eqNum_same m z t)
  have hcc : (c != c) = false := by simp
  clear h1 h2 hP hS hI hz1
  have HX : Hid (∀ W, Below (w.heap.size + 1) (w.alloc (.cells #[.bool n1, .string T1, .string R1] 23)) W → Own W w.heap.size 23 #[.bool n1, .string T1, .string R1] ∧ Below w.heap.size w W) := fun W h => ⟨(own_new w #[.bool n1, .string T1, .string R1] 23).keep h (Nat.lt_succ_self _), res_done h⟩
  have HS0 : Hid (w.heap.size + 1 ≤ (w.alloc (.cells #[.bool n1, .string T1, .string R1] 23)).heap.size) := by show _ ≤ _; simp
  have HB0 : Hid (Below (w.heap.size + 1) (w.alloc (.cells #[.bool n1, .string T1, .string R1] 23)) (w.alloc (.cells #[.bool n1, .string T1, .string R1] 23))) := Below.refl _ _
  go_enter Tryd.func8, Tryd.ntmps8
  go_wp2_with fail
  refine (HZ1.out _).mono ?_
  rintro e wb ⟨rfl, hwb⟩
  have HBb := hid (HB0.out.trans (hwb.mono (by first | exact HS0.out | simp)))
  clear hwb
  by_cases hn1 : z1 < 0
  · go_wp2_with fail
    go_ret
    exact ⟨rfl, (HX.out _ HBb.out).2⟩
  obtain ⟨⟨x0, x1, x2⟩, -⟩ := own3V (HX.out _ HBb.out).1
  go_wp2_with fail
  refine (HT1.out _).mono ?_
  rintro e w2 ⟨rfl, hw2⟩
  have HB2 := hid (HBb.out.trans (hw2.mono (Nat.le_trans HS0.out HBb.out.size)))
  clear hw2 x0 x1 x2
  go_wp2_with fail
  refine (HS.out _).mono ?_
  rintro e w3 ⟨rfl, hw3⟩
  have HB3 := hid (HB2.out.trans (hw3.mono (Nat.le_trans HS0.out HB2.out.size)))
  have HS3 := hid (Nat.le_trans HS0.out HB3.out.size)
  clear hw3
  have HY : Hid (∀ W, Below (w3.heap.size + 2) ((w3.alloc (.cells #[.bool n, .string x, .string y] 25)).alloc (.cells #[.bool m, .string z, .string t] 25)) W → Own W w3.heap.size 25 #[.bool n, .string x, .string y] ∧ Own W (w3.heap.size + 1) 25 #[.bool m, .string z, .string t] ∧ Below w3.heap.size w3 W) := fun W h => boxes2 w3 _ _ _ _ h
  have HC0 : Hid (Below (w3.heap.size + 2) ((w3.alloc (.cells #[.bool n, .string x, .string y] 25)).alloc (.cells #[.bool m, .string z, .string t] 25)) ((w3.alloc (.cells #[.bool n, .string x, .string y] 25)).alloc (.cells #[.bool m, .string z, .string t] 25))) := Below.refl _ _
  have HSz3 : Hid (w3.heap.size + 2 ≤ ((w3.alloc (.cells #[.bool n, .string x, .string y] 25)).alloc (.cells #[.bool m, .string z, .string t] 25)).heap.size) := by show _ ≤ _; simp
  have HXa : Hid (∀ W, Below (w3.heap.size + 2) ((w3.alloc (.cells #[.bool n, .string x, .string y] 25)).alloc (.cells #[.bool m, .string z, .string t] 25)) W → Own W w.heap.size 23 #[.bool n1, .string T1, .string R1] ∧ Below w.heap.size w W) := fun W h => HX.out W (HB3.out.trans ((HY.out W h).2.2.mono HS3.out))
  obtain ⟨⟨x0, x1, x2⟩, -⟩ := own3V (HXa.out _ HC0.out).1
  go_wp2_with fail
  refine (HT1.out _).mono ?_
  rintro e w4 ⟨rfl, hw4⟩
  have HC4 := hid (HC0.out.trans (hw4.mono (by first | exact HSz3.out | simp)))
  clear hw4 x0 x1 x2
  go_wp2_with fail
  refine (HI.out _ (HPw.out.below (HXa.out _ HC4.out).2 (Nat.le_refl _))).mono ?_
  rintro e w5 ⟨rfl, hw5⟩
  have HC5 := hid (HC4.out.trans (hw5.mono (Nat.le_trans HSz3.out HC4.out.size)))
  have HS5 := hid (Nat.le_trans HSz3.out HC5.out.size)
  have HC6 : Hid (Below (w3.heap.size + 2) ((w3.alloc (.cells #[.bool n, .string x, .string y] 25)).alloc (.cells #[.bool m, .string z, .string t] 25)) ((w5.alloc (.cells #[.bool n, .string x, .string y] 25)).alloc (.cells #[.bool m, .string z, .string t] 25))) := (HC5.out.alloc HS5.out _).alloc (by have := HS5.out; simp; omega) _
  have HV : Hid (∀ W, Below (w5.heap.size + 2) ((w5.alloc (.cells #[.bool n, .string x, .string y] 25)).alloc (.cells #[.bool m, .string z, .string t] 25)) W → Own W w5.heap.size 25 #[.bool n, .string x, .string y] ∧ Own W (w5.heap.size + 1) 25 #[.bool m, .string z, .string t] ∧ Below w5.heap.size w5 W) := fun W h => boxes2 w5 _ _ _ _ h
  have HD0 : Hid (Below (w5.heap.size + 2) ((w5.alloc (.cells #[.bool n, .string x, .string y] 25)).alloc (.cells #[.bool m, .string z, .string t] 25)) ((w5.alloc (.cells #[.bool n, .string x, .string y] 25)).alloc (.cells #[.bool m, .string z, .string t] 25))) := Below.refl _ _
  have HSz5 : Hid (w5.heap.size + 2 ≤ ((w5.alloc (.cells #[.bool n, .string x, .string y] 25)).alloc (.cells #[.bool m, .string z, .string t] 25)).heap.size) := by show _ ≤ _; simp
  obtain ⟨⟨x0, x1, x2⟩, -⟩ := own3V (HY.out _ HC6.out).1
  obtain ⟨⟨y0, y1, y2⟩, -⟩ := own3V (HV.out _ HD0.out).1
  clear hw5
  go_wp2_with fail
  refine (HE.out _).mono ?_
  rintro e w9 ⟨rfl, hw9⟩
  have HC9 := hid (HC6.out.trans (hw9.mono (by have := HS5.out; have := HSz5.out; omega)))
  have HD9 := hid (HD0.out.trans (hw9.mono HSz5.out))
  clear hw9 x0 x1 x2 y0 y1 y2
  obtain ⟨⟨x0, x1, x2⟩, -⟩ := own3V (HY.out _ HC9.out).2.1
  obtain ⟨⟨y0, y1, y2⟩, -⟩ := own3V (HV.out _ HD9.out).2.1
  go_wp2_with fail
  refine (HE2.out _).mono ?_
  rintro e w10 ⟨rfl, hw10⟩
  have HC10 := hid (HC9.out.trans (hw10.mono (by have h1 := HS5.out; have h2 := HSz5.out; have h3 := HD9.out.size; omega)))
  clear hw10 x0 x1 x2 y0 y1 y2
  go_wp2_with fail
  go_ret
  exact ⟨rfl, (HXa.out _ HC10.out).2⟩
theorem lawNumRoot_any (n1 : Bool) (T1 R1 : ByteArray) (w : World) (h1 : T1.size ≤ maxLen) (h2 : R1.size ≤ maxLen) (hP : PowE w) :
    Calls Tryd.prog 8 #[.agg #[.bool n1, .string T1, .string R1]] w fun e w' => e = .returned (.bool true) ∧ Below w.heap.size w w' := by
  obtain ⟨n, x, y, m, z, t, c, hS, hI⟩ := numRoot_both n1 T1 R1 h1 h2
  exact lawNumRoot_of n1 T1 R1 w h1 h2 hP n x y m z t c hS hI
end Go.Proofs.YteckkgbkgjhhbaaDoor

namespace Go.Proofs.YteckkgbkgjhhbaaDoor
open Go.ChangeShapes Go.WideShapes Go.ChangeAt Go.RowKit Go.Siskin

theorem ownZ : ownKnob Tryd.prog.godebug = none := by kernel_rfl
theorem laidOutZ : laidOutB Tryd.prog = true := by kernel_rfl

/-- What is listed. -/
abbrev laidZ : List (String × DataW Unit) := [("loop.example/siskin/impl.powersOfTen", Rows.laid_loop_example_siskin_impl_powersOfTen)]
def tabZ : List Int := [1, 10, 100, 1000, 10000, 100000, 1000000, 10000000, 100000000]

theorem door_metZ (os : Os) (args : Array Value) : laidMetH Tryd.prog laidZ ((World.doorLaid Tryd.prog 400 os).forCall (fun _ _ => 0) ⟨#[], args, []⟩).memory :=
  laidMetH_of_parts3 (fuel := 8) (laidMet_of_run' 8 (by kernel_rfl) (by kernel_rfl)) (by kernel_rfl) (by kernel_rfl)

theorem tab_dataZ : (Rows.laid_loop_example_siskin_impl_powersOfTen : DataW Unit) = Lib.tabData .u64 tabZ := by kernel_rfl
theorem tab_ofZ {W : World} (h : laidMetH Tryd.prog laidZ W) : Pow9 W := by
  rw [MakeChecks.laidMetH_plain _ _ _ (by kernel_rfl)] at h
  rw [laidZ, tab_dataZ] at h
  have hT : Lib.TabIs Tryd.prog W "loop.example/siskin/impl.powersOfTen" .u64 tabZ :=
    Lib.tabIs_of_head (g := 1) (t := 150) (e := 88) (n := 9) (by kernel_rfl) (by kernel_rfl) (by kernel_rfl) (by kernel_rfl) (by kernel_rfl) (by kernel_rfl) h
  have hc : ∀ i, i < 9 → W.cell? ⟨1, i, none⟩ = some (.int .u64 ((10 ^ i : Nat) : Int)) := by
    intro i hi
    rw [hT.cell (g := 1) (by kernel_rfl) i (by simpa [tabZ] using hi)]
    have hcase : i = 0 ∨ i = 1 ∨ i = 2 ∨ i = 3 ∨ i = 4 ∨ i = 5 ∨ i = 6 ∨ i = 7 ∨ i = 8 := by omega
    rcases hcase with rfl | rfl | rfl | rfl | rfl | rfl | rfl | rfl | rfl <;> rfl
  refine ⟨?_, hc⟩
  have h0 := hc 0 (by omega)
  unfold World.cell? at h0
  cases e : W.heap[1]? with
  | none => rw [e] at h0; simp at h0
  | some o => exact (Array.getElem?_eq_some_iff.1 e).1

theorem var_belowZ {P : Program} {B g : Nat} {W W' : World} {n : String} {cs : Array Value} (h : Below B W W') (hg : P.globalNamed n = some g) (hgB : g < B) (hv : W.var? P n = some cs) : W'.var? P n = some cs := by
  unfold World.var? at hv ⊢
  simp only [hg, Option.bind_some] at hv ⊢
  rw [h.block g hgB]
  exact hv

/-- The listed variable reads behind the call as it did. -/
theorem vars_keptZ {H : Type} {enc : TypeId × Value → H} {W W' : World} {gs : List (DataW H)} {q : List MemPlace} (hV : DataW.TrodVars enc Tryd.prog W (fun _ => true) ["loop.example/siskin/impl.powersOfTen"] gs q) (hb : Below W.heap.size W W') (hP : Pow9 W) :
    ∃ pv, DataW.TrodVars enc Tryd.prog W' (fun b => decide (b < W.heap.size)) ["loop.example/siskin/impl.powersOfTen"] gs pv := by
  obtain ⟨g, t, cs, fuel, d, p, rfl, hg, ht, hvar, hd, rfl⟩ := trodVars_one hV
  have hg0 : Tryd.prog.globalNamed "loop.example/siskin/impl.powersOfTen" = some 1 := by kernel_rfl
  obtain rfl := Option.some.inj (hg0.symm.trans hg)
  have ht0 : (Tryd.prog.globals[1]?).map (·.type) = some 150 := by kernel_rfl
  obtain rfl := Option.some.inj (ht0.symm.trans ht)
  have lt0 : ∀ x ∈ p, x.block < W.heap.size := DataW.trod_lt fuel _ _ _ hd
  obtain ⟨f2, hd2⟩ := Below.trod laidOutZ (by kernel_rfl) (of_decide_eq_true (by kernel_rfl)) (v := .agg cs) (⟨fuel, by simpa [Value.cells] using hd⟩ : DataW.Trod enc Tryd.prog W 0 (fun _ => true) true 150 (.agg cs) d p) hb lt0
  exact ⟨_, trodVars_mk1 (enc := enc) (spare := fun b => decide (b < W.heap.size)) hg ht (var_belowZ hb hg hP.1 hvar) (by simpa [Value.cells] using hd2)⟩
end Go.Proofs.YteckkgbkgjhhbaaDoor

namespace Go.Proofs.YteckkgbkgjhhbaaDoor
open Go.ChangeShapes Go.WideShapes Go.ChangeAt Go.RowKit Go.Siskin

/-- What is listed. -/
abbrev laidE : List (String × DataW Unit) := [("errors.errorType", Rows.laid_errors_errorType), ("loop.example/siskin/impl.powersOfTen", Rows.laid_loop_example_siskin_impl_powersOfTen)]

theorem door_metE (os : Os) (args : Array Value) : laidMetH Tryd.prog laidE ((World.doorLaid Tryd.prog 400 os).forCall (fun _ _ => 0) ⟨#[], args, []⟩).memory :=
  laidMetH_of_parts3 (fuel := 8) (laidMet_of_run' 8 (by kernel_rfl) (by kernel_rfl)) (by kernel_rfl) (by kernel_rfl)

theorem errT_named : Tryd.prog.globalNamed "errors.errorType" = some 0 := by kernel_rfl
theorem errT_rt : (Tryd.prog.cutTypes.find? (·.1 == "internal/reflectlite.rtype")).map (·.2) = some 163 := by kernel_rfl
theorem errT_row : ((List.range 213).filter fun t => Tryd.prog.rowNamed t [101, 114, 114, 111, 114]) = [57] := by kernel_rfl
theorem errT_size : Tryd.prog.types.size = 213 := by kernel_rfl
theorem listed_data : (laidE.filter fun x => x.2.handleName?.isNone) = laidZ := by rfl
theorem listed_handle : (laidE.filter fun x => x.2.handleName?.isSome) = [("errors.errorType", Rows.laid_errors_errorType)] := by rfl

theorem powE_of {W : World} (h : laidMetH Tryd.prog laidE W) : PowE W := by
  obtain ⟨h1, h2⟩ := laidMetH_iff.1 h
  rw [listed_data] at h1
  rw [listed_handle] at h2
  refine ⟨tab_ofZ (by rw [MakeChecks.laidMetH_plain _ _ _ (by kernel_rfl)]; exact h1), ?_⟩
  obtain ⟨name, u, ty, e1, e2, e3, e4, e5⟩ := h2 _ (List.mem_singleton.2 rfl)
  have en : name = [101, 114, 114, 111, 114] := (Option.some.inj e1).symm
  subst en
  obtain rfl := Option.some.inj (errT_rt.symm.trans e2)
  have hm : ty ∈ (List.range 213).filter fun t => Tryd.prog.rowNamed t [101, 114, 114, 111, 114] := List.mem_filter.2 ⟨List.mem_range.2 (by rw [← errT_size]; exact e3), e4⟩
  rw [errT_row] at hm
  obtain rfl := List.mem_singleton.1 hm
  have hh : typeHandle Tryd.prog 57 = .pointer (some ⟨2, 57, none⟩) := by kernel_rfl
  rw [hh] at e5
  unfold ErrT
  simpa using World.var?_cell errT_named e5 0
end Go.Proofs.YteckkgbkgjhhbaaDoor
