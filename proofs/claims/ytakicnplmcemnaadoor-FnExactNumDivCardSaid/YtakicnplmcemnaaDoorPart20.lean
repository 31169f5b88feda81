/-
  The law FnExactNumDiv. Condition: the table of powers stands. Made by wip/tools/genup.py.
  The table of powers of ten as the card lists it, and as the walks read it.
-/
import Derived.Test.YtakicnplmcemnaaDoorPart19
import Derived.Test.YtakicnplmcemnaaDoorRows
import Derived.Test.YtakicnplmcemnaaDoorPart1
import Derived.ProofKit
import Derived.OpenShut
import Derived.ShutString
import Derived.ChangeOld
import Derived.ChangeVars
import Derived.Below
import Derived.Carry
import Derived.LaidMore
import Derived.Stop.Joined
import Derived.Stop.LaidErr
import Derived.Lib.LaidTab
namespace Go.Proofs.YtakicnplmcemnaaDoor
open Go.RowKit Go.Siskin

set_option maxRecDepth 20000 in
set_option maxHeartbeats 4000000 in
theorem lawNumDiv_of (n1 n2 : Bool) (T1 R1 T2 R2 : ByteArray) (w : World) (h1 : T1.size ≤ maxLen) (h2 : R1.size ≤ maxLen) (h3 : T2.size ≤ maxLen) (h4 : R2.size ≤ maxLen) (hP : Pow9 w) (n : Bool) (x y : ByteArray) (c : Int)
    (hS : ∀ w, Calls Tryd.prog 31 #[.agg #[.bool n1, .string T1, .string R1], .agg #[.bool n2, .string T2, .string R2]] w fun e w' => e = .returned (.tuple #[.agg #[.bool n, .string x, .string y], .int .i64 c]) ∧ Below w.heap.size w w')
    (hI : ∀ w, Pow9 w → Calls Tryd.prog 32 #[.agg #[.bool n1, .string T1, .string R1], .agg #[.bool n2, .string T2, .string R2]] w fun e w' => e = .returned (.tuple #[.agg #[.bool n, .string x, .string y], .int .i64 c]) ∧ Below w.heap.size w w') :
    Calls Tryd.prog 11 #[.agg #[.bool n1, .string T1, .string R1], .agg #[.bool n2, .string T2, .string R2]] w fun e w' => e = .returned (.bool true) ∧ Below w.heap.size w w' := by
  have HZ1 := hid (fun w => szNum_any n1 T1 R1 1048576 w (by decide) (by decide) h1 h2)
  obtain ⟨z1, hz1⟩ : ∃ z, szN T1.size R1.size 1048576 = z := ⟨_, rfl⟩
  have hz1l : z1 ≤ 1048576 := by rw [← hz1]; exact szN_le _ _ _ (by decide)
  rw [hz1] at HZ1
  have HZ2 : Hid (0 ≤ z1 → ∃ z2 : Int, ∀ w, Calls Tryd.prog 12 #[.agg #[.bool n2, .string T2, .string R2], .int .i64 z1] w fun e w' => e = .returned (.int .i64 z2) ∧ Below w.heap.size w w') := fun h0 => ⟨_, fun w => szNum_any n2 T2 R2 z1 w h0 hz1l h3 h4⟩
  have HT1 := hid (fun w => toNum_any n1 T1 R1 w)
  have HT2 := hid (fun w => toNum_any n2 T2 R2 w)
  have HS := hid hS
  have HI := hid hI
  have HPw := hid hP
  have HE := hid (eqNum_same n x y)
  have hcc : (c != c) = false := by simp
  clear h1 h2 h3 h4 hP hS hI hz1 hz1l
  obtain ⟨W0, HW0⟩ : ∃ W, Hid ((w.alloc (.cells #[.bool n1, .string T1, .string R1] 23)).alloc (.cells #[.bool n2, .string T2, .string R2] 23) = W) := ⟨_, rfl⟩
  have HX : Hid (∀ W, Below (w.heap.size + 2) W0 W → Own W w.heap.size 23 #[.bool n1, .string T1, .string R1] ∧ Own W (w.heap.size + 1) 23 #[.bool n2, .string T2, .string R2] ∧ Below w.heap.size w W) := fun W h => by
    rw [← HW0.out] at h
    exact boxes2 w _ _ _ _ h
  have HS0 : Hid (w.heap.size + 2 ≤ W0.heap.size) := by show _ ≤ _; rw [← HW0.out]; simp
  have HB0 : Hid (Below (w.heap.size + 2) W0 W0) := Below.refl _ _
  obtain ⟨⟨x0, x1, x2⟩, -⟩ := own3V (HX.out _ HB0.out).1
  go_enter Tryd.func11, Tryd.ntmps11
  go_wp2_with fail
  rw [HW0.out]
  go_wp2_with fail
  refine (HZ1.out _).mono ?_
  rintro e wa ⟨rfl, hwa⟩
  have HBa := hid (HB0.out.trans (hwa.mono HS0.out))
  clear hwa x0 x1 x2
  obtain ⟨⟨x0, x1, x2⟩, -⟩ := own3V (HX.out _ HBa.out).2.1
  by_cases hn1 : z1 < 0
  · go_wp2_with fail
    go_ret
    exact ⟨rfl, (HX.out _ HBa.out).2.2⟩
  obtain ⟨z2, hz2⟩ := HZ2.out (by omega)
  have HZ2b := hid hz2
  clear hz2
  go_wp2_with fail
  refine (HZ2b.out _).mono ?_
  rintro e wb ⟨rfl, hwb⟩
  have HBb := hid (HBa.out.trans (hwb.mono (Nat.le_trans HS0.out HBa.out.size)))
  clear hwb x0 x1 x2
  by_cases hn2 : z2 < 0
  · go_wp2_with fail
    go_ret
    exact ⟨rfl, (HX.out _ HBb.out).2.2⟩
  have HLb : Hid (∀ W, Below wb.heap.size wb W → (W.cell? ⟨w.heap.size, 0, none⟩ = some (.bool n1) ∧ W.cell? ⟨w.heap.size, 1, none⟩ = some (.string T1) ∧ W.cell? ⟨w.heap.size, 2, none⟩ = some (.string R1)) ∧ W.cell? ⟨w.heap.size + 1, 0, none⟩ = some (.bool n2) ∧ W.cell? ⟨w.heap.size + 1, 1, none⟩ = some (.string T2) ∧ W.cell? ⟨w.heap.size + 1, 2, none⟩ = some (.string R2)) := fun W h => by
    have h0 := HX.out W (HBb.out.trans (h.mono (Nat.le_trans HS0.out HBb.out.size)))
    exact ⟨(own3V h0.1).1, (own3V h0.2.1).1⟩
  go_wp2_with fail
  go_cut [6, 7] (fun f v wc => ∃ fb : Nat, f = .pointer (some ⟨fb, 0, none⟩) ∧ v = .int .i64 c ∧ Hid (Own wc fb 26 #[.bool n, .string x, .string y]) ∧ Hid (wb.heap.size ≤ fb) ∧ Hid (Below wb.heap.size wb wc))
  case first =>
    have HB : Hid (Below wb.heap.size wb wb.drew) := (Below.refl _ _).drew
    go_region_held3 (fun W => (W.cell? ⟨w.heap.size, 0, none⟩ = some (.bool n1) ∧ W.cell? ⟨w.heap.size, 1, none⟩ = some (.string T1) ∧ W.cell? ⟨w.heap.size, 2, none⟩ = some (.string R1)) ∧ W.cell? ⟨w.heap.size + 1, 0, none⟩ = some (.bool n2) ∧ W.cell? ⟨w.heap.size + 1, 1, none⟩ = some (.string T2) ∧ W.cell? ⟨w.heap.size + 1, 2, none⟩ = some (.string R2))
      (first
        | exact HLb.out _ HB.out
        | exact HLb.out _ (HB.out.alloc HB.out.size _)
        | exact HLb.out _ (((Below.refl _ _).alloc (Nat.le_refl _) _).drew)
        | exact HLb.out _ (below_set3 HB.out (by first | assumption | omega) _ _ _))
      (first
        | (go_at_call_of 14 (Value.string T1)
           go_loud (
             refine (HT1.out _).mono ?_
             rintro e w3 ⟨rfl, hw3⟩
             have yy := HB.out.size
             have hz3 := hw3.size
             try simp only [World.size_alloc] at hz3
             first
               | (have OB2 := OB.out.keep hw3 OB.out.lt
                  clear c0 c1 c2 p0 p1 p2
                  obtain ⟨⟨c0, c1, c2⟩, p0, p1, p2⟩ := own3V OB2
                  have OB := hid OB2
                  clear OB2)
               | (have OB2 := (own_new _ #[.bool false, .string ⟨#[]⟩, .string ⟨#[]⟩] 26).keep hw3 (by simp)
                  obtain ⟨⟨c0, c1, c2⟩, p0, p1, p2⟩ := own3V OB2
                  have OB := hid OB2
                  clear OB2)
               | (have OB2 := Own.keep (w := (World.alloc wb (.cells #[.bool false, .string ⟨#[]⟩, .string ⟨#[]⟩] 26)).drew) (own_new wb #[.bool false, .string ⟨#[]⟩, .string ⟨#[]⟩] 26) hw3 (by simp)
                  obtain ⟨⟨c0, c1, c2⟩, p0, p1, p2⟩ := own3V OB2
                  have OB := hid OB2
                  clear OB2)
               | skip
             have HB := hid (show Below wb.heap.size wb w3 by first | exact HB.out.trans (hw3.mono HB.out.size) | exact (((Below.refl wb.heap.size wb).alloc (Nat.le_refl _) _).drew).trans (hw3.mono (by simp)) | exact (HB.out.alloc HB.out.size _).trans (hw3.mono (by rw [World.size_alloc]; exact Nat.le_trans HB.out.size (Nat.le_succ _))))
             clear hw3))
        | (go_at_call_of 14 (Value.string T2)
           go_loud (
             refine (HT2.out _).mono ?_
             rintro e w3 ⟨rfl, hw3⟩
             have yy := HB.out.size
             have hz3 := hw3.size
             try simp only [World.size_alloc] at hz3
             first
               | (have OB2 := OB.out.keep hw3 OB.out.lt
                  clear c0 c1 c2 p0 p1 p2
                  obtain ⟨⟨c0, c1, c2⟩, p0, p1, p2⟩ := own3V OB2
                  have OB := hid OB2
                  clear OB2)
               | (have OB2 := (own_new _ #[.bool false, .string ⟨#[]⟩, .string ⟨#[]⟩] 26).keep hw3 (by simp)
                  obtain ⟨⟨c0, c1, c2⟩, p0, p1, p2⟩ := own3V OB2
                  have OB := hid OB2
                  clear OB2)
               | (have OB2 := Own.keep (w := (World.alloc wb (.cells #[.bool false, .string ⟨#[]⟩, .string ⟨#[]⟩] 26)).drew) (own_new wb #[.bool false, .string ⟨#[]⟩, .string ⟨#[]⟩] 26) hw3 (by simp)
                  obtain ⟨⟨c0, c1, c2⟩, p0, p1, p2⟩ := own3V OB2
                  have OB := hid OB2
                  clear OB2)
               | skip
             have HB := hid (show Below wb.heap.size wb w3 by first | exact HB.out.trans (hw3.mono HB.out.size) | exact (((Below.refl wb.heap.size wb).alloc (Nat.le_refl _) _).drew).trans (hw3.mono (by simp)) | exact (HB.out.alloc HB.out.size _).trans (hw3.mono (by rw [World.size_alloc]; exact Nat.le_trans HB.out.size (Nat.le_succ _))))
             clear hw3))
        | (go_at_call 31
           go_loud (
             refine (HS.out _).mono ?_
             rintro e w3 ⟨rfl, hw3⟩
             have yy := HB.out.size
             have hz3 := hw3.size
             try simp only [World.size_alloc] at hz3
             first
               | (have OB2 := OB.out.keep hw3 OB.out.lt
                  clear c0 c1 c2 p0 p1 p2
                  obtain ⟨⟨c0, c1, c2⟩, p0, p1, p2⟩ := own3V OB2
                  have OB := hid OB2
                  clear OB2)
               | (have OB2 := (own_new _ #[.bool false, .string ⟨#[]⟩, .string ⟨#[]⟩] 26).keep hw3 (by simp)
                  obtain ⟨⟨c0, c1, c2⟩, p0, p1, p2⟩ := own3V OB2
                  have OB := hid OB2
                  clear OB2)
               | (have OB2 := Own.keep (w := (World.alloc wb (.cells #[.bool false, .string ⟨#[]⟩, .string ⟨#[]⟩] 26)).drew) (own_new wb #[.bool false, .string ⟨#[]⟩, .string ⟨#[]⟩] 26) hw3 (by simp)
                  obtain ⟨⟨c0, c1, c2⟩, p0, p1, p2⟩ := own3V OB2
                  have OB := hid OB2
                  clear OB2)
               | skip
             have HB := hid (show Below wb.heap.size wb w3 by first | exact HB.out.trans (hw3.mono HB.out.size) | exact (((Below.refl wb.heap.size wb).alloc (Nat.le_refl _) _).drew).trans (hw3.mono (by simp)) | exact (HB.out.alloc HB.out.size _).trans (hw3.mono (by rw [World.size_alloc]; exact Nat.le_trans HB.out.size (Nat.le_succ _))))
             clear hw3)))
    all_goals go_wp2_with fail
    all_goals go_meet
    all_goals first
      | exact ⟨_, rfl, rfl, own_new _ _ _, HB.out.size, HB.out.alloc HB.out.size _⟩
      | exact ⟨_, rfl, rfl, ((OB.out.set 0 _).set 1 _).set 2 _, by first | assumption | omega, below_set3 HB.out (by first | assumption | omega) _ _ _⟩
  case rest =>
    obtain ⟨f1, rfl, rfl, HO1, HF1, HBc⟩ := hcut
    rename World => wA
    have HLc : Hid (∀ W, Below wA.heap.size wA W → (W.cell? ⟨w.heap.size, 0, none⟩ = some (.bool n1) ∧ W.cell? ⟨w.heap.size, 1, none⟩ = some (.string T1) ∧ W.cell? ⟨w.heap.size, 2, none⟩ = some (.string R1)) ∧ W.cell? ⟨w.heap.size + 1, 0, none⟩ = some (.bool n2) ∧ W.cell? ⟨w.heap.size + 1, 1, none⟩ = some (.string T2) ∧ W.cell? ⟨w.heap.size + 1, 2, none⟩ = some (.string R2)) := fun W h => HLb.out W (HBc.out.trans (h.mono HBc.out.size))
    have HPc : Hid (∀ W, Below wA.heap.size wA W → Pow9 W) := fun W h => HPw.out.below (HX.out W ((HBb.out.trans (HBc.out.mono (Nat.le_trans HS0.out HBb.out.size))).trans (h.mono (Nat.le_trans HS0.out (Nat.le_trans HBb.out.size HBc.out.size))))).2.2 (Nat.le_refl _)
    go_wp2_with fail
    go_cut [8, 9] (fun f v wc => ∃ fb : Nat, f = .pointer (some ⟨fb, 0, none⟩) ∧ v = .int .i64 c ∧ Hid (Own wc fb 26 #[.bool n, .string x, .string y]) ∧ Hid (wA.heap.size ≤ fb) ∧ Hid (Below wA.heap.size wA wc))
    case first =>
      have HB : Hid (Below wA.heap.size wA wA.drew) := (Below.refl _ _).drew
      go_region_held3 (fun W => (W.cell? ⟨w.heap.size, 0, none⟩ = some (.bool n1) ∧ W.cell? ⟨w.heap.size, 1, none⟩ = some (.string T1) ∧ W.cell? ⟨w.heap.size, 2, none⟩ = some (.string R1)) ∧ W.cell? ⟨w.heap.size + 1, 0, none⟩ = some (.bool n2) ∧ W.cell? ⟨w.heap.size + 1, 1, none⟩ = some (.string T2) ∧ W.cell? ⟨w.heap.size + 1, 2, none⟩ = some (.string R2))
        (first
          | exact HLc.out _ HB.out
          | exact HLc.out _ (HB.out.alloc HB.out.size _)
          | exact HLc.out _ (((Below.refl _ _).alloc (Nat.le_refl _) _).drew)
          | exact HLc.out _ (below_set3 HB.out (by first | assumption | omega) _ _ _))
        (first
          | (go_at_call_of 14 (Value.string T1)
             go_loud (
               refine (HT1.out _).mono ?_
               rintro e w3 ⟨rfl, hw3⟩
               have yy := HB.out.size
               have hz3 := hw3.size
               try simp only [World.size_alloc] at hz3
               first
                 | (have OB2 := OB.out.keep hw3 OB.out.lt
                    clear c0 c1 c2 p0 p1 p2
                    obtain ⟨⟨c0, c1, c2⟩, p0, p1, p2⟩ := own3V OB2
                    have OB := hid OB2
                    clear OB2)
                 | (have OB2 := (own_new _ #[.bool false, .string ⟨#[]⟩, .string ⟨#[]⟩] 26).keep hw3 (by simp)
                    obtain ⟨⟨c0, c1, c2⟩, p0, p1, p2⟩ := own3V OB2
                    have OB := hid OB2
                    clear OB2)
                 | (have OB2 := Own.keep (w := (World.alloc wA (.cells #[.bool false, .string ⟨#[]⟩, .string ⟨#[]⟩] 26)).drew) (own_new wA #[.bool false, .string ⟨#[]⟩, .string ⟨#[]⟩] 26) hw3 (by simp)
                    obtain ⟨⟨c0, c1, c2⟩, p0, p1, p2⟩ := own3V OB2
                    have OB := hid OB2
                    clear OB2)
                 | skip
               have HB := hid (show Below wA.heap.size wA w3 by first | exact HB.out.trans (hw3.mono HB.out.size) | exact (((Below.refl wA.heap.size wA).alloc (Nat.le_refl _) _).drew).trans (hw3.mono (by simp)) | exact (HB.out.alloc HB.out.size _).trans (hw3.mono (by rw [World.size_alloc]; exact Nat.le_trans HB.out.size (Nat.le_succ _))))
               clear hw3))
          | (go_at_call_of 14 (Value.string T2)
             go_loud (
               refine (HT2.out _).mono ?_
               rintro e w3 ⟨rfl, hw3⟩
               have yy := HB.out.size
               have hz3 := hw3.size
               try simp only [World.size_alloc] at hz3
               first
                 | (have OB2 := OB.out.keep hw3 OB.out.lt
                    clear c0 c1 c2 p0 p1 p2
                    obtain ⟨⟨c0, c1, c2⟩, p0, p1, p2⟩ := own3V OB2
                    have OB := hid OB2
                    clear OB2)
                 | (have OB2 := (own_new _ #[.bool false, .string ⟨#[]⟩, .string ⟨#[]⟩] 26).keep hw3 (by simp)
                    obtain ⟨⟨c0, c1, c2⟩, p0, p1, p2⟩ := own3V OB2
                    have OB := hid OB2
                    clear OB2)
                 | (have OB2 := Own.keep (w := (World.alloc wA (.cells #[.bool false, .string ⟨#[]⟩, .string ⟨#[]⟩] 26)).drew) (own_new wA #[.bool false, .string ⟨#[]⟩, .string ⟨#[]⟩] 26) hw3 (by simp)
                    obtain ⟨⟨c0, c1, c2⟩, p0, p1, p2⟩ := own3V OB2
                    have OB := hid OB2
                    clear OB2)
                 | skip
               have HB := hid (show Below wA.heap.size wA w3 by first | exact HB.out.trans (hw3.mono HB.out.size) | exact (((Below.refl wA.heap.size wA).alloc (Nat.le_refl _) _).drew).trans (hw3.mono (by simp)) | exact (HB.out.alloc HB.out.size _).trans (hw3.mono (by rw [World.size_alloc]; exact Nat.le_trans HB.out.size (Nat.le_succ _))))
               clear hw3))
          | (go_at_call 32
             go_loud (
               refine (HI.out _ (by first | exact HPc.out _ HB.out | exact HPc.out _ (HB.out.alloc HB.out.size _) | exact HPc.out _ (((Below.refl _ _).alloc (Nat.le_refl _) _).drew))).mono ?_
               rintro e w3 ⟨rfl, hw3⟩
               have yy := HB.out.size
               have hz3 := hw3.size
               try simp only [World.size_alloc] at hz3
               first
                 | (have OB2 := OB.out.keep hw3 OB.out.lt
                    clear c0 c1 c2 p0 p1 p2
                    obtain ⟨⟨c0, c1, c2⟩, p0, p1, p2⟩ := own3V OB2
                    have OB := hid OB2
                    clear OB2)
                 | (have OB2 := (own_new _ #[.bool false, .string ⟨#[]⟩, .string ⟨#[]⟩] 26).keep hw3 (by simp)
                    obtain ⟨⟨c0, c1, c2⟩, p0, p1, p2⟩ := own3V OB2
                    have OB := hid OB2
                    clear OB2)
                 | (have OB2 := Own.keep (w := (World.alloc wA (.cells #[.bool false, .string ⟨#[]⟩, .string ⟨#[]⟩] 26)).drew) (own_new wA #[.bool false, .string ⟨#[]⟩, .string ⟨#[]⟩] 26) hw3 (by simp)
                    obtain ⟨⟨c0, c1, c2⟩, p0, p1, p2⟩ := own3V OB2
                    have OB := hid OB2
                    clear OB2)
                 | skip
               have HB := hid (show Below wA.heap.size wA w3 by first | exact HB.out.trans (hw3.mono HB.out.size) | exact (((Below.refl wA.heap.size wA).alloc (Nat.le_refl _) _).drew).trans (hw3.mono (by simp)) | exact (HB.out.alloc HB.out.size _).trans (hw3.mono (by rw [World.size_alloc]; exact Nat.le_trans HB.out.size (Nat.le_succ _))))
               clear hw3)))
      all_goals go_wp2_with fail
      all_goals go_meet
      all_goals first
        | exact ⟨_, rfl, rfl, own_new _ _ _, HB.out.size, HB.out.alloc HB.out.size _⟩
        | exact ⟨_, rfl, rfl, ((OB.out.set 0 _).set 1 _).set 2 _, by first | assumption | omega, below_set3 HB.out (by first | assumption | omega) _ _ _⟩
    case rest =>
      obtain ⟨f2, rfl, rfl, HO2, HF2, HBd⟩ := hcut
      have o1 := HO1.out.keep HBd.out HO1.out.lt
      obtain ⟨⟨x0, x1, x2⟩, -⟩ := own3V o1
      obtain ⟨⟨y0, y1, y2⟩, -⟩ := own3V HO2.out
      have HBe := hid (HX.out wc ((HBb.out.trans (HBc.out.mono (Nat.le_trans HS0.out HBb.out.size))).trans (HBd.out.mono (Nat.le_trans HS0.out (Nat.le_trans HBb.out.size HBc.out.size))))).2.2
      clear o1
      go_wp2_with fail
      refine (HE.out _).mono ?_
      rintro e w9 ⟨rfl, hw9⟩
      have HB9 := hid (HBe.out.trans (hw9.mono HBe.out.size))
      clear hw9 x0 x1 x2 y0 y1 y2
      go_wp2_with fail
      go_ret
      exact ⟨rfl, HB9.out⟩

theorem lawNumDiv_any (n1 n2 : Bool) (T1 R1 T2 R2 : ByteArray) (w : World) (h1 : T1.size ≤ maxLen) (h2 : R1.size ≤ maxLen) (h3 : T2.size ≤ maxLen) (h4 : R2.size ≤ maxLen) (hP : Pow9 w) :
    Calls Tryd.prog 11 #[.agg #[.bool n1, .string T1, .string R1], .agg #[.bool n2, .string T2, .string R2]] w fun e w' => e = .returned (.bool true) ∧ Below w.heap.size w w' := by
  obtain ⟨n, x, y, c, hS, hI⟩ := numDiv_both n1 n2 T1 R1 T2 R2 h1 h2 h3 h4
  exact lawNumDiv_of n1 n2 T1 R1 T2 R2 w h1 h2 h3 h4 hP n x y c hS hI
end Go.Proofs.YtakicnplmcemnaaDoor

namespace Go.Proofs.YtakicnplmcemnaaDoor
open Go.ChangeShapes Go.WideShapes Go.ChangeAt Go.RowKit Go.Siskin

theorem ownZ : ownKnob Tryd.prog.godebug = none := by kernel_rfl
theorem laidOutZ : laidOutB Tryd.prog = true := by kernel_rfl

/-- What is listed. -/
abbrev laidZ : List (String × DataW Unit) := [("loop.example/siskin/impl.powersOfTen", Rows.laid_loop_example_siskin_impl_powersOfTen)]
def tabZ : List Int := [1, 10, 100, 1000, 10000, 100000, 1000000, 10000000, 100000000]

theorem door_metZ (os : Os) (args : Array Value) : laidMetH Tryd.prog laidZ ((World.doorLaid Tryd.prog 400 os).forCall (fun _ _ => 0) ⟨#[], args, []⟩).memory :=
  laidMetH_of_parts3 (fuel := 8) (laidMet_of_run' 8 (by kernel_rfl) (by kernel_rfl)) (by kernel_rfl) (by kernel_rfl)

theorem tab_dataZ : (Rows.laid_loop_example_siskin_impl_powersOfTen : DataW Unit) = Lib.tabData .u64 tabZ := by kernel_rfl
theorem tab_ofZ {W : World} (h : laidMetH Tryd.prog laidZ W) : Pow9 W := by
  rw [MakeChecks.laidMetH_plain _ _ _ (by kernel_rfl)] at h
  rw [laidZ, tab_dataZ] at h
  have hT : Lib.TabIs Tryd.prog W "loop.example/siskin/impl.powersOfTen" .u64 tabZ :=
    Lib.tabIs_of_head (g := 0) (t := 113) (e := 52) (n := 9) (by kernel_rfl) (by kernel_rfl) (by kernel_rfl) (by kernel_rfl) (by kernel_rfl) (by kernel_rfl) h
  have hc : ∀ i, i < 9 → W.cell? ⟨0, i, none⟩ = some (.int .u64 ((10 ^ i : Nat) : Int)) := by
    intro i hi
    rw [hT.cell (g := 0) (by kernel_rfl) i (by simpa [tabZ] using hi)]
    have hcase : i = 0 ∨ i = 1 ∨ i = 2 ∨ i = 3 ∨ i = 4 ∨ i = 5 ∨ i = 6 ∨ i = 7 ∨ i = 8 := by omega
    rcases hcase with rfl | rfl | rfl | rfl | rfl | rfl | rfl | rfl | rfl <;> rfl
  refine ⟨?_, hc⟩
  have h0 := hc 0 (by omega)
  unfold World.cell? at h0
  cases e : W.heap[0]? with
  | none => rw [e] at h0; simp at h0
  | some o => exact (Array.getElem?_eq_some_iff.1 e).1

theorem var_belowZ {P : Program} {B g : Nat} {W W' : World} {n : String} {cs : Array Value} (h : Below B W W') (hg : P.globalNamed n = some g) (hgB : g < B) (hv : W.var? P n = some cs) : W'.var? P n = some cs := by
  unfold World.var? at hv ⊢
  simp only [hg, Option.bind_some] at hv ⊢
  rw [h.block g hgB]
  exact hv

/-- The listed variable reads behind the call as it did. -/
theorem vars_keptZ {H : Type} {enc : TypeId × Value → H} {W W' : World} {gs : List (DataW H)} {q : List MemPlace} (hV : DataW.TrodVars enc Tryd.prog W (fun _ => true) ["loop.example/siskin/impl.powersOfTen"] gs q) (hb : Below W.heap.size W W') (hP : Pow9 W) :
    ∃ pv, DataW.TrodVars enc Tryd.prog W' (fun b => decide (b < W.heap.size)) ["loop.example/siskin/impl.powersOfTen"] gs pv := by
  obtain ⟨g, t, cs, fuel, d, p, rfl, hg, ht, hvar, hd, rfl⟩ := trodVars_one hV
  have hg0 : Tryd.prog.globalNamed "loop.example/siskin/impl.powersOfTen" = some 0 := by kernel_rfl
  obtain rfl := Option.some.inj (hg0.symm.trans hg)
  have ht0 : (Tryd.prog.globals[0]?).map (·.type) = some 113 := by kernel_rfl
  obtain rfl := Option.some.inj (ht0.symm.trans ht)
  have lt0 : ∀ x ∈ p, x.block < W.heap.size := DataW.trod_lt fuel _ _ _ hd
  obtain ⟨f2, hd2⟩ := Below.trod laidOutZ (by kernel_rfl) (of_decide_eq_true (by kernel_rfl)) (v := .agg cs) (⟨fuel, by simpa [Value.cells] using hd⟩ : DataW.Trod enc Tryd.prog W 0 (fun _ => true) true 113 (.agg cs) d p) hb lt0
  exact ⟨_, trodVars_mk1 (enc := enc) (spare := fun b => decide (b < W.heap.size)) hg ht (var_belowZ hb hg hP.1 hvar) (by simpa [Value.cells] using hd2)⟩
end Go.Proofs.YtakicnplmcemnaaDoor
