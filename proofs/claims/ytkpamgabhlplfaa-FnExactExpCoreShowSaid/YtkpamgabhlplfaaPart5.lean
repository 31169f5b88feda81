/-
  The program's show writes into the builder what the plain function says. Condition: the part lies in memory ahead of the builder, which is one of the call's own.
  The program's showCore and ExpCoreShow. Condition: the part lies in memory ahead of the builder, which is one of the call's own.
  The program's showCore and ExpCoreShow. Condition: the part lies in memory, every list in a block of its own, and costs at most 1048576.
-/
import Derived.Test.YtkpamgabhlplfaaPart4
namespace Go.Proofs.Ytkpamgabhlplfaa
open Go.RowKit Go.Siskin

set_option maxRecDepth 20000 in
set_option maxHeartbeats 400000 in
theorem showCo_showText (n : Nat) (ih : ShowBy n) (c : Cm) (hf : fnC c.sort = 77) (hc : c.sz ≤ n) (R : Nat → Prop) (w : World) (c0 c1 c2 c3 c4 : Value) (B b : Nat) (l : List UInt8) (hA : CoreAt R w c c0 c1 c2 c3 c4) (hR : ∀ x, R x → x < B) (hb : isS B b l w) (hB : B ≤ w.heap.size) (hl : l.length + (showC c).length ≤ 1000000000) :
    Calls Try.prog 63 #[pb b, .agg #[c0, c1, c2, c3, c4]] w fun e w' => e = .returned (.tuple #[]) ∧ isS B b (l ++ showC c) w' ∧ Wrote B b w w' := by
  obtain ⟨W, hW⟩ : ∃ W, W = (w.alloc (.cells #[c0, c1, c2, c3, c4] 50)).drew := ⟨_, rfl⟩
  have hbW : isS B b l W := by rw [hW]; exact isS_drew (isS_alloc hb _)
  have hsW : W.heap.size = w.heap.size + 1 := by rw [hW]; show (w.alloc _).heap.size = _; simp
  have hWr : Wrote B b w W := by rw [hW]; exact ((Wrote.refl B b w).alloc hB _).drew
  have HO := hid (of_any B b l c.sort W hbW)
  have HC := hid (ih c hc R W c0 c1 c2 c3 c4 B b l (CoreAt.keep (hWr.1.on hR) _ hA) hR hbW (by omega) hl)
  have HWr := hid hWr
  obtain ⟨rfl, rfl, ht, rfl, h3, h4⟩ := (coreAt_iff _ _ _ _ _ _ _ _).1 hA
  obtain ⟨a3, k3, rfl, -⟩ := h3
  obtain ⟨a4, k4, rfl, -⟩ := h4
  have hOw : Own W w.heap.size 50 #[.int .i64 c.sort, .string c.text, .bool c.rest, .slice a3 c.names.length k3, .slice a4 c.kids.length k4] := by
    rw [hW]; exact own_new _ _ _
  have HOw := hid hOw
  have HBL := hid (isS_lt hb)
  have K0 := hid (cown5 hOw)
  clear ih hA hR hb hl hbW hWr hOw
  subst hW
  rw [hf] at HO HC
  clear hf
  go_enter Try.func63, Try.ntmps63
  go_wp2_with fail
  go_region_held3 (fun w' => w'.cell? ⟨w.heap.size, 0, none⟩ = some (.int .i64 c.sort) ∧ w'.cell? ⟨w.heap.size, 1, none⟩ = some (.string c.text) ∧ w'.cell? ⟨w.heap.size, 2, none⟩ = some (.bool c.rest) ∧ w'.cell? ⟨w.heap.size, 3, none⟩ = some (.slice a3 c.names.length k3) ∧ w'.cell? ⟨w.heap.size, 4, none⟩ = some (.slice a4 c.kids.length k4))
    (first | exact K2.out | exact K0.out)
    (first
      | (go_at_call 85
         refine HO.out.mono ?_
         rintro e w1 ⟨rfl, hw1⟩
         rw [hw1])
      | (go_at_call 77
         refine HC.out.mono ?_
         rintro e w2 ⟨rfl, hb2, hw2⟩
         have HB2 := hid hb2
         have HW2 := hid hw2
         have K2 := hid (cown5 (show Own w2 _ _ _ from hw2.2 _ _ _ _ (by have := HBL.out; omega) (by decide) HOw.out))
         clear hb2 hw2))
  go_wp2_with fail
  go_end0
  exact ⟨rfl, HB2.out, HWr.out.trans HW2.out⟩

set_option maxRecDepth 20000 in
set_option maxHeartbeats 400000 in
theorem showCo_showLambda (n : Nat) (ih : ShowBy n) (c : Cm) (hf : fnC c.sort = 78) (hc : c.sz ≤ n) (R : Nat → Prop) (w : World) (c0 c1 c2 c3 c4 : Value) (B b : Nat) (l : List UInt8) (hA : CoreAt R w c c0 c1 c2 c3 c4) (hR : ∀ x, R x → x < B) (hb : isS B b l w) (hB : B ≤ w.heap.size) (hl : l.length + (showC c).length ≤ 1000000000) :
    Calls Try.prog 63 #[pb b, .agg #[c0, c1, c2, c3, c4]] w fun e w' => e = .returned (.tuple #[]) ∧ isS B b (l ++ showC c) w' ∧ Wrote B b w w' := by
  obtain ⟨W, hW⟩ : ∃ W, W = (w.alloc (.cells #[c0, c1, c2, c3, c4] 50)).drew := ⟨_, rfl⟩
  have hbW : isS B b l W := by rw [hW]; exact isS_drew (isS_alloc hb _)
  have hsW : W.heap.size = w.heap.size + 1 := by rw [hW]; show (w.alloc _).heap.size = _; simp
  have hWr : Wrote B b w W := by rw [hW]; exact ((Wrote.refl B b w).alloc hB _).drew
  have HO := hid (of_any B b l c.sort W hbW)
  have HC := hid (ih c hc R W c0 c1 c2 c3 c4 B b l (CoreAt.keep (hWr.1.on hR) _ hA) hR hbW (by omega) hl)
  have HWr := hid hWr
  obtain ⟨rfl, rfl, ht, rfl, h3, h4⟩ := (coreAt_iff _ _ _ _ _ _ _ _).1 hA
  obtain ⟨a3, k3, rfl, -⟩ := h3
  obtain ⟨a4, k4, rfl, -⟩ := h4
  have hOw : Own W w.heap.size 50 #[.int .i64 c.sort, .string c.text, .bool c.rest, .slice a3 c.names.length k3, .slice a4 c.kids.length k4] := by
    rw [hW]; exact own_new _ _ _
  have HOw := hid hOw
  have HBL := hid (isS_lt hb)
  have K0 := hid (cown5 hOw)
  clear ih hA hR hb hl hbW hWr hOw
  subst hW
  rw [hf] at HO HC
  clear hf
  go_enter Try.func63, Try.ntmps63
  go_wp2_with fail
  go_region_held3 (fun w' => w'.cell? ⟨w.heap.size, 0, none⟩ = some (.int .i64 c.sort) ∧ w'.cell? ⟨w.heap.size, 1, none⟩ = some (.string c.text) ∧ w'.cell? ⟨w.heap.size, 2, none⟩ = some (.bool c.rest) ∧ w'.cell? ⟨w.heap.size, 3, none⟩ = some (.slice a3 c.names.length k3) ∧ w'.cell? ⟨w.heap.size, 4, none⟩ = some (.slice a4 c.kids.length k4))
    (first | exact K2.out | exact K0.out)
    (first
      | (go_at_call 85
         refine HO.out.mono ?_
         rintro e w1 ⟨rfl, hw1⟩
         rw [hw1])
      | (go_at_call 78
         refine HC.out.mono ?_
         rintro e w2 ⟨rfl, hb2, hw2⟩
         have HB2 := hid hb2
         have HW2 := hid hw2
         have K2 := hid (cown5 (show Own w2 _ _ _ from hw2.2 _ _ _ _ (by have := HBL.out; omega) (by decide) HOw.out))
         clear hb2 hw2))
  go_wp2_with fail
  go_end0
  exact ⟨rfl, HB2.out, HWr.out.trans HW2.out⟩

set_option maxRecDepth 20000 in
set_option maxHeartbeats 400000 in
theorem showCo_showCall (n : Nat) (ih : ShowBy n) (c : Cm) (hf : fnC c.sort = 79) (hc : c.sz ≤ n) (R : Nat → Prop) (w : World) (c0 c1 c2 c3 c4 : Value) (B b : Nat) (l : List UInt8) (hA : CoreAt R w c c0 c1 c2 c3 c4) (hR : ∀ x, R x → x < B) (hb : isS B b l w) (hB : B ≤ w.heap.size) (hl : l.length + (showC c).length ≤ 1000000000) :
    Calls Try.prog 63 #[pb b, .agg #[c0, c1, c2, c3, c4]] w fun e w' => e = .returned (.tuple #[]) ∧ isS B b (l ++ showC c) w' ∧ Wrote B b w w' := by
  obtain ⟨W, hW⟩ : ∃ W, W = (w.alloc (.cells #[c0, c1, c2, c3, c4] 50)).drew := ⟨_, rfl⟩
  have hbW : isS B b l W := by rw [hW]; exact isS_drew (isS_alloc hb _)
  have hsW : W.heap.size = w.heap.size + 1 := by rw [hW]; show (w.alloc _).heap.size = _; simp
  have hWr : Wrote B b w W := by rw [hW]; exact ((Wrote.refl B b w).alloc hB _).drew
  have HO := hid (of_any B b l c.sort W hbW)
  have HC := hid (ih c hc R W c0 c1 c2 c3 c4 B b l (CoreAt.keep (hWr.1.on hR) _ hA) hR hbW (by omega) hl)
  have HWr := hid hWr
  obtain ⟨rfl, rfl, ht, rfl, h3, h4⟩ := (coreAt_iff _ _ _ _ _ _ _ _).1 hA
  obtain ⟨a3, k3, rfl, -⟩ := h3
  obtain ⟨a4, k4, rfl, -⟩ := h4
  have hOw : Own W w.heap.size 50 #[.int .i64 c.sort, .string c.text, .bool c.rest, .slice a3 c.names.length k3, .slice a4 c.kids.length k4] := by
    rw [hW]; exact own_new _ _ _
  have HOw := hid hOw
  have HBL := hid (isS_lt hb)
  have K0 := hid (cown5 hOw)
  clear ih hA hR hb hl hbW hWr hOw
  subst hW
  rw [hf] at HO HC
  clear hf
  go_enter Try.func63, Try.ntmps63
  go_wp2_with fail
  go_region_held3 (fun w' => w'.cell? ⟨w.heap.size, 0, none⟩ = some (.int .i64 c.sort) ∧ w'.cell? ⟨w.heap.size, 1, none⟩ = some (.string c.text) ∧ w'.cell? ⟨w.heap.size, 2, none⟩ = some (.bool c.rest) ∧ w'.cell? ⟨w.heap.size, 3, none⟩ = some (.slice a3 c.names.length k3) ∧ w'.cell? ⟨w.heap.size, 4, none⟩ = some (.slice a4 c.kids.length k4))
    (first | exact K2.out | exact K0.out)
    (first
      | (go_at_call 85
         refine HO.out.mono ?_
         rintro e w1 ⟨rfl, hw1⟩
         rw [hw1])
      | (go_at_call 79
         refine HC.out.mono ?_
         rintro e w2 ⟨rfl, hb2, hw2⟩
         have HB2 := hid hb2
         have HW2 := hid hw2
         have K2 := hid (cown5 (show Own w2 _ _ _ from hw2.2 _ _ _ _ (by have := HBL.out; omega) (by decide) HOw.out))
         clear hb2 hw2))
  go_wp2_with fail
  go_end0
  exact ⟨rfl, HB2.out, HWr.out.trans HW2.out⟩

set_option maxRecDepth 20000 in
set_option maxHeartbeats 400000 in
theorem showCo_showIf (n : Nat) (ih : ShowBy n) (c : Cm) (hf : fnC c.sort = 80) (hc : c.sz ≤ n) (R : Nat → Prop) (w : World) (c0 c1 c2 c3 c4 : Value) (B b : Nat) (l : List UInt8) (hA : CoreAt R w c c0 c1 c2 c3 c4) (hR : ∀ x, R x → x < B) (hb : isS B b l w) (hB : B ≤ w.heap.size) (hl : l.length + (showC c).length ≤ 1000000000) :
    Calls Try.prog 63 #[pb b, .agg #[c0, c1, c2, c3, c4]] w fun e w' => e = .returned (.tuple #[]) ∧ isS B b (l ++ showC c) w' ∧ Wrote B b w w' := by
  obtain ⟨W, hW⟩ : ∃ W, W = (w.alloc (.cells #[c0, c1, c2, c3, c4] 50)).drew := ⟨_, rfl⟩
  have hbW : isS B b l W := by rw [hW]; exact isS_drew (isS_alloc hb _)
  have hsW : W.heap.size = w.heap.size + 1 := by rw [hW]; show (w.alloc _).heap.size = _; simp
  have hWr : Wrote B b w W := by rw [hW]; exact ((Wrote.refl B b w).alloc hB _).drew
  have HO := hid (of_any B b l c.sort W hbW)
  have HC := hid (ih c hc R W c0 c1 c2 c3 c4 B b l (CoreAt.keep (hWr.1.on hR) _ hA) hR hbW (by omega) hl)
  have HWr := hid hWr
  obtain ⟨rfl, rfl, ht, rfl, h3, h4⟩ := (coreAt_iff _ _ _ _ _ _ _ _).1 hA
  obtain ⟨a3, k3, rfl, -⟩ := h3
  obtain ⟨a4, k4, rfl, -⟩ := h4
  have hOw : Own W w.heap.size 50 #[.int .i64 c.sort, .string c.text, .bool c.rest, .slice a3 c.names.length k3, .slice a4 c.kids.length k4] := by
    rw [hW]; exact own_new _ _ _
  have HOw := hid hOw
  have HBL := hid (isS_lt hb)
  have K0 := hid (cown5 hOw)
  clear ih hA hR hb hl hbW hWr hOw
  subst hW
  rw [hf] at HO HC
  clear hf
  go_enter Try.func63, Try.ntmps63
  go_wp2_with fail
  go_region_held3 (fun w' => w'.cell? ⟨w.heap.size, 0, none⟩ = some (.int .i64 c.sort) ∧ w'.cell? ⟨w.heap.size, 1, none⟩ = some (.string c.text) ∧ w'.cell? ⟨w.heap.size, 2, none⟩ = some (.bool c.rest) ∧ w'.cell? ⟨w.heap.size, 3, none⟩ = some (.slice a3 c.names.length k3) ∧ w'.cell? ⟨w.heap.size, 4, none⟩ = some (.slice a4 c.kids.length k4))
    (first | exact K2.out | exact K0.out)
    (first
      | (go_at_call 85
         refine HO.out.mono ?_
         rintro e w1 ⟨rfl, hw1⟩
         rw [hw1])
      | (go_at_call 80
         refine HC.out.mono ?_
         rintro e w2 ⟨rfl, hb2, hw2⟩
         have HB2 := hid hb2
         have HW2 := hid hw2
         have K2 := hid (cown5 (show Own w2 _ _ _ from hw2.2 _ _ _ _ (by have := HBL.out; omega) (by decide) HOw.out))
         clear hb2 hw2))
  go_wp2_with fail
  go_end0
  exact ⟨rfl, HB2.out, HWr.out.trans HW2.out⟩

set_option maxRecDepth 20000 in
set_option maxHeartbeats 400000 in
theorem showCo_showSet (n : Nat) (ih : ShowBy n) (c : Cm) (hf : fnC c.sort = 81) (hc : c.sz ≤ n) (R : Nat → Prop) (w : World) (c0 c1 c2 c3 c4 : Value) (B b : Nat) (l : List UInt8) (hA : CoreAt R w c c0 c1 c2 c3 c4) (hR : ∀ x, R x → x < B) (hb : isS B b l w) (hB : B ≤ w.heap.size) (hl : l.length + (showC c).length ≤ 1000000000) :
    Calls Try.prog 63 #[pb b, .agg #[c0, c1, c2, c3, c4]] w fun e w' => e = .returned (.tuple #[]) ∧ isS B b (l ++ showC c) w' ∧ Wrote B b w w' := by
  obtain ⟨W, hW⟩ : ∃ W, W = (w.alloc (.cells #[c0, c1, c2, c3, c4] 50)).drew := ⟨_, rfl⟩
  have hbW : isS B b l W := by rw [hW]; exact isS_drew (isS_alloc hb _)
  have hsW : W.heap.size = w.heap.size + 1 := by rw [hW]; show (w.alloc _).heap.size = _; simp
  have hWr : Wrote B b w W := by rw [hW]; exact ((Wrote.refl B b w).alloc hB _).drew
  have HO := hid (of_any B b l c.sort W hbW)
  have HC := hid (ih c hc R W c0 c1 c2 c3 c4 B b l (CoreAt.keep (hWr.1.on hR) _ hA) hR hbW (by omega) hl)
  have HWr := hid hWr
  obtain ⟨rfl, rfl, ht, rfl, h3, h4⟩ := (coreAt_iff _ _ _ _ _ _ _ _).1 hA
  obtain ⟨a3, k3, rfl, -⟩ := h3
  obtain ⟨a4, k4, rfl, -⟩ := h4
  have hOw : Own W w.heap.size 50 #[.int .i64 c.sort, .string c.text, .bool c.rest, .slice a3 c.names.length k3, .slice a4 c.kids.length k4] := by
    rw [hW]; exact own_new _ _ _
  have HOw := hid hOw
  have HBL := hid (isS_lt hb)
  have K0 := hid (cown5 hOw)
  clear ih hA hR hb hl hbW hWr hOw
  subst hW
  rw [hf] at HO HC
  clear hf
  go_enter Try.func63, Try.ntmps63
  go_wp2_with fail
  go_region_held3 (fun w' => w'.cell? ⟨w.heap.size, 0, none⟩ = some (.int .i64 c.sort) ∧ w'.cell? ⟨w.heap.size, 1, none⟩ = some (.string c.text) ∧ w'.cell? ⟨w.heap.size, 2, none⟩ = some (.bool c.rest) ∧ w'.cell? ⟨w.heap.size, 3, none⟩ = some (.slice a3 c.names.length k3) ∧ w'.cell? ⟨w.heap.size, 4, none⟩ = some (.slice a4 c.kids.length k4))
    (first | exact K2.out | exact K0.out)
    (first
      | (go_at_call 85
         refine HO.out.mono ?_
         rintro e w1 ⟨rfl, hw1⟩
         rw [hw1])
      | (go_at_call 81
         refine HC.out.mono ?_
         rintro e w2 ⟨rfl, hb2, hw2⟩
         have HB2 := hid hb2
         have HW2 := hid hw2
         have K2 := hid (cown5 (show Own w2 _ _ _ from hw2.2 _ _ _ _ (by have := HBL.out; omega) (by decide) HOw.out))
         clear hb2 hw2))
  go_wp2_with fail
  go_end0
  exact ⟨rfl, HB2.out, HWr.out.trans HW2.out⟩

set_option maxRecDepth 20000 in
set_option maxHeartbeats 400000 in
theorem showCo_showBegin (n : Nat) (ih : ShowBy n) (c : Cm) (hf : fnC c.sort = 82) (hc : c.sz ≤ n) (R : Nat → Prop) (w : World) (c0 c1 c2 c3 c4 : Value) (B b : Nat) (l : List UInt8) (hA : CoreAt R w c c0 c1 c2 c3 c4) (hR : ∀ x, R x → x < B) (hb : isS B b l w) (hB : B ≤ w.heap.size) (hl : l.length + (showC c).length ≤ 1000000000) :
    Calls Try.prog 63 #[pb b, .agg #[c0, c1, c2, c3, c4]] w fun e w' => e = .returned (.tuple #[]) ∧ isS B b (l ++ showC c) w' ∧ Wrote B b w w' := by
  obtain ⟨W, hW⟩ : ∃ W, W = (w.alloc (.cells #[c0, c1, c2, c3, c4] 50)).drew := ⟨_, rfl⟩
  have hbW : isS B b l W := by rw [hW]; exact isS_drew (isS_alloc hb _)
  have hsW : W.heap.size = w.heap.size + 1 := by rw [hW]; show (w.alloc _).heap.size = _; simp
  have hWr : Wrote B b w W := by rw [hW]; exact ((Wrote.refl B b w).alloc hB _).drew
  have HO := hid (of_any B b l c.sort W hbW)
  have HC := hid (ih c hc R W c0 c1 c2 c3 c4 B b l (CoreAt.keep (hWr.1.on hR) _ hA) hR hbW (by omega) hl)
  have HWr := hid hWr
  obtain ⟨rfl, rfl, ht, rfl, h3, h4⟩ := (coreAt_iff _ _ _ _ _ _ _ _).1 hA
  obtain ⟨a3, k3, rfl, -⟩ := h3
  obtain ⟨a4, k4, rfl, -⟩ := h4
  have hOw : Own W w.heap.size 50 #[.int .i64 c.sort, .string c.text, .bool c.rest, .slice a3 c.names.length k3, .slice a4 c.kids.length k4] := by
    rw [hW]; exact own_new _ _ _
  have HOw := hid hOw
  have HBL := hid (isS_lt hb)
  have K0 := hid (cown5 hOw)
  clear ih hA hR hb hl hbW hWr hOw
  subst hW
  rw [hf] at HO HC
  clear hf
  go_enter Try.func63, Try.ntmps63
  go_wp2_with fail
  go_region_held3 (fun w' => w'.cell? ⟨w.heap.size, 0, none⟩ = some (.int .i64 c.sort) ∧ w'.cell? ⟨w.heap.size, 1, none⟩ = some (.string c.text) ∧ w'.cell? ⟨w.heap.size, 2, none⟩ = some (.bool c.rest) ∧ w'.cell? ⟨w.heap.size, 3, none⟩ = some (.slice a3 c.names.length k3) ∧ w'.cell? ⟨w.heap.size, 4, none⟩ = some (.slice a4 c.kids.length k4))
    (first | exact K2.out | exact K0.out)
    (first
      | (go_at_call 85
         refine HO.out.mono ?_
         rintro e w1 ⟨rfl, hw1⟩
         rw [hw1])
      | (go_at_call 82
         refine HC.out.mono ?_
         rintro e w2 ⟨rfl, hb2, hw2⟩
         have HB2 := hid hb2
         have HW2 := hid hw2
         have K2 := hid (cown5 (show Own w2 _ _ _ from hw2.2 _ _ _ _ (by have := HBL.out; omega) (by decide) HOw.out))
         clear hb2 hw2))
  go_wp2_with fail
  go_end0
  exact ⟨rfl, HB2.out, HWr.out.trans HW2.out⟩

set_option maxRecDepth 20000 in
set_option maxHeartbeats 400000 in
theorem showCo_showRec (n : Nat) (ih : ShowBy n) (c : Cm) (hf : fnC c.sort = 83) (hc : c.sz ≤ n) (R : Nat → Prop) (w : World) (c0 c1 c2 c3 c4 : Value) (B b : Nat) (l : List UInt8) (hA : CoreAt R w c c0 c1 c2 c3 c4) (hR : ∀ x, R x → x < B) (hb : isS B b l w) (hB : B ≤ w.heap.size) (hl : l.length + (showC c).length ≤ 1000000000) :
    Calls Try.prog 63 #[pb b, .agg #[c0, c1, c2, c3, c4]] w fun e w' => e = .returned (.tuple #[]) ∧ isS B b (l ++ showC c) w' ∧ Wrote B b w w' := by
  obtain ⟨W, hW⟩ : ∃ W, W = (w.alloc (.cells #[c0, c1, c2, c3, c4] 50)).drew := ⟨_, rfl⟩
  have hbW : isS B b l W := by rw [hW]; exact isS_drew (isS_alloc hb _)
  have hsW : W.heap.size = w.heap.size + 1 := by rw [hW]; show (w.alloc _).heap.size = _; simp
  have hWr : Wrote B b w W := by rw [hW]; exact ((Wrote.refl B b w).alloc hB _).drew
  have HO := hid (of_any B b l c.sort W hbW)
  have HC := hid (ih c hc R W c0 c1 c2 c3 c4 B b l (CoreAt.keep (hWr.1.on hR) _ hA) hR hbW (by omega) hl)
  have HWr := hid hWr
  obtain ⟨rfl, rfl, ht, rfl, h3, h4⟩ := (coreAt_iff _ _ _ _ _ _ _ _).1 hA
  obtain ⟨a3, k3, rfl, -⟩ := h3
  obtain ⟨a4, k4, rfl, -⟩ := h4
  have hOw : Own W w.heap.size 50 #[.int .i64 c.sort, .string c.text, .bool c.rest, .slice a3 c.names.length k3, .slice a4 c.kids.length k4] := by
    rw [hW]; exact own_new _ _ _
  have HOw := hid hOw
  have HBL := hid (isS_lt hb)
  have K0 := hid (cown5 hOw)
  clear ih hA hR hb hl hbW hWr hOw
  subst hW
  rw [hf] at HO HC
  clear hf
  go_enter Try.func63, Try.ntmps63
  go_wp2_with fail
  go_region_held3 (fun w' => w'.cell? ⟨w.heap.size, 0, none⟩ = some (.int .i64 c.sort) ∧ w'.cell? ⟨w.heap.size, 1, none⟩ = some (.string c.text) ∧ w'.cell? ⟨w.heap.size, 2, none⟩ = some (.bool c.rest) ∧ w'.cell? ⟨w.heap.size, 3, none⟩ = some (.slice a3 c.names.length k3) ∧ w'.cell? ⟨w.heap.size, 4, none⟩ = some (.slice a4 c.kids.length k4))
    (first | exact K2.out | exact K0.out)
    (first
      | (go_at_call 85
         refine HO.out.mono ?_
         rintro e w1 ⟨rfl, hw1⟩
         rw [hw1])
      | (go_at_call 83
         refine HC.out.mono ?_
         rintro e w2 ⟨rfl, hb2, hw2⟩
         have HB2 := hid hb2
         have HW2 := hid hw2
         have K2 := hid (cown5 (show Own w2 _ _ _ from hw2.2 _ _ _ _ (by have := HBL.out; omega) (by decide) HOw.out))
         clear hb2 hw2))
  go_wp2_with fail
  go_end0
  exact ⟨rfl, HB2.out, HWr.out.trans HW2.out⟩

set_option maxRecDepth 20000 in
set_option maxHeartbeats 400000 in
theorem showCo_showDefine (n : Nat) (ih : ShowBy n) (c : Cm) (hf : fnC c.sort = 84) (hc : c.sz ≤ n) (R : Nat → Prop) (w : World) (c0 c1 c2 c3 c4 : Value) (B b : Nat) (l : List UInt8) (hA : CoreAt R w c c0 c1 c2 c3 c4) (hR : ∀ x, R x → x < B) (hb : isS B b l w) (hB : B ≤ w.heap.size) (hl : l.length + (showC c).length ≤ 1000000000) :
    Calls Try.prog 63 #[pb b, .agg #[c0, c1, c2, c3, c4]] w fun e w' => e = .returned (.tuple #[]) ∧ isS B b (l ++ showC c) w' ∧ Wrote B b w w' := by
  obtain ⟨W, hW⟩ : ∃ W, W = (w.alloc (.cells #[c0, c1, c2, c3, c4] 50)).drew := ⟨_, rfl⟩
  have hbW : isS B b l W := by rw [hW]; exact isS_drew (isS_alloc hb _)
  have hsW : W.heap.size = w.heap.size + 1 := by rw [hW]; show (w.alloc _).heap.size = _; simp
  have hWr : Wrote B b w W := by rw [hW]; exact ((Wrote.refl B b w).alloc hB _).drew
  have HO := hid (of_any B b l c.sort W hbW)
  have HC := hid (ih c hc R W c0 c1 c2 c3 c4 B b l (CoreAt.keep (hWr.1.on hR) _ hA) hR hbW (by omega) hl)
  have HWr := hid hWr
  obtain ⟨rfl, rfl, ht, rfl, h3, h4⟩ := (coreAt_iff _ _ _ _ _ _ _ _).1 hA
  obtain ⟨a3, k3, rfl, -⟩ := h3
  obtain ⟨a4, k4, rfl, -⟩ := h4
  have hOw : Own W w.heap.size 50 #[.int .i64 c.sort, .string c.text, .bool c.rest, .slice a3 c.names.length k3, .slice a4 c.kids.length k4] := by
    rw [hW]; exact own_new _ _ _
  have HOw := hid hOw
  have HBL := hid (isS_lt hb)
  have K0 := hid (cown5 hOw)
  clear ih hA hR hb hl hbW hWr hOw
  subst hW
  rw [hf] at HO HC
  clear hf
  go_enter Try.func63, Try.ntmps63
  go_wp2_with fail
  go_region_held3 (fun w' => w'.cell? ⟨w.heap.size, 0, none⟩ = some (.int .i64 c.sort) ∧ w'.cell? ⟨w.heap.size, 1, none⟩ = some (.string c.text) ∧ w'.cell? ⟨w.heap.size, 2, none⟩ = some (.bool c.rest) ∧ w'.cell? ⟨w.heap.size, 3, none⟩ = some (.slice a3 c.names.length k3) ∧ w'.cell? ⟨w.heap.size, 4, none⟩ = some (.slice a4 c.kids.length k4))
    (first | exact K2.out | exact K0.out)
    (first
      | (go_at_call 85
         refine HO.out.mono ?_
         rintro e w1 ⟨rfl, hw1⟩
         rw [hw1])
      | (go_at_call 84
         refine HC.out.mono ?_
         rintro e w2 ⟨rfl, hb2, hw2⟩
         have HB2 := hid hb2
         have HW2 := hid hw2
         have K2 := hid (cown5 (show Own w2 _ _ _ from hw2.2 _ _ _ _ (by have := HBL.out; omega) (by decide) HOw.out))
         clear hb2 hw2))
  go_wp2_with fail
  go_end0
  exact ⟨rfl, HB2.out, HWr.out.trans HW2.out⟩

set_option maxRecDepth 20000 in
set_option maxHeartbeats 400000 in
theorem showCo_showOther (n : Nat) (ih : ShowBy n) (c : Cm) (hf : fnC c.sort = 76) (hc : c.sz ≤ n) (R : Nat → Prop) (w : World) (c0 c1 c2 c3 c4 : Value) (B b : Nat) (l : List UInt8) (hA : CoreAt R w c c0 c1 c2 c3 c4) (hR : ∀ x, R x → x < B) (hb : isS B b l w) (hB : B ≤ w.heap.size) (hl : l.length + (showC c).length ≤ 1000000000) :
    Calls Try.prog 63 #[pb b, .agg #[c0, c1, c2, c3, c4]] w fun e w' => e = .returned (.tuple #[]) ∧ isS B b (l ++ showC c) w' ∧ Wrote B b w w' := by
  obtain ⟨W, hW⟩ : ∃ W, W = (w.alloc (.cells #[c0, c1, c2, c3, c4] 50)).drew := ⟨_, rfl⟩
  have hbW : isS B b l W := by rw [hW]; exact isS_drew (isS_alloc hb _)
  have hsW : W.heap.size = w.heap.size + 1 := by rw [hW]; show (w.alloc _).heap.size = _; simp
  have hWr : Wrote B b w W := by rw [hW]; exact ((Wrote.refl B b w).alloc hB _).drew
  have HO := hid (of_any B b l c.sort W hbW)
  have HC := hid (ih c hc R W c0 c1 c2 c3 c4 B b l (CoreAt.keep (hWr.1.on hR) _ hA) hR hbW (by omega) hl)
  have HWr := hid hWr
  obtain ⟨rfl, rfl, ht, rfl, h3, h4⟩ := (coreAt_iff _ _ _ _ _ _ _ _).1 hA
  obtain ⟨a3, k3, rfl, -⟩ := h3
  obtain ⟨a4, k4, rfl, -⟩ := h4
  have hOw : Own W w.heap.size 50 #[.int .i64 c.sort, .string c.text, .bool c.rest, .slice a3 c.names.length k3, .slice a4 c.kids.length k4] := by
    rw [hW]; exact own_new _ _ _
  have HOw := hid hOw
  have HBL := hid (isS_lt hb)
  have K0 := hid (cown5 hOw)
  clear ih hA hR hb hl hbW hWr hOw
  subst hW
  rw [hf] at HO HC
  clear hf
  go_enter Try.func63, Try.ntmps63
  go_wp2_with fail
  go_region_held3 (fun w' => w'.cell? ⟨w.heap.size, 0, none⟩ = some (.int .i64 c.sort) ∧ w'.cell? ⟨w.heap.size, 1, none⟩ = some (.string c.text) ∧ w'.cell? ⟨w.heap.size, 2, none⟩ = some (.bool c.rest) ∧ w'.cell? ⟨w.heap.size, 3, none⟩ = some (.slice a3 c.names.length k3) ∧ w'.cell? ⟨w.heap.size, 4, none⟩ = some (.slice a4 c.kids.length k4))
    (first | exact K2.out | exact K0.out)
    (first
      | (go_at_call 85
         refine HO.out.mono ?_
         rintro e w1 ⟨rfl, hw1⟩
         rw [hw1])
      | (go_at_call 76
         refine HC.out.mono ?_
         rintro e w2 ⟨rfl, hb2, hw2⟩
         have HB2 := hid hb2
         have HW2 := hid hw2
         have K2 := hid (cown5 (show Own w2 _ _ _ from hw2.2 _ _ _ _ (by have := HBL.out; omega) (by decide) HOw.out))
         clear hb2 hw2))
  go_wp2_with fail
  go_end0
  exact ⟨rfl, HB2.out, HWr.out.trans HW2.out⟩

theorem showCo_of (n : Nat) (ih : ShowBy n) : ShowCo n := by
  intro c hc R w c0 c1 c2 c3 c4 B b l hA hR hb hB hl
  rcases fnC_cases c.sort with hf | hf | hf | hf | hf | hf | hf | hf | hf
  · exact showCo_showText n ih c hf hc R w c0 c1 c2 c3 c4 B b l hA hR hb hB hl
  · exact showCo_showLambda n ih c hf hc R w c0 c1 c2 c3 c4 B b l hA hR hb hB hl
  · exact showCo_showCall n ih c hf hc R w c0 c1 c2 c3 c4 B b l hA hR hb hB hl
  · exact showCo_showIf n ih c hf hc R w c0 c1 c2 c3 c4 B b l hA hR hb hB hl
  · exact showCo_showSet n ih c hf hc R w c0 c1 c2 c3 c4 B b l hA hR hb hB hl
  · exact showCo_showBegin n ih c hf hc R w c0 c1 c2 c3 c4 B b l hA hR hb hB hl
  · exact showCo_showRec n ih c hf hc R w c0 c1 c2 c3 c4 B b l hA hR hb hB hl
  · exact showCo_showDefine n ih c hf hc R w c0 c1 c2 c3 c4 B b l hA hR hb hB hl
  · exact showCo_showOther n ih c hf hc R w c0 c1 c2 c3 c4 B b l hA hR hb hB hl

theorem show_all : ∀ n, ShowBy n ∧ ShowCo n ∧ KidsB n
  | 0 => by
    have h1 : ShowBy 0 := fun c hc => by have := Cm.sz_kids c; omega
    have h2 := showCo_of 0 h1
    exact ⟨h1, h2, kidsB_of 0 h2⟩
  | n + 1 => by
    obtain ⟨-, h2, h3⟩ := show_all n
    have h1 := showBy_of n h3 h2
    have h4 := showCo_of (n + 1) h1
    exact ⟨h1, h4, kidsB_of (n + 1) h4⟩

end Go.Proofs.Ytkpamgabhlplfaa

namespace Go.Proofs.Ytkpamgabhlplfaa
open Go.RowKit Go.Siskin

set_option maxRecDepth 20000 in
set_option maxHeartbeats 400000 in
theorem ways_any (b : Nat) (w : World) :
    Calls Try.prog 62 #[pb b] w fun e w' => e = .returned (.agg #[.func (.func 76) #[pb b] #[], .func (.func 77) #[pb b] #[], .func (.func 77) #[pb b] #[], .func (.func 78) #[pb b] #[], .func (.func 79) #[pb b] #[], .func (.func 80) #[pb b] #[], .func (.func 81) #[pb b] #[], .func (.func 82) #[pb b] #[], .func (.func 83) #[pb b] #[], .func (.func 84) #[pb b] #[]]) ∧ Below w.heap.size w w' := by
  go_enter Try.func62, Try.ntmps62
  go_wp2_with fail
  refine bodyPost_ret (v := .agg #[.func (.func 76) #[pb b] #[], .func (.func 77) #[pb b] #[], .func (.func 77) #[pb b] #[], .func (.func 78) #[pb b] #[], .func (.func 79) #[pb b] #[], .func (.func 80) #[pb b] #[], .func (.func 81) #[pb b] #[], .func (.func 82) #[pb b] #[], .func (.func 83) #[pb b] #[], .func (.func 84) #[pb b] #[]]) (by simp [results, Try.results62, go_sem]) rfl ⟨rfl, (Below.refl _ _).alloc (Nat.le_refl _) _⟩

/-- No way yet. -/
abbrev shNil : Array Value := #[.pointer none, .slice none 0 0, .nilFunc, .nilFunc, .nilFunc, .nilFunc, .nilFunc, .nilFunc, .nilFunc, .nilFunc, .nilFunc, .nilFunc]

/-- The ways are put in. -/
def shPut (w1 : World) (b : Nat) : World := ((((((((((w1.setCell ⟨b, 2, none⟩ (.func (.func 76) #[pb b] #[])).setCell ⟨b, 3, none⟩ (.func (.func 77) #[pb b] #[])).setCell ⟨b, 4, none⟩ (.func (.func 77) #[pb b] #[])).setCell ⟨b, 5, none⟩ (.func (.func 78) #[pb b] #[])).setCell ⟨b, 6, none⟩ (.func (.func 79) #[pb b] #[])).setCell ⟨b, 7, none⟩ (.func (.func 80) #[pb b] #[])).setCell ⟨b, 8, none⟩ (.func (.func 81) #[pb b] #[])).setCell ⟨b, 9, none⟩ (.func (.func 82) #[pb b] #[])).setCell ⟨b, 10, none⟩ (.func (.func 83) #[pb b] #[])).setCell ⟨b, 11, none⟩ (.func (.func 84) #[pb b] #[]))
theorem shPut_own (w1 : World) (b : Nat) (h : Own w1 b 115 shNil) : Own (shPut w1 b) b 115 (shCells b (.pointer none) (.slice none 0 0)) := by
  have h2 := ((((((((((h.set 2 (.func (.func 76) #[pb b] #[])).set 3 (.func (.func 77) #[pb b] #[])).set 4 (.func (.func 77) #[pb b] #[])).set 5 (.func (.func 78) #[pb b] #[])).set 6 (.func (.func 79) #[pb b] #[])).set 7 (.func (.func 80) #[pb b] #[])).set 8 (.func (.func 81) #[pb b] #[])).set 9 (.func (.func 82) #[pb b] #[])).set 10 (.func (.func 83) #[pb b] #[])).set 11 (.func (.func 84) #[pb b] #[]))
  simp only [shNil, List.setIfInBounds_toArray, List.set_cons_zero, List.set_cons_succ] at h2
  unfold shPut
  simp only [shCells, wayF]
  exact h2
theorem shPut_below (w1 : World) (b : Nat) : Below b w1 (shPut w1 b) := by
  unfold shPut
  exact (((((((((((Below.refl b w1).setCell (p := ⟨b, 2, none⟩) (Nat.le_refl _) _).setCell (p := ⟨b, 3, none⟩) (Nat.le_refl _) _).setCell (p := ⟨b, 4, none⟩) (Nat.le_refl _) _).setCell (p := ⟨b, 5, none⟩) (Nat.le_refl _) _).setCell (p := ⟨b, 6, none⟩) (Nat.le_refl _) _).setCell (p := ⟨b, 7, none⟩) (Nat.le_refl _) _).setCell (p := ⟨b, 8, none⟩) (Nat.le_refl _) _).setCell (p := ⟨b, 9, none⟩) (Nat.le_refl _) _).setCell (p := ⟨b, 10, none⟩) (Nat.le_refl _) _).setCell (p := ⟨b, 11, none⟩) (Nat.le_refl _) _)
theorem shPut_size (w1 : World) (b : Nat) : (shPut w1 b).heap.size = w1.heap.size := by unfold shPut; simp

end Go.Proofs.Ytkpamgabhlplfaa

namespace Go.Proofs.Ytkpamgabhlplfaa
open Go.RowKit Go.Siskin

set_option maxRecDepth 20000 in
set_option maxHeartbeats 600000 in
theorem showCore_any (c : Cm) (R : Nat → Prop) (w : World) (c0 c1 c2 c3 c4 : Value) (hA : CoreAt R w c c0 c1 c2 c3 c4) (hR : ∀ x, R x → x < w.heap.size) (hl : (showC c).length ≤ 900000000) :
    Calls Try.prog 48 #[.agg #[c0, c1, c2, c3, c4]] w fun e w' => e = .returned (.string ⟨(showC c).toArray⟩) ∧ Below w.heap.size w w' := by
  have HA := hid hA
  have HR := hid hR
  obtain ⟨rfl, rfl, ht, rfl, h3, h4⟩ := (coreAt_iff _ _ _ _ _ _ _ _).1 hA
  obtain ⟨a3, k3, rfl, -⟩ := h3
  obtain ⟨a4, k4, rfl, -⟩ := h4
  obtain ⟨W, hW⟩ : ∃ W, W = (w.alloc (.cells #[.int .i64 c.sort, .string c.text, .bool c.rest, .slice a3 c.names.length k3, .slice a4 c.kids.length k4] 50)).alloc (.cells shNil 115) := ⟨_, rfl⟩
  have hWs : W.heap.size = w.heap.size + 2 := by rw [hW]; simp
  have HWB : Hid (Below w.heap.size w W) := by
    show Below _ _ _
    rw [hW]; exact ((Below.refl _ _).alloc (Nat.le_refl _) _).alloc (by simp) _
  have O0 : Hid (Own W w.heap.size 50 #[.int .i64 c.sort, .string c.text, .bool c.rest, .slice a3 c.names.length k3, .slice a4 c.kids.length k4]) := by
    show Own _ _ _ _
    rw [hW]
    exact (Below.heap_alloc _ _ _ (by simp)).trans (own_new _ _ _)
  have O1 : Hid (Own W (w.heap.size + 1) 115 shNil) := by
    show Own _ _ _ _
    have h := own_new (w.alloc (.cells #[.int .i64 c.sort, .string c.text, .bool c.rest, .slice a3 c.names.length k3, .slice a4 c.kids.length k4] 50)) shNil 115
    rw [World.size_alloc] at h
    rw [hW]; exact h
  have HQ := hid (ways_any (w.heap.size + 1) W)
  clear hA hR
  go_enter Try.func48, Try.ntmps48
  go_wp2_with fail
  rw [← hW]
  refine HQ.out.mono ?_
  rintro e w1 ⟨rfl, hw1⟩
  have s1 := hw1.size
  have HB1 := hid hw1
  have P0 := hid (O0.out.keep hw1 (by omega))
  have P1 := hid (O1.out.keep hw1 (by omega))
  have x2 : w1.cell? ⟨w.heap.size + 1, 2, none⟩ = some .nilFunc := (P1.out.cell 2).trans rfl
  have y2 := P1.out.frozen 2
  have x3 : w1.cell? ⟨w.heap.size + 1, 3, none⟩ = some .nilFunc := (P1.out.cell 3).trans rfl
  have y3 := P1.out.frozen 3
  have x4 : w1.cell? ⟨w.heap.size + 1, 4, none⟩ = some .nilFunc := (P1.out.cell 4).trans rfl
  have y4 := P1.out.frozen 4
  have x5 : w1.cell? ⟨w.heap.size + 1, 5, none⟩ = some .nilFunc := (P1.out.cell 5).trans rfl
  have y5 := P1.out.frozen 5
  have x6 : w1.cell? ⟨w.heap.size + 1, 6, none⟩ = some .nilFunc := (P1.out.cell 6).trans rfl
  have y6 := P1.out.frozen 6
  have x7 : w1.cell? ⟨w.heap.size + 1, 7, none⟩ = some .nilFunc := (P1.out.cell 7).trans rfl
  have y7 := P1.out.frozen 7
  have x8 : w1.cell? ⟨w.heap.size + 1, 8, none⟩ = some .nilFunc := (P1.out.cell 8).trans rfl
  have y8 := P1.out.frozen 8
  have x9 : w1.cell? ⟨w.heap.size + 1, 9, none⟩ = some .nilFunc := (P1.out.cell 9).trans rfl
  have y9 := P1.out.frozen 9
  have x10 : w1.cell? ⟨w.heap.size + 1, 10, none⟩ = some .nilFunc := (P1.out.cell 10).trans rfl
  have y10 := P1.out.frozen 10
  have x11 : w1.cell? ⟨w.heap.size + 1, 11, none⟩ = some .nilFunc := (P1.out.cell 11).trans rfl
  have y11 := P1.out.frozen 11
  have OV := shPut_own w1 _ P1.out
  have BV := shPut_below w1 (w.heap.size + 1)
  have sV := shPut_size w1 (w.heap.size + 1)
  obtain ⟨V, hV⟩ : ∃ V, V = shPut w1 (w.heap.size + 1) := ⟨_, rfl⟩
  rw [← hV] at OV BV sV
  have HOV := hid OV
  have HBV := hid BV
  have HWV : Hid (Below w.heap.size w V) := (HWB.out.trans (HB1.out.mono (by omega))).trans (BV.mono (by omega))
  have OC : Hid (Own V w.heap.size 50 #[.int .i64 c.sort, .string c.text, .bool c.rest, .slice a3 c.names.length k3, .slice a4 c.kids.length k4]) := P0.out.keep BV (by omega)
  have hisS : isS (w.heap.size + 1) (w.heap.size + 1) [] V := Or.inl ⟨Nat.le_refl _, .slice none 0 0, OV, World.ownsRow_nil _ _ _ _, by simp [Value.ownBlock]⟩
  have HQ2 := hid ((show_all c.sz).2.1 c (Nat.le_refl _) R V _ _ _ _ _ (w.heap.size + 1) (w.heap.size + 1) [] (CoreAt.keep (HWV.out.on HR.out) _ HA.out) (fun x hx => by have := HR.out x hx; omega) hisS (by omega) (by simp; omega))
  obtain ⟨z0, z1, z2, z3, z4⟩ := cown5 OC.out
  clear hw1 HQ hW OV BV hisS
  unfold shPut at hV
  have hV' := hV.symm
  clear hV
  go_wp2_with fail
  refine HQ2.out.mono ?_
  rintro e w2 ⟨rfl, hb2, hw2⟩
  have HB2 := hid hb2
  have HW2 := hid hw2
  have s2 := hw2.1.size
  clear hb2 hw2 HQ2 hV' z0 z1 z2 z3 z4 x2 y2 x3 y3 x4 y4 x5 y5 x6 y6 x7 y7 x8 y8 x9 y9 x10 y10 x11 y11
  have HQ3 := hid (string_any (w.heap.size + 1) (w.heap.size + 1) (showC c) w2 (by have h := HB2.out; rw [List.nil_append] at h; exact h) (by omega))
  go_wp2_with fail
  refine HQ3.out.mono ?_
  rintro e w3 ⟨rfl, hw3⟩
  have HW3 := hid hw3
  clear hw3 HQ3
  go_wp2_with fail
  go_ret
  exact ⟨rfl, (HWV.out.trans (HW2.out.1.mono (by omega))).trans (HW3.out.mono (by omega))⟩

set_option maxRecDepth 20000 in
set_option maxHeartbeats 600000 in
theorem implCoreShow_any (c : Cm) (S : Nat → Prop) (w : World) (c3 c4 : Value) (hT : CTree w c S c3 c4) (hS : ∀ x, S x → x < w.heap.size) (hc : c.cost ≤ 1048576) :
    Calls Try.prog 20 #[.agg #[.int .i64 c.sort, .string c.text, .bool c.rest, c3, c4]] w fun e w' => e = .returned (.string ⟨(showC c).toArray⟩) ∧ Below w.heap.size w w' := by
  have hsz := Cm.sz_le c
  have hlen := showC_len c
  have hce := Cm.cost_eq c
  obtain ⟨W, hW⟩ : ∃ W, W = w.alloc (.cells #[.int .i64 c.sort, .string c.text, .bool c.rest, c3, c4] 50) := ⟨_, rfl⟩
  have hBW : Below w.heap.size w W := by rw [hW]; exact (Below.refl _ _).alloc (Nat.le_refl _) _
  have hsW : W.heap.size = w.heap.size + 1 := by rw [hW]; simp
  have O0 : Hid (Own W w.heap.size 50 #[.int .i64 c.sort, .string c.text, .bool c.rest, c3, c4]) := by
    show Own _ _ _ _
    rw [hW]; exact own_new _ _ _
  have HBW := hid hBW
  have HF := hid (hT.form (by unfold maxLen; omega))
  have HS := hid hS
  obtain ⟨h1, h2, h3⟩ := (ctree_iff _ _ _ _ _).1 hT
  have HQ := hid (haveEndTop_any c.kids _ W c4 (h3.keep (hBW.on fun x hx => hS x hx.1)) (fun x hx => by have := hS x hx.1; omega) (by omega))
  obtain ⟨⟨a3, k3, rfl⟩, a4, k4, rfl⟩ := ctshape hT
  have hl9 : (showC c).length ≤ 900000000 := by omega
  clear hT h1 h2 h3 hS hBW hsz hlen hce
  obtain ⟨v0, v1, v2, v3, v4⟩ := cown5 O0.out
  have hW' := hW.symm
  clear hW
  go_enter Try.func20, Try.ntmps20
  go_wp2_with fail
  refine HQ.out.mono ?_
  rintro e w1 ⟨rfl, hw1⟩
  have s1 := hw1.size
  have HB1 := hid hw1
  obtain ⟨z0, z1, z2, z3, z4⟩ := cown5 (O0.out.keep hw1 (by omega))
  have HQ2 := hid (showCore_any c S w1 _ _ _ _ _ (CoreAt.keep ((HBW.out.trans (hw1.mono (by omega))).on HS.out) _ HF.out) (fun x hx => by have := HS.out x hx; omega) hl9)
  clear hw1 HQ hW' v0 v1 v2 v3 v4
  go_wp2_with fail
  refine HQ2.out.mono ?_
  rintro e w2 ⟨rfl, hw2⟩
  have HB2 := hid hw2
  clear hw2 HQ2
  go_wp2_with fail
  go_ret
  exact ⟨rfl, (HBW.out.trans (HB1.out.mono (by omega))).trans (HB2.out.mono (by omega))⟩

end Go.Proofs.Ytkpamgabhlplfaa
