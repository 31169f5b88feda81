/-
  The law's szStringS, szExpCore and szExpCoreS take from a number what a part costs. Condition: the part lies in memory as CoreAt says.
  The law FnExactExpCoreShow returns true, and nothing that was there has turned. Condition: the part that it is given lies in memory as CoreAt says.
  A form that comes in as an argument, read as data, lies in memory as a tree.
  A part that comes in as an argument, read as data, lies in memory as CoreAt says.
-/
import Derived.Test.YtmmkoohgniambaaPart4
import Derived.Test.YtmmkoohgniambaaPart1
import Derived.Test.YtmmkoohgniambaaPart5
import Derived.Test.YtmmkoohgniambaaProg
import Derived.ProofKit
import Derived.OpenShut
import Derived.Deep.Slices
namespace Go.Proofs.Ytmmkoohgniambaa
open Go.RowKit Go.Siskin

set_option maxHeartbeats 1000000 in
theorem szStringS_any (B : Nat → Prop) (va : Value) (xs : List ByteArray) (left : Int) (w : World) (ha : StrsAt B w va xs) (h0 : 0 ≤ left) (h1 : left ≤ 1048576) :
    Calls Try.prog 15 #[va, .int .i64 left] w fun e w' => e = .returned (.int .i64 (szI (strc xs) left)) ∧ w' = w := by
  obtain ⟨a, ca, rfl, hla, hmx, ha⟩ := ha
  obtain ⟨hla, -⟩ := hla
  unfold maxLen at hla
  have HS := hid (show strc xs = xs.length + (xs.map ByteArray.size).sum from rfl)
  by_cases hn : left - xs.length < 0
  · go_enter Try.func15, Try.ntmps15
    go_wp2_with fail
    go_ret
    exact ⟨ret_int ((szI_minus _ _).2 (by have := HS.out; omega)).symm, rfl⟩
  go_enter Try.func15, Try.ntmps15
  go_wp2_with fail
  go_loopw [1, 5] (fun l i wr => Hid (wr = w) ∧ ∃ k : Nat, k ≤ xs.length ∧ i = .int .i64 k ∧ ∃ m : Int, l = .int .i64 m ∧ 0 ≤ m ∧ m ≤ 1048576 ∧ Hid (m = left - xs.length - ((xs.take k).map ByteArray.size).sum)) (fun _ i _ => xs.length - (intOf i).toNat)
  case atStart => exact ⟨rfl, 0, Nat.zero_le _, rfl, _, rfl, by omega, by omega, by show _ = _; simp⟩
  case round =>
    obtain ⟨HW, k, hk, rfl, m, rfl, hm0, hm1, HM⟩ := hrel
    by_cases hlt : k < xs.length
    · rcases ha with ha | ⟨ba, oa, rfl, hb, ha⟩
      · subst ha; simp at hlt
      have hc := ha k hlt
      rw [← HW.out] at hc
      have hx := hmx k hlt
      unfold maxLen at hx
      have HT := hid (sums_take xs k hlt)
      have HL := hid (sums_take_le xs (k + 1))
      clear ha hmx
      by_cases hneg : m - xs[k].size < 0
      · go_wp2_with fail
        go_ret
        refine ⟨ret_int ?_, HW.out⟩
        have h1 := HM.out
        have h2 := HT.out
        have h3 := HL.out
        exact ((szI_minus _ _).2 (by have := HS.out; omega)).symm
      · go_wp2_with fail
        have h1 := HM.out
        have h2 := HT.out
        exact ⟨⟨HW, k + 1, by omega, by go_num, _, rfl, by omega, by omega, by show _ = _; rw [h2]; omega⟩, by simp [intOf]; omega⟩
    · go_wp2_with fail
      go_ret
      exact ⟨ret_int (by
        have h := HM.out
        rw [List.take_of_length_le (by omega)] at h
        rw [szI_pos _ _ (by rw [szI_neg]; have := HS.out; omega)]; have := HS.out; omega), HW.out⟩

def SzCore (n : Nat) : Prop := ∀ f : Cm, f.sz ≤ n → ∀ (B : Nat → Prop) (w : World) (c0 c1 c2 c3 c4 : Value) (left : Int), CoreAt B w f c0 c1 c2 c3 c4 → (∀ b, B b → b < w.heap.size) → 0 ≤ left → left ≤ 1048576 →
    Calls Try.prog 5 #[.agg #[c0, c1, c2, c3, c4], .int .i64 left] w fun e w' => e = .returned (.int .i64 (szI f.cost left)) ∧ Below w.heap.size w w'
def SzCores (n : Nat) : Prop := ∀ ks : List Cm, Cm.szs ks ≤ n → ∀ (B : Nat → Prop) (w : World) (v : Value) (left : Int), CoresAt B w v ks → (∀ b, B b → b < w.heap.size) → 0 ≤ left → left ≤ 1048576 →
    Calls Try.prog 10 #[v, .int .i64 left] w fun e w' => e = .returned (.int .i64 (szI (ks.length + Cm.costs ks) left)) ∧ Below w.heap.size w w'

set_option maxHeartbeats 1000000 in
theorem szCores_of (n : Nat) (ih : SzCore n) : SzCores n := by
  intro ks hks B w v left hv hB h0 h1
  obtain ⟨a, ca, rfl, hla, ha⟩ := hv
  unfold maxLen at hla
  have HI := hid ih
  clear ih
  by_cases hn : left - ks.length < 0
  · go_enter Try.func10, Try.ntmps10
    go_wp2_with fail
    go_ret
    exact ⟨ret_int (by unfold szI; rw [if_pos (by omega)]), Below.refl _ _⟩
  go_enter Try.func10, Try.ntmps10
  go_wp2_with fail
  go_loopw [1, 5] (fun l i wr => ∃ k : Nat, k ≤ ks.length ∧ i = .int .i64 k ∧ ∃ m : Int, l = .int .i64 m ∧ 0 ≤ m ∧ m ≤ 1048576 ∧ Hid (m = left - ks.length - Cm.costs (ks.take k)) ∧ Hid (Below w.heap.size w wr)) (fun _ i _ => ks.length - (intOf i).toNat)
  case atStart => exact ⟨0, Nat.zero_le _, rfl, _, rfl, by omega, by omega, by show _ = _; simp [Cm.costs], Below.refl _ _⟩
  case round =>
    obtain ⟨k, hk, rfl, m, rfl, hm0, hm1, HM, HB⟩ := hrel
    by_cases hlt : k < ks.length
    · rcases ha with ha | ⟨ba, oa, rfl, hb, ha⟩
      · subst ha; simp at hlt
      obtain ⟨c0, c1, c2, c3, c4, g0, g1, g2, g3, g4, hf⟩ := CRowAt.get ks (CRowAt.keep (HB.out.on hB) hb ks ha) k hlt
      have hsz := HB.out.size
      have hc := HI.out ks[k] (Nat.le_trans (Cm.szs_get ks k hlt) hks) B wr c0 c1 c2 c3 c4 m hf (fun b hb => by have := hB b hb; omega) hm0 hm1
      have HC := hid hc
      have HT := hid (Cm.costs_take ks k hlt)
      have HL := hid (Cm.costs_take_le ks (k + 1))
      clear hc ha hf HI
      by_cases hneg : szI ks[k].cost m < 0
      · go_wp2_with (go_at_call 5; refine HC.out.mono ?_; rintro e w' ⟨rfl, hw⟩)
        go_ret
        refine ⟨ret_int ?_, HB.out.trans (hw.mono (by omega))⟩
        have h1 := HM.out
        have h2 := HT.out
        have h3 := HL.out
        have h4 := (szI_neg _ _).1 hneg
        exact ((szI_minus _ _).2 (by omega)).symm
      · go_wp2_with (go_at_call 5; refine HC.out.mono ?_; rintro e w' ⟨rfl, hw⟩)
        have h1 := HM.out
        have h2 := HT.out
        have h4 := szI_pos _ _ (Int.not_lt.2 hneg)
        have h5 := (szI_ge ks[k].cost m).2 hm0
        exact ⟨⟨k + 1, by omega, by go_num, _, rfl, by omega, by omega, by show _ = _; rw [h4, h2]; omega, HB.out.trans (hw.mono (by omega))⟩, by simp [intOf]; omega⟩
    · go_wp2_with fail
      go_ret
      exact ⟨ret_int (by
        have h := HM.out
        rw [List.take_of_length_le (by omega)] at h
        unfold szI; rw [if_neg (by omega)]; omega), HB.out⟩

set_option maxHeartbeats 1000000 in
theorem szCore_of (n : Nat) (ih : SzCores n) : SzCore (n + 1) := by
  intro f hf B w c0 c1 c2 c3 c4 left hA hB h0 h1
  obtain ⟨rfl, rfl, ht, rfl, h3, h4⟩ := (coreAt_iff _ _ _ _ _ _ _ _).1 hA
  have hst : ∀ t, Hid (StrsAt B (w.alloc (.cells #[.int .i64 f.sort, .string f.text, .bool f.rest, c3, c4] t)) c3 f.names) := fun t => h3.keep ((SameOn.refl _ _).alloc hB _)
  have H3 := hid (hst 25)
  obtain ⟨sa, sc, rfl, -⟩ := h3
  clear hst
  have ht0 := ht
  unfold maxLen at ht
  have HC := hid (Cm.cost_eq f)
  have HS := hid (Cm.sz_kids f)
  by_cases k1 : left - f.text.size < 0
  · go_enter Try.func5, Try.ntmps5
    go_wp2_with fail
    go_ret
    have := HC.out
    exact ⟨ret_int ((szI_minus _ _).2 (by omega)).symm, (Below.refl _ _).alloc (Nat.le_refl _) _⟩
  by_cases k2 : szI (strc f.names) (left - f.text.size) < 0
  · go_enter Try.func5, Try.ntmps5
    go_wp2_with (go_at_call 15; refine (szStringS_any B _ f.names _ _ H3.out.out (by omega) (by omega)).mono ?_; rintro e w' ⟨rfl, hw⟩; rw [hw]; clear hw w')
    go_ret
    have := HC.out
    have := (szI_neg _ _).1 k2
    exact ⟨ret_int ((szI_minus _ _).2 (by omega)).symm, (Below.refl _ _).alloc (Nat.le_refl _) _⟩
  have HP := hid (szI_pos _ _ k2)
  have hle := (szI_ge (strc f.names) (left - f.text.size)).2 (by omega)
  have HK := hid (ih f.kids (by have := HS.out; omega) B (w.alloc (.cells #[.int .i64 f.sort, .string f.text, .bool f.rest, .slice sa f.names.length sc, c4] 25)) c4 (szI (strc f.names) (left - f.text.size)) (h4.keep ((SameOn.refl _ _).alloc hB _)) (fun b hb => by have := hB b hb; simp; omega) (by omega) (by omega))
  clear ih h4 hA
  by_cases k3 : szI (f.kids.length + Cm.costs f.kids) (szI (strc f.names) (left - f.text.size)) < 0
  · go_enter Try.func5, Try.ntmps5
    go_wp2_with (first
      | (go_at_call 15; refine (szStringS_any B _ f.names _ _ H3.out.out (by omega) (by omega)).mono ?_; rintro e w' ⟨rfl, hw⟩; rw [hw]; clear hw w')
      | (go_at_call 10; refine HK.out.mono ?_; rintro e w' ⟨rfl, hw⟩))
    go_ret
    have h1 := HC.out
    have h2 := HP.out
    have h3 := (szI_neg _ _).1 k3
    exact ⟨ret_int ((szI_minus _ _).2 (by omega)).symm, ((Below.refl _ _).alloc (Nat.le_refl _) _).trans (hw.mono (by simp))⟩
  · go_enter Try.func5, Try.ntmps5
    go_wp2_with (first
      | (go_at_call 15; refine (szStringS_any B _ f.names _ _ H3.out.out (by omega) (by omega)).mono ?_; rintro e w' ⟨rfl, hw⟩; rw [hw]; clear hw w')
      | (go_at_call 10; refine HK.out.mono ?_; rintro e w' ⟨rfl, hw⟩))
    go_ret
    have h1 := HC.out
    have h2 := HP.out
    have h3 := szI_pos _ _ (Int.not_lt.2 k3)
    refine ⟨ret_int ?_, ((Below.refl _ _).alloc (Nat.le_refl _) _).trans (hw.mono (by simp))⟩
    rw [h3, h2, szI_pos _ _ (by rw [szI_neg]; omega)]; omega

theorem szCore_all : ∀ n, SzCore n ∧ SzCores n
  | 0 => by
    have h : SzCore 0 := fun f hf => by have := Cm.sz_kids f; omega
    exact ⟨h, szCores_of 0 h⟩
  | n + 1 => by
    have h := szCore_of n (szCore_all n).2
    exact ⟨h, szCores_of (n + 1) h⟩

/-- The law's own count of a form. -/
theorem szExpCore_any (f : Cm) (B : Nat → Prop) (w : World) (c0 c1 c2 c3 c4 : Value) (left : Int) (h : CoreAt B w f c0 c1 c2 c3 c4) (hB : ∀ b, B b → b < w.heap.size) (h0 : 0 ≤ left) (h1 : left ≤ 1048576) :
    Calls Try.prog 5 #[.agg #[c0, c1, c2, c3, c4], .int .i64 left] w fun e w' => e = .returned (.int .i64 (szI f.cost left)) ∧ Below w.heap.size w w' :=
  (szCore_all f.sz).1 f (Nat.le_refl _) B w c0 c1 c2 c3 c4 left h hB h0 h1

end Go.Proofs.Ytmmkoohgniambaa

namespace Go.Proofs.Ytmmkoohgniambaa
open Go.RowKit Go.Siskin

theorem cbox_q {w w' : World} {o : Obj} (h : Below (w.heap.size + 1) (w.alloc o) w') : ∀ j, w'.cell? ⟨w.heap.size, j, none⟩ = (w.alloc o).cell? ⟨w.heap.size, j, none⟩ :=
  fun j => h.cell (p := ⟨w.heap.size, j, none⟩) (by simp)
theorem cbox_step {w w' w2 : World} {o : Obj} (h : Below (w.heap.size + 1) (w.alloc o) w') (h2 : Below w'.heap.size w' w2) : Below (w.heap.size + 1) (w.alloc o) w2 :=
  h.trans (h2.mono (by have := h.size; simp at this; omega))
theorem cbox_on {R : Nat → Prop} {w w' : World} {o : Obj} (h : Below (w.heap.size + 1) (w.alloc o) w') (hR : ∀ b, R b → b < w.heap.size) : SameOn R w w' :=
  ((SameOn.refl _ _).alloc hR _).below h (fun b hb => by have := hR b hb; omega)
theorem cbox_done {w w' : World} {o : Obj} (h : Below (w.heap.size + 1) (w.alloc o) w') : Below w.heap.size w w' :=
  ((Below.refl _ _).alloc (Nat.le_refl _) _).trans (h.mono (by omega))
theorem cbox5 {w w' : World} {c0 c1 c2 c3 c4 : Value} {t : TypeId} (h : Below (w.heap.size + 1) (w.alloc (.cells #[c0, c1, c2, c3, c4] t)) w') :
    w'.cell? ⟨w.heap.size, 0, none⟩ = some c0 ∧ w'.cell? ⟨w.heap.size, 1, none⟩ = some c1 ∧ w'.cell? ⟨w.heap.size, 2, none⟩ = some c2 ∧ w'.cell? ⟨w.heap.size, 3, none⟩ = some c3 ∧ w'.cell? ⟨w.heap.size, 4, none⟩ = some c4 :=
  ⟨(cbox_q h 0).trans (by simp), (cbox_q h 1).trans (by simp), (cbox_q h 2).trans (by simp), (cbox_q h 3).trans (by simp), (cbox_q h 4).trans (by simp)⟩

set_option maxRecDepth 20000 in
set_option maxHeartbeats 1000000 in
theorem lawCoreShow_any (c : Cm) (B : Nat → Prop) (w : World) (c0 c1 c2 c3 c4 : Value) (hA : CoreAt B w c c0 c1 c2 c3 c4) (hB : ∀ b, B b → b < w.heap.size) :
    Calls Try.prog 3 #[.agg #[c0, c1, c2, c3, c4]] w fun e w' => e = .returned (.bool true) ∧ Below w.heap.size w w' := by
  have HA := hid hA
  have HR := hid hB
  obtain ⟨rfl, rfl, ht, rfl, h3, h4⟩ := (coreAt_iff _ _ _ _ _ _ _ _).1 hA
  obtain ⟨a3, k3, rfl, -⟩ := h3
  obtain ⟨a4, k4, rfl, -⟩ := h4
  clear hA hB
  go_enter Try.func3, Try.ntmps3
  go_wp2_with fail
  refine (szExpCore_any c B (w.alloc _) _ _ _ _ _ 1048576 (CoreAt.keep ((SameOn.refl _ _).alloc HR.out _) _ HA.out) (fun b hb => by have := HR.out b hb; simp; omega) (by omega) (by omega)).mono ?_
  rintro e w1 ⟨rfl, hw1⟩
  simp only [World.size_alloc] at hw1
  have HW1 := hid hw1
  obtain ⟨p0, p1, p2, p3, p4⟩ := cbox5 hw1
  have s1 := hw1.size
  simp only [World.size_alloc] at s1
  clear hw1
  by_cases hneg : szI c.cost 1048576 < 0
  · go_wp2_with fail
    go_ret
    exact ⟨rfl, cbox_done HW1.out⟩
  have hc : c.cost ≤ 1048576 := by rw [szI_neg] at hneg; omega
  have hsz := Cm.sz_le c
  have hlen := showC_len c
  have Hl9 : Hid ((showC c).length ≤ 900000000) := by show _ ≤ _; omega
  have Hcm : Hid (c.cost ≤ maxLen) := by show _ ≤ _; unfold maxLen; omega
  have Hc := hid hc
  clear hc hsz hlen
  go_wp2_with fail
  refine (toExpCore_own c B w1 _ _ _ _ _ (CoreAt.keep (cbox_on HW1.out HR.out) _ HA.out) (fun b hb => by have := HR.out b hb; omega) Hc.out).mono ?_
  rintro e w2 ⟨d3, d4, rfl, hf2, hw2⟩
  have HW2 := hid (cbox_step HW1.out hw2)
  have s2 := hw2.size
  have HQ3 := hid (specCoreShow_any c (Fresh w1 w2) w2 _ _ _ _ _ (hf2.form Hcm.out) (fun b hb => hb.2) Hl9.out)
  clear hf2 hw2 p0 p1 p2 p3 p4
  go_wp2_with fail
  refine HQ3.out.mono ?_
  rintro e w3 ⟨rfl, hw3⟩
  have HW3 := hid (cbox_step HW2.out hw3)
  have s3 := hw3.size
  obtain ⟨p0, p1, p2, p3, p4⟩ := cbox5 HW3.out
  clear hw3 HQ3
  go_wp2_with fail
  refine (toExpCore_own c B w3 _ _ _ _ _ (CoreAt.keep (cbox_on HW3.out HR.out) _ HA.out) (fun b hb => by have := HR.out b hb; omega) Hc.out).mono ?_
  rintro e w4 ⟨x3, x4, rfl, hx4, hw4⟩
  obtain ⟨⟨xa3, xc3, rfl⟩, xa4, xc4, rfl⟩ := ctshape hx4
  have HW4 := hid (cbox_step HW3.out hw4)
  have s4 := hw4.size
  obtain ⟨V4, hV4⟩ : ∃ V4, V4 = w4.alloc (.cells #[.int .i64 c.sort, .string c.text, .bool c.rest, .slice xa3 c.names.length xc3, .slice xa4 c.kids.length xc4] 30) := ⟨_, rfl⟩
  have OX4 : Hid (Own V4 w4.heap.size 30 #[.int .i64 c.sort, .string c.text, .bool c.rest, .slice xa3 c.names.length xc3, .slice xa4 c.kids.length xc4]) := by
    show Own _ _ _ _
    rw [hV4]; exact own_new _ _ _
  have hs4 : V4.heap.size = w4.heap.size + 1 := by rw [hV4]; simp
  have HV4 : Hid (Below w4.heap.size w4 V4) := by
    show Below _ _ _
    rw [hV4]; exact (Below.refl _ _).alloc (Nat.le_refl _) _
  have HWV4 := hid (cbox_step HW4.out HV4.out)
  have HX4 := hid (hx4.keep (HV4.out.on fun b hb => hb.2))
  have HQ5 := hid (implCoreShow_any c (Fresh w3 w4) V4 _ _ HX4.out (fun b hb => by have := hb.2; omega) Hc.out)
  obtain ⟨q0, q1, q2, q3, q4⟩ := cown5 OX4.out
  have hV4' := hV4.symm
  clear hx4 hw4 p0 p1 p2 p3 p4 hV4
  go_wp2_with fail
  refine HQ5.out.mono ?_
  rintro e w5 ⟨rfl, hw5⟩
  have HW5 := hid (cbox_step HWV4.out hw5)
  have s5 := hw5.size
  have HX5 := hid (HX4.out.keep (hw5.on fun b hb => by have := hb.2; omega))
  have OX5 := hid (OX4.out.keep hw5 OX4.out.lt)
  clear hw5 HQ5 hV4' q0 q1 q2 q3 q4 HX4
  have K5 := hid (And.intro (cbox5 HW5.out.drew) (cown5 (show Own w5.drew _ _ _ from OX5.out)))
  have HQ7 := hid (toExpCore_own c B w5.drew _ _ _ _ _ (CoreAt.keep (cbox_on HW5.out.drew HR.out) _ HA.out) (fun b hb => by have := HR.out b hb; show b < w5.heap.size; omega) Hc.out)
  go_wp2_with fail
  go_region_held3 (fun w' => (w'.cell? ⟨w.heap.size, 0, none⟩ = some (.int .i64 c.sort) ∧ w'.cell? ⟨w.heap.size, 1, none⟩ = some (.string c.text) ∧ w'.cell? ⟨w.heap.size, 2, none⟩ = some (.bool c.rest) ∧ w'.cell? ⟨w.heap.size, 3, none⟩ = some (.slice a3 c.names.length k3) ∧ w'.cell? ⟨w.heap.size, 4, none⟩ = some (.slice a4 c.kids.length k4)) ∧ w'.cell? ⟨w4.heap.size, 0, none⟩ = some (.int .i64 c.sort) ∧ w'.cell? ⟨w4.heap.size, 1, none⟩ = some (.string c.text) ∧ w'.cell? ⟨w4.heap.size, 2, none⟩ = some (.bool c.rest) ∧ w'.cell? ⟨w4.heap.size, 3, none⟩ = some (.slice xa3 c.names.length xc3) ∧ w'.cell? ⟨w4.heap.size, 4, none⟩ = some (.slice xa4 c.kids.length xc4))
    (first | exact K8.out | exact K7.out | exact K5.out)
    (first
      | (go_at_call 7
         refine HQ7.out.mono ?_
         rintro e w7 ⟨e3, e4, rfl, hf7, hw7⟩
         have HW7 := hid (cbox_step HW5.out.drew hw7)
         have OX7 := hid (Own.keep (show Own w5.drew _ _ _ from OX5.out) hw7 OX5.out.lt)
         have K7 := hid (And.intro (cbox5 HW7.out) (cown5 OX7.out))
         have HQ8 := hid (eqExpCore_any c (Fresh w3 w4) (Fresh w5.drew w7) w7 _ _ _ _ _ _ _ _ e3 e4 ((HX5.out.keep (w' := w7) (fun b hb => hw7.block b (by have := hb.2; show b < w5.heap.size; omega))).form Hcm.out) (hf7.form Hcm.out) (fun b hb => by have := hb.2; have h : w5.heap.size ≤ w7.heap.size := hw7.size; omega) (fun b hb => hb.2))
         clear hf7 hw7)
      | (go_at_call 9
         refine HQ8.out.mono ?_
         rintro e w8 ⟨rfl, hw8⟩
         have HW8 := hid (cbox_step HW7.out hw8)
         have OX8 := hid (OX7.out.keep hw8 OX7.out.lt)
         have K8 := hid (And.intro (cbox5 HW8.out) (cown5 OX8.out))
         clear hw8))
  go_wp2_with fail
  go_ret
  exact ⟨rfl, cbox_done HW8.out⟩

end Go.Proofs.Ytmmkoohgniambaa

namespace Go.Proofs.Ytmmkoohgniambaa
open Go.ChangeShapes Go.WideShapes Go.ChangeAt Go.RowKit Go.Siskin

theorem Try.cellsInt : Try.prog.cellsOf 3 = 1 := by kernel_rfl
theorem Try.cellsStr : Try.prog.cellsOf 9 = 1 := by kernel_rfl
theorem Try.cellsInts : Try.prog.cellsOf 93 = 1 := by kernel_rfl
theorem list5 {α : Type} {cs : List α} (h : cs.length = 5) : ∃ c0 c1 c2 c3 c4, cs = [c0, c1, c2, c3, c4] := by
  match cs, h with
  | [c0, c1, c2, c3, c4], _ => exact ⟨c0, c1, c2, c3, c4, rfl⟩
theorem array5 {α : Type} {cs : Array α} (h : cs.size = 5) : ∃ c0 c1 c2 c3 c4, cs = #[c0, c1, c2, c3, c4] := by
  obtain ⟨l⟩ := cs
  obtain ⟨c0, c1, c2, c3, c4, e⟩ := list5 (cs := l) h
  exact ⟨c0, c1, c2, c3, c4, by rw [e]⟩

section
variable {H : Type} {enc : TypeId × Value → H} {W : World} {spare : Nat → Bool} {held : Bool}

/-- A cell that is there lies in a block that is there. -/
theorem cell_lt {a : Addr} {v : Value} (h : W.cell? a = some v) : a.block < W.heap.size := by
  unfold World.cell? at h
  cases e : W.heap[a.block]? with
  | none => rw [e] at h; simp at h
  | some o => exact (Array.getElem?_eq_some_iff.1 e).1

theorem ints_of {fuel : Nat} {v : Value} {x : DataW H × List MemPlace} (h : DataW.trod enc Try.prog W 0 spare held fuel 93 [v] = some x) : ∃ xs : List Int, IntsAt (fun b => b < W.heap.size) W v xs := by
  rcases open_ints Try.underlying93 Try.underlying3 Try.cellsInt h with ⟨hcs, _⟩ | ⟨a, len, cap, zs, hcs, _, hl, hm, hz, _, hcell, _⟩
  · simp only [List.cons.injEq, and_true] at hcs
    exact ⟨[], none, 0, hcs, ⟨Nat.zero_le _, Nat.le_refl _⟩, Or.inl rfl⟩
  · simp only [List.cons.injEq, and_true] at hcs
    have hlen : len ≤ zs.length := by rw [hz]; split <;> omega
    have hl2 : (zs.take len).length = len := by rw [List.length_take]; omega
    refine ⟨zs.take len, some a, cap, by rw [hl2]; exact hcs, ⟨by rw [hl2]; omega, by rw [hl2]; omega⟩, ?_⟩
    by_cases h0 : len = 0
    · left; subst h0; simp
    · right
      obtain ⟨b, o, rfl, hc⟩ := ints_at hcell (by omega)
      refine ⟨b, o, rfl, ?_, fun i hi => ?_⟩
      · exact cell_lt (hc 0 (by omega))
      · rw [hl2] at hi
        rw [hc i (by omega)]
        simp [List.getD_eq_getElem?_getD, hi]

theorem cells5 {a : Addr} {k0 k1 k2 k3 k4 : Value} (h : W.cells? 0 a 5 = some [k0, k1, k2, k3, k4]) : W.cell? (a.add 0) = some k0 ∧ W.cell? (a.add 1) = some k1 ∧ W.cell? (a.add 2) = some k2 ∧ W.cell? (a.add 3) = some k3 ∧ W.cell? (a.add 4) = some k4 := by
  unfold World.cells? at h
  rw [if_pos (Nat.zero_le _), show List.range 5 = [0, 1, 2, 3, 4] from rfl] at h
  have g := mapM_some_get h
  have e0 := g 0 0 rfl
  have e1 := g 1 1 rfl
  have e2 := g 2 2 rfl
  have e3 := g 3 3 rfl
  have e4 := g 4 4 rfl
  exact ⟨e0, e1, e2, e3, e4⟩

end
end Go.Proofs.Ytmmkoohgniambaa

namespace Go.Proofs.Ytmmkoohgniambaa
open Go.ChangeShapes Go.WideShapes Go.ChangeAt Go.RowKit Go.Siskin

theorem Try.cellsBool : Try.prog.cellsOf 4 = 1 := by kernel_rfl
theorem Try.cellsStrs : Try.prog.cellsOf 22 = 1 := by kernel_rfl
theorem Try.cellsCores : Try.prog.cellsOf 23 = 1 := by kernel_rfl
theorem Try.cellsCore : Try.prog.cellsOf 25 = 5 := by kernel_rfl
theorem Try.cellsStrC : Try.prog.cellsOf 9 = 1 := by kernel_rfl
theorem Try.cellsIntC : Try.prog.cellsOf 3 = 1 := by kernel_rfl

section
variable {H : Type} {enc : TypeId × Value → H} {W : World} {spare : Nat → Bool} {held : Bool}

theorem cell_of1 {a : Addr} {x : Value} (h : W.cells? 0 a 1 = some [x]) : W.cell? (a.add 0) = some x := by
  unfold World.cells? at h
  rw [if_pos (Nat.zero_le _), show List.range 1 = [0] from rfl] at h
  have g := mapM_some_get h
  exact g 0 0 rfl

theorem strs_of {fuel : Nat} {v : Value} {x : DataW H × List MemPlace} (h : DataW.trod enc Try.prog W 0 spare held fuel 22 [v] = some x) : ∃ xs : List ByteArray, StrsAt (fun b => b < W.heap.size) W v xs := by
  rcases DataW.trod_slice Try.underlying22 h with ⟨hcs, -⟩ | ⟨a, len, cap, elems, rest, n2, hn2, hcs, -, -, hlc, hm, hlen, hel, -⟩
  · simp only [List.cons.injEq, and_true] at hcs
    exact ⟨[], none, 0, hcs, ⟨Nat.zero_le _, Nat.le_refl _⟩, fun i hi => absurd hi (by simp), Or.inl rfl⟩
  · simp only [List.cons.injEq, and_true] at hcs
    have hall : ∀ i, i < len → ∃ s : ByteArray, W.cell? ((a.add (i * 1)).add 0) = some (.string s) ∧ s.size ≤ maxLen := by
      intro i hi
      have he := hel i hi
      rw [Try.cellsStrC, List.getElem?_eq_getElem (by omega)] at he
      obtain ⟨cs', h1, h2⟩ := Option.bind_eq_some_iff.1 he
      obtain ⟨t, e1, -, ht⟩ := DataW.trod_string Try.underlying9 h2
      subst e1
      exact ⟨t, cell_of1 h1, ht⟩
    obtain ⟨F, hF⟩ := @Go.Deep.choose_lt ByteArray ⟨⟨#[]⟩⟩ _ _ hall
    have hl2 : ((List.range len).map F).length = len := by simp
    refine ⟨(List.range len).map F, some a, cap, by rw [hl2]; exact hcs, ⟨by rw [hl2]; omega, by rw [hl2]; omega⟩, fun i hi => ?_, ?_⟩
    · rw [hl2] at hi
      simpa using (hF i hi).2
    · by_cases h0 : len = 0
      · left; subst h0; rfl
      · right
        obtain ⟨b, o, spot⟩ := a
        have hq := (hF 0 (by omega)).1
        have hspot : spot = none := by simpa [Addr.add] using World.cell?_spot hq
        subst hspot
        refine ⟨b, o, rfl, ?_, fun i hi => ?_⟩
        · have := cell_lt hq
          simpa [Addr.add] using this
        · rw [hl2] at hi
          have q := (hF i hi).1
          rw [Go.Deep.add_add, Go.WideShapes.add_plain] at q
          simpa using q

theorem core_of : ∀ (fuel : Nat) {cs : List Value} {x : DataW H × List MemPlace}, DataW.trod enc Try.prog W 0 spare held fuel 25 cs = some x →
    ∃ (c0 c1 c2 c3 c4 : Value) (f : Cm), cs = [c0, c1, c2, c3, c4] ∧ CoreAt (fun b => b < W.heap.size) W f c0 c1 c2 c3 c4 := by
  intro fuel
  induction fuel using Nat.strongRecOn with
  | ind fuel ih =>
  intro cs x h
  obtain ⟨xs, n, hn, -, hl, hxs, hf⟩ := DataW.trod_struct Try.underlying25 h
  rw [Try.cellsCore] at hl
  obtain ⟨c0, c1, c2, c3, c4, rfl⟩ := list5 hl
  have hx5 : xs.length = 5 := hxs
  obtain ⟨x0, x1, x2, x3, x4, rfl⟩ := list5 hx5
  have g0 : DataW.trod enc Try.prog W 0 spare held n 3 [c0] = some x0 := by simpa [Try.cellsIntC] using hf 0 _ rfl
  have g1 : DataW.trod enc Try.prog W 0 spare held n 9 [c1] = some x1 := by simpa [Try.cellsStrC] using hf 1 _ rfl
  have g2 : DataW.trod enc Try.prog W 0 spare held n 4 [c2] = some x2 := by simpa [Try.cellsBool] using hf 2 _ rfl
  have g3 : DataW.trod enc Try.prog W 0 spare held n 22 [c3] = some x3 := by simpa [Try.cellsStrs] using hf 3 _ rfl
  have g4 : DataW.trod enc Try.prog W 0 spare held n 23 [c4] = some x4 := by simpa [Try.cellsCores] using hf 4 _ rfl
  obtain ⟨s, e0, -, -⟩ := DataW.trod_int Try.underlying3 g0
  obtain ⟨t, e1, -, ht⟩ := DataW.trod_string Try.underlying9 g1
  obtain ⟨r, e2, -⟩ := DataW.trod_bool Try.underlying4 g2
  obtain ⟨ns, hns⟩ := strs_of g3
  simp only [List.cons.injEq, and_true] at e0 e1 e2
  subst e0 e1 e2
  obtain ⟨ks, hks⟩ : ∃ ks, CoresAt (fun b => b < W.heap.size) W c4 ks := by
    rcases DataW.trod_slice Try.underlying23 g4 with ⟨hcs, -⟩ | ⟨a, len, cap, elems, rest, n2, hn2, hcs, -, -, hlc, hm, hlen, hel, -⟩
    · simp only [List.cons.injEq, and_true] at hcs
      exact ⟨[], none, 0, hcs, ⟨Nat.zero_le _, Nat.le_refl _⟩, Or.inl rfl⟩
    · simp only [List.cons.injEq, and_true] at hcs
      have hall : ∀ i, i < len → ∃ f : Cm, ∃ k0 k1 k2 k3 k4, W.cells? 0 (a.add (i * 5)) 5 = some [k0, k1, k2, k3, k4] ∧ CoreAt (fun b => b < W.heap.size) W f k0 k1 k2 k3 k4 := by
        intro i hi
        have he := hel i hi
        rw [Try.cellsCore, List.getElem?_eq_getElem (by omega)] at he
        obtain ⟨cs', h1, h2⟩ := Option.bind_eq_some_iff.1 he
        obtain ⟨k0, k1, k2, k3, k4, f, rfl, hf'⟩ := ih n2 (by omega) h2
        exact ⟨f, k0, k1, k2, k3, k4, h1, hf'⟩
      obtain ⟨F, hF⟩ := @Go.Deep.choose_lt Cm ⟨Cm.no⟩ _ _ hall
      have hl2 : ((List.range len).map F).length = len := by simp
      refine ⟨(List.range len).map F, some a, cap, by rw [hl2]; exact hcs, ⟨by rw [hl2]; omega, by rw [hl2]; omega⟩, ?_⟩
      by_cases h0 : len = 0
      · left; subst h0; rfl
      · right
        obtain ⟨b, o, spot⟩ := a
        obtain ⟨k0, k1, k2, k3, k4, hc0, -⟩ := hF 0 (by omega)
        have hq := (cells5 hc0).1
        have hspot : spot = none := by simpa [Addr.add] using World.cell?_spot hq
        subst hspot
        refine ⟨b, o, rfl, ?_, CRowAt.mk _ fun i hi => ?_⟩
        · have := cell_lt hq
          simpa [Addr.add] using this
        · rw [hl2] at hi
          obtain ⟨k0, k1, k2, k3, k4, hci, hfi⟩ := hF i hi
          obtain ⟨q0, q1, q2, q3, q4⟩ := cells5 hci
          rw [Go.Deep.add_add, Go.WideShapes.add_plain] at q0 q1 q2 q3 q4
          refine ⟨k0, k1, k2, k3, k4, q0, q1, q2, q3, q4, ?_⟩
          simpa using hfi
  exact ⟨_, _, _, _, _, .mk s t r ns ks, rfl, (coreAt_iff _ _ _ _ _ _ _ _).2 ⟨rfl, rfl, ht, rfl, hns, hks⟩⟩
end
end Go.Proofs.Ytmmkoohgniambaa
