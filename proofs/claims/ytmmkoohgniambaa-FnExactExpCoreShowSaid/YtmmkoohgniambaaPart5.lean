/-
  The model's ExpCoreShow shows a part. Condition: the part lies in memory, and what is shown is not too long.
  The law's toStringS, toExpCore and toExpCoreS copy into memory of their own: every list in a block of its own. Condition: the part lies in memory, and costs at most 1048576.
  The law's eqExpForm and eqExpFormS return true of two places that hold one form. Condition: both lie in memory as FormAt says.
  The law's eqStringS, eqExpCore and eqExpCoreS return true of two places that hold one part. Condition: both lie in memory as CoreAt says.
-/
import Derived.Test.YtmmkoohgniambaaPart4
import Derived.Test.YtmmkoohgniambaaPart1
import Derived.Deep.RegionWith
namespace Go.Proofs.Ytmmkoohgniambaa
open Go.RowKit Go.Siskin

def SpecCore (n : Nat) : Prop := ∀ c : Cm, c.sz ≤ n → ∀ (B : Nat → Prop) (w : World) (c0 c1 c2 c3 c4 : Value), CoreAt B w c c0 c1 c2 c3 c4 → (∀ b, B b → b < w.heap.size) → (showC c).length ≤ 900000000 →
    Calls Try.prog 6 #[.agg #[c0, c1, c2, c3, c4]] w fun e w' => e = .returned (.string ⟨(showC c).toArray⟩) ∧ Below w.heap.size w w'

theorem sc_len {P J zs : List UInt8} (h : zs = P ++ J) (hl : P.length + J.length ≤ 900000000) : (zs.length : Int) ≤ 900000000 := by
  rw [h]; simp only [List.length_append]; omega
theorem sc_eq {P xs a b c ys zs : List UInt8} (hx : xs = P ++ a) (ht : b = a ++ (c ++ ys)) (hz : zs = xs ++ c ++ ys) : zs = P ++ b := by
  rw [hz, hx, ht]; simp
theorem capp0 (xs : List UInt8) : Value.string (⟨xs.toArray⟩ : ByteArray) = .string ⟨xs.toArray⟩ := rfl

set_option maxRecDepth 20000 in
set_option maxHeartbeats 4000000 in
theorem specCore_3 (n : Nat) (ih : SpecCore n) (t : ByteArray) (r : Bool) (ns : List ByteArray) (ks : List Cm) (hk : Cm.szs ks ≤ n) (B : Nat → Prop) (w : World) (c3 c4 : Value) (ht : t.size ≤ maxLen) (h3 : StrsAt B w c3 ns) (h4 : CoresAt B w c4 ks) (hB : ∀ b, B b → b < w.heap.size) (hl : (preB 3 t r ns ++ joinC 3 0 (ks.map showC) ++ [41]).length ≤ 900000000) :
    Calls Try.prog 6 #[.agg #[.int .i64 3, .string t, .bool r, c3, c4]] w fun e w' => e = .returned (.string ⟨(preB 3 t r ns ++ joinC 3 0 (ks.map showC) ++ [41]).toArray⟩) ∧ Below w.heap.size w w' := by
  have HPre : Hid (preB 3 t r ns = [40, 108, 97, 109, 98, 100, 97, 32] ++ parB ns r) := by
    show preB 3 t r ns = _
    unfold preB; rw [if_pos rfl]
  obtain ⟨P, hP⟩ : ∃ P, P = preB 3 t r ns := ⟨_, rfl⟩
  rw [← hP] at hl HPre ⊢
  have HLL : Hid (P.length + (joinC 3 0 (ks.map showC)).length + 1 ≤ 900000000) := by
    show _ ≤ _
    simpa only [List.length_append, List.length_cons, List.length_nil] using hl
  have hP9 : P.length ≤ 900000000 := by have := HLL.out; omega
  have HI := hid ih
  have HR := hid hB
  have H3 := hid h3
  obtain ⟨a3, k3, rfl, -⟩ := h3
  obtain ⟨a4, k4, rfl, hl4, ha⟩ := h4
  unfold maxLen at hl4
  have HT0 := hid ht
  unfold maxLen at ht
  clear ih hB hl hP
  have hh6 : ((headB 3).length : Int) ≤ 6 := by have := headB_len 3; omega
  have hp9 : ((parB ns r).length : Int) ≤ 900000000 := by have := congrArg List.length HPre.out; simp only [List.length_append, List.length_cons, List.length_nil] at this; omega
  go_enter Try.func6, Try.ntmps6
  go_wp2_with (first | (go_at_call 16; refine (l5Head_any 3 _).mono ?_; rintro e w' ⟨rfl, hw⟩; rw [hw]; clear hw w') | (go_at_call 17; refine (l5Params_any B _ ns r _ (H3.out.keep ((SameOn.refl _ _).alloc HR.out _)) (by have := HPre.out; have := congrArg List.length this; simp only [List.length_append, List.length_cons, List.length_nil] at this; omega)).mono ?_; rintro e w' ⟨rfl, hw⟩; rw [hw]; clear hw w'))
  go_loopw [3, 4] (fun o i wr => ∃ k : Nat, k ≤ ks.length ∧ i = .int .i64 k ∧ ∃ xs : List UInt8, o = .string ⟨xs.toArray⟩ ∧ (xs.length : Int) ≤ 900000000 ∧ Hid (xs = P ++ joinC 3 0 ((ks.map showC).take k)) ∧ Hid (Below (w.heap.size + 1) (w.alloc (.cells #[.int .i64 3, .string t, .bool r, .slice a3 ns.length k3, .slice a4 ks.length k4] 30)) wr)) (fun _ i _ => ks.length - (intOf i).toNat)
  case atStart => exact ⟨0, Nat.zero_le _, rfl, P, by rw [HPre.out]; exact capp1 _ _, by omega, by show _ = _; simp [joinC], Below.refl _ _⟩
  case round =>
    obtain ⟨k, hk', rfl, xs, rfl, hxs, HO, HB⟩ := hrel
    have hcell : ∀ o, wr.cell? ⟨w.heap.size, o, none⟩ = (w.alloc (.cells #[.int .i64 3, .string t, .bool r, .slice a3 ns.length k3, .slice a4 ks.length k4] 30)).cell? ⟨w.heap.size, o, none⟩ := fun o => HB.out.cell (p := ⟨w.heap.size, o, none⟩) (by simp)
    have hsz := HB.out.size
    simp only [World.size_alloc] at hsz
    by_cases hlt : k < ks.length
    · rcases ha with ha | ⟨ba, oa, rfl, hb, ha⟩
      · rw [ha] at hlt; simp at hlt
      have hrow := CRowAt.keep (((SameOn.refl _ _).alloc HR.out _).below HB.out (fun b hb => by have := HR.out b hb; omega)) hb ks ha
      obtain ⟨e0, e1, e2, e3, e4, g0, g1, g2, g3, g4, hf'⟩ := CRowAt.get ks hrow k hlt
      have hgt : (ks.map showC)[k]'(by simpa using hlt) = showC ks[k] := by simp
      have HT := hid (joinC_take 3 (ks.map showC) k (by simpa using hlt))
      rw [hgt] at HT
      have hle := joinC_le 3 (ks.map showC) 0 (k + 1)
      have hle2 : P.length + (joinC 3 0 ((ks.map showC).take (k + 1))).length ≤ 900000000 := by have := HLL.out; omega
      have HLE := hid hle2
      have hy9 : (showC ks[k]).length ≤ 900000000 := by
        have h3 := hle2
        rw [HT.out] at h3
        simp only [List.length_append] at h3
        omega
      have HC := hid (HI.out ks[k] (by have := Cm.szs_get ks k hlt; omega) B wr e0 e1 e2 e3 e4 hf' (fun b hb => by have := HR.out b hb; omega) hy9)
      obtain ⟨ys, hys⟩ : ∃ ys, ys = showC ks[k] := ⟨_, rfl⟩
      rw [← hys] at HC HT hy9
      have hy : (ys.length : Int) ≤ 900000000 := by omega
      clear ha hrow hf' hle hle2 hgt hys
      by_cases hk0 : 0 < k
      · have hk0' : (0 : Int) < (k : Int) := by omega
        have HCd := hid (if_pos (c := 0 < k ∨ (3 : Int) ≠ 4) (Or.inl hk0) : (if 0 < k ∨ (3 : Int) ≠ 4 then [(32 : UInt8)] else []) = [32])
        rw [HCd.out] at HT
        go_wp2_with (go_at_call 6; refine HC.out.mono ?_; rintro e w' ⟨rfl, hw⟩)
        exact ⟨⟨k + 1, by omega, by go_num, _, capp2 xs [32] ys, sc_len (sc_eq HO.out HT.out (by simp)) HLE.out, sc_eq HO.out HT.out (by simp), HB.out.trans (hw.mono hsz)⟩, by simp [intOf]; omega⟩
      · have hk0' : ¬ (0 : Int) < (k : Int) := by omega
        have HCd := hid (if_pos (c := 0 < k ∨ (3 : Int) ≠ 4) (Or.inr (by decide)) : (if 0 < k ∨ (3 : Int) ≠ 4 then [(32 : UInt8)] else []) = [32])
        rw [HCd.out] at HT
        go_wp2_with (go_at_call 6; refine HC.out.mono ?_; rintro e w' ⟨rfl, hw⟩)
        exact ⟨⟨k + 1, by omega, by go_num, _, capp2 xs [32] ys, sc_len (sc_eq HO.out HT.out (by simp)) HLE.out, sc_eq HO.out HT.out (by simp), HB.out.trans (hw.mono hsz)⟩, by simp [intOf]; omega⟩
    · have h := HO.out
      rw [List.take_of_length_le (by simp; omega)] at h
      have HO' := hid h
      clear h
      go_wp2_with fail
      go_ret
      refine ⟨?_, ((Below.refl _ _).alloc (Nat.le_refl _) _).trans (HB.out.mono (by omega))⟩
      rw [← HO'.out]
      exact congrArg Ending.returned (capp1 xs [41])

set_option maxRecDepth 20000 in
set_option maxHeartbeats 4000000 in
theorem specCore_4 (n : Nat) (ih : SpecCore n) (t : ByteArray) (r : Bool) (ns : List ByteArray) (ks : List Cm) (hk : Cm.szs ks ≤ n) (B : Nat → Prop) (w : World) (c3 c4 : Value) (ht : t.size ≤ maxLen) (h3 : StrsAt B w c3 ns) (h4 : CoresAt B w c4 ks) (hB : ∀ b, B b → b < w.heap.size) (hl : (preB 4 t r ns ++ joinC 4 0 (ks.map showC) ++ [41]).length ≤ 900000000) :
    Calls Try.prog 6 #[.agg #[.int .i64 4, .string t, .bool r, c3, c4]] w fun e w' => e = .returned (.string ⟨(preB 4 t r ns ++ joinC 4 0 (ks.map showC) ++ [41]).toArray⟩) ∧ Below w.heap.size w w' := by
  have HPre : Hid (preB 4 t r ns = [40] ++ headB 4) := by
    show preB 4 t r ns = _
    unfold preB; rfl
  obtain ⟨P, hP⟩ : ∃ P, P = preB 4 t r ns := ⟨_, rfl⟩
  rw [← hP] at hl HPre ⊢
  have HLL : Hid (P.length + (joinC 4 0 (ks.map showC)).length + 1 ≤ 900000000) := by
    show _ ≤ _
    simpa only [List.length_append, List.length_cons, List.length_nil] using hl
  have hP9 : P.length ≤ 900000000 := by have := HLL.out; omega
  have HI := hid ih
  have HR := hid hB
  have H3 := hid h3
  obtain ⟨a3, k3, rfl, -⟩ := h3
  obtain ⟨a4, k4, rfl, hl4, ha⟩ := h4
  unfold maxLen at hl4
  have HT0 := hid ht
  unfold maxLen at ht
  clear ih hB hl hP
  go_enter Try.func6, Try.ntmps6
  go_wp2_with (go_at_call 16; refine (l5Head_any 4 _).mono ?_; rintro e w' ⟨rfl, hw⟩; rw [hw]; clear hw w')
  go_loopw [3, 4] (fun o i wr => ∃ k : Nat, k ≤ ks.length ∧ i = .int .i64 k ∧ ∃ xs : List UInt8, o = .string ⟨xs.toArray⟩ ∧ (xs.length : Int) ≤ 900000000 ∧ Hid (xs = P ++ joinC 4 0 ((ks.map showC).take k)) ∧ Hid (Below (w.heap.size + 1) (w.alloc (.cells #[.int .i64 4, .string t, .bool r, .slice a3 ns.length k3, .slice a4 ks.length k4] 30)) wr)) (fun _ i _ => ks.length - (intOf i).toNat)
  case atStart => exact ⟨0, Nat.zero_le _, rfl, P, by rw [HPre.out]; exact capp1 _ _, by omega, by show _ = _; simp [joinC], Below.refl _ _⟩
  case round =>
    obtain ⟨k, hk', rfl, xs, rfl, hxs, HO, HB⟩ := hrel
    have hcell : ∀ o, wr.cell? ⟨w.heap.size, o, none⟩ = (w.alloc (.cells #[.int .i64 4, .string t, .bool r, .slice a3 ns.length k3, .slice a4 ks.length k4] 30)).cell? ⟨w.heap.size, o, none⟩ := fun o => HB.out.cell (p := ⟨w.heap.size, o, none⟩) (by simp)
    have hsz := HB.out.size
    simp only [World.size_alloc] at hsz
    by_cases hlt : k < ks.length
    · rcases ha with ha | ⟨ba, oa, rfl, hb, ha⟩
      · rw [ha] at hlt; simp at hlt
      have hrow := CRowAt.keep (((SameOn.refl _ _).alloc HR.out _).below HB.out (fun b hb => by have := HR.out b hb; omega)) hb ks ha
      obtain ⟨e0, e1, e2, e3, e4, g0, g1, g2, g3, g4, hf'⟩ := CRowAt.get ks hrow k hlt
      have hgt : (ks.map showC)[k]'(by simpa using hlt) = showC ks[k] := by simp
      have HT := hid (joinC_take 4 (ks.map showC) k (by simpa using hlt))
      rw [hgt] at HT
      have hle := joinC_le 4 (ks.map showC) 0 (k + 1)
      have hle2 : P.length + (joinC 4 0 ((ks.map showC).take (k + 1))).length ≤ 900000000 := by have := HLL.out; omega
      have HLE := hid hle2
      have hy9 : (showC ks[k]).length ≤ 900000000 := by
        have h3 := hle2
        rw [HT.out] at h3
        simp only [List.length_append] at h3
        omega
      have HC := hid (HI.out ks[k] (by have := Cm.szs_get ks k hlt; omega) B wr e0 e1 e2 e3 e4 hf' (fun b hb => by have := HR.out b hb; omega) hy9)
      obtain ⟨ys, hys⟩ : ∃ ys, ys = showC ks[k] := ⟨_, rfl⟩
      rw [← hys] at HC HT hy9
      have hy : (ys.length : Int) ≤ 900000000 := by omega
      clear ha hrow hf' hle hle2 hgt hys
      by_cases hk0 : 0 < k
      · have hk0' : (0 : Int) < (k : Int) := by omega
        have HCd := hid (if_pos (c := 0 < k ∨ (4 : Int) ≠ 4) (Or.inl hk0) : (if 0 < k ∨ (4 : Int) ≠ 4 then [(32 : UInt8)] else []) = [32])
        rw [HCd.out] at HT
        go_wp2_with (go_at_call 6; refine HC.out.mono ?_; rintro e w' ⟨rfl, hw⟩)
        exact ⟨⟨k + 1, by omega, by go_num, _, capp2 xs [32] ys, sc_len (sc_eq HO.out HT.out (by simp)) HLE.out, sc_eq HO.out HT.out (by simp), HB.out.trans (hw.mono hsz)⟩, by simp [intOf]; omega⟩
      · have hk0' : ¬ (0 : Int) < (k : Int) := by omega
        have HCd := hid (if_neg (c := 0 < k ∨ (4 : Int) ≠ 4) (by omega) : (if 0 < k ∨ (4 : Int) ≠ 4 then [(32 : UInt8)] else []) = [])
        rw [HCd.out] at HT
        go_wp2_with (go_at_call 6; refine HC.out.mono ?_; rintro e w' ⟨rfl, hw⟩)
        exact ⟨⟨k + 1, by omega, by go_num, _, capp1 xs ys, sc_len (sc_eq HO.out HT.out (by simp)) HLE.out, sc_eq HO.out HT.out (by simp), HB.out.trans (hw.mono hsz)⟩, by simp [intOf]; omega⟩
    · have h := HO.out
      rw [List.take_of_length_le (by simp; omega)] at h
      have HO' := hid h
      clear h
      go_wp2_with fail
      go_ret
      refine ⟨?_, ((Below.refl _ _).alloc (Nat.le_refl _) _).trans (HB.out.mono (by omega))⟩
      rw [← HO'.out]
      exact congrArg Ending.returned (capp1 xs [41])

set_option maxRecDepth 20000 in
set_option maxHeartbeats 4000000 in
theorem specCore_6 (n : Nat) (ih : SpecCore n) (t : ByteArray) (r : Bool) (ns : List ByteArray) (ks : List Cm) (hk : Cm.szs ks ≤ n) (B : Nat → Prop) (w : World) (c3 c4 : Value) (ht : t.size ≤ maxLen) (h3 : StrsAt B w c3 ns) (h4 : CoresAt B w c4 ks) (hB : ∀ b, B b → b < w.heap.size) (hl : (preB 6 t r ns ++ joinC 6 0 (ks.map showC) ++ [41]).length ≤ 900000000) :
    Calls Try.prog 6 #[.agg #[.int .i64 6, .string t, .bool r, c3, c4]] w fun e w' => e = .returned (.string ⟨(preB 6 t r ns ++ joinC 6 0 (ks.map showC) ++ [41]).toArray⟩) ∧ Below w.heap.size w w' := by
  have HPre : Hid (preB 6 t r ns = [40] ++ headB 6 ++ [32] ++ t.data.toList) := by
    show preB 6 t r ns = _
    unfold preB; rfl
  obtain ⟨P, hP⟩ : ∃ P, P = preB 6 t r ns := ⟨_, rfl⟩
  rw [← hP] at hl HPre ⊢
  have HLL : Hid (P.length + (joinC 6 0 (ks.map showC)).length + 1 ≤ 900000000) := by
    show _ ≤ _
    simpa only [List.length_append, List.length_cons, List.length_nil] using hl
  have hP9 : P.length ≤ 900000000 := by have := HLL.out; omega
  have HI := hid ih
  have HR := hid hB
  have H3 := hid h3
  obtain ⟨a3, k3, rfl, -⟩ := h3
  obtain ⟨a4, k4, rfl, hl4, ha⟩ := h4
  unfold maxLen at hl4
  have HT0 := hid ht
  unfold maxLen at ht
  clear ih hB hl hP
  have hh6 : ((headB 6).length : Int) ≤ 6 := by have := headB_len 6; omega
  have ht9 : t.size ≤ 900000000 := by
    have h1 := congrArg List.length HPre.out
    have h4 : t.data.toList.length = t.size := by simp
    simp only [List.length_append, List.length_cons, List.length_nil] at h1
    omega
  go_enter Try.func6, Try.ntmps6
  go_wp2_with (go_at_call 16; refine (l5Head_any 6 _).mono ?_; rintro e w' ⟨rfl, hw⟩; rw [hw]; clear hw w')
  go_loopw [3, 4] (fun o i wr => ∃ k : Nat, k ≤ ks.length ∧ i = .int .i64 k ∧ ∃ xs : List UInt8, o = .string ⟨xs.toArray⟩ ∧ (xs.length : Int) ≤ 900000000 ∧ Hid (xs = P ++ joinC 6 0 ((ks.map showC).take k)) ∧ Hid (Below (w.heap.size + 1) (w.alloc (.cells #[.int .i64 6, .string t, .bool r, .slice a3 ns.length k3, .slice a4 ks.length k4] 30)) wr)) (fun _ i _ => ks.length - (intOf i).toNat)
  case atStart => exact ⟨0, Nat.zero_le _, rfl, P, by rw [HPre.out, ← capp3, ceta], by omega, by show _ = _; simp [joinC], Below.refl _ _⟩
  case round =>
    obtain ⟨k, hk', rfl, xs, rfl, hxs, HO, HB⟩ := hrel
    have hcell : ∀ o, wr.cell? ⟨w.heap.size, o, none⟩ = (w.alloc (.cells #[.int .i64 6, .string t, .bool r, .slice a3 ns.length k3, .slice a4 ks.length k4] 30)).cell? ⟨w.heap.size, o, none⟩ := fun o => HB.out.cell (p := ⟨w.heap.size, o, none⟩) (by simp)
    have hsz := HB.out.size
    simp only [World.size_alloc] at hsz
    by_cases hlt : k < ks.length
    · rcases ha with ha | ⟨ba, oa, rfl, hb, ha⟩
      · rw [ha] at hlt; simp at hlt
      have hrow := CRowAt.keep (((SameOn.refl _ _).alloc HR.out _).below HB.out (fun b hb => by have := HR.out b hb; omega)) hb ks ha
      obtain ⟨e0, e1, e2, e3, e4, g0, g1, g2, g3, g4, hf'⟩ := CRowAt.get ks hrow k hlt
      have hgt : (ks.map showC)[k]'(by simpa using hlt) = showC ks[k] := by simp
      have HT := hid (joinC_take 6 (ks.map showC) k (by simpa using hlt))
      rw [hgt] at HT
      have hle := joinC_le 6 (ks.map showC) 0 (k + 1)
      have hle2 : P.length + (joinC 6 0 ((ks.map showC).take (k + 1))).length ≤ 900000000 := by have := HLL.out; omega
      have HLE := hid hle2
      have hy9 : (showC ks[k]).length ≤ 900000000 := by
        have h3 := hle2
        rw [HT.out] at h3
        simp only [List.length_append] at h3
        omega
      have HC := hid (HI.out ks[k] (by have := Cm.szs_get ks k hlt; omega) B wr e0 e1 e2 e3 e4 hf' (fun b hb => by have := HR.out b hb; omega) hy9)
      obtain ⟨ys, hys⟩ : ∃ ys, ys = showC ks[k] := ⟨_, rfl⟩
      rw [← hys] at HC HT hy9
      have hy : (ys.length : Int) ≤ 900000000 := by omega
      clear ha hrow hf' hle hle2 hgt hys
      by_cases hk0 : 0 < k
      · have hk0' : (0 : Int) < (k : Int) := by omega
        have HCd := hid (if_pos (c := 0 < k ∨ (6 : Int) ≠ 4) (Or.inl hk0) : (if 0 < k ∨ (6 : Int) ≠ 4 then [(32 : UInt8)] else []) = [32])
        rw [HCd.out] at HT
        go_wp2_with (go_at_call 6; refine HC.out.mono ?_; rintro e w' ⟨rfl, hw⟩)
        exact ⟨⟨k + 1, by omega, by go_num, _, capp2 xs [32] ys, sc_len (sc_eq HO.out HT.out (by simp)) HLE.out, sc_eq HO.out HT.out (by simp), HB.out.trans (hw.mono hsz)⟩, by simp [intOf]; omega⟩
      · have hk0' : ¬ (0 : Int) < (k : Int) := by omega
        have HCd := hid (if_pos (c := 0 < k ∨ (6 : Int) ≠ 4) (Or.inr (by decide)) : (if 0 < k ∨ (6 : Int) ≠ 4 then [(32 : UInt8)] else []) = [32])
        rw [HCd.out] at HT
        go_wp2_with (go_at_call 6; refine HC.out.mono ?_; rintro e w' ⟨rfl, hw⟩)
        exact ⟨⟨k + 1, by omega, by go_num, _, capp2 xs [32] ys, sc_len (sc_eq HO.out HT.out (by simp)) HLE.out, sc_eq HO.out HT.out (by simp), HB.out.trans (hw.mono hsz)⟩, by simp [intOf]; omega⟩
    · have h := HO.out
      rw [List.take_of_length_le (by simp; omega)] at h
      have HO' := hid h
      clear h
      go_wp2_with fail
      go_ret
      refine ⟨?_, ((Below.refl _ _).alloc (Nat.le_refl _) _).trans (HB.out.mono (by omega))⟩
      rw [← HO'.out]
      exact congrArg Ending.returned (capp1 xs [41])

set_option maxRecDepth 20000 in
set_option maxHeartbeats 4000000 in
theorem specCore_8 (n : Nat) (ih : SpecCore n) (t : ByteArray) (r : Bool) (ns : List ByteArray) (ks : List Cm) (hk : Cm.szs ks ≤ n) (B : Nat → Prop) (w : World) (c3 c4 : Value) (ht : t.size ≤ maxLen) (h3 : StrsAt B w c3 ns) (h4 : CoresAt B w c4 ks) (hB : ∀ b, B b → b < w.heap.size) (hl : (preB 8 t r ns ++ joinC 8 0 (ks.map showC) ++ [41]).length ≤ 900000000) :
    Calls Try.prog 6 #[.agg #[.int .i64 8, .string t, .bool r, c3, c4]] w fun e w' => e = .returned (.string ⟨(preB 8 t r ns ++ joinC 8 0 (ks.map showC) ++ [41]).toArray⟩) ∧ Below w.heap.size w w' := by
  have HPre : Hid (preB 8 t r ns = [40, 114, 101, 99, 32] ++ parB ns false) := by
    show preB 8 t r ns = _
    unfold preB; rfl
  obtain ⟨P, hP⟩ : ∃ P, P = preB 8 t r ns := ⟨_, rfl⟩
  rw [← hP] at hl HPre ⊢
  have HLL : Hid (P.length + (joinC 8 0 (ks.map showC)).length + 1 ≤ 900000000) := by
    show _ ≤ _
    simpa only [List.length_append, List.length_cons, List.length_nil] using hl
  have hP9 : P.length ≤ 900000000 := by have := HLL.out; omega
  have HI := hid ih
  have HR := hid hB
  have H3 := hid h3
  obtain ⟨a3, k3, rfl, -⟩ := h3
  obtain ⟨a4, k4, rfl, hl4, ha⟩ := h4
  unfold maxLen at hl4
  have HT0 := hid ht
  unfold maxLen at ht
  clear ih hB hl hP
  have hh6 : ((headB 8).length : Int) ≤ 6 := by have := headB_len 8; omega
  have hp9 : ((parB ns false).length : Int) ≤ 900000000 := by have := congrArg List.length HPre.out; simp only [List.length_append, List.length_cons, List.length_nil] at this; omega
  go_enter Try.func6, Try.ntmps6
  go_wp2_with (first | (go_at_call 16; refine (l5Head_any 8 _).mono ?_; rintro e w' ⟨rfl, hw⟩; rw [hw]; clear hw w') | (go_at_call 17; refine (l5Params_any B _ ns false _ (H3.out.keep ((SameOn.refl _ _).alloc HR.out _)) (by have := HPre.out; have := congrArg List.length this; simp only [List.length_append, List.length_cons, List.length_nil] at this; omega)).mono ?_; rintro e w' ⟨rfl, hw⟩; rw [hw]; clear hw w'))
  go_loopw [3, 4] (fun o i wr => ∃ k : Nat, k ≤ ks.length ∧ i = .int .i64 k ∧ ∃ xs : List UInt8, o = .string ⟨xs.toArray⟩ ∧ (xs.length : Int) ≤ 900000000 ∧ Hid (xs = P ++ joinC 8 0 ((ks.map showC).take k)) ∧ Hid (Below (w.heap.size + 1) (w.alloc (.cells #[.int .i64 8, .string t, .bool r, .slice a3 ns.length k3, .slice a4 ks.length k4] 30)) wr)) (fun _ i _ => ks.length - (intOf i).toNat)
  case atStart => exact ⟨0, Nat.zero_le _, rfl, P, by rw [HPre.out]; exact capp1 _ _, by omega, by show _ = _; simp [joinC], Below.refl _ _⟩
  case round =>
    obtain ⟨k, hk', rfl, xs, rfl, hxs, HO, HB⟩ := hrel
    have hcell : ∀ o, wr.cell? ⟨w.heap.size, o, none⟩ = (w.alloc (.cells #[.int .i64 8, .string t, .bool r, .slice a3 ns.length k3, .slice a4 ks.length k4] 30)).cell? ⟨w.heap.size, o, none⟩ := fun o => HB.out.cell (p := ⟨w.heap.size, o, none⟩) (by simp)
    have hsz := HB.out.size
    simp only [World.size_alloc] at hsz
    by_cases hlt : k < ks.length
    · rcases ha with ha | ⟨ba, oa, rfl, hb, ha⟩
      · rw [ha] at hlt; simp at hlt
      have hrow := CRowAt.keep (((SameOn.refl _ _).alloc HR.out _).below HB.out (fun b hb => by have := HR.out b hb; omega)) hb ks ha
      obtain ⟨e0, e1, e2, e3, e4, g0, g1, g2, g3, g4, hf'⟩ := CRowAt.get ks hrow k hlt
      have hgt : (ks.map showC)[k]'(by simpa using hlt) = showC ks[k] := by simp
      have HT := hid (joinC_take 8 (ks.map showC) k (by simpa using hlt))
      rw [hgt] at HT
      have hle := joinC_le 8 (ks.map showC) 0 (k + 1)
      have hle2 : P.length + (joinC 8 0 ((ks.map showC).take (k + 1))).length ≤ 900000000 := by have := HLL.out; omega
      have HLE := hid hle2
      have hy9 : (showC ks[k]).length ≤ 900000000 := by
        have h3 := hle2
        rw [HT.out] at h3
        simp only [List.length_append] at h3
        omega
      have HC := hid (HI.out ks[k] (by have := Cm.szs_get ks k hlt; omega) B wr e0 e1 e2 e3 e4 hf' (fun b hb => by have := HR.out b hb; omega) hy9)
      obtain ⟨ys, hys⟩ : ∃ ys, ys = showC ks[k] := ⟨_, rfl⟩
      rw [← hys] at HC HT hy9
      have hy : (ys.length : Int) ≤ 900000000 := by omega
      clear ha hrow hf' hle hle2 hgt hys
      by_cases hk0 : 0 < k
      · have hk0' : (0 : Int) < (k : Int) := by omega
        have HCd := hid (if_pos (c := 0 < k ∨ (8 : Int) ≠ 4) (Or.inl hk0) : (if 0 < k ∨ (8 : Int) ≠ 4 then [(32 : UInt8)] else []) = [32])
        rw [HCd.out] at HT
        go_wp2_with (go_at_call 6; refine HC.out.mono ?_; rintro e w' ⟨rfl, hw⟩)
        exact ⟨⟨k + 1, by omega, by go_num, _, capp2 xs [32] ys, sc_len (sc_eq HO.out HT.out (by simp)) HLE.out, sc_eq HO.out HT.out (by simp), HB.out.trans (hw.mono hsz)⟩, by simp [intOf]; omega⟩
      · have hk0' : ¬ (0 : Int) < (k : Int) := by omega
        have HCd := hid (if_pos (c := 0 < k ∨ (8 : Int) ≠ 4) (Or.inr (by decide)) : (if 0 < k ∨ (8 : Int) ≠ 4 then [(32 : UInt8)] else []) = [32])
        rw [HCd.out] at HT
        go_wp2_with (go_at_call 6; refine HC.out.mono ?_; rintro e w' ⟨rfl, hw⟩)
        exact ⟨⟨k + 1, by omega, by go_num, _, capp2 xs [32] ys, sc_len (sc_eq HO.out HT.out (by simp)) HLE.out, sc_eq HO.out HT.out (by simp), HB.out.trans (hw.mono hsz)⟩, by simp [intOf]; omega⟩
    · have h := HO.out
      rw [List.take_of_length_le (by simp; omega)] at h
      have HO' := hid h
      clear h
      go_wp2_with fail
      go_ret
      refine ⟨?_, ((Below.refl _ _).alloc (Nat.le_refl _) _).trans (HB.out.mono (by omega))⟩
      rw [← HO'.out]
      exact congrArg Ending.returned (capp1 xs [41])

set_option maxRecDepth 20000 in
set_option maxHeartbeats 4000000 in
theorem specCore_9 (n : Nat) (ih : SpecCore n) (t : ByteArray) (r : Bool) (ns : List ByteArray) (ks : List Cm) (hk : Cm.szs ks ≤ n) (B : Nat → Prop) (w : World) (c3 c4 : Value) (ht : t.size ≤ maxLen) (h3 : StrsAt B w c3 ns) (h4 : CoresAt B w c4 ks) (hB : ∀ b, B b → b < w.heap.size) (hl : (preB 9 t r ns ++ joinC 9 0 (ks.map showC) ++ [41]).length ≤ 900000000) :
    Calls Try.prog 6 #[.agg #[.int .i64 9, .string t, .bool r, c3, c4]] w fun e w' => e = .returned (.string ⟨(preB 9 t r ns ++ joinC 9 0 (ks.map showC) ++ [41]).toArray⟩) ∧ Below w.heap.size w w' := by
  have HPre : Hid (preB 9 t r ns = [40] ++ headB 9 ++ [32] ++ t.data.toList) := by
    show preB 9 t r ns = _
    unfold preB; rfl
  obtain ⟨P, hP⟩ : ∃ P, P = preB 9 t r ns := ⟨_, rfl⟩
  rw [← hP] at hl HPre ⊢
  have HLL : Hid (P.length + (joinC 9 0 (ks.map showC)).length + 1 ≤ 900000000) := by
    show _ ≤ _
    simpa only [List.length_append, List.length_cons, List.length_nil] using hl
  have hP9 : P.length ≤ 900000000 := by have := HLL.out; omega
  have HI := hid ih
  have HR := hid hB
  have H3 := hid h3
  obtain ⟨a3, k3, rfl, -⟩ := h3
  obtain ⟨a4, k4, rfl, hl4, ha⟩ := h4
  unfold maxLen at hl4
  have HT0 := hid ht
  unfold maxLen at ht
  clear ih hB hl hP
  have hh6 : ((headB 9).length : Int) ≤ 6 := by have := headB_len 9; omega
  have ht9 : t.size ≤ 900000000 := by
    have h1 := congrArg List.length HPre.out
    have h4 : t.data.toList.length = t.size := by simp
    simp only [List.length_append, List.length_cons, List.length_nil] at h1
    omega
  go_enter Try.func6, Try.ntmps6
  go_wp2_with (go_at_call 16; refine (l5Head_any 9 _).mono ?_; rintro e w' ⟨rfl, hw⟩; rw [hw]; clear hw w')
  go_loopw [3, 4] (fun o i wr => ∃ k : Nat, k ≤ ks.length ∧ i = .int .i64 k ∧ ∃ xs : List UInt8, o = .string ⟨xs.toArray⟩ ∧ (xs.length : Int) ≤ 900000000 ∧ Hid (xs = P ++ joinC 9 0 ((ks.map showC).take k)) ∧ Hid (Below (w.heap.size + 1) (w.alloc (.cells #[.int .i64 9, .string t, .bool r, .slice a3 ns.length k3, .slice a4 ks.length k4] 30)) wr)) (fun _ i _ => ks.length - (intOf i).toNat)
  case atStart => exact ⟨0, Nat.zero_le _, rfl, P, by rw [HPre.out, ← capp3, ceta], by omega, by show _ = _; simp [joinC], Below.refl _ _⟩
  case round =>
    obtain ⟨k, hk', rfl, xs, rfl, hxs, HO, HB⟩ := hrel
    have hcell : ∀ o, wr.cell? ⟨w.heap.size, o, none⟩ = (w.alloc (.cells #[.int .i64 9, .string t, .bool r, .slice a3 ns.length k3, .slice a4 ks.length k4] 30)).cell? ⟨w.heap.size, o, none⟩ := fun o => HB.out.cell (p := ⟨w.heap.size, o, none⟩) (by simp)
    have hsz := HB.out.size
    simp only [World.size_alloc] at hsz
    by_cases hlt : k < ks.length
    · rcases ha with ha | ⟨ba, oa, rfl, hb, ha⟩
      · rw [ha] at hlt; simp at hlt
      have hrow := CRowAt.keep (((SameOn.refl _ _).alloc HR.out _).below HB.out (fun b hb => by have := HR.out b hb; omega)) hb ks ha
      obtain ⟨e0, e1, e2, e3, e4, g0, g1, g2, g3, g4, hf'⟩ := CRowAt.get ks hrow k hlt
      have hgt : (ks.map showC)[k]'(by simpa using hlt) = showC ks[k] := by simp
      have HT := hid (joinC_take 9 (ks.map showC) k (by simpa using hlt))
      rw [hgt] at HT
      have hle := joinC_le 9 (ks.map showC) 0 (k + 1)
      have hle2 : P.length + (joinC 9 0 ((ks.map showC).take (k + 1))).length ≤ 900000000 := by have := HLL.out; omega
      have HLE := hid hle2
      have hy9 : (showC ks[k]).length ≤ 900000000 := by
        have h3 := hle2
        rw [HT.out] at h3
        simp only [List.length_append] at h3
        omega
      have HC := hid (HI.out ks[k] (by have := Cm.szs_get ks k hlt; omega) B wr e0 e1 e2 e3 e4 hf' (fun b hb => by have := HR.out b hb; omega) hy9)
      obtain ⟨ys, hys⟩ : ∃ ys, ys = showC ks[k] := ⟨_, rfl⟩
      rw [← hys] at HC HT hy9
      have hy : (ys.length : Int) ≤ 900000000 := by omega
      clear ha hrow hf' hle hle2 hgt hys
      by_cases hk0 : 0 < k
      · have hk0' : (0 : Int) < (k : Int) := by omega
        have HCd := hid (if_pos (c := 0 < k ∨ (9 : Int) ≠ 4) (Or.inl hk0) : (if 0 < k ∨ (9 : Int) ≠ 4 then [(32 : UInt8)] else []) = [32])
        rw [HCd.out] at HT
        go_wp2_with (go_at_call 6; refine HC.out.mono ?_; rintro e w' ⟨rfl, hw⟩)
        exact ⟨⟨k + 1, by omega, by go_num, _, capp2 xs [32] ys, sc_len (sc_eq HO.out HT.out (by simp)) HLE.out, sc_eq HO.out HT.out (by simp), HB.out.trans (hw.mono hsz)⟩, by simp [intOf]; omega⟩
      · have hk0' : ¬ (0 : Int) < (k : Int) := by omega
        have HCd := hid (if_pos (c := 0 < k ∨ (9 : Int) ≠ 4) (Or.inr (by decide)) : (if 0 < k ∨ (9 : Int) ≠ 4 then [(32 : UInt8)] else []) = [32])
        rw [HCd.out] at HT
        go_wp2_with (go_at_call 6; refine HC.out.mono ?_; rintro e w' ⟨rfl, hw⟩)
        exact ⟨⟨k + 1, by omega, by go_num, _, capp2 xs [32] ys, sc_len (sc_eq HO.out HT.out (by simp)) HLE.out, sc_eq HO.out HT.out (by simp), HB.out.trans (hw.mono hsz)⟩, by simp [intOf]; omega⟩
    · have h := HO.out
      rw [List.take_of_length_le (by simp; omega)] at h
      have HO' := hid h
      clear h
      go_wp2_with fail
      go_ret
      refine ⟨?_, ((Below.refl _ _).alloc (Nat.le_refl _) _).trans (HB.out.mono (by omega))⟩
      rw [← HO'.out]
      exact congrArg Ending.returned (capp1 xs [41])

set_option maxRecDepth 20000 in
set_option maxHeartbeats 4000000 in
theorem specCore_o (n : Nat) (ih : SpecCore n) (s : Int) (t : ByteArray) (r : Bool) (ns : List ByteArray) (ks : List Cm) (hk : Cm.szs ks ≤ n) (B : Nat → Prop) (w : World) (c3 c4 : Value) (ht : t.size ≤ maxLen) (h3 : StrsAt B w c3 ns) (h4 : CoresAt B w c4 ks) (hB : ∀ b, B b → b < w.heap.size) (n1 : s ≠ 1) (n2 : s ≠ 2) (n3 : s ≠ 3) (n4 : s ≠ 4) (n6 : s ≠ 6) (n8 : s ≠ 8) (n9 : s ≠ 9) (hl : (preB s t r ns ++ joinC s 0 (ks.map showC) ++ [41]).length ≤ 900000000) :
    Calls Try.prog 6 #[.agg #[.int .i64 s, .string t, .bool r, c3, c4]] w fun e w' => e = .returned (.string ⟨(preB s t r ns ++ joinC s 0 (ks.map showC) ++ [41]).toArray⟩) ∧ Below w.heap.size w w' := by
  have b1 : (s == 1) = false := by simpa using n1
  have b2 : (s == 2) = false := by simpa using n2
  have b3 : (s == 3) = false := by simpa using n3
  have b4 : (s != 4) = true := by simpa using n4
  have b6 : (s == 6) = false := by simpa using n6
  have b8 : (s == 8) = false := by simpa using n8
  have b9 : (s == 9) = false := by simpa using n9
  have HN4 := hid n4
  have HN3 := hid n3
  have HN8 := hid n8
  have HN69 : Hid (¬ (s = 6 ∨ s = 9)) := fun h => by rcases h with h | h; exact n6 h; exact n9 h
  clear n1 n2 n3 n4 n6 n8 n9
  have HPre : Hid (preB s t r ns = [40] ++ headB s) := by
    show preB s t r ns = _
    unfold preB; rw [if_neg HN3.out, if_neg HN8.out, if_neg HN69.out]
  obtain ⟨P, hP⟩ : ∃ P, P = preB s t r ns := ⟨_, rfl⟩
  rw [← hP] at hl HPre ⊢
  have HLL : Hid (P.length + (joinC s 0 (ks.map showC)).length + 1 ≤ 900000000) := by
    show _ ≤ _
    simpa only [List.length_append, List.length_cons, List.length_nil] using hl
  have hP9 : P.length ≤ 900000000 := by have := HLL.out; omega
  have HI := hid ih
  have HR := hid hB
  have H3 := hid h3
  obtain ⟨a3, k3, rfl, -⟩ := h3
  obtain ⟨a4, k4, rfl, hl4, ha⟩ := h4
  unfold maxLen at hl4
  have HT0 := hid ht
  unfold maxLen at ht
  clear ih hB hl hP
  have hh6 : ((headB s).length : Int) ≤ 6 := by have := headB_len s; omega
  go_enter Try.func6, Try.ntmps6
  go_wp2_with (go_at_call 16; refine (l5Head_any s _).mono ?_; rintro e w' ⟨rfl, hw⟩; rw [hw]; clear hw w')
  go_loopw [3, 4] (fun o i wr => ∃ k : Nat, k ≤ ks.length ∧ i = .int .i64 k ∧ ∃ xs : List UInt8, o = .string ⟨xs.toArray⟩ ∧ (xs.length : Int) ≤ 900000000 ∧ Hid (xs = P ++ joinC s 0 ((ks.map showC).take k)) ∧ Hid (Below (w.heap.size + 1) (w.alloc (.cells #[.int .i64 s, .string t, .bool r, .slice a3 ns.length k3, .slice a4 ks.length k4] 30)) wr)) (fun _ i _ => ks.length - (intOf i).toNat)
  case atStart => exact ⟨0, Nat.zero_le _, rfl, P, by rw [HPre.out]; exact capp1 _ _, by omega, by show _ = _; simp [joinC], Below.refl _ _⟩
  case round =>
    obtain ⟨k, hk', rfl, xs, rfl, hxs, HO, HB⟩ := hrel
    have hcell : ∀ o, wr.cell? ⟨w.heap.size, o, none⟩ = (w.alloc (.cells #[.int .i64 s, .string t, .bool r, .slice a3 ns.length k3, .slice a4 ks.length k4] 30)).cell? ⟨w.heap.size, o, none⟩ := fun o => HB.out.cell (p := ⟨w.heap.size, o, none⟩) (by simp)
    have hsz := HB.out.size
    simp only [World.size_alloc] at hsz
    by_cases hlt : k < ks.length
    · rcases ha with ha | ⟨ba, oa, rfl, hb, ha⟩
      · rw [ha] at hlt; simp at hlt
      have hrow := CRowAt.keep (((SameOn.refl _ _).alloc HR.out _).below HB.out (fun b hb => by have := HR.out b hb; omega)) hb ks ha
      obtain ⟨e0, e1, e2, e3, e4, g0, g1, g2, g3, g4, hf'⟩ := CRowAt.get ks hrow k hlt
      have hgt : (ks.map showC)[k]'(by simpa using hlt) = showC ks[k] := by simp
      have HT := hid (joinC_take s (ks.map showC) k (by simpa using hlt))
      rw [hgt] at HT
      have hle := joinC_le s (ks.map showC) 0 (k + 1)
      have hle2 : P.length + (joinC s 0 ((ks.map showC).take (k + 1))).length ≤ 900000000 := by have := HLL.out; omega
      have HLE := hid hle2
      have hy9 : (showC ks[k]).length ≤ 900000000 := by
        have h3 := hle2
        rw [HT.out] at h3
        simp only [List.length_append] at h3
        omega
      have HC := hid (HI.out ks[k] (by have := Cm.szs_get ks k hlt; omega) B wr e0 e1 e2 e3 e4 hf' (fun b hb => by have := HR.out b hb; omega) hy9)
      obtain ⟨ys, hys⟩ : ∃ ys, ys = showC ks[k] := ⟨_, rfl⟩
      rw [← hys] at HC HT hy9
      have hy : (ys.length : Int) ≤ 900000000 := by omega
      clear ha hrow hf' hle hle2 hgt hys
      by_cases hk0 : 0 < k
      · have hk0' : (0 : Int) < (k : Int) := by omega
        have HCd := hid (if_pos (c := 0 < k ∨ (s : Int) ≠ 4) (Or.inl hk0) : (if 0 < k ∨ (s : Int) ≠ 4 then [(32 : UInt8)] else []) = [32])
        rw [HCd.out] at HT
        go_wp2_with (go_at_call 6; refine HC.out.mono ?_; rintro e w' ⟨rfl, hw⟩)
        exact ⟨⟨k + 1, by omega, by go_num, _, capp2 xs [32] ys, sc_len (sc_eq HO.out HT.out (by simp)) HLE.out, sc_eq HO.out HT.out (by simp), HB.out.trans (hw.mono hsz)⟩, by simp [intOf]; omega⟩
      · have hk0' : ¬ (0 : Int) < (k : Int) := by omega
        have HCd := hid (if_pos (c := 0 < k ∨ (s : Int) ≠ 4) (Or.inr HN4.out) : (if 0 < k ∨ (s : Int) ≠ 4 then [(32 : UInt8)] else []) = [32])
        rw [HCd.out] at HT
        go_wp2_with (go_at_call 6; refine HC.out.mono ?_; rintro e w' ⟨rfl, hw⟩)
        exact ⟨⟨k + 1, by omega, by go_num, _, capp2 xs [32] ys, sc_len (sc_eq HO.out HT.out (by simp)) HLE.out, sc_eq HO.out HT.out (by simp), HB.out.trans (hw.mono hsz)⟩, by simp [intOf]; omega⟩
    · have h := HO.out
      rw [List.take_of_length_le (by simp; omega)] at h
      have HO' := hid h
      clear h
      go_wp2_with fail
      go_ret
      refine ⟨?_, ((Below.refl _ _).alloc (Nat.le_refl _) _).trans (HB.out.mono (by omega))⟩
      rw [← HO'.out]
      exact congrArg Ending.returned (capp1 xs [41])

set_option maxHeartbeats 1000000 in
theorem specCore_leaf (s : Int) (hs : s = 1 ∨ s = 2) (t : ByteArray) (r : Bool) (w : World) (c3 c4 : Value) :
    Calls Try.prog 6 #[.agg #[.int .i64 s, .string t, .bool r, c3, c4]] w fun e w' => e = .returned (.string ⟨t.data.toList.toArray⟩) ∧ Below w.heap.size w w' := by
  rcases hs with rfl | rfl
  all_goals
    go_enter Try.func6, Try.ntmps6
    go_wp2_with fail
    go_ret
    exact ⟨by rw [ceta]; rfl, (Below.refl _ _).alloc (Nat.le_refl _) _⟩

theorem specCore_of (n : Nat) (ih : SpecCore n) : SpecCore (n + 1) := by
  intro c hc B w c0 c1 c2 c3 c4 hA hB hl
  by_cases hs : c.sort = 1 ∨ c.sort = 2
  · rw [showC_leaf c hs]
    obtain ⟨rfl, rfl, ht, rfl, h3, h4⟩ := (coreAt_iff _ _ _ _ _ _ _ _).1 hA
    exact specCore_leaf c.sort hs c.text c.rest w c3 c4
  have n1 : c.sort ≠ 1 := fun e => hs (Or.inl e)
  have n2 : c.sort ≠ 2 := fun e => hs (Or.inr e)
  rw [showC_list c n1 n2] at hl ⊢
  have hk : Cm.szs c.kids ≤ n := by have := Cm.sz_kids c; omega
  obtain ⟨rfl, rfl, ht, rfl, h3, h4⟩ := (coreAt_iff _ _ _ _ _ _ _ _).1 hA
  clear hs hA
  obtain ⟨s, t, r, ns, ks⟩ := c
  simp only at *
  by_cases e3 : s = 3
  · subst e3; exact specCore_3 n ih t r ns ks hk B w c3 c4 ht h3 h4 hB hl
  by_cases e4 : s = 4
  · subst e4; exact specCore_4 n ih t r ns ks hk B w c3 c4 ht h3 h4 hB hl
  by_cases e6 : s = 6
  · subst e6; exact specCore_6 n ih t r ns ks hk B w c3 c4 ht h3 h4 hB hl
  by_cases e8 : s = 8
  · subst e8; exact specCore_8 n ih t r ns ks hk B w c3 c4 ht h3 h4 hB hl
  by_cases e9 : s = 9
  · subst e9; exact specCore_9 n ih t r ns ks hk B w c3 c4 ht h3 h4 hB hl
  exact specCore_o n ih s t r ns ks hk B w c3 c4 ht h3 h4 hB n1 n2 e3 e4 e6 e8 e9 hl

theorem specCore_all : ∀ n, SpecCore n
  | 0 => fun c hc => by have := Cm.sz_kids c; omega
  | n + 1 => specCore_of n (specCore_all n)

/-- What the model shows. -/
theorem specCoreShow_any (c : Cm) (B : Nat → Prop) (w : World) (c0 c1 c2 c3 c4 : Value) (hA : CoreAt B w c c0 c1 c2 c3 c4) (hB : ∀ b, B b → b < w.heap.size) (hl : (showC c).length ≤ 900000000) :
    Calls Try.prog 6 #[.agg #[c0, c1, c2, c3, c4]] w fun e w' => e = .returned (.string ⟨(showC c).toArray⟩) ∧ Below w.heap.size w w' :=
  specCore_all c.sz c (Nat.le_refl _) B w c0 c1 c2 c3 c4 hA hB hl

end Go.Proofs.Ytmmkoohgniambaa

namespace Go.Proofs.Ytmmkoohgniambaa
open Go.RowKit Go.Siskin

theorem Try.infoStr : (Try.prog.info? 9).map (fun i => (i.zero, i.size, i.bytes)) = some (some (.string ⟨#[]⟩), 1, 16) := by kernel_rfl
theorem Try.infoCore : (Try.prog.info? 30).map (fun i => (i.zero, i.size, i.bytes)) = some (some (.agg #[.int .i64 0, .string ⟨#[]⟩, .bool false, .slice none 0 0, .slice none 0 0]), 5, 80) := by kernel_rfl

theorem cown_row {w : World} {g n size : Nat} {e : TypeId} {cs : Array Value} (h : Own w g e cs) (hs : cs.size = n * size) (hm : n ≤ maxLen) : w.ownsRow 0 e size (.slice (some ⟨g, 0, none⟩) n n) n cs.toList :=
  ⟨by simp [hs], Or.inr ⟨g, n, cs, rfl, Nat.zero_le _, h, Nat.le_refl _, hm, hs, by rw [List.take_of_length_le (by simp [hs])]⟩⟩

theorem sset_step {cs : Array Value} {xs : List ByteArray} {k : Nat} (hcs : cs.size = xs.length) (hlt : k < xs.length) (hg : ∀ j (hj : j < xs.length), j < k → cs[j]? = some (.string xs[j])) :
    ∀ j (hj : j < xs.length), j < k + 1 → (cs.setIfInBounds k (.string xs[k]))[j]? = some (.string xs[j]) := by
  intro j hj hjk
  by_cases e : k = j
  · subst e; rw [Array.getElem?_setIfInBounds, if_pos rfl, if_pos (by omega)]
  · rw [Array.getElem?_setIfInBounds, if_neg e]; exact hg j hj (by omega)

set_option maxHeartbeats 1000000 in
theorem toStringS_own (B : Nat → Prop) (va : Value) (xs : List ByteArray) (w : World) (ha : StrsAt B w va xs) (hB : ∀ b, B b → b < w.heap.size) (hn : strc xs ≤ 1048576) :
    Calls Try.prog 18 #[va] w fun e w' => e = .returned (.slice (some ⟨w.heap.size, 0, none⟩) xs.length xs.length) ∧ w'.ownsRow 0 9 1 (.slice (some ⟨w.heap.size, 0, none⟩) xs.length xs.length) xs.length (xs.map Value.string) ∧ Below w.heap.size w w' := by
  obtain ⟨a, ca, rfl, hla, hmx, ha⟩ := ha
  have hn1 : xs.length ≤ 1048576 := by unfold strc at hn; omega
  clear hmx hn hla
  obtain ⟨i, hi, hz0, hz1, hz2⟩ := info_parts Try.infoStr
  have Hi := hid hi
  have Hz0 := hid hz0
  have Hz1 := hid hz1
  have Hz2 := hid hz2
  clear hi hz0 hz1 hz2
  go_enter Try.func18, Try.ntmps18
  go_wp2_with (at_make; refine wpList_make_new _ rfl _ _ 22 rfl 9 i (.string ⟨#[]⟩) 1 Try.underlying22 Hi.out Hz0.out Hz1.out .i64 .i64 xs.length rfl rfl (by rw [Hz2.out]; omega) (by unfold maxLen; omega) ?_)
  go_loopw [4] (fun i wr => ∃ k : Nat, k ≤ xs.length ∧ i = .int .i64 k ∧ Hid (∃ cs : Array Value, Own wr w.heap.size 9 cs ∧ cs.size = xs.length ∧ (∀ j (hj : j < xs.length), j < k → cs[j]? = some (.string xs[j])) ∧ Below w.heap.size w wr)) (fun i _ => xs.length - (intOf i).toNat)
  case atStart => exact ⟨0, Nat.zero_le _, rfl, _, own_new _ _ _, size_madeCells _ _, fun j _ hj => absurd hj (by omega), (Below.refl _ _).alloc (Nat.le_refl _) _⟩
  case round =>
    obtain ⟨k, hk, rfl, HA⟩ := hrel
    obtain ⟨cs, ho, hcs, hgot, hbel⟩ := HA.out
    have HO := hid ho
    have HG := hid hgot
    have HB := hid hbel
    by_cases hlt : k < xs.length
    · rcases ha with ha | ⟨ba, oa, rfl, hb, ha⟩
      · subst ha; simp at hlt
      have ga := (hbel.cell (p := ⟨ba, oa + k, none⟩) (hB ba hb)).trans (ha k hlt)
      have gc := ho.cell k
      rw [Array.getElem?_eq_getElem (by omega)] at gc
      have gf := ho.frozen k
      clear ha HA ho hgot hbel
      go_wp2_with fail
      exact ⟨⟨k + 1, by omega, by go_num, _, HO.out.set k _, by simp [hcs], sset_step hcs hlt HG.out, HB.out.setCell (Nat.le_refl _) _⟩, by simp [intOf]; omega⟩
    · clear HA ho hgot hbel
      go_wp2_with fail
      go_ret
      refine ⟨rfl, ?_, HB.out⟩
      have hl : cs.toList = xs.map Value.string := by
        apply List.ext_getElem?
        intro j
        by_cases hj : j < xs.length
        · rw [Array.getElem?_toList, HG.out j hj (by omega), List.getElem?_map, List.getElem?_eq_getElem hj]; rfl
        · rw [List.getElem?_eq_none (by simp; omega), List.getElem?_eq_none (by simp; omega)]
      have h := cown_row (n := xs.length) (size := 1) HO.out (by omega) (by unfold maxLen; omega)
      rw [hl] at h
      exact h

def CToCore (n : Nat) : Prop := ∀ f : Cm, f.sz ≤ n → ∀ (B : Nat → Prop) (w : World) (c0 c1 c2 c3 c4 : Value), CoreAt B w f c0 c1 c2 c3 c4 → (∀ b, B b → b < w.heap.size) → f.cost ≤ 1048576 →
    Calls Try.prog 7 #[.agg #[c0, c1, c2, c3, c4]] w fun e w' => ∃ d2 d4, e = .returned (.agg #[.int .i64 f.sort, .string f.text, .bool f.rest, d2, d4]) ∧ CTree w' f (Fresh w w') d2 d4 ∧ Below w.heap.size w w'
def CToCores (n : Nat) : Prop := ∀ ks : List Cm, Cm.szs ks ≤ n → ∀ (B : Nat → Prop) (w : World) (v : Value), CoresAt B w v ks → (∀ b, B b → b < w.heap.size) → ks.length + Cm.costs ks ≤ 1048576 →
    Calls Try.prog 12 #[v] w fun e w' => ∃ u, e = .returned u ∧ CRow w' (Fresh w w') u ks ∧ Below w.heap.size w w'

set_option maxHeartbeats 1000000 in
theorem ctoCore_of (n : Nat) (ih : CToCores n) : CToCore (n + 1) := by
  intro f hf B w c0 c1 c2 c3 c4 hA hB h0
  obtain ⟨rfl, rfl, ht, rfl, h2, h4⟩ := (coreAt_iff _ _ _ _ _ _ _ _).1 hA
  have HC := hid (Cm.cost_eq f)
  have HS := hid (Cm.sz_kids f)
  have hl : strc f.names ≤ 1048576 := by have := HC.out; omega
  have H2 := hid h2
  have H4 := hid h4
  have HI := hid ih
  have HR := hid hB
  clear h2 h4 hA ih hB
  go_enter Try.func7, Try.ntmps7
  go_wp2_with fail
  refine (toStringS_own B _ f.names _ (H2.out.keep (((((SameOn.refl _ _).alloc HR.out _).alloc (fun b hb => by have := HR.out b hb; simp; omega) _).alloc (fun b hb => by have := HR.out b hb; simp; omega) _))) (fun b hb => by have := HR.out b hb; simp; omega) hl).mono ?_
  rintro e w1 ⟨rfl, hi1, hb1⟩
  simp only [World.size_alloc] at hi1
  simp only [World.size_alloc]
  obtain ⟨hc1, hf1⟩ := bcell hb1
  have hz0 : w.heap.size + 3 < w1.heap.size := (hi1.lt (w.heap.size + 1 + 1 + 1) rfl).2
  have hz1 : w.heap.size + 2 < w1.heap.size := by omega
  have hz1a : w.heap.size + 1 < w1.heap.size := by omega
  have hz1b : w.heap.size < w1.heap.size := by omega
  have HI1 := hid hi1
  have HB1 := hid hb1
  clear hi1 hb1
  go_wp2_with fail
  refine (HI.out f.kids (by have := HS.out; omega) B _ c4 (H4.out.keep ?_) ?_ (by have := HC.out; omega)).mono ?_
  · exact ((((((SameOn.refl _ _).alloc HR.out _).alloc (fun b hb => by have := HR.out b hb; simp; omega) _).alloc (fun b hb => by have := HR.out b hb; simp; omega) _).below HB1.out (fun b hb => by have := HR.out b hb; simp; omega)).setCell (fun hb => by have := HR.out _ hb; simp at this; omega) _)
  · exact fun b hb => by have := HR.out b hb; simp; omega
  rintro e w2 ⟨u, rfl, hi2, hb2⟩
  obtain ⟨a4, k4, rfl⟩ : ∃ a c, u = .slice a f.kids.length c := by
    obtain ⟨cs', F', h⟩ := hi2
    exact crow_shape h.row
  obtain ⟨hc2, hf2⟩ := bcell hb2
  have hz2 : w1.heap.size ≤ w2.heap.size := by have := hb2.size; simp at this; omega
  have HI2 := hid hi2
  have HB2 := hid hb2
  clear hi2 hb2
  go_wp2_with fail
  refine bodyPost_ret (v := .agg #[.int .i64 f.sort, .string f.text, .bool f.rest, .slice (some ⟨w.heap.size + 1 + 1 + 1, 0, none⟩) f.names.length f.names.length, .slice a4 f.kids.length k4]) (by simp [results, Try.results7, go_sem, hc1, hc2, hz1a]) rfl ⟨_, _, rfl, ?_, ?_⟩
  · rw [ctree_iff]
    refine ⟨crow_same HI1.out ?_, ?_, ((HI2.out.keep ?_).mono ?_)⟩
    · intro g hg
      have hg' : g = w.heap.size + 1 + 1 + 1 := by simpa [Value.ownBlock] using hg.symm
      subst hg'
      refine ((((((((SameOn.refl (fun b => b = w.heap.size + 1 + 1 + 1) w1).setCell ?_ _).below HB2.out ?_).setCell ?_ _).setCell ?_ _).setCell ?_ _).setCell ?_ _).setCell ?_ _ |>.setCell ?_ _) _ rfl
      all_goals first
        | (intro h; simp at h <;> omega)
        | (intro b h; have h' : b = w.heap.size + 1 + 1 + 1 := h; simp; omega)
    · intro g hg
      have hg' : g = w.heap.size + 1 + 1 + 1 := by simpa [Value.ownBlock] using hg.symm
      subst hg'
      exact ⟨by omega, by simp; omega⟩
    · refine ((((((SameOn.refl _ _).setCell ?_ _).setCell ?_ _).setCell ?_ _).setCell ?_ _).setCell ?_ _).setCell ?_ _
      all_goals (intro h; have := h.1; simp at this; omega)
    · intro b h; have h1 := h.1; have h2 := h.2; simp at h1; exact ⟨⟨by omega, by simp; omega⟩, by simp [Value.ownBlock]; omega⟩
  · refine ((((((((((((Below.refl _ _).alloc (Nat.le_refl _) _).alloc (by simp) _).alloc (by simp; omega) _).trans (HB1.out.mono (by simp; omega))).setCell ?_ _).trans (HB2.out.mono (by simp; omega))).setCell ?_ _).setCell ?_ _).setCell ?_ _).setCell ?_ _).setCell ?_ _).setCell ?_ _
    all_goals (simp; try omega)

/-- The first k forms stand in a block of the call's own; what they lead to lies behind it, each in blocks of its own. -/
def CGot (g : Nat) (wr : World) (cs : Array Value) (ks : List Cm) (k : Nat) : Prop :=
  ∃ F : Nat → Nat → Prop, (∀ i b, F i b → i < k ∧ g < b ∧ b < wr.heap.size) ∧ (∀ i j b, i ≠ j → F i b → ¬ F j b) ∧
    ∀ j (hj : j < ks.length), j < k → ∃ d2 d4, cs[j * 5]? = some (.int .i64 ks[j].sort) ∧ cs[j * 5 + 1]? = some (.string ks[j].text) ∧ cs[j * 5 + 2]? = some (.bool ks[j].rest) ∧ cs[j * 5 + 3]? = some d2 ∧ cs[j * 5 + 4]? = some d4 ∧ CTree wr ks[j] (F j) d2 d4

theorem cgot_step {g k : Nat} {wr w1 : World} {cs : Array Value} {ks : List Cm} {d2 d4 : Value} (hcs : cs.size = ks.length * 5) (hlt : k < ks.length) (hg : g < wr.heap.size) (hb : Below wr.heap.size wr w1)
    (hf : CTree w1 ks[k] (Fresh wr w1) d2 d4) (got : CGot g wr cs ks k) : CGot g (put5 w1 g (k * 5) (.int .i64 ks[k].sort) (.string ks[k].text) (.bool ks[k].rest) d2 d4) (arr5 cs (k * 5) (.int .i64 ks[k].sort) (.string ks[k].text) (.bool ks[k].rest) d2 d4) ks (k + 1) := by
  obtain ⟨F, hF, hap, hk⟩ := got
  have hs := hb.size
  refine ⟨fun i b => F i b ∨ (i = k ∧ Fresh wr w1 b), ?_, ?_, ?_⟩
  · intro i b h
    rw [put5_size]
    rcases h with h | ⟨rfl, h⟩
    · have := hF i b h; omega
    · have := h.1; have := h.2; omega
  · intro i j b hij h1 h2
    rcases h1 with h1 | ⟨rfl, h1⟩
    · rcases h2 with h2 | ⟨rfl, h2⟩
      · exact hap i j b hij h1 h2
      · have := hF i b h1; have := h2.1; omega
    · rcases h2 with h2 | ⟨rfl, h2⟩
      · have := hF j b h2; have := h1.1; omega
      · exact hij rfl
  · intro j hj hjk
    by_cases e : j = k
    · subst e
      obtain ⟨e0, e1, e2, e3, e4⟩ := arr5_in (cs := cs) (o := j * 5) (.int .i64 ks[j].sort) (.string ks[j].text) (.bool ks[j].rest) d2 d4 (by omega)
      refine ⟨d2, d4, e0, e1, e2, e3, e4, (hf.keep (put5_same (SameOn.refl _ _) ?_ _ _ _ _ _ _)).mono ?_⟩
      · intro h; have h1 := h.1; omega
      · intro b h; exact Or.inr ⟨rfl, h⟩
    · obtain ⟨x2, x4, e0, e1, e2, e3, e4, hx⟩ := hk j hj (by omega)
      refine ⟨x2, x4, ?_, ?_, ?_, ?_, ?_, (hx.keep (put5_same ((SameOn.refl _ _).below hb ?_) ?_ _ _ _ _ _ _)).mono ?_⟩
      · rw [arr5_out _ _ _ _ _ (by omega)]; exact e0
      · rw [arr5_out _ _ _ _ _ (by omega)]; exact e1
      · rw [arr5_out _ _ _ _ _ (by omega)]; exact e2
      · rw [arr5_out _ _ _ _ _ (by omega)]; exact e3
      · rw [arr5_out _ _ _ _ _ (by omega)]; exact e4
      · intro b h; exact (hF j b h).2.2
      · intro h; have := hF j g h; omega
      · intro b h; exact Or.inl h

set_option maxHeartbeats 1000000 in
theorem ctoCores_of (n : Nat) (ih : CToCore n) : CToCores n := by
  intro ks hks B w v hv hB hn
  obtain ⟨a, ca, rfl, hla, ha⟩ := hv
  unfold maxLen at hla
  obtain ⟨i, hi, hz0, hz1, hz2⟩ := info_parts Try.infoCore
  have Hi := hid hi
  have Hz0 := hid hz0
  have Hz1 := hid hz1
  have Hz2 := hid hz2
  have HI := hid ih
  have HR := hid hB
  clear hi hz0 hz1 hz2 ih hB
  have hn1 : ks.length ≤ 1048576 := by omega
  go_enter Try.func12, Try.ntmps12
  go_wp2_with (at_make; refine wpList_make_new _ rfl _ _ 28 rfl 30 i (.agg #[.int .i64 0, .string ⟨#[]⟩, .bool false, .slice none 0 0, .slice none 0 0]) 5 Try.underlying28 Hi.out Hz0.out Hz1.out .i64 .i64 ks.length rfl rfl (by rw [Hz2.out]; omega) (by unfold maxLen; omega) ?_)
  go_loopw [4] (fun i wr => ∃ k : Nat, k ≤ ks.length ∧ i = .int .i64 k ∧ Hid (∃ cs : Array Value, Own wr w.heap.size 30 cs ∧ cs.size = ks.length * 5 ∧ CGot w.heap.size wr cs ks k ∧ Below w.heap.size w wr)) (fun i _ => ks.length - (intOf i).toNat)
  case atStart => exact ⟨0, Nat.zero_le _, rfl, _, own_new _ _ _, size_madeCells _ _, ⟨fun _ _ => False, fun _ _ h => h.elim, fun _ _ _ _ h => h.elim, fun j _ hj => absurd hj (by omega)⟩, (Below.refl _ _).alloc (Nat.le_refl _) _⟩
  case round =>
    obtain ⟨k, hk, rfl, HA⟩ := hrel
    obtain ⟨cs, ho, hcs, hgot, hbel⟩ := HA.out
    have HO := hid ho
    have HG := hid hgot
    have HB := hid hbel
    clear ho hgot hbel HA
    by_cases hlt : k < ks.length
    · rcases ha with ha | ⟨ba, oa, rfl, hb, ha⟩
      · subst ha; simp at hlt
      have hrow := CRowAt.keep (HB.out.on HR.out) hb ks ha
      obtain ⟨c0, c1, c2, c3, c4, g0, g1, g2, g3, g4, hf⟩ := CRowAt.get ks hrow k hlt
      have HC := hid (HI.out ks[k] (Nat.le_trans (Cm.szs_get ks k hlt) hks) B wr c0 c1 c2 c3 c4 hf (fun b hb => by have := HR.out b hb; have := HB.out.size; omega) (by have := Cm.costs_get ks k hlt; omega))
      clear ha hf hrow HI
      go_wp2_with fail
      refine HC.out.mono ?_
      rintro e w1 ⟨d2, d4, rfl, hf, hw⟩
      have HF := hid hf
      obtain ⟨⟨a2, k2, rfl⟩, a4, k4, rfl⟩ : (∃ a c, d2 = .slice a ks[k].names.length c) ∧ ∃ a c, d4 = .slice a ks[k].kids.length c := by
        rw [ctree_iff] at hf
        obtain ⟨h1, -, cs', F', h2⟩ := hf
        exact ⟨crow_shape h1, crow_shape h2.row⟩
      have ho1 := HO.out.keep hw HO.out.lt
      have q0 := ho1.cell (k * 5)
      have q1 := ho1.cell (k * 5 + 1)
      have q2 := ho1.cell (k * 5 + 2)
      have q3 := ho1.cell (k * 5 + 3)
      have q4 := ho1.cell (k * 5 + 4)
      rw [Array.getElem?_eq_getElem (by omega)] at q0 q1 q2 q3 q4
      have f0 := ho1.frozen (k * 5)
      have f1 := ho1.frozen (k * 5 + 1)
      have f2 := ho1.frozen (k * 5 + 2)
      have f3 := ho1.frozen (k * 5 + 3)
      have f4 := ho1.frozen (k * 5 + 4)
      have HW := hid hw
      have HO1 := hid ho1
      clear ho1 hf hw
      go_wp2_with fail
      have hsz := HB.out.size
      exact ⟨⟨k + 1, by omega, by go_num, _, put5_own HO1.out (k * 5) _ _ _ _ _, by rw [arr5_size, hcs], cgot_step hcs hlt HO.out.lt HW.out HF.out HG.out, put5_below (HB.out.trans (HW.out.mono hsz)) (Nat.le_refl _) _ _ _ _ _ _⟩, by simp [intOf]; omega⟩
    · go_wp2_with fail
      go_ret
      refine ⟨_, rfl, ?_, HB.out⟩
      obtain ⟨F, hF, hap, hkk⟩ := HG.out
      have hkl : k = ks.length := by omega
      refine ⟨cs.toList, F, cown_row HO.out hcs (by unfold maxLen; omega), ?_, ?_, hap, ?_⟩
      · intro g hg
        have hg' : g = w.heap.size := by simpa [Value.ownBlock] using hg.symm
        subst hg'
        exact ⟨Nat.le_refl _, HO.out.lt⟩
      · intro i b h
        have := hF i b h
        exact ⟨⟨by omega, by omega⟩, by simp [Value.ownBlock]; omega⟩
      · intro j hj
        obtain ⟨x2, x4, e0, e1, e2, e3, e4, hx⟩ := hkk j hj (by omega)
        simp only [Array.getElem?_toList]
        exact ⟨x2, x4, e0, e1, e2, e3, e4, hx⟩

theorem ctoCore_all : ∀ n, CToCore n ∧ CToCores n
  | 0 => by
    have h : CToCore 0 := fun f hf => by have := Cm.sz_kids f; omega
    exact ⟨h, ctoCores_of 0 h⟩
  | n + 1 => by
    have h := ctoCore_of n (ctoCore_all n).2
    exact ⟨h, ctoCores_of (n + 1) h⟩

/-- The law's copy of a form: the same form, in memory of its own. -/
theorem toExpCore_own (f : Cm) (B : Nat → Prop) (w : World) (c0 c1 c2 c3 c4 : Value) (h : CoreAt B w f c0 c1 c2 c3 c4) (hB : ∀ b, B b → b < w.heap.size) (h0 : f.cost ≤ 1048576) :
    Calls Try.prog 7 #[.agg #[c0, c1, c2, c3, c4]] w fun e w' => ∃ d2 d4, e = .returned (.agg #[.int .i64 f.sort, .string f.text, .bool f.rest, d2, d4]) ∧ CTree w' f (Fresh w w') d2 d4 ∧ Below w.heap.size w w' :=
  (ctoCore_all f.sz).1 f (Nat.le_refl _) B w c0 c1 c2 c3 c4 h hB h0

end Go.Proofs.Ytmmkoohgniambaa

namespace Go.Proofs.Ytmmkoohgniambaa
open Go.RowKit Go.Siskin

theorem _root_.Go.Siskin.SameOn.drewN {R : Nat → Prop} {a w : World} (h : SameOn R a w) (m : Nat) : SameOn R a (w.drewN m) := fun b hb => h b hb
theorem belowN {B : Nat} {a w : World} (h : Below B a w) (n : Nat) : Below B a (w.drewN n) := h.trans ⟨rfl, rfl, rfl, Nat.le_refl _, fun _ _ => rfl⟩

end Go.Proofs.Ytmmkoohgniambaa

namespace Go.Proofs.Ytmmkoohgniambaa
open Go.RowKit Go.Siskin

set_option maxHeartbeats 1000000 in
theorem eqStringS_any (B : Nat → Prop) (va vb : Value) (xs : List ByteArray) (w : World) (ha : StrsAt B w va xs) (hb : StrsAt B w vb xs) :
    Calls Try.prog 21 #[va, vb] w fun e w' => e = .returned (.bool true) ∧ ∃ n, w' = w.drewN n := by
  obtain ⟨a, ca, rfl, hla, -, ha⟩ := ha
  obtain ⟨b, cb, rfl, hlb, -, hb⟩ := hb
  unfold maxLen at hla hlb
  go_enter Try.func21, Try.ntmps21
  go_wp2_with fail
  go_loopw [5] (fun i wr => (∃ n, wr = w.drewN n) ∧ ∃ k : Nat, k ≤ xs.length ∧ i = .int .i64 k) (fun i _ => xs.length - (intOf i).toNat)
  case atStart => exact ⟨⟨0, rfl⟩, 0, Nat.zero_le _, rfl⟩
  case round =>
    obtain ⟨⟨n, rfl⟩, k, hk, rfl⟩ := hrel
    by_cases hlt : k < xs.length
    · rcases ha with ha | ⟨ba, oa, rfl, _, ha⟩
      · subst ha; simp at hlt
      rcases hb with hb | ⟨bb, ob, rfl, _, hb⟩
      · subst hb; simp at hlt
      have ga := ha k hlt
      have gb := hb k hlt
      clear ha hb
      go_wp2_with fail
      go_quiet (fail)
      go_wp2_with fail
      exact ⟨⟨⟨n + nq, rfl⟩, k + 1, by omega, by go_num⟩, by simp [intOf]; omega⟩
    · go_wp2_with fail
      go_ret
      exact ⟨rfl, n, rfl⟩

def EqCore (n : Nat) : Prop := ∀ f : Cm, f.sz ≤ n → ∀ (B B' : Nat → Prop) (w : World) (c0 c1 c2 c3 c4 d0 d1 d2 d3 d4 : Value), CoreAt B w f c0 c1 c2 c3 c4 → CoreAt B' w f d0 d1 d2 d3 d4 → (∀ b, B b → b < w.heap.size) → (∀ b, B' b → b < w.heap.size) →
    Calls Try.prog 9 #[.agg #[c0, c1, c2, c3, c4], .agg #[d0, d1, d2, d3, d4]] w fun e w' => e = .returned (.bool true) ∧ Below w.heap.size w w'
def EqCores (n : Nat) : Prop := ∀ ks : List Cm, Cm.szs ks ≤ n → ∀ (B B' : Nat → Prop) (w : World) (v u : Value), CoresAt B w v ks → CoresAt B' w u ks → (∀ b, B b → b < w.heap.size) → (∀ b, B' b → b < w.heap.size) →
    Calls Try.prog 14 #[v, u] w fun e w' => e = .returned (.bool true) ∧ Below w.heap.size w w'

set_option maxHeartbeats 1000000 in
theorem eqCores_of (n : Nat) (ih : EqCore n) : EqCores n := by
  intro ks hks B B' w v u hv hu hB hB'
  obtain ⟨a, ca, rfl, hla, ha⟩ := hv
  obtain ⟨a', ca', rfl, -, ha'⟩ := hu
  unfold maxLen at hla
  have HI := hid ih
  have HR := hid hB
  have HR' := hid hB'
  clear ih hB hB'
  go_enter Try.func14, Try.ntmps14
  go_wp2_with fail
  go_loopw [5] (fun i wr => ∃ k : Nat, k ≤ ks.length ∧ i = .int .i64 k ∧ Hid (Below w.heap.size w wr)) (fun i _ => ks.length - (intOf i).toNat)
  case atStart => exact ⟨0, Nat.zero_le _, rfl, Below.refl _ _⟩
  case round =>
    obtain ⟨k, hk, rfl, HB⟩ := hrel
    by_cases hlt : k < ks.length
    · rcases ha with ha | ⟨ba, oa, rfl, hb, ha⟩
      · subst ha; simp at hlt
      rcases ha' with ha' | ⟨ba', oa', rfl, hb', ha'⟩
      · subst ha'; simp at hlt
      obtain ⟨c0, c1, c2, c3, c4, g0, g1, g2, g3, g4, hf⟩ := CRowAt.get ks (CRowAt.keep (HB.out.on HR.out) hb ks ha) k hlt
      obtain ⟨d0, d1, d2, d3, d4, e0, e1, e2, e3, e4, hf'⟩ := CRowAt.get ks (CRowAt.keep (HB.out.on HR'.out) hb' ks ha') k hlt
      have hsz := HB.out.size
      have HC := hid (HI.out ks[k] (Nat.le_trans (Cm.szs_get ks k hlt) hks) B B' wr.drew c0 c1 c2 c3 c4 d0 d1 d2 d3 d4 (CoreAt.keep (SameOn.drew _ _) _ hf) (CoreAt.keep (SameOn.drew _ _) _ hf') (fun b hb => Nat.lt_of_lt_of_le (HR.out b hb) hsz) (fun b hb => Nat.lt_of_lt_of_le (HR'.out b hb) hsz))
      clear ha hf ha' hf' HI
      go_wp2_with fail
      go_region_with (go_at_call 9; refine HC.out.mono ?_; rintro e w' ⟨rfl, hw⟩)
      all_goals go_wp2_with fail
      all_goals exact ⟨⟨k + 1, by omega, by go_num, HB.out.drew.trans (hw.mono hsz)⟩, by simp [intOf]; omega⟩
    · go_wp2_with fail
      go_ret
      exact ⟨rfl, HB.out⟩

set_option maxHeartbeats 2000000 in
theorem eqCore_of (n : Nat) (ih : EqCores n) : EqCore (n + 1) := by
  intro f hf B B' w c0 c1 c2 c3 c4 d0 d1 d2 d3 d4 hA hA' hB hB'
  obtain ⟨rfl, rfl, ht, rfl, h2, h4⟩ := (coreAt_iff _ _ _ _ _ _ _ _).1 hA
  obtain ⟨rfl, rfl, -, rfl, h2', h4'⟩ := (coreAt_iff _ _ _ _ _ _ _ _).1 hA'
  have HS := hid (Cm.sz_kids f)
  have H2 := hid h2
  have H4 := hid h4
  have H2' := hid h2'
  have H4' := hid h4'
  have HI := hid ih
  have HR := hid hB
  have HR' := hid hB'
  obtain ⟨a2, k2, rfl, -⟩ := h2
  obtain ⟨a2', k2', rfl, -⟩ := h2'
  obtain ⟨a4, k4, rfl, -⟩ := h4
  obtain ⟨a4', k4', rfl, -⟩ := h4'
  clear hA hA' ih hB hB'
  go_enter Try.func9, Try.ntmps9
  go_wp2_with fail
  refine (eqStringS_any (fun b => B b ∨ B' b) _ _ f.names _ ((H2.out.keep (((SameOn.refl _ _).alloc HR.out _).alloc (fun b hb => by have := HR.out b hb; simp; omega) _)).mono (fun _ h => Or.inl h)) ((H2'.out.keep (((SameOn.refl _ _).alloc HR'.out _).alloc (fun b hb => by have := HR'.out b hb; simp; omega) _)).mono (fun _ h => Or.inr h))).mono ?_
  rintro e w1 ⟨rfl, m, rfl⟩
  go_wp2_with fail
  refine (HI.out f.kids (by have := HS.out; omega) B B' _ _ _ (H4.out.keep ?_) (H4'.out.keep ?_) ?_ ?_).mono ?_
  · exact (((SameOn.refl _ _).alloc HR.out _).alloc (fun b hb => by have := HR.out b hb; simp; omega) _).drewN m
  · exact (((SameOn.refl _ _).alloc HR'.out _).alloc (fun b hb => by have := HR'.out b hb; simp; omega) _).drewN m
  · exact fun b hb => by have := HR.out b hb; simp; omega
  · exact fun b hb => by have := HR'.out b hb; simp; omega
  rintro e w2 ⟨rfl, hw⟩
  go_wp2_with fail
  go_ret
  exact ⟨rfl, (belowN (((Below.refl _ _).alloc (Nat.le_refl _) _).alloc (by simp) _) m).trans (hw.mono (by simp; omega))⟩

theorem eqCore_all : ∀ n, EqCore n ∧ EqCores n
  | 0 => by
    have h : EqCore 0 := fun f hf => by have := Cm.sz_kids f; omega
    exact ⟨h, eqCores_of 0 h⟩
  | n + 1 => by
    have h := eqCore_of n (eqCore_all n).2
    exact ⟨h, eqCores_of (n + 1) h⟩

/-- Two places that hold one form are held equal by the law. -/
theorem eqExpCore_any (f : Cm) (B B' : Nat → Prop) (w : World) (c0 c1 c2 c3 c4 d0 d1 d2 d3 d4 : Value) (h : CoreAt B w f c0 c1 c2 c3 c4) (h' : CoreAt B' w f d0 d1 d2 d3 d4) (hB : ∀ b, B b → b < w.heap.size) (hB' : ∀ b, B' b → b < w.heap.size) :
    Calls Try.prog 9 #[.agg #[c0, c1, c2, c3, c4], .agg #[d0, d1, d2, d3, d4]] w fun e w' => e = .returned (.bool true) ∧ Below w.heap.size w w' :=
  (eqCore_all f.sz).1 f (Nat.le_refl _) B B' w c0 c1 c2 c3 c4 d0 d1 d2 d3 d4 h h' hB hB'

end Go.Proofs.Ytmmkoohgniambaa
