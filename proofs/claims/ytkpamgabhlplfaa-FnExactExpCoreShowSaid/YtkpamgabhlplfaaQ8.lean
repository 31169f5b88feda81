/-
  The model's ExpCoreShow shows a part. Condition: the part lies in memory, and what is shown is not too long.
-/
import Derived.Test.YtkpamgabhlplfaaPart7
namespace Go.Proofs.Ytkpamgabhlplfaa
open Go.RowKit Go.Siskin

def SpecCore (n : Nat) : Prop := ∀ c : Cm, c.sz ≤ n → ∀ (B : Nat → Prop) (w : World) (c0 c1 c2 c3 c4 : Value), CoreAt B w c c0 c1 c2 c3 c4 → (∀ b, B b → b < w.heap.size) → (showC c).length ≤ 900000000 →
    Calls Try.prog 18 #[.agg #[c0, c1, c2, c3, c4]] w fun e w' => e = .returned (.string ⟨(showC c).toArray⟩) ∧ Below w.heap.size w w'

theorem sc_len {P J zs : List UInt8} (h : zs = P ++ J) (hl : P.length + J.length ≤ 900000000) : (zs.length : Int) ≤ 900000000 := by
  rw [h]; simp only [List.length_append]; omega
theorem sc_eq {P xs a b c ys zs : List UInt8} (hx : xs = P ++ a) (ht : b = a ++ (c ++ ys)) (hz : zs = xs ++ c ++ ys) : zs = P ++ b := by
  rw [hz, hx, ht]; simp
theorem capp0 (xs : List UInt8) : Value.string (⟨xs.toArray⟩ : ByteArray) = .string ⟨xs.toArray⟩ := rfl

set_option maxRecDepth 20000 in
set_option maxHeartbeats 4000000 in
theorem specCore_3 (n : Nat) (ih : SpecCore n) (t : ByteArray) (r : Bool) (ns : List ByteArray) (ks : List Cm) (hk : Cm.szs ks ≤ n) (B : Nat → Prop) (w : World) (c3 c4 : Value) (ht : t.size ≤ maxLen) (h3 : StrsAt B w c3 ns) (h4 : CoresAt B w c4 ks) (hB : ∀ b, B b → b < w.heap.size) (hl : (preB 3 t r ns ++ joinC 3 0 (ks.map showC) ++ [41]).length ≤ 900000000) :
    Calls Try.prog 18 #[.agg #[.int .i64 3, .string t, .bool r, c3, c4]] w fun e w' => e = .returned (.string ⟨(preB 3 t r ns ++ joinC 3 0 (ks.map showC) ++ [41]).toArray⟩) ∧ Below w.heap.size w w' := by
  have HPre : Hid (preB 3 t r ns = [40, 108, 97, 109, 98, 100, 97, 32] ++ parB ns r) := by
    show preB 3 t r ns = _
    unfold preB; rw [if_pos rfl]
  obtain ⟨P, hP⟩ : ∃ P, P = preB 3 t r ns := ⟨_, rfl⟩
  rw [← hP] at hl HPre ⊢
  have HLL : Hid (P.length + (joinC 3 0 (ks.map showC)).length + 1 ≤ 900000000) := by
    show _ ≤ _
    simpa only [List.length_append, List.length_cons, List.length_nil] using hl
  have hP9 : P.length ≤ 900000000 := by have := HLL.out; omega
  have HI := hid ih
  have HR := hid hB
  have H3 := hid h3
  obtain ⟨a3, k3, rfl, -⟩ := h3
  obtain ⟨a4, k4, rfl, hl4, ha⟩ := h4
  unfold maxLen at hl4
  have HT0 := hid ht
  unfold maxLen at ht
  clear ih hB hl hP
  have hh6 : ((headB 3).length : Int) ≤ 6 := by have := headB_len 3; omega
  have hp9 : ((parB ns r).length : Int) ≤ 900000000 := by have := congrArg List.length HPre.out; simp only [List.length_append, List.length_cons, List.length_nil] at this; omega
  go_enter Try.func18, Try.ntmps18
  go_wp2_with (first | (go_at_call 43; refine (l5Head_any 3 _).mono ?_; rintro e w' ⟨rfl, hw⟩; rw [hw]; clear hw w') | (go_at_call 44; refine (l5Params_any B _ ns r _ (H3.out.keep ((SameOn.refl _ _).alloc HR.out _)) (by have := HPre.out; have := congrArg List.length this; simp only [List.length_append, List.length_cons, List.length_nil] at this; omega)).mono ?_; rintro e w' ⟨rfl, hw⟩; rw [hw]; clear hw w'))
  go_loopw [3, 4] (fun o i wr => ∃ k : Nat, k ≤ ks.length ∧ i = .int .i64 k ∧ ∃ xs : List UInt8, o = .string ⟨xs.toArray⟩ ∧ (xs.length : Int) ≤ 900000000 ∧ Hid (xs = P ++ joinC 3 0 ((ks.map showC).take k)) ∧ Hid (Below (w.heap.size + 1) (w.alloc (.cells #[.int .i64 3, .string t, .bool r, .slice a3 ns.length k3, .slice a4 ks.length k4] 50)) wr)) (fun _ i _ => ks.length - (intOf i).toNat)
  case atStart => exact ⟨0, Nat.zero_le _, rfl, P, by rw [HPre.out]; exact capp1 _ _, by omega, by show _ = _; simp [joinC], Below.refl _ _⟩
  case round =>
    obtain ⟨k, hk', rfl, xs, rfl, hxs, HO, HB⟩ := hrel
    have hcell : ∀ o, wr.cell? ⟨w.heap.size, o, none⟩ = (w.alloc (.cells #[.int .i64 3, .string t, .bool r, .slice a3 ns.length k3, .slice a4 ks.length k4] 50)).cell? ⟨w.heap.size, o, none⟩ := fun o => HB.out.cell (p := ⟨w.heap.size, o, none⟩) (by simp)
    have hsz := HB.out.size
    simp only [World.size_alloc] at hsz
    by_cases hlt : k < ks.length
    · rcases ha with ha | ⟨ba, oa, rfl, hb, ha⟩
      · rw [ha] at hlt; simp at hlt
      have hrow := CRowAt.keep (((SameOn.refl _ _).alloc HR.out _).below HB.out (fun b hb => by have := HR.out b hb; omega)) hb ks ha
      obtain ⟨e0, e1, e2, e3, e4, g0, g1, g2, g3, g4, hf'⟩ := CRowAt.get ks hrow k hlt
      have hgt : (ks.map showC)[k]'(by simpa using hlt) = showC ks[k] := by simp
      have HT := hid (joinC_take 3 (ks.map showC) k (by simpa using hlt))
      rw [hgt] at HT
      have hle := joinC_le 3 (ks.map showC) 0 (k + 1)
      have hle2 : P.length + (joinC 3 0 ((ks.map showC).take (k + 1))).length ≤ 900000000 := by have := HLL.out; omega
      have HLE := hid hle2
      have hy9 : (showC ks[k]).length ≤ 900000000 := by
        have h3 := hle2
        rw [HT.out] at h3
        simp only [List.length_append] at h3
        omega
      have HC := hid (HI.out ks[k] (by have := Cm.szs_get ks k hlt; omega) B wr e0 e1 e2 e3 e4 hf' (fun b hb => by have := HR.out b hb; omega) hy9)
      obtain ⟨ys, hys⟩ : ∃ ys, ys = showC ks[k] := ⟨_, rfl⟩
      rw [← hys] at HC HT hy9
      have hy : (ys.length : Int) ≤ 900000000 := by omega
      clear ha hrow hf' hle hle2 hgt hys
      by_cases hk0 : 0 < k
      · have hk0' : (0 : Int) < (k : Int) := by omega
        have HCd := hid (if_pos (c := 0 < k ∨ (3 : Int) ≠ 4) (Or.inl hk0) : (if 0 < k ∨ (3 : Int) ≠ 4 then [(32 : UInt8)] else []) = [32])
        rw [HCd.out] at HT
        go_wp2_with (go_at_call 18; refine HC.out.mono ?_; rintro e w' ⟨rfl, hw⟩)
        exact ⟨⟨k + 1, by omega, by go_num, _, capp2 xs [32] ys, sc_len (sc_eq HO.out HT.out (by simp)) HLE.out, sc_eq HO.out HT.out (by simp), HB.out.trans (hw.mono hsz)⟩, by simp [intOf]; omega⟩
      · have hk0' : ¬ (0 : Int) < (k : Int) := by omega
        have HCd := hid (if_pos (c := 0 < k ∨ (3 : Int) ≠ 4) (Or.inr (by decide)) : (if 0 < k ∨ (3 : Int) ≠ 4 then [(32 : UInt8)] else []) = [32])
        rw [HCd.out] at HT
        go_wp2_with (go_at_call 18; refine HC.out.mono ?_; rintro e w' ⟨rfl, hw⟩)
        exact ⟨⟨k + 1, by omega, by go_num, _, capp2 xs [32] ys, sc_len (sc_eq HO.out HT.out (by simp)) HLE.out, sc_eq HO.out HT.out (by simp), HB.out.trans (hw.mono hsz)⟩, by simp [intOf]; omega⟩
    · have h := HO.out
      rw [List.take_of_length_le (by simp; omega)] at h
      have HO' := hid h
      clear h
      go_wp2_with fail
      go_ret
      refine ⟨?_, ((Below.refl _ _).alloc (Nat.le_refl _) _).trans (HB.out.mono (by omega))⟩
      rw [← HO'.out]
      exact congrArg Ending.returned (capp1 xs [41])

set_option maxRecDepth 20000 in
set_option maxHeartbeats 4000000 in
theorem specCore_4 (n : Nat) (ih : SpecCore n) (t : ByteArray) (r : Bool) (ns : List ByteArray) (ks : List Cm) (hk : Cm.szs ks ≤ n) (B : Nat → Prop) (w : World) (c3 c4 : Value) (ht : t.size ≤ maxLen) (h3 : StrsAt B w c3 ns) (h4 : CoresAt B w c4 ks) (hB : ∀ b, B b → b < w.heap.size) (hl : (preB 4 t r ns ++ joinC 4 0 (ks.map showC) ++ [41]).length ≤ 900000000) :
    Calls Try.prog 18 #[.agg #[.int .i64 4, .string t, .bool r, c3, c4]] w fun e w' => e = .returned (.string ⟨(preB 4 t r ns ++ joinC 4 0 (ks.map showC) ++ [41]).toArray⟩) ∧ Below w.heap.size w w' := by
  have HPre : Hid (preB 4 t r ns = [40] ++ headB 4) := by
    show preB 4 t r ns = _
    unfold preB; rfl
  obtain ⟨P, hP⟩ : ∃ P, P = preB 4 t r ns := ⟨_, rfl⟩
  rw [← hP] at hl HPre ⊢
  have HLL : Hid (P.length + (joinC 4 0 (ks.map showC)).length + 1 ≤ 900000000) := by
    show _ ≤ _
    simpa only [List.length_append, List.length_cons, List.length_nil] using hl
  have hP9 : P.length ≤ 900000000 := by have := HLL.out; omega
  have HI := hid ih
  have HR := hid hB
  have H3 := hid h3
  obtain ⟨a3, k3, rfl, -⟩ := h3
  obtain ⟨a4, k4, rfl, hl4, ha⟩ := h4
  unfold maxLen at hl4
  have HT0 := hid ht
  unfold maxLen at ht
  clear ih hB hl hP
  go_enter Try.func18, Try.ntmps18
  go_wp2_with (go_at_call 43; refine (l5Head_any 4 _).mono ?_; rintro e w' ⟨rfl, hw⟩; rw [hw]; clear hw w')
  go_loopw [3, 4] (fun o i wr => ∃ k : Nat, k ≤ ks.length ∧ i = .int .i64 k ∧ ∃ xs : List UInt8, o = .string ⟨xs.toArray⟩ ∧ (xs.length : Int) ≤ 900000000 ∧ Hid (xs = P ++ joinC 4 0 ((ks.map showC).take k)) ∧ Hid (Below (w.heap.size + 1) (w.alloc (.cells #[.int .i64 4, .string t, .bool r, .slice a3 ns.length k3, .slice a4 ks.length k4] 50)) wr)) (fun _ i _ => ks.length - (intOf i).toNat)
  case atStart => exact ⟨0, Nat.zero_le _, rfl, P, by rw [HPre.out]; exact capp1 _ _, by omega, by show _ = _; simp [joinC], Below.refl _ _⟩
  case round =>
    obtain ⟨k, hk', rfl, xs, rfl, hxs, HO, HB⟩ := hrel
    have hcell : ∀ o, wr.cell? ⟨w.heap.size, o, none⟩ = (w.alloc (.cells #[.int .i64 4, .string t, .bool r, .slice a3 ns.length k3, .slice a4 ks.length k4] 50)).cell? ⟨w.heap.size, o, none⟩ := fun o => HB.out.cell (p := ⟨w.heap.size, o, none⟩) (by simp)
    have hsz := HB.out.size
    simp only [World.size_alloc] at hsz
    by_cases hlt : k < ks.length
    · rcases ha with ha | ⟨ba, oa, rfl, hb, ha⟩
      · rw [ha] at hlt; simp at hlt
      have hrow := CRowAt.keep (((SameOn.refl _ _).alloc HR.out _).below HB.out (fun b hb => by have := HR.out b hb; omega)) hb ks ha
      obtain ⟨e0, e1, e2, e3, e4, g0, g1, g2, g3, g4, hf'⟩ := CRowAt.get ks hrow k hlt
      have hgt : (ks.map showC)[k]'(by simpa using hlt) = showC ks[k] := by simp
      have HT := hid (joinC_take 4 (ks.map showC) k (by simpa using hlt))
      rw [hgt] at HT
      have hle := joinC_le 4 (ks.map showC) 0 (k + 1)
      have hle2 : P.length + (joinC 4 0 ((ks.map showC).take (k + 1))).length ≤ 900000000 := by have := HLL.out; omega
      have HLE := hid hle2
      have hy9 : (showC ks[k]).length ≤ 900000000 := by
        have h3 := hle2
        rw [HT.out] at h3
        simp only [List.length_append] at h3
        omega
      have HC := hid (HI.out ks[k] (by have := Cm.szs_get ks k hlt; omega) B wr e0 e1 e2 e3 e4 hf' (fun b hb => by have := HR.out b hb; omega) hy9)
      obtain ⟨ys, hys⟩ : ∃ ys, ys = showC ks[k] := ⟨_, rfl⟩
      rw [← hys] at HC HT hy9
      have hy : (ys.length : Int) ≤ 900000000 := by omega
      clear ha hrow hf' hle hle2 hgt hys
      by_cases hk0 : 0 < k
      · have hk0' : (0 : Int) < (k : Int) := by omega
        have HCd := hid (if_pos (c := 0 < k ∨ (4 : Int) ≠ 4) (Or.inl hk0) : (if 0 < k ∨ (4 : Int) ≠ 4 then [(32 : UInt8)] else []) = [32])
        rw [HCd.out] at HT
        go_wp2_with (go_at_call 18; refine HC.out.mono ?_; rintro e w' ⟨rfl, hw⟩)
        exact ⟨⟨k + 1, by omega, by go_num, _, capp2 xs [32] ys, sc_len (sc_eq HO.out HT.out (by simp)) HLE.out, sc_eq HO.out HT.out (by simp), HB.out.trans (hw.mono hsz)⟩, by simp [intOf]; omega⟩
      · have hk0' : ¬ (0 : Int) < (k : Int) := by omega
        have HCd := hid (if_neg (c := 0 < k ∨ (4 : Int) ≠ 4) (by omega) : (if 0 < k ∨ (4 : Int) ≠ 4 then [(32 : UInt8)] else []) = [])
        rw [HCd.out] at HT
        go_wp2_with (go_at_call 18; refine HC.out.mono ?_; rintro e w' ⟨rfl, hw⟩)
        exact ⟨⟨k + 1, by omega, by go_num, _, capp1 xs ys, sc_len (sc_eq HO.out HT.out (by simp)) HLE.out, sc_eq HO.out HT.out (by simp), HB.out.trans (hw.mono hsz)⟩, by simp [intOf]; omega⟩
    · have h := HO.out
      rw [List.take_of_length_le (by simp; omega)] at h
      have HO' := hid h
      clear h
      go_wp2_with fail
      go_ret
      refine ⟨?_, ((Below.refl _ _).alloc (Nat.le_refl _) _).trans (HB.out.mono (by omega))⟩
      rw [← HO'.out]
      exact congrArg Ending.returned (capp1 xs [41])

set_option maxRecDepth 20000 in
set_option maxHeartbeats 4000000 in
theorem specCore_6 (n : Nat) (ih : SpecCore n) (t : ByteArray) (r : Bool) (ns : List ByteArray) (ks : List Cm) (hk : Cm.szs ks ≤ n) (B : Nat → Prop) (w : World) (c3 c4 : Value) (ht : t.size ≤ maxLen) (h3 : StrsAt B w c3 ns) (h4 : CoresAt B w c4 ks) (hB : ∀ b, B b → b < w.heap.size) (hl : (preB 6 t r ns ++ joinC 6 0 (ks.map showC) ++ [41]).length ≤ 900000000) :
    Calls Try.prog 18 #[.agg #[.int .i64 6, .string t, .bool r, c3, c4]] w fun e w' => e = .returned (.string ⟨(preB 6 t r ns ++ joinC 6 0 (ks.map showC) ++ [41]).toArray⟩) ∧ Below w.heap.size w w' := by
  have HPre : Hid (preB 6 t r ns = [40] ++ headB 6 ++ [32] ++ t.data.toList) := by
    show preB 6 t r ns = _
    unfold preB; rfl
  obtain ⟨P, hP⟩ : ∃ P, P = preB 6 t r ns := ⟨_, rfl⟩
  rw [← hP] at hl HPre ⊢
  have HLL : Hid (P.length + (joinC 6 0 (ks.map showC)).length + 1 ≤ 900000000) := by
    show _ ≤ _
    simpa only [List.length_append, List.length_cons, List.length_nil] using hl
  have hP9 : P.length ≤ 900000000 := by have := HLL.out; omega
  have HI := hid ih
  have HR := hid hB
  have H3 := hid h3
  obtain ⟨a3, k3, rfl, -⟩ := h3
  obtain ⟨a4, k4, rfl, hl4, ha⟩ := h4
  unfold maxLen at hl4
  have HT0 := hid ht
  unfold maxLen at ht
  clear ih hB hl hP
  have hh6 : ((headB 6).length : Int) ≤ 6 := by have := headB_len 6; omega
  have ht9 : t.size ≤ 900000000 := by
    have h1 := congrArg List.length HPre.out
    have h4 : t.data.toList.length = t.size := by simp
    simp only [List.length_append, List.length_cons, List.length_nil] at h1
    omega
  go_enter Try.func18, Try.ntmps18
  go_wp2_with (go_at_call 43; refine (l5Head_any 6 _).mono ?_; rintro e w' ⟨rfl, hw⟩; rw [hw]; clear hw w')
  go_loopw [3, 4] (fun o i wr => ∃ k : Nat, k ≤ ks.length ∧ i = .int .i64 k ∧ ∃ xs : List UInt8, o = .string ⟨xs.toArray⟩ ∧ (xs.length : Int) ≤ 900000000 ∧ Hid (xs = P ++ joinC 6 0 ((ks.map showC).take k)) ∧ Hid (Below (w.heap.size + 1) (w.alloc (.cells #[.int .i64 6, .string t, .bool r, .slice a3 ns.length k3, .slice a4 ks.length k4] 50)) wr)) (fun _ i _ => ks.length - (intOf i).toNat)
  case atStart => exact ⟨0, Nat.zero_le _, rfl, P, by rw [HPre.out, ← capp3, ceta], by omega, by show _ = _; simp [joinC], Below.refl _ _⟩
  case round =>
    obtain ⟨k, hk', rfl, xs, rfl, hxs, HO, HB⟩ := hrel
    have hcell : ∀ o, wr.cell? ⟨w.heap.size, o, none⟩ = (w.alloc (.cells #[.int .i64 6, .string t, .bool r, .slice a3 ns.length k3, .slice a4 ks.length k4] 50)).cell? ⟨w.heap.size, o, none⟩ := fun o => HB.out.cell (p := ⟨w.heap.size, o, none⟩) (by simp)
    have hsz := HB.out.size
    simp only [World.size_alloc] at hsz
    by_cases hlt : k < ks.length
    · rcases ha with ha | ⟨ba, oa, rfl, hb, ha⟩
      · rw [ha] at hlt; simp at hlt
      have hrow := CRowAt.keep (((SameOn.refl _ _).alloc HR.out _).below HB.out (fun b hb => by have := HR.out b hb; omega)) hb ks ha
      obtain ⟨e0, e1, e2, e3, e4, g0, g1, g2, g3, g4, hf'⟩ := CRowAt.get ks hrow k hlt
      have hgt : (ks.map showC)[k]'(by simpa using hlt) = showC ks[k] := by simp
      have HT := hid (joinC_take 6 (ks.map showC) k (by simpa using hlt))
      rw [hgt] at HT
      have hle := joinC_le 6 (ks.map showC) 0 (k + 1)
      have hle2 : P.length + (joinC 6 0 ((ks.map showC).take (k + 1))).length ≤ 900000000 := by have := HLL.out; omega
      have HLE := hid hle2
      have hy9 : (showC ks[k]).length ≤ 900000000 := by
        have h3 := hle2
        rw [HT.out] at h3
        simp only [List.length_append] at h3
        omega
      have HC := hid (HI.out ks[k] (by have := Cm.szs_get ks k hlt; omega) B wr e0 e1 e2 e3 e4 hf' (fun b hb => by have := HR.out b hb; omega) hy9)
      obtain ⟨ys, hys⟩ : ∃ ys, ys = showC ks[k] := ⟨_, rfl⟩
      rw [← hys] at HC HT hy9
      have hy : (ys.length : Int) ≤ 900000000 := by omega
      clear ha hrow hf' hle hle2 hgt hys
      by_cases hk0 : 0 < k
      · have hk0' : (0 : Int) < (k : Int) := by omega
        have HCd := hid (if_pos (c := 0 < k ∨ (6 : Int) ≠ 4) (Or.inl hk0) : (if 0 < k ∨ (6 : Int) ≠ 4 then [(32 : UInt8)] else []) = [32])
        rw [HCd.out] at HT
        go_wp2_with (go_at_call 18; refine HC.out.mono ?_; rintro e w' ⟨rfl, hw⟩)
        exact ⟨⟨k + 1, by omega, by go_num, _, capp2 xs [32] ys, sc_len (sc_eq HO.out HT.out (by simp)) HLE.out, sc_eq HO.out HT.out (by simp), HB.out.trans (hw.mono hsz)⟩, by simp [intOf]; omega⟩
      · have hk0' : ¬ (0 : Int) < (k : Int) := by omega
        have HCd := hid (if_pos (c := 0 < k ∨ (6 : Int) ≠ 4) (Or.inr (by decide)) : (if 0 < k ∨ (6 : Int) ≠ 4 then [(32 : UInt8)] else []) = [32])
        rw [HCd.out] at HT
        go_wp2_with (go_at_call 18; refine HC.out.mono ?_; rintro e w' ⟨rfl, hw⟩)
        exact ⟨⟨k + 1, by omega, by go_num, _, capp2 xs [32] ys, sc_len (sc_eq HO.out HT.out (by simp)) HLE.out, sc_eq HO.out HT.out (by simp), HB.out.trans (hw.mono hsz)⟩, by simp [intOf]; omega⟩
    · have h := HO.out
      rw [List.take_of_length_le (by simp; omega)] at h
      have HO' := hid h
      clear h
      go_wp2_with fail
      go_ret
      refine ⟨?_, ((Below.refl _ _).alloc (Nat.le_refl _) _).trans (HB.out.mono (by omega))⟩
      rw [← HO'.out]
      exact congrArg Ending.returned (capp1 xs [41])

set_option maxRecDepth 20000 in
set_option maxHeartbeats 4000000 in
theorem specCore_8 (n : Nat) (ih : SpecCore n) (t : ByteArray) (r : Bool) (ns : List ByteArray) (ks : List Cm) (hk : Cm.szs ks ≤ n) (B : Nat → Prop) (w : World) (c3 c4 : Value) (ht : t.size ≤ maxLen) (h3 : StrsAt B w c3 ns) (h4 : CoresAt B w c4 ks) (hB : ∀ b, B b → b < w.heap.size) (hl : (preB 8 t r ns ++ joinC 8 0 (ks.map showC) ++ [41]).length ≤ 900000000) :
    Calls Try.prog 18 #[.agg #[.int .i64 8, .string t, .bool r, c3, c4]] w fun e w' => e = .returned (.string ⟨(preB 8 t r ns ++ joinC 8 0 (ks.map showC) ++ [41]).toArray⟩) ∧ Below w.heap.size w w' := by
  have HPre : Hid (preB 8 t r ns = [40, 114, 101, 99, 32] ++ parB ns false) := by
    show preB 8 t r ns = _
    unfold preB; rfl
  obtain ⟨P, hP⟩ : ∃ P, P = preB 8 t r ns := ⟨_, rfl⟩
  rw [← hP] at hl HPre ⊢
  have HLL : Hid (P.length + (joinC 8 0 (ks.map showC)).length + 1 ≤ 900000000) := by
    show _ ≤ _
    simpa only [List.length_append, List.length_cons, List.length_nil] using hl
  have hP9 : P.length ≤ 900000000 := by have := HLL.out; omega
  have HI := hid ih
  have HR := hid hB
  have H3 := hid h3
  obtain ⟨a3, k3, rfl, -⟩ := h3
  obtain ⟨a4, k4, rfl, hl4, ha⟩ := h4
  unfold maxLen at hl4
  have HT0 := hid ht
  unfold maxLen at ht
  clear ih hB hl hP
  have hh6 : ((headB 8).length : Int) ≤ 6 := by have := headB_len 8; omega
  have hp9 : ((parB ns false).length : Int) ≤ 900000000 := by have := congrArg List.length HPre.out; simp only [List.length_append, List.length_cons, List.length_nil] at this; omega
  go_enter Try.func18, Try.ntmps18
  go_wp2_with (first | (go_at_call 43; refine (l5Head_any 8 _).mono ?_; rintro e w' ⟨rfl, hw⟩; rw [hw]; clear hw w') | (go_at_call 44; refine (l5Params_any B _ ns false _ (H3.out.keep ((SameOn.refl _ _).alloc HR.out _)) (by have := HPre.out; have := congrArg List.length this; simp only [List.length_append, List.length_cons, List.length_nil] at this; omega)).mono ?_; rintro e w' ⟨rfl, hw⟩; rw [hw]; clear hw w'))
  go_loopw [3, 4] (fun o i wr => ∃ k : Nat, k ≤ ks.length ∧ i = .int .i64 k ∧ ∃ xs : List UInt8, o = .string ⟨xs.toArray⟩ ∧ (xs.length : Int) ≤ 900000000 ∧ Hid (xs = P ++ joinC 8 0 ((ks.map showC).take k)) ∧ Hid (Below (w.heap.size + 1) (w.alloc (.cells #[.int .i64 8, .string t, .bool r, .slice a3 ns.length k3, .slice a4 ks.length k4] 50)) wr)) (fun _ i _ => ks.length - (intOf i).toNat)
  case atStart => exact ⟨0, Nat.zero_le _, rfl, P, by rw [HPre.out]; exact capp1 _ _, by omega, by show _ = _; simp [joinC], Below.refl _ _⟩
  case round =>
    obtain ⟨k, hk', rfl, xs, rfl, hxs, HO, HB⟩ := hrel
    have hcell : ∀ o, wr.cell? ⟨w.heap.size, o, none⟩ = (w.alloc (.cells #[.int .i64 8, .string t, .bool r, .slice a3 ns.length k3, .slice a4 ks.length k4] 50)).cell? ⟨w.heap.size, o, none⟩ := fun o => HB.out.cell (p := ⟨w.heap.size, o, none⟩) (by simp)
    have hsz := HB.out.size
    simp only [World.size_alloc] at hsz
    by_cases hlt : k < ks.length
    · rcases ha with ha | ⟨ba, oa, rfl, hb, ha⟩
      · rw [ha] at hlt; simp at hlt
      have hrow := CRowAt.keep (((SameOn.refl _ _).alloc HR.out _).below HB.out (fun b hb => by have := HR.out b hb; omega)) hb ks ha
      obtain ⟨e0, e1, e2, e3, e4, g0, g1, g2, g3, g4, hf'⟩ := CRowAt.get ks hrow k hlt
      have hgt : (ks.map showC)[k]'(by simpa using hlt) = showC ks[k] := by simp
      have HT := hid (joinC_take 8 (ks.map showC) k (by simpa using hlt))
      rw [hgt] at HT
      have hle := joinC_le 8 (ks.map showC) 0 (k + 1)
      have hle2 : P.length + (joinC 8 0 ((ks.map showC).take (k + 1))).length ≤ 900000000 := by have := HLL.out; omega
      have HLE := hid hle2
      have hy9 : (showC ks[k]).length ≤ 900000000 := by
        have h3 := hle2
        rw [HT.out] at h3
        simp only [List.length_append] at h3
        omega
      have HC := hid (HI.out ks[k] (by have := Cm.szs_get ks k hlt; omega) B wr e0 e1 e2 e3 e4 hf' (fun b hb => by have := HR.out b hb; omega) hy9)
      obtain ⟨ys, hys⟩ : ∃ ys, ys = showC ks[k] := ⟨_, rfl⟩
      rw [← hys] at HC HT hy9
      have hy : (ys.length : Int) ≤ 900000000 := by omega
      clear ha hrow hf' hle hle2 hgt hys
      by_cases hk0 : 0 < k
      · have hk0' : (0 : Int) < (k : Int) := by omega
        have HCd := hid (if_pos (c := 0 < k ∨ (8 : Int) ≠ 4) (Or.inl hk0) : (if 0 < k ∨ (8 : Int) ≠ 4 then [(32 : UInt8)] else []) = [32])
        rw [HCd.out] at HT
        go_wp2_with (go_at_call 18; refine HC.out.mono ?_; rintro e w' ⟨rfl, hw⟩)
        exact ⟨⟨k + 1, by omega, by go_num, _, capp2 xs [32] ys, sc_len (sc_eq HO.out HT.out (by simp)) HLE.out, sc_eq HO.out HT.out (by simp), HB.out.trans (hw.mono hsz)⟩, by simp [intOf]; omega⟩
      · have hk0' : ¬ (0 : Int) < (k : Int) := by omega
        have HCd := hid (if_pos (c := 0 < k ∨ (8 : Int) ≠ 4) (Or.inr (by decide)) : (if 0 < k ∨ (8 : Int) ≠ 4 then [(32 : UInt8)] else []) = [32])
        rw [HCd.out] at HT
        go_wp2_with (go_at_call 18; refine HC.out.mono ?_; rintro e w' ⟨rfl, hw⟩)
        exact ⟨⟨k + 1, by omega, by go_num, _, capp2 xs [32] ys, sc_len (sc_eq HO.out HT.out (by simp)) HLE.out, sc_eq HO.out HT.out (by simp), HB.out.trans (hw.mono hsz)⟩, by simp [intOf]; omega⟩
    · have h := HO.out
      rw [List.take_of_length_le (by simp; omega)] at h
      have HO' := hid h
      clear h
      go_wp2_with fail
      go_ret
      refine ⟨?_, ((Below.refl _ _).alloc (Nat.le_refl _) _).trans (HB.out.mono (by omega))⟩
      rw [← HO'.out]
      exact congrArg Ending.returned (capp1 xs [41])

set_option maxRecDepth 20000 in
set_option maxHeartbeats 4000000 in
theorem specCore_9 (n : Nat) (ih : SpecCore n) (t : ByteArray) (r : Bool) (ns : List ByteArray) (ks : List Cm) (hk : Cm.szs ks ≤ n) (B : Nat → Prop) (w : World) (c3 c4 : Value) (ht : t.size ≤ maxLen) (h3 : StrsAt B w c3 ns) (h4 : CoresAt B w c4 ks) (hB : ∀ b, B b → b < w.heap.size) (hl : (preB 9 t r ns ++ joinC 9 0 (ks.map showC) ++ [41]).length ≤ 900000000) :
    Calls Try.prog 18 #[.agg #[.int .i64 9, .string t, .bool r, c3, c4]] w fun e w' => e = .returned (.string ⟨(preB 9 t r ns ++ joinC 9 0 (ks.map showC) ++ [41]).toArray⟩) ∧ Below w.heap.size w w' := by
  have HPre : Hid (preB 9 t r ns = [40] ++ headB 9 ++ [32] ++ t.data.toList) := by
    show preB 9 t r ns = _
    unfold preB; rfl
  obtain ⟨P, hP⟩ : ∃ P, P = preB 9 t r ns := ⟨_, rfl⟩
  rw [← hP] at hl HPre ⊢
  have HLL : Hid (P.length + (joinC 9 0 (ks.map showC)).length + 1 ≤ 900000000) := by
    show _ ≤ _
    simpa only [List.length_append, List.length_cons, List.length_nil] using hl
  have hP9 : P.length ≤ 900000000 := by have := HLL.out; omega
  have HI := hid ih
  have HR := hid hB
  have H3 := hid h3
  obtain ⟨a3, k3, rfl, -⟩ := h3
  obtain ⟨a4, k4, rfl, hl4, ha⟩ := h4
  unfold maxLen at hl4
  have HT0 := hid ht
  unfold maxLen at ht
  clear ih hB hl hP
  have hh6 : ((headB 9).length : Int) ≤ 6 := by have := headB_len 9; omega
  have ht9 : t.size ≤ 900000000 := by
    have h1 := congrArg List.length HPre.out
    have h4 : t.data.toList.length = t.size := by simp
    simp only [List.length_append, List.length_cons, List.length_nil] at h1
    omega
  go_enter Try.func18, Try.ntmps18
  go_wp2_with (go_at_call 43; refine (l5Head_any 9 _).mono ?_; rintro e w' ⟨rfl, hw⟩; rw [hw]; clear hw w')
  go_loopw [3, 4] (fun o i wr => ∃ k : Nat, k ≤ ks.length ∧ i = .int .i64 k ∧ ∃ xs : List UInt8, o = .string ⟨xs.toArray⟩ ∧ (xs.length : Int) ≤ 900000000 ∧ Hid (xs = P ++ joinC 9 0 ((ks.map showC).take k)) ∧ Hid (Below (w.heap.size + 1) (w.alloc (.cells #[.int .i64 9, .string t, .bool r, .slice a3 ns.length k3, .slice a4 ks.length k4] 50)) wr)) (fun _ i _ => ks.length - (intOf i).toNat)
  case atStart => exact ⟨0, Nat.zero_le _, rfl, P, by rw [HPre.out, ← capp3, ceta], by omega, by show _ = _; simp [joinC], Below.refl _ _⟩
  case round =>
    obtain ⟨k, hk', rfl, xs, rfl, hxs, HO, HB⟩ := hrel
    have hcell : ∀ o, wr.cell? ⟨w.heap.size, o, none⟩ = (w.alloc (.cells #[.int .i64 9, .string t, .bool r, .slice a3 ns.length k3, .slice a4 ks.length k4] 50)).cell? ⟨w.heap.size, o, none⟩ := fun o => HB.out.cell (p := ⟨w.heap.size, o, none⟩) (by simp)
    have hsz := HB.out.size
    simp only [World.size_alloc] at hsz
    by_cases hlt : k < ks.length
    · rcases ha with ha | ⟨ba, oa, rfl, hb, ha⟩
      · rw [ha] at hlt; simp at hlt
      have hrow := CRowAt.keep (((SameOn.refl _ _).alloc HR.out _).below HB.out (fun b hb => by have := HR.out b hb; omega)) hb ks ha
      obtain ⟨e0, e1, e2, e3, e4, g0, g1, g2, g3, g4, hf'⟩ := CRowAt.get ks hrow k hlt
      have hgt : (ks.map showC)[k]'(by simpa using hlt) = showC ks[k] := by simp
      have HT := hid (joinC_take 9 (ks.map showC) k (by simpa using hlt))
      rw [hgt] at HT
      have hle := joinC_le 9 (ks.map showC) 0 (k + 1)
      have hle2 : P.length + (joinC 9 0 ((ks.map showC).take (k + 1))).length ≤ 900000000 := by have := HLL.out; omega
      have HLE := hid hle2
      have hy9 : (showC ks[k]).length ≤ 900000000 := by
        have h3 := hle2
        rw [HT.out] at h3
        simp only [List.length_append] at h3
        omega
      have HC := hid (HI.out ks[k] (by have := Cm.szs_get ks k hlt; omega) B wr e0 e1 e2 e3 e4 hf' (fun b hb => by have := HR.out b hb; omega) hy9)
      obtain ⟨ys, hys⟩ : ∃ ys, ys = showC ks[k] := ⟨_, rfl⟩
      rw [← hys] at HC HT hy9
      have hy : (ys.length : Int) ≤ 900000000 := by omega
      clear ha hrow hf' hle hle2 hgt hys
      by_cases hk0 : 0 < k
      · have hk0' : (0 : Int) < (k : Int) := by omega
        have HCd := hid (if_pos (c := 0 < k ∨ (9 : Int) ≠ 4) (Or.inl hk0) : (if 0 < k ∨ (9 : Int) ≠ 4 then [(32 : UInt8)] else []) = [32])
        rw [HCd.out] at HT
        go_wp2_with (go_at_call 18; refine HC.out.mono ?_; rintro e w' ⟨rfl, hw⟩)
        exact ⟨⟨k + 1, by omega, by go_num, _, capp2 xs [32] ys, sc_len (sc_eq HO.out HT.out (by simp)) HLE.out, sc_eq HO.out HT.out (by simp), HB.out.trans (hw.mono hsz)⟩, by simp [intOf]; omega⟩
      · have hk0' : ¬ (0 : Int) < (k : Int) := by omega
        have HCd := hid (if_pos (c := 0 < k ∨ (9 : Int) ≠ 4) (Or.inr (by decide)) : (if 0 < k ∨ (9 : Int) ≠ 4 then [(32 : UInt8)] else []) = [32])
        rw [HCd.out] at HT
        go_wp2_with (go_at_call 18; refine HC.out.mono ?_; rintro e w' ⟨rfl, hw⟩)
        exact ⟨⟨k + 1, by omega, by go_num, _, capp2 xs [32] ys, sc_len (sc_eq HO.out HT.out (by simp)) HLE.out, sc_eq HO.out HT.out (by simp), HB.out.trans (hw.mono hsz)⟩, by simp [intOf]; omega⟩
    · have h := HO.out
      rw [List.take_of_length_le (by simp; omega)] at h
      have HO' := hid h
      clear h
      go_wp2_with fail
      go_ret
      refine ⟨?_, ((Below.refl _ _).alloc (Nat.le_refl _) _).trans (HB.out.mono (by omega))⟩
      rw [← HO'.out]
      exact congrArg Ending.returned (capp1 xs [41])

set_option maxRecDepth 20000 in
set_option maxHeartbeats 4000000 in
theorem specCore_o (n : Nat) (ih : SpecCore n) (s : Int) (t : ByteArray) (r : Bool) (ns : List ByteArray) (ks : List Cm) (hk : Cm.szs ks ≤ n) (B : Nat → Prop) (w : World) (c3 c4 : Value) (ht : t.size ≤ maxLen) (h3 : StrsAt B w c3 ns) (h4 : CoresAt B w c4 ks) (hB : ∀ b, B b → b < w.heap.size) (n1 : s ≠ 1) (n2 : s ≠ 2) (n3 : s ≠ 3) (n4 : s ≠ 4) (n6 : s ≠ 6) (n8 : s ≠ 8) (n9 : s ≠ 9) (hl : (preB s t r ns ++ joinC s 0 (ks.map showC) ++ [41]).length ≤ 900000000) :
    Calls Try.prog 18 #[.agg #[.int .i64 s, .string t, .bool r, c3, c4]] w fun e w' => e = .returned (.string ⟨(preB s t r ns ++ joinC s 0 (ks.map showC) ++ [41]).toArray⟩) ∧ Below w.heap.size w w' := by
  have b1 : (s == 1) = false := by simpa using n1
  have b2 : (s == 2) = false := by simpa using n2
  have b3 : (s == 3) = false := by simpa using n3
  have b4 : (s != 4) = true := by simpa using n4
  have b6 : (s == 6) = false := by simpa using n6
  have b8 : (s == 8) = false := by simpa using n8
  have b9 : (s == 9) = false := by simpa using n9
  have HN4 := hid n4
  have HN3 := hid n3
  have HN8 := hid n8
  have HN69 : Hid (¬ (s = 6 ∨ s = 9)) := fun h => by rcases h with h | h; exact n6 h; exact n9 h
  clear n1 n2 n3 n4 n6 n8 n9
  have HPre : Hid (preB s t r ns = [40] ++ headB s) := by
    show preB s t r ns = _
    unfold preB; rw [if_neg HN3.out, if_neg HN8.out, if_neg HN69.out]
  obtain ⟨P, hP⟩ : ∃ P, P = preB s t r ns := ⟨_, rfl⟩
  rw [← hP] at hl HPre ⊢
  have HLL : Hid (P.length + (joinC s 0 (ks.map showC)).length + 1 ≤ 900000000) := by
    show _ ≤ _
    simpa only [List.length_append, List.length_cons, List.length_nil] using hl
  have hP9 : P.length ≤ 900000000 := by have := HLL.out; omega
  have HI := hid ih
  have HR := hid hB
  have H3 := hid h3
  obtain ⟨a3, k3, rfl, -⟩ := h3
  obtain ⟨a4, k4, rfl, hl4, ha⟩ := h4
  unfold maxLen at hl4
  have HT0 := hid ht
  unfold maxLen at ht
  clear ih hB hl hP
  have hh6 : ((headB s).length : Int) ≤ 6 := by have := headB_len s; omega
  go_enter Try.func18, Try.ntmps18
  go_wp2_with (go_at_call 43; refine (l5Head_any s _).mono ?_; rintro e w' ⟨rfl, hw⟩; rw [hw]; clear hw w')
  go_loopw [3, 4] (fun o i wr => ∃ k : Nat, k ≤ ks.length ∧ i = .int .i64 k ∧ ∃ xs : List UInt8, o = .string ⟨xs.toArray⟩ ∧ (xs.length : Int) ≤ 900000000 ∧ Hid (xs = P ++ joinC s 0 ((ks.map showC).take k)) ∧ Hid (Below (w.heap.size + 1) (w.alloc (.cells #[.int .i64 s, .string t, .bool r, .slice a3 ns.length k3, .slice a4 ks.length k4] 50)) wr)) (fun _ i _ => ks.length - (intOf i).toNat)
  case atStart => exact ⟨0, Nat.zero_le _, rfl, P, by rw [HPre.out]; exact capp1 _ _, by omega, by show _ = _; simp [joinC], Below.refl _ _⟩
  case round =>
    obtain ⟨k, hk', rfl, xs, rfl, hxs, HO, HB⟩ := hrel
    have hcell : ∀ o, wr.cell? ⟨w.heap.size, o, none⟩ = (w.alloc (.cells #[.int .i64 s, .string t, .bool r, .slice a3 ns.length k3, .slice a4 ks.length k4] 50)).cell? ⟨w.heap.size, o, none⟩ := fun o => HB.out.cell (p := ⟨w.heap.size, o, none⟩) (by simp)
    have hsz := HB.out.size
    simp only [World.size_alloc] at hsz
    by_cases hlt : k < ks.length
    · rcases ha with ha | ⟨ba, oa, rfl, hb, ha⟩
      · rw [ha] at hlt; simp at hlt
      have hrow := CRowAt.keep (((SameOn.refl _ _).alloc HR.out _).below HB.out (fun b hb => by have := HR.out b hb; omega)) hb ks ha
      obtain ⟨e0, e1, e2, e3, e4, g0, g1, g2, g3, g4, hf'⟩ := CRowAt.get ks hrow k hlt
      have hgt : (ks.map showC)[k]'(by simpa using hlt) = showC ks[k] := by simp
      have HT := hid (joinC_take s (ks.map showC) k (by simpa using hlt))
      rw [hgt] at HT
      have hle := joinC_le s (ks.map showC) 0 (k + 1)
      have hle2 : P.length + (joinC s 0 ((ks.map showC).take (k + 1))).length ≤ 900000000 := by have := HLL.out; omega
      have HLE := hid hle2
      have hy9 : (showC ks[k]).length ≤ 900000000 := by
        have h3 := hle2
        rw [HT.out] at h3
        simp only [List.length_append] at h3
        omega
      have HC := hid (HI.out ks[k] (by have := Cm.szs_get ks k hlt; omega) B wr e0 e1 e2 e3 e4 hf' (fun b hb => by have := HR.out b hb; omega) hy9)
      obtain ⟨ys, hys⟩ : ∃ ys, ys = showC ks[k] := ⟨_, rfl⟩
      rw [← hys] at HC HT hy9
      have hy : (ys.length : Int) ≤ 900000000 := by omega
      clear ha hrow hf' hle hle2 hgt hys
      by_cases hk0 : 0 < k
      · have hk0' : (0 : Int) < (k : Int) := by omega
        have HCd := hid (if_pos (c := 0 < k ∨ (s : Int) ≠ 4) (Or.inl hk0) : (if 0 < k ∨ (s : Int) ≠ 4 then [(32 : UInt8)] else []) = [32])
        rw [HCd.out] at HT
        go_wp2_with (go_at_call 18; refine HC.out.mono ?_; rintro e w' ⟨rfl, hw⟩)
        exact ⟨⟨k + 1, by omega, by go_num, _, capp2 xs [32] ys, sc_len (sc_eq HO.out HT.out (by simp)) HLE.out, sc_eq HO.out HT.out (by simp), HB.out.trans (hw.mono hsz)⟩, by simp [intOf]; omega⟩
      · have hk0' : ¬ (0 : Int) < (k : Int) := by omega
        have HCd := hid (if_pos (c := 0 < k ∨ (s : Int) ≠ 4) (Or.inr HN4.out) : (if 0 < k ∨ (s : Int) ≠ 4 then [(32 : UInt8)] else []) = [32])
        rw [HCd.out] at HT
        go_wp2_with (go_at_call 18; refine HC.out.mono ?_; rintro e w' ⟨rfl, hw⟩)
        exact ⟨⟨k + 1, by omega, by go_num, _, capp2 xs [32] ys, sc_len (sc_eq HO.out HT.out (by simp)) HLE.out, sc_eq HO.out HT.out (by simp), HB.out.trans (hw.mono hsz)⟩, by simp [intOf]; omega⟩
    · have h := HO.out
      rw [List.take_of_length_le (by simp; omega)] at h
      have HO' := hid h
      clear h
      go_wp2_with fail
      go_ret
      refine ⟨?_, ((Below.refl _ _).alloc (Nat.le_refl _) _).trans (HB.out.mono (by omega))⟩
      rw [← HO'.out]
      exact congrArg Ending.returned (capp1 xs [41])

set_option maxHeartbeats 1000000 in
theorem specCore_leaf (s : Int) (hs : s = 1 ∨ s = 2) (t : ByteArray) (r : Bool) (w : World) (c3 c4 : Value) :
    Calls Try.prog 18 #[.agg #[.int .i64 s, .string t, .bool r, c3, c4]] w fun e w' => e = .returned (.string ⟨t.data.toList.toArray⟩) ∧ Below w.heap.size w w' := by
  rcases hs with rfl | rfl
  all_goals
    go_enter Try.func18, Try.ntmps18
    go_wp2_with fail
    go_ret
    exact ⟨by rw [ceta]; rfl, (Below.refl _ _).alloc (Nat.le_refl _) _⟩

theorem specCore_of (n : Nat) (ih : SpecCore n) : SpecCore (n + 1) := by
  intro c hc B w c0 c1 c2 c3 c4 hA hB hl
  by_cases hs : c.sort = 1 ∨ c.sort = 2
  · rw [showC_leaf c hs]
    obtain ⟨rfl, rfl, ht, rfl, h3, h4⟩ := (coreAt_iff _ _ _ _ _ _ _ _).1 hA
    exact specCore_leaf c.sort hs c.text c.rest w c3 c4
  have n1 : c.sort ≠ 1 := fun e => hs (Or.inl e)
  have n2 : c.sort ≠ 2 := fun e => hs (Or.inr e)
  rw [showC_list c n1 n2] at hl ⊢
  have hk : Cm.szs c.kids ≤ n := by have := Cm.sz_kids c; omega
  obtain ⟨rfl, rfl, ht, rfl, h3, h4⟩ := (coreAt_iff _ _ _ _ _ _ _ _).1 hA
  clear hs hA
  obtain ⟨s, t, r, ns, ks⟩ := c
  simp only at *
  by_cases e3 : s = 3
  · subst e3; exact specCore_3 n ih t r ns ks hk B w c3 c4 ht h3 h4 hB hl
  by_cases e4 : s = 4
  · subst e4; exact specCore_4 n ih t r ns ks hk B w c3 c4 ht h3 h4 hB hl
  by_cases e6 : s = 6
  · subst e6; exact specCore_6 n ih t r ns ks hk B w c3 c4 ht h3 h4 hB hl
  by_cases e8 : s = 8
  · subst e8; exact specCore_8 n ih t r ns ks hk B w c3 c4 ht h3 h4 hB hl
  by_cases e9 : s = 9
  · subst e9; exact specCore_9 n ih t r ns ks hk B w c3 c4 ht h3 h4 hB hl
  exact specCore_o n ih s t r ns ks hk B w c3 c4 ht h3 h4 hB n1 n2 e3 e4 e6 e8 e9 hl

theorem specCore_all : ∀ n, SpecCore n
  | 0 => fun c hc => by have := Cm.sz_kids c; omega
  | n + 1 => specCore_of n (specCore_all n)

/-- What the model shows. -/
theorem specCoreShow_any (c : Cm) (B : Nat → Prop) (w : World) (c0 c1 c2 c3 c4 : Value) (hA : CoreAt B w c c0 c1 c2 c3 c4) (hB : ∀ b, B b → b < w.heap.size) (hl : (showC c).length ≤ 900000000) :
    Calls Try.prog 18 #[.agg #[c0, c1, c2, c3, c4]] w fun e w' => e = .returned (.string ⟨(showC c).toArray⟩) ∧ Below w.heap.size w w' :=
  specCore_all c.sz c (Nat.le_refl _) B w c0 c1 c2 c3 c4 hA hB hl

end Go.Proofs.Ytkpamgabhlplfaa
