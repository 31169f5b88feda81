/-
  The program's names writes names into the builder as the plain function says. Condition: the names lie in memory ahead of the builder, which is one of the call's own.
  The program's ways to show each sort write into the builder what the plain functions say, if kids are shown as they should be. Condition: the part lies in memory ahead of the builder, which is one of the call's own.
  The program's ways to show a text and a call. Condition: the part lies in memory ahead of the builder, which is one of the call's own.
-/
import Derived.Test.YtkpamgabhlplfaaPart2
import Derived.Deep.RegionWith
namespace Go.Proofs.Ytkpamgabhlplfaa
open Go.RowKit Go.Siskin

set_option maxRecDepth 20000 in
set_option maxHeartbeats 4000000 in
theorem names_any (R : Nat → Prop) (ns : List ByteArray) (r : Bool) (w : World) (v : Value) (B b : Nat) (l : List UInt8) (hv : StrsAt R w v ns) (hR : ∀ x, R x → x < B) (hb : isS B b l w) (hB : B ≤ w.heap.size) (hl : l.length + (parB ns r).length ≤ 1000000000) :
    Calls Try.prog 107 #[pb b, v, .bool r] w fun e w' => e = .returned (.tuple #[]) ∧ isS B b (l ++ parB ns r) w' ∧ Wrote B b w w' := by
  obtain ⟨a, cap, rfl, hm, -, ha⟩ := hv
  obtain ⟨hm, -⟩ := hm
  unfold maxLen at hm
  have HX := hid (show parB ns r = [40] ++ joinP r ns.length 0 (ns.map fun x => x.data.toList) ++ [41] from rfl)
  have HL : Hid (l.length + (joinP r ns.length 0 (ns.map fun x => x.data.toList)).length + 2 ≤ 1000000000) := by
    show _ ≤ _
    have h := hl
    rw [HX.out] at h
    simp only [List.length_append, List.length_cons, List.length_nil] at h
    omega
  have HR := hid hR
  have HB := hid hb
  clear hR hb hl
  go_enter Try.func107, Try.ntmps107
  go_wp2_with fail
  refine (write_any B b _ ⟨#[40]⟩ w HB.out (by have h2 := HL.out; show _ + 1 ≤ _; omega) (by omega)).mono ?_
  rintro e w0 ⟨rfl, hb0, hw0⟩
  have s0 := hw0.1.size
  have HB0 := hid hb0
  have HW0 := hid hw0
  clear hb0 hw0
  go_wp2_with fail
  go_loopw [14] (fun i wr => ∃ k : Nat, k ≤ ns.length ∧ i = .int .i64 k ∧ Hid (isS B b (l ++ [40] ++ joinP r ns.length 0 ((ns.map fun x => x.data.toList).take k)) wr) ∧ Hid (Wrote B b w wr)) (fun i _ => ns.length - (intOf i).toNat)
  case atStart => exact ⟨0, Nat.zero_le _, rfl, by show isS _ _ _ _; simpa [joinP] using HB0.out, HW0.out⟩
  case round =>
    obtain ⟨k, hk, rfl, HK, HW⟩ := hrel
    have hsz := HW.out.1.size
    by_cases hlt : k < ns.length
    · rcases ha with ha | ⟨g, o, rfl, hg, ha⟩
      · subst ha; simp at hlt
      have hc := (HW.out.1.cell (p := ⟨g, o + k, none⟩) (HR.out g hg)).trans (ha k hlt)
      have hgt : (ns.map fun x => x.data.toList)[k]'(by simpa using hlt) = ns[k].data.toList := by simp
      have hys : ns[k].data.toList.length = ns[k].size := by simp
      have HT := hid (joinP_take r ns.length (ns.map fun x => x.data.toList) k (by simpa using hlt))
      rw [hgt] at HT
      have hle := joinP_le r ns.length (ns.map fun x => x.data.toList) 0 (k + 1)
      clear ha hgt
      by_cases hk0 : 0 < k
      · have hk0' : (0 : Int) < (k : Int) := by omega
        cases r with
        | true =>
          by_cases h4 : k + 1 = ns.length
          · have HP := hid (if_pos (c := 0 < k) hk0 : (if 0 < k then [(32 : UInt8)] else []) = [32])
            have b5 : ((k : Int) == (ns.length : Int) - 1) = true := by simp; omega
            have HQ := hid (if_pos (c := true = true ∧ k + 1 = ns.length) ⟨rfl, h4⟩ : (if true = true ∧ k + 1 = ns.length then [(46 : UInt8), 32] else []) = [46, 32])
            rw [HP.out, HQ.out] at HT
            rw [HT.out] at hle
            have HLE := hid hle
            clear hle h4
            go_wp2_with fail
            refine (write_any B b _ ⟨#[32]⟩ wr HK.out (by have h := HLE.out; have h2 := HL.out; simp only [List.length_append, List.length_cons, List.length_nil] at h ⊢; show _ + 1 ≤ _; omega) (by omega)).mono ?_
            rintro e w1 ⟨rfl, hb1, hw1⟩
            have s1 := hw1.1.size
            have HB1 := hid hb1
            have HW1 := hid hw1
            clear hb1 hw1
            go_wp2_with fail
            refine (write_any B b _ ⟨#[46, 32]⟩ w1 HB1.out (by have h := HLE.out; have h2 := HL.out; simp only [List.length_append, List.length_cons, List.length_nil] at h ⊢; show _ + 2 ≤ _; omega) (by omega)).mono ?_
            rintro e w2 ⟨rfl, hb2, hw2⟩
            have s2 := hw2.1.size
            have HB2 := hid hb2
            have HW2 := hid hw2
            clear hb2 hw2
            go_wp2_with fail
            refine (write_any B b _ ns[k] w2 HB2.out (by have h := HLE.out; have h2 := HL.out; simp only [List.length_append, List.length_cons, List.length_nil] at h ⊢; rw [hys] at h; omega) (by omega)).mono ?_
            rintro e w3 ⟨rfl, hb3, hw3⟩
            have s3 := hw3.1.size
            have HB3 := hid hb3
            have HW3 := hid hw3
            clear hb3 hw3
            go_wp2_with fail
            refine ⟨⟨k + 1, by omega, by go_num, ?_, (((HW.out.trans HW1.out).trans HW2.out).trans HW3.out)⟩, by simp [intOf]; omega⟩
            show isS _ _ _ _
            rw [HT.out]
            simpa using HB3.out
          · have HP := hid (if_pos (c := 0 < k) hk0 : (if 0 < k then [(32 : UInt8)] else []) = [32])
            have b5 : ((k : Int) == (ns.length : Int) - 1) = false := by simp; omega
            have HQ := hid (if_neg (c := true = true ∧ k + 1 = ns.length) (fun h => h4 h.2) : (if true = true ∧ k + 1 = ns.length then [(46 : UInt8), 32] else []) = [])
            rw [HP.out, HQ.out] at HT
            rw [HT.out] at hle
            have HLE := hid hle
            clear hle h4
            go_wp2_with fail
            refine (write_any B b _ ⟨#[32]⟩ wr HK.out (by have h := HLE.out; have h2 := HL.out; simp only [List.length_append, List.length_cons, List.length_nil] at h ⊢; show _ + 1 ≤ _; omega) (by omega)).mono ?_
            rintro e w1 ⟨rfl, hb1, hw1⟩
            have s1 := hw1.1.size
            have HB1 := hid hb1
            have HW1 := hid hw1
            clear hb1 hw1
            go_wp2_with fail
            refine (write_any B b _ ns[k] w1 HB1.out (by have h := HLE.out; have h2 := HL.out; simp only [List.length_append, List.length_cons, List.length_nil] at h ⊢; rw [hys] at h; omega) (by omega)).mono ?_
            rintro e w2 ⟨rfl, hb2, hw2⟩
            have s2 := hw2.1.size
            have HB2 := hid hb2
            have HW2 := hid hw2
            clear hb2 hw2
            go_wp2_with fail
            refine ⟨⟨k + 1, by omega, by go_num, ?_, ((HW.out.trans HW1.out).trans HW2.out)⟩, by simp [intOf]; omega⟩
            show isS _ _ _ _
            rw [HT.out]
            simpa using HB2.out
        | false =>
          have HP := hid (if_pos (c := 0 < k) hk0 : (if 0 < k then [(32 : UInt8)] else []) = [32])
          have HQ := hid (if_neg (c := false = true ∧ k + 1 = ns.length) (fun h => by cases h.1) : (if false = true ∧ k + 1 = ns.length then [(46 : UInt8), 32] else []) = [])
          rw [HP.out, HQ.out] at HT
          rw [HT.out] at hle
          have HLE := hid hle
          clear hle
          go_wp2_with fail
          refine (write_any B b _ ⟨#[32]⟩ wr HK.out (by have h := HLE.out; have h2 := HL.out; simp only [List.length_append, List.length_cons, List.length_nil] at h ⊢; show _ + 1 ≤ _; omega) (by omega)).mono ?_
          rintro e w1 ⟨rfl, hb1, hw1⟩
          have s1 := hw1.1.size
          have HB1 := hid hb1
          have HW1 := hid hw1
          clear hb1 hw1
          go_wp2_with fail
          refine (write_any B b _ ns[k] w1 HB1.out (by have h := HLE.out; have h2 := HL.out; simp only [List.length_append, List.length_cons, List.length_nil] at h ⊢; rw [hys] at h; omega) (by omega)).mono ?_
          rintro e w2 ⟨rfl, hb2, hw2⟩
          have s2 := hw2.1.size
          have HB2 := hid hb2
          have HW2 := hid hw2
          clear hb2 hw2
          go_wp2_with fail
          refine ⟨⟨k + 1, by omega, by go_num, ?_, ((HW.out.trans HW1.out).trans HW2.out)⟩, by simp [intOf]; omega⟩
          show isS _ _ _ _
          rw [HT.out]
          simpa using HB2.out
      · have hk0' : ¬ (0 : Int) < (k : Int) := by omega
        cases r with
        | true =>
          by_cases h4 : k + 1 = ns.length
          · have HP := hid (if_neg (c := 0 < k) hk0 : (if 0 < k then [(32 : UInt8)] else []) = [])
            have b5 : ((k : Int) == (ns.length : Int) - 1) = true := by simp; omega
            have HQ := hid (if_pos (c := true = true ∧ k + 1 = ns.length) ⟨rfl, h4⟩ : (if true = true ∧ k + 1 = ns.length then [(46 : UInt8), 32] else []) = [46, 32])
            rw [HP.out, HQ.out] at HT
            rw [HT.out] at hle
            have HLE := hid hle
            clear hle h4
            go_wp2_with fail
            refine (write_any B b _ ⟨#[46, 32]⟩ wr HK.out (by have h := HLE.out; have h2 := HL.out; simp only [List.length_append, List.length_cons, List.length_nil] at h ⊢; show _ + 2 ≤ _; omega) (by omega)).mono ?_
            rintro e w1 ⟨rfl, hb1, hw1⟩
            have s1 := hw1.1.size
            have HB1 := hid hb1
            have HW1 := hid hw1
            clear hb1 hw1
            go_wp2_with fail
            refine (write_any B b _ ns[k] w1 HB1.out (by have h := HLE.out; have h2 := HL.out; simp only [List.length_append, List.length_cons, List.length_nil] at h ⊢; rw [hys] at h; omega) (by omega)).mono ?_
            rintro e w2 ⟨rfl, hb2, hw2⟩
            have s2 := hw2.1.size
            have HB2 := hid hb2
            have HW2 := hid hw2
            clear hb2 hw2
            go_wp2_with fail
            refine ⟨⟨k + 1, by omega, by go_num, ?_, ((HW.out.trans HW1.out).trans HW2.out)⟩, by simp [intOf]; omega⟩
            show isS _ _ _ _
            rw [HT.out]
            simpa using HB2.out
          · have HP := hid (if_neg (c := 0 < k) hk0 : (if 0 < k then [(32 : UInt8)] else []) = [])
            have b5 : ((k : Int) == (ns.length : Int) - 1) = false := by simp; omega
            have HQ := hid (if_neg (c := true = true ∧ k + 1 = ns.length) (fun h => h4 h.2) : (if true = true ∧ k + 1 = ns.length then [(46 : UInt8), 32] else []) = [])
            rw [HP.out, HQ.out] at HT
            rw [HT.out] at hle
            have HLE := hid hle
            clear hle h4
            go_wp2_with fail
            refine (write_any B b _ ns[k] wr HK.out (by have h := HLE.out; have h2 := HL.out; simp only [List.length_append, List.length_cons, List.length_nil] at h ⊢; rw [hys] at h; omega) (by omega)).mono ?_
            rintro e w1 ⟨rfl, hb1, hw1⟩
            have s1 := hw1.1.size
            have HB1 := hid hb1
            have HW1 := hid hw1
            clear hb1 hw1
            go_wp2_with fail
            refine ⟨⟨k + 1, by omega, by go_num, ?_, (HW.out.trans HW1.out)⟩, by simp [intOf]; omega⟩
            show isS _ _ _ _
            rw [HT.out]
            simpa using HB1.out
        | false =>
          have HP := hid (if_neg (c := 0 < k) hk0 : (if 0 < k then [(32 : UInt8)] else []) = [])
          have HQ := hid (if_neg (c := false = true ∧ k + 1 = ns.length) (fun h => by cases h.1) : (if false = true ∧ k + 1 = ns.length then [(46 : UInt8), 32] else []) = [])
          rw [HP.out, HQ.out] at HT
          rw [HT.out] at hle
          have HLE := hid hle
          clear hle
          go_wp2_with fail
          refine (write_any B b _ ns[k] wr HK.out (by have h := HLE.out; have h2 := HL.out; simp only [List.length_append, List.length_cons, List.length_nil] at h ⊢; rw [hys] at h; omega) (by omega)).mono ?_
          rintro e w1 ⟨rfl, hb1, hw1⟩
          have s1 := hw1.1.size
          have HB1 := hid hb1
          have HW1 := hid hw1
          clear hb1 hw1
          go_wp2_with fail
          refine ⟨⟨k + 1, by omega, by go_num, ?_, (HW.out.trans HW1.out)⟩, by simp [intOf]; omega⟩
          show isS _ _ _ _
          rw [HT.out]
          simpa using HB1.out
    · have h := HK.out
      rw [List.take_of_length_le (by simp; omega)] at h
      have HK' := hid h
      clear h
      go_wp2_with fail
      refine (write_any B b _ ⟨#[41]⟩ wr HK'.out (by have h2 := HL.out; simp only [List.length_append, List.length_cons, List.length_nil]; show _ + 1 ≤ _; omega) (by omega)).mono ?_
      rintro e w1 ⟨rfl, hb1, hw1⟩
      have HB1 := hid hb1
      have HW1 := hid hw1
      clear hb1 hw1
      go_wp2_with fail
      go_end0
      refine ⟨rfl, ?_, HW.out.trans HW1.out⟩
      rw [HX.out]
      simpa using HB1.out

end Go.Proofs.Ytkpamgabhlplfaa

namespace Go.Proofs.Ytkpamgabhlplfaa
open Go.RowKit Go.Siskin

set_option maxRecDepth 20000 in
set_option maxHeartbeats 2000000 in
theorem m_if (n : Nat) (ih : KidsB n) (s : Int) (t : ByteArray) (r : Bool) (ns : List ByteArray) (ks : List Cm) (hk : Cm.szs ks ≤ n) (R : Nat → Prop) (w : World) (c3 c4 : Value) (B b : Nat) (l : List UInt8) (h3 : StrsAt R w c3 ns) (h4 : CoresAt R w c4 ks) (hR : ∀ x, R x → x < B) (hb : isS B b l w) (hB : B ≤ w.heap.size)
    (hl : l.length + ([40, 105, 102] ++ joinC 0 0 (ks.map showC) ++ [41]).length ≤ 1000000000) :
    Calls Try.prog 80 #[pb b, .agg #[.int .i64 s, .string t, .bool r, c3, c4]] w fun e w' => e = .returned (.tuple #[]) ∧ isS B b (l ++ ([40, 105, 102] ++ joinC 0 0 (ks.map showC) ++ [41])) w' ∧ Wrote B b w w' := by
  have HI := hid ih
  have HR := hid hR
  have HB := hid hb
  have HBL := hid (isS_lt hb)
  have hts : t.data.toList.length = t.size := by simp
  have HL := hid hl
  have H3 := hid h3
  have H4 := hid h4
  obtain ⟨a3, k3, rfl, -⟩ := h3
  obtain ⟨a4, k4, rfl, -⟩ := h4
  clear ih hR hb hl
  go_enter Try.func80, Try.ntmps80
  go_wp2_with fail
  refine (write_any B b _ ⟨#[40, 105, 102]⟩ _ (isS_alloc HB.out _) (by have h2 := HL.out; simp only [List.length_append, List.length_cons, List.length_nil] at h2 ⊢; show _ + 3 ≤ _; omega) (by simp; omega)).mono ?_
  rintro e w1 ⟨rfl, hb1, hw1⟩
  have HA1 := hid hw1
  have HW1 := hid (((Wrote.refl B b w).alloc hB _).trans hw1)
  have s1 := hw1.1.size
  simp only [World.size_alloc] at s1
  have HB1 := hid hb1
  clear hb1 hw1
  have q1 := HA1.out.box HBL.out (by decide)
  go_wp2_with fail
  refine (HI.out ks hk R w1 _ B b _ (H4.out.keep (HW1.out.1.on HR.out)) HR.out HB1.out (by omega) (by have h2 := HL.out; simp only [List.length_append, List.length_cons, List.length_nil] at h2 ⊢; omega)).mono ?_
  rintro e w2 ⟨rfl, hb2, hw2⟩
  have HA2 := hid (HA1.out.trans hw2)
  have HW2 := hid (HW1.out.trans hw2)
  have s2 := hw2.1.size
  have HB2 := hid hb2
  clear hb2 hw2 q1
  go_wp2_with fail
  go_end0
  refine ⟨rfl, ?_, HW2.out⟩
  simpa using HB2.out

set_option maxRecDepth 20000 in
set_option maxHeartbeats 2000000 in
theorem m_begin (n : Nat) (ih : KidsB n) (s : Int) (t : ByteArray) (r : Bool) (ns : List ByteArray) (ks : List Cm) (hk : Cm.szs ks ≤ n) (R : Nat → Prop) (w : World) (c3 c4 : Value) (B b : Nat) (l : List UInt8) (h3 : StrsAt R w c3 ns) (h4 : CoresAt R w c4 ks) (hR : ∀ x, R x → x < B) (hb : isS B b l w) (hB : B ≤ w.heap.size)
    (hl : l.length + ([40, 98, 101, 103, 105, 110] ++ joinC 0 0 (ks.map showC) ++ [41]).length ≤ 1000000000) :
    Calls Try.prog 82 #[pb b, .agg #[.int .i64 s, .string t, .bool r, c3, c4]] w fun e w' => e = .returned (.tuple #[]) ∧ isS B b (l ++ ([40, 98, 101, 103, 105, 110] ++ joinC 0 0 (ks.map showC) ++ [41])) w' ∧ Wrote B b w w' := by
  have HI := hid ih
  have HR := hid hR
  have HB := hid hb
  have HBL := hid (isS_lt hb)
  have hts : t.data.toList.length = t.size := by simp
  have HL := hid hl
  have H3 := hid h3
  have H4 := hid h4
  obtain ⟨a3, k3, rfl, -⟩ := h3
  obtain ⟨a4, k4, rfl, -⟩ := h4
  clear ih hR hb hl
  go_enter Try.func82, Try.ntmps82
  go_wp2_with fail
  refine (write_any B b _ ⟨#[40, 98, 101, 103, 105, 110]⟩ _ (isS_alloc HB.out _) (by have h2 := HL.out; simp only [List.length_append, List.length_cons, List.length_nil] at h2 ⊢; show _ + 6 ≤ _; omega) (by simp; omega)).mono ?_
  rintro e w1 ⟨rfl, hb1, hw1⟩
  have HA1 := hid hw1
  have HW1 := hid (((Wrote.refl B b w).alloc hB _).trans hw1)
  have s1 := hw1.1.size
  simp only [World.size_alloc] at s1
  have HB1 := hid hb1
  clear hb1 hw1
  have q1 := HA1.out.box HBL.out (by decide)
  go_wp2_with fail
  refine (HI.out ks hk R w1 _ B b _ (H4.out.keep (HW1.out.1.on HR.out)) HR.out HB1.out (by omega) (by have h2 := HL.out; simp only [List.length_append, List.length_cons, List.length_nil] at h2 ⊢; omega)).mono ?_
  rintro e w2 ⟨rfl, hb2, hw2⟩
  have HA2 := hid (HA1.out.trans hw2)
  have HW2 := hid (HW1.out.trans hw2)
  have s2 := hw2.1.size
  have HB2 := hid hb2
  clear hb2 hw2 q1
  go_wp2_with fail
  go_end0
  refine ⟨rfl, ?_, HW2.out⟩
  simpa using HB2.out

set_option maxRecDepth 20000 in
set_option maxHeartbeats 2000000 in
theorem m_other (n : Nat) (ih : KidsB n) (s : Int) (t : ByteArray) (r : Bool) (ns : List ByteArray) (ks : List Cm) (hk : Cm.szs ks ≤ n) (R : Nat → Prop) (w : World) (c3 c4 : Value) (B b : Nat) (l : List UInt8) (h3 : StrsAt R w c3 ns) (h4 : CoresAt R w c4 ks) (hR : ∀ x, R x → x < B) (hb : isS B b l w) (hB : B ≤ w.heap.size)
    (hl : l.length + ([40] ++ joinC 0 0 (ks.map showC) ++ [41]).length ≤ 1000000000) :
    Calls Try.prog 76 #[pb b, .agg #[.int .i64 s, .string t, .bool r, c3, c4]] w fun e w' => e = .returned (.tuple #[]) ∧ isS B b (l ++ ([40] ++ joinC 0 0 (ks.map showC) ++ [41])) w' ∧ Wrote B b w w' := by
  have HI := hid ih
  have HR := hid hR
  have HB := hid hb
  have HBL := hid (isS_lt hb)
  have hts : t.data.toList.length = t.size := by simp
  have HL := hid hl
  have H3 := hid h3
  have H4 := hid h4
  obtain ⟨a3, k3, rfl, -⟩ := h3
  obtain ⟨a4, k4, rfl, -⟩ := h4
  clear ih hR hb hl
  go_enter Try.func76, Try.ntmps76
  go_wp2_with fail
  refine (write_any B b _ ⟨#[40]⟩ _ (isS_alloc HB.out _) (by have h2 := HL.out; simp only [List.length_append, List.length_cons, List.length_nil] at h2 ⊢; show _ + 1 ≤ _; omega) (by simp; omega)).mono ?_
  rintro e w1 ⟨rfl, hb1, hw1⟩
  have HA1 := hid hw1
  have HW1 := hid (((Wrote.refl B b w).alloc hB _).trans hw1)
  have s1 := hw1.1.size
  simp only [World.size_alloc] at s1
  have HB1 := hid hb1
  clear hb1 hw1
  have q1 := HA1.out.box HBL.out (by decide)
  go_wp2_with fail
  refine (HI.out ks hk R w1 _ B b _ (H4.out.keep (HW1.out.1.on HR.out)) HR.out HB1.out (by omega) (by have h2 := HL.out; simp only [List.length_append, List.length_cons, List.length_nil] at h2 ⊢; omega)).mono ?_
  rintro e w2 ⟨rfl, hb2, hw2⟩
  have HA2 := hid (HA1.out.trans hw2)
  have HW2 := hid (HW1.out.trans hw2)
  have s2 := hw2.1.size
  have HB2 := hid hb2
  clear hb2 hw2 q1
  go_wp2_with fail
  go_end0
  refine ⟨rfl, ?_, HW2.out⟩
  simpa using HB2.out

set_option maxRecDepth 20000 in
set_option maxHeartbeats 2000000 in
theorem m_set (n : Nat) (ih : KidsB n) (s : Int) (t : ByteArray) (r : Bool) (ns : List ByteArray) (ks : List Cm) (hk : Cm.szs ks ≤ n) (R : Nat → Prop) (w : World) (c3 c4 : Value) (B b : Nat) (l : List UInt8) (h3 : StrsAt R w c3 ns) (h4 : CoresAt R w c4 ks) (hR : ∀ x, R x → x < B) (hb : isS B b l w) (hB : B ≤ w.heap.size)
    (hl : l.length + (([40, 115, 101, 116, 33, 32] ++ t.data.toList) ++ joinC 0 0 (ks.map showC) ++ [41]).length ≤ 1000000000) :
    Calls Try.prog 81 #[pb b, .agg #[.int .i64 s, .string t, .bool r, c3, c4]] w fun e w' => e = .returned (.tuple #[]) ∧ isS B b (l ++ (([40, 115, 101, 116, 33, 32] ++ t.data.toList) ++ joinC 0 0 (ks.map showC) ++ [41])) w' ∧ Wrote B b w w' := by
  have HI := hid ih
  have HR := hid hR
  have HB := hid hb
  have HBL := hid (isS_lt hb)
  have hts : t.data.toList.length = t.size := by simp
  have HL := hid hl
  have H3 := hid h3
  have H4 := hid h4
  obtain ⟨a3, k3, rfl, -⟩ := h3
  obtain ⟨a4, k4, rfl, -⟩ := h4
  clear ih hR hb hl
  go_enter Try.func81, Try.ntmps81
  go_wp2_with fail
  refine (write_any B b _ ⟨#[40, 115, 101, 116, 33, 32]⟩ _ (isS_alloc HB.out _) (by have h2 := HL.out; simp only [List.length_append, List.length_cons, List.length_nil] at h2 ⊢; show _ + 6 ≤ _; omega) (by simp; omega)).mono ?_
  rintro e w1 ⟨rfl, hb1, hw1⟩
  have HA1 := hid hw1
  have HW1 := hid (((Wrote.refl B b w).alloc hB _).trans hw1)
  have s1 := hw1.1.size
  simp only [World.size_alloc] at s1
  have HB1 := hid hb1
  clear hb1 hw1
  have q1 := HA1.out.box HBL.out (by decide)
  go_wp2_with fail
  have HQ := hid (write_any B b _ t w1.drew (isS_drew HB1.out) (by have h2 := HL.out; simp only [List.length_append, List.length_cons, List.length_nil] at h2 ⊢; omega) (by show B ≤ w1.heap.size; omega))
  go_region_with (go_at_call 105; refine HQ.out.mono ?_; rintro e w2 ⟨rfl, hb2, hw2⟩)
  have HA2 := hid (HA1.out.drew.trans hw2)
  have HW2 := hid (HW1.out.drew.trans hw2)
  have s2 : w1.heap.size ≤ w2.heap.size := hw2.1.size
  have HB2 := hid hb2
  clear hb2 hw2 q1 HQ
  have q2 := HA2.out.box HBL.out (by decide)
  go_wp2_with fail
  refine (HI.out ks hk R w2 _ B b _ (H4.out.keep (HW2.out.1.on HR.out)) HR.out HB2.out (by omega) (by have h2 := HL.out; simp only [List.length_append, List.length_cons, List.length_nil] at h2 ⊢; omega)).mono ?_
  rintro e w3 ⟨rfl, hb3, hw3⟩
  have HA3 := hid (HA2.out.trans hw3)
  have HW3 := hid (HW2.out.trans hw3)
  have s3 := hw3.1.size
  have HB3 := hid hb3
  clear hb3 hw3 q2
  go_wp2_with fail
  go_end0
  refine ⟨rfl, ?_, HW3.out⟩
  simpa using HB3.out

set_option maxRecDepth 20000 in
set_option maxHeartbeats 2000000 in
theorem m_define (n : Nat) (ih : KidsB n) (s : Int) (t : ByteArray) (r : Bool) (ns : List ByteArray) (ks : List Cm) (hk : Cm.szs ks ≤ n) (R : Nat → Prop) (w : World) (c3 c4 : Value) (B b : Nat) (l : List UInt8) (h3 : StrsAt R w c3 ns) (h4 : CoresAt R w c4 ks) (hR : ∀ x, R x → x < B) (hb : isS B b l w) (hB : B ≤ w.heap.size)
    (hl : l.length + (([40, 100, 101, 102, 105, 110, 101, 32] ++ t.data.toList) ++ joinC 0 0 (ks.map showC) ++ [41]).length ≤ 1000000000) :
    Calls Try.prog 84 #[pb b, .agg #[.int .i64 s, .string t, .bool r, c3, c4]] w fun e w' => e = .returned (.tuple #[]) ∧ isS B b (l ++ (([40, 100, 101, 102, 105, 110, 101, 32] ++ t.data.toList) ++ joinC 0 0 (ks.map showC) ++ [41])) w' ∧ Wrote B b w w' := by
  have HI := hid ih
  have HR := hid hR
  have HB := hid hb
  have HBL := hid (isS_lt hb)
  have hts : t.data.toList.length = t.size := by simp
  have HL := hid hl
  have H3 := hid h3
  have H4 := hid h4
  obtain ⟨a3, k3, rfl, -⟩ := h3
  obtain ⟨a4, k4, rfl, -⟩ := h4
  clear ih hR hb hl
  go_enter Try.func84, Try.ntmps84
  go_wp2_with fail
  refine (write_any B b _ ⟨#[40, 100, 101, 102, 105, 110, 101, 32]⟩ _ (isS_alloc HB.out _) (by have h2 := HL.out; simp only [List.length_append, List.length_cons, List.length_nil] at h2 ⊢; show _ + 8 ≤ _; omega) (by simp; omega)).mono ?_
  rintro e w1 ⟨rfl, hb1, hw1⟩
  have HA1 := hid hw1
  have HW1 := hid (((Wrote.refl B b w).alloc hB _).trans hw1)
  have s1 := hw1.1.size
  simp only [World.size_alloc] at s1
  have HB1 := hid hb1
  clear hb1 hw1
  have q1 := HA1.out.box HBL.out (by decide)
  go_wp2_with fail
  have HQ := hid (write_any B b _ t w1.drew (isS_drew HB1.out) (by have h2 := HL.out; simp only [List.length_append, List.length_cons, List.length_nil] at h2 ⊢; omega) (by show B ≤ w1.heap.size; omega))
  go_region_with (go_at_call 105; refine HQ.out.mono ?_; rintro e w2 ⟨rfl, hb2, hw2⟩)
  have HA2 := hid (HA1.out.drew.trans hw2)
  have HW2 := hid (HW1.out.drew.trans hw2)
  have s2 : w1.heap.size ≤ w2.heap.size := hw2.1.size
  have HB2 := hid hb2
  clear hb2 hw2 q1 HQ
  have q2 := HA2.out.box HBL.out (by decide)
  go_wp2_with fail
  refine (HI.out ks hk R w2 _ B b _ (H4.out.keep (HW2.out.1.on HR.out)) HR.out HB2.out (by omega) (by have h2 := HL.out; simp only [List.length_append, List.length_cons, List.length_nil] at h2 ⊢; omega)).mono ?_
  rintro e w3 ⟨rfl, hb3, hw3⟩
  have HA3 := hid (HA2.out.trans hw3)
  have HW3 := hid (HW2.out.trans hw3)
  have s3 := hw3.1.size
  have HB3 := hid hb3
  clear hb3 hw3 q2
  go_wp2_with fail
  go_end0
  refine ⟨rfl, ?_, HW3.out⟩
  simpa using HB3.out

set_option maxRecDepth 20000 in
set_option maxHeartbeats 2000000 in
theorem m_lambda (n : Nat) (ih : KidsB n) (s : Int) (t : ByteArray) (r : Bool) (ns : List ByteArray) (ks : List Cm) (hk : Cm.szs ks ≤ n) (R : Nat → Prop) (w : World) (c3 c4 : Value) (B b : Nat) (l : List UInt8) (h3 : StrsAt R w c3 ns) (h4 : CoresAt R w c4 ks) (hR : ∀ x, R x → x < B) (hb : isS B b l w) (hB : B ≤ w.heap.size)
    (hl : l.length + (([40, 108, 97, 109, 98, 100, 97, 32] ++ parB ns r) ++ joinC 0 0 (ks.map showC) ++ [41]).length ≤ 1000000000) :
    Calls Try.prog 78 #[pb b, .agg #[.int .i64 s, .string t, .bool r, c3, c4]] w fun e w' => e = .returned (.tuple #[]) ∧ isS B b (l ++ (([40, 108, 97, 109, 98, 100, 97, 32] ++ parB ns r) ++ joinC 0 0 (ks.map showC) ++ [41])) w' ∧ Wrote B b w w' := by
  have HI := hid ih
  have HR := hid hR
  have HB := hid hb
  have HBL := hid (isS_lt hb)
  have hts : t.data.toList.length = t.size := by simp
  have HL := hid hl
  have H3 := hid h3
  have H4 := hid h4
  obtain ⟨a3, k3, rfl, -⟩ := h3
  obtain ⟨a4, k4, rfl, -⟩ := h4
  clear ih hR hb hl
  go_enter Try.func78, Try.ntmps78
  go_wp2_with fail
  refine (write_any B b _ ⟨#[40, 108, 97, 109, 98, 100, 97, 32]⟩ _ (isS_alloc HB.out _) (by have h2 := HL.out; simp only [List.length_append, List.length_cons, List.length_nil] at h2 ⊢; show _ + 8 ≤ _; omega) (by simp; omega)).mono ?_
  rintro e w1 ⟨rfl, hb1, hw1⟩
  have HA1 := hid hw1
  have HW1 := hid (((Wrote.refl B b w).alloc hB _).trans hw1)
  have s1 := hw1.1.size
  simp only [World.size_alloc] at s1
  have HB1 := hid hb1
  clear hb1 hw1
  have q1 := HA1.out.box HBL.out (by decide)
  go_wp2_with fail
  refine (names_any R ns r w1 _ B b _ (H3.out.keep (HW1.out.1.on HR.out)) HR.out HB1.out (by omega) (by have h2 := HL.out; simp only [List.length_append, List.length_cons, List.length_nil] at h2 ⊢; omega)).mono ?_
  rintro e w2 ⟨rfl, hb2, hw2⟩
  have HA2 := hid (HA1.out.trans hw2)
  have HW2 := hid (HW1.out.trans hw2)
  have s2 := hw2.1.size
  have HB2 := hid hb2
  clear hb2 hw2 q1
  have q2 := HA2.out.box HBL.out (by decide)
  go_wp2_with fail
  refine (HI.out ks hk R w2 _ B b _ (H4.out.keep (HW2.out.1.on HR.out)) HR.out HB2.out (by omega) (by have h2 := HL.out; simp only [List.length_append, List.length_cons, List.length_nil] at h2 ⊢; omega)).mono ?_
  rintro e w3 ⟨rfl, hb3, hw3⟩
  have HA3 := hid (HA2.out.trans hw3)
  have HW3 := hid (HW2.out.trans hw3)
  have s3 := hw3.1.size
  have HB3 := hid hb3
  clear hb3 hw3 q2
  go_wp2_with fail
  go_end0
  refine ⟨rfl, ?_, HW3.out⟩
  simpa using HB3.out

set_option maxRecDepth 20000 in
set_option maxHeartbeats 2000000 in
theorem m_rec (n : Nat) (ih : KidsB n) (s : Int) (t : ByteArray) (r : Bool) (ns : List ByteArray) (ks : List Cm) (hk : Cm.szs ks ≤ n) (R : Nat → Prop) (w : World) (c3 c4 : Value) (B b : Nat) (l : List UInt8) (h3 : StrsAt R w c3 ns) (h4 : CoresAt R w c4 ks) (hR : ∀ x, R x → x < B) (hb : isS B b l w) (hB : B ≤ w.heap.size)
    (hl : l.length + (([40, 114, 101, 99, 32] ++ parB ns false) ++ joinC 0 0 (ks.map showC) ++ [41]).length ≤ 1000000000) :
    Calls Try.prog 83 #[pb b, .agg #[.int .i64 s, .string t, .bool r, c3, c4]] w fun e w' => e = .returned (.tuple #[]) ∧ isS B b (l ++ (([40, 114, 101, 99, 32] ++ parB ns false) ++ joinC 0 0 (ks.map showC) ++ [41])) w' ∧ Wrote B b w w' := by
  have HI := hid ih
  have HR := hid hR
  have HB := hid hb
  have HBL := hid (isS_lt hb)
  have hts : t.data.toList.length = t.size := by simp
  have HL := hid hl
  have H3 := hid h3
  have H4 := hid h4
  obtain ⟨a3, k3, rfl, -⟩ := h3
  obtain ⟨a4, k4, rfl, -⟩ := h4
  clear ih hR hb hl
  go_enter Try.func83, Try.ntmps83
  go_wp2_with fail
  refine (write_any B b _ ⟨#[40, 114, 101, 99, 32]⟩ _ (isS_alloc HB.out _) (by have h2 := HL.out; simp only [List.length_append, List.length_cons, List.length_nil] at h2 ⊢; show _ + 5 ≤ _; omega) (by simp; omega)).mono ?_
  rintro e w1 ⟨rfl, hb1, hw1⟩
  have HA1 := hid hw1
  have HW1 := hid (((Wrote.refl B b w).alloc hB _).trans hw1)
  have s1 := hw1.1.size
  simp only [World.size_alloc] at s1
  have HB1 := hid hb1
  clear hb1 hw1
  have q1 := HA1.out.box HBL.out (by decide)
  go_wp2_with fail
  refine (names_any R ns false w1 _ B b _ (H3.out.keep (HW1.out.1.on HR.out)) HR.out HB1.out (by omega) (by have h2 := HL.out; simp only [List.length_append, List.length_cons, List.length_nil] at h2 ⊢; omega)).mono ?_
  rintro e w2 ⟨rfl, hb2, hw2⟩
  have HA2 := hid (HA1.out.trans hw2)
  have HW2 := hid (HW1.out.trans hw2)
  have s2 := hw2.1.size
  have HB2 := hid hb2
  clear hb2 hw2 q1
  have q2 := HA2.out.box HBL.out (by decide)
  go_wp2_with fail
  refine (HI.out ks hk R w2 _ B b _ (H4.out.keep (HW2.out.1.on HR.out)) HR.out HB2.out (by omega) (by have h2 := HL.out; simp only [List.length_append, List.length_cons, List.length_nil] at h2 ⊢; omega)).mono ?_
  rintro e w3 ⟨rfl, hb3, hw3⟩
  have HA3 := hid (HA2.out.trans hw3)
  have HW3 := hid (HW2.out.trans hw3)
  have s3 := hw3.1.size
  have HB3 := hid hb3
  clear hb3 hw3 q2
  go_wp2_with fail
  go_end0
  refine ⟨rfl, ?_, HW3.out⟩
  simpa using HB3.out

end Go.Proofs.Ytkpamgabhlplfaa

namespace Go.Proofs.Ytkpamgabhlplfaa
open Go.RowKit Go.Siskin

set_option maxRecDepth 20000 in
set_option maxHeartbeats 2000000 in
theorem m_text (s : Int) (t : ByteArray) (r : Bool) (a3 a4 : Option Addr) (n3 k3 n4 k4 : Nat) (w : World) (B b : Nat) (l : List UInt8) (hb : isS B b l w) (hB : B ≤ w.heap.size) (hl : l.length + t.data.toList.length ≤ 1000000000) :
    Calls Try.prog 77 #[pb b, .agg #[.int .i64 s, .string t, .bool r, .slice a3 n3 k3, .slice a4 n4 k4]] w fun e w' => e = .returned (.tuple #[]) ∧ isS B b (l ++ t.data.toList) w' ∧ Wrote B b w w' := by
  have hts : t.data.toList.length = t.size := by simp
  have HQ := hid (write_any B b l t (w.alloc (.cells #[.int .i64 s, .string t, .bool r, .slice a3 n3 k3, .slice a4 n4 k4] 50)).drew (isS_drew (isS_alloc hb _)) (by omega) (by show B ≤ (w.alloc _).heap.size; simp; omega))
  clear hl hts
  go_enter Try.func77, Try.ntmps77
  go_wp2_with fail
  go_region_with (go_at_call 105; refine HQ.out.mono ?_; rintro e w1 ⟨rfl, hb1, hw1⟩)
  have HB1 := hid hb1
  have HW1 := hid hw1
  clear hb1 hw1 HQ
  go_wp2_with fail
  go_end0
  exact ⟨rfl, HB1.out, ((Wrote.refl B b w).alloc hB _).drew.trans HW1.out⟩

set_option maxRecDepth 20000 in
set_option maxHeartbeats 700000 in
theorem m_call (n : Nat) (ih : KidsB n) (ihs : ShowCo n) (s : Int) (t : ByteArray) (r : Bool) (ns : List ByteArray) (ks : List Cm) (hk : Cm.szs ks ≤ n) (R : Nat → Prop) (w : World) (c3 c4 : Value) (B b : Nat) (l : List UInt8) (h3 : StrsAt R w c3 ns) (h4 : CoresAt R w c4 ks) (hR : ∀ x, R x → x < B) (hb : isS B b l w) (hB : B ≤ w.heap.size)
    (hl : l.length + ([40] ++ joinC 4 0 (ks.map showC) ++ [41]).length ≤ 1000000000) :
    Calls Try.prog 79 #[pb b, .agg #[.int .i64 s, .string t, .bool r, c3, c4]] w fun e w' => e = .returned (.tuple #[]) ∧ isS B b (l ++ ([40] ++ joinC 4 0 (ks.map showC) ++ [41])) w' ∧ Wrote B b w w' := by
  have HI := hid ih
  have HIS := hid ihs
  have HR := hid hR
  have HB := hid hb
  have HBL := hid (isS_lt hb)
  have HL := hid hl
  obtain ⟨a3, k3, rfl, -⟩ := h3
  have H4 := hid h4
  obtain ⟨a4, k4, rfl, hm4, ha⟩ := h4
  unfold maxLen at hm4
  clear ih ihs hR hb hl
  cases ks with
  | nil =>
    clear ha
    go_enter Try.func79, Try.ntmps79
    go_wp2_with fail
    refine (write_any B b _ ⟨#[40]⟩ _ (isS_alloc HB.out _) (by have h2 := HL.out; simp only [List.length_append, List.length_cons, List.length_nil] at h2 ⊢; show _ + 1 ≤ _; omega) (by simp; omega)).mono ?_
    rintro e w1 ⟨rfl, hb1, hw1⟩
    have HW1 := hid (((Wrote.refl B b w).alloc hB _).trans hw1)
    have s1 := hw1.1.size
    simp only [World.size_alloc] at s1
    have HB1 := hid hb1
    have q1 := hw1.box HBL.out (by decide)
    clear hb1 hw1
    go_wp2_with fail
    refine (write_any B b _ ⟨#[41]⟩ w1 HB1.out (by have h2 := HL.out; simp only [List.length_append, List.length_cons, List.length_nil] at h2 ⊢; show _ + 1 ≤ _; omega) (by omega)).mono ?_
    rintro e w2 ⟨rfl, hb2, hw2⟩
    have HW2 := hid (HW1.out.trans hw2)
    have HB2 := hid hb2
    clear hb2 hw2
    go_wp2_with fail
    refine bodyPost_ret (results_none rfl _ _ _) rfl ?_
    refine ⟨rfl, ?_, HW2.out⟩
    simpa [joinC] using HB2.out
  | cons c rest =>
    rcases ha with ha | ⟨g, o, rfl, hg, ha⟩
    · cases ha
    have HE : Hid (joinC 4 0 ((c :: rest).map showC) = showC c ++ joinC 0 0 (rest.map showC)) := by
      show _ = _
      rw [List.map_cons, joinC, if_neg (by decide), List.nil_append, joinC_four _ _ 0]
    rw [HE.out] at HL ⊢
    have hsz : c.sz ≤ n ∧ Cm.szs rest ≤ n := by rw [Cm.szs_cons] at hk; omega
    have HSZ := hid hsz
    have HRow := hid ha
    have hpos : ((((c :: rest).length : Nat) : Int) == 0) = false := by simp; omega
    have hlen : (c :: rest).length = rest.length + 1 := rfl
    clear ha hk hsz
    go_enter Try.func79, Try.ntmps79
    go_wp2_with fail
    refine (write_any B b _ ⟨#[40]⟩ _ (isS_alloc HB.out _) (by have h2 := HL.out; simp only [List.length_append, List.length_cons, List.length_nil] at h2 ⊢; show _ + 1 ≤ _; omega) (by simp; omega)).mono ?_
    rintro e w1 ⟨rfl, hb1, hw1⟩
    have HA1 := hid hw1
    have HW1 := hid (((Wrote.refl B b w).alloc hB _).trans hw1)
    have s1 := hw1.1.size
    simp only [World.size_alloc] at s1
    have HB1 := hid hb1
    have q1 := hw1.box HBL.out (by decide)
    obtain ⟨e0, e1, e2, e3, e4, g0, g1, g2, g3, g4, hf⟩ := CRowAt.get (c :: rest) (CRowAt.keep (HW1.out.1.on HR.out) hg (c :: rest) HRow.out) 0 (by simp)
    simp only [Nat.zero_mul, Nat.add_zero, List.getElem_cons_zero] at g0 g1 g2 g3 g4 hf
    have HQ := hid (HIS.out c HSZ.out.1 R w1 _ _ _ _ _ B b _ hf HR.out HB1.out (by omega) (by have h2 := HL.out; simp only [List.length_append, List.length_cons, List.length_nil] at h2 ⊢; omega))
    obtain ⟨rfl, rfl, -, rfl, h3', h4'⟩ := (coreAt_iff _ _ _ _ _ _ _ _).1 hf
    obtain ⟨x3, y3, rfl, -⟩ := h3'
    obtain ⟨x4, y4, rfl, -⟩ := h4'
    clear hb1 hw1 hf
    go_wp2_with fail
    refine HQ.out.mono ?_
    rintro e w2 ⟨rfl, hb2, hw2⟩
    have HA2 := hid (HA1.out.trans hw2)
    have HW2 := hid (HW1.out.trans hw2)
    have s2 := hw2.1.size
    have HB2 := hid hb2
    have q2 := HA2.out.box HBL.out (by decide)
    clear hb2 hw2 HQ q1 g0 g1 g2 g3 g4
    have hk4 : rest.length + 1 ≤ k4 := hm4.2
    have HT : Hid (CoresAt R w2 (.slice (some ⟨g, o + 5, none⟩) rest.length (k4 - 1)) rest) := by
      refine ⟨_, _, rfl, ⟨by unfold maxLen; omega, by omega⟩, ?_⟩
      refine Or.inr ⟨g, o + 5, rfl, hg, fun i hi => ?_⟩
      obtain ⟨d0, d1, d2, d3, d4, j0, j1, j2, j3, j4, hd⟩ := CRowAt.get (c :: rest) (CRowAt.keep (HW2.out.1.on HR.out) hg (c :: rest) HRow.out) (i + 1) (by simp; omega)
      rw [show o + (i + 1) * 5 = o + 5 + i * 5 by omega] at j0 j1 j2 j3 j4
      exact ⟨d0, d1, d2, d3, d4, j0, j1, j2, j3, j4, by simpa using hd⟩
    have HQ1 := hid (fun (v : Value) (hv : CoresAt R w2 v rest) => HI.out rest HSZ.out.2 R w2 v B b _ hv HR.out HB2.out (by omega) (by have h2 := HL.out; simp only [List.length_append, List.length_cons, List.length_nil] at h2 ⊢; omega))
    have hpos' : ((rest.length : Int) + 1 == 0) = false := by simp; omega
    clear hpos
    by_cases h41 : k4 = 1
    · have h0 : rest = [] := List.length_eq_zero_iff.1 (by omega)
      have HT2 := hid (show CoresAt R w2 (.slice (some ⟨g, o, none⟩) 0 0) rest by rw [h0]; exact ⟨_, _, rfl, ⟨Nat.zero_le _, Nat.le_refl _⟩, Or.inl rfl⟩)
      have hr0 : rest.length = 0 := by rw [h0]; rfl
      have HQ2 := hid (HQ1.out _ HT2.out)
      subst h41
      clear HT HT2 HQ1 h0 hk4 hm4
      go_wp2_with fail
      refine HQ2.out.mono ?_
      rintro e w3 ⟨rfl, hb3, hw3⟩
      have HW3 := hid (HW2.out.trans hw3)
      have HB3 := hid hb3
      clear hb3 hw3 q2
      go_wp2_with fail
      go_end0
      refine ⟨rfl, ?_, HW3.out⟩
      simpa using HB3.out
    · have h42 : ¬ (1 = k4) := fun e => h41 e.symm
      have h43 : ¬ ((1 : Int) = (k4 : Int)) := by omega
      go_wp2_with fail
      refine (HQ1.out _ HT.out).mono ?_
      rintro e w3 ⟨rfl, hb3, hw3⟩
      have HW3 := hid (HW2.out.trans hw3)
      have HB3 := hid hb3
      clear hb3 hw3 q2
      go_wp2_with fail
      go_end0
      refine ⟨rfl, ?_, HW3.out⟩
      simpa using HB3.out

end Go.Proofs.Ytkpamgabhlplfaa
