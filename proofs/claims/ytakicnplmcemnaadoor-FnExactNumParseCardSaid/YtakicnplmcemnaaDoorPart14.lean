/-
  strings.Cut at one byte. Condition: none.
  strings.Cut at one byte; what a byte below 128 is worth as a digit. Condition: none.
  The program's worth at a byte below 128. Condition: the radix is one of four.
  strings.IndexRune and the program's worth at a rune from 128 on, over bytes below 128. Condition: at most 16 bytes.
  The program's readDigits. Condition: at most 480 bytes, a radix of the four.
  The program's cutSign; strings.CutPrefix for one byte. Condition: none.
  The program's powerOfTen. Condition: the table of powers stands.
-/
import Derived.Test.YtakicnplmcemnaaDoorPart12
import Derived.Test.YtakicnplmcemnaaDoorShelf
import Derived.Deep.RegionHeld3
import Derived.Test.YtakicnplmcemnaaDoorPart4
import Derived.Lib.OthersKept
import Derived.BigQuiet
import Derived.Laws.Runes
import Derived.WalkMore
import Derived.Test.YtakicnplmcemnaaDoorPart6
namespace Go.Proofs.YtakicnplmcemnaaDoor
open Go.RowKit Go.Siskin

theorem index_lt (t : ByteArray) (c : UInt8) : Lib.indexByte t.data.toList c = -1 ∨ ∃ k : Nat, Lib.indexByte t.data.toList c = k ∧ k < t.size := by
  rcases find_parts t.data.toList c with h | ⟨k, h, hk⟩
  · exact Or.inl h
  · exact Or.inr ⟨k, h, by simpa using hk⟩

set_option maxRecDepth 20000 in
set_option maxHeartbeats 1000000 in
theorem cutLite_no (t : ByteArray) (c : UInt8) (w : World) (h : Lib.indexByte t.data.toList c = -1) :
    Calls Tryd.prog 99 #[.string t, .string ⟨#[c]⟩] w fun e w' => e = .returned (.tuple #[.string t, .string ⟨#[]⟩, .bool false]) ∧ ∃ n, w' = w.drewN n := by
  have HP := hid (fun w => Tryd.stringslite_Index_one t c w)
  rw [h] at HP
  go_enter Tryd.func99, Tryd.ntmps99
  go_wp2_with fail
  refine (HP.out _).mono ?_
  rintro e w' ⟨rfl, hw⟩
  obtain rfl := hw.symm
  go_wp2_with fail
  exact bodyPost_ret (v := .tuple #[.string t, .string ⟨#[]⟩, .bool false]) (by simp [results, Tryd.results99, go_sem]) rfl ⟨rfl, 0, rfl⟩

set_option maxRecDepth 20000 in
set_option maxHeartbeats 1000000 in
theorem cutLite_yes (t : ByteArray) (c : UInt8) (k : Nat) (w : World) (ht : t.size ≤ 1000000) (h : Lib.indexByte t.data.toList c = k) (hk : k < t.size) :
    Calls Tryd.prog 99 #[.string t, .string ⟨#[c]⟩] w fun e w' => e = .returned (.tuple #[.string (t.extract 0 k), .string (t.extract (k + 1) t.size), .bool true]) ∧ ∃ n, w' = w.drewN n := by
  have HP := hid (fun w => Tryd.stringslite_Index_one t c w)
  rw [h] at HP
  have hk0 : (0 : Int) ≤ (k : Int) := by omega
  have hk1 : (k : Int) ≤ (t.size : Int) := by omega
  have hk2 : IntKind.i64.wrap ((k : Int) + 1) = (k : Int) + 1 := by simp [IntKind.wrap, IntKind.bits, IntKind.signed]; omega
  have hk3 : (0 : Int) ≤ (k : Int) + 1 := by omega
  have hk4 : (k : Int) + 1 ≤ (t.size : Int) := by omega
  clear h
  go_enter Tryd.func99, Tryd.ntmps99
  go_wp2_with fail
  refine (HP.out _).mono ?_
  rintro e w' ⟨rfl, hw⟩
  obtain rfl := hw.symm
  go_wp2_with fail
  go_region
  all_goals
    go_wp2_with fail
    exact bodyPost_ret (v := .tuple #[.string (t.extract 0 k), .string (t.extract (k + 1) t.size), .bool true]) (by simp [results, Tryd.results99, go_sem]) rfl ⟨rfl, 1, rfl⟩
end Go.Proofs.YtakicnplmcemnaaDoor

namespace Go.Proofs.YtakicnplmcemnaaDoor
open Go.RowKit Go.Siskin

set_option maxRecDepth 20000 in
set_option maxHeartbeats 1000000 in
theorem cut_no (t : ByteArray) (c : UInt8) (w : World) (h : Lib.indexByte t.data.toList c = -1) :
    Calls Tryd.prog 82 #[.string t, .string ⟨#[c]⟩] w fun e w' => e = .returned (.tuple #[.string t, .string ⟨#[]⟩, .bool false]) ∧ ∃ n, w' = w.drewN n := by
  have HP := hid (fun w => cutLite_no t c w h)
  clear h
  go_enter Tryd.func82, Tryd.ntmps82
  go_wp2_with fail
  refine (HP.out _).mono ?_
  rintro e w' ⟨rfl, n, hw⟩
  subst hw
  go_wp2_with fail
  exact bodyPost_ret (v := .tuple #[.string t, .string ⟨#[]⟩, .bool false]) (by simp [results, Tryd.results82, go_sem]) rfl ⟨rfl, n, rfl⟩

set_option maxRecDepth 20000 in
set_option maxHeartbeats 1000000 in
theorem cut_yes (t : ByteArray) (c : UInt8) (k : Nat) (w : World) (ht : t.size ≤ 1000000) (h : Lib.indexByte t.data.toList c = k) (hk : k < t.size) :
    Calls Tryd.prog 82 #[.string t, .string ⟨#[c]⟩] w fun e w' => e = .returned (.tuple #[.string (t.extract 0 k), .string (t.extract (k + 1) t.size), .bool true]) ∧ ∃ n, w' = w.drewN n := by
  have HP := hid (fun w => cutLite_yes t c k w ht h hk)
  clear h hk ht
  generalize t.extract 0 k = A at *
  generalize t.extract (k + 1) t.size = B at *
  go_enter Tryd.func82, Tryd.ntmps82
  go_wp2_with fail
  refine (HP.out _).mono ?_
  rintro e w' ⟨rfl, n, hw⟩
  subst hw
  go_wp2_with fail
  exact bodyPost_ret (v := .tuple #[.string A, .string B, .bool true]) (by simp [results, Tryd.results82, go_sem]) rfl ⟨rfl, n, rfl⟩

abbrev numDigitsL : List UInt8 := [48, 49, 50, 51, 52, 53, 54, 55, 56, 57, 97, 98, 99, 100, 101, 102]
theorem index_digit (R : Nat) (hR : RadP R) : ∀ n, n < 128 → Lib.indexByte (numDigitsL.take R) n.toUInt8 = if digV n.toUInt8 < R then (digV n.toUInt8 : Int) else -1 := by
  rcases hR with rfl | rfl | rfl | rfl <;> decide +kernel
end Go.Proofs.YtakicnplmcemnaaDoor

namespace Go.Proofs.YtakicnplmcemnaaDoor
open Go.RowKit Go.Siskin

theorem list_cutR (R : Nat) : ((⟨#[48, 49, 50, 51, 52, 53, 54, 55, 56, 57, 97, 98, 99, 100, 101, 102]⟩ : ByteArray).extract 0 R).data.toList = numDigitsL.take R := by
  simp [numDigitsL]

set_option maxRecDepth 20000 in
set_option maxHeartbeats 1000000 in
theorem worth_ascii (R n : Nat) (w : World) (hR : RadP R) (hn : n < 128) :
    Calls Tryd.prog 100 #[.int .i64 R, .int .i32 n] w fun e w' => ∃ v : Int, e = .returned (.tuple #[.int .u64 v, .bool (decide (digV n.toUInt8 < R))]) ∧ (digV n.toUInt8 < R → v = digV n.toUInt8) ∧ w' = w := by
  have hR2 := rad_two hR
  have hR0 := hR2.1
  have hR16 := hR2.2
  have HI : Hid (∀ w, Calls Tryd.prog 107 #[.string ((⟨#[48, 49, 50, 51, 52, 53, 54, 55, 56, 57, 97, 98, 99, 100, 101, 102]⟩ : ByteArray).extract 0 R), .int .i32 (n : Int)] w fun e w' => e = .returned (.int .i64 (if digV n.toUInt8 < R then (digV n.toUInt8 : Int) else -1)) ∧ w' = w) := fun w => by
    have h := Tryd.strings_IndexRune_ascii ((⟨#[48, 49, 50, 51, 52, 53, 54, 55, 56, 57, 97, 98, 99, 100, 101, 102]⟩ : ByteArray).extract 0 R) (n : Int) w (by omega) (by omega)
    rw [Int.toNat_natCast, list_cutR, index_digit R hR n hn] at h
    exact h
  obtain ⟨d, HD⟩ : ∃ d : Nat, Hid (digV n.toUInt8 = d) := ⟨_, rfl⟩
  rw [HD.out] at HI ⊢
  have hRi : (R : Int) ≤ 16 := by omega
  have hRz : (0 : Int) ≤ (R : Int) := by omega
  by_cases h : d < R
  · rw [if_pos h] at HI
    rw [decide_eq_true h]
    have hdl : d ≤ 15 := by omega
    clear h hR hR2
    go_enter Tryd.func100, Tryd.ntmps100
    go_wp2_with fail
    refine (HI.out _).mono ?_
    rintro e w' ⟨rfl, hw⟩
    obtain rfl := hw.symm
    go_wp2_with fail
    exact bodyPost_ret (v := .tuple #[.int .u64 d, .bool true]) (by simp [results, Tryd.results100, go_sem]) rfl ⟨_, rfl, fun _ => rfl, rfl⟩
  · rw [if_neg h] at HI
    rw [decide_eq_false h]
    have hno : d < R → False := h
    clear h hR hR2
    go_enter Tryd.func100, Tryd.ntmps100
    go_wp2_with fail
    refine (HI.out _).mono ?_
    rintro e w' ⟨rfl, hw⟩
    obtain rfl := hw.symm
    go_wp2_with fail
    exact bodyPost_ret (v := .tuple #[.int .u64 18446744073709551615, .bool false]) (by simp [results, Tryd.results100, go_sem]; decide) rfl ⟨_, rfl, fun h => absurd h hno, rfl⟩
end Go.Proofs.YtakicnplmcemnaaDoor

namespace Go.Proofs.YtakicnplmcemnaaDoor
open Go.RowKit Go.Siskin

set_option maxRecDepth 20000 in
set_option maxHeartbeats 1000000 in
theorem indexRune_error (s : ByteArray) (w : World) (ha : ∀ i (h : i < s.size), (s[i]'h).toNat < 128) :
    Calls Tryd.prog 107 #[.string s, .int .i32 65533] w fun e w' => e = .returned (.int .i64 (-1)) ∧ Below w.heap.size w w' := by
  go_enter Tryd.func107, Tryd.ntmps107
  go_wp2_with fail
  go_loopw [] (fun wr => ∃ pos : Nat, wr.heap[w.heap.size]? = some (.stringIter s pos) ∧ Below w.heap.size w wr) (fun wr => s.size - wr.iterPos w.heap.size)
  case atStart => exact ⟨0, World.iter_heap w s 0, (Below.refl _ _).alloc (Nat.le_refl _) _⟩
  case round =>
    obtain ⟨pos, hit, hbw⟩ := hrel
    by_cases hp : pos < s.size
    · have hnx : ∀ ty, (Instr.next (.pointer (some ⟨w.heap.size, 0, none⟩)) true ty).run Tryd.prog wr = _ := fun ty => Lib.run_next_ascii_at wr w.heap.size s pos ty hit hp (ha pos hp)
      have hne : ((((s[pos]'hp).toNat : Int)) == 65533) = false := by rw [beq_eq_false_iff_ne]; have := ha pos hp; omega
      have hit2 := Lib.iterAt_heap wr w.heap.size s pos (pos + 1) hit
      have hbw2 := Lib.below_iterAt hbw (k := w.heap.size) (Nat.le_refl _) s (pos + 1)
      go_wp2_with fail
      go_roundw
      case rel => exact ⟨pos + 1, hit2, hbw2⟩
      case measure =>
        simp only [World.iterPos, hit2, hit]
        omega
    · have hnx : ∀ ty, (Instr.next (.pointer (some ⟨w.heap.size, 0, none⟩)) true ty).run Tryd.prog wr = _ := fun ty => Lib.run_next_end_at wr w.heap.size s pos ty hit hp
      go_wp2_with fail
      go_ret
      exact ⟨rfl, hbw⟩

set_option maxRecDepth 20000 in
set_option maxHeartbeats 1000000 in
theorem indexRune_none (s : ByteArray) (r : Int) (w : World) (h1 : 128 ≤ r) (h2 : r ≤ 2147483647) (hne : r ≠ 65533) (hv : Lib.validRune r = false) :
    Calls Tryd.prog 107 #[.string s, .int .i32 r] w fun e w' => e = .returned (.int .i64 (-1)) ∧ Below w.heap.size w w' := by
  have HV := hid (fun w => Tryd.utf8_ValidRune r w)
  rw [hv] at HV
  have hrb : (r == 65533) = false := by rw [beq_eq_false_iff_ne]; exact hne
  clear hne hv
  go_enter Tryd.func107, Tryd.ntmps107
  go_wp2_with fail
  refine (HV.out _).mono ?_
  rintro e w' ⟨rfl, hw⟩
  obtain rfl := hw.symm
  go_wp2_with fail
  go_ret
  exact ⟨rfl, Below.refl _ _⟩

theorem index_high (l : List UInt8) (c : UInt8) (h : ∀ x ∈ l, x.toNat < 128) (hc : 128 ≤ c.toNat) : Lib.indexByte l c = -1 := by
  rcases find_parts l c with h1 | ⟨k, h1, hk⟩
  · exact h1
  · have h2 := (Lib.indexByte_some h1).1
    obtain ⟨h3, h4⟩ := List.getElem?_eq_some_iff.1 h2
    have := h c (h4 ▸ List.getElem_mem h3)
    omega

set_option maxRecDepth 20000 in
set_option maxHeartbeats 2000000 in
theorem indexRune_valid (s : ByteArray) (r : Int) (w : World) (ha : ∀ i (h : i < s.size), (s[i]'h).toNat < 128) (h1 : 128 ≤ r) (h2 : r ≤ 2147483647) (hne : r ≠ 65533) (hv : Lib.validRune r = true) (X : ByteArray) (hX : Utf8.encode r = X)
    (hx1 : 2 ≤ X.size) (hx2 : X.size ≤ 4) (hx3 : ∀ h : X.size - 1 < X.size, 128 ≤ (X[X.size - 1]'h).toNat) :
    Calls Tryd.prog 107 #[.string s, .int .i32 r] w fun e w' => e = .returned (.int .i64 (-1)) ∧ Below w.heap.size w w' := by
  have HV := hid (fun w => Tryd.utf8_ValidRune r w)
  rw [hv] at HV
  have hrb : (r == 65533) = false := by rw [beq_eq_false_iff_ne]; exact hne
  obtain ⟨L, hL⟩ : ∃ L : Nat, X.size = L + 1 := ⟨X.size - 1, by omega⟩
  have hLI : (X.size : Int) - 1 = (L : Int) := by omega
  have hLX : L < X.size := by omega
  obtain ⟨c, HC⟩ : ∃ c : UInt8, Hid (X[L]'hLX = c) := ⟨_, rfl⟩
  have hc : 128 ≤ c.toNat := by
    have h := hx3 (by omega)
    have e : X[X.size - 1]'(by omega) = X[L]'hLX := by congr 1; omega
    rw [e, HC.out] at h; exact h
  have hcv : ∀ w, (convert 21 9 (.int .i32 r)).run Tryd.prog w = .ok (.string X) w := fun w => by rw [← hX]; exact run_convert_int_string w 21 9 .i32 r (by kernel_rfl) (by kernel_rfl)
  clear hne hv hx3 hX
  by_cases hlt : L < s.size
  · have hnb : ((((s[L]'hlt).toNat : Int)) != (c.toNat : Int)) = true := by
      have := ha L hlt
      rw [bne, Bool.not_eq_true', beq_eq_false_iff_ne]; omega
    obtain ⟨T, HT⟩ : ∃ T, Hid (s.extract (L + 1) s.size = T) := ⟨_, rfl⟩
    have HI : Hid (∀ w, Calls Tryd.prog 115 #[.string T, .int .u8 (c.toNat : Int)] w fun e w' => e = .returned (.int .i64 (-1)) ∧ w' = w) := fun w => by
      have h := Tryd.strings_IndexByte T (c.toNat : Int) w
      rw [Int.toNat_natCast, show c.toNat.toUInt8 = c by simp, index_high T.data.toList c (fun x hx => by
        rw [← HT.out] at hx
        obtain ⟨i, hi, rfl⟩ := List.getElem_of_mem hx
        rw [ByteArray.data_extract, Array.toList_extract] at hi
        simp at hi
        have h3 := ha (L + 1 + i) (by omega)
        simpa [ByteArray.getElem_eq_getElem_data] using h3) hc] at h
      exact h
    have hcX : X[L]'hLX = c := HC.out
    have hwr : IntKind.i64.wrap ((L : Int) + 1) = (L : Int) + 1 := by simp [IntKind.wrap, IntKind.bits, IntKind.signed]; omega
    have hs0 : (0 : Int) ≤ (L : Int) := by omega
    have hs1 : (L : Int) < (X.size : Int) := by omega
    have hs2 : (L : Int) < (L : Int) + 1 := by omega
    have hs3 : (0 : Int) ≤ (L : Int) + 1 := by omega
    have hs4 : (L : Int) + 1 ≤ (s.size : Int) := by omega
    have hT2 : s.extract (L + 1) s.size = T := HT.out
    clear ha
    go_enter Tryd.func107, Tryd.ntmps107
    go_wp2_with fail
    refine (HV.out _).mono ?_
    rintro e w' ⟨rfl, hw⟩
    obtain rfl := hw.symm
    go_wp2_with fail
    go_step3
    go_wp2_with fail
    go_loopw [9] (fun i wr => i = .int .i64 (L : Int) ∧ wr = w) (fun _ _ => 0)
    case atStart => exact ⟨rfl, rfl⟩
    case round =>
      obtain ⟨rfl, rfl⟩ := hrel
      go_wp2_with fail
      go_step3
      go_wp2_with fail
      go_region
      all_goals
        go_wp2_with fail
        go_region_with (go_at_call 115; refine (HI.out _).mono ?_; rintro e w' ⟨rfl, hw⟩; obtain rfl := hw.symm)
        all_goals
          go_wp2_with fail
          rw [Exit.noGoto_ret]
          try go_wp2_with fail
          try rw [Exit.noGoto_ret]
          go_ret
          exact ⟨rfl, Below.drew (Below.drew (Below.refl _ _))⟩
  · clear ha
    have hLs : (s.size : Int) ≤ (L : Int) := by omega
    go_enter Tryd.func107, Tryd.ntmps107
    go_wp2_with fail
    refine (HV.out _).mono ?_
    rintro e w' ⟨rfl, hw⟩
    obtain rfl := hw.symm
    go_wp2_with fail
    go_step3
    go_wp2_with fail
    go_loopw [9] (fun i wr => i = .int .i64 (L : Int) ∧ wr = w) (fun _ _ => 0)
    case atStart => exact ⟨rfl, rfl⟩
    case round =>
      obtain ⟨rfl, rfl⟩ := hrel
      go_wp2_with fail
      rw [Exit.noGoto_ret]
      go_ret
      exact ⟨rfl, Below.refl _ _⟩

theorem indexRune_high (s : ByteArray) (r : Int) (w : World) (ha : ∀ i (h : i < s.size), (s[i]'h).toNat < 128) (h1 : 128 ≤ r) (h2 : r ≤ 2147483647) :
    Calls Tryd.prog 107 #[.string s, .int .i32 r] w fun e w' => e = .returned (.int .i64 (-1)) ∧ Below w.heap.size w w' := by
  by_cases he : r = 65533
  · subst he; exact indexRune_error s w ha
  · cases hv : Lib.validRune r
    · exact indexRune_none s r w h1 h2 he hv
    · have hv2 : Utf8.valid r = true := by
        unfold Lib.validRune at hv
        unfold Utf8.valid
        simp at hv ⊢
        omega
      obtain ⟨f1, f2, f3⟩ := encode_facts r hv2 h1
      exact indexRune_valid s r w ha h1 h2 he hv _ rfl f1 f2 f3

theorem cut_ascii (R : Nat) : ∀ i (h : i < ((⟨#[48, 49, 50, 51, 52, 53, 54, 55, 56, 57, 97, 98, 99, 100, 101, 102]⟩ : ByteArray).extract 0 R).size), (((⟨#[48, 49, 50, 51, 52, 53, 54, 55, 56, 57, 97, 98, 99, 100, 101, 102]⟩ : ByteArray).extract 0 R)[i]'h).toNat < 128 := by
  have hall : ∀ x ∈ numDigitsL, x.toNat < 128 := by decide
  have hl := list_cutR R
  generalize (⟨#[48, 49, 50, 51, 52, 53, 54, 55, 56, 57, 97, 98, 99, 100, 101, 102]⟩ : ByteArray).extract 0 R = s at *
  intro i h
  have hm : s[i]'h ∈ s.data.toList := List.mem_of_getElem? (i := i) (by rw [List.getElem?_eq_getElem (by simpa using h)]; rfl)
  rw [hl] at hm
  exact hall _ (List.mem_of_mem_take hm)

set_option maxRecDepth 20000 in
set_option maxHeartbeats 1000000 in
theorem worth_high (R : Nat) (r : Int) (w : World) (hR : RadP R) (h1 : 128 ≤ r) (h2 : r ≤ 2147483647) :
    Calls Tryd.prog 100 #[.int .i64 R, .int .i32 r] w fun e w' => (∃ v : Int, e = .returned (.tuple #[.int .u64 v, .bool false])) ∧ Below w.heap.size w w' := by
  have hR2 := rad_two hR
  have HI := hid (fun w => indexRune_high _ r w (cut_ascii R) h1 h2)
  have hRi : (R : Int) ≤ 16 := by omega
  have hRz : (0 : Int) ≤ (R : Int) := by omega
  clear hR hR2
  go_enter Tryd.func100, Tryd.ntmps100
  go_wp2_with fail
  refine (HI.out _).mono ?_
  rintro e w' ⟨rfl, hw⟩
  have HW := hid hw
  clear hw
  go_wp2_with fail
  exact bodyPost_ret (v := .tuple #[.int .u64 18446744073709551615, .bool false]) (by simp [results, Tryd.results100, go_sem]; decide) rfl ⟨⟨_, rfl⟩, HW.out⟩
end Go.Proofs.YtakicnplmcemnaaDoor

namespace Go.Proofs.YtakicnplmcemnaaDoor
open Go.RowKit Go.Siskin

theorem cell_iter {w : World} {k : Nat} {s : ByteArray} {pos j : Nat} (h : w.heap[k]? = some (.stringIter s pos)) : w.cell? ⟨k, j, none⟩ = none := by
  simp [World.cell?, h]
theorem natA_iter {w : World} {v : Value} {gs : List Nat} {k : Nat} {s : ByteArray} {pos pos' : Nat} (h : NatA w v gs) (hk : w.heap[k]? = some (.stringIter s pos)) : NatA (w.iterAt k s pos') v gs := by
  obtain ⟨a, cap, e, h1, h2, h3⟩ := h
  refine ⟨a, cap, e, h1, h2, ?_⟩
  rcases h3 with h3 | ⟨b, o, e2, hb, hc⟩
  · exact Or.inl h3
  · by_cases hg : gs = []
    · exact Or.inl hg
    · have hne : b ≠ k := by
        rintro rfl
        have h := hc 0 (List.length_pos_iff.2 hg)
        rw [cell_iter hk] at h
        cases h
      refine Or.inr ⟨b, o, e2, by show b < (w.iterAt k s pos').heap.size; rw [Lib.iterAt_size]; exact hb, fun i hi => ?_⟩
      rw [← hc i hi]
      exact World.cell?_of_block (a := ⟨b, o + i, none⟩) (Lib.iterAt_other w k b s pos' hne)

theorem take_more (s : ByteArray) (k : Nat) (h : k < s.size) : s.data.toList.take (k + 1) = s.data.toList.take k ++ [s[k]'h] := by
  rw [List.take_succ_eq_append_getElem (by simpa using h)]
  rfl
theorem okR_no {R : Nat} {s : ByteArray} {k : Nat} (h : k < s.size) (hd : ¬ digV (s[k]'h) < R) : okR R s.data.toList = false := by
  unfold okR
  rw [Bool.and_eq_false_iff]
  refine Or.inr (List.all_eq_false.2 ⟨s[k]'h, List.mem_of_getElem? (i := k) (by rw [List.getElem?_eq_getElem (by simpa using h)]; rfl), by simpa using hd⟩)
theorem okR_end {R : Nat} {s : ByteArray} (h : ∀ c ∈ s.data.toList, digV c < R) : okR R s.data.toList = !(s.toList == []) := by
  unfold okR
  rw [Go.ByteArray.toList_eq]
  rw [show (s.data.toList.all fun c => decide (digV c < R)) = true from List.all_eq_true.2 (fun c hc => decide_eq_true (h c hc)), Bool.and_true]
  cases s.data.toList <;> rfl
theorem nG_val {R : Nat} (hR : R ≤ 16) {l : List UInt8} (h : ∀ c ∈ l, digV c < R) (hl : l.length ≤ 480) : nG (valR R l) ≤ 1000 := by
  have h1 := valR_digits hR h
  unfold nG
  split
  · omega
  · omega
theorem digV_high {c : UInt8} (h : 128 ≤ c.toNat) : digV c = 99 := by
  unfold digV
  rw [if_neg (by omega), if_neg (by omega)]

set_option maxRecDepth 20000 in
set_option maxHeartbeats 2000000 in
theorem readDigits_any (s : ByteArray) (R : Nat) (w : World) (hs : s.size ≤ 480) (hR : RadP R) :
    Calls Tryd.prog 83 #[.int .i64 R, .string s] w fun e w' => ∃ u, e = .returned (.tuple #[u, .bool (okR R s.data.toList)]) ∧ NatA w' u (grp (if okR R s.data.toList = true then valR R s.data.toList else 0)) ∧ Below w.heap.size w w' := by
  have hR2 := (rad_two hR).2
  have HR2 := hid hR2
  have hwR : IntKind.u64.wrap (R : Int) = (R : Int) := by simp [IntKind.wrap, IntKind.bits, IntKind.signed]; omega
  have HWa := hid (fun n w (hn : n < 128) => worth_ascii R n w hR hn)
  have HWh := hid (fun (r : Int) w h1 h2 => worth_high R r w hR h1 h2)
  have HT := hid (fun (x d : Nat) v w (h : NatA w v (grp x)) (h1 : nG x ≤ 100000) (hd : d < 1000000000) => timesPlus_any x R d v w h h1 (by omega) hd)
  obtain ⟨OK, HOK⟩ : ∃ b, Hid (okR R s.data.toList = b) := ⟨_, rfl⟩
  obtain ⟨V, HV⟩ : ∃ V, Hid ((if okR R s.data.toList = true then valR R s.data.toList else 0) = V) := ⟨_, rfl⟩
  have HVno : Hid (okR R s.data.toList = false → OK = false ∧ V = 0) := fun h => ⟨by rw [← HOK.out, h], by rw [← HV.out, h]; rfl⟩
  have HVend : Hid ((∀ c ∈ s.data.toList, digV c < R) → OK = !(s.toList == []) ∧ V = valR R s.data.toList) := fun h => by
    have h1 := okR_end h
    refine ⟨by rw [← HOK.out, h1], ?_⟩
    rw [← HV.out]
    split
    · rfl
    · rename_i h2
      rw [h1, Go.ByteArray.toList_eq] at h2
      have : s.data.toList = [] := by simpa using h2
      rw [this]; rfl
  have HLen : Hid (s.data.toList.length = s.size) := by show _ = _; simp
  rw [HV.out, HOK.out]
  clear hR
  go_enter Tryd.func83, Tryd.ntmps83
  go_wp2_with fail
  go_loopw [6] (fun n wr => ∃ (pos : Nat) (na : Option Addr) (nc : Nat), n = .slice na (grp (valR R (s.data.toList.take pos))).length nc ∧ Hid (NatA wr (.slice na (grp (valR R (s.data.toList.take pos))).length nc) (grp (valR R (s.data.toList.take pos)))) ∧ pos ≤ s.size ∧ Hid (∀ c ∈ s.data.toList.take pos, digV c < R) ∧ Hid (wr.heap[w.heap.size]? = some (.stringIter s pos)) ∧ Hid (Below w.heap.size w wr)) (fun _ wr => s.size - wr.iterPos w.heap.size)
  case atStart => exact ⟨0, none, 0, rfl, NatA.nil, Nat.zero_le _, fun c hc => by simp at hc, World.iter_heap w s 0, (Below.refl _ _).alloc (Nat.le_refl _) _⟩
  case round =>
    obtain ⟨pos, na, nc, rfl, HN, hps, HD, HI, HB⟩ := hrel
    have hit := HI.out
    have hsz : w.heap.size < wr.heap.size := (Array.getElem?_eq_some_iff.1 hit).1
    by_cases hp : pos < s.size
    · by_cases ha : (s[pos]'hp).toNat < 128
      · have hnx : ∀ ty, (Instr.next (.pointer (some ⟨w.heap.size, 0, none⟩)) true ty).run Tryd.prog wr = _ := fun ty => Lib.run_next_ascii_at wr w.heap.size s pos ty hit hp ha
        have HI2 : Hid ((wr.iterAt w.heap.size s (pos + 1)).heap[w.heap.size]? = some (.stringIter s (pos + 1))) := Lib.iterAt_heap wr w.heap.size s pos (pos + 1) hit
        have HB2 : Hid (Below w.heap.size w (wr.iterAt w.heap.size s (pos + 1))) := Lib.below_iterAt HB.out (k := w.heap.size) (Nat.le_refl _) s (pos + 1)
        have HN2 := hid (natA_iter (pos' := pos + 1) HN.out hit)
        have HPos : Hid (wr.iterPos w.heap.size = pos) := by show _ = _; simp [World.iterPos, hit]
        have HWa2 := hid (fun w => HWa.out _ w ha)
        have hc8 : ((s[pos]'hp).toNat.toUInt8) = s[pos]'hp := by simp
        rw [hc8] at HWa2
        have HTk := hid (take_more s pos hp)
        obtain ⟨c, HC⟩ : ∃ c, Hid (s[pos]'hp = c) := ⟨_, rfl⟩
        by_cases hd : digV (s[pos]'hp) < R
        · have hdd := decide_eq_true hd
          rw [hdd] at HWa2
          have HDn := hid hd
          clear hit ha hc8 hd hdd
          go_wp2_with fail
          refine (HWa2.out _).mono ?_
          rintro e w' ⟨v, rfl, hv, hw⟩
          obtain rfl := hw.symm
          have hv2 := hv HDn.out
          clear hv
          subst hv2
          go_wp2_with fail
          refine (HT.out _ _ _ _ HN2.out (Nat.le_trans (nG_val HR2.out HD.out (by rw [List.length_take, HLen.out]; omega)) (by decide)) (by have := HDn.out; have := HR2.out; omega)).mono ?_
          rintro e w3 ⟨u, rfl, hu, hw3⟩
          rw [← valR_snoc, ← HTk.out] at hu
          obtain ⟨ua, uc, rfl⟩ := natA_formR hu
          have HU := hid hu
          have HI3 : Hid (w3.heap[w.heap.size]? = some (.stringIter s (pos + 1))) := (hw3.block _ (by rw [Lib.iterAt_size]; exact hsz)).trans HI2.out
          have HB3 := hid (HB2.out.trans (hw3.mono HB2.out.size))
          clear hu hw3
          go_wp2_with fail
          go_roundw
          case rel =>
            refine ⟨pos + 1, ua, uc, rfl, HU.out, hp, ?_, HI3.out, HB3.out⟩
            show ∀ c ∈ _, _
            rw [HTk.out]
            intro c hc
            rcases List.mem_append.1 hc with h | h
            · exact HD.out c h
            · rw [List.mem_singleton.1 h]; exact HDn.out
          case measure =>
            have h3 : w3.iterPos w.heap.size = pos + 1 := by simp [World.iterPos, HI3.out]
            rw [h3, HPos.out]
            omega
        · have hdd := decide_eq_false hd
          rw [hdd] at HWa2
          have HE := hid (HVno.out (okR_no hp hd))
          obtain ⟨rfl, rfl⟩ := HE.out
          clear hit ha hc8 hd hdd HE
          go_wp2_with fail
          refine (HWa2.out _).mono ?_
          rintro e w' ⟨v, rfl, -, hw⟩
          obtain rfl := hw.symm
          go_wp2_with fail
          go_ret2
          exact ⟨_, rfl, NatA.nil, HB2.out⟩
      · have hnx : ∀ ty, (Instr.next (.pointer (some ⟨w.heap.size, 0, none⟩)) true ty).run Tryd.prog wr = _ := fun ty => Lib.run_next_any_at wr w.heap.size s pos ty hit hp
        have hhi := (decode_high s pos hp (by omega)).1
        have hle := decode_le s pos
        have HE := hid (HVno.out (okR_no hp (by rw [digV_high (by omega)]; omega)))
        obtain ⟨rfl, rfl⟩ := HE.out
        have HB2 : Hid (Below w.heap.size w (wr.iterAt w.heap.size s (pos + (Utf8.decode s pos).2))) := Lib.below_iterAt HB.out (k := w.heap.size) (Nat.le_refl _) s _
        generalize (Utf8.decode s pos).1 = r at *
        generalize (Utf8.decode s pos).2 = k at *
        have HWh2 := hid (fun w => HWh.out (r : Int) w (by omega) (by omega))
        clear hit ha HE
        go_wp2_with fail
        refine (HWh2.out _).mono ?_
        rintro e w' ⟨⟨v, rfl⟩, hw⟩
        have HB3 := hid (HB2.out.trans (hw.mono HB2.out.size))
        clear hw
        go_wp2_with fail
        go_ret2
        exact ⟨_, rfl, NatA.nil, HB3.out⟩
    · have hnx : ∀ ty, (Instr.next (.pointer (some ⟨w.heap.size, 0, none⟩)) true ty).run Tryd.prog wr = _ := fun ty => Lib.run_next_end_at wr w.heap.size s pos ty hit hp
      have htk : s.data.toList.take pos = s.data.toList := List.take_of_length_le (by rw [HLen.out]; omega)
      rw [htk] at HN HD ⊢
      have HE := hid (HVend.out HD.out)
      clear hit htk HVno HVend
      obtain ⟨b, hb⟩ : ∃ b, (s.toList == []) = b := ⟨_, rfl⟩
      rw [hb] at HE
      cases b
      all_goals
        go_wp2_with fail
        go_ret2
        exact ⟨_, by rw [HE.out.1]; rfl, by rw [HE.out.2]; exact HN.out, HB.out⟩
end Go.Proofs.YtakicnplmcemnaaDoor

namespace Go.Proofs.YtakicnplmcemnaaDoor
open Go.RowKit Go.Siskin

theorem prefix_one (t : ByteArray) (c : UInt8) : Lib.hasPrefix t.data.toList [c] = if h : 0 < t.size then decide (t[0]'h = c) else false := by
  have e : ∀ h : 0 < t.size, t.data.toList[0]? = some (t[0]'h) := fun h => by
    rw [List.getElem?_eq_getElem (by simpa using h)]
    simp [ByteArray.getElem_eq_getElem_data]
  have hl : t.data.toList.length = t.size := by simp
  unfold Lib.hasPrefix
  generalize t.data.toList = l at *
  cases l with
  | nil => rw [dif_neg (by simp at hl; omega)]; rfl
  | cons x l =>
    have h : 0 < t.size := by simp at hl; omega
    rw [dif_pos h]
    have e2 := e h
    simp only [List.getElem?_cons_zero, Option.some.injEq] at e2
    rw [← e2]
    by_cases hx : x = c
    · subst hx; simp [List.isPrefixOf]
    · have hc : ¬ c = x := fun e => hx e.symm
      simp [List.isPrefixOf, hx, hc]
theorem prefix_pos {t : ByteArray} {c : UInt8} (h : Lib.hasPrefix t.data.toList [c] = true) : 1 ≤ t.size := by
  rw [prefix_one] at h
  split at h
  · omega
  · cases h

set_option maxRecDepth 20000 in
set_option maxHeartbeats 1000000 in
theorem cutPrefix_lite (t : ByteArray) (c : UInt8) (w : World) (ht : t.size ≤ 1000000) :
    Calls Tryd.prog 97 #[.string t, .string ⟨#[c]⟩] w fun e w' => e = .returned (.tuple #[.string (if Lib.hasPrefix t.data.toList [c] = true then t.extract 1 t.size else t), .bool (Lib.hasPrefix t.data.toList [c])]) ∧ w' = w := by
  have HP := hid (fun w => Tryd.stringslite_HasPrefix t ⟨#[c]⟩ w)
  have hp : Lib.hasPrefix t.data.toList [c] = true → 1 ≤ t.size := prefix_pos
  have HP2 : Hid (∀ w, Calls Tryd.prog 105 #[.string t, .string ⟨#[c]⟩] w fun e w' => e = .returned (.bool (Lib.hasPrefix t.data.toList [c])) ∧ w' = w) := fun w => HP.out w
  clear HP
  generalize Lib.hasPrefix t.data.toList [c] = b at *
  cases b
  · go_enter Tryd.func97, Tryd.ntmps97
    go_wp2_with fail
    refine (HP2.out _).mono ?_
    rintro e w' ⟨rfl, hw⟩
    obtain rfl := hw.symm
    go_wp2_with fail
    exact bodyPost_ret (v := .tuple #[.string t, .bool false]) (by simp [results, Tryd.results97, go_sem]) rfl ⟨rfl, rfl⟩
  · have h1 := hp rfl
    clear hp
    go_enter Tryd.func97, Tryd.ntmps97
    go_wp2_with fail
    refine (HP2.out _).mono ?_
    rintro e w' ⟨rfl, hw⟩
    obtain rfl := hw.symm
    go_wp2_with fail
    exact bodyPost_ret (v := .tuple #[.string (t.extract 1 t.size), .bool true]) (by simp [results, Tryd.results97, go_sem]) rfl ⟨rfl, rfl⟩

set_option maxRecDepth 20000 in
set_option maxHeartbeats 1000000 in
theorem cutPrefix_any (t : ByteArray) (c : UInt8) (w : World) (ht : t.size ≤ 1000000) :
    Calls Tryd.prog 80 #[.string t, .string ⟨#[c]⟩] w fun e w' => e = .returned (.tuple #[.string (if Lib.hasPrefix t.data.toList [c] = true then t.extract 1 t.size else t), .bool (Lib.hasPrefix t.data.toList [c])]) ∧ w' = w := by
  have HP := hid (fun w => cutPrefix_lite t c w ht)
  generalize (if Lib.hasPrefix t.data.toList [c] = true then t.extract 1 t.size else t) = S at *
  generalize Lib.hasPrefix t.data.toList [c] = b at *
  go_enter Tryd.func80, Tryd.ntmps80
  go_wp2_with fail
  refine (HP.out _).mono ?_
  rintro e w' ⟨rfl, hw⟩
  obtain rfl := hw.symm
  go_wp2_with fail
  exact bodyPost_ret (v := .tuple #[.string S, .bool b]) (by simp [results, Tryd.results80, go_sem]) rfl ⟨rfl, rfl⟩

theorem prefix_sign (t : ByteArray) : (Lib.hasPrefix t.data.toList [45] = true ∧ signV t = (true, t.extract 1 t.size)) ∨ (Lib.hasPrefix t.data.toList [45] = false ∧ signV t = (false, ⟨(Lib.trimPrefix t.data.toList [43]).toArray⟩)) := by
  rw [prefix_one]
  unfold signV Lib.trimPrefix
  rw [prefix_one]
  by_cases h : 0 < t.size
  · rw [dif_pos h, dif_pos h, dif_pos h]
    by_cases h1 : t[0]'h = 45
    · exact Or.inl ⟨decide_eq_true h1, by rw [if_pos h1]⟩
    · refine Or.inr ⟨decide_eq_false h1, ?_⟩
      rw [if_neg h1]
      by_cases h2 : t[0]'h = 43
      · rw [if_pos h2, if_pos (decide_eq_true h2)]
        congr 1
        apply ba_ext
        simp
        exact List.take_of_length_le (by simp)
      · rw [if_neg h2, if_neg (by simpa using h2)]
  · rw [dif_neg h, dif_neg h, dif_neg h]
    exact Or.inr ⟨rfl, by rw [if_neg (by decide)]⟩

set_option maxRecDepth 20000 in
set_option maxHeartbeats 1000000 in
theorem cutSign_any (t : ByteArray) (w : World) (ht : t.size ≤ 1000000) :
    Calls Tryd.prog 48 #[.string t] w fun e w' => e = .returned (.tuple #[.string (signV t).2, .bool (signV t).1]) ∧ w' = w := by
  have HP := hid (fun w => cutPrefix_any t 45 w ht)
  have HT := hid (fun w => Tryd.strings_TrimPrefix t ⟨#[43]⟩ w)
  have HT2 : Hid (∀ w, Calls Tryd.prog 81 #[.string t, .string ⟨#[43]⟩] w fun e w' => e = .returned (.string ⟨(Lib.trimPrefix t.data.toList [43]).toArray⟩) ∧ w' = w) := fun w => HT.out w
  clear HT
  rcases prefix_sign t with ⟨h1, h2⟩ | ⟨h1, h2⟩
  · rw [h2]
    rw [h1, if_pos rfl] at HP
    clear h1 h2
    generalize t.extract 1 t.size = S at *
    go_enter Tryd.func48, Tryd.ntmps48
    go_wp2_with fail
    refine (HP.out _).mono ?_
    rintro e w' ⟨rfl, hw⟩
    obtain rfl := hw.symm
    go_wp2_with fail
    exact bodyPost_ret (v := .tuple #[.string S, .bool true]) (by simp [results, Tryd.results48, go_sem]) rfl ⟨rfl, rfl⟩
  · rw [h2]
    rw [h1, if_neg (by decide)] at HP
    clear h1 h2
    generalize (⟨(Lib.trimPrefix t.data.toList [43]).toArray⟩ : ByteArray) = S at *
    go_enter Tryd.func48, Tryd.ntmps48
    go_wp2_with fail
    refine (HP.out _).mono ?_
    rintro e w' ⟨rfl, hw⟩
    obtain rfl := hw.symm
    go_wp2_with fail
    refine (HT2.out _).mono ?_
    rintro e w' ⟨rfl, hw⟩
    obtain rfl := hw.symm
    go_wp2_with fail
    exact bodyPost_ret (v := .tuple #[.string S, .bool false]) (by simp [results, Tryd.results48, go_sem]) rfl ⟨rfl, rfl⟩
end Go.Proofs.YtakicnplmcemnaaDoor

namespace Go.Proofs.YtakicnplmcemnaaDoor
open Go.RowKit Go.Siskin

/-- A power of ten, in groups. -/
theorem grp_power (n : Nat) : grp (10 ^ n) = (List.replicate (n / 9 + 1) 0).set (n / 9) (10 ^ (n % 9)) := by
  have e : 10 ^ n = 10 ^ (n % 9) * 1000000000 ^ (n / 9) := by rw [p9k, ← Nat.pow_add]; congr 1; omega
  have hlt : 10 ^ (n % 9) < 1000000000 := by rw [p9]; exact Nat.pow_lt_pow_right (by decide) (by omega)
  have hpos : 0 < 10 ^ (n % 9) := Nat.pow_pos (by decide)
  rw [← grpN_grp (m := n / 9 + 1) (v := 10 ^ n) (by rw [e, Nat.pow_succ, Nat.mul_comm]; exact Nat.mul_lt_mul_of_pos_left hlt (p9pos _)) (Or.inr (by rw [e, Nat.add_sub_cancel]; exact Nat.le_mul_of_pos_left _ hpos))]
  apply List.ext_getElem
  · simp [grpN_length]
  · intro i h1 h2
    rw [grpN_get, List.getElem_set, e]
    rw [grpN_length] at h1
    by_cases h : n / 9 = i
    · rw [if_pos h, ← h, Nat.mul_div_cancel _ (p9pos _), Nat.mod_eq_of_lt hlt]
    · rw [if_neg h, List.getElem_replicate]
      have hi : i < n / 9 := by omega
      have e2 : 1000000000 ^ (n / 9) = 1000000000 ^ i * (1000000000 ^ (n / 9 - i - 1) * 1000000000) := by
        rw [← Nat.pow_succ, ← Nat.pow_add]; congr 1; omega
      rw [e2, ← Nat.mul_assoc, Nat.mul_comm (10 ^ (n % 9)), Nat.mul_assoc, Nat.mul_div_cancel_left _ (p9pos _), ← Nat.mul_assoc, Nat.mul_mod_left]

set_option maxRecDepth 20000 in
set_option maxHeartbeats 800000 in
theorem powerOfTen_any (n : Nat) (w : World) (hn : n ≤ 100000) (hP : Pow9 w) :
    Calls Tryd.prog 84 #[.int .i64 n] w fun e w' => ∃ u, e = .returned u ∧ NatA w' u (grp (10 ^ n)) ∧ Below w.heap.size w w' := by
  obtain ⟨i0, hi, hz0, hz1, hz2⟩ := info_partsZ Tryd.infoWordZ
  have Hi := hid hi
  have Hz0 := hid hz0
  have Hz1 := hid hz1
  have Hz2 := hid hz2
  clear hi hz0 hz1 hz2
  obtain ⟨q, HQ⟩ : ∃ q : Nat, Hid (n / 9 = q) := ⟨_, rfl⟩
  obtain ⟨r, HR⟩ : ∃ r : Nat, Hid (n % 9 = r) := ⟨_, rfl⟩
  have hq1 : ((n : Int)).tdiv 9 = (q : Int) := by rw [Int.tdiv_eq_ediv_of_nonneg (by omega), ← HQ.out]; omega
  have hr1 : ((n : Int)).tmod 9 = (r : Int) := by rw [Int.tmod_eq_emod_of_nonneg (by omega), ← HR.out]; omega
  have hr9 : r < 9 := by have := HR.out; omega
  have hql : q ≤ 20000 := by have := HQ.out; omega
  obtain ⟨t, HT⟩ : ∃ t : Nat, Hid (10 ^ r = t) := ⟨_, rfl⟩
  have HM : Hid (GrA (w.alloc (.cells (madeCells #[Value.int .u64 0] (q + 1)) 52)) w.heap.size (grpN (q + 1) 0)) := made_zero w (q + 1)
  have gP := (hP.alloc (.cells (madeCells #[Value.int .u64 0] (q + 1)) 52)).2 r hr9
  rw [HT.out] at gP
  have fz := HM.out.frozen q
  have HW : Hid (grp (10 ^ n) = (grpN (q + 1) 0).set q t) := by
    show _ = _
    rw [grp_power, HQ.out, HR.out, HT.out]
    congr 1
    apply List.ext_getElem
    · simp [grpN_length]
    · intro i h1 h2; rw [grpN_get, List.getElem_replicate, Nat.zero_div, Nat.zero_mod]
  have c0 : (madeCells #[Value.int .u64 0] (q + 1))[q]? = some (.int .u64 0) := by
    have h1 := (own_new w (madeCells #[Value.int .u64 0] (q + 1)) 52).cell q
    have h2 := HM.out.get q (by rw [grpN_length]; omega)
    rw [grpN_get, Nat.zero_div, Nat.zero_mod] at h2
    exact h1.symm.trans h2
  have HBw : Hid (Below w.heap.size w (w.alloc (.cells (madeCells #[Value.int .u64 0] (q + 1)) 52))) := (Below.refl _ _).alloc (Nat.le_refl _) _
  clear hP
  go_enter Tryd.func84, Tryd.ntmps84
  go_wp2_with (at_make; go_loud (refine wpList_make_new _ rfl _ _ 44 rfl 52 i0 (.int .u64 0) 1 Tryd.underlying44 Hi.out Hz0.out Hz1.out .i64 .i64 (q + 1) rfl rfl (by rw [Hz2.out]; omega) (by unfold maxLen; omega) ?_))
  go_ret
  refine ⟨_, rfl, ?_, (Below.refl _ _).alloc (Nat.le_refl _) _⟩
  rw [HW.out]
  have hE : madeCells #[Value.int .u64 0] (q + 1) = (numL .u64 (grpN (q + 1) 0)).toArray := by
    have h1 := (own_new w (madeCells #[Value.int .u64 0] (q + 1)) 52).symm.trans HM.out
    simp only [Option.some.injEq, Obj.cells.injEq] at h1
    exact h1.1
  have hO : GrA (w.alloc (.cells ((madeCells #[Value.int .u64 0] (q + 1)).setIfInBounds q (.int .u64 (t : Int))) 52)) w.heap.size ((grpN (q + 1) 0).set q t) := by
    have h := own_new w ((madeCells #[Value.int .u64 0] (q + 1)).setIfInBounds q (.int .u64 (t : Int))) 52
    unfold GrA
    have e2 : ((madeCells #[Value.int .u64 0] (q + 1)).setIfInBounds q (.int .u64 (t : Int))) = (numL .u64 ((grpN (q + 1) 0).set q t)).toArray := by
      rw [hE, numL_set]; simp
    rw [← e2]
    exact h
  have h := hO.natA (cap := q + 1) (by simp [grpN_length]) (by unfold maxLen; omega)
  rw [List.length_set, grpN_length] at h
  exact h
end Go.Proofs.YtakicnplmcemnaaDoor
