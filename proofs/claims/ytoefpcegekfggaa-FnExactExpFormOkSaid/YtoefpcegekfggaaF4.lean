/- The model's l1Size returns how many forms a form is. Condition: the form lies in memory, and is not too great. -/
import Derived.Test.YtoefpcegekfggaaF1
import Derived.Test.YtoefpcegekfggaaT4
namespace Go.Proofs.Ytoefpcegekfggaa
open Go.RowKit Go.Siskin

def SizeForm (n : Nat) : Prop := ∀ f : Fm, f.sz ≤ n → ∀ (B : Nat → Prop) (w : World) (c0 c1 c2 c3 c4 : Value), FormAt B w f c0 c1 c2 c3 c4 → (∀ b, B b → b < w.heap.size) → f.sz ≤ 2000000 →
    Calls Try.prog 28 #[.agg #[c0, c1, c2, c3, c4]] w fun e w' => e = .returned (.int .i64 f.sz) ∧ Below w.heap.size w w'

set_option maxHeartbeats 1000000 in
theorem sizeForm_of (n : Nat) (ih : SizeForm n) : SizeForm (n + 1) := by
  intro f hf B w c0 c1 c2 c3 c4 hA hB h0
  obtain ⟨rfl, rfl, ht, h2, rfl, h4⟩ := (formAt_iff _ _ _ _ _ _ _ _).1 hA
  have HS := hid (Fm.sz_kids f)
  have H4 := hid h4
  have HI := hid ih
  have HR := hid hB
  obtain ⟨a, ca, rfl, hla, ha⟩ := h4
  unfold maxLen at hla
  clear hA ih hB h2
  go_enter Try.func28, Try.ntmps28
  go_wp2_with fail
  go_loopw [3, 4] (fun s i wr => ∃ k : Nat, k ≤ f.kids.length ∧ i = .int .i64 k ∧ ∃ m : Nat, s = .int .i64 m ∧ m ≤ 2000000 ∧ Hid (m = 1 + Fm.szs (f.kids.take k)) ∧ Hid (Below (w.heap.size + 1) (w.alloc (.cells #[.int .i64 f.sort, .string f.text, c2, .int .i64 f.frm, .slice a f.kids.length ca] 30)) wr)) (fun _ i _ => f.kids.length - (intOf i).toNat)
  case atStart => exact ⟨0, Nat.zero_le _, rfl, 1, rfl, by omega, by show _ = _; simp [Fm.szs], Below.refl _ _⟩
  case round =>
    obtain ⟨k, hk, rfl, m, rfl, hm, HM, HB⟩ := hrel
    have hcell : ∀ o, wr.cell? ⟨w.heap.size, o, none⟩ = (w.alloc (.cells #[.int .i64 f.sort, .string f.text, c2, .int .i64 f.frm, .slice a f.kids.length ca] 30)).cell? ⟨w.heap.size, o, none⟩ := fun o => HB.out.cell (p := ⟨w.heap.size, o, none⟩) (by simp)
    by_cases hlt : k < f.kids.length
    · rcases ha with ha | ⟨ba, oa, rfl, hb, ha⟩
      · rw [ha] at hlt; simp at hlt
      have hrow := RowAt.keep (((SameOn.refl _ _).alloc HR.out _).below HB.out (fun b hb => by have := HR.out b hb; omega)) hb f.kids ha
      obtain ⟨c0, c1, c2', c3, c4, g0, g1, g2, g3, g4, hf'⟩ := RowAt.get f.kids hrow k hlt
      have HT := hid (Fm.szs_take f.kids k hlt)
      have HL := hid (Fm.szs_take_le f.kids (k + 1))
      have hsz := HB.out.size
      have HC := hid (HI.out f.kids[k] (by have := Fm.szs_get f.kids k hlt; have := HS.out; omega) B wr c0 c1 c2' c3 c4 hf' (fun b hb => by have := HR.out b hb; simp at hsz; omega) (by have := Fm.szs_get f.kids k hlt; have := HS.out; omega))
      have hle : (f.kids[k].sz : Int) ≤ 2000000 := by have := Fm.szs_get f.kids k hlt; have := HS.out; omega
      clear ha hrow hf' HI
      go_wp2_with (go_at_call 28; refine HC.out.mono ?_; rintro e w' ⟨rfl, hw⟩)
      have h1 := HM.out
      have h2 := HT.out
      have h3 := HL.out
      have h4 := HS.out
      exact ⟨⟨k + 1, by omega, by go_num, m + f.kids[k].sz, by go_num, by omega, by show _ = _; omega, HB.out.trans (hw.mono (by simpa using hsz))⟩, by simp [intOf]; omega⟩
    · go_wp2_with fail
      go_ret
      refine ⟨ret_int ?_, ((Below.refl _ _).alloc (Nat.le_refl _) _).trans (HB.out.mono (by omega))⟩
      have h1 := HM.out
      have h2 := HS.out
      rw [List.take_of_length_le (by omega)] at h1
      omega

theorem sizeForm_all : ∀ n, SizeForm n
  | 0 => fun f hf => by have := Fm.sz_kids f; omega
  | n + 1 => sizeForm_of n (sizeForm_all n)

theorem l1Size_any (f : Fm) (B : Nat → Prop) (w : World) (c0 c1 c2 c3 c4 : Value) (h : FormAt B w f c0 c1 c2 c3 c4) (hB : ∀ b, B b → b < w.heap.size) (h0 : f.sz ≤ 2000000) :
    Calls Try.prog 28 #[.agg #[c0, c1, c2, c3, c4]] w fun e w' => e = .returned (.int .i64 f.sz) ∧ Below w.heap.size w w' :=
  sizeForm_all f.sz f (Nat.le_refl _) B w c0 c1 c2 c3 c4 h hB h0

end Go.Proofs.Ytoefpcegekfggaa
