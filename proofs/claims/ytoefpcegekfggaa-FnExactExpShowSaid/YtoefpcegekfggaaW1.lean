/- The model's l1Show and ExpShow show a form. Condition: the form lies in memory, and what is shown is not too long. -/
import Derived.Test.YtoefpcegekfggaaShow
import Derived.Test.YtoefpcegekfggaaF6
namespace Go.Proofs.Ytoefpcegekfggaa
open Go.RowKit Go.Siskin

theorem bytes_eta (s : ByteArray) : (⟨s.data.toList.toArray⟩ : ByteArray) = s := by cases s; simp
theorem ret_str {l m : List UInt8} (h : l = m) : Ending.returned (.string ⟨l.toArray⟩) = .returned (.string ⟨m.toArray⟩) := by rw [h]

theorem app1 (xs ys : List UInt8) : Value.string ((⟨xs.toArray⟩ : ByteArray) ++ ⟨ys.toArray⟩) = .string ⟨(xs ++ ys).toArray⟩ := by rw [ByteArray.mk_append_mk]
theorem app2 (xs p ys : List UInt8) : Value.string ((⟨xs.toArray⟩ : ByteArray) ++ ⟨p.toArray⟩ ++ ⟨ys.toArray⟩) = .string ⟨(xs ++ p ++ ys).toArray⟩ := by rw [ByteArray.mk_append_mk, ByteArray.mk_append_mk]
theorem app3 (xs p q ys : List UInt8) : Value.string ((⟨xs.toArray⟩ : ByteArray) ++ ⟨p.toArray⟩ ++ ⟨q.toArray⟩ ++ ⟨ys.toArray⟩) = .string ⟨(xs ++ p ++ q ++ ys).toArray⟩ := by rw [ByteArray.mk_append_mk, ByteArray.mk_append_mk, ByteArray.mk_append_mk]

/-- One kid more: the equation of what has been written. -/
theorem sh_eq {xs a b c p q ys zs : List UInt8} (hx : xs = [40] ++ a) (ht : b = a ++ (c ++ ys)) (hc : c = p ++ q) (hz : zs = xs ++ (p ++ q) ++ ys) : zs = [40] ++ b := by
  rw [hz, hx, ht, hc]; simp
theorem sh_len {b zs : List UInt8} (h : zs = [40] ++ b) (hl : b.length + 2 ≤ 1000000) : (zs.length : Int) ≤ 1000000 := by
  rw [h]; simp only [List.length_append, List.length_cons, List.length_nil]; omega

def ShowForm (n : Nat) : Prop := ∀ f : Fm, f.sz ≤ n → ∀ (B : Nat → Prop) (w : World) (c0 c1 c2 c3 c4 : Value), FormAt B w f c0 c1 c2 c3 c4 → (∀ b, B b → b < w.heap.size) → (showF f).length ≤ 1000000 →
    Calls Try.prog 20 #[.agg #[c0, c1, c2, c3, c4]] w fun e w' => e = .returned (.string ⟨(showF f).toArray⟩) ∧ Below w.heap.size w w'

set_option maxHeartbeats 4000000 in
theorem showForm_list (n : Nat) (ih : ShowForm n) (f : Fm) (hf : f.sz ≤ n + 1) (B : Nat → Prop) (w : World) (c0 c1 c2 c3 c4 : Value) (hA : FormAt B w f c0 c1 c2 c3 c4) (hB : ∀ b, B b → b < w.heap.size) (hl : (showF f).length ≤ 1000000) (s1 : f.sort ≠ 1) (s2 : f.sort ≠ 2) :
    Calls Try.prog 20 #[.agg #[c0, c1, c2, c3, c4]] w fun e w' => e = .returned (.string ⟨(showF f).toArray⟩) ∧ Below w.heap.size w w' := by
  obtain ⟨rfl, rfl, ht, h2, rfl, h4⟩ := (formAt_iff _ _ _ _ _ _ _ _).1 hA
  have HX := hid (showF_list f s1 s2)
  have HS := hid (Fm.sz_kids f)
  have HI := hid ih
  have HR := hid hB
  have HL := hid hl
  have b1 : (f.sort == 1) = false := by simpa using s1
  have b2 : (f.sort == 2) = false := by simpa using s2
  obtain ⟨a2, k2, rfl, -⟩ := h2
  obtain ⟨a4, k4, rfl, hl4, ha⟩ := h4
  unfold maxLen at hl4
  clear hA ih hB hl s1 s2
  go_enter Try.func20, Try.ntmps20
  go_wp2_with fail
  go_loopw [3, 4] (fun o i wr => ∃ k : Nat, k ≤ f.kids.length ∧ i = .int .i64 k ∧ ∃ xs : List UInt8, o = .string ⟨xs.toArray⟩ ∧ (xs.length : Int) ≤ 1000000 ∧ Hid (xs = [40] ++ showKs f.sort f.kids.length 0 (f.kids.take k)) ∧ Hid (Below (w.heap.size + 1) (w.alloc (.cells #[.int .i64 f.sort, .string f.text, .slice a2 f.scopes.length k2, .int .i64 f.frm, .slice a4 f.kids.length k4] 30)) wr)) (fun _ i _ => f.kids.length - (intOf i).toNat)
  case atStart => exact ⟨0, Nat.zero_le _, rfl, [40], rfl, by simp, by show _ = _; simp [showKs, joinK], Below.refl _ _⟩
  case round =>
    obtain ⟨k, hk, rfl, xs, rfl, hxs, HO, HB⟩ := hrel
    have hcell : ∀ o, wr.cell? ⟨w.heap.size, o, none⟩ = (w.alloc (.cells #[.int .i64 f.sort, .string f.text, .slice a2 f.scopes.length k2, .int .i64 f.frm, .slice a4 f.kids.length k4] 30)).cell? ⟨w.heap.size, o, none⟩ := fun o => HB.out.cell (p := ⟨w.heap.size, o, none⟩) (by simp)
    by_cases hlt : k < f.kids.length
    · rcases ha with ha | ⟨ba, oa, rfl, hb, ha⟩
      · rw [ha] at hlt; simp at hlt
      have hrow := RowAt.keep (((SameOn.refl _ _).alloc HR.out _).below HB.out (fun b hb => by have := HR.out b hb; omega)) hb f.kids ha
      obtain ⟨c0, c1, c2, c3, c4, g0, g1, g2, g3, g4, hf'⟩ := RowAt.get f.kids hrow k hlt
      have hsz := HB.out.size
      have HT := hid (showKs_take f.sort f.kids.length f.kids k hlt)
      have hle : (showKs f.sort f.kids.length 0 (f.kids.take (k + 1))).length + 2 ≤ 1000000 := by
        have h1 := showKs_le f.sort f.kids.length f.kids 0 (k + 1)
        have h2 := HL.out
        rw [HX.out] at h2
        simp only [List.length_append, List.length_cons, List.length_nil] at h2
        omega
      have hle2 : (showF f.kids[k]).length + 2 ≤ 1000000 := by
        have h3 := hle
        rw [HT.out] at h3
        simp only [List.length_append] at h3
        omega
      have HLE := hid hle
      have HC := hid (HI.out f.kids[k] (by have := Fm.szs_get f.kids k hlt; have := HS.out; omega) B wr c0 c1 c2 c3 c4 hf' (fun b hb => by have := HR.out b hb; simp at hsz; omega) (by omega))
      clear ha hrow hf' HI hle
      obtain ⟨ys, hys⟩ : ∃ ys, ys = showF f.kids[k] := ⟨_, rfl⟩
      rw [← hys] at HC HT hle2
      have hy : (ys.length : Int) ≤ 1000000 := by omega
      have HY := hid hys
      clear hys
      have cond : ∀ (p q : List UInt8), (if 0 < k then [(32 : UInt8)] else []) = p → (if f.sort = 4 ∧ k + 1 = f.kids.length then [(46 : UInt8), 32] else []) = q → (if 0 < k then [(32 : UInt8)] else []) ++ (if f.sort = 4 ∧ k + 1 = f.kids.length then [(46 : UInt8), 32] else []) = p ++ q := fun p q h1 h2 => by rw [h1, h2]
      have HCD := hid cond
      clear cond
      by_cases hk0 : 0 < k
      · have hk0' : (0 : Int) < (k : Int) := by omega
        have HP := hid (if_pos (c := 0 < k) hk0 : (if 0 < k then [(32 : UInt8)] else []) = [32])
        by_cases h4 : f.sort = 4 ∧ k + 1 = f.kids.length
        · have b4 : (f.sort == 4) = true := by simpa using h4.1
          have b5 : ((k : Int) + 1 == (f.kids.length : Int)) = true := by simp; omega
          have HQ := hid (if_pos (c := f.sort = 4 ∧ k + 1 = f.kids.length) h4 : (if f.sort = 4 ∧ k + 1 = f.kids.length then [(46 : UInt8), 32] else []) = [46, 32])
          clear h4
          go_wp2_with (go_at_call 20; refine HC.out.mono ?_; rintro e w' ⟨rfl, hw⟩)
          exact ⟨⟨k + 1, by omega, by go_num, _, app3 xs [32] [46, 32] ys, sh_len (sh_eq HO.out HT.out (HCD.out _ _ HP.out HQ.out) (by simp)) HLE.out, sh_eq HO.out HT.out (HCD.out _ _ HP.out HQ.out) (by simp), HB.out.trans (hw.mono (by simpa using hsz))⟩, by simp [intOf]; omega⟩
        · have HQ := hid (if_neg (c := f.sort = 4 ∧ k + 1 = f.kids.length) h4 : (if f.sort = 4 ∧ k + 1 = f.kids.length then [(46 : UInt8), 32] else []) = [])
          by_cases h5 : f.sort = 4
          · have b4 : (f.sort == 4) = true := by simpa using h5
            have b5 : ((k : Int) + 1 == (f.kids.length : Int)) = false := by simp; omega
            clear h4 h5
            go_wp2_with (go_at_call 20; refine HC.out.mono ?_; rintro e w' ⟨rfl, hw⟩)
            exact ⟨⟨k + 1, by omega, by go_num, _, app2 xs [32] ys, sh_len (sh_eq HO.out HT.out (HCD.out _ _ HP.out HQ.out) (by simp)) HLE.out, sh_eq HO.out HT.out (HCD.out _ _ HP.out HQ.out) (by simp), HB.out.trans (hw.mono (by simpa using hsz))⟩, by simp [intOf]; omega⟩
          · have b4 : (f.sort == 4) = false := by simpa using h5
            clear h4 h5
            go_wp2_with (go_at_call 20; refine HC.out.mono ?_; rintro e w' ⟨rfl, hw⟩)
            exact ⟨⟨k + 1, by omega, by go_num, _, app2 xs [32] ys, sh_len (sh_eq HO.out HT.out (HCD.out _ _ HP.out HQ.out) (by simp)) HLE.out, sh_eq HO.out HT.out (HCD.out _ _ HP.out HQ.out) (by simp), HB.out.trans (hw.mono (by simpa using hsz))⟩, by simp [intOf]; omega⟩
      · have hk0' : ¬ (0 : Int) < (k : Int) := by omega
        have HP := hid (if_neg (c := 0 < k) hk0 : (if 0 < k then [(32 : UInt8)] else []) = [])
        by_cases h4 : f.sort = 4 ∧ k + 1 = f.kids.length
        · have b4 : (f.sort == 4) = true := by simpa using h4.1
          have b5 : ((k : Int) + 1 == (f.kids.length : Int)) = true := by simp; omega
          have HQ := hid (if_pos (c := f.sort = 4 ∧ k + 1 = f.kids.length) h4 : (if f.sort = 4 ∧ k + 1 = f.kids.length then [(46 : UInt8), 32] else []) = [46, 32])
          clear h4
          go_wp2_with (go_at_call 20; refine HC.out.mono ?_; rintro e w' ⟨rfl, hw⟩)
          exact ⟨⟨k + 1, by omega, by go_num, _, app2 xs [46, 32] ys, sh_len (sh_eq HO.out HT.out (HCD.out _ _ HP.out HQ.out) (by simp)) HLE.out, sh_eq HO.out HT.out (HCD.out _ _ HP.out HQ.out) (by simp), HB.out.trans (hw.mono (by simpa using hsz))⟩, by simp [intOf]; omega⟩
        · have HQ := hid (if_neg (c := f.sort = 4 ∧ k + 1 = f.kids.length) h4 : (if f.sort = 4 ∧ k + 1 = f.kids.length then [(46 : UInt8), 32] else []) = [])
          by_cases h5 : f.sort = 4
          · have b4 : (f.sort == 4) = true := by simpa using h5
            have b5 : ((k : Int) + 1 == (f.kids.length : Int)) = false := by simp; omega
            clear h4 h5
            go_wp2_with (go_at_call 20; refine HC.out.mono ?_; rintro e w' ⟨rfl, hw⟩)
            exact ⟨⟨k + 1, by omega, by go_num, _, app1 xs ys, sh_len (sh_eq HO.out HT.out (HCD.out _ _ HP.out HQ.out) (by simp)) HLE.out, sh_eq HO.out HT.out (HCD.out _ _ HP.out HQ.out) (by simp), HB.out.trans (hw.mono (by simpa using hsz))⟩, by simp [intOf]; omega⟩
          · have b4 : (f.sort == 4) = false := by simpa using h5
            clear h4 h5
            go_wp2_with (go_at_call 20; refine HC.out.mono ?_; rintro e w' ⟨rfl, hw⟩)
            exact ⟨⟨k + 1, by omega, by go_num, _, app1 xs ys, sh_len (sh_eq HO.out HT.out (HCD.out _ _ HP.out HQ.out) (by simp)) HLE.out, sh_eq HO.out HT.out (HCD.out _ _ HP.out HQ.out) (by simp), HB.out.trans (hw.mono (by simpa using hsz))⟩, by simp [intOf]; omega⟩
    · go_wp2_with fail
      go_ret
      refine ⟨?_, ((Below.refl _ _).alloc (Nat.le_refl _) _).trans (HB.out.mono (by omega))⟩
      have h := HO.out
      rw [List.take_of_length_le (by omega)] at h
      rw [HX.out, ← h]
      exact congrArg Ending.returned (app1 xs [41])

set_option maxHeartbeats 1000000 in
theorem showForm_of (n : Nat) (ih : ShowForm n) : ShowForm (n + 1) := by
  intro f hf B w c0 c1 c2 c3 c4 hA hB hl
  by_cases s1 : f.sort = 1
  · have HX := hid (showF_leaf f (Or.inl s1))
    obtain ⟨rfl, rfl, ht, h2, rfl, h4⟩ := (formAt_iff _ _ _ _ _ _ _ _).1 hA
    rw [s1]
    clear hA ih hB h2 h4 hl s1
    go_enter Try.func20, Try.ntmps20
    go_wp2_with fail
    go_ret
    exact ⟨by rw [HX.out, bytes_eta]; rfl, (Below.refl _ _).alloc (Nat.le_refl _) _⟩
  by_cases s2 : f.sort = 2
  · have HX := hid (showF_leaf f (Or.inr s2))
    obtain ⟨rfl, rfl, ht, h2, rfl, h4⟩ := (formAt_iff _ _ _ _ _ _ _ _).1 hA
    rw [s2]
    clear hA ih hB h2 h4 hl s1 s2
    go_enter Try.func20, Try.ntmps20
    go_wp2_with fail
    go_ret
    exact ⟨by rw [HX.out, bytes_eta]; rfl, (Below.refl _ _).alloc (Nat.le_refl _) _⟩
  exact showForm_list n ih f hf B w c0 c1 c2 c3 c4 hA hB hl s1 s2

theorem showForm_all : ∀ n, ShowForm n
  | 0 => fun f hf => by have := Fm.sz_kids f; omega
  | n + 1 => showForm_of n (showForm_all n)

/-- What the model shows. -/
def shown (f : Fm) : List UInt8 := if formOk f = true then showF f else []
theorem shown_short {f : Fm} (h : formOk f = true) : (showF f).length ≤ 1000000 := by
  unfold formOk at h
  rw [Bool.and_eq_true, decide_eq_true_eq] at h
  have := showF_short f.sz f 0 (Nat.le_refl _) h.1
  omega

set_option maxHeartbeats 1000000 in
theorem specShow_any (f : Fm) (B : Nat → Prop) (w : World) (c0 c1 c2 c3 c4 : Value) (hA : FormAt B w f c0 c1 c2 c3 c4) (hB : ∀ b, B b → b < w.heap.size) (hc : f.cost ≤ 1048576) :
    Calls Try.prog 7 #[.agg #[c0, c1, c2, c3, c4]] w fun e w' => e = .returned (.string ⟨(shown f).toArray⟩) ∧ Below w.heap.size w w' := by
  have HA := hid hA
  have HR := hid hB
  have H1 := hid (fun o : Obj => specFormOk_any f B (w.alloc o) c0 c1 c2 c3 c4 (FormAt.keep ((SameOn.refl _ _).alloc hB _) _ hA) (fun b hb => by have := hB b hb; simp; omega) hc)
  obtain ⟨rfl, rfl, -, h2, rfl, h4⟩ := (formAt_iff _ _ _ _ _ _ _ _).1 hA
  obtain ⟨a2, k2, rfl, -⟩ := h2
  obtain ⟨a4, k4, rfl, -⟩ := h4
  clear hA hB
  go_enter Try.func7, Try.ntmps7
  go_wp2_with fail
  refine (H1.out _).mono ?_
  rintro e w1 ⟨rfl, hw⟩
  obtain ⟨hc1, -⟩ := bcell hw
  have hz1 : w.heap.size < w1.heap.size := by have := hw.size; simp at this; omega
  have HW := hid (((Below.refl w.heap.size w).alloc (Nat.le_refl _) _).trans (hw.mono (by simp)))
  clear hw H1
  cases hok : formOk f with
  | false =>
    go_wp2_with fail
    go_ret
    exact ⟨by unfold shown; rw [if_neg (by rw [hok]; decide)]; rfl, HW.out⟩
  | true =>
    go_wp2_with fail
    refine (showForm_all f.sz f (Nat.le_refl _) B w1 _ _ _ _ _ (FormAt.keep (HW.out.on HR.out) _ HA.out) (fun b hb => by have := HR.out b hb; omega) (shown_short hok)).mono ?_
    rintro e w2 ⟨rfl, hw2⟩
    go_wp2_with fail
    go_ret
    exact ⟨by unfold shown; rw [if_pos hok]; rfl, HW.out.trans (hw2.mono (by omega))⟩

end Go.Proofs.Ytoefpcegekfggaa
