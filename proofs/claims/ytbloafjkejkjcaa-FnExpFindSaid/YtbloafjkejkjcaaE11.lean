/- The law FnExpFind returns true, and nothing that was there has turned. Condition: the code's bytes lie in memory as BytesAt says. -/
import Derived.Test.YtbloafjkejkjcaaE9
import Derived.Test.YtbloafjkejkjcaaE10
import Derived.Test.YtbloafjkejkjcaaD5
namespace Go.Proofs.Ytbloafjkejkjcaa
open Go.RowKit Go.Siskin

/-- The name of the last one for which p holds. -/
def overP (p : Bd → Bool) (l : List Bd) : ByteArray := match l.reverse.find? p with | some d => d.name | none => ⟨#[]⟩
theorem over_yes {p : Bd → Bool} {ks : List Bd} {k : Nat} (h : k < ks.length) (hp : p ks[k] = true) : overP p (ks.take (k + 1)) = ks[k].name := by
  unfold overP
  rw [List.take_succ_eq_append_getElem h, List.reverse_append, List.reverse_singleton, List.singleton_append, List.find?_cons_of_pos hp]
theorem over_no {p : Bd → Bool} {ks : List Bd} {k : Nat} (h : k < ks.length) (hp : p ks[k] = false) : overP p (ks.take (k + 1)) = overP p (ks.take k) := by
  unfold overP
  rw [List.take_succ_eq_append_getElem h, List.reverse_append, List.reverse_singleton, List.singleton_append, List.find?_cons_of_neg (by rw [hp]; decide)]
def fitsN (p : Bd → Bool) (l : List Bd) : Nat := (l.filter p).length
theorem fitsN_yes {p : Bd → Bool} {ks : List Bd} {k : Nat} (h : k < ks.length) (hp : p ks[k] = true) : fitsN p (ks.take (k + 1)) = fitsN p (ks.take k) + 1 := by
  unfold fitsN
  rw [List.take_succ_eq_append_getElem h, List.filter_append]; simp [hp]
theorem fitsN_no {p : Bd → Bool} {ks : List Bd} {k : Nat} (h : k < ks.length) (hp : p ks[k] = false) : fitsN p (ks.take (k + 1)) = fitsN p (ks.take k) := by
  unfold fitsN
  rw [List.take_succ_eq_append_getElem h, List.filter_append]; simp [hp]
theorem fitsN_le (p : Bd → Bool) (l : List Bd) : fitsN p l ≤ l.length := List.length_filter_le _ _
theorem all_take {p : Bd → Bool} {ks : List Bd} {k : Nat} (h : k < ks.length) : (ks.take (k + 1)).all p = ((ks.take k).all p && p ks[k]) := by
  rw [List.take_succ_eq_append_getElem h, List.all_append]; simp

/-- What the law holds at its end: none fits; one is best; some fit, none is best. -/
theorem find_three (ks : List Bd) (t : ByteArray) (sc : List Int) (hn : ∀ d ∈ ks, d.name.size = 2) :
    (fitsN (fitsB t sc) ks = 0 ∧ findAns ks t sc = (⟨#[]⟩, 0)) ∨ (fitsN (fitsB t sc) ks ≠ 0 ∧ (overP (bestB ks t sc) ks).size = 2 ∧ findAns ks t sc = (overP (bestB ks t sc) ks, 1)) ∨ (fitsN (fitsB t sc) ks ≠ 0 ∧ overP (bestB ks t sc) ks = ⟨#[]⟩ ∧ findAns ks t sc = (⟨#[]⟩, 2)) := by
  have hany : ks.any (fitsB t sc) = true ↔ fitsN (fitsB t sc) ks ≠ 0 := by
    unfold fitsN
    rw [List.any_eq_true]
    constructor
    · rintro ⟨d, h1, h2⟩ h0
      have := List.mem_filter.2 ⟨h1, h2⟩
      rw [List.length_eq_zero_iff.1 h0] at this
      cases this
    · intro h0
      cases hf : ks.filter (fitsB t sc) with
      | nil => rw [hf] at h0; exact absurd rfl h0
      | cons d r =>
        have : d ∈ ks.filter (fitsB t sc) := by rw [hf]; exact List.mem_cons_self
        obtain ⟨h1, h2⟩ := List.mem_filter.1 this
        exact ⟨d, h1, h2⟩
  unfold findAns overP
  cases hf : ks.reverse.find? (bestB ks t sc) with
  | some d =>
    have hd : d ∈ ks := List.mem_reverse.1 (List.mem_of_find?_eq_some hf)
    have hb : bestB ks t sc d = true := List.find?_some hf
    have hfit : fitsB t sc d = true := by unfold bestB at hb; rw [Bool.and_eq_true] at hb; exact hb.1
    exact Or.inr (Or.inl ⟨hany.1 (List.any_eq_true.2 ⟨d, hd, hfit⟩), hn d hd, rfl⟩)
  | none =>
    by_cases h0 : fitsN (fitsB t sc) ks = 0
    · have : ks.any (fitsB t sc) = false := by
        cases h : ks.any (fitsB t sc) with
        | false => rfl
        | true => exact absurd h0 (hany.1 h)
      exact Or.inl ⟨h0, by simp only []; rw [this]; rfl⟩
    · exact Or.inr (Or.inr ⟨h0, rfl, by simp only []; rw [hany.2 h0]; rfl⟩)

theorem tl_empty {s : ByteArray} (h : s.size = 2) : (s.toList == []) = false := by
  rw [Go.ByteArray.toList_eq, beq_eq_false_iff_ne]
  intro e
  have : s.data.toList.length = 2 := by simpa using h
  rw [e] at this
  cases this

theorem kept8 {wr w4 : World} {ba o I : Nat} {b0 b1 b2 c0 c1 c2 c3 c4 : Value} (hw : Below wr.heap.size wr.drew w4) (hb : ba < wr.heap.size) (hI : I < wr.heap.size)
    (h : (wr.drew.cell? ⟨ba, o, none⟩ = some b0 ∧ wr.drew.cell? ⟨ba, o + 1, none⟩ = some b1 ∧ wr.drew.cell? ⟨ba, o + 2, none⟩ = some b2) ∧ wr.drew.cell? ⟨I, 0, none⟩ = some c0 ∧ wr.drew.cell? ⟨I, 1, none⟩ = some c1 ∧ wr.drew.cell? ⟨I, 2, none⟩ = some c2 ∧ wr.drew.cell? ⟨I, 3, none⟩ = some c3 ∧ wr.drew.cell? ⟨I, 4, none⟩ = some c4) :
    (w4.cell? ⟨ba, o, none⟩ = some b0 ∧ w4.cell? ⟨ba, o + 1, none⟩ = some b1 ∧ w4.cell? ⟨ba, o + 2, none⟩ = some b2) ∧ w4.cell? ⟨I, 0, none⟩ = some c0 ∧ w4.cell? ⟨I, 1, none⟩ = some c1 ∧ w4.cell? ⟨I, 2, none⟩ = some c2 ∧ w4.cell? ⟨I, 3, none⟩ = some c3 ∧ w4.cell? ⟨I, 4, none⟩ = some c4 := by
  obtain ⟨⟨h0, h1, h2⟩, i0, i1, i2, i3, i4⟩ := h
  exact ⟨⟨(hw.cell (p := ⟨ba, o, none⟩) hb).trans h0, (hw.cell (p := ⟨ba, o + 1, none⟩) hb).trans h1, (hw.cell (p := ⟨ba, o + 2, none⟩) hb).trans h2⟩, (hw.cell (p := ⟨I, 0, none⟩) hI).trans i0, (hw.cell (p := ⟨I, 1, none⟩) hI).trans i1, (hw.cell (p := ⟨I, 2, none⟩) hI).trans i2, (hw.cell (p := ⟨I, 3, none⟩) hI).trans i3, (hw.cell (p := ⟨I, 4, none⟩) hI).trans i4⟩

theorem kept9 {wr w4 : World} {ba o o2 I : Nat} {b0 b1 b2 c0 c1 c2 c3 c4 d : Value} (hw : Below wr.heap.size wr.drew w4) (hb : ba < wr.heap.size) (hI : I < wr.heap.size)
    (h : ((wr.drew.cell? ⟨ba, o, none⟩ = some b0 ∧ wr.drew.cell? ⟨ba, o + 1, none⟩ = some b1 ∧ wr.drew.cell? ⟨ba, o + 2, none⟩ = some b2) ∧ wr.drew.cell? ⟨I, 0, none⟩ = some c0 ∧ wr.drew.cell? ⟨I, 1, none⟩ = some c1 ∧ wr.drew.cell? ⟨I, 2, none⟩ = some c2 ∧ wr.drew.cell? ⟨I, 3, none⟩ = some c3 ∧ wr.drew.cell? ⟨I, 4, none⟩ = some c4) ∧ wr.drew.cell? ⟨ba, o2 + 1, none⟩ = some d) :
    ((w4.cell? ⟨ba, o, none⟩ = some b0 ∧ w4.cell? ⟨ba, o + 1, none⟩ = some b1 ∧ w4.cell? ⟨ba, o + 2, none⟩ = some b2) ∧ w4.cell? ⟨I, 0, none⟩ = some c0 ∧ w4.cell? ⟨I, 1, none⟩ = some c1 ∧ w4.cell? ⟨I, 2, none⟩ = some c2 ∧ w4.cell? ⟨I, 3, none⟩ = some c3 ∧ w4.cell? ⟨I, 4, none⟩ = some c4) ∧ w4.cell? ⟨ba, o2 + 1, none⟩ = some d :=
  ⟨kept8 hw hb hI h.1, (hw.cell (p := ⟨ba, o2 + 1, none⟩) hb).trans h.2⟩

set_option maxRecDepth 20000 in
set_option maxHeartbeats 8000000 in
theorem lawFnFind_any (R : Nat → Prop) (w : World) (n : Nat) (v : Value) (hv : BytesAt R w v n) (hR : ∀ b, R b → b < w.heap.size) :
    Calls Try.prog 3 #[v] w fun e w' => e = .returned (.bool true) ∧ Below w.heap.size w w' := by
  have HV := hid hv
  have HR := hid hR
  obtain ⟨va, vc, rfl, ⟨hvl, hvm⟩, -⟩ := hv
  unfold maxLen at hvm
  clear hR
  by_cases hbig : 1048576 < n
  · go_enter Try.func3, Try.ntmps3
    go_wp2_with fail
    go_ret
    exact ⟨rfl, Below.refl _ _⟩
  go_enter Try.func3, Try.ntmps3
  go_wp2_with fail
  refine (drawFind_any R w n _ HV.out (by omega) HR.out).mono ?_
  rintro e w1 ⟨u, ks, c0, c1, c2, c3, c4, f, rfl, hu, hf, hk5, hkc, hfc, hkn, hw1⟩
  have HU := hid hu
  have HF := hid hf
  have HW := hid hw1
  have HN := hid hkn
  have hs1 := hw1.size
  obtain ⟨rfl, rfl, ht, h2, rfl, h4⟩ := (formAt_iff _ _ _ _ _ _ _ _).1 hf
  obtain ⟨x2, y2, rfl, -⟩ := h2
  obtain ⟨x4, y4, rfl, -⟩ := h4
  obtain ⟨ua, uc, rfl, hul, ha⟩ := hu
  clear hf hw1 hkn
  have HQ := hid (fun b (hb : Fresh w w1 b) => hb.2)
  go_wp2_with fail
  refine (implFind_any ks f (Fresh w w1) (w1.alloc _) _ _ _ _ _ _ (HU.out.keep ((SameOn.refl _ _).alloc HQ.out _)) (FormAt.keep ((SameOn.refl _ _).alloc HQ.out _) _ HF.out) (fun b hb => by have := hb.2; simp; omega) (by omega) (by omega)).mono ?_
  rintro e w2 ⟨rfl, hw2⟩
  simp only [World.size_alloc] at hw2
  have HW2 := hid hw2
  clear hw2
  obtain ⟨⟨a0, a1, a2, a3, a4⟩, -⟩ := own_ten ((own_new w1 #[.int .i64 f.sort, .string f.text, .slice x2 f.scopes.length y2, .int .i64 f.frm, .slice x4 f.kids.length y4] 27).keep HW2.out (by omega))
  have hs2 := HW2.out.size
  simp only [World.size_alloc] at hs2
  go_wp2_with fail
  refine (specFind_any ks f (Fresh w w1) w2 _ _ _ _ _ _ (HU.out.keep (bx_on HW2.out HQ.out)) (FormAt.keep (bx_on HW2.out HQ.out) _ HF.out) (fun b hb => by have := hb.2; omega)).mono ?_
  rintro e w3 ⟨rfl, hw3⟩
  have HW3 := hid (bx_step HW2.out hw3)
  clear hw3 a0 a1 a2 a3 a4
  go_wp2_with fail
  have hfin := find_three ks f.text f.scopes HN.out
  have HT := hid hfin
  clear hfin
  have HFD : Hid (findF ks f = if f.sort = 1 then findAns ks f.text f.scopes else (⟨#[]⟩, 0)) := rfl
  generalize findF ks f = A at *
  go_loopw [9, 10, 11] (fun fi ov i wr => ∃ k : Nat, k ≤ ks.length ∧ i = .int .i64 k ∧ fi = .int .i64 (fitsN (fitsB f.text f.scopes) (ks.take k) : Nat) ∧ ov = .string (overP (bestB ks f.text f.scopes) (ks.take k)) ∧ Hid (Below (w1.heap.size + 1) (w1.alloc (.cells #[.int .i64 f.sort, .string f.text, .slice x2 f.scopes.length y2, .int .i64 f.frm, .slice x4 f.kids.length y4] 27)) wr)) (fun _ _ i _ => ks.length - (intOf i).toNat)
  case atStart => exact ⟨0, Nat.zero_le _, rfl, rfl, rfl, HW3⟩
  case round =>
    obtain ⟨k, hk, rfl, rfl, rfl, HB⟩ := hrel
    have hsz := HB.out.size
    simp only [World.size_alloc] at hsz
    have hfl := fitsN_le (fitsB f.text f.scopes) (ks.take k)
    rw [List.length_take] at hfl
    have HI := hid ((own_new w1 #[.int .i64 f.sort, .string f.text, .slice x2 f.scopes.length y2, .int .i64 f.frm, .slice x4 f.kids.length y4] 27).keep HB.out (by omega))
    by_cases hlt : k < ks.length
    · rcases ha with ha | ⟨ba, oa, rfl, hba, ha⟩
      · subst ha; simp at hlt
      have HRow := hid (ha.keep (bx_on HB.out HQ.out) hba)
      obtain ⟨k0, k1, k2, g0, g1, g2, hd⟩ := HRow.out k hlt
      have HD := hid hd
      obtain ⟨rfl, -, h2, rfl, -⟩ := hd
      obtain ⟨r2, j2, rfl, -⟩ := h2
      have hbaw : ba < wr.heap.size := by have := hba.2; omega
      have HC := hid (wxFits_any ks[k] f (Fresh w w1) (Fresh w w1) wr.drew _ _ _ _ _ _ _ _ (HD.out.keep (SameOn.drew _ _)) (FormAt.keep (SameOn.drew _ _) _ (FormAt.keep (bx_on HB.out HQ.out) _ HF.out)) (fun b hb => by have := hb.2; show b < wr.heap.size; omega) (fun b hb => by have := hb.2; show b < wr.heap.size; omega))
      have K0 : Hid ((wr.drew.cell? ⟨ba, oa + k * 3, none⟩ = some (.string ks[k].text) ∧ wr.drew.cell? ⟨ba, oa + k * 3 + 1, none⟩ = some (.slice r2 ks[k].scopes.length j2) ∧ wr.drew.cell? ⟨ba, oa + k * 3 + 2, none⟩ = some (.string ks[k].name)) ∧ wr.drew.cell? ⟨w1.heap.size, 0, none⟩ = some (.int .i64 f.sort) ∧ wr.drew.cell? ⟨w1.heap.size, 1, none⟩ = some (.string f.text) ∧ wr.drew.cell? ⟨w1.heap.size, 2, none⟩ = some (.slice x2 f.scopes.length y2) ∧ wr.drew.cell? ⟨w1.heap.size, 3, none⟩ = some (.int .i64 f.frm) ∧ wr.drew.cell? ⟨w1.heap.size, 4, none⟩ = some (.slice x4 f.kids.length y4)) := ⟨⟨g0, g1, g2⟩, (own_ten HI.out).1⟩
      cases hx : fitsB f.text f.scopes ks[k] with
      | false =>
        have hc := HC.out
        rw [hx] at hc
        have HC := hid hc
        have HN1 := hid (fitsN_no hlt hx)
        have HN2 := hid (over_no (p := bestB ks f.text f.scopes) hlt (by unfold bestB; rw [hx]; rfl))
        clear hc hx g0 g1 g2
        go_wp2_with fail
        go_region_held3 (fun w' => (w'.cell? ⟨ba, oa + k * 3, none⟩ = some (.string ks[k].text) ∧ w'.cell? ⟨ba, oa + k * 3 + 1, none⟩ = some (.slice r2 ks[k].scopes.length j2) ∧ w'.cell? ⟨ba, oa + k * 3 + 2, none⟩ = some (.string ks[k].name)) ∧ w'.cell? ⟨w1.heap.size, 0, none⟩ = some (.int .i64 f.sort) ∧ w'.cell? ⟨w1.heap.size, 1, none⟩ = some (.string f.text) ∧ w'.cell? ⟨w1.heap.size, 2, none⟩ = some (.slice x2 f.scopes.length y2) ∧ w'.cell? ⟨w1.heap.size, 3, none⟩ = some (.int .i64 f.frm) ∧ w'.cell? ⟨w1.heap.size, 4, none⟩ = some (.slice x4 f.kids.length y4)) (first | exact K1.out | exact K0.out)
          (first
            | (go_at_call 7
               refine HC.out.mono ?_
               rintro e w4 ⟨rfl, hw4⟩
               have K1 := hid (kept8 hw4 hbaw (show w1.heap.size < wr.heap.size by omega) K0.out)
               have HB4 := hid (bx_step HB.out.drew hw4)
               clear hw4))
        go_wp2_with fail
        exact ⟨⟨k + 1, by omega, by go_num, by rw [HN1.out], by rw [HN2.out], HB4⟩, by simp [intOf]; omega⟩
      | true =>
        have hc := HC.out
        rw [hx] at hc
        have HC := hid hc
        have HN1 := hid (fitsN_yes hlt hx)
        have HX := hid hx
        clear hc hx g0 g1 g2
        go_wp2_with fail
        go_region_held3 (fun w' => (w'.cell? ⟨ba, oa + k * 3, none⟩ = some (.string ks[k].text) ∧ w'.cell? ⟨ba, oa + k * 3 + 1, none⟩ = some (.slice r2 ks[k].scopes.length j2) ∧ w'.cell? ⟨ba, oa + k * 3 + 2, none⟩ = some (.string ks[k].name)) ∧ w'.cell? ⟨w1.heap.size, 0, none⟩ = some (.int .i64 f.sort) ∧ w'.cell? ⟨w1.heap.size, 1, none⟩ = some (.string f.text) ∧ w'.cell? ⟨w1.heap.size, 2, none⟩ = some (.slice x2 f.scopes.length y2) ∧ w'.cell? ⟨w1.heap.size, 3, none⟩ = some (.int .i64 f.frm) ∧ w'.cell? ⟨w1.heap.size, 4, none⟩ = some (.slice x4 f.kids.length y4)) (first | exact K1.out | exact K0.out)
          (first
            | (go_at_call 7
               refine HC.out.mono ?_
               rintro e w4 ⟨rfl, hw4⟩
               have K1 := hid (kept8 hw4 hbaw (show w1.heap.size < wr.heap.size by omega) K0.out)
               have HB4 := hid (bx_step HB.out.drew hw4)
               clear hw4))
        go_wp2_with fail
        go_loopw [12, 13] (fun al i wr => ∃ m : Nat, m ≤ ks.length ∧ i = .int .i64 m ∧ (∃ b : Bool, al = .bool b ∧ Hid (b = (ks.take m).all (coverB f.text f.scopes ks[k].scopes))) ∧ Hid (Below (w1.heap.size + 1) (w1.alloc (.cells #[.int .i64 f.sort, .string f.text, .slice x2 f.scopes.length y2, .int .i64 f.frm, .slice x4 f.kids.length y4] 27)) wr)) (fun _ i _ => ks.length - (intOf i).toNat)
        case atStart => exact ⟨0, Nat.zero_le _, rfl, ⟨true, rfl, by show _ = _; simp⟩, HB4⟩
        case round =>
          obtain ⟨m, hm, rfl, ⟨b, rfl, HAB⟩, HBB⟩ := hrel
          have hsz2 := HBB.out.size
          simp only [World.size_alloc] at hsz2
          have HI2 := hid ((own_new w1 #[.int .i64 f.sort, .string f.text, .slice x2 f.scopes.length y2, .int .i64 f.frm, .slice x4 f.kids.length y4] 27).keep HBB.out (by omega))
          have HRow2 := hid (ha.keep (bx_on HBB.out HQ.out) hba)
          by_cases hlt2 : m < ks.length
          · have HTK := hid (all_take (p := coverB f.text f.scopes ks[k].scopes) hlt2)
            cases b with
            | false =>
              go_wp2_with fail
              go_quiet (fail)
              go_wp2_with fail
              exact ⟨⟨m + 1, by omega, by go_num, ⟨false, rfl, by show _ = _; rw [HTK.out, ← HAB.out]; rfl⟩, belowN HBB.out nq⟩, by simp [intOf]; omega⟩
            | true =>
              obtain ⟨e0, e1, e2, p0, p1, p2, hd⟩ := HRow2.out m hlt2
              obtain ⟨l0, l1, l2, -, q1, -, hdk⟩ := HRow2.out k hlt
              have HD2 := hid hd
              have HM2 := hid hd.2.2.1
              have HK2 := hid hdk.2.2.1
              obtain ⟨rfl, -, h2, rfl, -⟩ := hd
              obtain ⟨r3, j3, rfl, -⟩ := h2
              obtain ⟨r4, j4, rfl, -⟩ := hdk.2.2.1
              clear hdk
              have hbaw2 : ba < wr.heap.size := by have := hba.2; omega
              have HL2 := hid (fun b (hb : Fresh w w1 b) => show b < wr.heap.size by have := hb.2; omega)
              have HC2 := hid (wxFits_any ks[m] f (Fresh w w1) (Fresh w w1) wr.drew _ _ _ _ _ _ _ _ (HD2.out.keep (SameOn.drew _ _)) (FormAt.keep (SameOn.drew _ _) _ (FormAt.keep (bx_on HBB.out HQ.out) _ HF.out)) HL2.out HL2.out)
              have L0 : Hid (((wr.drew.cell? ⟨ba, oa + m * 3, none⟩ = some (.string ks[m].text) ∧ wr.drew.cell? ⟨ba, oa + m * 3 + 1, none⟩ = some (.slice r3 ks[m].scopes.length j3) ∧ wr.drew.cell? ⟨ba, oa + m * 3 + 2, none⟩ = some (.string ks[m].name)) ∧ wr.drew.cell? ⟨w1.heap.size, 0, none⟩ = some (.int .i64 f.sort) ∧ wr.drew.cell? ⟨w1.heap.size, 1, none⟩ = some (.string f.text) ∧ wr.drew.cell? ⟨w1.heap.size, 2, none⟩ = some (.slice x2 f.scopes.length y2) ∧ wr.drew.cell? ⟨w1.heap.size, 3, none⟩ = some (.int .i64 f.frm) ∧ wr.drew.cell? ⟨w1.heap.size, 4, none⟩ = some (.slice x4 f.kids.length y4)) ∧ wr.drew.cell? ⟨ba, oa + k * 3 + 1, none⟩ = some (.slice r4 ks[k].scopes.length j4)) := ⟨⟨⟨p0, p1, p2⟩, (own_ten HI2.out).1⟩, q1⟩
              clear p0 p1 p2 q1
              cases hx2 : fitsB f.text f.scopes ks[m] with
              | false =>
                have hc := HC2.out
                rw [hx2] at hc
                have HC3 := hid hc
                have HX2 := hid hx2
                clear hc hx2
                go_wp2_with fail
                refine wp_region_held_drew (S := (fun w' => ((w'.cell? ⟨ba, oa + m * 3, none⟩ = some (.string ks[m].text) ∧ w'.cell? ⟨ba, oa + m * 3 + 1, none⟩ = some (.slice r3 ks[m].scopes.length j3) ∧ w'.cell? ⟨ba, oa + m * 3 + 2, none⟩ = some (.string ks[m].name)) ∧ w'.cell? ⟨w1.heap.size, 0, none⟩ = some (.int .i64 f.sort) ∧ w'.cell? ⟨w1.heap.size, 1, none⟩ = some (.string f.text) ∧ w'.cell? ⟨w1.heap.size, 2, none⟩ = some (.slice x2 f.scopes.length y2) ∧ w'.cell? ⟨w1.heap.size, 3, none⟩ = some (.int .i64 f.frm) ∧ w'.cell? ⟨w1.heap.size, 4, none⟩ = some (.slice x4 f.kids.length y4)) ∧ w'.cell? ⟨ba, oa + k * 3 + 1, none⟩ = some (.slice r4 ks[k].scopes.length j4))) (by kernel_rfl) L0.out (fun _ => ?_)
                refine wpAnyH_take (i := 0) (oi := ({ dst := some 63, op := _, type := _, pos := _, after := _, guard := _ } : Oper)) (v := (.bool true)) rfl (by kernel_rfl) (by kernel_rfl) (by kernel_rfl) (fun _ _ _ h => h) (Or.inl ⟨by rfl, ?_⟩) L0.out ?_
                · intro w hSw; (try dsimp only at hSw); go_simp
                try simp only [Act.put, List.setIfInBounds_toArray, List.set_cons_zero, List.set_cons_succ]
                refine wpAnyH_take (i := 1) (oi := ({ dst := some 64, op := _, type := _, pos := _, after := _, guard := _ } : Oper)) (v := (.bool true)) rfl (by kernel_rfl) (by kernel_rfl) (by kernel_rfl) (fun _ _ _ h => h) (Or.inl ⟨by rfl, ?_⟩) L0.out ?_
                · intro w hSw; (try dsimp only at hSw); go_simp
                try simp only [Act.put, List.setIfInBounds_toArray, List.set_cons_zero, List.set_cons_succ]
                refine wpAnyH_take (i := 2) (oi := ({ dst := some 65, op := _, type := _, pos := _, after := _, guard := _ } : Oper)) (v := (.slice (some ⟨ba, oa, none⟩) ks.length uc)) rfl (by kernel_rfl) (by kernel_rfl) (by kernel_rfl) (fun _ _ _ h => h) (Or.inl ⟨by rfl, ?_⟩) L0.out ?_
                · intro w hSw; (try dsimp only at hSw); go_simp
                try simp only [Act.put, List.setIfInBounds_toArray, List.set_cons_zero, List.set_cons_succ]
                refine wpAnyH_take (i := 3) (oi := ({ dst := some 66, op := _, type := _, pos := _, after := _, guard := _ } : Oper)) (v := (.int .i64 m)) rfl (by kernel_rfl) (by kernel_rfl) (by kernel_rfl) (fun _ _ _ h => h) (Or.inl ⟨by rfl, ?_⟩) L0.out ?_
                · intro w hSw; (try dsimp only at hSw); go_simp
                try simp only [Act.put, List.setIfInBounds_toArray, List.set_cons_zero, List.set_cons_succ]
                refine wpAnyH_take (i := 4) (oi := ({ dst := some 67, op := _, type := _, pos := _, after := _, guard := _ } : Oper)) (v := (.pointer (some ⟨ba, oa + m * 3, none⟩))) rfl (by kernel_rfl) (by kernel_rfl) (by kernel_rfl) (fun _ _ _ h => h) (Or.inl ⟨by rfl, ?_⟩) L0.out ?_
                · intro w hSw; (try dsimp only at hSw); go_simp
                try simp only [Act.put, List.setIfInBounds_toArray, List.set_cons_zero, List.set_cons_succ]
                refine wpAnyH_take (i := 5) (oi := ({ dst := some 68, op := _, type := _, pos := _, after := _, guard := _ } : Oper)) (v := (.agg #[.string ks[m].text, .slice r3 ks[m].scopes.length j3, .string ks[m].name])) rfl (by kernel_rfl) (by kernel_rfl) (by kernel_rfl) (fun _ _ _ h => h) (Or.inl ⟨by rfl, ?_⟩) L0.out ?_
                · intro w hSw; (try dsimp only at hSw); go_simp
                try simp only [Act.put, List.setIfInBounds_toArray, List.set_cons_zero, List.set_cons_succ]
                refine wpAnyH_take (i := 6) (oi := ({ dst := some 69, op := _, type := _, pos := _, after := _, guard := _ } : Oper)) (v := (.agg #[.int .i64 f.sort, .string f.text, .slice x2 f.scopes.length y2, .int .i64 f.frm, .slice x4 f.kids.length y4])) rfl (by kernel_rfl) (by kernel_rfl) (by kernel_rfl) (fun _ _ _ h => h) (Or.inl ⟨by rfl, ?_⟩) L0.out ?_
                · intro w hSw; (try dsimp only at hSw); go_simp
                try simp only [Act.put, List.setIfInBounds_toArray, List.set_cons_zero, List.set_cons_succ]
                refine wpAnyH_ready (rs := [7]) (by kernel_rfl) (by simp) ?_
                refine AllReadyH.cons (o := ({ dst := some 70, op := _, type := _, pos := _, after := _, guard := _ } : Oper)) rfl (fun K hK => ?_) AllReadyH.nil
                go_simp
                go_at_call 7
                refine HC3.out.mono ?_
                rintro e w5 ⟨rfl, hw5⟩
                have L1 := hid (kept9 hw5 hbaw2 (show w1.heap.size < wr.heap.size by omega) L0.out)
                have HB5 := hid (bx_step HBB.out.drew hw5)
                clear hw5
                go_wp2_with fail
                refine hK.out _ _ L1.out (fun _ => ?_)
                clear hK K
                try simp only [Act.put, List.setIfInBounds_toArray, List.set_cons_zero, List.set_cons_succ]
                refine wpAnyH_take (i := 8) (oi := ({ dst := some 71, op := _, type := _, pos := _, after := _, guard := _ } : Oper)) (v := (.bool true)) rfl (by kernel_rfl) (by kernel_rfl) (by kernel_rfl) (fun _ _ _ h => h) (Or.inl ⟨by rfl, ?_⟩) L1.out ?_
                · intro w hSw; (try dsimp only at hSw); go_simp
                try simp only [Act.put, List.setIfInBounds_toArray, List.set_cons_zero, List.set_cons_succ]
                refine wpAnyH_take (i := 9) (oi := ({ dst := some 72, op := _, type := _, pos := _, after := _, guard := _ } : Oper)) (v := (.bool true)) rfl (by kernel_rfl) (by kernel_rfl) (by kernel_rfl) (fun _ _ _ h => h) (Or.inl ⟨by rfl, ?_⟩) L1.out ?_
                · intro w hSw; (try dsimp only at hSw); go_simp
                try simp only [Act.put, List.setIfInBounds_toArray, List.set_cons_zero, List.set_cons_succ]
                refine wpAnyH_take (i := 10) (oi := ({ dst := some 73, op := _, type := _, pos := _, after := _, guard := _ } : Oper)) (v := undef) rfl (by kernel_rfl) (by kernel_rfl) (by kernel_rfl) (fun _ _ _ h => h) (Or.inr ⟨by rfl, rfl⟩) L1.out ?_
                try simp only [Act.put, List.setIfInBounds_toArray, List.set_cons_zero, List.set_cons_succ]
                refine wpAnyH_take (i := 11) (oi := ({ dst := some 74, op := _, type := _, pos := _, after := _, guard := _ } : Oper)) (v := undef) rfl (by kernel_rfl) (by kernel_rfl) (by kernel_rfl) (fun _ _ _ h => h) (Or.inr ⟨by rfl, rfl⟩) L1.out ?_
                try simp only [Act.put, List.setIfInBounds_toArray, List.set_cons_zero, List.set_cons_succ]
                refine wpAnyH_take (i := 12) (oi := ({ dst := some 75, op := _, type := _, pos := _, after := _, guard := _ } : Oper)) (v := undef) rfl (by kernel_rfl) (by kernel_rfl) (by kernel_rfl) (fun _ _ _ h => h) (Or.inr ⟨by rfl, rfl⟩) L1.out ?_
                try simp only [Act.put, List.setIfInBounds_toArray, List.set_cons_zero, List.set_cons_succ]
                refine wpAnyH_take (i := 13) (oi := ({ dst := some 76, op := _, type := _, pos := _, after := _, guard := _ } : Oper)) (v := undef) rfl (by kernel_rfl) (by kernel_rfl) (by kernel_rfl) (fun _ _ _ h => h) (Or.inr ⟨by rfl, rfl⟩) L1.out ?_
                try simp only [Act.put, List.setIfInBounds_toArray, List.set_cons_zero, List.set_cons_succ]
                refine wpAnyH_take (i := 14) (oi := ({ dst := some 77, op := _, type := _, pos := _, after := _, guard := _ } : Oper)) (v := undef) rfl (by kernel_rfl) (by kernel_rfl) (by kernel_rfl) (fun _ _ _ h => h) (Or.inr ⟨by rfl, rfl⟩) L1.out ?_
                try simp only [Act.put, List.setIfInBounds_toArray, List.set_cons_zero, List.set_cons_succ]
                refine wpAnyH_take (i := 15) (oi := ({ dst := some 78, op := _, type := _, pos := _, after := _, guard := _ } : Oper)) (v := undef) rfl (by kernel_rfl) (by kernel_rfl) (by kernel_rfl) (fun _ _ _ h => h) (Or.inr ⟨by rfl, rfl⟩) L1.out ?_
                try simp only [Act.put, List.setIfInBounds_toArray, List.set_cons_zero, List.set_cons_succ]
                refine wpAnyH_take (i := 16) (oi := ({ dst := some 79, op := _, type := _, pos := _, after := _, guard := _ } : Oper)) (v := undef) rfl (by kernel_rfl) (by kernel_rfl) (by kernel_rfl) (fun _ _ _ h => h) (Or.inr ⟨by rfl, rfl⟩) L1.out ?_
                try simp only [Act.put, List.setIfInBounds_toArray, List.set_cons_zero, List.set_cons_succ]
                refine wpAnyH_take (i := 17) (oi := ({ dst := some 80, op := _, type := _, pos := _, after := _, guard := _ } : Oper)) (v := undef) rfl (by kernel_rfl) (by kernel_rfl) (by kernel_rfl) (fun _ _ _ h => h) (Or.inr ⟨by rfl, rfl⟩) L1.out ?_
                try simp only [Act.put, List.setIfInBounds_toArray, List.set_cons_zero, List.set_cons_succ]
                refine wpAnyH_take (i := 18) (oi := ({ dst := some 81, op := _, type := _, pos := _, after := _, guard := _ } : Oper)) (v := undef) rfl (by kernel_rfl) (by kernel_rfl) (by kernel_rfl) (fun _ _ _ h => h) (Or.inr ⟨by rfl, rfl⟩) L1.out ?_
                try simp only [Act.put, List.setIfInBounds_toArray, List.set_cons_zero, List.set_cons_succ]
                refine wpAnyH_take (i := 19) (oi := ({ dst := some 82, op := _, type := _, pos := _, after := _, guard := _ } : Oper)) (v := undef) rfl (by kernel_rfl) (by kernel_rfl) (by kernel_rfl) (fun _ _ _ h => h) (Or.inr ⟨by rfl, rfl⟩) L1.out ?_
                try simp only [Act.put, List.setIfInBounds_toArray, List.set_cons_zero, List.set_cons_succ]
                refine wpAnyH_take (i := 20) (oi := ({ dst := some 83, op := _, type := _, pos := _, after := _, guard := _ } : Oper)) (v := undef) rfl (by kernel_rfl) (by kernel_rfl) (by kernel_rfl) (fun _ _ _ h => h) (Or.inr ⟨by rfl, rfl⟩) L1.out ?_
                try simp only [Act.put, List.setIfInBounds_toArray, List.set_cons_zero, List.set_cons_succ]
                refine wpAnyH_take (i := 21) (oi := ({ dst := some 84, op := _, type := _, pos := _, after := _, guard := _ } : Oper)) (v := (.bool true)) rfl (by kernel_rfl) (by kernel_rfl) (by kernel_rfl) (fun _ _ _ h => h) (Or.inl ⟨by rfl, ?_⟩) L1.out ?_
                · intro w hSw; (try dsimp only at hSw); go_simp
                try simp only [Act.put, List.setIfInBounds_toArray, List.set_cons_zero, List.set_cons_succ]
                refine wpAnyH_take (i := 22) (oi := ({ dst := some 85, op := _, type := _, pos := _, after := _, guard := _ } : Oper)) (v := (.bool true)) rfl (by kernel_rfl) (by kernel_rfl) (by kernel_rfl) (fun _ _ _ h => h) (Or.inl ⟨by rfl, ?_⟩) L1.out ?_
                · intro w hSw; (try dsimp only at hSw); go_simp
                try simp only [Act.put, List.setIfInBounds_toArray, List.set_cons_zero, List.set_cons_succ]
                refine wpAnyH_take (i := 23) (oi := ({ dst := some 12, op := _, type := _, pos := _, after := _, guard := _ } : Oper)) (v := (.bool true)) rfl (by kernel_rfl) (by kernel_rfl) (by kernel_rfl) (fun _ _ _ h => h) (Or.inl ⟨by rfl, ?_⟩) L1.out ?_
                · intro w hSw; (try dsimp only at hSw); go_simp
                try simp only [Act.put, List.setIfInBounds_toArray, List.set_cons_zero, List.set_cons_succ]
                refine wpAnyH_done (by kernel_rfl) ?_ _
                go_wp2_with fail
                exact ⟨⟨m + 1, by omega, by go_num, ⟨true, rfl, by show _ = _; rw [HTK.out, ← HAB.out]; unfold coverB; rw [HX2.out]; rfl⟩, HB5⟩, by simp [intOf]; omega⟩
              | true =>
                have hc := HC2.out
                rw [hx2] at hc
                have HC3 := hid hc
                have HX2 := hid hx2
                clear hc hx2
                go_wp2_with fail
                go_region_held3 (fun w' => ((w'.cell? ⟨ba, oa + m * 3, none⟩ = some (.string ks[m].text) ∧ w'.cell? ⟨ba, oa + m * 3 + 1, none⟩ = some (.slice r3 ks[m].scopes.length j3) ∧ w'.cell? ⟨ba, oa + m * 3 + 2, none⟩ = some (.string ks[m].name)) ∧ w'.cell? ⟨w1.heap.size, 0, none⟩ = some (.int .i64 f.sort) ∧ w'.cell? ⟨w1.heap.size, 1, none⟩ = some (.string f.text) ∧ w'.cell? ⟨w1.heap.size, 2, none⟩ = some (.slice x2 f.scopes.length y2) ∧ w'.cell? ⟨w1.heap.size, 3, none⟩ = some (.int .i64 f.frm) ∧ w'.cell? ⟨w1.heap.size, 4, none⟩ = some (.slice x4 f.kids.length y4)) ∧ w'.cell? ⟨ba, oa + k * 3 + 1, none⟩ = some (.slice r4 ks[k].scopes.length j4)) (first | exact L1.out | exact L0.out)
                  (first
                    | (go_at_call 7
                       refine HC3.out.mono ?_
                       rintro e w5 ⟨rfl, hw5⟩
                       have L1 := hid (kept9 hw5 hbaw2 (show w1.heap.size < wr.heap.size by omega) L0.out)
                       have HW5 := hid hw5
                       have HB5 := hid (bx_step HBB.out.drew hw5)
                       clear hw5)
                    | (go_at_call 8
                       refine (wxWithin_any (Fresh w w1) _ _ ks[m].scopes ks[k].scopes w5 ((HM2.out.keep (SameOn.drew _ _)).keep (HW5.out.on HL2.out)) ((HK2.out.keep (SameOn.drew _ _)).keep (HW5.out.on HL2.out))).mono ?_
                       rintro e w6 ⟨rfl, n6, hw6⟩
                       rw [hw6]
                       clear hw6 w6))
                go_wp2_with fail
                exact ⟨⟨m + 1, by omega, by go_num, ⟨_, rfl, by show _ = _; rw [HTK.out, ← HAB.out]; unfold coverB; rw [HX2.out]; rfl⟩, belowN HB5.out n6⟩, by simp [intOf]; omega⟩
          · obtain rfl : m = ks.length := by omega
            rw [List.take_length] at HAB
            obtain ⟨l0, l1, l2, -, -, q2, hdk⟩ := HRow2.out k hlt
            obtain ⟨-, -, -, rfl, -⟩ := hdk
            cases b with
            | false =>
              have HN2 := hid (over_no (p := bestB ks f.text f.scopes) hlt (by unfold bestB; rw [HX.out]; exact HAB.out.symm))
              go_wp2_with fail
              exact ⟨⟨k + 1, by omega, by go_num, by rw [HN1.out]; go_num, by rw [HN2.out], HBB⟩, by simp [intOf]; omega⟩
            | true =>
              have HN2 := hid (over_yes (p := bestB ks f.text f.scopes) hlt (by unfold bestB; rw [HX.out]; exact HAB.out.symm))
              go_wp2_with fail
              exact ⟨⟨k + 1, by omega, by go_num, by rw [HN1.out]; go_num, by rw [HN2.out], HBB⟩, by simp [intOf]; omega⟩
    · obtain rfl : k = ks.length := by omega
      rw [List.take_length]
      have HE := hid (HW.out.trans ((bx_done HB.out).mono hs1))
      have hi := (own_ten HI.out).1.1
      have hA := HFD.out
      have h3 := HT.out
      clear HFD HT hfl
      generalize fitsN (fitsB f.text f.scopes) ks = N at *
      generalize overP (bestB ks f.text f.scopes) ks = O at *
      generalize findAns ks f.text f.scopes = G at *
      by_cases hs : f.sort = 1
      · rw [if_pos hs] at hA
        rcases h3 with ⟨h0, hG⟩ | ⟨h0, hO, hG⟩ | ⟨h0, hO, hG⟩
        · subst hA hG h0
          go_wp2_with fail
          go_ret
          exact ⟨rfl, HE.out⟩
        · subst hA hG
          have := tl_empty hO
          go_wp2_with fail
          go_ret
          exact ⟨rfl, HE.out⟩
        · subst hA hG hO
          go_wp2_with fail
          go_ret
          exact ⟨rfl, HE.out⟩
      · rw [if_neg hs] at hA
        subst hA
        go_wp2_with fail
        go_ret
        exact ⟨rfl, HE.out⟩

end Go.Proofs.Ytbloafjkejkjcaa
