/- The program's ExpShow shows a form just as the model does. Condition: the form lies in memory, and costs at most 1048576. -/
import Derived.Test.YtoefpcegekfggaaW4
namespace Go.Proofs.Ytoefpcegekfggaa
open Go.RowKit Go.Siskin

set_option maxRecDepth 20000 in
set_option maxHeartbeats 4000000 in
theorem showIm_dots (n : Nat) (ihs : ShowIms n) (ih : ShowIm n) (ps : List Im) (z : Im) (hps : Im.szs ps ≤ n) (hz : z.sz ≤ n) (R : Nat → Prop) (w : World) (a : Option Addr) (cap B b : Nat) (e : Value) (l : List UInt8) (hm : ps.length ≤ maxLen) (ha : ps = [] ∨ ∃ g o, a = some ⟨g, o, none⟩ ∧ R g ∧ InRow R w g o ps) (he : InAt R w z e) (hR : ∀ c, R c → c < B) (hb : isB B b l w) (hB : B ≤ w.heap.size) (hl : l.length + (showI (.dots ps z)).length ≤ 1000000000) :
    Calls Try.prog 157 #[.agg #[.slice a ps.length cap, e], .pointer (some ⟨b, 0, none⟩)] w fun e w' => e = .returned (.tuple #[]) ∧ isB B b (l ++ showI (.dots ps z)) w' ∧ Wrote B b w w' := by
  have hlen : l.length + 5 + (showIs 0 ps).length + (showI z).length ≤ 1000000000 := by
    simp only [showI_dots, List.length_append, List.length_cons, List.length_nil] at hl; omega
  have hrow : ∀ w', Below B w w' → (ps = [] ∨ ∃ g o, a = some ⟨g, o, none⟩ ∧ R g ∧ InRow R w' g o ps) := by
    intro w' hw
    rcases ha with h | ⟨g, o, h1, h2, h3⟩
    · exact Or.inl h
    · exact Or.inr ⟨g, o, h1, h2, InRow.keep (hw.on hR) h2 ps h3⟩
  have HRW := hid hrow
  have HN := hid hlen
  have HB := hid hb
  have HR := hid hR
  have HI := hid ih
  have HIS := hid ihs
  have HBL := hid (isB_lt hb)
  have HE := hid he
  have m1 := meth_id
  have m2 := meth_atom
  have m3 := meth_list
  have m4 := meth_dots
  simp [showName] at m1 m2 m3 m4
  rcases InAt.four he with ⟨x, rfl⟩ | ⟨x, rfl⟩ | ⟨x, rfl⟩ | ⟨x, rfl⟩
  all_goals
    clear ha hR hb hl hlen hrow ih ihs he
    go_enter Try.func157, Try.ntmps157
    go_wp2_with fail
    refine (write_any B b l ⟨#[40]⟩ _ (isB_alloc HB.out _) (by have := HN.out; show _ + 1 ≤ _; omega) (by simp; omega)).mono ?_
    rintro e w1 ⟨rfl, hb1, hw1⟩
    have q1 := hw1.box HBL.out (by decide)
    have s1 := hw1.1.size
    simp only [World.size_alloc] at s1
    have HW1a := hid hw1
    have HW1 := hid (((Wrote.refl B b w).alloc hB _).trans hw1)
    have HB1 := hid hb1
    clear hb1 hw1
    go_wp2_with fail
    refine (HIS.out ps hps R w1 a cap B b _ hm (HRW.out w1 HW1.out.1) HR.out HB1.out (by omega) (by have := HN.out; simp only [List.length_append, List.length_cons, List.length_nil]; omega)).mono ?_
    rintro e w2 ⟨rfl, hb2, hw2⟩
    have HW2a := hid (HW1a.out.trans hw2)
    have HW2 := hid (HW1.out.trans hw2)
    have s2 := hw2.1.size
    have HB2 := hid hb2
    clear hb2 hw2 q1
    go_wp2_with fail
    refine (write_any B b _ ⟨#[32, 46, 32]⟩ w2 HB2.out (by have := HN.out; simp only [List.length_append, List.length_cons, List.length_nil]; show _ + 3 ≤ _; omega) (by omega)).mono ?_
    rintro e w3 ⟨rfl, hb3, hw3⟩
    have q3 := (HW2a.out.trans hw3).box HBL.out (by decide)
    have HW3 := hid (HW2.out.trans hw3)
    have s3 := hw3.1.size
    have HB3 := hid hb3
    clear hb3 hw3
    go_wp2_with fail
    have hq := HI.out z hz R w3 _ x B b _ (InAt.keep (HW3.out.1.on HR.out) _ HE.out) HR.out HB3.out (by omega) (by have := HN.out; simp only [List.length_append, List.length_cons, List.length_nil]; omega)
    simp only [showFn_id, showFn_atom, showFn_list, showFn_dots] at hq
    refine hq.mono ?_
    rintro e w4 ⟨rfl, hb4, hw4⟩
    have HB4 := hid hb4
    have HW4 := hid (HW3.out.trans hw4)
    have s4 := hw4.1.size
    clear hb4 hw4 hq q3
    go_wp2_with fail
    refine (write_any B b _ ⟨#[41]⟩ w4 HB4.out (by have := HN.out; simp only [List.length_append, List.length_cons, List.length_nil]; show _ + 1 ≤ _; omega) (by omega)).mono ?_
    rintro e w5 ⟨rfl, hb5, hw5⟩
    have HB5 := hid hb5
    have HW5 := hid hw5
    clear hb5 hw5
    go_wp2_with fail
    go_end0
    refine ⟨rfl, ?_, HW4.out.trans HW5.out⟩
    rw [showI_dots]
    have h := HB5.out
    simpa using h

theorem showIm_of (n : Nat) (ih : ShowIm n) : ShowIm (n + 1) := by
  intro p hp R w t x B b l hin hR hb hB hl
  rw [InAt_kinds] at hin
  rcases hin with ⟨tx, sc, fr, rfl, c2, h1, h2, h3⟩ | ⟨tx, rfl, h1, h2⟩ | ⟨ps, rfl, a, cap, h1, h2, h3⟩ | ⟨ps, z, rfl, a, cap, e, h1, h2, h3, h5⟩
  · injection h1 with h1 h4
    subst h1 h4
    obtain ⟨a, cap, rfl, -⟩ := h3
    rw [showFn_id]
    exact showIm_id tx sc fr _ ⟨_, _, _, rfl⟩ w B b l hb hB hl
  · injection h1 with h1 h4
    subst h1 h4
    rw [showFn_atom]
    exact showIm_atom tx w B b l hb hB hl
  · injection h1 with h1 h4
    subst h1 h4
    rw [showFn_list]
    rw [Im.sz_list] at hp
    exact showIm_list n (showIms_of n ih) ps (by omega) R w a cap B b l h2 h3 hR hb hB hl
  · injection h1 with h1 h4
    subst h1 h4
    rw [showFn_dots]
    rw [Im.sz_dots] at hp
    exact showIm_dots n (showIms_of n ih) ih ps z (by omega) (by omega) R w a cap B b e l h2 h3 h5 hR hb hB hl

theorem showIm_all : ∀ n, ShowIm n
  | 0 => fun p hp => by have := Im.sz_pos p; omega
  | n + 1 => showIm_of n (showIm_all n)

theorem reg_lt {B : Nat → Prop} {w w1 : World} (h : ∀ b, B b → b < w1.heap.size) : ∀ b, Reg B w w1 b → b < w1.heap.size := by
  intro b hb
  rcases hb with hb | hb
  · exact h b hb
  · exact hb.2

/-- A builder that was never written. -/
theorem isB_new (w : World) : isB w.heap.size w.heap.size [] (w.alloc (.cells #[.pointer none, .slice none 0 0] 54)) := by
  refine Or.inl ⟨Nat.le_refl _, .slice none 0 0, ?_, World.ownsRow_nil _ _ _ _, by simp [Value.ownBlock]⟩
  show (w.heap.push _)[w.heap.size]? = _
  simp

set_option maxRecDepth 20000 in
set_option maxHeartbeats 4000000 in
theorem implShow_any (f : Fm) (B : Nat → Prop) (w : World) (c0 c1 c2 c3 c4 : Value) (hA : FormAt B w f c0 c1 c2 c3 c4) (hB : ∀ b, B b → b < w.heap.size) (hc : f.cost ≤ 1048576) :
    Calls Try.prog 9 #[.agg #[c0, c1, c2, c3, c4]] w fun e w' => e = .returned (.string ⟨(shown f).toArray⟩) ∧ Below w.heap.size w w' := by
  have H := hid (fun o1 : Obj => openForm_any f B (w.alloc o1) c0 c1 c2 c3 c4 (FormAt.keep ((SameOn.refl _ _).alloc hB _) _ hA) (fun b hb => by have := hB b hb; simp; omega) hc)
  have HR := hid hB
  obtain ⟨rfl, rfl, ht, h2, rfl, h4⟩ := (formAt_iff _ _ _ _ _ _ _ _).1 hA
  obtain ⟨a2, k2, rfl, -⟩ := h2
  obtain ⟨a4, k4, rfl, -⟩ := h4
  clear hA hB hc
  go_enter Try.func9, Try.ntmps9
  go_wp2_with fail
  refine (H.out _).mono ?_
  rintro e w1 ⟨v, rfl, hw, hin⟩
  have HW := hid (((Below.refl w.heap.size w).alloc (Nat.le_refl _) _).trans (hw.mono (by simp)))
  have HIN := hid hin
  have s1 := hw.size
  simp only [World.size_alloc] at s1
  clear hw H hin
  cases hok : formOk f with
  | false =>
    go_wp2_with fail
    go_ret
    exact ⟨by unfold shown; rw [if_neg (by rw [hok]; decide)]; rfl, HW.out⟩
  | true =>
    have hin := HIN.out hok
    have HS : Hid (showI (toIm f) = shown f) := by
      show _ = _
      have h := hok
      unfold formOk at h
      rw [Bool.and_eq_true] at h
      rw [show_ok f.sz f 0 (Nat.le_refl _) h.1]
      unfold shown; rw [if_pos hok]
    have HL : Hid ((showI (toIm f)).length ≤ 1000000) := by
      show _ ≤ _
      rw [HS.out]; unfold shown; rw [if_pos hok]; exact shown_short hok
    have m1 := meth_id
    have m2 := meth_atom
    have m3 := meth_list
    have m4 := meth_dots
    simp [showName] at m1 m2 m3 m4
    have HQ := hid (fun (t : TypeId) (x : Value) (o : Obj) (ho : o = .cells #[.pointer none, .slice none 0 0] 54) (hv : v = .iface t x) => (showIm_all (toIm f).sz (toIm f) (Nat.le_refl _) _ (w1.alloc o) t x w1.heap.size w1.heap.size [] (by rw [← hv]; exact InAt.keep ((SameOn.refl _ _).alloc (reg_lt (fun b hb => by have := HR.out b hb; omega)) _) _ hin) (reg_lt (fun b hb => by have := HR.out b hb; omega)) (by rw [ho]; exact isB_new w1) (by simp) (by have := HL.out; simp; omega)))
    rcases InAt.four hin with ⟨x, rfl⟩ | ⟨x, rfl⟩ | ⟨x, rfl⟩ | ⟨x, rfl⟩
    all_goals
      clear hin HIN
      go_wp2_with fail
      have hq := HQ.out _ x _ rfl rfl
      simp only [showFn_id, showFn_atom, showFn_list, showFn_dots] at hq
      refine hq.mono ?_
      rintro e w2 ⟨rfl, hb2, hw2⟩
      have HB2 := hid hb2
      have HW2 := hid hw2
      have s2 := hw2.1.size
      simp only [World.size_alloc] at s2
      clear hb2 hw2 hq HQ
      go_wp2_with fail
      refine (Try.Builder_String_any w1.heap.size w1.heap.size (showI (toIm f)) w2 (by have h := HB2.out; rw [List.nil_append] at h; exact h) (by omega)).mono ?_
      rintro e w3 ⟨rfl, hw3⟩
      go_wp2_with fail
      go_ret
      refine ⟨by rw [HS.out]; rfl, ?_⟩
      exact ((HW.out.alloc (by omega) _).trans (HW2.out.1.mono (by omega))).trans (hw3.mono (by omega))

end Go.Proofs.Ytoefpcegekfggaa
