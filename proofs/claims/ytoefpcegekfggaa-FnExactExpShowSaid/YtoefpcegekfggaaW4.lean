/- The program's ExpShow shows a form just as the model does. Condition: the form lies in memory, and costs at most 1048576. -/
import Derived.Test.YtoefpcegekfggaaW3
import Derived.Test.YtoefpcegekfggaaW1
import Derived.Test.YtoefpcegekfggaaG7
namespace Go.Proofs.Ytoefpcegekfggaa
open Go.RowKit Go.Siskin

theorem isB_lt {B b : Nat} {l : List UInt8} {w : World} (h : isB B b l w) : b < w.heap.size := by
  rcases h with ⟨_, v, h2, _⟩ | ⟨_, v, h2, _⟩
  · exact (Array.getElem?_eq_some_iff.1 h2).1
  · exact (Array.getElem?_eq_some_iff.1 h2).1

set_option maxRecDepth 20000 in
set_option maxHeartbeats 2000000 in
theorem showIm_list (n : Nat) (ih : ShowIms n) (ps : List Im) (hps : Im.szs ps ≤ n) (R : Nat → Prop) (w : World) (a : Option Addr) (cap B b : Nat) (l : List UInt8) (hm : ps.length ≤ maxLen) (ha : ps = [] ∨ ∃ g o, a = some ⟨g, o, none⟩ ∧ R g ∧ InRow R w g o ps) (hR : ∀ c, R c → c < B) (hb : isB B b l w) (hB : B ≤ w.heap.size) (hl : l.length + (showI (.list ps)).length ≤ 1000000000) :
    Calls Try.prog 148 #[.agg #[.slice a ps.length cap], .pointer (some ⟨b, 0, none⟩)] w fun e w' => e = .returned (.tuple #[]) ∧ isB B b (l ++ showI (.list ps)) w' ∧ Wrote B b w w' := by
  have hlen : l.length + 2 + (showIs 0 ps).length ≤ 1000000000 := by
    simp only [showI_list, List.length_append, List.length_cons, List.length_nil] at hl; omega
  have hrow : ∀ w', Below B w w' → (ps = [] ∨ ∃ g o, a = some ⟨g, o, none⟩ ∧ R g ∧ InRow R w' g o ps) := by
    intro w' hw
    rcases ha with h | ⟨g, o, h1, h2, h3⟩
    · exact Or.inl h
    · exact Or.inr ⟨g, o, h1, h2, InRow.keep (hw.on hR) h2 ps h3⟩
  have HRW := hid hrow
  have HN := hid hlen
  have HB := hid hb
  have HR := hid hR
  have HI := hid ih
  have HBL := hid (isB_lt hb)
  clear ha hR hb hl hlen hrow ih
  go_enter Try.func148, Try.ntmps148
  go_wp2_with fail
  refine (write_any B b l ⟨#[40]⟩ _ (isB_alloc HB.out _) (by have := HN.out; show _ + 1 ≤ _; omega) (by simp; omega)).mono ?_
  rintro e w1 ⟨rfl, hb1, hw1⟩
  have q1 := hw1.box HBL.out (by decide)
  have s1 := hw1.1.size
  simp only [World.size_alloc] at s1
  have HW1 := hid (((Wrote.refl B b w).alloc hB _).trans hw1)
  have HB1 := hid hb1
  clear hb1 hw1
  go_wp2_with fail
  refine (HI.out ps hps R w1 a cap B b _ hm (HRW.out w1 HW1.out.1) HR.out HB1.out (by omega) (by have := HN.out; simp only [List.length_append, List.length_cons, List.length_nil]; omega)).mono ?_
  rintro e w2 ⟨rfl, hb2, hw2⟩
  have HW2 := hid (HW1.out.trans hw2)
  have s2 := hw2.1.size
  have HB2 := hid hb2
  clear hb2 hw2
  go_wp2_with fail
  refine (write_any B b _ ⟨#[41]⟩ w2 HB2.out (by have := HN.out; simp only [List.length_append, List.length_cons, List.length_nil]; show _ + 1 ≤ _; omega) (by omega)).mono ?_
  rintro e w3 ⟨rfl, hb3, hw3⟩
  have HB3 := hid hb3
  have HW3 := hid hw3
  clear hb3 hw3
  go_wp2_with fail
  go_end0
  refine ⟨rfl, ?_, HW2.out.trans HW3.out⟩
  rw [showI_list]
  have h := HB3.out
  simpa using h

end Go.Proofs.Ytoefpcegekfggaa
