/- The program's showAll and the methods that show lists, if each part is shown as it should be. Condition: the parts lie in memory ahead of the builder, which is one of the call's own. -/
import Derived.Test.YtoefpcegekfggaaW2
namespace Go.Proofs.Ytoefpcegekfggaa
open Go.RowKit Go.Siskin

/-- The four sorts of a value behind the interface. -/
theorem InAt.four {R : Nat → Prop} {w : World} {p : Im} {v : Value} (h : InAt R w p v) : (∃ x, v = .iface 90 x) ∨ (∃ x, v = .iface 102 x) ∨ (∃ x, v = .iface 107 x) ∨ (∃ x, v = .iface 109 x) := by
  rw [InAt_kinds] at h
  rcases h with ⟨t, sc, fr, rfl, c2, h1, h2, h3⟩ | ⟨t, rfl, h1, h2⟩ | ⟨ps, rfl, a, cap, h1, h2, h3⟩ | ⟨ps, l, rfl, a, cap, e, h1, h2, h3, h4⟩
  · exact Or.inl ⟨_, h1⟩
  · exact Or.inr (Or.inl ⟨_, h1⟩)
  · exact Or.inr (Or.inr (Or.inl ⟨_, h1⟩))
  · exact Or.inr (Or.inr (Or.inr ⟨_, h1⟩))

/- ### Which method is called -/
def showName : String := "loop.exa" ++ "mple" ++ String.singleton (Char.ofNat 47) ++ "siskin" ++ String.singleton (Char.ofNat 47) ++ "impl.show"
theorem meth_id (x : Value) (w : World) : (method 273 90 x showName).run Try.prog w = .ok (129, x) w := by kernel_rfl
theorem meth_atom (x : Value) (w : World) : (method 273 102 x showName).run Try.prog w = .ok (140, x) w := by kernel_rfl
theorem meth_list (x : Value) (w : World) : (method 273 107 x showName).run Try.prog w = .ok (148, x) w := by kernel_rfl
theorem meth_dots (x : Value) (w : World) : (method 273 109 x showName).run Try.prog w = .ok (157, x) w := by kernel_rfl

theorem showFn_id : showFn 90 = 129 := rfl
theorem showFn_atom : showFn 102 = 140 := rfl
theorem showFn_list : showFn 107 = 148 := rfl
theorem showFn_dots : showFn 109 = 157 := rfl

def ShowIms (n : Nat) : Prop := ∀ ps : List Im, Im.szs ps ≤ n → ∀ (R : Nat → Prop) (w : World) (a : Option Addr) (cap B b : Nat) (l : List UInt8), ps.length ≤ maxLen → (ps = [] ∨ ∃ g o, a = some ⟨g, o, none⟩ ∧ R g ∧ InRow R w g o ps) → (∀ c, R c → c < B) → isB B b l w → B ≤ w.heap.size → l.length + (showIs 0 ps).length ≤ 1000000000 →
    Calls Try.prog 150 #[.slice a ps.length cap, .pointer (some ⟨b, 0, none⟩)] w fun e w' => e = .returned (.tuple #[]) ∧ isB B b (l ++ showIs 0 ps) w' ∧ Wrote B b w w'

set_option maxRecDepth 20000 in
set_option maxHeartbeats 4000000 in
theorem showIms_of (n : Nat) (ih : ShowIm n) : ShowIms n := by
  intro ps hps R w a cap B b l hm ha hR hb hB hl
  unfold maxLen at hm
  have HI := hid ih
  have HR := hid hR
  have HB := hid hb
  have HL := hid hl
  clear ih hR hb hl
  go_enter Try.func150, Try.ntmps150
  go_wp2_with fail
  go_loopw [8] (fun i wr => ∃ k : Nat, k ≤ ps.length ∧ i = .int .i64 k ∧ Hid (isB B b (l ++ showIs 0 (ps.take k)) wr) ∧ Hid (Wrote B b w wr)) (fun i _ => ps.length - (intOf i).toNat)
  case atStart => exact ⟨0, Nat.zero_le _, rfl, by show isB _ _ _ _; simpa [showIs, joinI] using HB.out, Wrote.refl _ _ _⟩
  case round =>
    obtain ⟨k, hk, rfl, HK, HW⟩ := hrel
    have hsz := HW.out.1.size
    by_cases hlt : k < ps.length
    · rcases ha with ha | ⟨g, o, rfl, hg, ha⟩
      · subst ha; simp at hlt
      obtain ⟨v, hv, hin⟩ := InRow.get ps (InRow.keep (HW.out.1.on HR.out) hg ps ha) k hlt
      have HT := hid (showIs_take ps k hlt)
      have hle := showIs_le ps 0 (k + 1)
      rw [HT.out] at hle
      simp only [List.length_append] at hle
      have HLE := hid hle
      have HSZ := hid (Nat.le_trans (Im.szs_get ps k hlt) hps)
      clear ha hle
      by_cases hk0 : 0 < k
      · have hk0' : (0 : Int) < (k : Int) := by omega
        have HP := hid (if_pos (c := 0 < k) hk0 : (if 0 < k then [(32 : UInt8)] else []) = [32])
        have hlen : (l ++ showIs 0 (ps.take k)).length + 1 + (showI ps[k]).length ≤ 1000000000 := by
          have h := HLE.out
          have hl := HL.out
          rw [HP.out] at h
          simp only [List.length_append, List.length_cons, List.length_nil] at h ⊢
          omega
        have hcont : ∀ (t : TypeId) (x : Value) (w1 : World), v = .iface t x → Wrote B b wr w1 → isB B b (l ++ showIs 0 (ps.take k) ++ [32]) w1 → Calls Try.prog (showFn t) #[x, .pointer (some ⟨b, 0, none⟩)] w1 fun e w' => e = .returned (.tuple #[]) ∧ isB B b (l ++ showIs 0 (ps.take (k + 1))) w' ∧ Wrote B b w w' := by
          intro t x w1 hv1 hw1 hb1
          subst hv1
          refine (HI.out ps[k] HSZ.out R w1 t x B b _ (InAt.keep (hw1.1.on HR.out) _ hin) HR.out hb1 (by have := hw1.1.size; omega) (by simp only [List.length_append, List.length_cons, List.length_nil] at hlen ⊢; omega)).mono ?_
          rintro e w' ⟨he, h1, h2⟩
          refine ⟨he, ?_, (HW.out.trans hw1).trans h2⟩
          rw [HT.out, HP.out]
          simpa using h1
        have HCN := hid hcont
        have HN := hid hlen
        have m1 := meth_id
        have m2 := meth_atom
        have m3 := meth_list
        have m4 := meth_dots
        simp [showName] at m1 m2 m3 m4
        rcases InAt.four hin with ⟨x, rfl⟩ | ⟨x, rfl⟩ | ⟨x, rfl⟩ | ⟨x, rfl⟩
        all_goals
          clear hin hcont hlen
          go_wp2_with fail
          refine (write_any B b _ ⟨#[32]⟩ wr HK.out (by have h := HN.out; simp only [List.length_append] at h ⊢; show _ + 1 ≤ _; omega) (by omega)).mono ?_
          rintro e w1 ⟨rfl, hb1, hw1⟩
          have HB1 := hid hb1
          have HW1 := hid hw1
          clear hb1 hw1
          go_wp2_with fail
          have hq := HCN.out _ x w1 rfl HW1.out HB1.out
          simp only [showFn_id, showFn_atom, showFn_list, showFn_dots] at hq
          refine hq.mono ?_
          rintro e w2 ⟨rfl, hb2, hw2⟩
          have HB2 := hid hb2
          have HW2 := hid hw2
          clear hb2 hw2 hq
          go_wp2_with fail
          exact ⟨⟨k + 1, by omega, by go_num, HB2.out, HW2.out⟩, by simp [intOf]; omega⟩
      · have hk0' : ¬ (0 : Int) < (k : Int) := by omega
        have HP := hid (if_neg (c := 0 < k) hk0 : (if 0 < k then [(32 : UInt8)] else []) = [])
        have hlen : (l ++ showIs 0 (ps.take k)).length + (showI ps[k]).length ≤ 1000000000 := by
          have h := HLE.out
          have hl := HL.out
          rw [HP.out] at h
          simp only [List.length_append, List.length_nil] at h ⊢
          omega
        have hcont : ∀ (t : TypeId) (x : Value), v = .iface t x → Calls Try.prog (showFn t) #[x, .pointer (some ⟨b, 0, none⟩)] wr fun e w' => e = .returned (.tuple #[]) ∧ isB B b (l ++ showIs 0 (ps.take (k + 1))) w' ∧ Wrote B b w w' := by
          intro t x hv1
          subst hv1
          refine (HI.out ps[k] HSZ.out R wr t x B b _ hin HR.out HK.out (by omega) hlen).mono ?_
          rintro e w' ⟨he, h1, h2⟩
          refine ⟨he, ?_, HW.out.trans h2⟩
          rw [HT.out, HP.out]
          simpa using h1
        have HCN := hid hcont
        have m1 := meth_id
        have m2 := meth_atom
        have m3 := meth_list
        have m4 := meth_dots
        simp [showName] at m1 m2 m3 m4
        rcases InAt.four hin with ⟨x, rfl⟩ | ⟨x, rfl⟩ | ⟨x, rfl⟩ | ⟨x, rfl⟩
        all_goals
          clear hin hcont hlen
          go_wp2_with fail
          have hq := HCN.out _ x rfl
          simp only [showFn_id, showFn_atom, showFn_list, showFn_dots] at hq
          refine hq.mono ?_
          rintro e w2 ⟨rfl, hb2, hw2⟩
          have HB2 := hid hb2
          have HW2 := hid hw2
          clear hb2 hw2 hq
          go_wp2_with fail
          exact ⟨⟨k + 1, by omega, by go_num, HB2.out, HW2.out⟩, by simp [intOf]; omega⟩
    · go_wp2_with fail
      go_end0
      have h := HK.out
      rw [List.take_of_length_le (by omega)] at h
      exact ⟨rfl, h, HW.out⟩

end Go.Proofs.Ytoefpcegekfggaa
