/-
  The law FnExactExpFormOk returns true, and nothing that was there has turned. Condition: the form that it is given lies in memory as FormAt says.
  A form that comes in as an argument, read as data, lies in memory as a tree.
-/
import Derived.Test.YtkpamgabhlplfaaPart7
import Derived.Test.YtkpamgabhlplfaaPart1
import Derived.Test.YtkpamgabhlplfaaProg
import Derived.ProofKit
import Derived.OpenShut
import Derived.Deep.Slices
namespace Go.Proofs.Ytkpamgabhlplfaa
open Go.RowKit Go.Siskin

theorem boxq {w w' : World} {o : Obj} (h : Below (w.heap.size + 1) (w.alloc o) w') : ∀ j, w'.cell? ⟨w.heap.size, j, none⟩ = (w.alloc o).cell? ⟨w.heap.size, j, none⟩ :=
  fun j => h.cell (p := ⟨w.heap.size, j, none⟩) (by simp)
theorem box_step {w w' w2 : World} {o : Obj} (h : Below (w.heap.size + 1) (w.alloc o) w') (h2 : Below w'.heap.size w' w2) : Below (w.heap.size + 1) (w.alloc o) w2 :=
  h.trans (h2.mono (by have := h.size; simpa using this))
theorem box_on {R : Nat → Prop} {w w' : World} {o : Obj} (h : Below (w.heap.size + 1) (w.alloc o) w') (hR : ∀ b, R b → b < w.heap.size) : SameOn R w w' :=
  ((SameOn.refl _ _).alloc hR _).below h (fun b hb => by have := hR b hb; omega)
theorem box_done {w w' : World} {o : Obj} (h : Below (w.heap.size + 1) (w.alloc o) w') : Below w.heap.size w w' :=
  ((Below.refl _ _).alloc (Nat.le_refl _) _).trans (h.mono (by omega))

set_option maxHeartbeats 4000000 in
theorem lawFormOk_any (f : Fm) (B : Nat → Prop) (w : World) (c0 c1 c2 c3 c4 : Value) (hA : FormAt B w f c0 c1 c2 c3 c4) (hB : ∀ b, B b → b < w.heap.size) :
    Calls Try.prog 6 #[.agg #[c0, c1, c2, c3, c4]] w fun e w' => e = .returned (.bool true) ∧ Below w.heap.size w w' := by
  have HA := hid hA
  have HR := hid hB
  have H1 := hid (fun o : Obj => szExpForm_any f B (w.alloc o) c0 c1 c2 c3 c4 1048576 (FormAt.keep ((SameOn.refl _ _).alloc hB _) _ hA) (fun b hb => by have := hB b hb; simp; omega) (by omega) (by omega))
  obtain ⟨rfl, rfl, ht, h2, rfl, h4⟩ := (formAt_iff _ _ _ _ _ _ _ _).1 hA
  obtain ⟨a2, k2, rfl, -⟩ := h2
  obtain ⟨a4, k4, rfl, -⟩ := h4
  clear hA hB
  go_enter Try.func6, Try.ntmps6
  go_wp2_with fail
  refine (H1.out _).mono ?_
  rintro e w1 ⟨rfl, hw1⟩
  simp only [World.size_alloc] at hw1
  have q1 := boxq hw1
  have s1 := hw1.size
  simp only [World.size_alloc] at s1
  have HW1 := hid hw1
  clear hw1 H1
  by_cases hneg : szI f.cost 1048576 < 0
  · go_wp2_with fail
    go_ret
    exact ⟨rfl, box_done HW1.out⟩
  have hc : f.cost ≤ 1048576 := by rw [szI_neg] at hneg; omega
  go_wp2_with fail
  refine (toExpForm_any f B w1 _ _ _ _ _ (FormAt.keep (box_on HW1.out HR.out) _ HA.out) (fun b hb => by have := HR.out b hb; omega) hc).mono ?_
  rintro e w2 ⟨d0, d1, d2, d3, d4, rfl, hf2, hw2⟩
  have HW2 := hid (box_step HW1.out hw2)
  have s2 := hw2.size
  have HF2 := hid hf2
  clear hw2 hf2 q1
  go_wp2_with fail
  refine (specFormOk_any f (Fresh w1 w2) w2 _ _ _ _ _ HF2.out (fun b hb => hb.2) hc).mono ?_
  rintro e w3 ⟨rfl, hw3⟩
  have HW3 := hid (box_step HW2.out hw3)
  have q3 := boxq HW3.out
  have s3 := hw3.size
  clear hw3 HF2 HW2
  go_wp2_with fail
  refine (toExpForm_any f B w3 _ _ _ _ _ (FormAt.keep (box_on HW3.out HR.out) _ HA.out) (fun b hb => by have := HR.out b hb; omega) hc).mono ?_
  rintro e w4 ⟨e0, e1, e2, e3, e4, rfl, hf4, hw4⟩
  have HW4 := hid (box_step HW3.out hw4)
  have s4 := hw4.size
  have HF4 := hid hf4
  obtain ⟨rfl, rfl, -, h2, rfl, h4⟩ := (formAt_iff _ _ _ _ _ _ _ _).1 hf4
  obtain ⟨x2, y2, rfl, -⟩ := h2
  obtain ⟨x4, y4, rfl, -⟩ := h4
  clear hw4 hf4 q3
  go_wp2_with fail
  refine (implFormOk_any f (Fresh w3 w4) (w4.alloc _) _ _ _ _ _ (FormAt.keep ((SameOn.refl _ _).alloc (fun b hb => hb.2) _) _ HF4.out) (fun b hb => by have := hb.2; simp; omega) hc).mono ?_
  rintro e w5 ⟨rfl, hw5⟩
  have HW5 := hid ((HW4.out.alloc (by omega) _).trans (hw5.mono (by simp; omega)))
  have HF5 := hid (FormAt.keep (((SameOn.refl _ _).alloc (fun b hb => hb.2) _).below hw5 (fun b hb => by have := hb.2; simp; omega)) f HF4.out)
  simp only [World.size_alloc] at hw5
  have x5 := boxq hw5
  have q5 := boxq HW5.out
  have s5 := hw5.size
  simp only [World.size_alloc] at s5
  have hx5 : w.heap.size < w4.heap.size := by omega
  have HC6 := hid (toExpForm_any f B w5.drew _ _ _ _ _ (FormAt.keep (SameOn.drew _ _) _ (FormAt.keep (box_on HW5.out HR.out) _ HA.out)) (fun b hb => by have := HR.out b hb; show b < w5.heap.size; omega) hc)
  clear hw5 HW4 HF4
  go_wp2_with fail
  go_region_with (first
    | (go_at_call 9; refine HC6.out.mono ?_; rintro e w6 ⟨g0, g1, g2, g3, g4, rfl, hf6, hw6⟩; have x6 : ∀ j, w6.cell? ⟨w4.heap.size, j, none⟩ = w5.cell? ⟨w4.heap.size, j, none⟩ := fun j => hw6.cell (p := ⟨w4.heap.size, j, none⟩) (by show w4.heap.size < w5.heap.size; omega); have HF6 := hid hf6; have HW6 := hid hw6; clear hf6 hw6)
    | (go_at_call 11; refine (eqExpForm_any f (Fresh w3 w4) (Fresh w5.drew w6) w6 _ _ _ _ _ _ _ _ _ _ (FormAt.keep (HW6.out.on (fun b hb => by have := hb.2; show b < w5.heap.size; omega)) _ (FormAt.keep (SameOn.drew _ _) _ HF5.out)) HF6.out (fun b hb => by have := hb.2; have := HW6.out.size; have h : w5.heap.size ≤ w6.heap.size := this; omega) (fun b hb => hb.2)).mono ?_; rintro e w7 ⟨rfl, hw7⟩))
  all_goals go_wp2_with fail
  all_goals go_ret
  all_goals exact ⟨rfl, box_done (box_step (box_step HW5.out.drew HW6.out) hw7)⟩

end Go.Proofs.Ytkpamgabhlplfaa

namespace Go.Proofs.Ytkpamgabhlplfaa
open Go.ChangeShapes Go.WideShapes Go.ChangeAt Go.RowKit Go.Siskin

theorem Try.cellsInt : Try.prog.cellsOf 3 = 1 := by kernel_rfl
theorem Try.cellsStr : Try.prog.cellsOf 9 = 1 := by kernel_rfl
theorem Try.cellsInts : Try.prog.cellsOf 22 = 1 := by kernel_rfl
theorem Try.cellsForms : Try.prog.cellsOf 23 = 1 := by kernel_rfl
theorem Try.cellsForm : Try.prog.cellsOf 25 = 5 := by kernel_rfl

theorem list5 {α : Type} {cs : List α} (h : cs.length = 5) : ∃ c0 c1 c2 c3 c4, cs = [c0, c1, c2, c3, c4] := by
  match cs, h with
  | [c0, c1, c2, c3, c4], _ => exact ⟨c0, c1, c2, c3, c4, rfl⟩
theorem array5 {α : Type} {cs : Array α} (h : cs.size = 5) : ∃ c0 c1 c2 c3 c4, cs = #[c0, c1, c2, c3, c4] := by
  obtain ⟨l⟩ := cs
  obtain ⟨c0, c1, c2, c3, c4, e⟩ := list5 (cs := l) h
  exact ⟨c0, c1, c2, c3, c4, by rw [e]⟩

section
variable {H : Type} {enc : TypeId × Value → H} {W : World} {spare : Nat → Bool} {held : Bool}

/-- A cell that is there lies in a block that is there. -/
theorem cell_lt {a : Addr} {v : Value} (h : W.cell? a = some v) : a.block < W.heap.size := by
  unfold World.cell? at h
  cases e : W.heap[a.block]? with
  | none => rw [e] at h; simp at h
  | some o => exact (Array.getElem?_eq_some_iff.1 e).1

theorem ints_of {fuel : Nat} {v : Value} {x : DataW H × List MemPlace} (h : DataW.trod enc Try.prog W 0 spare held fuel 22 [v] = some x) : ∃ xs : List Int, IntsAt (fun b => b < W.heap.size) W v xs := by
  rcases open_ints Try.underlying22 Try.underlying3 Try.cellsInt h with ⟨hcs, _⟩ | ⟨a, len, cap, zs, hcs, _, hl, hm, hz, _, hcell, _⟩
  · simp only [List.cons.injEq, and_true] at hcs
    exact ⟨[], none, 0, hcs, ⟨Nat.zero_le _, Nat.le_refl _⟩, Or.inl rfl⟩
  · simp only [List.cons.injEq, and_true] at hcs
    have hlen : len ≤ zs.length := by rw [hz]; split <;> omega
    have hl2 : (zs.take len).length = len := by rw [List.length_take]; omega
    refine ⟨zs.take len, some a, cap, by rw [hl2]; exact hcs, ⟨by rw [hl2]; omega, by rw [hl2]; omega⟩, ?_⟩
    by_cases h0 : len = 0
    · left; subst h0; simp
    · right
      obtain ⟨b, o, rfl, hc⟩ := ints_at hcell (by omega)
      refine ⟨b, o, rfl, ?_, fun i hi => ?_⟩
      · exact cell_lt (hc 0 (by omega))
      · rw [hl2] at hi
        rw [hc i (by omega)]
        simp [List.getD_eq_getElem?_getD, hi]

theorem cells5 {a : Addr} {k0 k1 k2 k3 k4 : Value} (h : W.cells? 0 a 5 = some [k0, k1, k2, k3, k4]) : W.cell? (a.add 0) = some k0 ∧ W.cell? (a.add 1) = some k1 ∧ W.cell? (a.add 2) = some k2 ∧ W.cell? (a.add 3) = some k3 ∧ W.cell? (a.add 4) = some k4 := by
  unfold World.cells? at h
  rw [if_pos (Nat.zero_le _), show List.range 5 = [0, 1, 2, 3, 4] from rfl] at h
  have g := mapM_some_get h
  have e0 := g 0 0 rfl
  have e1 := g 1 1 rfl
  have e2 := g 2 2 rfl
  have e3 := g 3 3 rfl
  have e4 := g 4 4 rfl
  exact ⟨e0, e1, e2, e3, e4⟩

theorem form_of : ∀ (fuel : Nat) {cs : List Value} {x : DataW H × List MemPlace}, DataW.trod enc Try.prog W 0 spare held fuel 25 cs = some x →
    ∃ (c0 c1 c2 c3 c4 : Value) (f : Fm), cs = [c0, c1, c2, c3, c4] ∧ FormAt (fun b => b < W.heap.size) W f c0 c1 c2 c3 c4 := by
  intro fuel
  induction fuel using Nat.strongRecOn with
  | ind fuel ih =>
  intro cs x h
  obtain ⟨xs, n, hn, -, hl, hxs, hf⟩ := DataW.trod_struct Try.underlying25 h
  rw [Try.cellsForm] at hl
  obtain ⟨c0, c1, c2, c3, c4, rfl⟩ := list5 hl
  have hx5 : xs.length = 5 := hxs
  obtain ⟨x0, x1, x2, x3, x4, rfl⟩ := list5 hx5
  have g0 : DataW.trod enc Try.prog W 0 spare held n 3 [c0] = some x0 := by simpa [Try.cellsInt] using hf 0 _ rfl
  have g1 : DataW.trod enc Try.prog W 0 spare held n 9 [c1] = some x1 := by simpa [Try.cellsStr] using hf 1 _ rfl
  have g2 : DataW.trod enc Try.prog W 0 spare held n 22 [c2] = some x2 := by simpa [Try.cellsInts] using hf 2 _ rfl
  have g3 : DataW.trod enc Try.prog W 0 spare held n 3 [c3] = some x3 := by simpa [Try.cellsInt] using hf 3 _ rfl
  have g4 : DataW.trod enc Try.prog W 0 spare held n 23 [c4] = some x4 := by simpa [Try.cellsForms] using hf 4 _ rfl
  obtain ⟨s, e0, -, -⟩ := DataW.trod_int Try.underlying3 g0
  obtain ⟨t, e1, -, ht⟩ := DataW.trod_string Try.underlying9 g1
  obtain ⟨sc, hsc⟩ := ints_of g2
  obtain ⟨fr, e3, -, -⟩ := DataW.trod_int Try.underlying3 g3
  simp only [List.cons.injEq, and_true] at e0 e1 e3
  subst e0 e1 e3
  obtain ⟨ks, hks⟩ : ∃ ks, FormsAt (fun b => b < W.heap.size) W c4 ks := by
    rcases DataW.trod_slice Try.underlying23 g4 with ⟨hcs, -⟩ | ⟨a, len, cap, elems, rest, n2, hn2, hcs, -, -, hlc, hm, hlen, hel, -⟩
    · simp only [List.cons.injEq, and_true] at hcs
      exact ⟨[], none, 0, hcs, Nat.zero_le _, Or.inl rfl⟩
    · simp only [List.cons.injEq, and_true] at hcs
      have hall : ∀ i, i < len → ∃ f : Fm, ∃ k0 k1 k2 k3 k4, W.cells? 0 (a.add (i * 5)) 5 = some [k0, k1, k2, k3, k4] ∧ FormAt (fun b => b < W.heap.size) W f k0 k1 k2 k3 k4 := by
        intro i hi
        have he := hel i hi
        rw [Try.cellsForm, List.getElem?_eq_getElem (by omega)] at he
        obtain ⟨cs', h1, h2⟩ := Option.bind_eq_some_iff.1 he
        obtain ⟨k0, k1, k2, k3, k4, f, rfl, hf'⟩ := ih n2 (by omega) h2
        exact ⟨f, k0, k1, k2, k3, k4, h1, hf'⟩
      obtain ⟨F, hF⟩ := @Go.Deep.choose_lt Fm ⟨Fm.no⟩ _ _ hall
      have hl2 : ((List.range len).map F).length = len := by simp
      refine ⟨(List.range len).map F, some a, cap, by rw [hl2]; exact hcs, by rw [hl2]; omega, ?_⟩
      by_cases h0 : len = 0
      · left; subst h0; rfl
      · right
        obtain ⟨b, o, spot⟩ := a
        obtain ⟨k0, k1, k2, k3, k4, hc0, -⟩ := hF 0 (by omega)
        have hq := (cells5 hc0).1
        have hspot : spot = none := by simpa [Addr.add] using World.cell?_spot hq
        subst hspot
        refine ⟨b, o, rfl, ?_, RowAt.mk _ fun i hi => ?_⟩
        · have := cell_lt hq
          simpa [Addr.add] using this
        · rw [hl2] at hi
          obtain ⟨k0, k1, k2, k3, k4, hci, hfi⟩ := hF i hi
          obtain ⟨q0, q1, q2, q3, q4⟩ := cells5 hci
          rw [Go.Deep.add_add, Go.WideShapes.add_plain] at q0 q1 q2 q3 q4
          refine ⟨k0, k1, k2, k3, k4, q0, q1, q2, q3, q4, ?_⟩
          simpa using hfi
  exact ⟨_, _, _, _, _, .mk s t sc fr ks, rfl, (formAt_iff _ _ _ _ _ _ _ _).2 ⟨rfl, rfl, ht, hsc, rfl, hks⟩⟩
end
end Go.Proofs.Ytkpamgabhlplfaa
