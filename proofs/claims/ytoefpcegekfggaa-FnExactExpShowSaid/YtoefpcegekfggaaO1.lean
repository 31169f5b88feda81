/- A form that comes in as an argument, read as data, lies in memory as a tree. -/
import Derived.Test.YtoefpcegekfggaaMem
import Derived.Test.YtoefpcegekfggaaProg
import Derived.ProofKit
import Derived.OpenShut
import Derived.Deep.Slices
namespace Go.Proofs.Ytoefpcegekfggaa
open Go.ChangeShapes Go.WideShapes Go.ChangeAt Go.RowKit Go.Siskin

theorem Try.cellsInt : Try.prog.cellsOf 3 = 1 := by kernel_rfl
theorem Try.cellsStr : Try.prog.cellsOf 9 = 1 := by kernel_rfl
theorem Try.cellsInts : Try.prog.cellsOf 22 = 1 := by kernel_rfl
theorem Try.cellsForms : Try.prog.cellsOf 23 = 1 := by kernel_rfl
theorem Try.cellsForm : Try.prog.cellsOf 25 = 5 := by kernel_rfl

theorem list5 {α : Type} {cs : List α} (h : cs.length = 5) : ∃ c0 c1 c2 c3 c4, cs = [c0, c1, c2, c3, c4] := by
  match cs, h with
  | [c0, c1, c2, c3, c4], _ => exact ⟨c0, c1, c2, c3, c4, rfl⟩
theorem array5 {α : Type} {cs : Array α} (h : cs.size = 5) : ∃ c0 c1 c2 c3 c4, cs = #[c0, c1, c2, c3, c4] := by
  obtain ⟨l⟩ := cs
  obtain ⟨c0, c1, c2, c3, c4, e⟩ := list5 (cs := l) h
  exact ⟨c0, c1, c2, c3, c4, by rw [e]⟩

section
variable {H : Type} {enc : TypeId × Value → H} {W : World} {spare : Nat → Bool} {held : Bool}

/-- A cell that is there lies in a block that is there. -/
theorem cell_lt {a : Addr} {v : Value} (h : W.cell? a = some v) : a.block < W.heap.size := by
  unfold World.cell? at h
  cases e : W.heap[a.block]? with
  | none => rw [e] at h; simp at h
  | some o => exact (Array.getElem?_eq_some_iff.1 e).1

theorem ints_of {fuel : Nat} {v : Value} {x : DataW H × List MemPlace} (h : DataW.trod enc Try.prog W 0 spare held fuel 22 [v] = some x) : ∃ xs : List Int, IntsAt (fun b => b < W.heap.size) W v xs := by
  rcases open_ints Try.underlying22 Try.underlying3 Try.cellsInt h with ⟨hcs, _⟩ | ⟨a, len, cap, zs, hcs, _, hl, hm, hz, _, hcell, _⟩
  · simp only [List.cons.injEq, and_true] at hcs
    exact ⟨[], none, 0, hcs, Nat.zero_le _, Or.inl rfl⟩
  · simp only [List.cons.injEq, and_true] at hcs
    have hlen : len ≤ zs.length := by rw [hz]; split <;> omega
    have hl2 : (zs.take len).length = len := by rw [List.length_take]; omega
    refine ⟨zs.take len, some a, cap, by rw [hl2]; exact hcs, by rw [hl2]; omega, ?_⟩
    by_cases h0 : len = 0
    · left; subst h0; simp
    · right
      obtain ⟨b, o, rfl, hc⟩ := ints_at hcell (by omega)
      refine ⟨b, o, rfl, ?_, fun i hi => ?_⟩
      · exact cell_lt (hc 0 (by omega))
      · rw [hl2] at hi
        rw [hc i (by omega)]
        simp [List.getD_eq_getElem?_getD, hi]

theorem cells5 {a : Addr} {k0 k1 k2 k3 k4 : Value} (h : W.cells? 0 a 5 = some [k0, k1, k2, k3, k4]) : W.cell? (a.add 0) = some k0 ∧ W.cell? (a.add 1) = some k1 ∧ W.cell? (a.add 2) = some k2 ∧ W.cell? (a.add 3) = some k3 ∧ W.cell? (a.add 4) = some k4 := by
  unfold World.cells? at h
  rw [if_pos (Nat.zero_le _), show List.range 5 = [0, 1, 2, 3, 4] from rfl] at h
  have g := mapM_some_get h
  have e0 := g 0 0 rfl
  have e1 := g 1 1 rfl
  have e2 := g 2 2 rfl
  have e3 := g 3 3 rfl
  have e4 := g 4 4 rfl
  exact ⟨e0, e1, e2, e3, e4⟩

theorem form_of : ∀ (fuel : Nat) {cs : List Value} {x : DataW H × List MemPlace}, DataW.trod enc Try.prog W 0 spare held fuel 25 cs = some x →
    ∃ (c0 c1 c2 c3 c4 : Value) (f : Fm), cs = [c0, c1, c2, c3, c4] ∧ FormAt (fun b => b < W.heap.size) W f c0 c1 c2 c3 c4 := by
  intro fuel
  induction fuel using Nat.strongRecOn with
  | ind fuel ih =>
  intro cs x h
  obtain ⟨xs, n, hn, -, hl, hxs, hf⟩ := DataW.trod_struct Try.underlying25 h
  rw [Try.cellsForm] at hl
  obtain ⟨c0, c1, c2, c3, c4, rfl⟩ := list5 hl
  have hx5 : xs.length = 5 := hxs
  obtain ⟨x0, x1, x2, x3, x4, rfl⟩ := list5 hx5
  have g0 : DataW.trod enc Try.prog W 0 spare held n 3 [c0] = some x0 := by simpa [Try.cellsInt] using hf 0 _ rfl
  have g1 : DataW.trod enc Try.prog W 0 spare held n 9 [c1] = some x1 := by simpa [Try.cellsStr] using hf 1 _ rfl
  have g2 : DataW.trod enc Try.prog W 0 spare held n 22 [c2] = some x2 := by simpa [Try.cellsInts] using hf 2 _ rfl
  have g3 : DataW.trod enc Try.prog W 0 spare held n 3 [c3] = some x3 := by simpa [Try.cellsInt] using hf 3 _ rfl
  have g4 : DataW.trod enc Try.prog W 0 spare held n 23 [c4] = some x4 := by simpa [Try.cellsForms] using hf 4 _ rfl
  obtain ⟨s, e0, -, -⟩ := DataW.trod_int Try.underlying3 g0
  obtain ⟨t, e1, -, ht⟩ := DataW.trod_string Try.underlying9 g1
  obtain ⟨sc, hsc⟩ := ints_of g2
  obtain ⟨fr, e3, -, -⟩ := DataW.trod_int Try.underlying3 g3
  simp only [List.cons.injEq, and_true] at e0 e1 e3
  subst e0 e1 e3
  obtain ⟨ks, hks⟩ : ∃ ks, FormsAt (fun b => b < W.heap.size) W c4 ks := by
    rcases DataW.trod_slice Try.underlying23 g4 with ⟨hcs, -⟩ | ⟨a, len, cap, elems, rest, n2, hn2, hcs, -, -, hlc, hm, hlen, hel, -⟩
    · simp only [List.cons.injEq, and_true] at hcs
      exact ⟨[], none, 0, hcs, Nat.zero_le _, Or.inl rfl⟩
    · simp only [List.cons.injEq, and_true] at hcs
      have hall : ∀ i, i < len → ∃ f : Fm, ∃ k0 k1 k2 k3 k4, W.cells? 0 (a.add (i * 5)) 5 = some [k0, k1, k2, k3, k4] ∧ FormAt (fun b => b < W.heap.size) W f k0 k1 k2 k3 k4 := by
        intro i hi
        have he := hel i hi
        rw [Try.cellsForm, List.getElem?_eq_getElem (by omega)] at he
        obtain ⟨cs', h1, h2⟩ := Option.bind_eq_some_iff.1 he
        obtain ⟨k0, k1, k2, k3, k4, f, rfl, hf'⟩ := ih n2 (by omega) h2
        exact ⟨f, k0, k1, k2, k3, k4, h1, hf'⟩
      obtain ⟨F, hF⟩ := @Go.Deep.choose_lt Fm ⟨Fm.no⟩ _ _ hall
      have hl2 : ((List.range len).map F).length = len := by simp
      refine ⟨(List.range len).map F, some a, cap, by rw [hl2]; exact hcs, by rw [hl2]; omega, ?_⟩
      by_cases h0 : len = 0
      · left; subst h0; rfl
      · right
        obtain ⟨b, o, spot⟩ := a
        obtain ⟨k0, k1, k2, k3, k4, hc0, -⟩ := hF 0 (by omega)
        have hq := (cells5 hc0).1
        have hspot : spot = none := by simpa [Addr.add] using World.cell?_spot hq
        subst hspot
        refine ⟨b, o, rfl, ?_, RowAt.mk _ fun i hi => ?_⟩
        · have := cell_lt hq
          simpa [Addr.add] using this
        · rw [hl2] at hi
          obtain ⟨k0, k1, k2, k3, k4, hci, hfi⟩ := hF i hi
          obtain ⟨q0, q1, q2, q3, q4⟩ := cells5 hci
          rw [Go.Deep.add_add, Go.WideShapes.add_plain] at q0 q1 q2 q3 q4
          refine ⟨k0, k1, k2, k3, k4, q0, q1, q2, q3, q4, ?_⟩
          simpa using hfi
  exact ⟨_, _, _, _, _, .mk s t sc fr ks, rfl, (formAt_iff _ _ _ _ _ _ _ _).2 ⟨rfl, rfl, ht, hsc, rfl, hks⟩⟩
end
end Go.Proofs.Ytoefpcegekfggaa
