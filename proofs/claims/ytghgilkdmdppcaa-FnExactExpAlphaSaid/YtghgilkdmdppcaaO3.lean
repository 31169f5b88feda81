/-
  A part that comes in as an argument, read as data, lies in memory as CoreAt says.
-/
import Derived.Test.YtghgilkdmdppcaaO1
import Derived.Test.YtghgilkdmdppcaaQ2
namespace Go.Proofs.Ytghgilkdmdppcaa
open Go.ChangeShapes Go.WideShapes Go.ChangeAt Go.RowKit Go.Siskin

theorem Try.cellsBool : Try.prog.cellsOf 4 = 1 := by kernel_rfl
theorem Try.cellsStrs : Try.prog.cellsOf 29 = 1 := by kernel_rfl
theorem Try.cellsCores : Try.prog.cellsOf 22 = 1 := by kernel_rfl
theorem Try.cellsCore : Try.prog.cellsOf 31 = 5 := by kernel_rfl
theorem Try.cellsStrC : Try.prog.cellsOf 9 = 1 := by kernel_rfl
theorem Try.cellsIntC : Try.prog.cellsOf 3 = 1 := by kernel_rfl

section
variable {H : Type} {enc : TypeId × Value → H} {W : World} {spare : Nat → Bool} {held : Bool}

theorem cell_of1 {a : Addr} {x : Value} (h : W.cells? 0 a 1 = some [x]) : W.cell? (a.add 0) = some x := by
  unfold World.cells? at h
  rw [if_pos (Nat.zero_le _), show List.range 1 = [0] from rfl] at h
  have g := mapM_some_get h
  exact g 0 0 rfl

theorem strs_of {fuel : Nat} {v : Value} {x : DataW H × List MemPlace} (h : DataW.trod enc Try.prog W 0 spare held fuel 29 [v] = some x) : ∃ xs : List ByteArray, StrsAt (fun b => b < W.heap.size) W v xs := by
  rcases DataW.trod_slice Try.underlying29 h with ⟨hcs, -⟩ | ⟨a, len, cap, elems, rest, n2, hn2, hcs, -, -, hlc, hm, hlen, hel, -⟩
  · simp only [List.cons.injEq, and_true] at hcs
    exact ⟨[], none, 0, hcs, ⟨Nat.zero_le _, Nat.le_refl _⟩, fun i hi => absurd hi (by simp), Or.inl rfl⟩
  · simp only [List.cons.injEq, and_true] at hcs
    have hall : ∀ i, i < len → ∃ s : ByteArray, W.cell? ((a.add (i * 1)).add 0) = some (.string s) ∧ s.size ≤ maxLen := by
      intro i hi
      have he := hel i hi
      rw [Try.cellsStrC, List.getElem?_eq_getElem (by omega)] at he
      obtain ⟨cs', h1, h2⟩ := Option.bind_eq_some_iff.1 he
      obtain ⟨t, e1, -, ht⟩ := DataW.trod_string Try.underlying9 h2
      subst e1
      exact ⟨t, cell_of1 h1, ht⟩
    obtain ⟨F, hF⟩ := @Go.Deep.choose_lt ByteArray ⟨⟨#[]⟩⟩ _ _ hall
    have hl2 : ((List.range len).map F).length = len := by simp
    refine ⟨(List.range len).map F, some a, cap, by rw [hl2]; exact hcs, ⟨by rw [hl2]; omega, by rw [hl2]; omega⟩, fun i hi => ?_, ?_⟩
    · rw [hl2] at hi
      simpa using (hF i hi).2
    · by_cases h0 : len = 0
      · left; subst h0; rfl
      · right
        obtain ⟨b, o, spot⟩ := a
        have hq := (hF 0 (by omega)).1
        have hspot : spot = none := by simpa [Addr.add] using World.cell?_spot hq
        subst hspot
        refine ⟨b, o, rfl, ?_, fun i hi => ?_⟩
        · have := cell_lt hq
          simpa [Addr.add] using this
        · rw [hl2] at hi
          have q := (hF i hi).1
          rw [Go.Deep.add_add, Go.WideShapes.add_plain] at q
          simpa using q

theorem core_of : ∀ (fuel : Nat) {cs : List Value} {x : DataW H × List MemPlace}, DataW.trod enc Try.prog W 0 spare held fuel 31 cs = some x →
    ∃ (c0 c1 c2 c3 c4 : Value) (f : Cm), cs = [c0, c1, c2, c3, c4] ∧ CoreAt (fun b => b < W.heap.size) W f c0 c1 c2 c3 c4 := by
  intro fuel
  induction fuel using Nat.strongRecOn with
  | ind fuel ih =>
  intro cs x h
  obtain ⟨xs, n, hn, -, hl, hxs, hf⟩ := DataW.trod_struct Try.underlying31 h
  rw [Try.cellsCore] at hl
  obtain ⟨c0, c1, c2, c3, c4, rfl⟩ := list5 hl
  have hx5 : xs.length = 5 := hxs
  obtain ⟨x0, x1, x2, x3, x4, rfl⟩ := list5 hx5
  have g0 : DataW.trod enc Try.prog W 0 spare held n 3 [c0] = some x0 := by simpa [Try.cellsIntC] using hf 0 _ rfl
  have g1 : DataW.trod enc Try.prog W 0 spare held n 9 [c1] = some x1 := by simpa [Try.cellsStrC] using hf 1 _ rfl
  have g2 : DataW.trod enc Try.prog W 0 spare held n 4 [c2] = some x2 := by simpa [Try.cellsBool] using hf 2 _ rfl
  have g3 : DataW.trod enc Try.prog W 0 spare held n 29 [c3] = some x3 := by simpa [Try.cellsStrs] using hf 3 _ rfl
  have g4 : DataW.trod enc Try.prog W 0 spare held n 22 [c4] = some x4 := by simpa [Try.cellsCores] using hf 4 _ rfl
  obtain ⟨s, e0, -, -⟩ := DataW.trod_int Try.underlying3 g0
  obtain ⟨t, e1, -, ht⟩ := DataW.trod_string Try.underlying9 g1
  obtain ⟨r, e2, -⟩ := DataW.trod_bool Try.underlying4 g2
  obtain ⟨ns, hns⟩ := strs_of g3
  simp only [List.cons.injEq, and_true] at e0 e1 e2
  subst e0 e1 e2
  obtain ⟨ks, hks⟩ : ∃ ks, CoresAt (fun b => b < W.heap.size) W c4 ks := by
    rcases DataW.trod_slice Try.underlying22 g4 with ⟨hcs, -⟩ | ⟨a, len, cap, elems, rest, n2, hn2, hcs, -, -, hlc, hm, hlen, hel, -⟩
    · simp only [List.cons.injEq, and_true] at hcs
      exact ⟨[], none, 0, hcs, ⟨Nat.zero_le _, Nat.le_refl _⟩, Or.inl rfl⟩
    · simp only [List.cons.injEq, and_true] at hcs
      have hall : ∀ i, i < len → ∃ f : Cm, ∃ k0 k1 k2 k3 k4, W.cells? 0 (a.add (i * 5)) 5 = some [k0, k1, k2, k3, k4] ∧ CoreAt (fun b => b < W.heap.size) W f k0 k1 k2 k3 k4 := by
        intro i hi
        have he := hel i hi
        rw [Try.cellsCore, List.getElem?_eq_getElem (by omega)] at he
        obtain ⟨cs', h1, h2⟩ := Option.bind_eq_some_iff.1 he
        obtain ⟨k0, k1, k2, k3, k4, f, rfl, hf'⟩ := ih n2 (by omega) h2
        exact ⟨f, k0, k1, k2, k3, k4, h1, hf'⟩
      obtain ⟨F, hF⟩ := @Go.Deep.choose_lt Cm ⟨Cm.no⟩ _ _ hall
      have hl2 : ((List.range len).map F).length = len := by simp
      refine ⟨(List.range len).map F, some a, cap, by rw [hl2]; exact hcs, ⟨by rw [hl2]; omega, by rw [hl2]; omega⟩, ?_⟩
      by_cases h0 : len = 0
      · left; subst h0; rfl
      · right
        obtain ⟨b, o, spot⟩ := a
        obtain ⟨k0, k1, k2, k3, k4, hc0, -⟩ := hF 0 (by omega)
        have hq := (cells5 hc0).1
        have hspot : spot = none := by simpa [Addr.add] using World.cell?_spot hq
        subst hspot
        refine ⟨b, o, rfl, ?_, CRowAt.mk _ fun i hi => ?_⟩
        · have := cell_lt hq
          simpa [Addr.add] using this
        · rw [hl2] at hi
          obtain ⟨k0, k1, k2, k3, k4, hci, hfi⟩ := hF i hi
          obtain ⟨q0, q1, q2, q3, q4⟩ := cells5 hci
          rw [Go.Deep.add_add, Go.WideShapes.add_plain] at q0 q1 q2 q3 q4
          refine ⟨k0, k1, k2, k3, k4, q0, q1, q2, q3, q4, ?_⟩
          simpa using hfi
  exact ⟨_, _, _, _, _, .mk s t r ns ks, rfl, (coreAt_iff _ _ _ _ _ _ _ _).2 ⟨rfl, rfl, ht, rfl, hns, hks⟩⟩
end
end Go.Proofs.Ytghgilkdmdppcaa
