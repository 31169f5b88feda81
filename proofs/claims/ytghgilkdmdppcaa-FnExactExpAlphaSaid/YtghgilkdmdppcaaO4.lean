/-
  A list of parts that comes in as an argument, read as data, lies in memory as CoresAt says.
-/
import Derived.Test.YtghgilkdmdppcaaO3
namespace Go.Proofs.Ytghgilkdmdppcaa
open Go.ChangeShapes Go.WideShapes Go.ChangeAt Go.RowKit Go.Siskin

section
variable {H : Type} {enc : TypeId × Value → H} {W : World} {spare : Nat → Bool} {held : Bool}

theorem cores_of {fuel : Nat} {v : Value} {x : DataW H × List MemPlace} (h : DataW.trod enc Try.prog W 0 spare held fuel 22 [v] = some x) : ∃ ks : List Cm, CoresAt (fun b => b < W.heap.size) W v ks := by
  rcases DataW.trod_slice Try.underlying22 h with ⟨hcs, -⟩ | ⟨a, len, cap, elems, rest, n2, hn2, hcs, -, -, hlc, hm, hlen, hel, -⟩
  · simp only [List.cons.injEq, and_true] at hcs
    exact ⟨[], none, 0, hcs, ⟨Nat.zero_le _, Nat.le_refl _⟩, Or.inl rfl⟩
  · simp only [List.cons.injEq, and_true] at hcs
    have hall : ∀ i, i < len → ∃ f : Cm, ∃ k0 k1 k2 k3 k4, W.cells? 0 (a.add (i * 5)) 5 = some [k0, k1, k2, k3, k4] ∧ CoreAt (fun b => b < W.heap.size) W f k0 k1 k2 k3 k4 := by
      intro i hi
      have he := hel i hi
      rw [Try.cellsCore, List.getElem?_eq_getElem (by omega)] at he
      obtain ⟨cs', h1, h2⟩ := Option.bind_eq_some_iff.1 he
      obtain ⟨k0, k1, k2, k3, k4, f, rfl, hf'⟩ := core_of n2 h2
      exact ⟨f, k0, k1, k2, k3, k4, h1, hf'⟩
    obtain ⟨F, hF⟩ := @Go.Deep.choose_lt Cm ⟨Cm.no⟩ _ _ hall
    have hl2 : ((List.range len).map F).length = len := by simp
    refine ⟨(List.range len).map F, some a, cap, by rw [hl2]; exact hcs, ⟨by rw [hl2]; omega, by rw [hl2]; omega⟩, ?_⟩
    by_cases h0 : len = 0
    · left; subst h0; rfl
    · right
      obtain ⟨b, o, spot⟩ := a
      obtain ⟨k0, k1, k2, k3, k4, hc0, -⟩ := hF 0 (by omega)
      have hq := (cells5 hc0).1
      have hspot : spot = none := by simpa [Addr.add] using World.cell?_spot hq
      subst hspot
      refine ⟨b, o, rfl, ?_, CRowAt.mk _ fun i hi => ?_⟩
      · have := cell_lt hq
        simpa [Addr.add] using this
      · rw [hl2] at hi
        obtain ⟨k0, k1, k2, k3, k4, hci, hfi⟩ := hF i hi
        obtain ⟨q0, q1, q2, q3, q4⟩ := cells5 hci
        rw [Go.Deep.add_add, Go.WideShapes.add_plain] at q0 q1 q2 q3 q4
        refine ⟨k0, k1, k2, k3, k4, q0, q1, q2, q3, q4, ?_⟩
        simpa using hfi
end
end Go.Proofs.Ytghgilkdmdppcaa
