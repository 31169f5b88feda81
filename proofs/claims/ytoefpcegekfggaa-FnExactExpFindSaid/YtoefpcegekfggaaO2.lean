/- Binds that come in as an argument, read as data, lie in memory side by side. -/
import Derived.Test.YtoefpcegekfggaaO1
import Derived.Test.YtoefpcegekfggaaB0
namespace Go.Proofs.Ytoefpcegekfggaa
open Go.ChangeShapes Go.WideShapes Go.ChangeAt Go.RowKit Go.Siskin

theorem Try.cellsBind : Try.prog.cellsOf 63 = 3 := by kernel_rfl

theorem list3 {α : Type} {cs : List α} (h : cs.length = 3) : ∃ c0 c1 c2, cs = [c0, c1, c2] := by
  match cs, h with
  | [c0, c1, c2], _ => exact ⟨c0, c1, c2, rfl⟩

section
variable {H : Type} {enc : TypeId × Value → H} {W : World} {spare : Nat → Bool} {held : Bool}

theorem cells3 {a : Addr} {k0 k1 k2 : Value} (h : W.cells? 0 a 3 = some [k0, k1, k2]) : W.cell? (a.add 0) = some k0 ∧ W.cell? (a.add 1) = some k1 ∧ W.cell? (a.add 2) = some k2 := by
  unfold World.cells? at h
  rw [if_pos (Nat.zero_le _), show List.range 3 = [0, 1, 2] from rfl] at h
  have g := mapM_some_get h
  have e0 := g 0 0 rfl
  have e1 := g 1 1 rfl
  have e2 := g 2 2 rfl
  exact ⟨e0, e1, e2⟩

theorem bind_of {fuel : Nat} {cs : List Value} {x : DataW H × List MemPlace} (h : DataW.trod enc Try.prog W 0 spare held fuel 63 cs = some x) :
    ∃ (c0 c1 c2 : Value) (d : Bd), cs = [c0, c1, c2] ∧ BindAt (fun b => b < W.heap.size) W d c0 c1 c2 := by
  obtain ⟨xs, n, hn, -, hl, hxs, hf⟩ := DataW.trod_struct Try.underlying63 h
  rw [Try.cellsBind] at hl
  obtain ⟨c0, c1, c2, rfl⟩ := list3 hl
  have hx3 : xs.length = 3 := hxs
  obtain ⟨x0, x1, x2, rfl⟩ := list3 hx3
  have g0 : DataW.trod enc Try.prog W 0 spare held n 9 [c0] = some x0 := by simpa [Try.cellsStr] using hf 0 _ rfl
  have g1 : DataW.trod enc Try.prog W 0 spare held n 22 [c1] = some x1 := by simpa [Try.cellsInts] using hf 1 _ rfl
  have g2 : DataW.trod enc Try.prog W 0 spare held n 9 [c2] = some x2 := by simpa [Try.cellsStr] using hf 2 _ rfl
  obtain ⟨t, e0, -, ht⟩ := DataW.trod_string Try.underlying9 g0
  obtain ⟨sc, hsc⟩ := ints_of g1
  obtain ⟨m, e2, -, hm⟩ := DataW.trod_string Try.underlying9 g2
  simp only [List.cons.injEq, and_true] at e0 e2
  subst e0 e2
  exact ⟨_, _, _, ⟨t, sc, m⟩, rfl, rfl, ht, hsc, rfl, hm⟩

theorem binds_of {fuel : Nat} {v : Value} {x : DataW H × List MemPlace} (h : DataW.trod enc Try.prog W 0 spare held fuel 35 [v] = some x) : ∃ ks, BindsAt (fun b => b < W.heap.size) W v ks := by
  rcases DataW.trod_slice Try.underlying35 h with ⟨hcs, -⟩ | ⟨a, len, cap, elems, rest, n2, hn2, hcs, -, -, hlc, hm, hlen, hel, -⟩
  · simp only [List.cons.injEq, and_true] at hcs
    exact ⟨[], none, 0, hcs, Nat.zero_le _, Or.inl rfl⟩
  · simp only [List.cons.injEq, and_true] at hcs
    have hall : ∀ i, i < len → ∃ d : Bd, ∃ k0 k1 k2, W.cells? 0 (a.add (i * 3)) 3 = some [k0, k1, k2] ∧ BindAt (fun b => b < W.heap.size) W d k0 k1 k2 := by
      intro i hi
      have he := hel i hi
      rw [Try.cellsBind, List.getElem?_eq_getElem (by omega)] at he
      obtain ⟨cs', h1, h2⟩ := Option.bind_eq_some_iff.1 he
      obtain ⟨k0, k1, k2, d, rfl, hd⟩ := bind_of h2
      exact ⟨d, k0, k1, k2, h1, hd⟩
    obtain ⟨F, hF⟩ := @Go.Deep.choose_lt Bd ⟨Bd.no⟩ _ _ hall
    have hl2 : ((List.range len).map F).length = len := by simp
    refine ⟨(List.range len).map F, some a, cap, by rw [hl2]; exact hcs, by rw [hl2]; omega, ?_⟩
    by_cases h0 : len = 0
    · left; subst h0; rfl
    · right
      obtain ⟨b, o, spot⟩ := a
      obtain ⟨k0, k1, k2, hc0, -⟩ := hF 0 (by omega)
      have hq := (cells3 hc0).1
      have hspot : spot = none := by simpa [Addr.add] using World.cell?_spot hq
      subst hspot
      refine ⟨b, o, rfl, ?_, fun i hi => ?_⟩
      · have := cell_lt hq
        simpa [Addr.add] using this
      · rw [hl2] at hi
        obtain ⟨k0, k1, k2, hci, hdi⟩ := hF i hi
        obtain ⟨q0, q1, q2⟩ := cells3 hci
        rw [Go.Deep.add_add, Go.WideShapes.add_plain] at q0 q1 q2
        refine ⟨k0, k1, k2, q0, q1, q2, ?_⟩
        simpa using hdi
end
end Go.Proofs.Ytoefpcegekfggaa
