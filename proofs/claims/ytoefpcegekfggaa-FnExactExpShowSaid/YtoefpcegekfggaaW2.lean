/- The program's way of showing: each sort's own method, and showAll, write into the builder what the plain function says. Condition: the form lies in memory ahead of the builder, which is one of the call's own. -/
import Derived.Test.YtoefpcegekfggaaShow
import Derived.Test.YtoefpcegekfggaaBW
import Derived.Test.YtoefpcegekfggaaG3
namespace Go.Proofs.Ytoefpcegekfggaa
open Go.RowKit Go.Siskin

abbrev isB (B b : Nat) (l : List UInt8) (w : World) : Prop := Lib.IsBuilder 54 5 B b (Lib.byteCells l) w

theorem isB_alloc {B b : Nat} {l : List UInt8} {w : World} (h : isB B b l w) (o : Obj) : isB B b l (w.alloc o) := by
  have key : ∀ p, Lib.BuilderAt 54 5 B b p (Lib.byteCells l) w → Lib.BuilderAt 54 5 B b p (Lib.byteCells l) (w.alloc o) := by
    rintro p ⟨h1, v, h2, h3, h4⟩
    exact ⟨h1, v, (Below.heap_alloc _ _ _ (Array.getElem?_eq_some_iff.1 h2).1).trans h2, ownsRow_alloc h3 o, h4⟩
  rcases h with h | h
  · exact Or.inl (key _ h)
  · exact Or.inr (key _ h)
theorem write_any (B b : Nat) (l : List UInt8) (s : ByteArray) (w : World) (h : isB B b l w) (hlen : l.length + s.size ≤ 140737488355328) (hBw : B ≤ w.heap.size) :
    Calls Try.prog 131 #[.pointer (some ⟨b, 0, none⟩), .string s] w fun e w' => e = .returned (.tuple #[.int .i64 s.size, .nilIface]) ∧ isB B b (l ++ s.data.toList) w' ∧ Wrote B b w w' := by
  refine (writeString_any B b (Lib.byteCells l) s w h (by simpa [Lib.byteCells] using hlen) hBw).mono ?_
  rintro e w' ⟨he, h1, h2⟩
  refine ⟨he, Or.inr ?_, h2⟩
  have e1 : Lib.byteCells (l ++ s.data.toList) = Lib.byteCells l ++ Lib.strCells s := by simp [Lib.byteCells, Lib.strCells]
  rw [e1]; exact h1

/-- The method that shows a value of a type. -/
def showFn (t : TypeId) : FuncId := if t = 90 then 129 else if t = 102 then 140 else if t = 107 then 148 else 157

def ShowIm (n : Nat) : Prop := ∀ p : Im, p.sz ≤ n → ∀ (R : Nat → Prop) (w : World) (t : TypeId) (x : Value) (B b : Nat) (l : List UInt8), InAt R w p (.iface t x) → (∀ c, R c → c < B) → isB B b l w → B ≤ w.heap.size → l.length + (showI p).length ≤ 1000000000 →
    Calls Try.prog (showFn t) #[x, .pointer (some ⟨b, 0, none⟩)] w fun e w' => e = .returned (.tuple #[]) ∧ isB B b (l ++ showI p) w' ∧ Wrote B b w w'

set_option maxHeartbeats 1000000 in
theorem showIm_id (t : ByteArray) (sc : List Int) (fr : Int) (c2 : Value) (hc2 : ∃ a n c, c2 = .slice a n c) (w : World) (B b : Nat) (l : List UInt8) (hb : isB B b l w) (hB : B ≤ w.heap.size) (hl : l.length + (showI (.id t sc fr)).length ≤ 1000000000) :
    Calls Try.prog 129 #[.agg #[.string t, c2, .int .i64 fr], .pointer (some ⟨b, 0, none⟩)] w fun e w' => e = .returned (.tuple #[]) ∧ isB B b (l ++ showI (.id t sc fr)) w' ∧ Wrote B b w w' := by
  obtain ⟨a, n, c, rfl⟩ := hc2
  have HB := hid hb
  rw [showI_id] at hl ⊢
  have hl' : l.length + t.size ≤ 1000000000 := by simpa using hl
  clear hb hl
  go_enter Try.func129, Try.ntmps129
  go_wp2_with fail
  refine (write_any B b l t _ (isB_alloc HB.out _) (by omega) (by simp; omega)).mono ?_
  rintro e w1 ⟨rfl, hb1, hw1⟩
  have HB1 := hid hb1
  clear hb1
  go_wp2_with fail
  go_end0
  exact ⟨rfl, HB1.out, ((Wrote.refl _ _ _).alloc hB _).trans hw1⟩

set_option maxHeartbeats 1000000 in
theorem showIm_atom (t : ByteArray) (w : World) (B b : Nat) (l : List UInt8) (hb : isB B b l w) (hB : B ≤ w.heap.size) (hl : l.length + (showI (.atom t)).length ≤ 1000000000) :
    Calls Try.prog 140 #[.agg #[.string t], .pointer (some ⟨b, 0, none⟩)] w fun e w' => e = .returned (.tuple #[]) ∧ isB B b (l ++ showI (.atom t)) w' ∧ Wrote B b w w' := by
  have HB := hid hb
  rw [showI_atom] at hl ⊢
  have hl' : l.length + t.size ≤ 1000000000 := by simpa using hl
  clear hb hl
  go_enter Try.func140, Try.ntmps140
  go_wp2_with fail
  refine (write_any B b l t _ (isB_alloc HB.out _) (by omega) (by simp; omega)).mono ?_
  rintro e w1 ⟨rfl, hb1, hw1⟩
  have HB1 := hid hb1
  clear hb1
  go_wp2_with fail
  go_end0
  exact ⟨rfl, HB1.out, ((Wrote.refl _ _ _).alloc hB _).trans hw1⟩

end Go.Proofs.Ytoefpcegekfggaa
