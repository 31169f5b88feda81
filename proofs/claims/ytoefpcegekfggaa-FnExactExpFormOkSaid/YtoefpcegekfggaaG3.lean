/- What stands after some kids have been opened by the program's openAll, and that one kid more keeps it. No program's step is walked here. -/
import Derived.Test.YtoefpcegekfggaaG2
import Derived.Maps.AppendAt
namespace Go.Proofs.Ytoefpcegekfggaa
open Go.RowKit Go.Siskin

theorem Try.infoIface : (Try.prog.info? 48).map (fun i => (i.zero, i.size, i.bytes)) = some (some .nilIface, 1, 16) := by kernel_rfl

def OpenForms (n : Nat) : Prop := ∀ ks : List Fm, Fm.szs ks ≤ n → ∀ (B : Nat → Prop) (w : World) (v : Value) (d m bo : Nat), FormsAt B w v ks → (∀ b, B b → b < w.heap.size ∧ b ≠ bo) → Own w bo 77 #[.int .i64 m] → m ≤ 1500 → d ≤ 61 → ks.length + Fm.costs ks ≤ 1048576 →
    Calls Try.prog 63 #[.pointer (some ⟨bo, 0, none⟩), v, .int .i64 d] w fun e w' => ∃ (m' : Int) (a : Option Addr) (len cap : Nat), Opened bo w w' m' ∧ e = .returned (.tuple #[.slice a len cap, .bool (goodsB ks d m)]) ∧
      (goodsB ks d m = true → m' = m + Fm.szs ks ∧ len = ks.length ∧ len ≤ cap ∧ (ks = [] ∨ ∃ g, a = some ⟨g, 0, none⟩ ∧ Reg B w w' g ∧ InRow (Reg B w w') w' g 0 (toIms ks)))

/-- The blocks in which what was opened so far may lie: old ones, and new ones but the row's own. -/
def Reg2 (B : Nat → Prop) (w wr : World) (v : Value) (b : Nat) : Prop := B b ∨ (w.heap.size ≤ b ∧ b < wr.heap.size ∧ v.ownBlock ≠ some b)

theorem ownsRow_grown {w w' : World} {base : Nat} {e : TypeId} {v : Value} {n : Nat} {xs : List Value} {row : Option Nat} (h : w.ownsRow base e 1 v n xs) (hg : w.grownBy w' row) (hr : ∀ k, row = some k → k < base) : w'.ownsRow base e 1 v n xs := by
  obtain ⟨h1, h2⟩ := h
  refine ⟨h1, ?_⟩
  rcases h2 with h2 | ⟨g, cap, cur, e1, e2, e3, e4⟩
  · exact Or.inl h2
  · refine Or.inr ⟨g, cap, cur, e1, e2, ?_, e4⟩
    rw [← e3]
    exact hg.block g (Array.getElem?_eq_some_iff.1 e3).1 (fun e => by have := hr g e.symm; omega)
theorem ownsRow_alloc {w : World} {base : Nat} {e : TypeId} {v : Value} {n : Nat} {xs : List Value} (h : w.ownsRow base e 1 v n xs) (o : Obj) : (w.alloc o).ownsRow base e 1 v n xs :=
  ownsRow_grown h (World.grownBy_alloc w o none) (fun _ e => by cases e)
/-- The row's own block is a new one. -/
theorem ownsRow_block {w : World} {base : Nat} {e : TypeId} {v : Value} {n : Nat} {xs : List Value} (h : w.ownsRow base e 1 v n xs) {b : Nat} (hb : v.ownBlock = some b) : base ≤ b ∧ b < w.heap.size := by
  rcases h.2 with h2 | ⟨g, cap, cur, e1, e2, e3, e4⟩
  · rw [h2.1] at hb; cases hb
  · rw [e1] at hb
    simp only [Value.ownBlock, Option.some.injEq] at hb
    subst hb
    exact ⟨e2, (Array.getElem?_eq_some_iff.1 e3).1⟩

/-- What stands after k kids have been opened. -/
structure AllRel (B : Nat → Prop) (w : World) (bo d m : Nat) (ks : List Fm) (k : Nat) (v : Value) (wr : World) : Prop where
  ok : oksB (ks.take k) d = true
  le : m + Fm.szs (ks.take k) ≤ 1500
  opened : Opened bo w wr ((m + Fm.szs (ks.take k) : Nat) : Int)
  vals : ∃ xs : List Value, wr.ownsRow w.heap.size 48 1 v k xs ∧ ∀ j (hj : j < ks.length), j < k → ∃ x, xs[j]? = some x ∧ InAt (Reg2 B w wr v) wr (toIm ks[j]) x

theorem grown_on {R : Nat → Prop} {a w w' : World} {row : Option Nat} (h : SameOn R a w) (hg : w.grownBy w' row) (hR : ∀ b, R b → b < w.heap.size ∧ some b ≠ row) : SameOn R a w' :=
  fun b hb => (hg.block b (hR b hb).1 (hR b hb).2).trans (h b hb)

/-- One kid more. -/
theorem all_step {B : Nat → Prop} {w wr w1 w2 : World} {bo d m k : Nat} {ks : List Fm} {v v' part : Value} {o o' : Obj} {xs : List Value} (hB : ∀ b, B b → b < w.heap.size ∧ b ≠ bo) (hbo : bo < w.heap.size) (hlt : k < ks.length)
    (ok : oksB (ks.take k) d = true) (opened : Opened bo w wr ((m + Fm.szs (ks.take k) : Nat) : Int))
    (hown : wr.ownsRow w.heap.size 48 1 v k xs) (hvals : ∀ j (hj : j < ks.length), j < k → ∃ x, xs[j]? = some x ∧ InAt (Reg2 B w wr v) wr (toIm ks[j]) x)
    (hgood : goodB ks[k] d (m + Fm.szs (ks.take k)) = true) (h1 : Opened bo (wr.alloc o) w1 (((m + Fm.szs (ks.take k) : Nat) : Int) + ks[k].sz)) (hin : InAt (Reg B (wr.alloc o) w1) w1 (toIm ks[k]) part)
    (hown' : w2.ownsRow w.heap.size 48 1 v' (k + 1) (xs ++ [part])) (hg : (w1.alloc o').grownBy w2 v.ownBlock) (hb : v'.ownBlock = v.ownBlock ∨ v'.ownBlock = some (w1.alloc o').heap.size) :
    AllRel B w bo d m ks (k + 1) v' w2 := by
  have hgd := hgood
  unfold goodB at hgd
  rw [Bool.and_eq_true, decide_eq_true_eq] at hgd
  have hszs := Fm.szs_take ks k hlt
  have s0 := opened.1.size
  have s1 := h1.1.size
  have s2 := hg.size
  simp only [World.size_alloc] at s1 s2
  have hvb : ∀ b, v.ownBlock = some b → w.heap.size ≤ b ∧ b < wr.heap.size := fun b hb => ownsRow_block hown hb
  have hlen : xs.length = k := by have := hown.1; omega
  refine ⟨?_, by omega, ?_, xs ++ [part], hown', ?_⟩
  · rw [oksB_take ks k d hlt, ok, hgd.1]; rfl
  · refine ⟨⟨hg.os.trans (h1.1.os.trans opened.1.os), hg.tape.trans (h1.1.tape.trans opened.1.tape), hg.output.trans (h1.1.output.trans opened.1.output), by omega, fun b hb1 hb2 => ?_⟩, ?_⟩
    · rw [hg.block b (by simp only [World.size_alloc]; omega) (fun e => by have := hvb b e.symm; omega), Below.heap_alloc _ _ _ (by omega), h1.1.block b (by simp only [World.size_alloc]; omega) hb2, Below.heap_alloc _ _ _ (by omega)]
      exact opened.1.block b hb1 hb2
    · have e : ((m + Fm.szs (ks.take (k + 1)) : Nat) : Int) = ((m + Fm.szs (ks.take k) : Nat) : Int) + ks[k].sz := by omega
      rw [e]
      refine (hg.block bo (by simp only [World.size_alloc]; omega) (fun e => by have := hvb bo e.symm; omega)).trans ((Below.heap_alloc _ _ _ (by omega)).trans h1.2)
  · intro j hj hjk
    by_cases e : j = k
    · subst e
      refine ⟨part, by rw [List.getElem?_append_right (by omega), hlen, Nat.sub_self]; rfl, InAt.mono ?_ _ (InAt.keep ?_ _ hin)⟩
      · intro b h
        rcases h with h | h
        · exact Or.inl h
        · refine Or.inr ⟨by have := h.1; simp only [World.size_alloc] at this; omega, by have := h.2; omega, ?_⟩
          rcases hb with hb | hb
          · rw [hb]; intro e; have := hvb b e; have := h.1; simp only [World.size_alloc] at this; omega
          · rw [hb]; intro e; have e := Option.some.inj e; have := h.2; simp only [World.size_alloc] at e; omega
      · refine grown_on ((SameOn.refl _ _).alloc ?_ _) hg ?_
        · intro b h
          rcases h with h | h
          · have := (hB b h).1; omega
          · exact h.2
        · intro b h
          simp only [World.size_alloc]
          rcases h with h | h
          · refine ⟨by have := (hB b h).1; omega, fun e => ?_⟩
            have := hvb b e.symm; have := (hB b h).1; omega
          · refine ⟨by have := h.2; omega, fun e => ?_⟩
            have := hvb b e.symm; have := h.1; simp only [World.size_alloc] at this; omega
    · obtain ⟨x, hx, hix⟩ := hvals j hj (by omega)
      refine ⟨x, by rw [List.getElem?_append_left (by omega)]; exact hx, InAt.mono ?_ _ (InAt.keep ?_ _ hix)⟩
      · intro b h
        rcases h with h | ⟨a1, a2, a3⟩
        · exact Or.inl h
        · refine Or.inr ⟨a1, by omega, ?_⟩
          rcases hb with hb | hb
          · rw [hb]; exact a3
          · rw [hb]; intro e; have e := Option.some.inj e; simp only [World.size_alloc] at e; omega
      · refine grown_on ((grown_on ((SameOn.refl _ _).alloc ?_ _) h1.1 ?_).alloc ?_ _) hg ?_
        · intro b h
          rcases h with h | ⟨a1, a2, a3⟩
          · have := (hB b h).1; omega
          · exact a2
        · intro b h
          simp only [World.size_alloc]
          rcases h with h | ⟨a1, a2, a3⟩
          · exact ⟨by have := (hB b h).1; omega, fun e => (hB b h).2 (Option.some.inj e)⟩
          · exact ⟨by omega, fun e => by have := Option.some.inj e; omega⟩
        · intro b h
          rcases h with h | ⟨a1, a2, a3⟩
          · have := (hB b h).1; omega
          · omega
        · intro b h
          simp only [World.size_alloc]
          rcases h with h | ⟨a1, a2, a3⟩
          · refine ⟨by have := (hB b h).1; omega, fun e => ?_⟩
            have := hvb b e.symm; have := (hB b h).1; omega
          · exact ⟨by omega, fun e => a3 e.symm⟩

end Go.Proofs.Ytoefpcegekfggaa
