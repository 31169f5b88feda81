/-
  What stands after some kids have been opened by the program's openAll, and that one kid more keeps it. No program's step is walked here.
  The program's way of showing: each sort's own method, and showAll, write into the builder what the plain function says. Condition: the form lies in memory ahead of the builder, which is one of the call's own.
  The program's showAll and the methods that show lists, if each part is shown as it should be. Condition: the parts lie in memory ahead of the builder, which is one of the call's own.
  The model's l1Ok of an identifier and of an atom returns whether it is ok. Condition: the form lies in memory as FormAt says.
-/
import Derived.Test.YtkpamgabhlplfaaPart7
import Derived.Maps.AppendAt
import Derived.Test.YtkpamgabhlplfaaPart2
import Derived.Test.YtkpamgabhlplfaaPart4
namespace Go.Proofs.Ytkpamgabhlplfaa
open Go.RowKit Go.Siskin

theorem Try.infoIface : (Try.prog.info? 60).map (fun i => (i.zero, i.size, i.bytes)) = some (some .nilIface, 1, 16) := by kernel_rfl

def OpenForms (n : Nat) : Prop := ∀ ks : List Fm, Fm.szs ks ≤ n → ∀ (B : Nat → Prop) (w : World) (v : Value) (d m bo : Nat), FormsAt B w v ks → (∀ b, B b → b < w.heap.size ∧ b ≠ bo) → Own w bo 98 #[.int .i64 m] → m ≤ 1500 → d ≤ 61 → ks.length + Fm.costs ks ≤ 1048576 →
    Calls Try.prog 92 #[.pointer (some ⟨bo, 0, none⟩), v, .int .i64 d] w fun e w' => ∃ (m' : Int) (a : Option Addr) (len cap : Nat), Opened bo w w' m' ∧ e = .returned (.tuple #[.slice a len cap, .bool (goodsB ks d m)]) ∧
      (goodsB ks d m = true → m' = m + Fm.szs ks ∧ len = ks.length ∧ len ≤ cap ∧ (ks = [] ∨ ∃ g, a = some ⟨g, 0, none⟩ ∧ Reg B w w' g ∧ InRow (Reg B w w') w' g 0 (toIms ks)))

/-- The blocks in which what was opened so far may lie: old ones, and new ones but the row's own. -/
def Reg2 (B : Nat → Prop) (w wr : World) (v : Value) (b : Nat) : Prop := B b ∨ (w.heap.size ≤ b ∧ b < wr.heap.size ∧ v.ownBlock ≠ some b)

theorem ownsRow_grown {w w' : World} {base : Nat} {e : TypeId} {v : Value} {n : Nat} {xs : List Value} {row : Option Nat} (h : w.ownsRow base e 1 v n xs) (hg : w.grownBy w' row) (hr : ∀ k, row = some k → k < base) : w'.ownsRow base e 1 v n xs := by
  obtain ⟨h1, h2⟩ := h
  refine ⟨h1, ?_⟩
  rcases h2 with h2 | ⟨g, cap, cur, e1, e2, e3, e4⟩
  · exact Or.inl h2
  · refine Or.inr ⟨g, cap, cur, e1, e2, ?_, e4⟩
    rw [← e3]
    exact hg.block g (Array.getElem?_eq_some_iff.1 e3).1 (fun e => by have := hr g e.symm; omega)
theorem ownsRow_alloc {w : World} {base : Nat} {e : TypeId} {v : Value} {n : Nat} {xs : List Value} (h : w.ownsRow base e 1 v n xs) (o : Obj) : (w.alloc o).ownsRow base e 1 v n xs :=
  ownsRow_grown h (World.grownBy_alloc w o none) (fun _ e => by cases e)
/-- The row's own block is a new one. -/
theorem ownsRow_block {w : World} {base : Nat} {e : TypeId} {v : Value} {n : Nat} {xs : List Value} (h : w.ownsRow base e 1 v n xs) {b : Nat} (hb : v.ownBlock = some b) : base ≤ b ∧ b < w.heap.size := by
  rcases h.2 with h2 | ⟨g, cap, cur, e1, e2, e3, e4⟩
  · rw [h2.1] at hb; cases hb
  · rw [e1] at hb
    simp only [Value.ownBlock, Option.some.injEq] at hb
    subst hb
    exact ⟨e2, (Array.getElem?_eq_some_iff.1 e3).1⟩

/-- What stands after k kids have been opened. -/
structure AllRel (B : Nat → Prop) (w : World) (bo d m : Nat) (ks : List Fm) (k : Nat) (v : Value) (wr : World) : Prop where
  ok : oksB (ks.take k) d = true
  le : m + Fm.szs (ks.take k) ≤ 1500
  opened : Opened bo w wr ((m + Fm.szs (ks.take k) : Nat) : Int)
  vals : ∃ xs : List Value, wr.ownsRow w.heap.size 60 1 v k xs ∧ ∀ j (hj : j < ks.length), j < k → ∃ x, xs[j]? = some x ∧ InAt (Reg2 B w wr v) wr (toIm ks[j]) x

theorem grown_on {R : Nat → Prop} {a w w' : World} {row : Option Nat} (h : SameOn R a w) (hg : w.grownBy w' row) (hR : ∀ b, R b → b < w.heap.size ∧ some b ≠ row) : SameOn R a w' :=
  fun b hb => (hg.block b (hR b hb).1 (hR b hb).2).trans (h b hb)

/-- One kid more. -/
theorem all_step {B : Nat → Prop} {w wr w1 w2 : World} {bo d m k : Nat} {ks : List Fm} {v v' part : Value} {o o' : Obj} {xs : List Value} (hB : ∀ b, B b → b < w.heap.size ∧ b ≠ bo) (hbo : bo < w.heap.size) (hlt : k < ks.length)
    (ok : oksB (ks.take k) d = true) (opened : Opened bo w wr ((m + Fm.szs (ks.take k) : Nat) : Int))
    (hown : wr.ownsRow w.heap.size 60 1 v k xs) (hvals : ∀ j (hj : j < ks.length), j < k → ∃ x, xs[j]? = some x ∧ InAt (Reg2 B w wr v) wr (toIm ks[j]) x)
    (hgood : goodB ks[k] d (m + Fm.szs (ks.take k)) = true) (h1 : Opened bo (wr.alloc o) w1 (((m + Fm.szs (ks.take k) : Nat) : Int) + ks[k].sz)) (hin : InAt (Reg B (wr.alloc o) w1) w1 (toIm ks[k]) part)
    (hown' : w2.ownsRow w.heap.size 60 1 v' (k + 1) (xs ++ [part])) (hg : (w1.alloc o').grownBy w2 v.ownBlock) (hb : v'.ownBlock = v.ownBlock ∨ v'.ownBlock = some (w1.alloc o').heap.size) :
    AllRel B w bo d m ks (k + 1) v' w2 := by
  have hgd := hgood
  unfold goodB at hgd
  rw [Bool.and_eq_true, decide_eq_true_eq] at hgd
  have hszs := Fm.szs_take ks k hlt
  have s0 := opened.1.size
  have s1 := h1.1.size
  have s2 := hg.size
  simp only [World.size_alloc] at s1 s2
  have hvb : ∀ b, v.ownBlock = some b → w.heap.size ≤ b ∧ b < wr.heap.size := fun b hb => ownsRow_block hown hb
  have hlen : xs.length = k := by have := hown.1; omega
  refine ⟨?_, by omega, ?_, xs ++ [part], hown', ?_⟩
  · rw [oksB_take ks k d hlt, ok, hgd.1]; rfl
  · refine ⟨⟨hg.os.trans (h1.1.os.trans opened.1.os), hg.tape.trans (h1.1.tape.trans opened.1.tape), hg.output.trans (h1.1.output.trans opened.1.output), by omega, fun b hb1 hb2 => ?_⟩, ?_⟩
    · rw [hg.block b (by simp only [World.size_alloc]; omega) (fun e => by have := hvb b e.symm; omega), Below.heap_alloc _ _ _ (by omega), h1.1.block b (by simp only [World.size_alloc]; omega) hb2, Below.heap_alloc _ _ _ (by omega)]
      exact opened.1.block b hb1 hb2
    · have e : ((m + Fm.szs (ks.take (k + 1)) : Nat) : Int) = ((m + Fm.szs (ks.take k) : Nat) : Int) + ks[k].sz := by omega
      rw [e]
      refine (hg.block bo (by simp only [World.size_alloc]; omega) (fun e => by have := hvb bo e.symm; omega)).trans ((Below.heap_alloc _ _ _ (by omega)).trans h1.2)
  · intro j hj hjk
    by_cases e : j = k
    · subst e
      refine ⟨part, by rw [List.getElem?_append_right (by omega), hlen, Nat.sub_self]; rfl, InAt.mono ?_ _ (InAt.keep ?_ _ hin)⟩
      · intro b h
        rcases h with h | h
        · exact Or.inl h
        · refine Or.inr ⟨by have := h.1; simp only [World.size_alloc] at this; omega, by have := h.2; omega, ?_⟩
          rcases hb with hb | hb
          · rw [hb]; intro e; have := hvb b e; have := h.1; simp only [World.size_alloc] at this; omega
          · rw [hb]; intro e; have e := Option.some.inj e; have := h.2; simp only [World.size_alloc] at e; omega
      · refine grown_on ((SameOn.refl _ _).alloc ?_ _) hg ?_
        · intro b h
          rcases h with h | h
          · have := (hB b h).1; omega
          · exact h.2
        · intro b h
          simp only [World.size_alloc]
          rcases h with h | h
          · refine ⟨by have := (hB b h).1; omega, fun e => ?_⟩
            have := hvb b e.symm; have := (hB b h).1; omega
          · refine ⟨by have := h.2; omega, fun e => ?_⟩
            have := hvb b e.symm; have := h.1; simp only [World.size_alloc] at this; omega
    · obtain ⟨x, hx, hix⟩ := hvals j hj (by omega)
      refine ⟨x, by rw [List.getElem?_append_left (by omega)]; exact hx, InAt.mono ?_ _ (InAt.keep ?_ _ hix)⟩
      · intro b h
        rcases h with h | ⟨a1, a2, a3⟩
        · exact Or.inl h
        · refine Or.inr ⟨a1, by omega, ?_⟩
          rcases hb with hb | hb
          · rw [hb]; exact a3
          · rw [hb]; intro e; have e := Option.some.inj e; simp only [World.size_alloc] at e; omega
      · refine grown_on ((grown_on ((SameOn.refl _ _).alloc ?_ _) h1.1 ?_).alloc ?_ _) hg ?_
        · intro b h
          rcases h with h | ⟨a1, a2, a3⟩
          · have := (hB b h).1; omega
          · exact a2
        · intro b h
          simp only [World.size_alloc]
          rcases h with h | ⟨a1, a2, a3⟩
          · exact ⟨by have := (hB b h).1; omega, fun e => (hB b h).2 (Option.some.inj e)⟩
          · exact ⟨by omega, fun e => by have := Option.some.inj e; omega⟩
        · intro b h
          rcases h with h | ⟨a1, a2, a3⟩
          · have := (hB b h).1; omega
          · omega
        · intro b h
          simp only [World.size_alloc]
          rcases h with h | ⟨a1, a2, a3⟩
          · refine ⟨by have := (hB b h).1; omega, fun e => ?_⟩
            have := hvb b e.symm; have := (hB b h).1; omega
          · exact ⟨by omega, fun e => a3 e.symm⟩

end Go.Proofs.Ytkpamgabhlplfaa

namespace Go.Proofs.Ytkpamgabhlplfaa
open Go.RowKit Go.Siskin

abbrev isB (B b : Nat) (l : List UInt8) (w : World) : Prop := Lib.IsBuilder 66 5 B b (Lib.byteCells l) w

theorem isB_alloc {B b : Nat} {l : List UInt8} {w : World} (h : isB B b l w) (o : Obj) : isB B b l (w.alloc o) := by
  have key : ∀ p, Lib.BuilderAt 66 5 B b p (Lib.byteCells l) w → Lib.BuilderAt 66 5 B b p (Lib.byteCells l) (w.alloc o) := by
    rintro p ⟨h1, v, h2, h3, h4⟩
    exact ⟨h1, v, (Below.heap_alloc _ _ _ (Array.getElem?_eq_some_iff.1 h2).1).trans h2, ownsRow_alloc h3 o, h4⟩
  rcases h with h | h
  · exact Or.inl (key _ h)
  · exact Or.inr (key _ h)
theorem write_any (B b : Nat) (l : List UInt8) (s : ByteArray) (w : World) (h : isB B b l w) (hlen : l.length + s.size ≤ 140737488355328) (hBw : B ≤ w.heap.size) :
    Calls Try.prog 105 #[.pointer (some ⟨b, 0, none⟩), .string s] w fun e w' => e = .returned (.tuple #[.int .i64 s.size, .nilIface]) ∧ isB B b (l ++ s.data.toList) w' ∧ Wrote B b w w' := by
  refine (writeString_any B b (Lib.byteCells l) s w h (by simpa [Lib.byteCells] using hlen) hBw).mono ?_
  rintro e w' ⟨he, h1, h2⟩
  refine ⟨he, Or.inr ?_, h2⟩
  have e1 : Lib.byteCells (l ++ s.data.toList) = Lib.byteCells l ++ Lib.strCells s := by simp [Lib.byteCells, Lib.strCells]
  rw [e1]; exact h1

/-- The method that shows a value of a type. -/
def showFn (t : TypeId) : FuncId := if t = 120 then 163 else if t = 136 then 171 else if t = 141 then 179 else 188

def ShowIm (n : Nat) : Prop := ∀ p : Im, p.sz ≤ n → ∀ (R : Nat → Prop) (w : World) (t : TypeId) (x : Value) (B b : Nat) (l : List UInt8), InAt R w p (.iface t x) → (∀ c, R c → c < B) → isB B b l w → B ≤ w.heap.size → l.length + (showI p).length ≤ 1000000000 →
    Calls Try.prog (showFn t) #[x, .pointer (some ⟨b, 0, none⟩)] w fun e w' => e = .returned (.tuple #[]) ∧ isB B b (l ++ showI p) w' ∧ Wrote B b w w'

set_option maxHeartbeats 1000000 in
theorem showIm_id (t : ByteArray) (sc : List Int) (fr : Int) (c2 : Value) (hc2 : ∃ a n c, c2 = .slice a n c) (w : World) (B b : Nat) (l : List UInt8) (hb : isB B b l w) (hB : B ≤ w.heap.size) (hl : l.length + (showI (.id t sc fr)).length ≤ 1000000000) :
    Calls Try.prog 163 #[.agg #[.string t, c2, .int .i64 fr], .pointer (some ⟨b, 0, none⟩)] w fun e w' => e = .returned (.tuple #[]) ∧ isB B b (l ++ showI (.id t sc fr)) w' ∧ Wrote B b w w' := by
  obtain ⟨a, n, c, rfl⟩ := hc2
  have HB := hid hb
  rw [showI_id] at hl ⊢
  have hl' : l.length + t.size ≤ 1000000000 := by simpa using hl
  clear hb hl
  go_enter Try.func163, Try.ntmps163
  go_wp2_with fail
  refine (write_any B b l t _ (isB_alloc HB.out _) (by omega) (by simp; omega)).mono ?_
  rintro e w1 ⟨rfl, hb1, hw1⟩
  have HB1 := hid hb1
  clear hb1
  go_wp2_with fail
  go_end0
  exact ⟨rfl, HB1.out, ((Wrote.refl _ _ _).alloc hB _).trans hw1⟩

set_option maxHeartbeats 1000000 in
theorem showIm_atom (t : ByteArray) (w : World) (B b : Nat) (l : List UInt8) (hb : isB B b l w) (hB : B ≤ w.heap.size) (hl : l.length + (showI (.atom t)).length ≤ 1000000000) :
    Calls Try.prog 171 #[.agg #[.string t], .pointer (some ⟨b, 0, none⟩)] w fun e w' => e = .returned (.tuple #[]) ∧ isB B b (l ++ showI (.atom t)) w' ∧ Wrote B b w w' := by
  have HB := hid hb
  rw [showI_atom] at hl ⊢
  have hl' : l.length + t.size ≤ 1000000000 := by simpa using hl
  clear hb hl
  go_enter Try.func171, Try.ntmps171
  go_wp2_with fail
  refine (write_any B b l t _ (isB_alloc HB.out _) (by omega) (by simp; omega)).mono ?_
  rintro e w1 ⟨rfl, hb1, hw1⟩
  have HB1 := hid hb1
  clear hb1
  go_wp2_with fail
  go_end0
  exact ⟨rfl, HB1.out, ((Wrote.refl _ _ _).alloc hB _).trans hw1⟩

end Go.Proofs.Ytkpamgabhlplfaa

namespace Go.Proofs.Ytkpamgabhlplfaa
open Go.RowKit Go.Siskin

/-- The four sorts of a value behind the interface. -/
theorem InAt.four {R : Nat → Prop} {w : World} {p : Im} {v : Value} (h : InAt R w p v) : (∃ x, v = .iface 120 x) ∨ (∃ x, v = .iface 136 x) ∨ (∃ x, v = .iface 141 x) ∨ (∃ x, v = .iface 143 x) := by
  rw [InAt_kinds] at h
  rcases h with ⟨t, sc, fr, rfl, c2, h1, h2, h3⟩ | ⟨t, rfl, h1, h2⟩ | ⟨ps, rfl, a, cap, h1, h2, h3⟩ | ⟨ps, l, rfl, a, cap, e, h1, h2, h3, h4⟩
  · exact Or.inl ⟨_, h1⟩
  · exact Or.inr (Or.inl ⟨_, h1⟩)
  · exact Or.inr (Or.inr (Or.inl ⟨_, h1⟩))
  · exact Or.inr (Or.inr (Or.inr ⟨_, h1⟩))

/- ### Which method is called -/
def showName : String := "loop.example/siskin/impl.show"
theorem meth_id (x : Value) (w : World) : (method 310 120 x showName).run Try.prog w = .ok (163, x) w := by kernel_rfl
theorem meth_atom (x : Value) (w : World) : (method 310 136 x showName).run Try.prog w = .ok (171, x) w := by kernel_rfl
theorem meth_list (x : Value) (w : World) : (method 310 141 x showName).run Try.prog w = .ok (179, x) w := by kernel_rfl
theorem meth_dots (x : Value) (w : World) : (method 310 143 x showName).run Try.prog w = .ok (188, x) w := by kernel_rfl

theorem showFn_id : showFn 120 = 163 := rfl
theorem showFn_atom : showFn 136 = 171 := rfl
theorem showFn_list : showFn 141 = 179 := rfl
theorem showFn_dots : showFn 143 = 188 := rfl

def ShowIms (n : Nat) : Prop := ∀ ps : List Im, Im.szs ps ≤ n → ∀ (R : Nat → Prop) (w : World) (a : Option Addr) (cap B b : Nat) (l : List UInt8), ps.length ≤ maxLen → (ps = [] ∨ ∃ g o, a = some ⟨g, o, none⟩ ∧ R g ∧ InRow R w g o ps) → (∀ c, R c → c < B) → isB B b l w → B ≤ w.heap.size → l.length + (showIs 0 ps).length ≤ 1000000000 →
    Calls Try.prog 181 #[.slice a ps.length cap, .pointer (some ⟨b, 0, none⟩)] w fun e w' => e = .returned (.tuple #[]) ∧ isB B b (l ++ showIs 0 ps) w' ∧ Wrote B b w w'

set_option maxRecDepth 20000 in
set_option maxHeartbeats 4000000 in
theorem showIms_of (n : Nat) (ih : ShowIm n) : ShowIms n := by
  intro ps hps R w a cap B b l hm ha hR hb hB hl
  unfold maxLen at hm
  have HI := hid ih
  have HR := hid hR
  have HB := hid hb
  have HL := hid hl
  clear ih hR hb hl
  go_enter Try.func181, Try.ntmps181
  go_wp2_with fail
  go_loopw [8] (fun i wr => ∃ k : Nat, k ≤ ps.length ∧ i = .int .i64 k ∧ Hid (isB B b (l ++ showIs 0 (ps.take k)) wr) ∧ Hid (Wrote B b w wr)) (fun i _ => ps.length - (intOf i).toNat)
  case atStart => exact ⟨0, Nat.zero_le _, rfl, by show isB _ _ _ _; simpa [showIs, joinI] using HB.out, Wrote.refl _ _ _⟩
  case round =>
    obtain ⟨k, hk, rfl, HK, HW⟩ := hrel
    have hsz := HW.out.1.size
    by_cases hlt : k < ps.length
    · rcases ha with ha | ⟨g, o, rfl, hg, ha⟩
      · subst ha; simp at hlt
      obtain ⟨v, hv, hin⟩ := InRow.get ps (InRow.keep (HW.out.1.on HR.out) hg ps ha) k hlt
      have HT := hid (showIs_take ps k hlt)
      have hle := showIs_le ps 0 (k + 1)
      rw [HT.out] at hle
      simp only [List.length_append] at hle
      have HLE := hid hle
      have HSZ := hid (Nat.le_trans (Im.szs_get ps k hlt) hps)
      clear ha hle
      by_cases hk0 : 0 < k
      · have hk0' : (0 : Int) < (k : Int) := by omega
        have HP := hid (if_pos (c := 0 < k) hk0 : (if 0 < k then [(32 : UInt8)] else []) = [32])
        have hlen : (l ++ showIs 0 (ps.take k)).length + 1 + (showI ps[k]).length ≤ 1000000000 := by
          have h := HLE.out
          have hl := HL.out
          rw [HP.out] at h
          simp only [List.length_append, List.length_cons, List.length_nil] at h ⊢
          omega
        have hcont : ∀ (t : TypeId) (x : Value) (w1 : World), v = .iface t x → Wrote B b wr w1 → isB B b (l ++ showIs 0 (ps.take k) ++ [32]) w1 → Calls Try.prog (showFn t) #[x, .pointer (some ⟨b, 0, none⟩)] w1 fun e w' => e = .returned (.tuple #[]) ∧ isB B b (l ++ showIs 0 (ps.take (k + 1))) w' ∧ Wrote B b w w' := by
          intro t x w1 hv1 hw1 hb1
          subst hv1
          refine (HI.out ps[k] HSZ.out R w1 t x B b _ (InAt.keep (hw1.1.on HR.out) _ hin) HR.out hb1 (by have := hw1.1.size; omega) (by simp only [List.length_append, List.length_cons, List.length_nil] at hlen ⊢; omega)).mono ?_
          rintro e w' ⟨he, h1, h2⟩
          refine ⟨he, ?_, (HW.out.trans hw1).trans h2⟩
          rw [HT.out, HP.out]
          simpa using h1
        have HCN := hid hcont
        have HN := hid hlen
        have m1 := meth_id
        have m2 := meth_atom
        have m3 := meth_list
        have m4 := meth_dots
        simp [showName] at m1 m2 m3 m4
        rcases InAt.four hin with ⟨x, rfl⟩ | ⟨x, rfl⟩ | ⟨x, rfl⟩ | ⟨x, rfl⟩
        all_goals
          clear hin hcont hlen
          go_wp2_with fail
          refine (write_any B b _ ⟨#[32]⟩ wr HK.out (by have h := HN.out; simp only [List.length_append] at h ⊢; show _ + 1 ≤ _; omega) (by omega)).mono ?_
          rintro e w1 ⟨rfl, hb1, hw1⟩
          have HB1 := hid hb1
          have HW1 := hid hw1
          clear hb1 hw1
          go_wp2_with fail
          have hq := HCN.out _ x w1 rfl HW1.out HB1.out
          simp only [showFn_id, showFn_atom, showFn_list, showFn_dots] at hq
          refine hq.mono ?_
          rintro e w2 ⟨rfl, hb2, hw2⟩
          have HB2 := hid hb2
          have HW2 := hid hw2
          clear hb2 hw2 hq
          go_wp2_with fail
          exact ⟨⟨k + 1, by omega, by go_num, HB2.out, HW2.out⟩, by simp [intOf]; omega⟩
      · have hk0' : ¬ (0 : Int) < (k : Int) := by omega
        have HP := hid (if_neg (c := 0 < k) hk0 : (if 0 < k then [(32 : UInt8)] else []) = [])
        have hlen : (l ++ showIs 0 (ps.take k)).length + (showI ps[k]).length ≤ 1000000000 := by
          have h := HLE.out
          have hl := HL.out
          rw [HP.out] at h
          simp only [List.length_append, List.length_nil] at h ⊢
          omega
        have hcont : ∀ (t : TypeId) (x : Value), v = .iface t x → Calls Try.prog (showFn t) #[x, .pointer (some ⟨b, 0, none⟩)] wr fun e w' => e = .returned (.tuple #[]) ∧ isB B b (l ++ showIs 0 (ps.take (k + 1))) w' ∧ Wrote B b w w' := by
          intro t x hv1
          subst hv1
          refine (HI.out ps[k] HSZ.out R wr t x B b _ hin HR.out HK.out (by omega) hlen).mono ?_
          rintro e w' ⟨he, h1, h2⟩
          refine ⟨he, ?_, HW.out.trans h2⟩
          rw [HT.out, HP.out]
          simpa using h1
        have HCN := hid hcont
        have m1 := meth_id
        have m2 := meth_atom
        have m3 := meth_list
        have m4 := meth_dots
        simp [showName] at m1 m2 m3 m4
        rcases InAt.four hin with ⟨x, rfl⟩ | ⟨x, rfl⟩ | ⟨x, rfl⟩ | ⟨x, rfl⟩
        all_goals
          clear hin hcont hlen
          go_wp2_with fail
          have hq := HCN.out _ x rfl
          simp only [showFn_id, showFn_atom, showFn_list, showFn_dots] at hq
          refine hq.mono ?_
          rintro e w2 ⟨rfl, hb2, hw2⟩
          have HB2 := hid hb2
          have HW2 := hid hw2
          clear hb2 hw2 hq
          go_wp2_with fail
          exact ⟨⟨k + 1, by omega, by go_num, HB2.out, HW2.out⟩, by simp [intOf]; omega⟩
    · go_wp2_with fail
      go_end0
      have h := HK.out
      rw [List.take_of_length_le (by omega)] at h
      exact ⟨rfl, h, HW.out⟩

end Go.Proofs.Ytkpamgabhlplfaa

namespace Go.Proofs.Ytkpamgabhlplfaa
open Go.RowKit Go.Siskin

theorem belowM {B : Nat} {a w : World} (h : Below B a w) (n : Nat) : Below B a (w.drewN n) := h.trans ⟨rfl, rfl, rfl, Nat.le_refl _, fun _ _ => rfl⟩

theorem idForm_0 {f : Fm} (h1 : idB f.text.data.toList = true) (h2 : (f.text.size : Int) ≤ 40) (h3 : 0 ≤ f.frm) (h4 : scopesB f.scopes = true) : ((f.kids.length : Int) == 0) = idFormB f := by
  unfold idFormB; rw [h1, h4, decide_eq_true (by omega), decide_eq_true h3]
  by_cases h : f.kids.length = 0
  · rw [decide_eq_true h, h]; rfl
  · rw [decide_eq_false h, Bool.and_false, beq_eq_false_iff_ne]; omega
theorem idForm_1 {f : Fm} (h : ¬ idB f.text.data.toList = true) : false = idFormB f := by
  unfold idFormB; rw [show idB f.text.data.toList = false from by simpa using h]; rfl
theorem idForm_2 {f : Fm} (h : 40 < (f.text.size : Int)) : false = idFormB f := by
  unfold idFormB; rw [decide_eq_false (p := f.text.size ≤ 40) (by omega)]; simp
theorem idForm_3 {f : Fm} (h : f.frm < 0) : false = idFormB f := by
  unfold idFormB; rw [decide_eq_false (p := 0 ≤ f.frm) (by omega)]; simp
theorem idForm_4 {f : Fm} (h : ¬ scopesB f.scopes = true) : false = idFormB f := by
  unfold idFormB; rw [show scopesB f.scopes = false from by simpa using h]; simp
theorem atomForm_0 {f : Fm} (h1 : atomB f.text.data.toList = true) (h2 : (f.text.size : Int) ≤ 40) (h3 : f.frm = 0) : ((f.scopes.length + f.kids.length : Int) == 0) = atomFormB f := by
  unfold atomFormB; rw [h1, decide_eq_true (by omega), decide_eq_true h3]
  by_cases h : f.scopes.length + f.kids.length = 0
  · rw [decide_eq_true h, beq_iff_eq.2 (by omega)]; rfl
  · rw [decide_eq_false h, Bool.and_false, beq_eq_false_iff_ne]; omega
theorem atomForm_1 {f : Fm} (h : ¬ atomB f.text.data.toList = true) : false = atomFormB f := by
  unfold atomFormB; rw [show atomB f.text.data.toList = false from by simpa using h]; rfl
theorem atomForm_2 {f : Fm} (h : 40 < (f.text.size : Int)) : false = atomFormB f := by
  unfold atomFormB; rw [decide_eq_false (p := f.text.size ≤ 40) (by omega)]; simp
theorem atomForm_3 {f : Fm} (h : ¬ f.frm = 0) : false = atomFormB f := by
  unfold atomFormB; rw [decide_eq_false (p := f.frm = 0) (by omega)]; simp

def OkForm (n : Nat) : Prop := ∀ f : Fm, f.sz ≤ n → ∀ (B : Nat → Prop) (w : World) (c0 c1 c2 c3 c4 : Value) (d : Nat), FormAt B w f c0 c1 c2 c3 c4 → (∀ b, B b → b < w.heap.size) → d ≤ 100 → f.cost ≤ 1048576 →
    Calls Try.prog 51 #[.agg #[c0, c1, c2, c3, c4], .int .i64 d] w fun e w' => e = .returned (.bool (okB f d)) ∧ Below w.heap.size w w'

set_option maxHeartbeats 1000000 in
theorem okForm_id (f : Fm) (B : Nat → Prop) (w : World) (c0 c1 c2 c3 c4 : Value) (d : Nat) (hA : FormAt B w f c0 c1 c2 c3 c4) (hB : ∀ b, B b → b < w.heap.size) (hd : d ≤ 60) (hs : f.sort = 1) :
    Calls Try.prog 51 #[.agg #[c0, c1, c2, c3, c4], .int .i64 d] w fun e w' => e = .returned (.bool (okB f d)) ∧ Below w.heap.size w w' := by
  obtain ⟨rfl, rfl, ht, h2, rfl, h4⟩ := (formAt_iff _ _ _ _ _ _ _ _).1 hA
  rw [hs]
  have H2 := hid h2
  have HR := hid hB
  obtain ⟨a2, k2, rfl, hl2, -⟩ := h2
  obtain ⟨a4, k4, rfl, hl4, -⟩ := h4
  have HX := hid (okB_id f d hd hs)
  have Hht := hid ht
  unfold maxLen at hl2 hl4 ht
  clear hA hB hs
  go_enter Try.func51, Try.ntmps51
  go_wp2_with (first
    | (go_at_call 64; refine (l1IdOk_any _ _ Hht.out).mono ?_; rintro e w' ⟨rfl, hw⟩; rw [hw]; clear hw w')
    | (go_at_call 65; refine (l1ScopesOk_any B _ f.scopes _ (H2.out.keep ((SameOn.refl _ _).alloc HR.out _))).mono ?_; rintro e w' ⟨rfl, m, rfl⟩))
  all_goals go_ret
  all_goals refine ⟨ret_bool ?_, ?_⟩
  all_goals first
    | exact (Below.refl _ _).alloc (Nat.le_refl _) _
    | exact belowM ((Below.refl _ _).alloc (Nat.le_refl _) _) _
    | skip
  all_goals rw [HX.out]
  all_goals first
    | exact idForm_0 ‹_› ‹_› ‹_› ‹_›
    | exact idForm_1 ‹_›
    | exact idForm_2 ‹_›
    | exact idForm_3 ‹_›
    | exact idForm_4 ‹_›

set_option maxHeartbeats 1000000 in
theorem okForm_atom (f : Fm) (B : Nat → Prop) (w : World) (c0 c1 c2 c3 c4 : Value) (d : Nat) (hA : FormAt B w f c0 c1 c2 c3 c4) (hd : d ≤ 60) (hs : f.sort = 2) (hc : f.cost ≤ 1048576) :
    Calls Try.prog 51 #[.agg #[c0, c1, c2, c3, c4], .int .i64 d] w fun e w' => e = .returned (.bool (okB f d)) ∧ Below w.heap.size w w' := by
  obtain ⟨rfl, rfl, ht, h2, rfl, h4⟩ := (formAt_iff _ _ _ _ _ _ _ _).1 hA
  rw [hs]
  obtain ⟨a2, k2, rfl, hl2, -⟩ := h2
  obtain ⟨a4, k4, rfl, hl4, -⟩ := h4
  have HX := hid (okB_atom f d hd hs)
  have Hht := hid ht
  clear hA hs
  have hb1 : f.scopes.length ≤ 1048576 := by have := Fm.cost_eq f; omega
  have hb2 : f.kids.length ≤ 1048576 := by have := Fm.cost_eq f; omega
  · unfold maxLen at hl2 hl4 ht
    go_enter Try.func51, Try.ntmps51
    go_wp2_with (go_at_call 66; refine (l1AtomOk_any _ _ Hht.out).mono ?_; rintro e w' ⟨rfl, hw⟩; rw [hw]; clear hw w')
    all_goals go_ret
    all_goals refine ⟨ret_bool ?_, (Below.refl _ _).alloc (Nat.le_refl _) _⟩
    all_goals rw [HX.out]
    all_goals first
      | exact atomForm_0 ‹_› ‹_› ‹_›
      | exact atomForm_1 ‹_›
      | exact atomForm_2 ‹_›
      | exact atomForm_3 ‹_›

end Go.Proofs.Ytkpamgabhlplfaa
