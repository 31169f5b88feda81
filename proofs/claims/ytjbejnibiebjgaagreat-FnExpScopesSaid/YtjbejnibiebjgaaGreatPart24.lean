/-
  (*strings.Builder).WriteString appends to what a builder of the call's own holds. Condition: the builder is one of the call's own, and what it holds then is not too long.
  The program's way of showing: each sort's own method, and showAll, write into the builder what the plain function says. Condition: the form lies in memory ahead of the builder, which is one of the call's own.
  The program's showAll and the methods that show lists, if each part is shown as it should be. Condition: the parts lie in memory ahead of the builder, which is one of the call's own.
  The model's l1Show and ExpShow show a form. Condition: the form lies in memory, and what is shown is not too long.
  The program's ExpShow shows a form just as the model does. Condition: the form lies in memory, and costs at most 1048576.
  The program's ExpShow shows a form just as the model does. Condition: the form lies in memory, and costs at most 1048576.
-/
import Derived.Test.YtjbejnibiebjgaaGreatProg
import Derived.Test.YtjbejnibiebjgaaGreatShelf2
import Derived.Lib.Builder
import Derived.Lib.AppendStr
import Derived.WalkKit
import Derived.Laws.Externs
import Derived.Test.YtjbejnibiebjgaaGreatPart14
import Derived.Test.YtjbejnibiebjgaaGreatPart10
import Derived.Test.YtjbejnibiebjgaaGreatPart13
namespace Go.Proofs.YtjbejnibiebjgaaGreat
open Go.RowKit

theorem Tryz.sizeBuilder : (Tryz.prog.info? 50).map (·.size) = some 2 := by kernel_rfl
theorem Tryz.liesBuilder : liesAt Tryz.prog Tryz.prog.depth 50 (2 / Tryz.prog.cellsOf 50) 0 50 1 = true := by kernel_rfl
theorem Tryz.infoByte : (Tryz.prog.info? 5).map (fun i => (i.zero, i.size, i.bytes)) = some (some (.int .u8 0), 1, 1) := by kernel_rfl

/- A pointer to a builder turned to the type that knows no kind, and back. -/
theorem raw_to (b : Nat) (w : World) (hsh : w.shape? b = some (50, 2)) : (convert 48 134 (.pointer (some ⟨b, 0, none⟩))).run Tryz.prog w = .ok (.pointer (some ⟨b, 0, none⟩)) w := by
  obtain ⟨j, hj, hjs⟩ := Option.map_eq_some_iff.1 Tryz.sizeBuilder
  exact Lib.run_to_unsafe w ⟨b, 0, none⟩ Tryz.underlying48 Tryz.underlying134 hj (by omega) hsh (show 0 < 2 by decide)
theorem raw_from (b : Nat) (w : World) (hsh : w.shape? b = some (50, 2)) : (convert 134 48 (.pointer (some ⟨b, 0, none⟩))).run Tryz.prog w = .ok (.pointer (some ⟨b, 0, none⟩)) w := by
  obtain ⟨j, hj, hjs⟩ := Option.map_eq_some_iff.1 Tryz.sizeBuilder
  exact Lib.run_from_unsafe w ⟨b, 0, none⟩ Tryz.underlying134 Tryz.underlying48 hj hsh Tryz.liesBuilder

set_option maxHeartbeats 1000000 in
set_option maxRecDepth 100000 in
theorem copyCheck_used (b : Nat) (w : World) (h0 : w.cell? ⟨b, 0, none⟩ = some (.pointer (some ⟨b, 0, none⟩))) :
    Calls Tryz.prog 114 #[.pointer (some ⟨b, 0, none⟩)] w fun e w' => e = .returned (.tuple #[]) ∧ w' = w := by
  obtain ⟨j, hj, _⟩ := Option.map_eq_some_iff.1 Tryz.sizeBuilder
  go_enter Tryz.func114, Tryz.ntmps114
  go_wp2_with fail
  rw [Lib.run_neq_ptr_same w _ Tryz.underlying48 hj]
  go_wp2_with fail
  go_end0
  exact ⟨rfl, rfl⟩

set_option maxHeartbeats 1000000 in
set_option maxRecDepth 100000 in
theorem copyCheck_fresh (b : Nat) (w : World) (h0 : w.cell? ⟨b, 0, none⟩ = some (.pointer none)) (hsh : w.shape? b = some (50, 2)) (hfz : w.frozen? ⟨b, 0, none⟩ = false) :
    Calls Tryz.prog 114 #[.pointer (some ⟨b, 0, none⟩)] w fun e w' => e = .returned (.tuple #[]) ∧ w' = w.setCell ⟨b, 0, none⟩ (.pointer (some ⟨b, 0, none⟩)) := by
  obtain ⟨j, hj, hjs⟩ := Option.map_eq_some_iff.1 Tryz.sizeBuilder
  go_enter Tryz.func114, Tryz.ntmps114
  go_wp2_with fail
  rw [raw_to b w hsh]
  simp only [Result.andThen]
  rw [Oper.upon_value]
  go_wp2_with fail
  rw [run_callFunc_extern Tryz.func115 (by kernel_rfl) (by kernel_rfl) (by kernel_rfl) (e := Extern.AbiNoEscape.same) (by kernel_rfl)]
  rw [Lib.run_noEscape]
  simp only [Result.andThen]
  rw [Oper.upon_value]
  go_wp2_with fail
  rw [raw_from b w hsh]
  simp only [Result.andThen]
  rw [Oper.upon_value]
  go_wp2_with fail
  go_end0
  exact ⟨rfl, rfl⟩

/-- What a write into the builder in block b leaves: all below B, and every block that is neither b nor a row of bytes. -/
def Wrote (B b : Nat) (w w' : World) : Prop := Below B w w' ∧ ∀ k c e z, k ≠ b → e ≠ 5 → w.heap[k]? = some (.cells c e z) → w'.heap[k]? = some (.cells c e z)
theorem Wrote.refl (B b : Nat) (w : World) : Wrote B b w w := ⟨Below.refl _ _, fun _ _ _ _ _ _ h => h⟩
theorem Wrote.trans {B b : Nat} {w w1 w2 : World} (h : Wrote B b w w1) (k : Wrote B b w1 w2) : Wrote B b w w2 := ⟨h.1.trans k.1, fun i c e z h1 h2 h3 => k.2 i c e z h1 h2 (h.2 i c e z h1 h2 h3)⟩
theorem Wrote.alloc {B b : Nat} {w w1 : World} (h : Wrote B b w w1) (hB : B ≤ w1.heap.size) (o : Obj) : Wrote B b w (w1.alloc o) :=
  ⟨h.1.alloc hB o, fun i c e z h1 h2 h3 => (Below.heap_alloc _ _ _ (Array.getElem?_eq_some_iff.1 (h.2 i c e z h1 h2 h3)).1).trans (h.2 i c e z h1 h2 h3)⟩
/-- A box that the call laid stands as it stood. -/
theorem Wrote.box {B b : Nat} {w w' : World} {cs : Array Value} {e : TypeId} (h : Wrote B b (w.alloc (.cells cs e)) w') (hb : b < w.heap.size) (he : e ≠ 5) : ∀ j, w'.cell? ⟨w.heap.size, j, none⟩ = (w.alloc (.cells cs e)).cell? ⟨w.heap.size, j, none⟩ := by
  intro j
  have h0 : (w.alloc (.cells cs e)).heap[w.heap.size]? = some (.cells cs e (0, 0)) := by
    show (w.heap.push (.cells cs e))[w.heap.size]? = _
    simp
  exact World.cell?_of_block (a := ⟨w.heap.size, j, none⟩) ((h.2 _ _ _ _ (by omega) he h0).trans h0.symm)

theorem copyCheck_any (B b : Nat) (bs : List Value) (w : World) (h : Lib.IsBuilder 50 5 B b bs w) :
    Calls Tryz.prog 114 #[.pointer (some ⟨b, 0, none⟩)] w fun e w' => e = .returned (.tuple #[]) ∧ (Lib.BuilderAt 50 5 B b (.pointer (some ⟨b, 0, none⟩)) bs w' ∧ Below B w w' ∧ ∀ k, k ≠ b → w'.heap[k]? = w.heap[k]?) := by
  rcases h with h | h
  · refine (copyCheck_fresh b w h.cell0 h.shape h.frozen0).mono ?_
    rintro e w' ⟨rfl, rfl⟩
    exact ⟨rfl, h.used _, (Below.refl B w).setCell (p := ⟨b, 0, none⟩) h.1 _, fun k hk => Below.heap_setCell _ _ _ _ hk⟩
  · refine (copyCheck_used b w h.cell0).mono ?_
    rintro e w' ⟨rfl, rfl⟩
    exact ⟨rfl, h, Below.refl B _, fun _ _ => rfl⟩

set_option maxHeartbeats 2000000 in
set_option maxRecDepth 100000 in
theorem writeString_any (B b : Nat) (bs : List Value) (s : ByteArray) (w : World) (h : Lib.IsBuilder 50 5 B b bs w) (hlen : bs.length + s.size ≤ 140737488355328) (hBw : B ≤ w.heap.size) :
    Calls Tryz.prog 113 #[.pointer (some ⟨b, 0, none⟩), .string s] w fun e w' => e = .returned (.tuple #[.int .i64 s.size, .nilIface]) ∧ (Lib.BuilderAt 50 5 B b (.pointer (some ⟨b, 0, none⟩)) (bs ++ Lib.strCells s) w' ∧ Wrote B b w w') := by
  obtain ⟨i0, hi, hz0, hz1, hz2⟩ := info_parts Tryz.infoByte
  go_enter Tryz.func113, Tryz.ntmps113
  go_wp2_with (go_at_call 114; refine (copyCheck_any B b bs _ h).mono ?_)
  rintro e w1 ⟨rfl, h1, hb1, hk1⟩
  have HK1 : Hid _ := hk1
  clear hk1
  obtain ⟨hB, v, hbk, hown, hne⟩ := h1
  have c0 : w1.cell? ⟨b, 0, none⟩ = some (.pointer (some ⟨b, 0, none⟩)) := by rw [Lib.cell_of_heap hbk]; rfl
  have c1 : w1.cell? ⟨b, 1, none⟩ = some v := by rw [Lib.cell_of_heap hbk]; rfl
  go_wp2_with (at_builtin; refine Lib.wpList_append_own_string _ rfl _ _ 22 9 rfl B 5 i0 Tryz.underlying22 Tryz.underlying9 hi hz0 hz1 hz2 _ _ _ rfl hown s rfl ?c3 ?c4 ?c5 ?_)
  case c3 => unfold maxLen; omega
  case c4 => omega
  case c5 => have := hb1.size; omega
  intro v' w2 hown' hgrow _
  have hlt : b < w1.heap.size := by
    rcases Nat.lt_or_ge b w1.heap.size with h' | h'
    · exact h'
    · simp [Array.getElem?_eq_none h'] at hbk
  have hb2 : w2.heap[b]? = some (.cells #[.pointer (some ⟨b, 0, none⟩), v] 50 (0, 0)) := by
    rw [hgrow.block b hlt (fun e => hne e.symm)]
    exact hbk
  have d0 : w2.cell? ⟨b, 0, none⟩ = some (.pointer (some ⟨b, 0, none⟩)) := by rw [Lib.cell_of_heap hb2]; rfl
  have d1 : w2.cell? ⟨b, 1, none⟩ = some v := by rw [Lib.cell_of_heap hb2]; rfl
  have f1 : w2.frozen? ⟨b, 1, none⟩ = false := Lib.frozen_of_heap hb2 1
  obtain ⟨ao, n', cap, rfl⟩ : ∃ ao n' cap, v' = .slice ao n' cap := by
    rcases hown'.2 with ⟨hv, _⟩ | ⟨g, cap, cur, hv, _⟩
    · exact ⟨_, _, _, hv⟩
    · exact ⟨_, _, _, hv⟩
  go_wp2_with fail
  go_ret2
  refine ⟨rfl, ?_, ?_⟩
  · exact Lib.BuilderAt.put (T := 50) (e := 5) hB hb2 (bs' := bs ++ Lib.strCells s) (by simpa [Lib.strCells_length] using hown') (by decide)
  · refine ⟨(hb1.grown hgrow (by have := hb1.size; omega) (fun k hk => (hown.lt k hk).1)).setCell (p := ⟨b, 1, none⟩) hB _, fun k c e z h1 h2 h3 => ?_⟩
    rw [Below.heap_setCell _ _ _ _ h1]
    have h4 := (HK1.out k h1).trans h3
    rw [hgrow.block k (Array.getElem?_eq_some_iff.1 h4).1 (fun e' => ?_)]
    · exact h4
    · rcases hown.2 with ⟨hv, _⟩ | ⟨g, cap', cur, hv, _, h5, _⟩
      · rw [hv] at e'; cases e'
      · rw [hv] at e'
        simp only [Value.ownBlock, Option.some.injEq] at e'
        subst e'
        rw [h5] at h4
        simp only [Option.some.injEq, Obj.cells.injEq] at h4
        exact h2 h4.2.1.symm

end Go.Proofs.YtjbejnibiebjgaaGreat

namespace Go.Proofs.YtjbejnibiebjgaaGreat
open Go.RowKit Go.Siskin

abbrev isB (B b : Nat) (l : List UInt8) (w : World) : Prop := Lib.IsBuilder 50 5 B b (Lib.byteCells l) w

theorem isB_alloc {B b : Nat} {l : List UInt8} {w : World} (h : isB B b l w) (o : Obj) : isB B b l (w.alloc o) := by
  have key : ∀ p, Lib.BuilderAt 50 5 B b p (Lib.byteCells l) w → Lib.BuilderAt 50 5 B b p (Lib.byteCells l) (w.alloc o) := by
    rintro p ⟨h1, v, h2, h3, h4⟩
    exact ⟨h1, v, (Below.heap_alloc _ _ _ (Array.getElem?_eq_some_iff.1 h2).1).trans h2, ownsRow_alloc h3 o, h4⟩
  rcases h with h | h
  · exact Or.inl (key _ h)
  · exact Or.inr (key _ h)
theorem write_any (B b : Nat) (l : List UInt8) (s : ByteArray) (w : World) (h : isB B b l w) (hlen : l.length + s.size ≤ 140737488355328) (hBw : B ≤ w.heap.size) :
    Calls Tryz.prog 113 #[.pointer (some ⟨b, 0, none⟩), .string s] w fun e w' => e = .returned (.tuple #[.int .i64 s.size, .nilIface]) ∧ isB B b (l ++ s.data.toList) w' ∧ Wrote B b w w' := by
  refine (writeString_any B b (Lib.byteCells l) s w h (by simpa [Lib.byteCells] using hlen) hBw).mono ?_
  rintro e w' ⟨he, h1, h2⟩
  refine ⟨he, Or.inr ?_, h2⟩
  have e1 : Lib.byteCells (l ++ s.data.toList) = Lib.byteCells l ++ Lib.strCells s := by simp [Lib.byteCells, Lib.strCells]
  rw [e1]; exact h1

/-- The method that shows a value of a type. -/
def showFn (t : TypeId) : FuncId := if t = 62 then 110 else if t = 90 then 122 else if t = 95 then 130 else 141

def ShowIm (n : Nat) : Prop := ∀ p : Im, p.sz ≤ n → ∀ (R : Nat → Prop) (w : World) (t : TypeId) (x : Value) (B b : Nat) (l : List UInt8), InAt R w p (.iface t x) → (∀ c, R c → c < B) → isB B b l w → B ≤ w.heap.size → l.length + (showI p).length ≤ 1000000000 →
    Calls Tryz.prog (showFn t) #[x, .pointer (some ⟨b, 0, none⟩)] w fun e w' => e = .returned (.tuple #[]) ∧ isB B b (l ++ showI p) w' ∧ Wrote B b w w'

set_option maxHeartbeats 1000000 in
theorem showIm_id (t : ByteArray) (sc : List Int) (fr : Int) (c2 : Value) (hc2 : ∃ a n c, c2 = .slice a n c) (w : World) (B b : Nat) (l : List UInt8) (hb : isB B b l w) (hB : B ≤ w.heap.size) (hl : l.length + (showI (.id t sc fr)).length ≤ 1000000000) :
    Calls Tryz.prog 110 #[.agg #[.string t, c2, .int .i64 fr], .pointer (some ⟨b, 0, none⟩)] w fun e w' => e = .returned (.tuple #[]) ∧ isB B b (l ++ showI (.id t sc fr)) w' ∧ Wrote B b w w' := by
  obtain ⟨a, n, c, rfl⟩ := hc2
  have HB := hid hb
  rw [showI_id] at hl ⊢
  have hl' : l.length + t.size ≤ 1000000000 := by simpa using hl
  clear hb hl
  go_enter Tryz.func110, Tryz.ntmps110
  go_wp2_with fail
  refine (write_any B b l t _ (isB_alloc HB.out _) (by omega) (by simp; omega)).mono ?_
  rintro e w1 ⟨rfl, hb1, hw1⟩
  have HB1 := hid hb1
  clear hb1
  go_wp2_with fail
  go_end0
  exact ⟨rfl, HB1.out, ((Wrote.refl _ _ _).alloc hB _).trans hw1⟩

set_option maxHeartbeats 1000000 in
theorem showIm_atom (t : ByteArray) (w : World) (B b : Nat) (l : List UInt8) (hb : isB B b l w) (hB : B ≤ w.heap.size) (hl : l.length + (showI (.atom t)).length ≤ 1000000000) :
    Calls Tryz.prog 122 #[.agg #[.string t], .pointer (some ⟨b, 0, none⟩)] w fun e w' => e = .returned (.tuple #[]) ∧ isB B b (l ++ showI (.atom t)) w' ∧ Wrote B b w w' := by
  have HB := hid hb
  rw [showI_atom] at hl ⊢
  have hl' : l.length + t.size ≤ 1000000000 := by simpa using hl
  clear hb hl
  go_enter Tryz.func122, Tryz.ntmps122
  go_wp2_with fail
  refine (write_any B b l t _ (isB_alloc HB.out _) (by omega) (by simp; omega)).mono ?_
  rintro e w1 ⟨rfl, hb1, hw1⟩
  have HB1 := hid hb1
  clear hb1
  go_wp2_with fail
  go_end0
  exact ⟨rfl, HB1.out, ((Wrote.refl _ _ _).alloc hB _).trans hw1⟩

end Go.Proofs.YtjbejnibiebjgaaGreat

namespace Go.Proofs.YtjbejnibiebjgaaGreat
open Go.RowKit Go.Siskin

/-- The four sorts of a value behind the interface. -/
theorem InAt.four {R : Nat → Prop} {w : World} {p : Im} {v : Value} (h : InAt R w p v) : (∃ x, v = .iface 62 x) ∨ (∃ x, v = .iface 90 x) ∨ (∃ x, v = .iface 95 x) ∨ (∃ x, v = .iface 97 x) := by
  rw [InAt_kinds] at h
  rcases h with ⟨t, sc, fr, rfl, c2, h1, h2, h3⟩ | ⟨t, rfl, h1, h2⟩ | ⟨ps, rfl, a, cap, h1, h2, h3⟩ | ⟨ps, l, rfl, a, cap, e, h1, h2, h3, h4⟩
  · exact Or.inl ⟨_, h1⟩
  · exact Or.inr (Or.inl ⟨_, h1⟩)
  · exact Or.inr (Or.inr (Or.inl ⟨_, h1⟩))
  · exact Or.inr (Or.inr (Or.inr ⟨_, h1⟩))

/- ### Which method is called -/
def showName : String := "loop.example/siskin/impl.show"
theorem meth_id (x : Value) (w : World) : (method 240 62 x showName).run Tryz.prog w = .ok (110, x) w := by kernel_rfl
theorem meth_atom (x : Value) (w : World) : (method 240 90 x showName).run Tryz.prog w = .ok (122, x) w := by kernel_rfl
theorem meth_list (x : Value) (w : World) : (method 240 95 x showName).run Tryz.prog w = .ok (130, x) w := by kernel_rfl
theorem meth_dots (x : Value) (w : World) : (method 240 97 x showName).run Tryz.prog w = .ok (141, x) w := by kernel_rfl

theorem showFn_id : showFn 62 = 110 := rfl
theorem showFn_atom : showFn 90 = 122 := rfl
theorem showFn_list : showFn 95 = 130 := rfl
theorem showFn_dots : showFn 97 = 141 := rfl

def ShowIms (n : Nat) : Prop := ∀ ps : List Im, Im.szs ps ≤ n → ∀ (R : Nat → Prop) (w : World) (a : Option Addr) (cap B b : Nat) (l : List UInt8), ps.length ≤ maxLen → (ps = [] ∨ ∃ g o, a = some ⟨g, o, none⟩ ∧ R g ∧ InRow R w g o ps) → (∀ c, R c → c < B) → isB B b l w → B ≤ w.heap.size → l.length + (showIs 0 ps).length ≤ 1000000000 →
    Calls Tryz.prog 134 #[.slice a ps.length cap, .pointer (some ⟨b, 0, none⟩)] w fun e w' => e = .returned (.tuple #[]) ∧ isB B b (l ++ showIs 0 ps) w' ∧ Wrote B b w w'

set_option maxRecDepth 20000 in
set_option maxHeartbeats 4000000 in
theorem showIms_of (n : Nat) (ih : ShowIm n) : ShowIms n := by
  intro ps hps R w a cap B b l hm ha hR hb hB hl
  unfold maxLen at hm
  have HI := hid ih
  have HR := hid hR
  have HB := hid hb
  have HL := hid hl
  clear ih hR hb hl
  go_enter Tryz.func134, Tryz.ntmps134
  go_wp2_with fail
  go_loopw [8] (fun i wr => ∃ k : Nat, k ≤ ps.length ∧ i = .int .i64 k ∧ Hid (isB B b (l ++ showIs 0 (ps.take k)) wr) ∧ Hid (Wrote B b w wr)) (fun i _ => ps.length - (intOf i).toNat)
  case atStart => exact ⟨0, Nat.zero_le _, rfl, by show isB _ _ _ _; simpa [showIs, joinI] using HB.out, Wrote.refl _ _ _⟩
  case round =>
    obtain ⟨k, hk, rfl, HK, HW⟩ := hrel
    have hsz := HW.out.1.size
    by_cases hlt : k < ps.length
    · rcases ha with ha | ⟨g, o, rfl, hg, ha⟩
      · subst ha; simp at hlt
      obtain ⟨v, hv, hin⟩ := InRow.get ps (InRow.keep (HW.out.1.on HR.out) hg ps ha) k hlt
      have HT := hid (showIs_take ps k hlt)
      have hle := showIs_le ps 0 (k + 1)
      rw [HT.out] at hle
      simp only [List.length_append] at hle
      have HLE := hid hle
      have HSZ := hid (Nat.le_trans (Im.szs_get ps k hlt) hps)
      clear ha hle
      by_cases hk0 : 0 < k
      · have hk0' : (0 : Int) < (k : Int) := by omega
        have HP := hid (if_pos (c := 0 < k) hk0 : (if 0 < k then [(32 : UInt8)] else []) = [32])
        have hlen : (l ++ showIs 0 (ps.take k)).length + 1 + (showI ps[k]).length ≤ 1000000000 := by
          have h := HLE.out
          have hl := HL.out
          rw [HP.out] at h
          simp only [List.length_append, List.length_cons, List.length_nil] at h ⊢
          omega
        have hcont : ∀ (t : TypeId) (x : Value) (w1 : World), v = .iface t x → Wrote B b wr w1 → isB B b (l ++ showIs 0 (ps.take k) ++ [32]) w1 → Calls Tryz.prog (showFn t) #[x, .pointer (some ⟨b, 0, none⟩)] w1 fun e w' => e = .returned (.tuple #[]) ∧ isB B b (l ++ showIs 0 (ps.take (k + 1))) w' ∧ Wrote B b w w' := by
          intro t x w1 hv1 hw1 hb1
          subst hv1
          refine (HI.out ps[k] HSZ.out R w1 t x B b _ (InAt.keep (hw1.1.on HR.out) _ hin) HR.out hb1 (by have := hw1.1.size; omega) (by simp only [List.length_append, List.length_cons, List.length_nil] at hlen ⊢; omega)).mono ?_
          rintro e w' ⟨he, h1, h2⟩
          refine ⟨he, ?_, (HW.out.trans hw1).trans h2⟩
          rw [HT.out, HP.out]
          simpa using h1
        have HCN := hid hcont
        have HN := hid hlen
        have m1 := meth_id
        have m2 := meth_atom
        have m3 := meth_list
        have m4 := meth_dots
        simp [showName] at m1 m2 m3 m4
        rcases InAt.four hin with ⟨x, rfl⟩ | ⟨x, rfl⟩ | ⟨x, rfl⟩ | ⟨x, rfl⟩
        all_goals
          clear hin hcont hlen
          go_wp2_with fail
          refine (write_any B b _ ⟨#[32]⟩ wr HK.out (by have h := HN.out; simp only [List.length_append] at h ⊢; show _ + 1 ≤ _; omega) (by omega)).mono ?_
          rintro e w1 ⟨rfl, hb1, hw1⟩
          have HB1 := hid hb1
          have HW1 := hid hw1
          clear hb1 hw1
          go_wp2_with fail
          have hq := HCN.out _ x w1 rfl HW1.out HB1.out
          simp only [showFn_id, showFn_atom, showFn_list, showFn_dots] at hq
          refine hq.mono ?_
          rintro e w2 ⟨rfl, hb2, hw2⟩
          have HB2 := hid hb2
          have HW2 := hid hw2
          clear hb2 hw2 hq
          go_wp2_with fail
          exact ⟨⟨k + 1, by omega, by go_num, HB2.out, HW2.out⟩, by simp [intOf]; omega⟩
      · have hk0' : ¬ (0 : Int) < (k : Int) := by omega
        have HP := hid (if_neg (c := 0 < k) hk0 : (if 0 < k then [(32 : UInt8)] else []) = [])
        have hlen : (l ++ showIs 0 (ps.take k)).length + (showI ps[k]).length ≤ 1000000000 := by
          have h := HLE.out
          have hl := HL.out
          rw [HP.out] at h
          simp only [List.length_append, List.length_nil] at h ⊢
          omega
        have hcont : ∀ (t : TypeId) (x : Value), v = .iface t x → Calls Tryz.prog (showFn t) #[x, .pointer (some ⟨b, 0, none⟩)] wr fun e w' => e = .returned (.tuple #[]) ∧ isB B b (l ++ showIs 0 (ps.take (k + 1))) w' ∧ Wrote B b w w' := by
          intro t x hv1
          subst hv1
          refine (HI.out ps[k] HSZ.out R wr t x B b _ hin HR.out HK.out (by omega) hlen).mono ?_
          rintro e w' ⟨he, h1, h2⟩
          refine ⟨he, ?_, HW.out.trans h2⟩
          rw [HT.out, HP.out]
          simpa using h1
        have HCN := hid hcont
        have m1 := meth_id
        have m2 := meth_atom
        have m3 := meth_list
        have m4 := meth_dots
        simp [showName] at m1 m2 m3 m4
        rcases InAt.four hin with ⟨x, rfl⟩ | ⟨x, rfl⟩ | ⟨x, rfl⟩ | ⟨x, rfl⟩
        all_goals
          clear hin hcont hlen
          go_wp2_with fail
          have hq := HCN.out _ x rfl
          simp only [showFn_id, showFn_atom, showFn_list, showFn_dots] at hq
          refine hq.mono ?_
          rintro e w2 ⟨rfl, hb2, hw2⟩
          have HB2 := hid hb2
          have HW2 := hid hw2
          clear hb2 hw2 hq
          go_wp2_with fail
          exact ⟨⟨k + 1, by omega, by go_num, HB2.out, HW2.out⟩, by simp [intOf]; omega⟩
    · go_wp2_with fail
      go_end0
      have h := HK.out
      rw [List.take_of_length_le (by omega)] at h
      exact ⟨rfl, h, HW.out⟩

end Go.Proofs.YtjbejnibiebjgaaGreat

namespace Go.Proofs.YtjbejnibiebjgaaGreat
open Go.RowKit Go.Siskin

theorem bytes_eta (s : ByteArray) : (⟨s.data.toList.toArray⟩ : ByteArray) = s := by cases s; simp
theorem ret_str {l m : List UInt8} (h : l = m) : Ending.returned (.string ⟨l.toArray⟩) = .returned (.string ⟨m.toArray⟩) := by rw [h]

theorem app1 (xs ys : List UInt8) : Value.string ((⟨xs.toArray⟩ : ByteArray) ++ ⟨ys.toArray⟩) = .string ⟨(xs ++ ys).toArray⟩ := by rw [ByteArray.mk_append_mk]
theorem app2 (xs p ys : List UInt8) : Value.string ((⟨xs.toArray⟩ : ByteArray) ++ ⟨p.toArray⟩ ++ ⟨ys.toArray⟩) = .string ⟨(xs ++ p ++ ys).toArray⟩ := by rw [ByteArray.mk_append_mk, ByteArray.mk_append_mk]
theorem app3 (xs p q ys : List UInt8) : Value.string ((⟨xs.toArray⟩ : ByteArray) ++ ⟨p.toArray⟩ ++ ⟨q.toArray⟩ ++ ⟨ys.toArray⟩) = .string ⟨(xs ++ p ++ q ++ ys).toArray⟩ := by rw [ByteArray.mk_append_mk, ByteArray.mk_append_mk, ByteArray.mk_append_mk]

/-- One kid more: the equation of what has been written. -/
theorem sh_eq {xs a b c p q ys zs : List UInt8} (hx : xs = [40] ++ a) (ht : b = a ++ (c ++ ys)) (hc : c = p ++ q) (hz : zs = xs ++ (p ++ q) ++ ys) : zs = [40] ++ b := by
  rw [hz, hx, ht, hc]; simp
theorem sh_len {b zs : List UInt8} (h : zs = [40] ++ b) (hl : b.length + 2 ≤ 1000000) : (zs.length : Int) ≤ 1000000 := by
  rw [h]; simp only [List.length_append, List.length_cons, List.length_nil]; omega

/-- What the model shows. -/
def shown (f : Fm) : List UInt8 := if formOk f = true then showF f else []
theorem shown_short {f : Fm} (h : formOk f = true) : (showF f).length ≤ 1000000 := by
  unfold formOk at h
  rw [Bool.and_eq_true, decide_eq_true_eq] at h
  have := showF_short f.sz f 0 (Nat.le_refl _) h.1
  omega

end Go.Proofs.YtjbejnibiebjgaaGreat

namespace Go.Proofs.YtjbejnibiebjgaaGreat
open Go.RowKit Go.Siskin

theorem isB_lt {B b : Nat} {l : List UInt8} {w : World} (h : isB B b l w) : b < w.heap.size := by
  rcases h with ⟨_, v, h2, _⟩ | ⟨_, v, h2, _⟩
  · exact (Array.getElem?_eq_some_iff.1 h2).1
  · exact (Array.getElem?_eq_some_iff.1 h2).1

set_option maxRecDepth 20000 in
set_option maxHeartbeats 2000000 in
theorem showIm_list (n : Nat) (ih : ShowIms n) (ps : List Im) (hps : Im.szs ps ≤ n) (R : Nat → Prop) (w : World) (a : Option Addr) (cap B b : Nat) (l : List UInt8) (hm : ps.length ≤ maxLen) (ha : ps = [] ∨ ∃ g o, a = some ⟨g, o, none⟩ ∧ R g ∧ InRow R w g o ps) (hR : ∀ c, R c → c < B) (hb : isB B b l w) (hB : B ≤ w.heap.size) (hl : l.length + (showI (.list ps)).length ≤ 1000000000) :
    Calls Tryz.prog 130 #[.agg #[.slice a ps.length cap], .pointer (some ⟨b, 0, none⟩)] w fun e w' => e = .returned (.tuple #[]) ∧ isB B b (l ++ showI (.list ps)) w' ∧ Wrote B b w w' := by
  have hlen : l.length + 2 + (showIs 0 ps).length ≤ 1000000000 := by
    simp only [showI_list, List.length_append, List.length_cons, List.length_nil] at hl; omega
  have hrow : ∀ w', Below B w w' → (ps = [] ∨ ∃ g o, a = some ⟨g, o, none⟩ ∧ R g ∧ InRow R w' g o ps) := by
    intro w' hw
    rcases ha with h | ⟨g, o, h1, h2, h3⟩
    · exact Or.inl h
    · exact Or.inr ⟨g, o, h1, h2, InRow.keep (hw.on hR) h2 ps h3⟩
  have HRW := hid hrow
  have HN := hid hlen
  have HB := hid hb
  have HR := hid hR
  have HI := hid ih
  have HBL := hid (isB_lt hb)
  clear ha hR hb hl hlen hrow ih
  go_enter Tryz.func130, Tryz.ntmps130
  go_wp2_with fail
  refine (write_any B b l ⟨#[40]⟩ _ (isB_alloc HB.out _) (by have := HN.out; show _ + 1 ≤ _; omega) (by simp; omega)).mono ?_
  rintro e w1 ⟨rfl, hb1, hw1⟩
  have q1 := hw1.box HBL.out (by decide)
  have s1 := hw1.1.size
  simp only [World.size_alloc] at s1
  have HW1 := hid (((Wrote.refl B b w).alloc hB _).trans hw1)
  have HB1 := hid hb1
  clear hb1 hw1
  go_wp2_with fail
  refine (HI.out ps hps R w1 a cap B b _ hm (HRW.out w1 HW1.out.1) HR.out HB1.out (by omega) (by have := HN.out; simp only [List.length_append, List.length_cons, List.length_nil]; omega)).mono ?_
  rintro e w2 ⟨rfl, hb2, hw2⟩
  have HW2 := hid (HW1.out.trans hw2)
  have s2 := hw2.1.size
  have HB2 := hid hb2
  clear hb2 hw2
  go_wp2_with fail
  refine (write_any B b _ ⟨#[41]⟩ w2 HB2.out (by have := HN.out; simp only [List.length_append, List.length_cons, List.length_nil]; show _ + 1 ≤ _; omega) (by omega)).mono ?_
  rintro e w3 ⟨rfl, hb3, hw3⟩
  have HB3 := hid hb3
  have HW3 := hid hw3
  clear hb3 hw3
  go_wp2_with fail
  go_end0
  refine ⟨rfl, ?_, HW2.out.trans HW3.out⟩
  rw [showI_list]
  have h := HB3.out
  simpa using h

end Go.Proofs.YtjbejnibiebjgaaGreat

namespace Go.Proofs.YtjbejnibiebjgaaGreat
open Go.RowKit Go.Siskin

set_option maxRecDepth 20000 in
set_option maxHeartbeats 4000000 in
theorem showIm_dots (n : Nat) (ihs : ShowIms n) (ih : ShowIm n) (ps : List Im) (z : Im) (hps : Im.szs ps ≤ n) (hz : z.sz ≤ n) (R : Nat → Prop) (w : World) (a : Option Addr) (cap B b : Nat) (e : Value) (l : List UInt8) (hm : ps.length ≤ maxLen) (ha : ps = [] ∨ ∃ g o, a = some ⟨g, o, none⟩ ∧ R g ∧ InRow R w g o ps) (he : InAt R w z e) (hR : ∀ c, R c → c < B) (hb : isB B b l w) (hB : B ≤ w.heap.size) (hl : l.length + (showI (.dots ps z)).length ≤ 1000000000) :
    Calls Tryz.prog 141 #[.agg #[.slice a ps.length cap, e], .pointer (some ⟨b, 0, none⟩)] w fun e w' => e = .returned (.tuple #[]) ∧ isB B b (l ++ showI (.dots ps z)) w' ∧ Wrote B b w w' := by
  have hlen : l.length + 5 + (showIs 0 ps).length + (showI z).length ≤ 1000000000 := by
    simp only [showI_dots, List.length_append, List.length_cons, List.length_nil] at hl; omega
  have hrow : ∀ w', Below B w w' → (ps = [] ∨ ∃ g o, a = some ⟨g, o, none⟩ ∧ R g ∧ InRow R w' g o ps) := by
    intro w' hw
    rcases ha with h | ⟨g, o, h1, h2, h3⟩
    · exact Or.inl h
    · exact Or.inr ⟨g, o, h1, h2, InRow.keep (hw.on hR) h2 ps h3⟩
  have HRW := hid hrow
  have HN := hid hlen
  have HB := hid hb
  have HR := hid hR
  have HI := hid ih
  have HIS := hid ihs
  have HBL := hid (isB_lt hb)
  have HE := hid he
  have m1 := meth_id
  have m2 := meth_atom
  have m3 := meth_list
  have m4 := meth_dots
  simp [showName] at m1 m2 m3 m4
  rcases InAt.four he with ⟨x, rfl⟩ | ⟨x, rfl⟩ | ⟨x, rfl⟩ | ⟨x, rfl⟩
  all_goals
    clear ha hR hb hl hlen hrow ih ihs he
    go_enter Tryz.func141, Tryz.ntmps141
    go_wp2_with fail
    refine (write_any B b l ⟨#[40]⟩ _ (isB_alloc HB.out _) (by have := HN.out; show _ + 1 ≤ _; omega) (by simp; omega)).mono ?_
    rintro e w1 ⟨rfl, hb1, hw1⟩
    have q1 := hw1.box HBL.out (by decide)
    have s1 := hw1.1.size
    simp only [World.size_alloc] at s1
    have HW1a := hid hw1
    have HW1 := hid (((Wrote.refl B b w).alloc hB _).trans hw1)
    have HB1 := hid hb1
    clear hb1 hw1
    go_wp2_with fail
    refine (HIS.out ps hps R w1 a cap B b _ hm (HRW.out w1 HW1.out.1) HR.out HB1.out (by omega) (by have := HN.out; simp only [List.length_append, List.length_cons, List.length_nil]; omega)).mono ?_
    rintro e w2 ⟨rfl, hb2, hw2⟩
    have HW2a := hid (HW1a.out.trans hw2)
    have HW2 := hid (HW1.out.trans hw2)
    have s2 := hw2.1.size
    have HB2 := hid hb2
    clear hb2 hw2 q1
    go_wp2_with fail
    refine (write_any B b _ ⟨#[32, 46, 32]⟩ w2 HB2.out (by have := HN.out; simp only [List.length_append, List.length_cons, List.length_nil]; show _ + 3 ≤ _; omega) (by omega)).mono ?_
    rintro e w3 ⟨rfl, hb3, hw3⟩
    have q3 := (HW2a.out.trans hw3).box HBL.out (by decide)
    have HW3 := hid (HW2.out.trans hw3)
    have s3 := hw3.1.size
    have HB3 := hid hb3
    clear hb3 hw3
    go_wp2_with fail
    have hq := HI.out z hz R w3 _ x B b _ (InAt.keep (HW3.out.1.on HR.out) _ HE.out) HR.out HB3.out (by omega) (by have := HN.out; simp only [List.length_append, List.length_cons, List.length_nil]; omega)
    simp only [showFn_id, showFn_atom, showFn_list, showFn_dots] at hq
    refine hq.mono ?_
    rintro e w4 ⟨rfl, hb4, hw4⟩
    have HB4 := hid hb4
    have HW4 := hid (HW3.out.trans hw4)
    have s4 := hw4.1.size
    clear hb4 hw4 hq q3
    go_wp2_with fail
    refine (write_any B b _ ⟨#[41]⟩ w4 HB4.out (by have := HN.out; simp only [List.length_append, List.length_cons, List.length_nil]; show _ + 1 ≤ _; omega) (by omega)).mono ?_
    rintro e w5 ⟨rfl, hb5, hw5⟩
    have HB5 := hid hb5
    have HW5 := hid hw5
    clear hb5 hw5
    go_wp2_with fail
    go_end0
    refine ⟨rfl, ?_, HW4.out.trans HW5.out⟩
    rw [showI_dots]
    have h := HB5.out
    simpa using h

theorem showIm_of (n : Nat) (ih : ShowIm n) : ShowIm (n + 1) := by
  intro p hp R w t x B b l hin hR hb hB hl
  rw [InAt_kinds] at hin
  rcases hin with ⟨tx, sc, fr, rfl, c2, h1, h2, h3⟩ | ⟨tx, rfl, h1, h2⟩ | ⟨ps, rfl, a, cap, h1, h2, h3⟩ | ⟨ps, z, rfl, a, cap, e, h1, h2, h3, h5⟩
  · injection h1 with h1 h4
    subst h1 h4
    obtain ⟨a, cap, rfl, -⟩ := h3
    rw [showFn_id]
    exact showIm_id tx sc fr _ ⟨_, _, _, rfl⟩ w B b l hb hB hl
  · injection h1 with h1 h4
    subst h1 h4
    rw [showFn_atom]
    exact showIm_atom tx w B b l hb hB hl
  · injection h1 with h1 h4
    subst h1 h4
    rw [showFn_list]
    rw [Im.sz_list] at hp
    exact showIm_list n (showIms_of n ih) ps (by omega) R w a cap B b l h2 h3 hR hb hB hl
  · injection h1 with h1 h4
    subst h1 h4
    rw [showFn_dots]
    rw [Im.sz_dots] at hp
    exact showIm_dots n (showIms_of n ih) ih ps z (by omega) (by omega) R w a cap B b e l h2 h3 h5 hR hb hB hl

theorem showIm_all : ∀ n, ShowIm n
  | 0 => fun p hp => by have := Im.sz_pos p; omega
  | n + 1 => showIm_of n (showIm_all n)

theorem regW_lt {B : Nat → Prop} {w w1 : World} (h : ∀ b, B b → b < w1.heap.size) : ∀ b, Reg B w w1 b → b < w1.heap.size := by
  intro b hb
  rcases hb with hb | hb
  · exact h b hb
  · exact hb.2

/-- A builder that was never written. -/
theorem isB_new (w : World) : isB w.heap.size w.heap.size [] (w.alloc (.cells #[.pointer none, .slice none 0 0] 50)) := by
  refine Or.inl ⟨Nat.le_refl _, .slice none 0 0, ?_, World.ownsRow_nil _ _ _ _, by simp [Value.ownBlock]⟩
  show (w.heap.push _)[w.heap.size]? = _
  simp

set_option maxRecDepth 20000 in
set_option maxHeartbeats 4000000 in
theorem implShow_any (f : Fm) (B : Nat → Prop) (w : World) (c0 c1 c2 c3 c4 : Value) (hA : FormAt B w f c0 c1 c2 c3 c4) (hB : ∀ b, B b → b < w.heap.size) (hc : f.cost ≤ 1048576) :
    Calls Tryz.prog 12 #[.agg #[c0, c1, c2, c3, c4]] w fun e w' => e = .returned (.string ⟨(shown f).toArray⟩) ∧ Below w.heap.size w w' := by
  have H := hid (fun o1 : Obj => openForm_any f B (w.alloc o1) c0 c1 c2 c3 c4 (FormAt.keep ((SameOn.refl _ _).alloc hB _) _ hA) (fun b hb => by have := hB b hb; simp; omega) hc)
  have HR := hid hB
  obtain ⟨rfl, rfl, ht, h2, rfl, h4⟩ := (formAt_iff _ _ _ _ _ _ _ _).1 hA
  obtain ⟨a2, k2, rfl, -⟩ := h2
  obtain ⟨a4, k4, rfl, -⟩ := h4
  clear hA hB hc
  go_enter Tryz.func12, Tryz.ntmps12
  go_wp2_with fail
  refine (H.out _).mono ?_
  rintro e w1 ⟨v, rfl, hw, hin⟩
  have HW := hid (((Below.refl w.heap.size w).alloc (Nat.le_refl _) _).trans (hw.mono (by simp)))
  have HIN := hid hin
  have s1 := hw.size
  simp only [World.size_alloc] at s1
  clear hw H hin
  cases hok : formOk f with
  | false =>
    go_wp2_with fail
    go_ret
    exact ⟨by unfold shown; rw [if_neg (by rw [hok]; decide)]; rfl, HW.out⟩
  | true =>
    have hin := HIN.out hok
    have HS : Hid (showI (toIm f) = shown f) := by
      show _ = _
      have h := hok
      unfold formOk at h
      rw [Bool.and_eq_true] at h
      rw [show_ok f.sz f 0 (Nat.le_refl _) h.1]
      unfold shown; rw [if_pos hok]
    have HL : Hid ((showI (toIm f)).length ≤ 1000000) := by
      show _ ≤ _
      rw [HS.out]; unfold shown; rw [if_pos hok]; exact shown_short hok
    have m1 := meth_id
    have m2 := meth_atom
    have m3 := meth_list
    have m4 := meth_dots
    simp [showName] at m1 m2 m3 m4
    have HQ := hid (fun (t : TypeId) (x : Value) (o : Obj) (ho : o = .cells #[.pointer none, .slice none 0 0] 50) (hv : v = .iface t x) => (showIm_all (toIm f).sz (toIm f) (Nat.le_refl _) _ (w1.alloc o) t x w1.heap.size w1.heap.size [] (by rw [← hv]; exact InAt.keep ((SameOn.refl _ _).alloc (regW_lt (fun b hb => by have := HR.out b hb; omega)) _) _ hin) (regW_lt (fun b hb => by have := HR.out b hb; omega)) (by rw [ho]; exact isB_new w1) (by simp) (by have := HL.out; simp; omega)))
    rcases InAt.four hin with ⟨x, rfl⟩ | ⟨x, rfl⟩ | ⟨x, rfl⟩ | ⟨x, rfl⟩
    all_goals
      clear hin HIN
      go_wp2_with fail
      have hq := HQ.out _ x _ rfl rfl
      simp only [showFn_id, showFn_atom, showFn_list, showFn_dots] at hq
      refine hq.mono ?_
      rintro e w2 ⟨rfl, hb2, hw2⟩
      have HB2 := hid hb2
      have HW2 := hid hw2
      have s2 := hw2.1.size
      simp only [World.size_alloc] at s2
      clear hb2 hw2 hq HQ
      go_wp2_with fail
      refine (Tryz.Builder_String_any w1.heap.size w1.heap.size (showI (toIm f)) w2 (by have h := HB2.out; rw [List.nil_append] at h; exact h) (by omega)).mono ?_
      rintro e w3 ⟨rfl, hw3⟩
      go_wp2_with fail
      go_ret
      refine ⟨by rw [HS.out]; rfl, ?_⟩
      exact ((HW.out.alloc (by omega) _).trans (HW2.out.1.mono (by omega))).trans (hw3.mono (by omega))

end Go.Proofs.YtjbejnibiebjgaaGreat
