/-
  The law FnExactExpCoreShow returns true, and nothing that was there has turned. Condition: the part that it is given lies in memory as CoreAt says.
  A form that comes in as an argument, read as data, lies in memory as a tree.
  A part that comes in as an argument, read as data, lies in memory as CoreAt says.
-/
import Derived.Test.YtkpamgabhlplfaaPart5
import Derived.Test.YtkpamgabhlplfaaQ8
import Derived.Test.YtkpamgabhlplfaaPart9
import Derived.Test.YtkpamgabhlplfaaPart1
import Derived.Test.YtkpamgabhlplfaaProg
import Derived.ProofKit
import Derived.OpenShut
import Derived.Deep.Slices
import Derived.Test.YtkpamgabhlplfaaPart2
namespace Go.Proofs.Ytkpamgabhlplfaa
open Go.RowKit Go.Siskin

theorem cbox_q {w w' : World} {o : Obj} (h : Below (w.heap.size + 1) (w.alloc o) w') : ∀ j, w'.cell? ⟨w.heap.size, j, none⟩ = (w.alloc o).cell? ⟨w.heap.size, j, none⟩ :=
  fun j => h.cell (p := ⟨w.heap.size, j, none⟩) (by simp)
theorem cbox_step {w w' w2 : World} {o : Obj} (h : Below (w.heap.size + 1) (w.alloc o) w') (h2 : Below w'.heap.size w' w2) : Below (w.heap.size + 1) (w.alloc o) w2 :=
  h.trans (h2.mono (by have := h.size; simp at this; omega))
theorem cbox_on {R : Nat → Prop} {w w' : World} {o : Obj} (h : Below (w.heap.size + 1) (w.alloc o) w') (hR : ∀ b, R b → b < w.heap.size) : SameOn R w w' :=
  ((SameOn.refl _ _).alloc hR _).below h (fun b hb => by have := hR b hb; omega)
theorem cbox_done {w w' : World} {o : Obj} (h : Below (w.heap.size + 1) (w.alloc o) w') : Below w.heap.size w w' :=
  ((Below.refl _ _).alloc (Nat.le_refl _) _).trans (h.mono (by omega))
theorem cbox5 {w w' : World} {c0 c1 c2 c3 c4 : Value} {t : TypeId} (h : Below (w.heap.size + 1) (w.alloc (.cells #[c0, c1, c2, c3, c4] t)) w') :
    w'.cell? ⟨w.heap.size, 0, none⟩ = some c0 ∧ w'.cell? ⟨w.heap.size, 1, none⟩ = some c1 ∧ w'.cell? ⟨w.heap.size, 2, none⟩ = some c2 ∧ w'.cell? ⟨w.heap.size, 3, none⟩ = some c3 ∧ w'.cell? ⟨w.heap.size, 4, none⟩ = some c4 :=
  ⟨(cbox_q h 0).trans (by simp), (cbox_q h 1).trans (by simp), (cbox_q h 2).trans (by simp), (cbox_q h 3).trans (by simp), (cbox_q h 4).trans (by simp)⟩

set_option maxRecDepth 20000 in
set_option maxHeartbeats 1000000 in
theorem lawCoreShow_any (c : Cm) (B : Nat → Prop) (w : World) (c0 c1 c2 c3 c4 : Value) (hA : CoreAt B w c c0 c1 c2 c3 c4) (hB : ∀ b, B b → b < w.heap.size) :
    Calls Try.prog 5 #[.agg #[c0, c1, c2, c3, c4]] w fun e w' => e = .returned (.bool true) ∧ Below w.heap.size w w' := by
  have HA := hid hA
  have HR := hid hB
  obtain ⟨rfl, rfl, ht, rfl, h3, h4⟩ := (coreAt_iff _ _ _ _ _ _ _ _).1 hA
  obtain ⟨a3, k3, rfl, -⟩ := h3
  obtain ⟨a4, k4, rfl, -⟩ := h4
  clear hA hB
  go_enter Try.func5, Try.ntmps5
  go_wp2_with fail
  refine (szExpCore_any c B (w.alloc _) _ _ _ _ _ 1048576 (CoreAt.keep ((SameOn.refl _ _).alloc HR.out _) _ HA.out) (fun b hb => by have := HR.out b hb; simp; omega) (by omega) (by omega)).mono ?_
  rintro e w1 ⟨rfl, hw1⟩
  simp only [World.size_alloc] at hw1
  have HW1 := hid hw1
  obtain ⟨p0, p1, p2, p3, p4⟩ := cbox5 hw1
  have s1 := hw1.size
  simp only [World.size_alloc] at s1
  clear hw1
  by_cases hneg : szI c.cost 1048576 < 0
  · go_wp2_with fail
    go_ret
    exact ⟨rfl, cbox_done HW1.out⟩
  have hc : c.cost ≤ 1048576 := by rw [szI_neg] at hneg; omega
  have hsz := Cm.sz_le c
  have hlen := showC_len c
  have Hl9 : Hid ((showC c).length ≤ 900000000) := by show _ ≤ _; omega
  have Hcm : Hid (c.cost ≤ maxLen) := by show _ ≤ _; unfold maxLen; omega
  have Hc := hid hc
  clear hc hsz hlen
  go_wp2_with fail
  refine (toExpCore_own c B w1 _ _ _ _ _ (CoreAt.keep (cbox_on HW1.out HR.out) _ HA.out) (fun b hb => by have := HR.out b hb; omega) Hc.out).mono ?_
  rintro e w2 ⟨d3, d4, rfl, hf2, hw2⟩
  have HW2 := hid (cbox_step HW1.out hw2)
  have s2 := hw2.size
  have HQ3 := hid (specCoreShow_any c (Fresh w1 w2) w2 _ _ _ _ _ (hf2.form Hcm.out) (fun b hb => hb.2) Hl9.out)
  clear hf2 hw2 p0 p1 p2 p3 p4
  go_wp2_with fail
  refine HQ3.out.mono ?_
  rintro e w3 ⟨rfl, hw3⟩
  have HW3 := hid (cbox_step HW2.out hw3)
  have s3 := hw3.size
  obtain ⟨p0, p1, p2, p3, p4⟩ := cbox5 HW3.out
  clear hw3 HQ3
  go_wp2_with fail
  refine (toExpCore_own c B w3 _ _ _ _ _ (CoreAt.keep (cbox_on HW3.out HR.out) _ HA.out) (fun b hb => by have := HR.out b hb; omega) Hc.out).mono ?_
  rintro e w4 ⟨x3, x4, rfl, hx4, hw4⟩
  obtain ⟨⟨xa3, xc3, rfl⟩, xa4, xc4, rfl⟩ := ctshape hx4
  have HW4 := hid (cbox_step HW3.out hw4)
  have s4 := hw4.size
  obtain ⟨V4, hV4⟩ : ∃ V4, V4 = w4.alloc (.cells #[.int .i64 c.sort, .string c.text, .bool c.rest, .slice xa3 c.names.length xc3, .slice xa4 c.kids.length xc4] 50) := ⟨_, rfl⟩
  have OX4 : Hid (Own V4 w4.heap.size 50 #[.int .i64 c.sort, .string c.text, .bool c.rest, .slice xa3 c.names.length xc3, .slice xa4 c.kids.length xc4]) := by
    show Own _ _ _ _
    rw [hV4]; exact own_new _ _ _
  have hs4 : V4.heap.size = w4.heap.size + 1 := by rw [hV4]; simp
  have HV4 : Hid (Below w4.heap.size w4 V4) := by
    show Below _ _ _
    rw [hV4]; exact (Below.refl _ _).alloc (Nat.le_refl _) _
  have HWV4 := hid (cbox_step HW4.out HV4.out)
  have HX4 := hid (hx4.keep (HV4.out.on fun b hb => hb.2))
  have HQ5 := hid (implCoreShow_any c (Fresh w3 w4) V4 _ _ HX4.out (fun b hb => by have := hb.2; omega) Hc.out)
  obtain ⟨q0, q1, q2, q3, q4⟩ := cown5 OX4.out
  have hV4' := hV4.symm
  clear hx4 hw4 p0 p1 p2 p3 p4 hV4
  go_wp2_with fail
  refine HQ5.out.mono ?_
  rintro e w5 ⟨rfl, hw5⟩
  have HW5 := hid (cbox_step HWV4.out hw5)
  have s5 := hw5.size
  have HX5 := hid (HX4.out.keep (hw5.on fun b hb => by have := hb.2; omega))
  have OX5 := hid (OX4.out.keep hw5 OX4.out.lt)
  clear hw5 HQ5 hV4' q0 q1 q2 q3 q4 HX4
  have K5 := hid (And.intro (cbox5 HW5.out.drew) (cown5 (show Own w5.drew _ _ _ from OX5.out)))
  have HQ7 := hid (toExpCore_own c B w5.drew _ _ _ _ _ (CoreAt.keep (cbox_on HW5.out.drew HR.out) _ HA.out) (fun b hb => by have := HR.out b hb; show b < w5.heap.size; omega) Hc.out)
  go_wp2_with fail
  go_region_held3 (fun w' => (w'.cell? ⟨w.heap.size, 0, none⟩ = some (.int .i64 c.sort) ∧ w'.cell? ⟨w.heap.size, 1, none⟩ = some (.string c.text) ∧ w'.cell? ⟨w.heap.size, 2, none⟩ = some (.bool c.rest) ∧ w'.cell? ⟨w.heap.size, 3, none⟩ = some (.slice a3 c.names.length k3) ∧ w'.cell? ⟨w.heap.size, 4, none⟩ = some (.slice a4 c.kids.length k4)) ∧ w'.cell? ⟨w4.heap.size, 0, none⟩ = some (.int .i64 c.sort) ∧ w'.cell? ⟨w4.heap.size, 1, none⟩ = some (.string c.text) ∧ w'.cell? ⟨w4.heap.size, 2, none⟩ = some (.bool c.rest) ∧ w'.cell? ⟨w4.heap.size, 3, none⟩ = some (.slice xa3 c.names.length xc3) ∧ w'.cell? ⟨w4.heap.size, 4, none⟩ = some (.slice xa4 c.kids.length xc4))
    (first | exact K8.out | exact K7.out | exact K5.out)
    (first
      | (go_at_call 19
         refine HQ7.out.mono ?_
         rintro e w7 ⟨e3, e4, rfl, hf7, hw7⟩
         have HW7 := hid (cbox_step HW5.out.drew hw7)
         have OX7 := hid (Own.keep (show Own w5.drew _ _ _ from OX5.out) hw7 OX5.out.lt)
         have K7 := hid (And.intro (cbox5 HW7.out) (cown5 OX7.out))
         have HQ8 := hid (eqExpCore_any c (Fresh w3 w4) (Fresh w5.drew w7) w7 _ _ _ _ _ _ _ _ e3 e4 ((HX5.out.keep (w' := w7) (fun b hb => hw7.block b (by have := hb.2; show b < w5.heap.size; omega))).form Hcm.out) (hf7.form Hcm.out) (fun b hb => by have := hb.2; have h : w5.heap.size ≤ w7.heap.size := hw7.size; omega) (fun b hb => hb.2))
         clear hf7 hw7)
      | (go_at_call 21
         refine HQ8.out.mono ?_
         rintro e w8 ⟨rfl, hw8⟩
         have HW8 := hid (cbox_step HW7.out hw8)
         have OX8 := hid (OX7.out.keep hw8 OX7.out.lt)
         have K8 := hid (And.intro (cbox5 HW8.out) (cown5 OX8.out))
         clear hw8))
  go_wp2_with fail
  go_ret
  exact ⟨rfl, cbox_done HW8.out⟩

end Go.Proofs.Ytkpamgabhlplfaa

namespace Go.Proofs.Ytkpamgabhlplfaa
open Go.ChangeShapes Go.WideShapes Go.ChangeAt Go.RowKit Go.Siskin

theorem Try.cellsInt : Try.prog.cellsOf 3 = 1 := by kernel_rfl
theorem Try.cellsStr : Try.prog.cellsOf 9 = 1 := by kernel_rfl
theorem Try.cellsInts : Try.prog.cellsOf 22 = 1 := by kernel_rfl
theorem Try.cellsForms : Try.prog.cellsOf 23 = 1 := by kernel_rfl
theorem Try.cellsForm : Try.prog.cellsOf 25 = 5 := by kernel_rfl

theorem list5 {α : Type} {cs : List α} (h : cs.length = 5) : ∃ c0 c1 c2 c3 c4, cs = [c0, c1, c2, c3, c4] := by
  match cs, h with
  | [c0, c1, c2, c3, c4], _ => exact ⟨c0, c1, c2, c3, c4, rfl⟩
theorem array5 {α : Type} {cs : Array α} (h : cs.size = 5) : ∃ c0 c1 c2 c3 c4, cs = #[c0, c1, c2, c3, c4] := by
  obtain ⟨l⟩ := cs
  obtain ⟨c0, c1, c2, c3, c4, e⟩ := list5 (cs := l) h
  exact ⟨c0, c1, c2, c3, c4, by rw [e]⟩

section
variable {H : Type} {enc : TypeId × Value → H} {W : World} {spare : Nat → Bool} {held : Bool}

/-- A cell that is there lies in a block that is there. -/
theorem cell_lt {a : Addr} {v : Value} (h : W.cell? a = some v) : a.block < W.heap.size := by
  unfold World.cell? at h
  cases e : W.heap[a.block]? with
  | none => rw [e] at h; simp at h
  | some o => exact (Array.getElem?_eq_some_iff.1 e).1

theorem ints_of {fuel : Nat} {v : Value} {x : DataW H × List MemPlace} (h : DataW.trod enc Try.prog W 0 spare held fuel 22 [v] = some x) : ∃ xs : List Int, IntsAt (fun b => b < W.heap.size) W v xs := by
  rcases open_ints Try.underlying22 Try.underlying3 Try.cellsInt h with ⟨hcs, _⟩ | ⟨a, len, cap, zs, hcs, _, hl, hm, hz, _, hcell, _⟩
  · simp only [List.cons.injEq, and_true] at hcs
    exact ⟨[], none, 0, hcs, ⟨Nat.zero_le _, Nat.le_refl _⟩, Or.inl rfl⟩
  · simp only [List.cons.injEq, and_true] at hcs
    have hlen : len ≤ zs.length := by rw [hz]; split <;> omega
    have hl2 : (zs.take len).length = len := by rw [List.length_take]; omega
    refine ⟨zs.take len, some a, cap, by rw [hl2]; exact hcs, ⟨by rw [hl2]; omega, by rw [hl2]; omega⟩, ?_⟩
    by_cases h0 : len = 0
    · left; subst h0; simp
    · right
      obtain ⟨b, o, rfl, hc⟩ := ints_at hcell (by omega)
      refine ⟨b, o, rfl, ?_, fun i hi => ?_⟩
      · exact cell_lt (hc 0 (by omega))
      · rw [hl2] at hi
        rw [hc i (by omega)]
        simp [List.getD_eq_getElem?_getD, hi]

theorem cells5 {a : Addr} {k0 k1 k2 k3 k4 : Value} (h : W.cells? 0 a 5 = some [k0, k1, k2, k3, k4]) : W.cell? (a.add 0) = some k0 ∧ W.cell? (a.add 1) = some k1 ∧ W.cell? (a.add 2) = some k2 ∧ W.cell? (a.add 3) = some k3 ∧ W.cell? (a.add 4) = some k4 := by
  unfold World.cells? at h
  rw [if_pos (Nat.zero_le _), show List.range 5 = [0, 1, 2, 3, 4] from rfl] at h
  have g := mapM_some_get h
  have e0 := g 0 0 rfl
  have e1 := g 1 1 rfl
  have e2 := g 2 2 rfl
  have e3 := g 3 3 rfl
  have e4 := g 4 4 rfl
  exact ⟨e0, e1, e2, e3, e4⟩

theorem form_of : ∀ (fuel : Nat) {cs : List Value} {x : DataW H × List MemPlace}, DataW.trod enc Try.prog W 0 spare held fuel 25 cs = some x →
    ∃ (c0 c1 c2 c3 c4 : Value) (f : Fm), cs = [c0, c1, c2, c3, c4] ∧ FormAt (fun b => b < W.heap.size) W f c0 c1 c2 c3 c4 := by
  intro fuel
  induction fuel using Nat.strongRecOn with
  | ind fuel ih =>
  intro cs x h
  obtain ⟨xs, n, hn, -, hl, hxs, hf⟩ := DataW.trod_struct Try.underlying25 h
  rw [Try.cellsForm] at hl
  obtain ⟨c0, c1, c2, c3, c4, rfl⟩ := list5 hl
  have hx5 : xs.length = 5 := hxs
  obtain ⟨x0, x1, x2, x3, x4, rfl⟩ := list5 hx5
  have g0 : DataW.trod enc Try.prog W 0 spare held n 3 [c0] = some x0 := by simpa [Try.cellsInt] using hf 0 _ rfl
  have g1 : DataW.trod enc Try.prog W 0 spare held n 9 [c1] = some x1 := by simpa [Try.cellsStr] using hf 1 _ rfl
  have g2 : DataW.trod enc Try.prog W 0 spare held n 22 [c2] = some x2 := by simpa [Try.cellsInts] using hf 2 _ rfl
  have g3 : DataW.trod enc Try.prog W 0 spare held n 3 [c3] = some x3 := by simpa [Try.cellsInt] using hf 3 _ rfl
  have g4 : DataW.trod enc Try.prog W 0 spare held n 23 [c4] = some x4 := by simpa [Try.cellsForms] using hf 4 _ rfl
  obtain ⟨s, e0, -, -⟩ := DataW.trod_int Try.underlying3 g0
  obtain ⟨t, e1, -, ht⟩ := DataW.trod_string Try.underlying9 g1
  obtain ⟨sc, hsc⟩ := ints_of g2
  obtain ⟨fr, e3, -, -⟩ := DataW.trod_int Try.underlying3 g3
  simp only [List.cons.injEq, and_true] at e0 e1 e3
  subst e0 e1 e3
  obtain ⟨ks, hks⟩ : ∃ ks, FormsAt (fun b => b < W.heap.size) W c4 ks := by
    rcases DataW.trod_slice Try.underlying23 g4 with ⟨hcs, -⟩ | ⟨a, len, cap, elems, rest, n2, hn2, hcs, -, -, hlc, hm, hlen, hel, -⟩
    · simp only [List.cons.injEq, and_true] at hcs
      exact ⟨[], none, 0, hcs, Nat.zero_le _, Or.inl rfl⟩
    · simp only [List.cons.injEq, and_true] at hcs
      have hall : ∀ i, i < len → ∃ f : Fm, ∃ k0 k1 k2 k3 k4, W.cells? 0 (a.add (i * 5)) 5 = some [k0, k1, k2, k3, k4] ∧ FormAt (fun b => b < W.heap.size) W f k0 k1 k2 k3 k4 := by
        intro i hi
        have he := hel i hi
        rw [Try.cellsForm, List.getElem?_eq_getElem (by omega)] at he
        obtain ⟨cs', h1, h2⟩ := Option.bind_eq_some_iff.1 he
        obtain ⟨k0, k1, k2, k3, k4, f, rfl, hf'⟩ := ih n2 (by omega) h2
        exact ⟨f, k0, k1, k2, k3, k4, h1, hf'⟩
      obtain ⟨F, hF⟩ := @Go.Deep.choose_lt Fm ⟨Fm.no⟩ _ _ hall
      have hl2 : ((List.range len).map F).length = len := by simp
      refine ⟨(List.range len).map F, some a, cap, by rw [hl2]; exact hcs, by rw [hl2]; omega, ?_⟩
      by_cases h0 : len = 0
      · left; subst h0; rfl
      · right
        obtain ⟨b, o, spot⟩ := a
        obtain ⟨k0, k1, k2, k3, k4, hc0, -⟩ := hF 0 (by omega)
        have hq := (cells5 hc0).1
        have hspot : spot = none := by simpa [Addr.add] using World.cell?_spot hq
        subst hspot
        refine ⟨b, o, rfl, ?_, RowAt.mk _ fun i hi => ?_⟩
        · have := cell_lt hq
          simpa [Addr.add] using this
        · rw [hl2] at hi
          obtain ⟨k0, k1, k2, k3, k4, hci, hfi⟩ := hF i hi
          obtain ⟨q0, q1, q2, q3, q4⟩ := cells5 hci
          rw [Go.Deep.add_add, Go.WideShapes.add_plain] at q0 q1 q2 q3 q4
          refine ⟨k0, k1, k2, k3, k4, q0, q1, q2, q3, q4, ?_⟩
          simpa using hfi
  exact ⟨_, _, _, _, _, .mk s t sc fr ks, rfl, (formAt_iff _ _ _ _ _ _ _ _).2 ⟨rfl, rfl, ht, hsc, rfl, hks⟩⟩
end
end Go.Proofs.Ytkpamgabhlplfaa

namespace Go.Proofs.Ytkpamgabhlplfaa
open Go.ChangeShapes Go.WideShapes Go.ChangeAt Go.RowKit Go.Siskin

theorem Try.cellsBool : Try.prog.cellsOf 4 = 1 := by kernel_rfl
theorem Try.cellsStrs : Try.prog.cellsOf 42 = 1 := by kernel_rfl
theorem Try.cellsCores : Try.prog.cellsOf 43 = 1 := by kernel_rfl
theorem Try.cellsCore : Try.prog.cellsOf 45 = 5 := by kernel_rfl
theorem Try.cellsStrC : Try.prog.cellsOf 9 = 1 := by kernel_rfl
theorem Try.cellsIntC : Try.prog.cellsOf 3 = 1 := by kernel_rfl

section
variable {H : Type} {enc : TypeId × Value → H} {W : World} {spare : Nat → Bool} {held : Bool}

theorem cell_of1 {a : Addr} {x : Value} (h : W.cells? 0 a 1 = some [x]) : W.cell? (a.add 0) = some x := by
  unfold World.cells? at h
  rw [if_pos (Nat.zero_le _), show List.range 1 = [0] from rfl] at h
  have g := mapM_some_get h
  exact g 0 0 rfl

theorem strs_of {fuel : Nat} {v : Value} {x : DataW H × List MemPlace} (h : DataW.trod enc Try.prog W 0 spare held fuel 42 [v] = some x) : ∃ xs : List ByteArray, StrsAt (fun b => b < W.heap.size) W v xs := by
  rcases DataW.trod_slice Try.underlying42 h with ⟨hcs, -⟩ | ⟨a, len, cap, elems, rest, n2, hn2, hcs, -, -, hlc, hm, hlen, hel, -⟩
  · simp only [List.cons.injEq, and_true] at hcs
    exact ⟨[], none, 0, hcs, ⟨Nat.zero_le _, Nat.le_refl _⟩, fun i hi => absurd hi (by simp), Or.inl rfl⟩
  · simp only [List.cons.injEq, and_true] at hcs
    have hall : ∀ i, i < len → ∃ s : ByteArray, W.cell? ((a.add (i * 1)).add 0) = some (.string s) ∧ s.size ≤ maxLen := by
      intro i hi
      have he := hel i hi
      rw [Try.cellsStrC, List.getElem?_eq_getElem (by omega)] at he
      obtain ⟨cs', h1, h2⟩ := Option.bind_eq_some_iff.1 he
      obtain ⟨t, e1, -, ht⟩ := DataW.trod_string Try.underlying9 h2
      subst e1
      exact ⟨t, cell_of1 h1, ht⟩
    obtain ⟨F, hF⟩ := @Go.Deep.choose_lt ByteArray ⟨⟨#[]⟩⟩ _ _ hall
    have hl2 : ((List.range len).map F).length = len := by simp
    refine ⟨(List.range len).map F, some a, cap, by rw [hl2]; exact hcs, ⟨by rw [hl2]; omega, by rw [hl2]; omega⟩, fun i hi => ?_, ?_⟩
    · rw [hl2] at hi
      simpa using (hF i hi).2
    · by_cases h0 : len = 0
      · left; subst h0; rfl
      · right
        obtain ⟨b, o, spot⟩ := a
        have hq := (hF 0 (by omega)).1
        have hspot : spot = none := by simpa [Addr.add] using World.cell?_spot hq
        subst hspot
        refine ⟨b, o, rfl, ?_, fun i hi => ?_⟩
        · have := cell_lt hq
          simpa [Addr.add] using this
        · rw [hl2] at hi
          have q := (hF i hi).1
          rw [Go.Deep.add_add, Go.WideShapes.add_plain] at q
          simpa using q

theorem core_of : ∀ (fuel : Nat) {cs : List Value} {x : DataW H × List MemPlace}, DataW.trod enc Try.prog W 0 spare held fuel 45 cs = some x →
    ∃ (c0 c1 c2 c3 c4 : Value) (f : Cm), cs = [c0, c1, c2, c3, c4] ∧ CoreAt (fun b => b < W.heap.size) W f c0 c1 c2 c3 c4 := by
  intro fuel
  induction fuel using Nat.strongRecOn with
  | ind fuel ih =>
  intro cs x h
  obtain ⟨xs, n, hn, -, hl, hxs, hf⟩ := DataW.trod_struct Try.underlying45 h
  rw [Try.cellsCore] at hl
  obtain ⟨c0, c1, c2, c3, c4, rfl⟩ := list5 hl
  have hx5 : xs.length = 5 := hxs
  obtain ⟨x0, x1, x2, x3, x4, rfl⟩ := list5 hx5
  have g0 : DataW.trod enc Try.prog W 0 spare held n 3 [c0] = some x0 := by simpa [Try.cellsIntC] using hf 0 _ rfl
  have g1 : DataW.trod enc Try.prog W 0 spare held n 9 [c1] = some x1 := by simpa [Try.cellsStrC] using hf 1 _ rfl
  have g2 : DataW.trod enc Try.prog W 0 spare held n 4 [c2] = some x2 := by simpa [Try.cellsBool] using hf 2 _ rfl
  have g3 : DataW.trod enc Try.prog W 0 spare held n 42 [c3] = some x3 := by simpa [Try.cellsStrs] using hf 3 _ rfl
  have g4 : DataW.trod enc Try.prog W 0 spare held n 43 [c4] = some x4 := by simpa [Try.cellsCores] using hf 4 _ rfl
  obtain ⟨s, e0, -, -⟩ := DataW.trod_int Try.underlying3 g0
  obtain ⟨t, e1, -, ht⟩ := DataW.trod_string Try.underlying9 g1
  obtain ⟨r, e2, -⟩ := DataW.trod_bool Try.underlying4 g2
  obtain ⟨ns, hns⟩ := strs_of g3
  simp only [List.cons.injEq, and_true] at e0 e1 e2
  subst e0 e1 e2
  obtain ⟨ks, hks⟩ : ∃ ks, CoresAt (fun b => b < W.heap.size) W c4 ks := by
    rcases DataW.trod_slice Try.underlying43 g4 with ⟨hcs, -⟩ | ⟨a, len, cap, elems, rest, n2, hn2, hcs, -, -, hlc, hm, hlen, hel, -⟩
    · simp only [List.cons.injEq, and_true] at hcs
      exact ⟨[], none, 0, hcs, ⟨Nat.zero_le _, Nat.le_refl _⟩, Or.inl rfl⟩
    · simp only [List.cons.injEq, and_true] at hcs
      have hall : ∀ i, i < len → ∃ f : Cm, ∃ k0 k1 k2 k3 k4, W.cells? 0 (a.add (i * 5)) 5 = some [k0, k1, k2, k3, k4] ∧ CoreAt (fun b => b < W.heap.size) W f k0 k1 k2 k3 k4 := by
        intro i hi
        have he := hel i hi
        rw [Try.cellsCore, List.getElem?_eq_getElem (by omega)] at he
        obtain ⟨cs', h1, h2⟩ := Option.bind_eq_some_iff.1 he
        obtain ⟨k0, k1, k2, k3, k4, f, rfl, hf'⟩ := ih n2 (by omega) h2
        exact ⟨f, k0, k1, k2, k3, k4, h1, hf'⟩
      obtain ⟨F, hF⟩ := @Go.Deep.choose_lt Cm ⟨Cm.no⟩ _ _ hall
      have hl2 : ((List.range len).map F).length = len := by simp
      refine ⟨(List.range len).map F, some a, cap, by rw [hl2]; exact hcs, ⟨by rw [hl2]; omega, by rw [hl2]; omega⟩, ?_⟩
      by_cases h0 : len = 0
      · left; subst h0; rfl
      · right
        obtain ⟨b, o, spot⟩ := a
        obtain ⟨k0, k1, k2, k3, k4, hc0, -⟩ := hF 0 (by omega)
        have hq := (cells5 hc0).1
        have hspot : spot = none := by simpa [Addr.add] using World.cell?_spot hq
        subst hspot
        refine ⟨b, o, rfl, ?_, CRowAt.mk _ fun i hi => ?_⟩
        · have := cell_lt hq
          simpa [Addr.add] using this
        · rw [hl2] at hi
          obtain ⟨k0, k1, k2, k3, k4, hci, hfi⟩ := hF i hi
          obtain ⟨q0, q1, q2, q3, q4⟩ := cells5 hci
          rw [Go.Deep.add_add, Go.WideShapes.add_plain] at q0 q1 q2 q3 q4
          refine ⟨k0, k1, k2, k3, k4, q0, q1, q2, q3, q4, ?_⟩
          simpa using hfi
  exact ⟨_, _, _, _, _, .mk s t r ns ks, rfl, (coreAt_iff _ _ _ _ _ _ _ _).2 ⟨rfl, rfl, ht, rfl, hns, hks⟩⟩
end
end Go.Proofs.Ytkpamgabhlplfaa
