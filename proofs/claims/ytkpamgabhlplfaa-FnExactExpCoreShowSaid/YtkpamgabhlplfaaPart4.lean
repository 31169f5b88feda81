/-
  A map from lists of kids, told by where they lie, to how far they were gone through: what looking up and storing come to. Condition: the lists lie in rows of cells.
  The program's haveEnd finds that no list of kids is within itself. Condition: every list lies in a block of its own.
  The program's show writes into the builder what the plain function says; showCore and ExpCoreShow. Condition: the part lies in memory, every list in a block of its own, and costs at most 1048576.
-/
import Derived.Test.YtkpamgabhlplfaaProg
import Derived.Test.YtkpamgabhlplfaaPart2
import Derived.LaidEqlPtr
import Derived.Carry
import Derived.Maps.OwnOps
import Derived.WalkKit
import Derived.Test.YtkpamgabhlplfaaPart3
import Derived.Deep.RegionHeld3
import Derived.Laws.EntriesVeiled
namespace Go.Proofs.Ytkpamgabhlplfaa
open Go.RowKit Go.Siskin

abbrev kkey (g n : Nat) : Value := .agg #[.pointer (some ⟨g, 0, none⟩), .int .i64 (n : Int)]
/-- Block g is a row of cells. -/
def RowB (w : World) (g : Nat) : Prop := ∃ c t, w.heap[g]? = some (.cells c t (0, 0))

theorem Try.stoodKid : Try.prog.stoodInHeld 132 = false := by kernel_rfl
theorem Try.infoKP : (Try.prog.info? 130).map (fun i => i.size) = some 1 := by kernel_rfl
theorem Try.infoKC : (Try.prog.info? 50).map (fun i => i.size) = some 5 := by kernel_rfl
theorem Try.infoKI : (Try.prog.info? 3).map (fun i => i.size) = some 1 := by kernel_rfl

theorem eq_ptr (w : World) (g h : Nat) (hg : RowB w g) (hh : RowB w h) (d : Nat) : (Op.equalIn (d + 1) 130 (.pointer (some ⟨g, 0, none⟩)) (.pointer (some ⟨h, 0, none⟩))).run Try.prog w = .ok (decide (g = h)) w := by
  obtain ⟨j, hj, hjs⟩ := Option.map_eq_some_iff.1 Try.infoKC
  by_cases e : g = h
  · subst e
    clear hjs
    simp [Op.equalIn, run_underlying Try.underlying130, sizeOf, typeInfo, hj, run_sameAddr_same]
  · obtain ⟨ca, ta, ha⟩ := hg
    obtain ⟨cb, tb, hb⟩ := hh
    have hne : (⟨g, 0, none⟩ : Addr) ≠ ⟨h, 0, none⟩ := fun h' => e (by injection h')
    simp [Op.equalIn, run_underlying Try.underlying130, sizeOf, typeInfo, hj, hjs, run_sameAddr_other w hne ha hb, e]
theorem eq_num (w : World) (n m : Nat) (d : Nat) : (Op.equalIn (d + 1) 3 (.int .i64 (n : Int)) (.int .i64 (m : Int))).run Try.prog w = .ok (decide (n = m)) w := by
  simp [Op.equalIn, run_underlying Try.underlying3]
  by_cases e : n = m
  · subst e; simp
  · simp [e]; omega
theorem eq_key (w : World) (g n h m : Nat) (hg : RowB w g) (hh : RowB w h) : (Op.equal 132 (kkey g n) (kkey h m)).run Try.prog w = .ok (decide (g = h) && decide (n = m)) w := by
  have h1 : (Op.equalIn 9999 130 (.pointer (some ⟨g, 0, none⟩)) (.pointer (some ⟨h, 0, none⟩))).run Try.prog w = .ok (decide (g = h)) w := eq_ptr w g h hg hh 9998
  have h2 : (Op.equalIn 9999 3 (.int .i64 (n : Int)) (.int .i64 (m : Int))).run Try.prog w = .ok (decide (n = m)) w := eq_num w n m 9998
  obtain ⟨j, hj, hjs⟩ := Option.map_eq_some_iff.1 Try.infoKP
  obtain ⟨i, hi, his⟩ := Option.map_eq_some_iff.1 Try.infoKI
  have hu := run_underlying (w := w) Try.underlying132
  have e1 : Op.equal 132 (kkey g n) (kkey h m) = Op.equalIn (9999 + 1) 132 (kkey g n) (kkey h m) := rfl
  rw [e1, Op.equalIn]
  simp [hu, part, isAgg, run_underlying Try.underlying130, run_underlying Try.underlying3, h1, h2]
  clear h1 h2 hu e1
  by_cases a : g = h
  · by_cases b : n = m
    · simp [a, b]
    · simp [a, b]
  · simp [a]

/-- All keys of a map are lists in rows of cells, of V. -/
def MetAt (V : Nat → Prop) (w : World) (b : Nat) : Prop := ∃ es clock, w.heap[b]? = some (.map es clock) ∧ ∀ e ∈ es.toList, ∃ g m, V g ∧ RowB w g ∧ e.key = kkey g m
theorem MetAt.lt {V : Nat → Prop} {w : World} {b : Nat} (h : MetAt V w b) : b < w.heap.size := by
  obtain ⟨es, clock, h, -⟩ := h
  exact (Array.getElem?_eq_some_iff.1 h).1
theorem RowB.lt {w : World} {g : Nat} (h : RowB w g) : g < w.heap.size := by
  obtain ⟨c, t, h⟩ := h
  exact (Array.getElem?_eq_some_iff.1 h).1
theorem RowB.keep {w w' : World} {g : Nat} (h : RowB w g) (hs : w'.heap[g]? = w.heap[g]?) : RowB w' g := by
  obtain ⟨c, t, h⟩ := h
  exact ⟨c, t, hs.trans h⟩
theorem MetAt.keep {V : Nat → Prop} {w w' : World} {b : Nat} (h : MetAt V w b) (hb : Below w.heap.size w w') : MetAt V w' b := by
  have hl := h.lt
  obtain ⟨es, clock, h1, h2⟩ := h
  refine ⟨es, clock, (hb.block b hl).trans h1, fun e he => ?_⟩
  obtain ⟨g, m, h3, h4, h5⟩ := h2 e he
  exact ⟨g, m, h3, h4.keep (hb.block g h4.lt), h5⟩
theorem MetAt.mono {V V' : Nat → Prop} {w : World} {b : Nat} (h : MetAt V w b) (hV : ∀ g, V g → V' g) : MetAt V' w b := by
  obtain ⟨es, clock, h1, h2⟩ := h
  refine ⟨es, clock, h1, fun e he => ?_⟩
  obtain ⟨g, m, h3, h4, h5⟩ := h2 e he
  exact ⟨g, m, hV g h3, h4, h5⟩
theorem metAt_made (w : World) : MetAt (fun _ => False) (w.alloc (.map #[] 0)) w.heap.size := by
  refine ⟨#[], 0, ?_, fun e he => by simp at he⟩
  show (w.heap.push (.map #[] 0))[w.heap.size]? = _
  simp

theorem ask_no (w : World) (g n : Nat) (hg : RowB w g) : ∀ (es : List MapEntry) (i : Nat), (∀ e ∈ es, ∃ h m, h ≠ g ∧ RowB w h ∧ e.key = kkey h m) → (Instr.findAsking 132 (kkey g n) es i).run Try.prog w = .ok none w
  | [], i, _ => by simp [Instr.findAsking]
  | e :: r, i, h => by
    obtain ⟨g', m, h1, h2, h3⟩ := h e (by simp)
    have ih := ask_no w g n hg r (i + 1) (fun e he => h e (by simp [he]))
    have hq := eq_key w g n g' m hg h2
    rw [decide_eq_false (fun e => h1 e.symm), Bool.false_and] at hq
    rw [Instr.findAsking]
    simp [h3, hq, ih]
theorem ask_some (w : World) (g n : Nat) (hg : RowB w g) : ∀ (es : List MapEntry) (i : Nat), (∀ e ∈ es, ∃ h m, RowB w h ∧ e.key = kkey h m) → ∃ r, (Instr.findAsking 132 (kkey g n) es i).run Try.prog w = .ok r w ∧ ∀ j v, r = some (j, v) → ∃ e, i ≤ j ∧ es[j - i]? = some e ∧ e.key = kkey g n
  | [], i, _ => ⟨none, by simp [Instr.findAsking], fun _ _ h => by cases h⟩
  | e :: r, i, h => by
    obtain ⟨g', m, h2, h3⟩ := h e (by simp)
    obtain ⟨q, hq1, hq2⟩ := ask_some w g n hg r (i + 1) (fun e he => h e (by simp [he]))
    have hq := eq_key w g n g' m hg h2
    rw [Instr.findAsking]
    by_cases c : g = g' ∧ n = m
    · rw [decide_eq_true c.1, decide_eq_true c.2] at hq
      refine ⟨some (i, e.val), by simp [h3, hq], fun j v hj => ?_⟩
      cases hj
      exact ⟨e, Nat.le_refl _, by simp, by rw [h3, c.1, c.2]⟩
    · have hf : (decide (g = g') && decide (n = m)) = false := by
        rw [Bool.and_eq_false_iff]
        by_cases a : g = g'
        · exact Or.inr (decide_eq_false fun b => c ⟨a, b⟩)
        · exact Or.inl (decide_eq_false a)
      rw [hf] at hq
      refine ⟨q, by simp [h3, hq, hq1], fun j v hj => ?_⟩
      obtain ⟨e', h4, h5, h6⟩ := hq2 j v hj
      refine ⟨e', by omega, ?_, h6⟩
      rw [show j - i = (j - (i + 1)) + 1 by omega]
      simpa using h5
theorem find_ask (w : World) (g n : Nat) (es : List MapEntry) : (Instr.findKey 132 (kkey g n) es).run Try.prog w = (Instr.findAsking 132 (kkey g n) es).run Try.prog w := by
  cases es with
  | nil => simp [Instr.findKey, Instr.findNow, Instr.findAsking, run_underlying Try.underlying132]
  | cons e r => simp [Instr.findKey, Instr.findNow, Instr.sameNow, run_underlying Try.underlying132]
theorem check_kid (w : World) (em : Bool) (g n : Nat) : (Instr.checkKey em 10000 132 (kkey g n)).run Try.prog w = .ok () w := by
  have q1 : ∀ d : Nat, (Instr.checkKey em (d + 1) 130 (.pointer (some ⟨g, 0, none⟩))).run Try.prog w = .ok () w := fun d => by
    rw [Instr.checkKey]; simp [run_underlying Try.underlying130]
  have q2 : ∀ d : Nat, (Instr.checkKey em (d + 1) 3 (.int .i64 (n : Int))).run Try.prog w = .ok () w := fun d => by
    rw [Instr.checkKey]; simp [run_underlying Try.underlying3]
  have h1 : (Instr.checkKey em 9999 130 (.pointer (some ⟨g, 0, none⟩))).run Try.prog w = .ok () w := q1 9998
  have h2 : (Instr.checkKey em 9999 3 (.int .i64 (n : Int))).run Try.prog w = .ok () w := q2 9998
  have e1 : Instr.checkKey em 10000 132 (kkey g n) = Instr.checkKey em (9999 + 1) 132 (kkey g n) := rfl
  clear q1 q2
  rw [e1, Instr.checkKey]
  simp [run_underlying Try.underlying132, part, isAgg, run_underlying Try.underlying130, run_underlying Try.underlying3, h1, h2]

/-- A list that was not met yet. -/
theorem MetAt.look {V : Nat → Prop} {w : World} {b : Nat} (h : MetAt V w b) (g n : Nat) (hg : RowB w g) (hV : ¬ V g) :
    (Instr.lookup 109 (.map (some b)) (kkey g n) false).run Try.prog w = .ok (.int .i64 0) w := by
  obtain ⟨es, clock, h1, h2⟩ := h
  have hn := ask_no w g n hg es.toList 0 (fun e he => by obtain ⟨g', m, h3, h4, h5⟩ := h2 e he; exact ⟨g', m, fun e => hV (e ▸ h3), h4, h5⟩)
  have hz : (zeroValue 3).run Try.prog w = .ok (.int .i64 0) w := by kernel_rfl
  simp [Instr.lookup, run_underlying Try.underlying109, Go.MapKept.run_getObj_map h1, check_kid, find_ask, hn, hz]
/-- How far a list was gone through is noted. -/
theorem MetAt.put {V : Nat → Prop} {w : World} {b : Nat} (h : MetAt V w b) (g n : Nat) (hg : RowB w g) (hgb : g ≠ b) (hVb : ¬ V b) (v : Value) :
    ∃ w', (Instr.mapUpdate 109 (.map (some b)) (kkey g n) v).run Try.prog w = .ok () w' ∧ MetAt (fun i => V i ∨ i = g) w' b ∧ w.grownBy w' (some b) := by
  obtain ⟨es, clock, h1, h2⟩ := h
  obtain ⟨r, hr1, hr2⟩ := ask_some w g n hg es.toList 0 (fun e he => by obtain ⟨g', m, h3, h4, h5⟩ := h2 e he; exact ⟨g', m, h4, h5⟩)
  have hset : ∀ o, ∃ w', (setObj b o).run Try.prog w = .ok () w' ∧ w'.heap[b]? = some o ∧ w.grownBy w' (some b) := fun o =>
    ⟨_, Go.MapKept.run_setObj_map o h1, Go.ChangeMaps.heap_setBlock_same h1 _, ⟨rfl, rfl, rfl, by simp, fun i _ hi => Go.ChangeMaps.heap_setBlock_other h1 _ (fun e => hi (by rw [e]))⟩⟩
  cases r with
  | none =>
    obtain ⟨w', q1, q2, q3⟩ := hset (.map (es.push { key := kkey g n, val := v, born := clock }) (clock + 1))
    refine ⟨w', ?_, ⟨_, _, q2, fun e he => ?_⟩, q3⟩
    · simp [Instr.mapUpdate, run_underlying Try.underlying109, Go.MapKept.run_getObj_map h1, check_kid, find_ask, hr1, q1]
    · rw [Array.toList_push, List.mem_append, List.mem_singleton] at he
      rcases he with he | rfl
      · obtain ⟨g', m, h3, h4, h5⟩ := h2 e he
        exact ⟨g', m, Or.inl h3, h4.keep (q3.block g' h4.lt fun e => hVb (by cases e; exact h3)), h5⟩
      · exact ⟨g, n, Or.inr rfl, hg.keep (q3.block g hg.lt fun e => hgb (by cases e; rfl)), rfl⟩
  | some p =>
    obtain ⟨j, u⟩ := p
    obtain ⟨e0, -, he0, hk0⟩ := hr2 j u rfl
    rw [Nat.sub_zero, Array.getElem?_toList] at he0
    have hst : (Instr.keyThatStays (kkey g n) (kkey g n)).run Try.prog w = .ok (kkey g n) w := by
      have : Instr.sameBits 10000 (kkey g n) (kkey g n) = true := by
        rw [show (10000 : Nat) = 9999 + 1 from rfl, Instr.sameBits]
        simp [Instr.sameBits]
      simp [Instr.keyThatStays, this]
    obtain ⟨w', q1, q2, q3⟩ := hset (.map (es.modify j fun e => { e with key := kkey g n, val := v }) clock)
    refine ⟨w', ?_, ⟨_, _, q2, fun e he => ?_⟩, q3⟩
    · simp [Instr.mapUpdate, run_underlying Try.underlying109, Go.MapKept.run_getObj_map h1, check_kid, find_ask, hr1, he0, hk0, hst, q1]
    · obtain ⟨i, hi⟩ := List.mem_iff_getElem?.1 he
      rw [Array.getElem?_toList, Array.getElem?_modify] at hi
      by_cases c : j = i
      · subst c
        rw [if_pos rfl, he0] at hi
        cases hi
        exact ⟨g, n, Or.inr rfl, hg.keep (q3.block g hg.lt fun e => hgb (by cases e; rfl)), rfl⟩
      · rw [if_neg c] at hi
        obtain ⟨g', m, h3, h4, h5⟩ := h2 e (List.mem_iff_getElem?.2 ⟨i, by rw [Array.getElem?_toList]; exact hi⟩)
        exact ⟨g', m, Or.inl h3, h4.keep (q3.block g' h4.lt fun e => hVb (by cases e; exact h3)), h5⟩

end Go.Proofs.Ytkpamgabhlplfaa

namespace Go.Proofs.Ytkpamgabhlplfaa
open Go.RowKit Go.Siskin

theorem row_rowB {w : World} {e : TypeId} {s n g : Nat} {c : Nat} {xs : List Value} (h : w.ownsRow 0 e s (.slice (some ⟨g, 0, none⟩) n c) n xs) : RowB w g := by
  rcases h.2 with ⟨h0, -⟩ | ⟨g', cap, cur, h0, -, h1, -⟩
  · cases h0
  · cases h0; exact ⟨cur, e, h1⟩

def HaveEnd (n : Nat) : Prop := ∀ ks : List Cm, Cm.szs ks ≤ n → Cm.costs ks + ks.length ≤ 1048576 → ∀ (S V : Nat → Prop) (w : World) (v : Value) (b : Nat), CRow w S v ks → (∀ x, S x → x < w.heap.size) → MetAt V w b → (∀ x, S x → ¬ V x) → ¬ S b → ¬ V b →
  Calls Try.prog 61 #[v, .map (some b)] w fun e w' => e = .returned (.bool true) ∧ MetAt (fun i => V i ∨ S i) w' b ∧ w.grownBy w' (some b)

set_option maxRecDepth 20000 in
set_option maxHeartbeats 4000000 in
theorem haveEnd_of (n : Nat) (ih : ∀ m, m < n → HaveEnd m) : HaveEnd n := by
  intro ks hks hcs S V w v b hv hS hM hSV hSb hVb
  have HI := hid ih
  have HS := hid hS
  have HM := hid hM
  have HSV := hid hSV
  have HSb := hid hSb
  have HVb := hid hVb
  obtain ⟨cs, F, hP⟩ := hv
  have HP := hid hP
  obtain ⟨a, c, rfl⟩ := crow_shape hP.row
  have hlen : ks.length ≤ 1048576 := by omega
  by_cases h0 : ks.length = 0
  · have h0' : ((ks.length : Int) == 0) = true := by simp [h0]
    clear ih hS hM hSV hSb hVb hP
    go_enter Try.func61, Try.ntmps61
    go_wp2_with fail
    go_ret
    exact ⟨rfl, HM.out.mono fun _ h => Or.inl h, World.grownBy.refl _ _⟩
  have h0' : ((ks.length : Int) == 0) = false := by simp [h0]
  have hpos : 0 < ks.length := by omega
  obtain ⟨g, rfl⟩ : ∃ g, a = some ⟨g, 0, none⟩ := by
    rcases hP.row.2 with ⟨e, h0⟩ | ⟨g, cap, cur, e, -⟩
    · omega
    · cases e; exact ⟨g, rfl⟩
  have hSg : S g := hP.own g rfl
  have hgb : g ≠ b := fun e => hSb (e ▸ hSg)
  have hgV : ¬ V g := hSV g hSg
  have hgR := row_rowB hP.row
  have hbw := hM.lt
  have HgR := hid hgR
  have HgV := hid hgV
  have Hgb := hid hgb
  have hL := fun o : Obj => (hM.keep (w' := w.alloc o) ((Below.refl _ _).alloc (Nat.le_refl _) o)).look g ks.length (hgR.keep (Below.heap_alloc w o g hgR.lt)) hgV
  simp only [kkey] at hL
  obtain ⟨W0, hW0⟩ : ∃ W0, W0 = w.alloc (.cells #[.pointer (some ⟨g, 0, none⟩), .int .i64 (ks.length : Int)] 132) := ⟨_, rfl⟩
  have HB0 : Hid (Below w.heap.size w W0) := by
    show Below _ _ _
    rw [hW0]; exact (Below.refl _ _).alloc (Nat.le_refl _) _
  have hs0 : W0.heap.size = w.heap.size + 1 := by rw [hW0]; simp
  have O0 : Hid (Own W0 w.heap.size 132 #[.pointer (some ⟨g, 0, none⟩), .int .i64 (ks.length : Int)]) := by
    show Own _ _ _ _
    rw [hW0]; exact own_new _ _ _
  obtain ⟨w1, hU, hm1, hg1⟩ := (hM.keep HB0.out).put g ks.length (hgR.keep (HB0.out.block g hgR.lt)) hgb hVb (.int .i64 1)
  simp only [kkey] at hU
  rw [hW0] at hU
  have Hm1 := hid hm1
  have Hg1 := hid hg1
  have s1 := hg1.size
  have O1 : Hid (Own w1 w.heap.size 132 #[.pointer (some ⟨g, 0, none⟩), .int .i64 (ks.length : Int)]) := (hg1.block _ (by omega) (fun e => by cases e; omega)).trans O0.out
  have hsame1 : Hid (∀ x, x < w.heap.size → x ≠ b → w1.heap[x]? = w.heap[x]?) := fun x hx hxb => (hg1.block x (by omega) (fun e => hxb (by cases e; rfl))).trans (HB0.out.block x hx)
  have hos1 : Hid (w1.os = w.os ∧ w1.tape = w.tape ∧ w1.output = w.output) := ⟨hg1.os.trans HB0.out.os, hg1.tape.trans HB0.out.tape, hg1.output.trans HB0.out.output⟩
  clear ih hS hM hSV hSb hVb hP hgV hgR hgb hm1 hg1 hW0
  go_enter Try.func61, Try.ntmps61
  go_wp2_with fail
  go_loopw [27] (fun i wr => ∃ k : Nat, k ≤ ks.length ∧ i = .int .i64 k ∧ Hid (MetAt (fun x => (V x ∨ x = g) ∨ ∃ j, j < k ∧ F j x) wr b) ∧ Hid (w1.grownBy wr (some b))) (fun i _ => ks.length - (intOf i).toNat)
  case atStart => exact ⟨0, Nat.zero_le _, rfl, Hm1.out.mono fun _ h => Or.inl h, World.grownBy.refl _ _⟩
  case round =>
    obtain ⟨k, hk, rfl, HMk, HGk⟩ := hrel
    have sk := HGk.out.size
    have hsame : ∀ x, x < w.heap.size → x ≠ b → wr.heap[x]? = w.heap[x]? := fun x hx hxb => (HGk.out.block x (by omega) (fun e => hxb (by cases e; rfl))).trans (hsame1.out x hx hxb)
    have HSame := hid hsame
    have HO := hid (show Own wr w.heap.size 132 #[.pointer (some ⟨g, 0, none⟩), .int .i64 (ks.length : Int)] from (HGk.out.block _ (by omega) (fun e => by cases e; omega)).trans O1.out)
    have hrowk : wr.ownsRow 0 50 5 (.slice (some ⟨g, 0, none⟩) ks.length c) ks.length cs := crow_same HP.out.row fun x e => by
      have hx : x = g := by simpa [Value.ownBlock] using e.symm
      subst hx
      exact hsame x HgR.out.lt Hgb.out
    have HRk := hid hrowk
    clear hsame
    by_cases hlt : k < ks.length
    · obtain ⟨k2, k4, e0, e1, e2, e3, e4, hT⟩ := HP.out.kid k hlt
      have hcsl := hrowk.1
      have q4 := (hrowk.cellAt (k * 5 + 4) (by omega)).trans e4
      obtain ⟨t1, t2, t3⟩ := (ctree_iff _ _ _ _ _).1 hT
      have hsub := HP.out.sub k
      have hap := HP.out.apart
      have hcost := Cm.costs_get ks k hlt
      have hcq := Cm.cost_eq ks[k]
      have hszk := Cm.sz_kids ks[k]
      have hszg := Cm.szs_get ks k hlt
      have HC := hid (HI.out (Cm.szs ks[k].kids) (by omega) ks[k].kids (Nat.le_refl _) (by omega) (fun x => F k x ∧ k2.ownBlock ≠ some x) (fun x => (V x ∨ x = g) ∨ ∃ j, j < k ∧ F j x) wr k4 b
        (t3.keep fun x hx => HSame.out x (HS.out x (hsub x hx.1).1) (fun e => HSb.out (e ▸ (hsub x hx.1).1)))
        (fun x hx => by have := HS.out x (hsub x hx.1).1; omega) HMk.out
        (fun x hx h => by
          rcases h with (h | h) | ⟨j, hj, h⟩
          · exact HSV.out x (hsub x hx.1).1 h
          · exact (hsub x hx.1).2 (by rw [h]; rfl)
          · exact hap j k x (by omega) h hx.1)
        (fun h => HSb.out (hsub b h.1).1)
        (fun h => by
          rcases h with (h | h) | ⟨j, hj, h⟩
          · exact HVb.out h
          · exact Hgb.out h.symm
          · exact HSb.out (HP.out.sub j b h).1))
      obtain ⟨x4, y4, rfl⟩ : ∃ a c, k4 = .slice a ks[k].kids.length c := (ctshape hT).2
      clear hT t1 t2 t3 hsub hap hcost hcq hszk hszg e0 e1 e2 e3 e4 hrowk HI
      go_wp2_with fail
      refine HC.out.mono ?_
      rintro e w2 ⟨rfl, hm2, hg2⟩
      have Hm2 := hid hm2
      have Hg2 := hid hg2
      clear hm2 hg2 HC
      go_wp2_with fail
      refine ⟨⟨k + 1, by omega, by go_num, Hm2.out.mono fun x h => ?_, HGk.out.trans Hg2.out⟩, by simp [intOf]; omega⟩
      rcases h with (h | ⟨j, hj, h⟩) | h
      · exact Or.inl h
      · exact Or.inr ⟨j, by omega, h⟩
      · exact Or.inr ⟨k, by omega, h.1⟩
    · have hgR2 : RowB wr g := HgR.out.keep (HSame.out g HgR.out.lt Hgb.out)
      obtain ⟨w3, hU3, hm3, hg3⟩ := HMk.out.put g ks.length hgR2 Hgb.out (fun h => by
          rcases h with (h | h) | ⟨j, hj, h⟩
          · exact HVb.out h
          · exact Hgb.out h.symm
          · exact HSb.out (HP.out.sub j b h).1) (.int .i64 2)
      simp only [kkey] at hU3
      have Hm3 := hid hm3
      have Hg3 := hid hg3
      have z0 : wr.cell? ⟨w.heap.size, 0, none⟩ = some (.pointer (some ⟨g, 0, none⟩)) := (HO.out.cell 0).trans rfl
      have z1 : wr.cell? ⟨w.heap.size, 1, none⟩ = some (.int .i64 (ks.length : Int)) := (HO.out.cell 1).trans rfl
      clear hm3 hg3
      go_wp2_with fail
      go_ret
      refine ⟨rfl, Hm3.out.mono fun x h => ?_, ?_⟩
      · rcases h with ((h | h) | ⟨j, hj, h⟩) | h
        · exact Or.inl h
        · exact Or.inr (h ▸ hSg)
        · exact Or.inr (HP.out.sub j x h).1
        · exact Or.inr (h ▸ hSg)
      · have hh := HGk.out.trans Hg3.out
        exact ⟨hh.os.trans hos1.out.1, hh.tape.trans hos1.out.2.1, hh.output.trans hos1.out.2.2, by have := hh.size; omega, fun x hx hxb => (hh.block x (by omega) hxb).trans (hsame1.out x hx fun e => hxb (by rw [e]))⟩

theorem haveEnd_all : ∀ n, HaveEnd n := fun n => by
  induction n using Nat.strongRecOn with
  | _ n ih => exact haveEnd_of n ih

set_option maxHeartbeats 1000000 in
theorem haveEndTop_any (ks : List Cm) (S : Nat → Prop) (w : World) (v : Value) (hv : CRow w S v ks) (hS : ∀ x, S x → x < w.heap.size) (hc : Cm.costs ks + ks.length ≤ 1048576) :
    Calls Try.prog 47 #[v] w fun e w' => e = .returned (.bool true) ∧ Below w.heap.size w w' := by
  have HQ := hid (haveEnd_all _ ks (Nat.le_refl _) hc S (fun _ => False) (w.alloc (.map #[] 0)) v w.heap.size (hv.keep ((SameOn.refl _ _).alloc hS _)) (fun x hx => by have := hS x hx; simp; omega) (metAt_made w) (fun _ _ h => h) (fun h => by have := hS _ h; omega) (fun h => h))
  obtain ⟨a, c, rfl⟩ : ∃ a c, v = .slice a ks.length c := by
    obtain ⟨cs, F, h⟩ := hv
    exact crow_shape h.row
  clear hv hS
  have hmk : ∀ W : World, (Instr.makeMap 109 none).run Try.prog W = .ok (.map (some W.heap.size)) (W.alloc (.map #[] 0)) := fun W => run_makeMap _ W
  go_enter Try.func47, Try.ntmps47
  go_wp2_with fail
  refine HQ.out.mono ?_
  rintro e w1 ⟨rfl, -, hg1⟩
  have Hg := hid hg1
  clear hg1
  go_wp2_with fail
  go_ret
  have h1 := Hg.out.size
  simp only [World.size_alloc] at h1
  exact ⟨rfl, Hg.out.os, Hg.out.tape, Hg.out.output, by omega, fun x hx => (Hg.out.block x (by simp; omega) (fun e => by cases e; omega)).trans (Below.heap_alloc w _ x hx)⟩

end Go.Proofs.Ytkpamgabhlplfaa

namespace Go.Proofs.Ytkpamgabhlplfaa
open Go.RowKit Go.Siskin

/-- Which way a sort is shown. -/
def fnC (s : Int) : FuncId := if s = 1 then 77 else if s = 2 then 77 else if s = 3 then 78 else if s = 4 then 79 else if s = 5 then 80 else if s = 6 then 81 else if s = 7 then 82 else if s = 8 then 83 else if s = 9 then 84 else 76

set_option maxRecDepth 20000 in
set_option maxHeartbeats 1000000 in
theorem of_any (B b : Nat) (l : List UInt8) (s : Int) (w : World) (h : isS B b l w) :
    Calls Try.prog 85 #[.pointer (some ⟨b, 2, none⟩), .int .i64 s] w fun e w' => e = .returned (.func (.func (fnC s)) #[pb b] #[]) ∧ w' = w := by
  obtain ⟨p, v, hbk⟩ : ∃ p v, w.heap[b]? = some (.cells (shCells b p v) 115 (0, 0)) := by
    rcases h with ⟨-, v, h, -⟩ | ⟨-, v, h, -⟩
    · exact ⟨_, v, h⟩
    · exact ⟨_, v, h⟩
  have d2 : w.cell? ⟨b, 2, none⟩ = some (.func (.func 76) #[pb b] #[]) := (sh_cell hbk 2).trans rfl
  have d3 : w.cell? ⟨b, 3, none⟩ = some (.func (.func 77) #[pb b] #[]) := (sh_cell hbk 3).trans rfl
  have d4 : w.cell? ⟨b, 4, none⟩ = some (.func (.func 77) #[pb b] #[]) := (sh_cell hbk 4).trans rfl
  have d5 : w.cell? ⟨b, 5, none⟩ = some (.func (.func 78) #[pb b] #[]) := (sh_cell hbk 5).trans rfl
  have d6 : w.cell? ⟨b, 6, none⟩ = some (.func (.func 79) #[pb b] #[]) := (sh_cell hbk 6).trans rfl
  have d7 : w.cell? ⟨b, 7, none⟩ = some (.func (.func 80) #[pb b] #[]) := (sh_cell hbk 7).trans rfl
  have d8 : w.cell? ⟨b, 8, none⟩ = some (.func (.func 81) #[pb b] #[]) := (sh_cell hbk 8).trans rfl
  have d9 : w.cell? ⟨b, 9, none⟩ = some (.func (.func 82) #[pb b] #[]) := (sh_cell hbk 9).trans rfl
  have d10 : w.cell? ⟨b, 10, none⟩ = some (.func (.func 83) #[pb b] #[]) := (sh_cell hbk 10).trans rfl
  have d11 : w.cell? ⟨b, 11, none⟩ = some (.func (.func 84) #[pb b] #[]) := (sh_cell hbk 11).trans rfl
  clear h hbk
  by_cases h1 : s < 1
  · have HX : Hid (fnC s = 76) := by
      show fnC s = _
      unfold fnC
      rw [if_neg (by omega), if_neg (by omega), if_neg (by omega), if_neg (by omega), if_neg (by omega), if_neg (by omega), if_neg (by omega), if_neg (by omega), if_neg (by omega)]
    rw [HX.out]
    go_enter Try.func85, Try.ntmps85
    go_wp2_with fail
    go_ret
    exact ⟨rfl, rfl⟩
  by_cases h9 : 9 < s
  · have HX : Hid (fnC s = 76) := by
      show fnC s = _
      unfold fnC
      rw [if_neg (by omega), if_neg (by omega), if_neg (by omega), if_neg (by omega), if_neg (by omega), if_neg (by omega), if_neg (by omega), if_neg (by omega), if_neg (by omega)]
    rw [HX.out]
    go_enter Try.func85, Try.ntmps85
    go_wp2_with fail
    go_ret
    exact ⟨rfl, rfl⟩
  have hs : s = 1 ∨ s = 2 ∨ s = 3 ∨ s = 4 ∨ s = 5 ∨ s = 6 ∨ s = 7 ∨ s = 8 ∨ s = 9 := by omega
  clear h1 h9
  rcases hs with rfl | rfl | rfl | rfl | rfl | rfl | rfl | rfl | rfl
  all_goals
    go_enter Try.func85, Try.ntmps85
    go_wp2_with fail
    go_ret
    exact ⟨rfl, rfl⟩

def ShowBy (n : Nat) : Prop := ∀ c : Cm, c.sz ≤ n → ∀ (R : Nat → Prop) (w : World) (c0 c1 c2 c3 c4 : Value) (B b : Nat) (l : List UInt8), CoreAt R w c c0 c1 c2 c3 c4 → (∀ x, R x → x < B) → isS B b l w → B ≤ w.heap.size → l.length + (showC c).length ≤ 1000000000 →
    Calls Try.prog (fnC c.sort) #[pb b, .agg #[c0, c1, c2, c3, c4]] w fun e w' => e = .returned (.tuple #[]) ∧ isS B b (l ++ showC c) w' ∧ Wrote B b w w'

theorem showBy_of (n : Nat) (ihk : KidsB n) (ihs : ShowCo n) : ShowBy (n + 1) := by
  intro c hc R w c0 c1 c2 c3 c4 B b l hA hR hb hB hl
  obtain ⟨rfl, rfl, ht, rfl, h3, h4⟩ := (coreAt_iff _ _ _ _ _ _ _ _).1 hA
  have hk : Cm.szs c.kids ≤ n := by have := Cm.sz_kids c; omega
  by_cases hs : c.sort = 1 ∨ c.sort = 2
  · rw [showC_leaf c hs] at hl ⊢
    have hf : fnC c.sort = 77 := by
      unfold fnC
      rcases hs with h | h
      · rw [if_pos h]
      · rw [if_neg (by omega), if_pos h]
    rw [hf]
    obtain ⟨a3, k3, rfl, -⟩ := h3
    obtain ⟨a4, k4, rfl, -⟩ := h4
    exact m_text c.sort c.text c.rest a3 a4 _ k3 _ k4 w B b l hb hB hl
  have n1 : c.sort ≠ 1 := fun e => hs (Or.inl e)
  have n2 : c.sort ≠ 2 := fun e => hs (Or.inr e)
  rw [showC_list c n1 n2] at hl ⊢
  clear hs hA
  obtain ⟨s, t, r, ns, ks⟩ := c
  simp only at *
  by_cases e3 : s = 3
  · subst e3
    rw [joinC_ne (by decide) _ 0 0] at hl ⊢
    exact m_lambda n ihk 3 t r ns ks hk R w c3 c4 B b l h3 h4 hR hb hB hl
  by_cases e4 : s = 4
  · subst e4
    exact m_call n ihk ihs 4 t r ns ks hk R w c3 c4 B b l h3 h4 hR hb hB hl
  rw [joinC_ne e4 _ 0 0] at hl ⊢
  by_cases e5 : s = 5
  · subst e5
    exact m_if n ihk 5 t r ns ks hk R w c3 c4 B b l h3 h4 hR hb hB hl
  by_cases e6 : s = 6
  · subst e6
    exact m_set n ihk 6 t r ns ks hk R w c3 c4 B b l h3 h4 hR hb hB hl
  by_cases e7 : s = 7
  · subst e7
    exact m_begin n ihk 7 t r ns ks hk R w c3 c4 B b l h3 h4 hR hb hB hl
  by_cases e8 : s = 8
  · subst e8
    exact m_rec n ihk 8 t r ns ks hk R w c3 c4 B b l h3 h4 hR hb hB hl
  by_cases e9 : s = 9
  · subst e9
    exact m_define n ihk 9 t r ns ks hk R w c3 c4 B b l h3 h4 hR hb hB hl
  have hf : fnC s = 76 := by
    unfold fnC
    rw [if_neg n1, if_neg n2, if_neg e3, if_neg e4, if_neg e5, if_neg e6, if_neg e7, if_neg e8, if_neg e9]
  have hp : preB s t r ns = [40] := by
    unfold preB headB
    rw [if_neg e3, if_neg e8, if_neg (by intro h; rcases h with h | h; exact e6 h; exact e9 h), if_neg e5, if_neg e6, if_neg e7, if_neg e9]
    rfl
  rw [hf]
  rw [hp] at hl ⊢
  exact m_other n ihk s t r ns ks hk R w c3 c4 B b l h3 h4 hR hb hB hl

theorem fnC_cases (s : Int) : fnC s = 77 ∨ fnC s = 78 ∨ fnC s = 79 ∨ fnC s = 80 ∨ fnC s = 81 ∨ fnC s = 82 ∨ fnC s = 83 ∨ fnC s = 84 ∨ fnC s = 76 := by
  unfold fnC
  repeat' split
  all_goals simp
theorem cown5 {w : World} {g : Nat} {e : TypeId} {c0 c1 c2 c3 c4 : Value} (h : Own w g e #[c0, c1, c2, c3, c4]) :
    w.cell? ⟨g, 0, none⟩ = some c0 ∧ w.cell? ⟨g, 1, none⟩ = some c1 ∧ w.cell? ⟨g, 2, none⟩ = some c2 ∧ w.cell? ⟨g, 3, none⟩ = some c3 ∧ w.cell? ⟨g, 4, none⟩ = some c4 :=
  ⟨(h.cell 0).trans rfl, (h.cell 1).trans rfl, (h.cell 2).trans rfl, (h.cell 3).trans rfl, (h.cell 4).trans rfl⟩

end Go.Proofs.Ytkpamgabhlplfaa
