/-
  A map from lists of kids, told by where they lie, to how far they were gone through: what looking up and storing come to. Condition: the lists lie in rows of cells.
-/
import Derived.Test.YtghgilkdmdppcaaProg
import Derived.Test.YtghgilkdmdppcaaQ2
import Derived.LaidEqlPtr
import Derived.Carry
namespace Go.Proofs.Ytghgilkdmdppcaa
open Go.RowKit Go.Siskin

abbrev kkey (g n : Nat) : Value := .agg #[.pointer (some ⟨g, 0, none⟩), .int .i64 (n : Int)]
/-- Block g is a row of cells. -/
def RowB (w : World) (g : Nat) : Prop := ∃ c t, w.heap[g]? = some (.cells c t (0, 0))

theorem Try.stoodKid : Try.prog.stoodInHeld 60 = false := by kernel_rfl
theorem Try.infoKP : (Try.prog.info? 58).map (fun i => i.size) = some 1 := by kernel_rfl
theorem Try.infoKC : (Try.prog.info? 35).map (fun i => i.size) = some 5 := by kernel_rfl
theorem Try.infoKI : (Try.prog.info? 3).map (fun i => i.size) = some 1 := by kernel_rfl

theorem eq_ptr (w : World) (g h : Nat) (hg : RowB w g) (hh : RowB w h) (d : Nat) : (Op.equalIn (d + 1) 58 (.pointer (some ⟨g, 0, none⟩)) (.pointer (some ⟨h, 0, none⟩))).run Try.prog w = .ok (decide (g = h)) w := by
  obtain ⟨j, hj, hjs⟩ := Option.map_eq_some_iff.1 Try.infoKC
  by_cases e : g = h
  · subst e
    clear hjs
    simp [Op.equalIn, run_underlying Try.underlying58, sizeOf, typeInfo, hj, run_sameAddr_same]
  · obtain ⟨ca, ta, ha⟩ := hg
    obtain ⟨cb, tb, hb⟩ := hh
    have hne : (⟨g, 0, none⟩ : Addr) ≠ ⟨h, 0, none⟩ := fun h' => e (by injection h')
    simp [Op.equalIn, run_underlying Try.underlying58, sizeOf, typeInfo, hj, hjs, run_sameAddr_other w hne ha hb, e]
theorem eq_num (w : World) (n m : Nat) (d : Nat) : (Op.equalIn (d + 1) 3 (.int .i64 (n : Int)) (.int .i64 (m : Int))).run Try.prog w = .ok (decide (n = m)) w := by
  simp [Op.equalIn, run_underlying Try.underlying3]
  by_cases e : n = m
  · subst e; simp
  · simp [e]; omega
theorem eq_key (w : World) (g n h m : Nat) (hg : RowB w g) (hh : RowB w h) : (Op.equal 60 (kkey g n) (kkey h m)).run Try.prog w = .ok (decide (g = h) && decide (n = m)) w := by
  have h1 : (Op.equalIn 9999 58 (.pointer (some ⟨g, 0, none⟩)) (.pointer (some ⟨h, 0, none⟩))).run Try.prog w = .ok (decide (g = h)) w := eq_ptr w g h hg hh 9998
  have h2 : (Op.equalIn 9999 3 (.int .i64 (n : Int)) (.int .i64 (m : Int))).run Try.prog w = .ok (decide (n = m)) w := eq_num w n m 9998
  obtain ⟨j, hj, hjs⟩ := Option.map_eq_some_iff.1 Try.infoKP
  obtain ⟨i, hi, his⟩ := Option.map_eq_some_iff.1 Try.infoKI
  have hu := run_underlying (w := w) Try.underlying60
  have e1 : Op.equal 60 (kkey g n) (kkey h m) = Op.equalIn (9999 + 1) 60 (kkey g n) (kkey h m) := rfl
  rw [e1, Op.equalIn]
  simp [hu, part, isAgg, run_underlying Try.underlying58, run_underlying Try.underlying3, h1, h2]
  clear h1 h2 hu e1
  by_cases a : g = h
  · by_cases b : n = m
    · simp [a, b]
    · simp [a, b]
  · simp [a]

/-- All keys of a map are lists in rows of cells, of V. -/
def MetAt (V : Nat → Prop) (w : World) (b : Nat) : Prop := ∃ es clock, w.heap[b]? = some (.map es clock) ∧ ∀ e ∈ es.toList, ∃ g m, V g ∧ RowB w g ∧ e.key = kkey g m
theorem MetAt.lt {V : Nat → Prop} {w : World} {b : Nat} (h : MetAt V w b) : b < w.heap.size := by
  obtain ⟨es, clock, h, -⟩ := h
  exact (Array.getElem?_eq_some_iff.1 h).1
theorem RowB.lt {w : World} {g : Nat} (h : RowB w g) : g < w.heap.size := by
  obtain ⟨c, t, h⟩ := h
  exact (Array.getElem?_eq_some_iff.1 h).1
theorem RowB.keep {w w' : World} {g : Nat} (h : RowB w g) (hs : w'.heap[g]? = w.heap[g]?) : RowB w' g := by
  obtain ⟨c, t, h⟩ := h
  exact ⟨c, t, hs.trans h⟩
theorem MetAt.keep {V : Nat → Prop} {w w' : World} {b : Nat} (h : MetAt V w b) (hb : Below w.heap.size w w') : MetAt V w' b := by
  have hl := h.lt
  obtain ⟨es, clock, h1, h2⟩ := h
  refine ⟨es, clock, (hb.block b hl).trans h1, fun e he => ?_⟩
  obtain ⟨g, m, h3, h4, h5⟩ := h2 e he
  exact ⟨g, m, h3, h4.keep (hb.block g h4.lt), h5⟩
theorem MetAt.mono {V V' : Nat → Prop} {w : World} {b : Nat} (h : MetAt V w b) (hV : ∀ g, V g → V' g) : MetAt V' w b := by
  obtain ⟨es, clock, h1, h2⟩ := h
  refine ⟨es, clock, h1, fun e he => ?_⟩
  obtain ⟨g, m, h3, h4, h5⟩ := h2 e he
  exact ⟨g, m, hV g h3, h4, h5⟩
theorem metAt_made (w : World) : MetAt (fun _ => False) (w.alloc (.map #[] 0)) w.heap.size := by
  refine ⟨#[], 0, ?_, fun e he => by simp at he⟩
  show (w.heap.push (.map #[] 0))[w.heap.size]? = _
  simp

theorem ask_no (w : World) (g n : Nat) (hg : RowB w g) : ∀ (es : List MapEntry) (i : Nat), (∀ e ∈ es, ∃ h m, h ≠ g ∧ RowB w h ∧ e.key = kkey h m) → (Instr.findAsking 60 (kkey g n) es i).run Try.prog w = .ok none w
  | [], i, _ => by simp [Instr.findAsking]
  | e :: r, i, h => by
    obtain ⟨g', m, h1, h2, h3⟩ := h e (by simp)
    have ih := ask_no w g n hg r (i + 1) (fun e he => h e (by simp [he]))
    have hq := eq_key w g n g' m hg h2
    rw [decide_eq_false (fun e => h1 e.symm), Bool.false_and] at hq
    rw [Instr.findAsking]
    simp [h3, hq, ih]
theorem ask_some (w : World) (g n : Nat) (hg : RowB w g) : ∀ (es : List MapEntry) (i : Nat), (∀ e ∈ es, ∃ h m, RowB w h ∧ e.key = kkey h m) → ∃ r, (Instr.findAsking 60 (kkey g n) es i).run Try.prog w = .ok r w ∧ ∀ j v, r = some (j, v) → ∃ e, i ≤ j ∧ es[j - i]? = some e ∧ e.key = kkey g n
  | [], i, _ => ⟨none, by simp [Instr.findAsking], fun _ _ h => by cases h⟩
  | e :: r, i, h => by
    obtain ⟨g', m, h2, h3⟩ := h e (by simp)
    obtain ⟨q, hq1, hq2⟩ := ask_some w g n hg r (i + 1) (fun e he => h e (by simp [he]))
    have hq := eq_key w g n g' m hg h2
    rw [Instr.findAsking]
    by_cases c : g = g' ∧ n = m
    · rw [decide_eq_true c.1, decide_eq_true c.2] at hq
      refine ⟨some (i, e.val), by simp [h3, hq], fun j v hj => ?_⟩
      cases hj
      exact ⟨e, Nat.le_refl _, by simp, by rw [h3, c.1, c.2]⟩
    · have hf : (decide (g = g') && decide (n = m)) = false := by
        rw [Bool.and_eq_false_iff]
        by_cases a : g = g'
        · exact Or.inr (decide_eq_false fun b => c ⟨a, b⟩)
        · exact Or.inl (decide_eq_false a)
      rw [hf] at hq
      refine ⟨q, by simp [h3, hq, hq1], fun j v hj => ?_⟩
      obtain ⟨e', h4, h5, h6⟩ := hq2 j v hj
      refine ⟨e', by omega, ?_, h6⟩
      rw [show j - i = (j - (i + 1)) + 1 by omega]
      simpa using h5
theorem find_ask (w : World) (g n : Nat) (es : List MapEntry) : (Instr.findKey 60 (kkey g n) es).run Try.prog w = (Instr.findAsking 60 (kkey g n) es).run Try.prog w := by
  cases es with
  | nil => simp [Instr.findKey, Instr.findNow, Instr.findAsking, run_underlying Try.underlying60]
  | cons e r => simp [Instr.findKey, Instr.findNow, Instr.sameNow, run_underlying Try.underlying60]
theorem check_kid (w : World) (em : Bool) (g n : Nat) : (Instr.checkKey em 10000 60 (kkey g n)).run Try.prog w = .ok () w := by
  have q1 : ∀ d : Nat, (Instr.checkKey em (d + 1) 58 (.pointer (some ⟨g, 0, none⟩))).run Try.prog w = .ok () w := fun d => by
    rw [Instr.checkKey]; simp [run_underlying Try.underlying58]
  have q2 : ∀ d : Nat, (Instr.checkKey em (d + 1) 3 (.int .i64 (n : Int))).run Try.prog w = .ok () w := fun d => by
    rw [Instr.checkKey]; simp [run_underlying Try.underlying3]
  have h1 : (Instr.checkKey em 9999 58 (.pointer (some ⟨g, 0, none⟩))).run Try.prog w = .ok () w := q1 9998
  have h2 : (Instr.checkKey em 9999 3 (.int .i64 (n : Int))).run Try.prog w = .ok () w := q2 9998
  have e1 : Instr.checkKey em 10000 60 (kkey g n) = Instr.checkKey em (9999 + 1) 60 (kkey g n) := rfl
  clear q1 q2
  rw [e1, Instr.checkKey]
  simp [run_underlying Try.underlying60, part, isAgg, run_underlying Try.underlying58, run_underlying Try.underlying3, h1, h2]

/-- A list that was not met yet. -/
theorem MetAt.look {V : Nat → Prop} {w : World} {b : Nat} (h : MetAt V w b) (g n : Nat) (hg : RowB w g) (hV : ¬ V g) :
    (Instr.lookup 46 (.map (some b)) (kkey g n) false).run Try.prog w = .ok (.int .i64 0) w := by
  obtain ⟨es, clock, h1, h2⟩ := h
  have hn := ask_no w g n hg es.toList 0 (fun e he => by obtain ⟨g', m, h3, h4, h5⟩ := h2 e he; exact ⟨g', m, fun e => hV (e ▸ h3), h4, h5⟩)
  have hz : (zeroValue 3).run Try.prog w = .ok (.int .i64 0) w := by kernel_rfl
  simp [Instr.lookup, run_underlying Try.underlying46, Go.MapKept.run_getObj_map h1, check_kid, find_ask, hn, hz]
/-- How far a list was gone through is noted. -/
theorem MetAt.put {V : Nat → Prop} {w : World} {b : Nat} (h : MetAt V w b) (g n : Nat) (hg : RowB w g) (hgb : g ≠ b) (hVb : ¬ V b) (v : Value) :
    ∃ w', (Instr.mapUpdate 46 (.map (some b)) (kkey g n) v).run Try.prog w = .ok () w' ∧ MetAt (fun i => V i ∨ i = g) w' b ∧ w.grownBy w' (some b) := by
  obtain ⟨es, clock, h1, h2⟩ := h
  obtain ⟨r, hr1, hr2⟩ := ask_some w g n hg es.toList 0 (fun e he => by obtain ⟨g', m, h3, h4, h5⟩ := h2 e he; exact ⟨g', m, h4, h5⟩)
  have hset : ∀ o, ∃ w', (setObj b o).run Try.prog w = .ok () w' ∧ w'.heap[b]? = some o ∧ w.grownBy w' (some b) := fun o =>
    ⟨_, Go.MapKept.run_setObj_map o h1, Go.ChangeMaps.heap_setBlock_same h1 _, ⟨rfl, rfl, rfl, by simp, fun i _ hi => Go.ChangeMaps.heap_setBlock_other h1 _ (fun e => hi (by rw [e]))⟩⟩
  cases r with
  | none =>
    obtain ⟨w', q1, q2, q3⟩ := hset (.map (es.push { key := kkey g n, val := v, born := clock }) (clock + 1))
    refine ⟨w', ?_, ⟨_, _, q2, fun e he => ?_⟩, q3⟩
    · simp [Instr.mapUpdate, run_underlying Try.underlying46, Go.MapKept.run_getObj_map h1, check_kid, find_ask, hr1, q1]
    · rw [Array.toList_push, List.mem_append, List.mem_singleton] at he
      rcases he with he | rfl
      · obtain ⟨g', m, h3, h4, h5⟩ := h2 e he
        exact ⟨g', m, Or.inl h3, h4.keep (q3.block g' h4.lt fun e => hVb (by cases e; exact h3)), h5⟩
      · exact ⟨g, n, Or.inr rfl, hg.keep (q3.block g hg.lt fun e => hgb (by cases e; rfl)), rfl⟩
  | some p =>
    obtain ⟨j, u⟩ := p
    obtain ⟨e0, -, he0, hk0⟩ := hr2 j u rfl
    rw [Nat.sub_zero, Array.getElem?_toList] at he0
    have hst : (Instr.keyThatStays (kkey g n) (kkey g n)).run Try.prog w = .ok (kkey g n) w := by
      have : Instr.sameBits 10000 (kkey g n) (kkey g n) = true := by
        rw [show (10000 : Nat) = 9999 + 1 from rfl, Instr.sameBits]
        simp [Instr.sameBits]
      simp [Instr.keyThatStays, this]
    obtain ⟨w', q1, q2, q3⟩ := hset (.map (es.modify j fun e => { e with key := kkey g n, val := v }) clock)
    refine ⟨w', ?_, ⟨_, _, q2, fun e he => ?_⟩, q3⟩
    · simp [Instr.mapUpdate, run_underlying Try.underlying46, Go.MapKept.run_getObj_map h1, check_kid, find_ask, hr1, he0, hk0, hst, q1]
    · obtain ⟨i, hi⟩ := List.mem_iff_getElem?.1 he
      rw [Array.getElem?_toList, Array.getElem?_modify] at hi
      by_cases c : j = i
      · subst c
        rw [if_pos rfl, he0] at hi
        cases hi
        exact ⟨g, n, Or.inr rfl, hg.keep (q3.block g hg.lt fun e => hgb (by cases e; rfl)), rfl⟩
      · rw [if_neg c] at hi
        obtain ⟨g', m, h3, h4, h5⟩ := h2 e (List.mem_iff_getElem?.2 ⟨i, by rw [Array.getElem?_toList]; exact hi⟩)
        exact ⟨g', m, Or.inl h3, h4.keep (q3.block g' h4.lt fun e => hVb (by cases e; exact h3)), h5⟩

end Go.Proofs.Ytghgilkdmdppcaa
