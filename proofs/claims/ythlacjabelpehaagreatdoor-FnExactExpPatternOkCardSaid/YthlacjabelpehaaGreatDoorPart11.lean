/-
  The program's put: one part more. Condition: the list's parts and the part's names lie in memory, apart.
  The program's names of a list: those of its parts, then those of its end. Condition: the list lies in memory.
  The program's names of a list, walked. Condition: the list lies in memory, its end, too.
  What the program makes of a pattern, plainly; opened and isEmptyList. Condition: the form lies in memory.
-/
import Derived.Test.YthlacjabelpehaaGreatDoorPart10
import Derived.Deep.RegionLaw
import Derived.Laws.AppendOwnNone
namespace Go.Proofs.YthlacjabelpehaaGreatDoor
open Go.RowKit Go.Siskin

/-- Blocks from a base on that are not the row's own. -/
def OffY (w : World) (base : Nat) (v : Value) (g : Nat) : Prop := base ≤ g ∧ g < w.heap.size ∧ v.ownBlock ≠ some g
/-- Cells, three for each part: its names, whether it is repeated, its function. -/
def PCY (B G : Nat → Prop) (w : World) (cs : List Value) (ps : List (List Fm)) : Prop := ∀ (i : Nat) (hi : i < ps.length),
  ∃ c0 r fn p q, cs[i * 3]? = some c0 ∧ cs[i * 3 + 1]? = some (.bool r) ∧ cs[i * 3 + 2]? = some (.func fn p q) ∧ PnY B G w c0 ps[i]
theorem PCY.keep {B G : Nat → Prop} {w w' : World} {cs : List Value} {ps : List (List Fm)} (h : PCY B G w cs ps) (hG : SameOn G w w') (hB : SameOn B w w') : PCY B G w' cs ps := fun i hi => by
  obtain ⟨c0, r, fn, p, q, e0, e1, e2, e3⟩ := h i hi
  exact ⟨c0, r, fn, p, q, e0, e1, e2, e3.keep hG hB⟩
theorem PCY.mono {B G G' : Nat → Prop} {w : World} {cs : List Value} {ps : List (List Fm)} (h : PCY B G w cs ps) (hG : ∀ g, G g → G' g) : PCY B G' w cs ps := fun i hi => by
  obtain ⟨c0, r, fn, p, q, e0, e1, e2, e3⟩ := h i hi
  exact ⟨c0, r, fn, p, q, e0, e1, e2, e3.mono hG⟩
/-- Parts in a row of their own, their names elsewhere. -/
def LstY (B : Nat → Prop) (w : World) (base : Nat) (v : Value) (ps : List (List Fm)) : Prop :=
  ∃ cs, w.ownsRow base 129 3 v ps.length cs ∧ PCY B (OffY w base v) w cs ps
theorem LstY.nil (B : Nat → Prop) (w : World) (base : Nat) : LstY B w base (.slice none 0 0) [] := ⟨[], World.ownsRow_nil _ _ _ _, fun i hi => absurd hi (by simp)⟩
theorem offY_on {w w' : World} {base : Nat} {v : Value} (hb : Below w.heap.size w w') : SameOn (OffY w base v) w w' := fun b h => hb.block b h.2.1
theorem LstY.keep {B : Nat → Prop} {w w' : World} {base : Nat} {v : Value} {ps : List (List Fm)} (h : LstY B w base v ps) (hb : Below w.heap.size w w') (hB : ∀ b, B b → b < w.heap.size) : LstY B w' base v ps := by
  obtain ⟨cs, h1, h2⟩ := h
  have hg : w.grownBy w' none := ⟨hb.os, hb.tape, hb.output, hb.size, fun i hi _ => hb.block i hi⟩
  exact ⟨cs, h1.kept hg (by cases v.ownBlock <;> simp), (h2.keep (offY_on hb) (hb.on hB)).mono fun g hg => ⟨hg.1, Nat.lt_of_lt_of_le hg.2.1 hb.size, hg.2.2⟩⟩
theorem LstY.set {B : Nat → Prop} {w : World} {base : Nat} {v : Value} {ps : List (List Fm)} (h : LstY B w base v ps) {p : Addr} (hp : p.block < base) (hB : ¬ B p.block) (u : Value) : LstY B (w.setCell p u) base v ps := by
  obtain ⟨cs, h1, h2⟩ := h
  refine ⟨cs, ownsRow_setCell_below h1 hp _, (h2.keep (fun b hb => Below.heap_setCell _ _ _ _ (fun e => ?_)) ((SameOn.refl _ _).setCell hB _)).mono fun g hg => ⟨hg.1, by simpa [World.setCell] using hg.2.1, hg.2.2⟩⟩
  have := hb.1
  omega
theorem LstY.snoc {B : Nat → Prop} {w w' : World} {base : Nat} {v : Value} {ps : List (List Fm)} {ns : List Fm} {cs : List Value} {nv : Value} {r : Bool} {fn : Fn} {p q : Array Value} {g cap n : Nat} (hB : ∀ b, B b → b < base) (hs : base ≤ w.heap.size) (hn : n = ps.length)
    (r1 : w.ownsRow base 129 3 v n cs) (q1 : PCY B (OffY w base v) w cs ps) (h2 : PnY B (OffY w base v) w nv ns) (hg : w.grownBy w' v.ownBlock)
    (hown : w'.ownsRow base 129 3 (.slice (some ⟨g, 0, none⟩) (n + 1) cap) (n + 1) (cs ++ [nv, .bool r, .func fn p q])) (hat : v.ownBlock = some g ∨ w.heap.size ≤ g) :
    LstY B w' base (.slice (some ⟨g, 0, none⟩) (n + 1) cap) (ps ++ [ns]) ∧ Below base w w' := by
  subst hn
  have hbl : Below base w w' := ⟨hg.os, hg.tape, hg.output, hg.size, fun i hi => hg.block i (by omega) fun e => by
    have := (r1.lt i e.symm).1
    omega⟩
  have hO : SameOn (OffY w base v) w w' := fun b hb => hg.block b hb.2.1 (fun e => hb.2.2 e.symm)
  have hM : ∀ b, OffY w base v b → OffY w' base (.slice (some ⟨g, 0, none⟩) (ps.length + 1) cap) b := fun b hb => ⟨hb.1, Nat.lt_of_lt_of_le hb.2.1 hg.size, fun e => by
    have e' : g = b := by simpa [Value.ownBlock] using e
    rcases hat with h | h
    · exact hb.2.2 (by rw [h, e'])
    · have := hb.2.1; omega⟩
  refine ⟨⟨_, by rw [List.length_append]; exact hown, fun i hi => ?_⟩, hbl⟩
  have hl := r1.1
  rw [List.length_append, List.length_singleton] at hi
  by_cases e : i < ps.length
  · obtain ⟨c0, r, fn, p, q, e0, e1, e2, e3⟩ := q1 i e
    rw [List.getElem_append_left e]
    refine ⟨c0, r, fn, p, q, ?_, ?_, ?_, (e3.keep hO (hbl.on hB)).mono hM⟩
    all_goals (rw [List.getElem?_append_left (by omega)]; assumption)
  · have ei : i = ps.length := by omega
    subst ei
    rw [List.getElem_append_right (by omega)]
    refine ⟨nv, r, fn, p, q, ?_, ?_, ?_, by simpa using (h2.keep hO (hbl.on hB)).mono hM⟩
    · rw [List.getElem?_append_right (by omega), hl]; simp
    · rw [List.getElem?_append_right (by omega), hl, show ps.length * 3 + 1 - ps.length * 3 = 1 by omega]; rfl
    · rw [List.getElem?_append_right (by omega), hl, show ps.length * 3 + 2 - ps.length * 3 = 2 by omega]; simp
theorem LstY.shape {B : Nat → Prop} {w : World} {base : Nat} {v : Value} {ps : List (List Fm)} (h : LstY B w base v ps) : ∃ a c, v = .slice a ps.length c := by
  obtain ⟨cs, h1, -⟩ := h
  rcases h1.2 with ⟨rfl, h0⟩ | ⟨g, cap, cur, rfl, -⟩
  · exact ⟨none, 0, by rw [h0]⟩
  · exact ⟨_, _, rfl⟩
theorem yown4f {w : World} {g : Nat} {e : TypeId} {c0 c1 c2 c3 : Value} (h : Own w g e #[c0, c1, c2, c3]) :
    (w.cell? ⟨g, 0, none⟩ = some c0 ∧ w.cell? ⟨g, 1, none⟩ = some c1 ∧ w.cell? ⟨g, 2, none⟩ = some c2 ∧ w.cell? ⟨g, 3, none⟩ = some c3) ∧ w.frozen? ⟨g, 0, none⟩ = false ∧ w.frozen? ⟨g, 1, none⟩ = false ∧ w.frozen? ⟨g, 2, none⟩ = false ∧ w.frozen? ⟨g, 3, none⟩ = false :=
  ⟨yown4 h, h.frozen 0, h.frozen 1, h.frozen 2, h.frozen 3⟩

theorem either5Y {a b c d : Prop} (h : a ∨ b) (f : a → c) (g : b → d) : c ∨ d := by
  rcases h with h | h
  · exact Or.inl (f h)
  · exact Or.inr (g h)
theorem Tryz.infoPartY : (Tryz.prog.info? 129).map (fun i => (i.zero, i.size, i.bytes)) = some (some (.agg #[.slice none 0 0, .bool false, .nilFunc]), 3, 40) := by kernel_rfl

set_option maxRecDepth 20000 in
set_option maxHeartbeats 2000000 in
theorem put_any (l base : Nat) (ps : List (List Fm)) (ns : List Fm) (B : Nat → Prop) (w : World) (v nv m pe : Value) (oth : Int) (rep r : Bool) (hL : Own w l 118 #[v, .int .i64 oth, .bool rep, pe]) (hP : LstY B w base v ps) (hl : l < base) (hbs : base ≤ w.heap.size)
    (hn : PnY B (OffY w base v) w nv ns) (hB : ∀ b, B b → b < l) (hpl : ps.length ≤ 1048576) (hnl : ns.length ≤ 1048576) (hm : FnV m) :
    Calls Tryz.prog 69 #[.pointer (some ⟨l, 0, none⟩), .agg #[nv, m], .bool r] w fun e w' => e = .returned (.tuple #[]) ∧ (∃ v' oth', Own w' l 118 #[v', .int .i64 oth', .bool (rep || r), pe] ∧ LstY B w' base v' (ps ++ [ns])) ∧ Below l w w' := by
  obtain ⟨va, vc, rfl⟩ := hP.shape
  have HN := hid hn
  obtain ⟨na, nc, rfl, hnc, -⟩ := hn
  obtain ⟨i0, hi, hz0, hz1, hz2⟩ := info_parts Tryz.infoPartY
  have Hi := hid hi
  have Hz0 := hid hz0
  have Hz1 := hid hz1
  have Hz2 := hid hz2
  have HP := hid hP
  have HL := hid hL
  have HR := hid hB
  have HBw : Hid (∀ b, B b → b < w.heap.size) := fun b h => by have := hB b h; omega
  have Hsin := hid (fun w' => singlePart_any na ns.length nc m hm w')
  have Hrep := hid (fun w' (hb : Below w.heap.size w w') => repeatedPart_any ns B (OffY w base (.slice va ps.length vc)) w' (.slice na ns.length nc) m (HN.out.keep (offY_on hb) (hb.on HBw.out)) (fun g h => by have := h.2.1; have := hb.size; omega) (fun b h => by have := HBw.out b h; have := hb.size; omega) hnl hm)
  have Hm := hid hm
  obtain ⟨⟨c0, c1, c2, c3⟩, f0, f1, f2, f3⟩ := yown4f hL
  obtain ⟨⟨d0, d1, d2, d3⟩, -⟩ : ((∀ o, (w.alloc o).cell? ⟨l, 0, none⟩ = _) ∧ (∀ o, (w.alloc o).cell? ⟨l, 1, none⟩ = _) ∧ (∀ o, (w.alloc o).cell? ⟨l, 2, none⟩ = _) ∧ (∀ o, (w.alloc o).cell? ⟨l, 3, none⟩ = _)) ∧ True := ⟨⟨fun o => (yown4f (ownAlloc hL o)).1.1, fun o => (yown4f (ownAlloc hL o)).1.2.1, fun o => (yown4f (ownAlloc hL o)).1.2.2.1, fun o => (yown4f (ownAlloc hL o)).1.2.2.2⟩, trivial⟩
  clear hi hz0 hz1 hz2 hP hL hB
  cases r with
  | true =>
    rcases hm with rfl | ⟨fn, p, q, rfl⟩
    all_goals
      go_enter Tryz.func69, Tryz.ntmps69
      go_wp2_with fail
      go_region_law (first
        | (refine step_append_lies _ (by rfl) _ _ _ (by rfl) base 129 i0 _ 3 40 Tryz.underlying115 Hi.out Hz0.out Hz1.out Hz2.out rfl (by omega) (.slice va ps.length vc) ps.length cs (by rfl) (R1.out.alloc _)
            ⟨w1.heap.size, 0, none⟩ 1 1 [.slice ua ns.length uc, .bool true, .func fn' p' q'] (by rfl) (by rfl) (World.news_of_block (cs := #[.slice ua ns.length uc, .bool true, .func fn' p' q']) (heap_alloc_new _ _)) (by simp [Value.oneCell'])
            (by omega) (by unfold maxLen; omega) (by omega) (by simp; omega) (w1.heap.size + 1) (by simp) ?_
           intro g2 cap2 w4 hown4 hgrow hat hlt4
           have hall := (World.grownBy_alloc w1 _ _).trans hgrow
           have hs4 := hall.size
           have HO4 : Hid (Own w4 l 118 #[.slice va ps.length vc, .int .i64 oth, .bool rep, pe]) := (hall.block l (by omega) (fun e => by have := (R1.out.lt _ e.symm).1; omega)).trans HL1.out
           obtain ⟨⟨h0, h1, h2, h3⟩, z0, z1, z2, z3⟩ := yown4f HO4.out
           have HJ := hid (LstY.snoc (B := B) (ps := ps) (ns := ns) (n := ps.length) (fun b hb => by have := HR.out b hb; omega) (by omega) rfl R1.out R2.out HU.out hall hown4 (either5Y hat (fun e => e) fun e => by omega))
           clear hall hgrow hown4 hat)
        | (go_simp
           go_at_call 79
           refine (Hrep.out _ ((Below.refl _ _).alloc (Nat.le_refl _) _).drew).mono ?_
           rintro e w1 ⟨u, fn', p', q', rfl, hpn, hw⟩
           have HU := hid (hpn.mono (G' := OffY w1 base (.slice va ps.length vc)) (fun g hg => ⟨by have h1 : (World.alloc w _).heap.size ≤ g := hg.1; rw [World.size_alloc] at h1; omega, hg.2, fun e => by
             obtain ⟨cs, r1, -⟩ := HP.out
             have h1 := (r1.lt _ e).2
             have h2 : (World.alloc w _).heap.size ≤ g := hg.1
             rw [World.size_alloc] at h2
             omega⟩))
           obtain ⟨ua, uc, rfl, -⟩ := hpn
           have hs1 := hw.size
           change (World.alloc w _).heap.size ≤ _ at hs1
           rw [World.size_alloc] at hs1
           have hBw1 : Below w.heap.size w w1 := ((Below.refl _ _).alloc (Nat.le_refl _) _).drew.trans (hw.mono (by show w.heap.size ≤ (World.alloc w _).heap.size; simp))
           have HB1 := hid hBw1
           have HL1 := hid (HL.out.keep hBw1 (by omega))
           obtain ⟨⟨e0, e1, e2, e3⟩, y0, y1, y2, y3⟩ := yown4f HL1.out
           have ea0 : ∀ o, (w1.alloc o).cell? ⟨l, 0, none⟩ = some (.slice va ps.length vc) := fun o => (yown4f (ownAlloc HL1.out o)).1.1
           obtain ⟨cs, r1, r2⟩ := HP.out.keep hBw1 HBw.out
           have R1 := hid r1
           have R2 := hid r2
           clear hw hBw1 r1 r2))
      all_goals go_wp2_with fail
      all_goals
        refine bodyPost_ret (v := .tuple #[]) (by simp [results, Tryz.results69, go_sem]) rfl ?_
        have hs := HJ.out.2.size
        refine ⟨rfl, ⟨_, oth, ?_, (HJ.out.1.set (p := ⟨l, 0, none⟩) hl (fun h => by have := HR.out _ h; simp at this) _).set (p := ⟨l, 2, none⟩) hl (fun h => by have := HR.out _ h; simp at this) _⟩, ?_⟩
        · have h := Own.set (Own.set (w := w4) (g := l) (e := 118) (cs := #[.slice va ps.length vc, .int .i64 oth, .bool rep, pe]) HO4.out 0 (.slice (some ⟨g2, 0, none⟩) (ps.length + 1) cap2)) 2 (.bool true)
          rw [Bool.or_true]
          simpa using h
        · exact (((HB1.out.mono (B' := l) (by omega)).trans (HJ.out.2.mono (B' := l) (by omega))).setCell (p := ⟨l, 0, none⟩) (Nat.le_refl _) _).setCell (p := ⟨l, 2, none⟩) (Nat.le_refl _) _
  | false =>
    rcases hm with rfl | ⟨fn, p, q, rfl⟩
    all_goals
      go_enter Tryz.func69, Tryz.ntmps69
      go_wp2_with fail
      go_region_law (first
        | (refine step_append_lies _ (by rfl) _ _ _ (by rfl) base 129 i0 _ 3 40 Tryz.underlying115 Hi.out Hz0.out Hz1.out Hz2.out rfl (by omega) (.slice va ps.length vc) ps.length cs (by rfl) (R1.out.alloc _)
            ⟨w1.heap.size, 0, none⟩ 1 1 [.slice ua ns.length uc, .bool false, .func fn' p' q'] (by rfl) (by rfl) (World.news_of_block (cs := #[.slice ua ns.length uc, .bool false, .func fn' p' q']) (heap_alloc_new _ _)) (by simp [Value.oneCell'])
            (by omega) (by unfold maxLen; omega) (by omega) (by simp; omega) (w1.heap.size + 1) (by simp) ?_
           intro g2 cap2 w4 hown4 hgrow hat hlt4
           have hall := (World.grownBy_alloc w1 _ _).trans hgrow
           have hs4 := hall.size
           have HO4 : Hid (Own w4 l 118 #[.slice va ps.length vc, .int .i64 oth, .bool rep, pe]) := (hall.block l (by omega) (fun e => by have := (R1.out.lt _ e.symm).1; omega)).trans HL1.out
           obtain ⟨⟨h0, h1, h2, h3⟩, z0, z1, z2, z3⟩ := yown4f HO4.out
           have HJ := hid (LstY.snoc (B := B) (ps := ps) (ns := ns) (n := ps.length) (fun b hb => by have := HR.out b hb; omega) (by omega) rfl R1.out R2.out HU.out hall hown4 (either5Y hat (fun e => e) fun e => by omega))
           clear hall hgrow hown4 hat)
        | (go_simp
           go_at_call 80
           refine (Hsin.out _).mono ?_
           rintro e w1 ⟨fn', p', q', rfl, hw⟩
           have HU : Hid (PnY B (OffY w1 base (.slice va ps.length vc)) w1 (.slice na ns.length nc) ns) := (HN.out.keep (offY_on (((Below.refl _ _).alloc (Nat.le_refl _) _).drew.trans (hw.mono (by show w.heap.size ≤ (World.alloc w _).heap.size; simp)))) ((((Below.refl _ _).alloc (Nat.le_refl _) _).drew.trans (hw.mono (by show w.heap.size ≤ (World.alloc w _).heap.size; simp))).on HBw.out)).mono fun g hg => ⟨hg.1, by have h1 := hg.2.1; have h2 := hw.size; change (World.alloc w _).heap.size ≤ _ at h2; rw [World.size_alloc] at h2; omega, hg.2.2⟩
           obtain ⟨ua, hua⟩ : ∃ ua, ua = na := ⟨_, rfl⟩
           obtain ⟨uc, huc⟩ : ∃ uc, uc = nc := ⟨_, rfl⟩
           subst hua huc
           have hs1 := hw.size
           change (World.alloc w _).heap.size ≤ _ at hs1
           rw [World.size_alloc] at hs1
           have hBw1 : Below w.heap.size w w1 := ((Below.refl _ _).alloc (Nat.le_refl _) _).drew.trans (hw.mono (by show w.heap.size ≤ (World.alloc w _).heap.size; simp))
           have HB1 := hid hBw1
           have HL1 := hid (HL.out.keep hBw1 (by omega))
           obtain ⟨⟨e0, e1, e2, e3⟩, y0, y1, y2, y3⟩ := yown4f HL1.out
           have ea0 : ∀ o, (w1.alloc o).cell? ⟨l, 0, none⟩ = some (.slice va ps.length vc) := fun o => (yown4f (ownAlloc HL1.out o)).1.1
           obtain ⟨cs, r1, r2⟩ := HP.out.keep hBw1 HBw.out
           have R1 := hid r1
           have R2 := hid r2
           clear hw hBw1 r1 r2))
      all_goals go_wp2_with fail
      all_goals
        go_end0
        have hs := HJ.out.2.size
        refine ⟨rfl, ⟨_, wrap64 (oth + 1), ?_, (HJ.out.1.set (p := ⟨l, 0, none⟩) hl (fun h => by have := HR.out _ h; simp at this) _).set (p := ⟨l, 1, none⟩) hl (fun h => by have := HR.out _ h; simp at this) _⟩, ?_⟩
        · have h := Own.set (Own.set (w := w4) (g := l) (e := 118) (cs := #[.slice va ps.length vc, .int .i64 oth, .bool rep, pe]) HO4.out 0 (.slice (some ⟨g2, 0, none⟩) (ps.length + 1) cap2)) 1 (.int .i64 (wrap64 (oth + 1)))
          rw [Bool.or_false]
          simpa using h
        · exact (((HB1.out.mono (B' := l) (by omega)).trans (HJ.out.2.mono (B' := l) (by omega))).setCell (p := ⟨l, 0, none⟩) (Nat.le_refl _) _).setCell (p := ⟨l, 1, none⟩) (Nat.le_refl _) _
end Go.Proofs.YthlacjabelpehaaGreatDoor

namespace Go.Proofs.YthlacjabelpehaaGreatDoor
open Go.RowKit Go.Siskin

/-- The cells of names, one behind the other. -/
def cellsN (w : World) (g o n : Nat) : List Value := (List.range n).map fun j => (w.cell? ⟨g, o + j, none⟩).getD (.int .i64 0)
theorem cellsN_get (w : World) (g o n j : Nat) (h : j < n) : (cellsN w g o n)[j]? = some ((w.cell? ⟨g, o + j, none⟩).getD (.int .i64 0)) := by
  unfold cellsN
  rw [List.getElem?_map, List.getElem?_range h]; rfl

theorem NRow.join {B : Nat → Prop} {w w' : World} {base : Nat} {v v' : Value} {ks ns : List Fm} {cs ds : List Value} (hB : ∀ b, B b → b < base) (hs : base ≤ w.heap.size)
    (r1 : w.ownsRow base 88 4 v ks.length cs) (q1 : NCY B w cs ks) (q2 : NCY B w ds ns) (hg : w.grownBy w' v.ownBlock)
    (hown : w'.ownsRow base 88 4 v' (ks.length + ns.length) (cs ++ ds)) : NRow B w' base v' (ks ++ ns) ∧ Below base w w' := by
  have hbl : Below base w w' := ⟨hg.os, hg.tape, hg.output, hg.size, fun i hi => hg.block i (by omega) fun e => by
    have := (r1.lt i e.symm).1
    omega⟩
  refine ⟨⟨_, by rw [List.length_append]; exact hown, fun i hi => ?_⟩, hbl⟩
  have hl := r1.1
  rw [List.length_append] at hi
  by_cases e : i < ks.length
  · obtain ⟨c, d, e0, e1, e2, e3, e4⟩ := q1 i e
    rw [List.getElem_append_left e]
    refine ⟨c, d, ?_, ?_, ?_, ?_, e4.keep (hbl.on hB)⟩
    all_goals (rw [List.getElem?_append_left (by omega)]; assumption)
  · obtain ⟨c, d, e0, e1, e2, e3, e4⟩ := q2 (i - ks.length) (by omega)
    rw [List.getElem_append_right (by omega)]
    refine ⟨c, d, ?_, ?_, ?_, ?_, e4.keep (hbl.on hB)⟩
    · rw [List.getElem?_append_right (by omega), hl, show i * 4 - ks.length * 4 = (i - ks.length) * 4 by omega]; exact e0
    · rw [List.getElem?_append_right (by omega), hl, show i * 4 + 1 - ks.length * 4 = (i - ks.length) * 4 + 1 by omega]; exact e1
    · rw [List.getElem?_append_right (by omega), hl, show i * 4 + 2 - ks.length * 4 = (i - ks.length) * 4 + 2 by omega]; exact e2
    · rw [List.getElem?_append_right (by omega), hl, show i * 4 + 3 - ks.length * 4 = (i - ks.length) * 4 + 3 by omega]; exact e3

theorem NRow.shape {B : Nat → Prop} {w : World} {base : Nat} {v : Value} {ks : List Fm} (h : NRow B w base v ks) : ∃ a c, v = .slice a ks.length c := by
  obtain ⟨cs, h1, -⟩ := h
  rcases h1.2 with ⟨rfl, h0⟩ | ⟨g, cap, cur, rfl, -⟩
  · exact ⟨none, 0, by rw [h0]⟩
  · exact ⟨_, _, rfl⟩

/-- At the operation: names behind names. -/
theorem wpList_append_names {B G : Nat → Prop} (w : World) {ops : Array Oper} {rest : List Oper} {o : Oper} {a : Act} {Q : Exit → Act → World → Prop} (hgd : o.guard = none) (s x : Operand)
    (ho : o.op = .call { callee := .builtin .append, args := #[s, x], argTypes := #[43, 43] })
    (base : Nat) (v sv : Value) (ks ns : List Fm) (hs : a.eval s = v) (hown : NRow B w base v ks) (hx : a.eval x = sv) (hsrc : PnY B G w sv ns) (hB : ∀ b, B b → b < base) (hbase : base ≤ w.heap.size) (hlen : ks.length + ns.length ≤ 2097152)
    (h : ∀ ua m uc w', NRow B w' base (.slice ua m uc) (ks ++ ns) → Below base w w' → wpList Tryz.prog ops Q rest (a.put o.dst (.slice ua m uc)) w') : wpList Tryz.prog ops Q (o :: rest) a w := by
  obtain ⟨i0, hi, hz0, hz1, hz2⟩ := info_parts Tryz.infoNameY
  obtain ⟨cs, r1, r2⟩ := hown
  obtain ⟨sa, sc, rfl, hsc, hsrc⟩ := hsrc
  rcases hsrc with ⟨rfl, rfl, rfl⟩ | ⟨g, o', rfl, -, hc⟩
  · refine wpList_append_own_none hgd s x _ ho base 88 i0 4 Tryz.underlying43 hi v ks.length cs hs r1 hx ?_
    obtain ⟨ua, uc, rfl⟩ := NRow.shape ⟨cs, r1, r2⟩
    exact h ua ks.length uc w (by rw [List.append_nil]; exact ⟨cs, r1, r2⟩) (Below.refl _ _)
  · have hcell : ∀ j, j < ns.length * 4 → ∃ u, w.cell? ⟨g, o' + j, none⟩ = some u ∧ u.oneCell' = true := fun j hj => by
      obtain ⟨c2, d, h0, h1, h2, h3, c2a, c2c, rfl, -⟩ := hc (j / 4) (by omega)
      have hj4 : j % 4 = 0 ∨ j % 4 = 1 ∨ j % 4 = 2 ∨ j % 4 = 3 := by omega
      rcases hj4 with e | e | e | e
      · exact ⟨_, by rw [show o' + j = o' + j / 4 * 4 by omega]; exact h0, rfl⟩
      · exact ⟨_, by rw [show o' + j = o' + j / 4 * 4 + 1 by omega]; exact h1, rfl⟩
      · exact ⟨_, by rw [show o' + j = o' + j / 4 * 4 + 2 by omega]; exact h2, rfl⟩
      · exact ⟨_, by rw [show o' + j = o' + j / 4 * 4 + 3 by omega]; exact h3, rfl⟩
    have hlenN : (cellsN w g o' (ns.length * 4)).length = ns.length * 4 := by unfold cellsN; simp
    refine wpList_append_own_at w hgd s x _ ho base 88 i0 _ 4 56 Tryz.underlying43 hi hz0 hz1 hz2 rfl (by decide) v ks.length cs hs r1 ⟨g, o', none⟩ ns.length sc (cellsN w g o' (ns.length * 4)) hx hlenN (fun j u hj => ?_) (fun u hu => ?_) (by unfold maxLen; omega) (by omega) hbase ?_
    · have hl : j < ns.length * 4 := by rw [← hlenN]; exact (List.getElem?_eq_some_iff.1 hj).1
      obtain ⟨u', h1, -⟩ := hcell j hl
      rw [cellsN_get _ _ _ _ _ hl, h1] at hj
      simp only [Option.getD_some, Option.some.injEq] at hj
      subst hj
      unfold Addr.add
      split
      · rename_i e; subst e; exact h1
      · exact h1
    · obtain ⟨j, hl, hj⟩ := List.getElem_of_mem hu
      rw [hlenN] at hl
      obtain ⟨u', h1, h2⟩ := hcell j hl
      have h3 := cellsN_get w g o' _ j hl
      rw [h1, List.getElem?_eq_getElem (by rw [hlenN]; exact hl), hj] at h3
      simp only [Option.getD_some, Option.some.injEq] at h3
      subst h3
      exact h2
    · intro v' w' hown' hg _ _
      have hq2 : NCY B w (cellsN w g o' (ns.length * 4)) ns := fun i hi => by
        obtain ⟨c2, d, h0, h1, h2, h3, h4⟩ := hc i hi
        refine ⟨c2, d, ?_, ?_, ?_, ?_, h4⟩
        · rw [cellsN_get _ _ _ _ _ (by omega), h0]; rfl
        · rw [cellsN_get _ _ _ _ _ (by omega), ← Nat.add_assoc, h1]; rfl
        · rw [cellsN_get _ _ _ _ _ (by omega), ← Nat.add_assoc, h2]; rfl
        · rw [cellsN_get _ _ _ _ _ (by omega), ← Nat.add_assoc, h3]; rfl
      have hj := NRow.join hB hbase r1 r2 hq2 hg hown'
      obtain ⟨ua, uc, rfl⟩ := hj.1.shape
      exact h ua _ uc w' hj.1 hj.2
end Go.Proofs.YthlacjabelpehaaGreatDoor

namespace Go.Proofs.YthlacjabelpehaaGreatDoor
open Go.RowKit Go.Siskin

theorem LstY.get {B : Nat → Prop} {w : World} {base : Nat} {a : Option Addr} {n c : Nat} {ps : List (List Fm)} (h : LstY B w base (.slice a n c) ps) : ∀ i (hi : i < ps.length), ∃ g c0 r fn p q, a = some ⟨g, 0, none⟩ ∧ w.cell? ⟨g, i * 3, none⟩ = some c0 ∧ w.cell? ⟨g, i * 3 + 1, none⟩ = some (.bool r) ∧ w.cell? ⟨g, i * 3 + 2, none⟩ = some (.func fn p q) ∧ PnY B (OffY w base (.slice a n c)) w c0 ps[i] := fun i hi => by
  obtain ⟨cs, h1, h2⟩ := h
  rcases h1.2 with ⟨-, h0⟩ | ⟨g, cap, cur, e, hb, hg, hc, -⟩
  · omega
  · cases e
    obtain ⟨c0, r, fn, p, q, e0, e1, e2, e3⟩ := h2 i hi
    refine ⟨g, c0, r, fn, p, q, rfl, ?_, ?_, ?_, e3⟩
    · rw [h1.cellAt _ (by omega)]; exact e0
    · rw [h1.cellAt _ (by omega)]; exact e1
    · rw [h1.cellAt _ (by omega)]; exact e2
theorem flat_take (ps : List (List Fm)) (k : Nat) (h : k < ps.length) : (ps.take (k + 1)).flatten = (ps.take k).flatten ++ ps[k] := by
  rw [List.take_succ_eq_append_getElem h, List.flatten_append]; simp
theorem flat_len (ps : List (List Fm)) (k : Nat) (h : k < ps.length) : (ps.take k).flatten.length + ps[k].length ≤ ps.flatten.length := by
  have h1 : ps.flatten = (ps.take (k + 1)).flatten ++ (ps.drop (k + 1)).flatten := by rw [← List.flatten_append, List.take_append_drop]
  rw [h1, flat_take ps k h, List.length_append, List.length_append]; omega

/-- The end of a list: none, or one with names. -/
def EndY (B G : Nat → Prop) (w : World) (pe : Value) (es : List Fm) : Prop :=
  (pe = .pointer none ∧ es = []) ∨ ∃ eb ev em, pe = .pointer (some ⟨eb, 0, none⟩) ∧ Own w eb 47 #[ev, em] ∧ PnY B G w ev es

set_option maxRecDepth 20000 in
set_option maxHeartbeats 2000000 in
theorem names_any (l base : Nat) (ps : List (List Fm)) (es : List Fm) (B G : Nat → Prop) (w : World) (v pe : Value) (oth : Int) (rep : Bool) (hL : Own w l 118 #[v, .int .i64 oth, .bool rep, pe]) (hP : LstY B w base v ps)
    (hE : EndY B G w pe es) (hG : ∀ g, G g → g < w.heap.size) (hB : ∀ b, B b → b < w.heap.size) (hpl : ps.length ≤ 1048576) (hnl : (ps.flatten ++ es).length ≤ 1048576) :
    Calls Tryz.prog 71 #[.pointer (some ⟨l, 0, none⟩)] w fun e w' => ∃ u, e = .returned u ∧ PnY B (Fresh w w') w' u (ps.flatten ++ es) ∧ Below w.heap.size w w' := by
  obtain ⟨va, vc, rfl⟩ := hP.shape
  have HP := hid hP
  have HL := hid hL
  have HR := hid hB
  rw [List.length_append] at hnl
  have HGet : Hid (∀ w', Below w.heap.size w w' → ∀ i (hi : i < ps.length), ∃ g c0 r fn p q, va = some ⟨g, 0, none⟩ ∧ w'.cell? ⟨g, i * 3, none⟩ = some c0 ∧ w'.cell? ⟨g, i * 3 + 1, none⟩ = some (.bool r) ∧ w'.cell? ⟨g, i * 3 + 2, none⟩ = some (.func fn p q) ∧ PnY B (OffY w' base (.slice va ps.length vc)) w' c0 ps[i]) := fun w' hb i hi => (HP.out.keep hb HR.out).get i hi
  obtain ⟨⟨c0, c1, c2, c3⟩, -⟩ := yown4f hL
  have HE := hid hE
  clear hP hL hB
  go_enter Tryz.func71, Tryz.ntmps71
  go_wp2_with fail
  go_loopw [3, 11] (fun u i wr => ∃ k : Nat, k ≤ ps.length ∧ i = .int .i64 k ∧ Hid (NRow B wr w.heap.size u (ps.take k).flatten) ∧ Hid (Below w.heap.size w wr)) (fun _ i _ => ps.length - (intOf i).toNat)
  case atStart => exact ⟨0, Nat.zero_le _, rfl, NRow.nil _ _ _, Below.refl _ _⟩
  case round =>
    obtain ⟨k, hk, rfl, HQ, HB⟩ := hrel
    by_cases hlt : k < ps.length
    · obtain ⟨g', d0, r, fn, p, q, hab, g0, g1, g2, h2⟩ := HGet.out _ HB.out k hlt
      subst hab
      have hsz := HB.out.size
      have HBs : Hid (∀ b, B b → b < wr.heap.size) := fun b h => by have h1 := HR.out b h; omega
      have HI := hid h2
      have hfl := flat_len ps k hlt
      obtain ⟨na, nc, rfl, -⟩ := h2
      go_wp2_with (at_builtin; (refine wpList_append_names (B := B) (G := OffY wr base (.slice (some ⟨g', 0, none⟩) ps.length vc)) _ rfl _ _ rfl w.heap.size _ _ (ps.take k).flatten ps[k] rfl (HQ.out.keep ((Below.refl _ _).alloc (Nat.le_refl _) _) HBs.out) rfl (HI.out.keep (offY_on ((Below.refl _ _).alloc (Nat.le_refl _) _)) (((Below.refl _ _).alloc (Nat.le_refl _) _).on HBs.out)) HR.out (by simp; omega) (by omega) ?_; intro ua um uc w4 hn4 hb4))
      have hs4 := hb4.size
      refine ⟨⟨k + 1, by omega, by go_num, ?_, (HB.out.alloc (by omega) _).trans hb4⟩, by simp [intOf]; omega⟩
      rw [flat_take ps k hlt]
      exact hn4
    · have hkk : k = ps.length := by omega
      rw [hkk, List.take_length] at HQ
      have hsz := HB.out.size
      obtain ⟨ua, uc, rfl⟩ := HQ.out.shape
      obtain ⟨ul, hul⟩ : ∃ ul, ul = ps.flatten.length := ⟨_, rfl⟩
      rw [← hul] at HQ ⊢
      have HL1 := hid (HL.out.keep HB.out HL.out.lt)
      obtain ⟨⟨c0, c1, c2, c3⟩, -⟩ := yown4f HL1.out
      rcases HE.out with ⟨rfl, rfl⟩ | ⟨eb, ev, em, rfl, hO, hev⟩
      · go_wp2_with fail
        go_ret
        refine ⟨_, rfl, ?_, HB.out⟩
        rw [List.append_nil]
        exact HQ.out.pn
      · have HO := hid (hO.keep HB.out hO.lt)
        obtain ⟨x0, x1, -⟩ := yown2 HO.out
        have HEV := hid (hev.keep (HB.out.on hG) (HB.out.on HR.out))
        obtain ⟨ea, ec, rfl, -⟩ := hev
        clear hO
        go_wp2_with (at_builtin; (refine wpList_append_names (B := B) (G := G) _ rfl _ _ rfl w.heap.size _ _ ps.flatten es rfl HQ.out rfl HEV.out HR.out (by omega) (by omega) ?_; intro ya ym yc w4 hn4 hb4))
        go_ret
        exact ⟨_, rfl, hn4.pn, HB.out.trans hb4⟩
end Go.Proofs.YthlacjabelpehaaGreatDoor

namespace Go.Proofs.YthlacjabelpehaaGreatDoor
open Go.RowKit Go.Siskin

/-- A list without parts. -/
def emptyI : Im → Bool
  | ⟨k, _, _, _, ps, _⟩ => (k == 3) && (ps.length == 0)
theorem emptyI_id (t : ByteArray) (sc : List Int) (fr : Int) : emptyI (.id t sc fr) = false := by simp [emptyI, Im.id]
theorem emptyI_atom (t : ByteArray) : emptyI (.atom t) = false := by simp [emptyI, Im.atom]
theorem emptyI_list (ps : List Im) : emptyI (.list ps) = (ps.length == 0) := by simp [emptyI, Im.list]
theorem emptyI_dots (ps : List Im) (l : Im) : emptyI (.dots ps l) = false := by simp [emptyI, Im.dots]

/-- The names of a list's parts: each is asked whether it is dots, and for its own names. -/
def goP : List (Bool × Option (List Fm)) → Bool → Option (List Fm)
  | [], _ => some []
  | (_, none) :: _, _ => none
  | [(_, some ns)], _ => some ns
  | (_, some ns) :: (true, _) :: r, rep => if rep = true then none else (goP r true).map (ns ++ ·)
  | (_, some ns) :: (false, x) :: r, rep => (goP ((false, x) :: r) rep).map (ns ++ ·)
def endP (ns : List Fm) : List (Bool × Option (List Fm)) → Option (List Fm)
  | [] => some ns
  | (true, _) :: _ => some ns
  | (false, none) :: _ => none
  | (false, some e) :: _ => some (ns ++ e)
def listP (ps es : List (Bool × Option (List Fm))) : Option (List Fm) :=
  match goP ps false with
  | none => none
  | some ns => endP ns es
/-- The names of a pattern; none, if it is not ok. -/
def pnI (K : List (List UInt8)) : Im → Option (List Fm)
  | ⟨k, t, sc, fr, ps, es⟩ => if k = 1 then (if (t.toList == [46, 46, 46]) = true then none else some (wnF K ⟨1, t, sc, fr, []⟩)) else if k = 2 then some [] else listP (ps.map fun p => (wordI p [46, 46, 46], pnI K p)) (es.map fun p => (emptyI p, pnI K p))
abbrev dI (K : List (List UInt8)) (p : Im) : Bool × Option (List Fm) := (wordI p [46, 46, 46], pnI K p)
abbrev eI (K : List (List UInt8)) (p : Im) : Bool × Option (List Fm) := (emptyI p, pnI K p)
theorem pnI_id (K : List (List UInt8)) (t : ByteArray) (sc : List Int) (fr : Int) : pnI K (.id t sc fr) = if (t.toList == [46, 46, 46]) = true then none else some (wnF K ⟨1, t, sc, fr, []⟩) := by unfold Im.id; rw [pnI]; rfl
theorem pnI_atom (K : List (List UInt8)) (t : ByteArray) : pnI K (.atom t) = some [] := by unfold Im.atom; rw [pnI]; rfl
theorem pnI_list (K : List (List UInt8)) (ps : List Im) : pnI K (.list ps) = listP (ps.map (dI K)) [] := by unfold Im.list; rw [pnI]; rfl
theorem pnI_dots (K : List (List UInt8)) (ps : List Im) (l : Im) : pnI K (.dots ps l) = listP (ps.map (dI K)) [eI K l] := by unfold Im.dots; rw [pnI]; rfl

/-- All identifiers within have good keys. -/
def GoodP : Im → Prop
  | ⟨k, t, sc, fr, ps, es⟩ => (k = 1 → GoodI ⟨1, t, sc, fr, []⟩) ∧ (∀ (i : Nat) (hi : i < ps.length), (have := List.sizeOf_lt_of_mem (List.getElem_mem hi); GoodP ps[i])) ∧ ∀ (i : Nat) (hi : i < es.length), (have := List.sizeOf_lt_of_mem (List.getElem_mem hi); GoodP es[i])
theorem goodP_id (t : ByteArray) (sc : List Int) (fr : Int) (h : GoodP (.id t sc fr)) : GoodI ⟨1, t, sc, fr, []⟩ := by
  unfold Im.id at h; rw [GoodP] at h; exact h.1 rfl
theorem goodP_list (ps : List Im) (h : GoodP (.list ps)) : ∀ p ∈ ps, GoodP p := by
  unfold Im.list at h; rw [GoodP] at h
  intro p hp
  obtain ⟨i, hi, rfl⟩ := List.getElem_of_mem hp
  exact h.2.1 i hi
theorem goodP_dots (ps : List Im) (l : Im) (h : GoodP (.dots ps l)) : (∀ p ∈ ps, GoodP p) ∧ GoodP l := by
  unfold Im.dots at h; rw [GoodP] at h
  refine ⟨fun p hp => ?_, h.2.2 0 (by simp)⟩
  obtain ⟨i, hi, rfl⟩ := List.getElem_of_mem hp
  exact h.2.1 i hi

@[go_sem] theorem asL_id (v : Value) (w : World) : (Instr.typeAssert (.iface 73 v) 54 102 true).run Tryz.prog w = .ok (.tuple #[.agg #[.slice none 0 0], .bool false]) w := by kernel_rfl
@[go_sem] theorem asL_atom (v : Value) (w : World) : (Instr.typeAssert (.iface 85 v) 54 102 true).run Tryz.prog w = .ok (.tuple #[.agg #[.slice none 0 0], .bool false]) w := by kernel_rfl
@[go_sem] theorem asL_list (v : Value) (w : World) : (Instr.typeAssert (.iface 102 v) 54 102 true).run Tryz.prog w = .ok (.tuple #[v, .bool true]) w := by kernel_rfl
@[go_sem] theorem asL_dots (v : Value) (w : World) : (Instr.typeAssert (.iface 104 v) 54 102 true).run Tryz.prog w = .ok (.tuple #[.agg #[.slice none 0 0], .bool false]) w := by kernel_rfl
@[go_sem] theorem asA_atom (v : Value) (w : World) : (Instr.typeAssert (.iface 85 v) 54 85 true).run Tryz.prog w = .ok (.tuple #[v, .bool true]) w := by kernel_rfl
@[go_sem] theorem asA_list (v : Value) (w : World) : (Instr.typeAssert (.iface 102 v) 54 85 true).run Tryz.prog w = .ok (.tuple #[.agg #[.string ⟨#[]⟩], .bool false]) w := by kernel_rfl
@[go_sem] theorem asA_dots (v : Value) (w : World) : (Instr.typeAssert (.iface 104 v) 54 85 true).run Tryz.prog w = .ok (.tuple #[.agg #[.string ⟨#[]⟩], .bool false]) w := by kernel_rfl

set_option maxRecDepth 20000 in
set_option maxHeartbeats 1000000 in
theorem isEmptyList_any (p : Im) (R : Nat → Prop) (w : World) (v : Value) (hA : InAt R w p v) :
    Calls Tryz.prog 70 #[v] w fun e w' => e = .returned (.bool (emptyI p)) ∧ Below w.heap.size w w' := by
  rcases (InAt_kinds _ _ _ _).1 hA with ⟨t, sc, fr, rfl, c2, rfl, ht, h2⟩ | ⟨t, rfl, rfl, ht⟩ | ⟨ps, rfl, a, cap, rfl, hpl, -⟩ | ⟨ps, l, rfl, a, cap, e, rfl, -, -, he⟩
  · obtain ⟨a2, k2, rfl, -⟩ := h2
    rw [emptyI_id]
    clear hA
    go_enter Tryz.func70, Tryz.ntmps70
    go_wp2_with fail
    go_ret
    exact ⟨rfl, (Below.refl _ _).alloc (Nat.le_refl _) _⟩
  · rw [emptyI_atom]
    clear hA
    go_enter Tryz.func70, Tryz.ntmps70
    go_wp2_with fail
    go_ret
    exact ⟨rfl, (Below.refl _ _).alloc (Nat.le_refl _) _⟩
  · rw [emptyI_list]
    clear hA
    by_cases h0 : ps.length = 0
    · have h1 : (ps.length == 0) = true := by simpa using h0
      rw [h1, h0]
      clear h1 h0 hpl
      go_enter Tryz.func70, Tryz.ntmps70
      go_wp2_with fail
      go_ret
      exact ⟨rfl, (Below.refl _ _).alloc (Nat.le_refl _) _⟩
    · have h1 : (ps.length == 0) = false := by simpa using h0
      have h2 : ((ps.length : Int) == 0) = false := by simpa using h0
      rw [h1]
      obtain ⟨n, hn⟩ : ∃ n, n = ps.length := ⟨_, rfl⟩
      rw [← hn] at h2 ⊢
      clear h1 h0 hpl hn
      go_enter Tryz.func70, Tryz.ntmps70
      go_wp2_with fail
      go_ret
      exact ⟨rfl, (Below.refl _ _).alloc (Nat.le_refl _) _⟩
  · rw [emptyI_dots]
    clear hA he
    go_enter Tryz.func70, Tryz.ntmps70
    go_wp2_with fail
    go_ret
    exact ⟨rfl, (Below.refl _ _).alloc (Nat.le_refl _) _⟩

def opName : String := "loop.example/siskin/impl.opened"
theorem mop_list (x : Value) (w : World) : (method 291 102 x opName).run Tryz.prog w = .ok (155, x) w := by kernel_rfl
theorem mop_dots (x : Value) (w : World) : (method 291 104 x opName).run Tryz.prog w = .ok (165, x) w := by kernel_rfl

set_option maxRecDepth 20000 in
set_option maxHeartbeats 1000000 in
theorem openedL_any (a : Option Addr) (n c : Nat) (w : World) :
    Calls Tryz.prog 155 #[.agg #[.slice a n c]] w fun e w' => e = .returned (.tuple #[.slice a n c, .iface 102 (.agg #[.slice none 0 0])]) ∧ Below w.heap.size w w' := by
  go_enter Tryz.func155, Tryz.ntmps155
  go_wp2_with fail
  go_ret2
  exact ⟨rfl, (Below.refl _ _).alloc (Nat.le_refl _) _⟩
set_option maxRecDepth 20000 in
set_option maxHeartbeats 1000000 in
theorem openedD_any (a : Option Addr) (n c : Nat) (t : TypeId) (x : Value) (w : World) :
    Calls Tryz.prog 165 #[.agg #[.slice a n c, .iface t x]] w fun e w' => e = .returned (.tuple #[.slice a n c, .iface t x]) ∧ Below w.heap.size w w' := by
  go_enter Tryz.func165, Tryz.ntmps165
  go_wp2_with fail
  go_quiet (fail)
  go_wp2_with fail
  go_ret2
  have h : Below w.heap.size w (w.alloc (.cells #[.slice a n c, .iface t x] 104)) := (Below.refl _ _).alloc (Nat.le_refl _) _
  exact ⟨rfl, h.os, h.tape, h.output, h.size, h.block⟩
end Go.Proofs.YthlacjabelpehaaGreatDoor
