/- The drawing of binds, l8Binds, and what it needs: l6Dec below ten. Condition: the reader and its bytes lie in memory apart, and it has not picked too often. -/
import Derived.Test.YtbloafjkejkjcaaE2
import Derived.Test.YtbloafjkejkjcaaB0
import Derived.Deep.RegionHeld3
import Derived.Laws.BytesArg
namespace Go.Proofs.Ytbloafjkejkjcaa
open Go.RowKit Go.Siskin

theorem either7 {a b c d : Prop} (h : a ∨ b) (f : a → c) (g : b → d) : c ∨ d := by
  rcases h with h | h
  · exact Or.inl (f h)
  · exact Or.inr (g h)

set_option maxHeartbeats 1000000 in
theorem l6Dec_any (m : Nat) (hm : m < 10) (w : World) :
    Calls Try.prog 19 #[.int .i64 m] w fun e w' => ∃ s : ByteArray, e = .returned (.string s) ∧ s.size = 1 ∧ Below w.heap.size w w' := by
  have h1 : (m : Int) < 10 := by omega
  have hcv : (convert 22 9 (.slice (some ⟨w.heap.size, 0, none⟩) 1 1)).run Try.prog (w.alloc (.cells #[.int .u8 (48 + (m : Int))] 5)) = .ok (.string (ByteArray.empty.push (UInt8.ofNat (48 + (m : Int)).toNat))) (w.alloc (.cells #[.int .u8 (48 + (m : Int))] 5)) := by
    rw [run_convert_bytes_string _ _ _ _ _ _ _ Try.underlying22 Try.underlying5 Try.underlying9]
    exact run_bytesToString (P := Try.prog) (w.alloc (.cells #[.int .u8 (48 + (m : Int))] 5)) ⟨w.heap.size, 0, none⟩ 1 1 [48 + (m : Int)] (by simp [loadCells, loadCellsFrom, go_sem])
  go_enter Try.func19, Try.ntmps19
  go_wp2_with fail
  go_ret
  exact ⟨_, rfl, rfl, (Below.refl _ _).alloc (Nat.le_refl _) _⟩

/-- Cells, side by side, three for each bind. -/
def BCells (S : Nat → Prop) (w : World) (cs : List Value) (ks : List Bd) : Prop := ∀ (i : Nat) (hi : i < ks.length),
  ∃ k0 k1 k2, cs[i * 3]? = some k0 ∧ cs[i * 3 + 1]? = some k1 ∧ cs[i * 3 + 2]? = some k2 ∧ BindAt S w ks[i] k0 k1 k2
theorem BCells.keep {S : Nat → Prop} {w w' : World} {cs : List Value} {ks : List Bd} (h : BCells S w cs ks) (hb : SameOn S w w') : BCells S w' cs ks := fun i hi => by
  obtain ⟨k0, k1, k2, e0, e1, e2, e3⟩ := h i hi
  exact ⟨k0, k1, k2, e0, e1, e2, e3.keep hb⟩
theorem BCells.mono {S S' : Nat → Prop} {w : World} {cs : List Value} {ks : List Bd} (h : BCells S w cs ks) (hb : ∀ b, S b → S' b) : BCells S' w cs ks := fun i hi => by
  obtain ⟨k0, k1, k2, e0, e1, e2, e3⟩ := h i hi
  exact ⟨k0, k1, k2, e0, e1, e2, e3.mono hb⟩
theorem BCells.snoc {S : Nat → Prop} {w : World} {cs : List Value} {ks : List Bd} {c0 c1 c2 : Value} {d : Bd} (h : BCells S w cs ks) (hl : cs.length = ks.length * 3) (hc : BindAt S w d c0 c1 c2) : BCells S w (cs ++ [c0, c1, c2]) (ks ++ [d]) := fun i hi => by
  rw [List.length_append, List.length_singleton] at hi
  by_cases e : i < ks.length
  · obtain ⟨k0, k1, k2, e0, e1, e2, e3⟩ := h i e
    refine ⟨k0, k1, k2, ?_, ?_, ?_, ?_⟩
    · rw [List.getElem?_append_left (by omega)]; exact e0
    · rw [List.getElem?_append_left (by omega)]; exact e1
    · rw [List.getElem?_append_left (by omega)]; exact e2
    · rw [List.getElem_append_left e]; exact e3
  · have hi' : i = ks.length := by omega
    subst hi'
    refine ⟨c0, c1, c2, ?_, ?_, ?_, ?_⟩
    · rw [List.getElem?_append_right (by omega), hl, Nat.sub_self]; rfl
    · rw [List.getElem?_append_right (by omega), hl, show ks.length * 3 + 1 - ks.length * 3 = 1 by omega]; rfl
    · rw [List.getElem?_append_right (by omega), hl, show ks.length * 3 + 2 - ks.length * 3 = 2 by omega]; rfl
    · simpa using hc

/-- A slice of binds that owns its row, from block base on; the scopes lie in S, new blocks too, and not in the row. -/
structure BKids (S : Nat → Prop) (w : World) (base : Nat) (v : Value) (ks : List Bd) : Prop where
  row : ∃ cs, w.ownsRow base 34 3 v ks.length cs ∧ BCells S w cs ks
  off : ∀ g, v.ownBlock = some g → ¬ S g
  low : ∀ i, S i → base ≤ i ∧ i < w.heap.size
theorem BKids.lt {S : Nat → Prop} {w : World} {base : Nat} {v : Value} {ks : List Bd} (h : BKids S w base v ks) {g : Nat} (e : v.ownBlock = some g) : base ≤ g ∧ g < w.heap.size := by
  obtain ⟨⟨cs, r1, -⟩, -, -⟩ := h
  exact r1.lt g e
theorem BKids.keep {S : Nat → Prop} {w w' : World} {base : Nat} {v : Value} {ks : List Bd} (h : BKids S w base v ks) {row : Option Nat} (hg : w.grownBy w' row) (h1 : ∀ g, row = some g → g < base) : BKids S w' base v ks := by
  obtain ⟨⟨cs, r1, r2⟩, ho, hl⟩ := h
  refine ⟨⟨cs, r1.kept hg ?_, r2.keep fun i hi => hg.block i (hl i hi).2 fun e => by have := h1 i e.symm; have := hl i hi; omega⟩, ho, fun i hi => ⟨(hl i hi).1, Nat.lt_of_lt_of_le (hl i hi).2 hg.size⟩⟩
  cases hv : v.ownBlock with
  | none => exact Or.inl rfl
  | some g => exact Or.inr fun e => by have := (r1.lt g hv).1; have := h1 g e.symm; omega
theorem BKids.more {S S' : Nat → Prop} {w : World} {base : Nat} {v : Value} {ks : List Bd} (h : BKids S w base v ks) (h1 : ∀ i, S i → S' i) (h2 : ∀ i, S' i → base ≤ i ∧ i < w.heap.size) (h3 : ∀ g, v.ownBlock = some g → ¬ S' g) : BKids S' w base v ks := by
  obtain ⟨⟨cs, r1, r2⟩, -, -⟩ := h
  exact ⟨⟨cs, r1, r2.mono h1⟩, h3, h2⟩
theorem BKids.snoc {S : Nat → Prop} {w w' : World} {base : Nat} {v v' : Value} {ks : List Bd} (h : BKids S w base v ks) {cs : List Value} (r1 : w.ownsRow base 34 3 v ks.length cs) (r2 : BCells S w cs ks) {d : Bd} {c0 c1 c2 : Value} (hf : BindAt S w d c0 c1 c2)
    (hg : w.grownBy w' v.ownBlock) (hr : w'.ownsRow base 34 3 v' (ks.length + 1) (cs ++ [c0, c1, c2])) (hloc : v'.ownBlock = v.ownBlock ∨ ∃ g, v'.ownBlock = some g ∧ w.heap.size ≤ g) : BKids S w' base v' (ks ++ [d]) := by
  have hs : SameOn S w w' := fun i hi => hg.block i (h.low i hi).2 fun e => h.off i e.symm hi
  refine ⟨⟨_, by rw [List.length_append, List.length_singleton]; exact hr, (r2.snoc (by have := r1.1; omega) hf).keep hs⟩, fun g e hS => ?_, fun i hi => ⟨(h.low i hi).1, Nat.lt_of_lt_of_le (h.low i hi).2 hg.size⟩⟩
  rcases hloc with h1 | ⟨g', h1, h2⟩
  · exact h.off g (by rw [← h1]; exact e) hS
  · rw [h1] at e
    cases e
    have := (h.low _ hS).2
    omega
theorem BKids.binds {S : Nat → Prop} {w : World} {base : Nat} {v : Value} {ks : List Bd} (h : BKids S w base v ks) (hn : ks.length ≤ maxLen) {B : Nat → Prop} (hB : ∀ i, base ≤ i → i < w.heap.size → B i) : BindsAt B w v ks := by
  obtain ⟨⟨cs, r1, r2⟩, -, hl⟩ := h
  have r1' := r1
  rcases r1.2 with ⟨rfl, h0⟩ | ⟨g, cap, cur, rfl, hb, hg, -, -, -, -⟩
  · have : ks = [] := List.length_eq_zero_iff.1 h0
    subst this
    exact ⟨none, 0, rfl, Nat.zero_le _, Or.inl rfl⟩
  · refine ⟨some ⟨g, 0, none⟩, cap, rfl, hn, Or.inr ⟨g, 0, rfl, hB g hb (Array.getElem?_eq_some_iff.1 hg).1, fun i hi => ?_⟩⟩
    obtain ⟨k0, k1, k2, e0, e1, e2, e3⟩ := r2 i hi
    have k := r1'.cells (g := g) rfl
    have q0 := k _ _ e0
    have q1 := k _ _ e1
    have q2 := k _ _ e2
    rw [Go.WideShapes.add_plain] at q0 q1 q2
    exact ⟨k0, k1, k2, q0, q1, q2, e3.mono fun i hi => hB i (hl i hi).1 (hl i hi).2⟩

theorem Try.infoBindE : (Try.prog.info? 34).map (fun i => (i.zero, i.size, i.bytes)) = some (some (.agg #[.string ⟨#[]⟩, .slice none 0 0, .string ⟨#[]⟩]), 3, 56) := by kernel_rfl

set_option maxRecDepth 20000 in
set_option maxHeartbeats 4000000 in
theorem l8Binds_any {R : Nat → Prop} {w : World} {rb n p : Nat} {v : Value} (h : RdAt R w rb n p v) (hp : p ≤ 800000) :
    Calls Try.prog 10 #[.pointer (some ⟨rb, 0, none⟩)] w fun e w' => ∃ (u : Value) (ks : List Bd) (q : Nat), e = .returned u ∧ BindsAt (Fresh w w') w' u ks ∧ ks.length ≤ 5 ∧ Bd.costs ks ≤ 100 ∧ (∀ d ∈ ks, d.name.size = 2) ∧ q ≤ p + 31 ∧ Picked rb v w w' q := by
  have HR := hid h
  have hrb := h.own.lt
  have hRd : Hid (∀ g, w.heap.size ≤ g → ¬ R g ∧ g ≠ rb) := fun g hg => ⟨fun h => by have := HR.out.low g h; omega, by omega⟩
  clear h
  obtain ⟨i0, hi, hz0, hz1, hz2⟩ := info_parts Try.infoBindE
  have Hi := hid hi
  have Hz0 := hid hz0
  have Hz1 := hid hz1
  have Hz2 := hid hz2
  clear hi hz0 hz1 hz2
  go_enter Try.func10, Try.ntmps10
  go_wp2_with fail
  refine (pick_rd (HR.out.alloc _) 6 (by omega) (by omega)).mono ?_
  rintro e w1 ⟨m, hm, rfl, hp1, hz1⟩
  have HR1 := hid ((HR.out.alloc _).picked hp1 (by omega))
  have HP1 := hid ((HR.out.now.below ((Below.refl w.heap.size w).alloc (Nat.le_refl _) _) (Nat.le_refl _) hrb).trans hp1)
  have HK1 : Hid (BKids (fun _ => False) w1 w.heap.size (.slice (some ⟨w.heap.size, 0, none⟩) 0 0) []) :=
    BKids.keep ⟨⟨[], World.ownsRow_made w #[] 0 (Nat.le_refl _) (Nat.zero_le _) (by simp), fun i hi => absurd hi (by simp)⟩, fun _ _ h => h, fun _ h => h.elim⟩ hp1.1 (fun g e => by cases e; exact hrb)
  have hz : w1.heap.size = w.heap.size + 1 := by rw [hz1]; simp
  clear hp1 hz1
  go_wp2_with fail
  go_loopw [3, 4] (fun u i wr => ∃ j : Nat, i = .int .i64 j ∧ ∃ (ks : List Bd) (S : Nat → Prop) (q : Nat), ks.length + j ≤ 5 ∧ Hid (Bd.costs ks ≤ ks.length * 9) ∧ Hid (∀ d ∈ ks, d.name.size = 2) ∧ Hid (q ≤ p + 1 + ks.length * 5) ∧ Hid (BKids S wr w.heap.size u ks) ∧ Hid (RdAt R wr rb n q v) ∧ Hid (Picked rb v w wr q) ∧ w.heap.size ≤ wr.heap.size) (fun _ i _ => (intOf i).toNat)
  case atStart => exact ⟨m, rfl, [], fun _ => False, p + 1, by simp; omega, by show Bd.costs [] ≤ _; simp [Bd.costs], fun d hd => absurd hd (by simp), by show p + 1 ≤ _; simp, HK1, HR1, HP1, by omega⟩
  case round =>
    obtain ⟨j, rfl, ks, S, q, hkl, HCs, HNm, HQ, HK, HD, HP, hws⟩ := hrel
    have hq := HQ.out
    by_cases hj : 0 < j
    · have hj' : (0 : Int) < (j : Int) := by omega
      go_wp2_with fail
      refine (l8Id_any HD.out (by omega)).mono ?_
      rintro e w2 ⟨c0, c1, c2, c3, c4, f, q2, rfl, hf, -, -, hcost, hq2, hp2⟩
      have hs2 := hp2.1.size
      have HK2 := hid ((HK.out.keep hp2.1 (fun g e => by cases e; exact hrb)).more (S' := Reg S wr w2) (fun i hi => Or.inl hi) (fun i hi => by
        rcases hi with hi | hi
        · have := HK.out.low i hi; omega
        · omega) (fun g e hS => by
        rcases hS with hS | hS
        · exact HK.out.off g e hS
        · have := (HK.out.lt e).2; omega))
      have HD2 := hid (HD.out.picked hp2 (by omega))
      have HP2 := hid (HP.out.trans hp2)
      have HCo := hid (Fm.cost_eq f)
      obtain ⟨rfl, rfl, ht, h2, rfl, h4⟩ := (formAt_iff _ _ _ _ _ _ _ _).1 hf
      have H2 := hid (h2.mono (B' := Reg S wr w2) fun i hi => Or.inr hi)
      obtain ⟨x2, y2, rfl, -⟩ := h2
      obtain ⟨x4, y4, rfl, -⟩ := h4
      clear hf hp2
      go_wp2_with fail
      obtain ⟨W, hW⟩ : ∃ W, W = w2.alloc (.cells #[.int .i64 f.sort, .string f.text, .slice x2 f.scopes.length y2, .int .i64 f.frm, .slice x4 f.kids.length y4] 27) := ⟨_, rfl⟩
      rw [← hW]
      have hO : Own W w2.heap.size 27 #[.int .i64 f.sort, .string f.text, .slice x2 f.scopes.length y2, .int .i64 f.frm, .slice x4 f.kids.length y4] := by rw [hW]; exact own_new _ _ _
      have hWB : Below w2.heap.size w2 W.drew := by rw [hW]; exact ((Below.refl _ _).alloc (Nat.le_refl _) _).drew
      have hWs : W.heap.size = w2.heap.size + 1 := by rw [hW]; simp
      clear hW
      have y1 := hO.cell 1
      have y3 := hO.cell 2
      simp at y1 y3
      have K0 : Hid (W.drew.cell? ⟨w2.heap.size, 1, none⟩ = some (.string f.text) ∧ W.drew.cell? ⟨w2.heap.size, 2, none⟩ = some (.slice x2 f.scopes.length y2)) := ⟨y1, y3⟩
      have HWB := hid hWB
      clear hO hWB
      go_region_held3 (fun w' => w'.cell? ⟨w2.heap.size, 1, none⟩ = some (.string f.text) ∧ w'.cell? ⟨w2.heap.size, 2, none⟩ = some (.slice x2 f.scopes.length y2))
        (first | exact K2.out | exact K1a.out _ | exact K1.out | exact K0.out)
        (first
          | (go_at_call 19
             refine (l6Dec_any j (by omega) W.drew).mono ?_
             rintro e w3 ⟨s, rfl, hs, hw3⟩
             have hs3 : W.heap.size ≤ w3.heap.size := hw3.size
             have K1 : Hid (w3.cell? ⟨w2.heap.size, 1, none⟩ = some (.string f.text) ∧ w3.cell? ⟨w2.heap.size, 2, none⟩ = some (.slice x2 f.scopes.length y2)) :=
               ⟨(hw3.cell (p := ⟨w2.heap.size, 1, none⟩) (by show w2.heap.size < W.heap.size; omega)).trans K0.out.1, (hw3.cell (p := ⟨w2.heap.size, 2, none⟩) (by show w2.heap.size < W.heap.size; omega)).trans K0.out.2⟩
             have K1a : Hid (∀ o, (w3.alloc o).cell? ⟨w2.heap.size, 1, none⟩ = some (.string f.text) ∧ (w3.alloc o).cell? ⟨w2.heap.size, 2, none⟩ = some (.slice x2 f.scopes.length y2)) :=
               fun o => ⟨(World.cell?_of_block (w := w3) (Below.heap_alloc w3 o w2.heap.size (by omega))).trans K1.out.1, (World.cell?_of_block (w := w3) (Below.heap_alloc w3 o w2.heap.size (by omega))).trans K1.out.2⟩
             have HB3 := hid (HWB.out.trans (hw3.mono (by show w2.heap.size ≤ W.heap.size; omega)))
             have HK3 := hid (HK2.out.keep (row := none) ⟨HB3.out.os, HB3.out.tape, HB3.out.output, HB3.out.size, fun i hi _ => HB3.out.block i hi⟩ (fun g e => by cases e))
             have H3 := hid (H2.out.keep (HB3.out.on fun i hi => (HK2.out.low i hi).2))
             obtain ⟨cs, r1, r2⟩ := HK3.out.row
             have R1 := hid r1
             have R2 := hid r2
             clear hw3 r1 r2)
          | (refine step_append_lies _ (by rfl) _ _ _ (by rfl) w.heap.size 34 i0 _ 3 56 Try.underlying23 Hi.out Hz0.out Hz1.out Hz2.out rfl (by omega) _ ks.length cs (by rfl) (R1.out.alloc _)
              ⟨w3.heap.size, 0, none⟩ 1 1 [.string f.text, .slice x2 f.scopes.length y2, .string (⟨#[110]⟩ ++ s)] (by rfl) (by rfl) (World.news_of_block (cs := #[.string f.text, .slice x2 f.scopes.length y2, .string (⟨#[110]⟩ ++ s)]) (heap_alloc_new _ _)) (by simp [Value.oneCell'])
              (by omega) (by unfold maxLen; omega) (by omega) (by simp; omega) (w3.heap.size + 1) (by simp) ?_
             intro g2 cap2 w4 hown4 hgrow hat hlt4
             have hall := (World.grownBy_alloc w3 _ _).trans hgrow
             have HA := hid hall
             have K2 : Hid (w4.cell? ⟨w2.heap.size, 1, none⟩ = some (.string f.text) ∧ w4.cell? ⟨w2.heap.size, 2, none⟩ = some (.slice x2 f.scopes.length y2)) :=
               ⟨(hall.cell_far ⟨w2.heap.size, 1, none⟩ (by show w2.heap.size < _; omega) (fun e => by have := (HK2.out.lt e.symm).2; simp at this)).trans K1.out.1, (hall.cell_far ⟨w2.heap.size, 2, none⟩ (by show w2.heap.size < _; omega) (fun e => by have := (HK2.out.lt e.symm).2; simp at this)).trans K1.out.2⟩
             have HK4 := hid (HK3.out.snoc (v' := .slice (some ⟨g2, 0, none⟩) (ks.length + 1) cap2) R1.out R2.out (d := ⟨f.text, f.scopes, ⟨#[110]⟩ ++ s⟩) ⟨rfl, ht, H3.out, rfl, by show (ByteArray.mk #[110] ++ s).size ≤ _; rw [ByteArray.size_append, hs]; decide⟩ hall hown4 (either7 hat (fun e => e.symm) fun e => ⟨g2, rfl, by omega⟩))
             clear hall hgrow hown4 hat))
      all_goals go_wp2_with fail
      all_goals
        have hs4 := HA.out.size
        have hnm : (ByteArray.mk #[110] ++ s).size = 2 := by rw [ByteArray.size_append, hs]; rfl
        have hcc : Bd.costs (ks ++ [⟨f.text, f.scopes, ⟨#[110]⟩ ++ s⟩]) = Bd.costs ks + (f.text.size + f.scopes.length + 2) := by unfold Bd.costs; simp [Bd.cost, hs]; rfl
        have hlow : ∀ g, Value.ownBlock u3 = some g → w.heap.size ≤ g := fun g e => (HK3.out.lt e).1
        refine ⟨⟨j - 1, by go_num, ks ++ [⟨f.text, f.scopes, ⟨#[110]⟩ ++ s⟩], Reg S wr w2, q2, by simp; omega, ?_, ?_, ?_, HK4, ?_, ?_, by omega⟩, by simp [intOf]; omega⟩
        · show Bd.costs _ ≤ _
          rw [hcc, List.length_append, List.length_singleton]
          have := HCs.out
          have := HCo.out
          omega
        · intro d hd
          rcases List.mem_append.1 hd with hd | hd
          · exact HNm.out d hd
          · rw [List.mem_singleton.1 hd]; exact hnm
        · show q2 ≤ _
          rw [List.length_append, List.length_singleton]; omega
        · exact (HD2.out.below HB3.out).far HA.out fun g e => hRd.out g (hlow g e)
        · exact (HP2.out.below HB3.out (by omega) hrb).far HA.out (fun g e => hlow g e) hrb
    · have hj0 : j = 0 := by omega
      subst hj0
      go_wp2_with fail
      go_ret
      have := HCs.out
      exact ⟨_, ks, q, rfl, HK.out.binds (by unfold maxLen; omega) fun i h1 h2 => ⟨h1, h2⟩, by omega, by omega, HNm.out, by omega, HP.out⟩

end Go.Proofs.Ytbloafjkejkjcaa
