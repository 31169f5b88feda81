/- The drawing of an identifier, l8Id, and what it needs: of, l1Open. Condition: the reader and its bytes lie in memory apart, and it has not picked too often. -/
import Derived.Test.YtbloafjkejkjcaaE1
import Derived.Maps.AppendAt
import Derived.Deep.AppendLies
namespace Go.Proofs.Ytbloafjkejkjcaa
open Go.RowKit Go.Siskin

/-- A reader: its block apart from the bytes that it reads, not too often used. -/
structure RdAt (R : Nat → Prop) (w : World) (rb n p : Nat) (v : Value) : Prop where
  bytes : BytesAt R w v n
  len : n ≤ 2000
  off : ¬ R rb
  low : ∀ b, R b → b < w.heap.size
  own : Own w rb 51 #[v, .int .i64 p]
  few : p ≤ 1000000

theorem RdAt.picked {R : Nat → Prop} {w w' : World} {rb n p q : Nat} {v : Value} (h : RdAt R w rb n p v) (hp : Picked rb v w w' q) (hq : q ≤ 1000000) : RdAt R w' rb n q v :=
  ⟨h.bytes.keep fun b hb => hp.1.block b (h.low b hb) fun e => h.off (by cases e; exact hb), h.len, h.off, fun b hb => Nat.lt_of_lt_of_le (h.low b hb) hp.1.size, hp.2, hq⟩
theorem Picked.trans {rb : Nat} {v : Value} {a b c : World} {p q : Nat} (h : Picked rb v a b p) (k : Picked rb v b c q) : Picked rb v a c q := ⟨h.1.trans k.1, k.2⟩
/-- Over what is new. -/
theorem Picked.below {rb : Nat} {v : Value} {a b c : World} {p : Nat} (h : Picked rb v a b p) {N : Nat} (k : Below N b c) (hN : a.heap.size ≤ N) (hr : rb < a.heap.size) : Picked rb v a c p :=
  ⟨⟨k.os.trans h.1.os, k.tape.trans h.1.tape, k.output.trans h.1.output, Nat.le_trans h.1.size k.size, fun i hi hne => (k.block i (by omega)).trans (h.1.block i hi hne)⟩, h.2.keep k (by omega)⟩
theorem RdAt.now {R : Nat → Prop} {w : World} {rb n p : Nat} {v : Value} (h : RdAt R w rb n p v) : Picked rb v w w p := ⟨World.grownBy.refl _ _, h.own⟩
theorem RdAt.below {R : Nat → Prop} {w w' : World} {rb n p : Nat} {v : Value} (h : RdAt R w rb n p v) (k : Below w.heap.size w w') : RdAt R w' rb n p v := h.picked (h.now.below k (Nat.le_refl _) h.own.lt) h.few
theorem RdAt.alloc {R : Nat → Prop} {w : World} {rb n p : Nat} {v : Value} (h : RdAt R w rb n p v) (o : Obj) : RdAt R (w.alloc o) rb n p v := h.below ((Below.refl _ _).alloc (Nat.le_refl _) _)

theorem _root_.Go.Siskin.Own.more {w : World} {g : Nat} {e : TypeId} {cs : Array Value} (h : Own w g e cs) (hg : g < w.heap.size) (o : Obj) : Own (w.alloc o) g e cs := h.keep ((Below.refl w.heap.size w).alloc (Nat.le_refl _) _) hg
theorem _root_.Go.Siskin.Own.picked {w w' : World} {g : Nat} {e : TypeId} {cs : Array Value} (h : Own w g e cs) {rb q : Nat} {v : Value} (hp : Picked rb v w w' q) (hg : g ≠ rb) : Own w' g e cs := (hp.1.block g h.lt fun e => hg (by cases e; rfl)).trans h

theorem _root_.Go.Siskin.Own.far {w w' : World} {g : Nat} {e : TypeId} {cs : Array Value} (h : Own w g e cs) {row : Option Nat} (hg : w.grownBy w' row) (hne : some g ≠ row) : Own w' g e cs := (hg.block g h.lt hne).trans h
theorem RdAt.far {R : Nat → Prop} {w w' : World} {rb n p : Nat} {v : Value} (h : RdAt R w rb n p v) {row : Option Nat} (hg : w.grownBy w' row) (hr : ∀ g, row = some g → ¬ R g ∧ g ≠ rb) : RdAt R w' rb n p v :=
  ⟨h.bytes.keep fun b hb => hg.block b (h.low b hb) fun e => (hr b e.symm).1 hb, h.len, h.off, fun b hb => Nat.lt_of_lt_of_le (h.low b hb) hg.size, h.own.far hg fun e => (hr rb e.symm).2 rfl, h.few⟩
theorem Picked.far {rb : Nat} {v : Value} {a b c : World} {p : Nat} (h : Picked rb v a b p) {row : Option Nat} (hg : b.grownBy c row) (hr : ∀ g, row = some g → a.heap.size ≤ g) (hrb : rb < a.heap.size) : Picked rb v a c p :=
  ⟨⟨hg.os.trans h.1.os, hg.tape.trans h.1.tape, hg.output.trans h.1.output, Nat.le_trans h.1.size hg.size, fun i hi hne => (hg.block i (Nat.lt_of_lt_of_le hi h.1.size) fun e => by have := hr i e.symm; omega).trans (h.1.block i hi hne)⟩, h.2.far hg fun e => by have := hr rb e.symm; omega⟩
theorem grown_set (w : World) (g i : Nat) (x : Value) : w.grownBy (w.setCell ⟨g, i, none⟩ x) (some g) :=
  ⟨rfl, rfl, rfl, by simp, fun j _ hne => Below.heap_setCell w _ _ j fun e => hne (congrArg some e)⟩

/-- Five cells, written one by one. -/
def wr5 (w : World) (g : Nat) (c0 c1 c2 c3 c4 : Value) : World := ((((w.setCell ⟨g, 0, none⟩ c0).setCell ⟨g, 1, none⟩ c1).setCell ⟨g, 2, none⟩ c2).setCell ⟨g, 3, none⟩ c3).setCell ⟨g, 4, none⟩ c4
theorem wr5_grown (w : World) (g : Nat) (c0 c1 c2 c3 c4 : Value) : w.grownBy (wr5 w g c0 c1 c2 c3 c4) (some g) :=
  ((((grown_set w g 0 c0).trans (grown_set _ g 1 c1)).trans (grown_set _ g 2 c2)).trans (grown_set _ g 3 c3)).trans (grown_set _ g 4 c4)
theorem wr5_size (w : World) (g : Nat) (c0 c1 c2 c3 c4 : Value) : (wr5 w g c0 c1 c2 c3 c4).heap.size = w.heap.size := by simp [wr5]

theorem pick_rd {R : Nat → Prop} {w : World} {rb n p : Nat} {v : Value} (h : RdAt R w rb n p v) (k : Nat) (hk : 1 ≤ k) (hk2 : k ≤ 1000) :
    Calls Try.prog 12 #[.pointer (some ⟨rb, 0, none⟩), .int .i64 k] w fun e w' => ∃ m : Nat, m < k ∧ e = .returned (.int .i64 m) ∧ Picked rb v w w' (p + 1) ∧ w'.heap.size = w.heap.size :=
  pick_any R w rb n p k v h.bytes h.len h.off h.own h.few hk hk2

set_option maxHeartbeats 1000000 in
theorem of_rd {R : Nat → Prop} {w : World} {rb n p : Nat} {v : Value} (h : RdAt R w rb n p v) (lb : Nat) (ss : List ByteArray) (h1 : 1 ≤ ss.length) (h2 : ss.length ≤ 100) (hl : lb ≠ rb) (hlt : lb < w.heap.size) (hc : ∀ (i : Nat) (hi : i < ss.length), w.cell? ⟨lb, i, none⟩ = some (.string ss[i])) :
    Calls Try.prog 20 #[.pointer (some ⟨rb, 0, none⟩), .slice (some ⟨lb, 0, none⟩) ss.length ss.length] w fun e w' => ∃ s, s ∈ ss ∧ e = .returned (.string s) ∧ Picked rb v w w' (p + 1) ∧ w'.heap.size = w.heap.size := by
  have HR := hid h
  clear h
  go_enter Try.func20, Try.ntmps20
  go_wp2_with (go_at_call 12; refine (pick_rd HR.out ss.length h1 (by omega)).mono ?_; rintro e w1 ⟨m, hm, rfl, hp, hs⟩; have hcell := (World.cell?_of_block (w := w) (hp.1.block lb hlt (fun e => hl (by cases e; rfl))) : w1.cell? ⟨lb, m, none⟩ = _).trans (hc m hm); have HP := hid hp; clear hp)
  go_ret
  exact ⟨ss[m], List.getElem_mem hm, rfl, HP.out, hs⟩

set_option maxHeartbeats 1000000 in
theorem l1Open_any (R : Nat → Prop) (w : World) (n : Nat) (v : Value) (hv : BytesAt R w v n) (hn : n ≤ 1048576) (hR : ∀ b, R b → b < w.heap.size) :
    Calls Try.prog 9 #[v] w fun e w' => ∃ n' v', e = .returned (.pointer (some ⟨w.heap.size, 0, none⟩)) ∧ RdAt R w' w.heap.size n' 0 v' ∧ Below w.heap.size w w' := by
  obtain ⟨a, cap, rfl, ⟨hl1, hl2⟩, h⟩ := hv
  have HR := hid hR
  clear hR
  by_cases hb : 2000 < n
  · rcases h with h | ⟨b, o, rfl, hB, h⟩
    · omega
    have HC := hid h
    have hl3 := hl2
    unfold maxLen at hl3
    clear h
    go_enter Try.func9, Try.ntmps9
    go_wp2_with fail
    go_ret
    refine ⟨2000, .slice (some ⟨b, o, none⟩) 2000 cap, rfl, ⟨BytesAt.keep (w := w) ⟨_, cap, rfl, ⟨by omega, hl2⟩, Or.inr ⟨b, o, rfl, hB, fun i hi => HC.out i (by omega)⟩⟩ ((SameOn.refl _ _).alloc HR.out _), by omega, fun h => by have := HR.out _ h; omega, fun b hb => by have := HR.out b hb; simp; omega, own_new _ _ _, by omega⟩, (Below.refl _ _).alloc (Nat.le_refl _) _⟩
  · have HC := hid h
    clear h
    go_enter Try.func9, Try.ntmps9
    go_wp2_with fail
    go_ret
    refine ⟨n, .slice a n cap, rfl, ⟨BytesAt.keep ⟨a, cap, rfl, ⟨hl1, hl2⟩, HC.out⟩ ((SameOn.refl _ _).alloc HR.out _), by omega, fun h => by have := HR.out _ h; omega, fun b hb => by have := HR.out b hb; simp; omega, own_new _ _ _, by omega⟩, (Below.refl _ _).alloc (Nat.le_refl _) _⟩

theorem row_ints {w : World} {base n : Nat} {v : Value} {xs : List Int} (h : w.ownsRow base 3 1 v n (xs.map (Value.int .i64))) (hn : xs.length ≤ maxLen) {B : Nat → Prop} (hB : ∀ g, base ≤ g → g < w.heap.size → B g) : IntsAt B w v xs := by
  have hl := h.1
  rw [List.length_map] at hl
  rcases h.2 with ⟨rfl, h0⟩ | ⟨g, cap, cur, rfl, hb, hg, -, -, -, -⟩
  · have : xs = [] := List.length_eq_zero_iff.1 (by omega)
    subst this
    exact ⟨none, 0, rfl, Nat.zero_le _, Or.inl rfl⟩
  · refine ⟨some ⟨g, 0, none⟩, cap, by rw [hl, Nat.mul_one], hn, Or.inr ⟨g, 0, rfl, hB g hb (Array.getElem?_eq_some_iff.1 hg).1, fun i hi => ?_⟩⟩
    have k := h.cells (g := g) rfl i (.int .i64 (xs.getD i 0)) (by rw [List.getElem?_map, List.getElem?_eq_getElem hi, List.getD_eq_getElem?_getD, List.getElem?_eq_getElem hi]; rfl)
    rw [Go.WideShapes.add_plain] at k
    exact k

theorem Try.infoIntE : (Try.prog.info? 3).map (fun i => (i.zero, i.size, i.bytes)) = some (some (.int .i64 0), 1, 8) := by kernel_rfl

set_option maxRecDepth 20000 in
set_option maxHeartbeats 2000000 in
theorem l8Id_any {R : Nat → Prop} {w : World} {rb n p : Nat} {v : Value} (h : RdAt R w rb n p v) (hp : p ≤ 900000) :
    Calls Try.prog 11 #[.pointer (some ⟨rb, 0, none⟩)] w fun e w' => ∃ (c0 c1 c2 c3 c4 : Value) (f : Fm) (q : Nat), e = .returned (.agg #[c0, c1, c2, c3, c4]) ∧ FormAt (Fresh w w') w' f c0 c1 c2 c3 c4 ∧ f.sort = 1 ∧ f.kids = [] ∧ f.cost ≤ 7 ∧ q ≤ p + 5 ∧ Picked rb v w w' q := by
  have HR := hid h
  have hrb := h.own.lt
  clear h
  obtain ⟨i0, hi, hz0, hz1, hz2⟩ := info_parts Try.infoIntE
  have Hi := hid hi
  have Hz0 := hid hz0
  have Hz1 := hid hz1
  have Hz2 := hid hz2
  clear hi hz0 hz1 hz2
  go_enter Try.func11, Try.ntmps11
  go_wp2_with fail
  refine (of_rd ((HR.out.alloc _).alloc _) (w.heap.size + 1) [⟨#[97]⟩, ⟨#[98]⟩, ⟨#[99]⟩, ⟨#[101, 108, 115, 101]⟩] (by simp) (by simp) (by omega) (by simp) (fun i hi => by rcases i with _ | _ | _ | _ | i <;> first | (simp; done) | (simp at hi; omega))).mono ?_
  rintro e w1 ⟨s, hs, rfl, hp1, hz1⟩
  have hsz : s.size ≤ 4 := by
    simp only [List.mem_cons, List.not_mem_nil, or_false] at hs
    rcases hs with rfl | rfl | rfl | rfl <;> decide
  have HR1 := hid (((HR.out.alloc _).alloc _).picked hp1 (by omega))
  have HB1 := hid (((own_new w #[.int .i64 0, .string ⟨#[]⟩, .slice none 0 0, .int .i64 0, .slice none 0 0] 27).more (by simp) _).picked hp1 (by omega))
  have HP1 := hid ((HR.out.now.below (((Below.refl w.heap.size w).alloc (Nat.le_refl _) _).alloc (by simp) _) (Nat.le_refl _) hrb).trans hp1)
  simp only [World.size_alloc] at hz1
  clear hs hp1
  go_wp2_with fail
  refine (pick_rd HR1.out 9 (by omega) (by omega)).mono ?_
  rintro e w2 ⟨m, hm, rfl, hp2, hz2⟩
  have HR2 := hid (HR1.out.picked hp2 (by omega))
  have HB2 := hid (HB1.out.picked hp2 (by omega))
  have HP2 := hid (HP1.out.trans hp2)
  have hz : w2.heap.size = w.heap.size + 2 := by omega
  clear hp2 hz1 hz2 HR1 HB1 HP1
  go_wp2_with fail
  go_loopw [4] (fun i wr => ∃ k : Nat, k ≤ 3 ∧ i = .int .i64 k ∧ ∃ (xs : List Int) (ua : Option Addr) (uc : Nat) (q : Nat), xs.length ≤ k ∧ q ≤ p + 2 + k ∧ Hid (wr.ownsRow (w.heap.size + 3) 3 1 (.slice ua xs.length uc) xs.length (xs.map (Value.int .i64))) ∧ Hid (Own wr (w.heap.size + 2) 27 #[.int .i64 1, .string s, .slice ua xs.length uc, .int .i64 m, .slice none 0 0]) ∧ Hid (Own wr w.heap.size 27 #[.int .i64 0, .string ⟨#[]⟩, .slice none 0 0, .int .i64 0, .slice none 0 0]) ∧ Hid (RdAt R wr rb n q v) ∧ Hid (Picked rb v w wr q) ∧ w.heap.size + 3 ≤ wr.heap.size) (fun i _ => 3 - (intOf i).toNat)
  case atStart =>
    refine ⟨0, by omega, rfl, [], none, 0, p + 1 + 1, by simp, by omega, World.ownsRow_nil _ _ _ _, ?_, HB2.out.more (by omega) _, HR2.out.alloc _, HP2.out.below ((Below.refl w.heap.size w2).alloc (by omega) _) (Nat.le_refl _) hrb, by simp; omega⟩
    have h := own_new w2 #[.int .i64 1, .string s, .slice none 0 0, .int .i64 m, .slice none 0 0] 27
    rw [hz] at h
    exact h
  case round =>
    obtain ⟨k, hk, rfl, xs, ua, uc, q, hxl, hq, HU, HF, HB, HD, HP, hws⟩ := hrel
    have f2 := HF.out.cell 2
    have z2 := HF.out.frozen 2
    simp at f2
    by_cases hlt : k < 3
    · go_wp2_with fail
      refine (pick_rd HD.out 3 (by omega) (by omega)).mono ?_
      rintro e w3 ⟨m3, hm3, rfl, hp3, hz3⟩
      have HF3 := hid (HF.out.picked hp3 (by omega))
      have HB3 := hid (HB.out.picked hp3 (by omega))
      have HD3 := hid (HD.out.picked hp3 (by omega))
      have HP3 := hid (HP.out.trans hp3)
      have HU3 := hid (HU.out.kept hp3.1 (by cases hu : (Value.slice ua xs.length uc).ownBlock with | none => exact Or.inl rfl | some g => exact Or.inr fun e => by have := (HU.out.lt g hu).1; simp at e; omega))
      have f3 := HF3.out.cell 2
      have z3 := HF3.out.frozen 2
      simp at f3
      clear f2 z2 hp3 HF HB HD HP HU
      by_cases hm0 : m3 = 0
      · subst hm0
        go_wp2_with (at_builtin; refine wpList_append_lies _ rfl _ _ _ rfl (w.heap.size + 3) 3 i0 (.int .i64 0) 1 8 Try.underlying24 Hi.out Hz0.out Hz1.out Hz2.out rfl (by decide) _ xs.length (xs.map (Value.int .i64)) rfl (HU3.out.alloc _) ⟨wr.heap.size, 0, none⟩ 1 1 [.int .i64 k] rfl rfl (by rw [← hz3]; exact cell_one_new _ _ _) (by simp [Value.oneCell']) (by omega) (by unfold maxLen; omega) (by omega) (by simp; omega) (wr.heap.size + 1) (by simp; omega) ?_; intro gg cc w4 hown' hg hat hgl; have hall := (World.grownBy_alloc w3 _ _).trans hg; have HF4 := hid (HF3.out.far hall (fun e => by have := (HU3.out.lt _ e.symm).1; omega)); have f4 := HF4.out.cell 2; have z4 := HF4.out.frozen 2; simp at f4)
        have hlow : ∀ g, (Value.slice ua xs.length uc).ownBlock = some g → w.heap.size + 3 ≤ g := fun g e => (HU3.out.lt g e).1
        have hlow' : w.heap.size + 3 ≤ gg := (hown'.lt gg rfl).1
        have hs4 := hall.size
        have hgs := grown_set w4 (w.heap.size + 2) 2 (.slice (some ⟨gg, 0, none⟩) (xs.length + 1) cc)
        have hRd : ∀ g, w.heap.size ≤ g → ¬ R g ∧ g ≠ rb := fun g hg => ⟨fun h => by have := HR.out.low g h; omega, by omega⟩
        refine ⟨⟨k + 1, by omega, by go_num, xs ++ [(k : Int)], some ⟨gg, 0, none⟩, cc, q + 1, by simp; omega, by omega, ?_, ?_, ?_, ?_, ?_, by simp; omega⟩, by simp [intOf]; omega⟩
        · have h1 := hown'.kept hgs (Or.inr fun e => by simp [Value.ownBlock] at e; omega)
          show World.ownsRow _ _ _ _ _ _ _
          simpa using h1
        · have h1 := HF4.out.set 2 (.slice (some ⟨gg, 0, none⟩) (xs.length + 1) cc)
          show Own _ _ _ _
          simpa using h1
        · exact (HB3.out.far hall fun e => by have := hlow _ e.symm; omega).far hgs (by simp)
        · exact (HD3.out.far hall fun g e => hRd g (by have := hlow g e; omega)).far hgs fun g e => hRd g (by simp at e; omega)
        · exact (HP3.out.far hall (fun g e => by have := hlow g e; omega) hrb).far hgs (fun g e => by simp at e; omega) hrb
      · have hm0' : ((m3 : Int) == 0) = false := by simp; omega
        go_wp2_with fail
        exact ⟨⟨k + 1, by omega, by go_num, xs, ua, uc, q + 1, by omega, by omega, HU3, HF3, HB3, HD3, HP3, by omega⟩, by simp [intOf]; omega⟩
    · have f0 := HF.out.cell 0
      have f1 := HF.out.cell 1
      have f3 := HF.out.cell 3
      have f4 := HF.out.cell 4
      have b0 := HB.out.cell 0
      have b1 := HB.out.cell 1
      have b2 := HB.out.cell 2
      have b3 := HB.out.cell 3
      have b4 := HB.out.cell 4
      have y0 := HB.out.frozen 0
      have y1 := HB.out.frozen 1
      have y2 := HB.out.frozen 2
      have y3 := HB.out.frozen 3
      have y4 := HB.out.frozen 4
      simp at f0 f1 f3 f4 b0 b1 b2 b3 b4
      go_wp2_with fail
      refine bodyPost_ret (v := .agg #[.int .i64 1, .string s, .slice ua xs.length uc, .int .i64 m, .slice none 0 0]) (by simp [results, Try.results11, go_sem, b0, b1, b2, b3, b4]) rfl ?_
      have hg5 := wr5_grown wr w.heap.size (.int .i64 1) (.string s) (.slice ua xs.length uc) (.int .i64 m) (.slice none 0 0)
      have hsz5 := wr5_size wr w.heap.size (.int .i64 1) (.string s) (.slice ua xs.length uc) (.int .i64 m) (.slice none 0 0)
      refine ⟨_, _, _, _, _, ⟨1, s, xs, m, []⟩, q, rfl, (formAt_iff _ _ _ _ _ _ _ _).2 ⟨rfl, rfl, by unfold maxLen; show s.size ≤ _; omega, ?_, rfl, none, 0, rfl, Nat.zero_le _, Or.inl rfl⟩, rfl, rfl, ?_, by omega, HP.out.far hg5 (fun g e => by cases e; exact Nat.le_refl _) hrb⟩
      · refine row_ints (HU.out.kept hg5 ?_) (by unfold maxLen; show xs.length ≤ _; omega) fun g h1 h2 => ⟨by omega, h2⟩
        cases hu : (Value.slice ua xs.length uc).ownBlock with
        | none => exact Or.inl rfl
        | some g => exact Or.inr fun e => by have := (HU.out.lt g hu).1; simp at e; omega
      · rw [Fm.cost_eq]
        show s.size + xs.length + 0 + Fm.costs [] ≤ 7
        rw [Fm.costs_nil]; omega

end Go.Proofs.Ytbloafjkejkjcaa
