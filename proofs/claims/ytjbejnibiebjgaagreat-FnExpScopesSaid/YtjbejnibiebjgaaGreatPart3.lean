/-
  The model's l1Copy and l1Copies make the same form in new memory. Condition: the form lies in memory as FormAt says, and is not too long.
  The model's l2Take returns the numbers of a list that are not a given one, in new memory. Condition: the slice lies in memory as IntsAt says.
  For the model's l2Put: a part of a slice of ints, and the place of a number among ascending ones.
  The library's slices.Grow of no slice, and slices.Concat of slices of ints, as the program calls them. Condition: the slices lie in memory as IntsAt says.
  The library's slices.Concat of slices of ints. Condition: the slices lie in memory as IntsAt says, side by side in one block.
-/
import Derived.Test.YtjbejnibiebjgaaGreatPart2
import Derived.Lib.AppendZeros
namespace Go.Proofs.YtjbejnibiebjgaaGreat
open Go.RowKit Go.Siskin

/-- 'append(s, u...)' of ints at the operation. -/
theorem wpList_append_ints (w : World) {ops : Array Oper} {rest : List Oper} {o : Oper} {a : Act} {Q : Exit → Act → World → Prop} (hgd : o.guard = none) (s x : Operand)
    (ho : o.op = .call { callee := .builtin .append, args := #[s, x], argTypes := #[23, 23] })
    (base : Nat) (i : TypeInfo) (hi : Tryz.prog.info? 3 = some i) (hz : i.zero = some (.int .i64 0)) (h1 : i.size = 1) (h2 : i.bytes = 8)
    (g0 n cap : Nat) (ys : List Int) (hs : a.eval s = .slice (some ⟨g0, 0, none⟩) n cap) (hown : w.ownsRow base 3 1 (.slice (some ⟨g0, 0, none⟩) n cap) n (ys.map (Value.int .i64))) (B : Nat → Prop) (u : Value) (xs : List Int) (hx : a.eval x = u) (hu : IntsAt B w u xs) (hn : n + xs.length ≤ 1048576 * 2) (hb : base ≤ w.heap.size)
    (h : ∀ g c w', w'.ownsRow base 3 1 (.slice (some ⟨g, 0, none⟩) (n + xs.length) c) (n + xs.length) ((ys ++ xs).map (Value.int .i64)) → w.grownBy w' (some g0) → base ≤ g → wpList Tryz.prog ops Q rest (a.put o.dst (.slice (some ⟨g, 0, none⟩) (n + xs.length) c)) w') :
    wpList Tryz.prog ops Q (o :: rest) a w := by
  refine wpList_plain hgd fun K hK => ?_
  obtain ⟨g, c, w', hr, r1, r2, r3⟩ := run_append_ints w base i o.type hi hz h1 h2 g0 n cap ys hown B u xs hu hn hb
  unfold Oper.wp execOp
  simp only [ho, resolve, invoke, builtin, Sem.run_bind, Sem.run_pure, Result.andThen_ok, List.map_toArray, List.map_cons, List.map_nil, hs, hx, hr]
  exact hK _ _ (h g c w' r1 r2 r3)

/-- The lists of a form that was copied are the call's own, each in a row of its own. -/
def Copied (w w' : World) (f : Fm) (d2 d4 : Value) : Prop := ∃ g c N S, d2 = .slice (some ⟨g, 0, none⟩) f.scopes.length c ∧ w'.ownsRow w.heap.size 3 1 d2 f.scopes.length (f.scopes.map (Value.int .i64)) ∧ g < N ∧ w.heap.size ≤ N ∧ N ≤ w'.heap.size ∧ Kids S w' N d4 f.kids

def CopyForm (n : Nat) : Prop := ∀ f : Fm, f.sz ≤ n → ∀ (B : Nat → Prop) (w : World) (c0 c1 c2 c3 c4 : Value), FormAt B w f c0 c1 c2 c3 c4 → (∀ b, B b → b < w.heap.size) → f.cost ≤ 1048576 →
  Calls Tryz.prog 33 #[.agg #[c0, c1, c2, c3, c4]] w fun e w' => ∃ d0 d1 d2 d3 d4, e = .returned (.agg #[d0, d1, d2, d3, d4]) ∧ FormAt (Fresh w w') w' f d0 d1 d2 d3 d4 ∧ Copied w w' f d2 d4 ∧ Below w.heap.size w w'
def CopyForms (n : Nat) : Prop := ∀ ks : List Fm, Fm.szs ks ≤ n → ∀ (B : Nat → Prop) (w : World) (v : Value), FormsAt B w v ks → (∀ b, B b → b < w.heap.size) → ks.length + Fm.costs ks ≤ 1048576 →
  Calls Tryz.prog 46 #[v] w fun e w' => ∃ u S, e = .returned u ∧ Kids S w' w.heap.size u ks ∧ Below w.heap.size w w'

set_option maxRecDepth 20000 in
set_option maxHeartbeats 2000000 in
theorem copies_of (n : Nat) (ih : CopyForm n) : CopyForms n := by
  intro ks hks B w v hv hB hc
  have HI := hid ih
  have HR := hid hB
  obtain ⟨a, ca, rfl, hla, ha⟩ := hv
  unfold maxLen at hla
  clear ih hB
  obtain ⟨i0, hi, hz0, hz1, hz2⟩ := info_parts Tryz.infoFormE
  have Hi := hid hi
  have Hz0 := hid hz0
  have Hz1 := hid hz1
  have Hz2 := hid hz2
  clear hi hz0 hz1 hz2
  go_enter Tryz.func46, Tryz.ntmps46
  go_wp2_with fail
  go_loopw [3, 4] (fun v i wr => ∃ k : Nat, k ≤ ks.length ∧ i = .int .i64 k ∧ Hid (∃ S, Kids S wr w.heap.size v (ks.take k)) ∧ Hid (Below w.heap.size w wr)) (fun _ i _ => ks.length - (intOf i).toNat)
  case atStart =>
    refine ⟨0, Nat.zero_le _, rfl, ⟨fun _ => False, ⟨[], World.ownsRow_made w #[] 0 (Nat.le_refl _) (Nat.zero_le _) (by simp), fun i hi => absurd hi (by simp)⟩, fun _ _ h => h, fun _ h => h.elim⟩, (Below.refl _ _).alloc (Nat.le_refl _) _⟩
  case round =>
    obtain ⟨k, hk, rfl, HK, HW⟩ := hrel
    obtain ⟨S, hK⟩ := HK.out
    have HK := hid hK
    clear hK
    have hsz := HW.out.size
    by_cases hlt : k < ks.length
    · rcases ha with ha | ⟨ba, oa, rfl, hb, ha⟩
      · subst ha; simp at hlt
      obtain ⟨c0, c1, c2, c3, c4, g0, g1, g2, g3, g4, hf⟩ := RowAt.get ks (RowAt.keep (HW.out.on HR.out) hb ks ha) k hlt
      have HC := hid (HI.out ks[k] (Nat.le_trans (Fm.szs_get ks k hlt) hks) B wr c0 c1 c2 c3 c4 hf (fun b hb => by have := HR.out b hb; omega) (by have := Fm.costs_get ks k hlt; omega))
      obtain ⟨rfl, rfl, -, h2, rfl, h4⟩ := (formAt_iff _ _ _ _ _ _ _ _).1 hf
      obtain ⟨a2, k2, rfl, -⟩ := h2
      obtain ⟨a4, k4, rfl, -⟩ := h4
      have HN := hid (List.take_succ_eq_append_getElem hlt)
      have hbb : ba < wr.heap.size := by have := HR.out ba hb; omega
      clear ha hf
      go_wp2_with fail
      refine HC.out.mono ?_
      rintro e w1 ⟨d0, d1, d2, d3, d4, rfl, hd, -, hw1⟩
      have HD := hid hd
      have hs1 := hw1.size
      have HK1 := hid ((HK.out.below hw1).more (S' := Reg S wr w1) (fun i hi => Or.inl hi) (fun i hi => by
        rcases hi with hi | hi
        · have := HK.out.low i hi; omega
        · omega) (fun g e hS => by
        rcases hS with hS | hS
        · exact HK.out.off g e hS
        · have := (HK.out.lt e).2; omega))
      have HB1 := hid (HW.out.trans (hw1.mono hsz))
      have HF1 := hid (FormAt.mono (B' := Reg S wr w1) (fun i hi => Or.inr hi) _ hd)
      obtain ⟨rfl, rfl, -, h2, rfl, h4⟩ := (formAt_iff _ _ _ _ _ _ _ _).1 hd
      obtain ⟨x2, y2, rfl, -⟩ := h2
      obtain ⟨x4, y4, rfl, -⟩ := h4
      obtain ⟨cs, r1, r2⟩ := HK1.out.row
      rw [List.length_take, Nat.min_eq_left hk] at r1
      have R1 := hid r1
      have R2 := hid r2
      clear hd hw1 r1 r2 HC
      go_wp2_with (at_builtin; refine wpList_append_own_at _ rfl _ _ 24 rfl w.heap.size 26 i0 _ 5 80 Tryz.underlying24 Hi.out Hz0.out Hz1.out Hz2.out rfl (by decide) _ k cs rfl (R1.out.alloc _) ⟨w1.heap.size, 0, none⟩ 1 1 [.int .i64 ks[k].sort, .string ks[k].text, .slice x2 ks[k].scopes.length y2, .int .i64 ks[k].frm, .slice x4 ks[k].kids.length y4] rfl rfl (World.news_of_block (cs := #[.int .i64 ks[k].sort, .string ks[k].text, .slice x2 ks[k].scopes.length y2, .int .i64 ks[k].frm, .slice x4 ks[k].kids.length y4]) (heap_alloc_new _ _)) (by simp [Value.oneCell']) (by unfold maxLen; omega) (by omega) (by simp; omega) ?_; intro v' w2 hown' hg hnil hb')
      have hall := (World.grownBy_alloc w1 _ _).trans hg
      refine ⟨⟨k + 1, by omega, by go_num, ⟨Reg S wr w1, ?_⟩, ?_⟩, by simp [intOf]; omega⟩
      · rw [HN.out]
        refine HK1.out.snoc (by rw [List.length_take, Nat.min_eq_left hk]; exact R1.out) R2.out HF1.out hall (by rw [List.length_take, Nat.min_eq_left hk]; exact hown') ?_
        rcases hb' with h | h
        · exact Or.inl h
        · exact Or.inr ⟨_, h, by simp⟩
      · refine HB1.out.trans ⟨hall.os, hall.tape, hall.output, hall.size, fun i hi => hall.block i (by omega) fun e => ?_⟩
        have := (R1.out.lt i e.symm).1
        omega
    · have hkk : k = ks.length := by omega
      go_wp2_with fail
      go_ret
      rw [hkk, List.take_length] at HK
      exact ⟨_, S, rfl, HK.out, HW.out⟩

set_option maxRecDepth 20000 in
set_option maxHeartbeats 2000000 in
theorem copy_of (n : Nat) (ih : CopyForms n) : CopyForm (n + 1) := by
  intro f hfz B w c0 c1 c2 c3 c4 hA hB hc
  have HI := hid ih
  have HR := hid hB
  have HCo := hid (Fm.cost_eq f)
  have HSz := hid (Fm.sz_kids f)
  obtain ⟨rfl, rfl, ht, h2, rfl, h4⟩ := (formAt_iff _ _ _ _ _ _ _ _).1 hA
  have H2 := hid h2
  have H4 := hid h4
  obtain ⟨a2, k2, rfl, -⟩ := h2
  obtain ⟨a4, k4, rfl, -⟩ := h4
  clear ih hB hA
  obtain ⟨i0, hi, hz0, hz1, hz2⟩ := info_parts Tryz.infoIntE
  have Hi := hid hi
  have Hz0 := hid hz0
  have Hz1 := hid hz1
  have Hz2 := hid hz2
  clear hi hz0 hz1 hz2
  obtain ⟨W, hW⟩ : ∃ W, W = ((w.alloc (.cells #[.int .i64 f.sort, .string f.text, .slice a2 f.scopes.length k2, .int .i64 f.frm, .slice a4 f.kids.length k4] 26)).alloc (.cells #[.int .i64 0, .string ⟨#[]⟩, .slice none 0 0, .int .i64 0, .slice none 0 0] 26)).alloc (.cells #[.int .i64 f.sort, .string f.text, .slice a2 f.scopes.length k2, .int .i64 f.frm, .slice a4 f.kids.length k4] 26) := ⟨_, rfl⟩
  have hWs : W.heap.size = w.heap.size + 3 := by rw [hW]; simp
  have O0 : Hid (Own W w.heap.size 26 #[.int .i64 f.sort, .string f.text, .slice a2 f.scopes.length k2, .int .i64 f.frm, .slice a4 f.kids.length k4]) := by
    show Own _ _ _ _
    rw [hW]; exact ((own_new _ _ _).more (by simp) _).more (by simp; omega) _
  have O1 : Hid (Own W (w.heap.size + 1) 26 #[.int .i64 0, .string ⟨#[]⟩, .slice none 0 0, .int .i64 0, .slice none 0 0]) := by
    show Own _ _ _ _
    have h := own_new (w.alloc (.cells #[.int .i64 f.sort, .string f.text, .slice a2 f.scopes.length k2, .int .i64 f.frm, .slice a4 f.kids.length k4] 26)) #[.int .i64 0, .string ⟨#[]⟩, .slice none 0 0, .int .i64 0, .slice none 0 0] 26
    rw [World.size_alloc] at h
    rw [hW]; exact h.more (by simp) _
  have O2 : Hid (Own W (w.heap.size + 2) 26 #[.int .i64 f.sort, .string f.text, .slice a2 f.scopes.length k2, .int .i64 f.frm, .slice a4 f.kids.length k4]) := by
    show Own _ _ _ _
    have h := own_new ((w.alloc (.cells #[.int .i64 f.sort, .string f.text, .slice a2 f.scopes.length k2, .int .i64 f.frm, .slice a4 f.kids.length k4] 26)).alloc (.cells #[.int .i64 0, .string ⟨#[]⟩, .slice none 0 0, .int .i64 0, .slice none 0 0] 26)) #[.int .i64 f.sort, .string f.text, .slice a2 f.scopes.length k2, .int .i64 f.frm, .slice a4 f.kids.length k4] 26
    rw [World.size_alloc, World.size_alloc] at h
    rw [hW]; exact h
  have HWB : Hid (Below w.heap.size w W) := by
    show Below _ _ _
    rw [hW]; exact (((Below.refl _ _).alloc (Nat.le_refl _) _).alloc (by simp) _).alloc (by simp; omega) _
  have HO3 : Hid ((W.alloc (.cells #[] 3)).ownsRow (w.heap.size + 3) 3 1 (.slice (some ⟨w.heap.size + 1 + 1 + 1, 0, none⟩) 0 0) 0 (([] : List Int).map (Value.int .i64))) := by
    show World.ownsRow _ _ _ _ _ _ _
    have h := World.ownsRow_made (base := w.heap.size + 3) (e := 3) (size := 1) W #[] 0 (by omega) (Nat.zero_le _) (by simp)
    rw [hWs] at h
    exact h
  have HU := hid (H2.out.keep ((HWB.out.on HR.out).alloc (fun b hb => by have := HR.out b hb; omega) (.cells #[] 3)))
  go_enter Tryz.func33, Tryz.ntmps33
  go_wp2_with (at_builtin; rw [← hW]; refine wpList_append_ints _ rfl _ _ rfl (w.heap.size + 3) i0 Hi.out Hz0.out Hz1.out Hz2.out (w.heap.size + 1 + 1 + 1) 0 0 [] rfl HO3.out B _ f.scopes rfl HU.out (by have := HCo.out; omega) (by simp; omega) ?_; intro g c w1 ho hg hbg; have P0 := hid ((O0.out.more (by omega) _).far hg (by simp; omega)); have P1 := hid ((O1.out.more (by omega) _).far hg (by simp)); have P2 := hid ((O2.out.more (by omega) _).far hg (by simp)); have p4 := P0.out.cell 4; have p2 := P2.out.cell 2; have z2 := P2.out.frozen 2; simp at p4 p2 z2)
  have hgs := grown_set w1 (w.heap.size + 1 + 1) 2 (.slice (some ⟨g, 0, none⟩) f.scopes.length c)
  have hs1 := hg.size
  simp only [World.size_alloc] at hs1
  have hB1 : Below w.heap.size w (w1.setCell ⟨w.heap.size + 1 + 1, 2, none⟩ (.slice (some ⟨g, 0, none⟩) f.scopes.length c)) := by
    refine (HWB.out.trans (((Below.refl w.heap.size W).alloc (by omega) (.cells #[] 3)).trans ⟨hg.os, hg.tape, hg.output, hg.size, fun i hi => hg.block i (by simp; omega) (by simp; omega)⟩)).setCell (by simp; omega) _
  have HB1 := hid hB1
  have R0 := hid (P0.out.far hgs (by simp; omega))
  have R1 := hid (P1.out.far hgs (by simp))
  have R2 := P2.out.set 2 (.slice (some ⟨g, 0, none⟩) f.scopes.length c)
  simp at R2
  have R2 := hid R2
  have hgw : g < w1.heap.size := (ho.lt g rfl).2
  have HO := hid (ho.kept hgs (Or.inr fun e => by simp [Value.ownBlock] at e; omega))
  rw [Nat.zero_add] at HO
  have HQ := hid (HI.out f.kids (by have := HSz.out; omega) B (w1.setCell ⟨w.heap.size + 1 + 1, 2, none⟩ (.slice (some ⟨g, 0, none⟩) f.scopes.length c)) (.slice a4 f.kids.length k4) (H4.out.keep (hB1.on HR.out)) (fun b hb => by have := HR.out b hb; simp; omega) (by have := HCo.out; omega))
  have hsW : (w1.setCell ⟨w.heap.size + 1 + 1, 2, none⟩ (.slice (some ⟨g, 0, none⟩) f.scopes.length c)).heap.size = w1.heap.size := by simp
  clear ho hg hgs hB1 P0 P1 P2 p4 p2 z2
  generalize w1.setCell ⟨w.heap.size + 1 + 1, 2, none⟩ (.slice (some ⟨g, 0, none⟩) f.scopes.length c) = w2 at *
  refine HQ.out.mono ?_
  rintro e w3 ⟨u, S, rfl, hu, hw3⟩
  have hs3 := hw3.size
  have HU3 := hid hu
  obtain ⟨ua, uc, rfl⟩ := hu.shape
  clear hu
  have T1 := hid (R1.out.keep hw3 (by omega))
  have T2 := hid (R2.out.keep hw3 (by omega))
  have HO3 := hid (HO.out.kept (row := none) ⟨hw3.os, hw3.tape, hw3.output, hw3.size, fun i hi _ => hw3.block i hi⟩ (by simp [Value.ownBlock]))
  have HB3 := hid (HB1.out.trans (hw3.mono (by omega)))
  have a0 := T2.out.cell 0
  have a1 := T2.out.cell 1
  have a2' := T2.out.cell 2
  have a3 := T2.out.cell 3
  have a4' := T2.out.cell 4
  have z4 := T2.out.frozen 4
  have b0 := T1.out.cell 0
  have b1 := T1.out.cell 1
  have b2 := T1.out.cell 2
  have b3 := T1.out.cell 3
  have b4 := T1.out.cell 4
  have y0 := T1.out.frozen 0
  have y1 := T1.out.frozen 1
  have y2 := T1.out.frozen 2
  have y3 := T1.out.frozen 3
  have y4 := T1.out.frozen 4
  simp at a0 a1 a2' a3 a4' b0 b1 b2 b3 b4
  clear hw3 HQ
  go_wp2_with fail
  refine bodyPost_ret (v := .agg #[.int .i64 f.sort, .string f.text, .slice (some ⟨g, 0, none⟩) f.scopes.length c, .int .i64 f.frm, .slice ua f.kids.length uc]) (by simp [results, Tryz.results33, go_sem, b0, b1, b2, b3, b4]) rfl ?_
  have hg5 := wr5_grown (w3.setCell ⟨w.heap.size + 1 + 1, 4, none⟩ (.slice ua f.kids.length uc)) (w.heap.size + 1) (.int .i64 f.sort) (.string f.text) (.slice (some ⟨g, 0, none⟩) f.scopes.length c) (.int .i64 f.frm) (.slice ua f.kids.length uc)
  have hg4 := grown_set w3 (w.heap.size + 1 + 1) 4 (.slice ua f.kids.length uc)
  have hz5 : (wr5 (w3.setCell ⟨w.heap.size + 1 + 1, 4, none⟩ (.slice ua f.kids.length uc)) (w.heap.size + 1) (.int .i64 f.sort) (.string f.text) (.slice (some ⟨g, 0, none⟩) f.scopes.length c) (.int .i64 f.frm) (.slice ua f.kids.length uc)).heap.size = w3.heap.size := by rw [wr5_size]; simp
  have hO5 := (HO3.out.kept hg4 (Or.inr fun e => by simp [Value.ownBlock] at e; omega)).kept hg5 (Or.inr fun e => by simp [Value.ownBlock] at e; omega)
  have hb4 : ∀ i, (Value.slice ua f.kids.length uc).ownBlock = some i → w2.heap.size ≤ i := fun i e => (HU3.out.lt e).1
  have hK5 := (HU3.out.keep hg4 (fun i e hS => by cases e; have := (HU3.out.low _ hS).1; omega) (by cases hu : (Value.slice ua f.kids.length uc).ownBlock with | none => exact Or.inl rfl | some i => exact Or.inr fun e => by have := hb4 i hu; simp at e; omega)).keep hg5 (fun i e hS => by cases e; have := (HU3.out.low _ hS).1; omega) (by cases hu : (Value.slice ua f.kids.length uc).ownBlock with | none => exact Or.inl rfl | some i => exact Or.inr fun e => by have := hb4 i hu; simp at e; omega)
  have hO6 : (wr5 (w3.setCell ⟨w.heap.size + 1 + 1, 4, none⟩ (.slice ua f.kids.length uc)) (w.heap.size + 1) (.int .i64 f.sort) (.string f.text) (.slice (some ⟨g, 0, none⟩) f.scopes.length c) (.int .i64 f.frm) (.slice ua f.kids.length uc)).ownsRow w.heap.size 3 1 (.slice (some ⟨g, 0, none⟩) f.scopes.length c) f.scopes.length (f.scopes.map (Value.int .i64)) := by
    refine ⟨hO5.1, ?_⟩
    rcases hO5.2 with h | ⟨g', cap', cur', h1, h2, h3⟩
    · exact Or.inl h
    · exact Or.inr ⟨g', cap', cur', h1, by omega, h3⟩
  refine ⟨_, _, _, _, _, rfl, (formAt_iff _ _ _ _ _ _ _ _).2 ⟨rfl, rfl, ht, ?_, rfl, ?_⟩, ⟨g, c, w2.heap.size, S, rfl, hO6, by omega, by omega, by show _ ≤ (wr5 _ _ _ _ _ _ _).heap.size; rw [hz5]; omega, hK5⟩, ?_⟩
  · exact row_ints hO5 (show f.scopes.length ≤ maxLen by unfold maxLen; have := HCo.out; omega) fun i h1 h2 => ⟨by omega, h2⟩
  · exact hK5.forms (by unfold maxLen; have := HCo.out; omega) fun i h1 h2 => ⟨by omega, h2⟩
  · exact HB3.out.trans (((⟨hg4.os, hg4.tape, hg4.output, hg4.size, fun i hi => hg4.block i (by omega) (by simp; omega)⟩ : Below w.heap.size w3 _)).trans ⟨hg5.os, hg5.tape, hg5.output, hg5.size, fun i hi => hg5.block i (by simp; omega) (by simp; omega)⟩)

theorem copy_all : ∀ n, CopyForm n ∧ CopyForms n
  | 0 => by
    have h : CopyForm 0 := fun f hf => by have := Fm.sz_kids f; omega
    exact ⟨h, copies_of 0 h⟩
  | n + 1 => by
    have h := copy_of n (copy_all n).2
    exact ⟨h, copies_of (n + 1) h⟩
theorem l1Copy_any (f : Fm) (B : Nat → Prop) (w : World) (c0 c1 c2 c3 c4 : Value) (h : FormAt B w f c0 c1 c2 c3 c4) (hB : ∀ b, B b → b < w.heap.size) (hc : f.cost ≤ 1048576) :
    Calls Tryz.prog 33 #[.agg #[c0, c1, c2, c3, c4]] w fun e w' => ∃ d0 d1 d2 d3 d4, e = .returned (.agg #[d0, d1, d2, d3, d4]) ∧ FormAt (Fresh w w') w' f d0 d1 d2 d3 d4 ∧ Copied w w' f d2 d4 ∧ Below w.heap.size w w' :=
  (copy_all f.sz).1 f (Nat.le_refl _) B w c0 c1 c2 c3 c4 h hB hc

end Go.Proofs.YtjbejnibiebjgaaGreat

namespace Go.Proofs.YtjbejnibiebjgaaGreat
open Go.RowKit Go.Siskin

def lessB (n : Int) (xs : List Int) : List Int := xs.filter fun x => x != n
theorem less_yes {xs : List Int} {n : Int} {k : Nat} (h : k < xs.length) (hx : (xs[k] != n) = true) : lessB n (xs.take (k + 1)) = lessB n (xs.take k) ++ [xs[k]] := by
  unfold lessB
  rw [List.take_succ_eq_append_getElem h, List.filter_append]; simp at hx; simp [hx]
theorem less_no {xs : List Int} {n : Int} {k : Nat} (h : k < xs.length) (hx : (xs[k] != n) = false) : lessB n (xs.take (k + 1)) = lessB n (xs.take k) := by
  unfold lessB
  rw [List.take_succ_eq_append_getElem h, List.filter_append]; simp at hx; simp [hx]
theorem less_le (n : Int) (xs : List Int) : (lessB n xs).length ≤ xs.length := List.length_filter_le _ _

set_option maxRecDepth 20000 in
set_option maxHeartbeats 1000000 in
theorem l2Take_any (B : Nat → Prop) (va : Value) (xs : List Int) (n : Int) (w : World) (ha : IntsAt B w va xs) (hB : ∀ b, B b → b < w.heap.size) (hn : xs.length ≤ 1048576) :
    Calls Tryz.prog 36 #[va, .int .i64 n] w fun e w' => ∃ u, e = .returned u ∧ IntsAt (Fresh w w') w' u (lessB n xs) ∧ Below w.heap.size w w' := by
  obtain ⟨a, ca, rfl, hla, ha⟩ := ha
  unfold maxLen at hla
  have HR := hid hB
  clear hB
  obtain ⟨i0, hi, hz0, hz1, hz2⟩ := info_parts Tryz.infoIntE
  have Hi := hid hi
  have Hz0 := hid hz0
  have Hz1 := hid hz1
  have Hz2 := hid hz2
  clear hi hz0 hz1 hz2
  go_enter Tryz.func36, Tryz.ntmps36
  go_wp2_with fail
  go_loopw [5, 6] (fun o i wr => ∃ k : Nat, k ≤ xs.length ∧ i = .int .i64 k ∧ ∃ (ys : List Int) (ua : Option Addr) (uc : Nat), o = .slice ua ys.length uc ∧ Hid (ys = lessB n (xs.take k)) ∧ ys.length ≤ k ∧ Hid (wr.ownsRow w.heap.size 3 1 (.slice ua ys.length uc) ys.length (ys.map (Value.int .i64))) ∧ Hid (Below w.heap.size w wr)) (fun _ i _ => xs.length - (intOf i).toNat)
  case atStart => exact ⟨0, Nat.zero_le _, rfl, [], _, 0, rfl, rfl, Nat.le_refl _, World.ownsRow_made w #[] 0 (Nat.le_refl _) (Nat.zero_le _) (by simp), (Below.refl _ _).alloc (Nat.le_refl _) _⟩
  case round =>
    obtain ⟨k, hk, rfl, ys, ua, uc, rfl, HY, hyl, HU, HB⟩ := hrel
    have hsz := HB.out.size
    by_cases hlt : k < xs.length
    · rcases ha with ha | ⟨ba, oa, rfl, hba, ha⟩
      · subst ha; simp at hlt
      have hbl := HR.out ba hba
      have ga : wr.cell? ⟨ba, oa + k, none⟩ = some (.int .i64 xs[k]) := (HB.out.cell (p := ⟨ba, oa + k, none⟩) hbl).trans (by rw [ha k hlt, List.getD_eq_getElem?_getD, List.getElem?_eq_getElem hlt]; rfl)
      clear ha
      cases hx : (xs[k] != n) with
      | true =>
        have HN := hid (less_yes hlt hx)
        have hx2 : (xs[k] == n) = false := by simpa using hx
        clear hx
        go_wp2_with (at_builtin; refine wpList_append_lies _ rfl _ _ _ rfl w.heap.size 3 i0 (.int .i64 0) 1 8 Tryz.underlying23 Hi.out Hz0.out Hz1.out Hz2.out rfl (by decide) _ ys.length (ys.map (Value.int .i64)) rfl (HU.out.alloc _) ⟨wr.heap.size, 0, none⟩ 1 1 [.int .i64 xs[k]] rfl rfl (cell_one_new _ _ _) (by simp [Value.oneCell']) (by omega) (by unfold maxLen; omega) (by omega) (by simp; omega) (wr.heap.size + 1) (by simp) ?_; intro gg cc w4 hown' hg hat hgl; have hall := (World.grownBy_alloc wr _ _).trans hg)
        have hlow : ∀ g, (Value.slice ua ys.length uc).ownBlock = some g → w.heap.size ≤ g := fun g e => (HU.out.lt g e).1
        refine ⟨⟨k + 1, by omega, by go_num, ys ++ [xs[k]], some ⟨gg, 0, none⟩, cc, by simp, ?_, by simp; omega, ?_, HB.out.grown hall hsz hlow⟩, by simp [intOf]; omega⟩
        · show _ = _
          rw [HN.out, ← HY.out]
        · show World.ownsRow _ _ _ _ _ _ _
          simpa using hown'
      | false =>
        have HN := hid (less_no hlt hx)
        have hx2 : (xs[k] == n) = true := by simpa using hx
        clear hx
        go_wp2_with fail
        exact ⟨⟨k + 1, by omega, by go_num, ys, ua, uc, rfl, by show _ = _; rw [HN.out]; exact HY.out, by omega, HU, HB⟩, by simp [intOf]; omega⟩
    · obtain rfl : k = xs.length := by omega
      rw [List.take_length] at HY
      have HE := hid (row_ints (B := Fresh w wr) HU.out (by unfold maxLen; omega) fun g h1 h2 => ⟨h1, h2⟩)
      go_wp2_with fail
      go_ret
      exact ⟨_, rfl, by rw [← HY.out]; exact HE.out, HB.out⟩

end Go.Proofs.YtjbejnibiebjgaaGreat

namespace Go.Proofs.YtjbejnibiebjgaaGreat
open Go.RowKit Go.Siskin

/-- Where a number goes among ascending ones. -/
def cutB (n : Int) (xs : List Int) : Nat := (xs.takeWhile fun x => decide (x < n)).length
theorem cut_eq {n : Int} : ∀ {xs : List Int} {k : Nat}, k ≤ xs.length → (∀ j (hj : j < xs.length), j < k → xs[j] < n) → (∀ hk : k < xs.length, ¬ xs[k] < n) → k = cutB n xs
  | [], k, h, _, _ => by simp at h; subst h; rfl
  | x :: r, 0, _, _, h => by
    have : ¬ x < n := h (by simp)
    unfold cutB
    rw [List.takeWhile_cons_of_neg (by simpa using this)]; rfl
  | x :: r, k + 1, hl, h1, h2 => by
    have hx : x < n := h1 0 (by simp) (by omega)
    unfold cutB
    rw [List.takeWhile_cons_of_pos (by simpa using hx), List.length_cons]
    have := cut_eq (n := n) (xs := r) (k := k) (by simpa using hl) (fun j hj hjk => by have := h1 (j + 1) (by simpa using hj) (by omega); simpa using this) (fun hk => by have := h2 (by simpa using hk); simpa using this)
    unfold cutB at this
    omega

theorem ints_take {B : Nat → Prop} {w : World} {a : Option Addr} {c : Nat} {xs : List Int} (h : IntsAt B w (.slice a xs.length c) xs) {k : Nat} (hk : k ≤ xs.length) (c' : Nat) (hc : k ≤ c') : IntsAt B w (.slice a k c') (xs.take k) := by
  obtain ⟨a', c0, e, hl, h⟩ := h
  cases e
  refine ⟨a, c', by rw [List.length_take, Nat.min_eq_left hk], by rw [List.length_take]; omega, ?_⟩
  rcases h with h | ⟨b, o, e, hb, h⟩
  · exact Or.inl (by rw [h]; simp)
  · refine Or.inr ⟨b, o, e, hb, fun i hi => ?_⟩
    rw [List.length_take] at hi
    rw [h i (by omega), List.getD_eq_getElem?_getD, List.getD_eq_getElem?_getD, List.getElem?_take_of_lt (by omega)]

theorem ints_drop {B : Nat → Prop} {w : World} {b o c : Nat} {xs : List Int} (hb : B b) (hl : xs.length ≤ maxLen) (h : ∀ i, i < xs.length → w.cell? ⟨b, o + i, none⟩ = some (.int .i64 (xs.getD i 0))) {k : Nat} (hk : k ≤ xs.length) (hc : xs.length - k ≤ c) : IntsAt B w (.slice (some ⟨b, o + k, none⟩) (xs.length - k) c) (xs.drop k) := by
  refine ⟨_, c, by rw [List.length_drop], by rw [List.length_drop]; omega, Or.inr ⟨b, o + k, rfl, hb, fun i hi => ?_⟩⟩
  rw [List.length_drop] at hi
  rw [Nat.add_assoc, h (k + i) (by omega), List.getD_eq_getElem?_getD, List.getD_eq_getElem?_getD, List.getElem?_drop]

end Go.Proofs.YtjbejnibiebjgaaGreat

namespace Go.Proofs.YtjbejnibiebjgaaGreat
open Go.RowKit Go.Siskin

/-- A row of the call's own is a slice of its length. -/
theorem row_shape {w : World} {base size n : Nat} {e : TypeId} {v : Value} {xs : List Value} (h : w.ownsRow base e size v n xs) : ∃ a c, v = .slice a n c := by
  rcases h.2 with ⟨rfl, rfl⟩ | ⟨g, cap, cur, rfl, -⟩
  · exact ⟨none, 0, rfl⟩
  · exact ⟨_, _, rfl⟩

/-- 'append(s, u...)' of ints onto whatever row of the call's own. -/
theorem run_append_ints_all (w : World) (base : Nat) (i : TypeInfo) (ty : TypeId) (hi : Tryz.prog.info? 3 = some i) (hz : i.zero = some (.int .i64 0)) (h1 : i.size = 1) (h2 : i.bytes = 8)
    (v : Value) (n : Nat) (ys : List Int) (hown : w.ownsRow base 3 1 v n (ys.map (Value.int .i64))) (B : Nat → Prop) (u : Value) (xs : List Int) (hu : IntsAt B w u xs) (hn : n + xs.length ≤ 1048576 * 2) (hb : base ≤ w.heap.size) :
    ∃ a c w', (Builtin.append_ #[23, 23] ty #[v, u]).run Tryz.prog w = .ok (.slice a (n + xs.length) c) w' ∧ w'.ownsRow base 3 1 (.slice a (n + xs.length) c) (n + xs.length) ((ys ++ xs).map (Value.int .i64)) ∧ w.grownBy w' v.ownBlock := by
  rcases hown.2 with ⟨rfl, rfl⟩ | ⟨g, cap, cur, rfl, -⟩
  · have hys : ys = [] := by have := hown.1; simpa using this
    subst hys
    obtain ⟨a, cu, rfl, -, hu⟩ := hu
    have some_case : ∀ (ad : Addr), (∀ j u, (xs.map (Value.int .i64))[j]? = some u → w.cell? (ad.add j) = some u) → ∃ a c w', (Builtin.append_ #[23, 23] ty #[.slice none 0 0, .slice (some ad) xs.length cu]).run Tryz.prog w = .ok (.slice a (0 + xs.length) c) w' ∧ w'.ownsRow base 3 1 (.slice a (0 + xs.length) c) (0 + xs.length) (([] ++ xs).map (Value.int .i64)) ∧ w.grownBy w' (Value.slice none 0 0).ownBlock := by
      intro ad had
      obtain ⟨v', w', hr, ho, hg, -, -⟩ := run_append_own_at (P := Tryz.prog) w base 23 ty 3 i (.int .i64 0) 1 8 Tryz.underlying23 hi hz h1 h2 rfl (by decide) _ 0 _ hown ad xs.length cu (xs.map (Value.int .i64)) (by simp) had (fun u hu => by obtain ⟨x, -, rfl⟩ := List.mem_map.1 hu; rfl) (by unfold maxLen; omega) (by omega) hb
      obtain ⟨a, c, rfl⟩ := row_shape ho
      exact ⟨a, c, w', hr, by simpa using ho, hg⟩
    rcases hu with rfl | ⟨b, o, rfl, -, hu⟩
    · cases a with
      | some ad => exact some_case ad (fun j u hj => by simp at hj)
      | none =>
        refine ⟨none, 0, w, ?_, World.ownsRow_nil _ _ _ _, World.grownBy.refl _ _⟩
        simp [Builtin.append_, run_underlying Tryz.underlying23, sizeOf, typeInfo, hi, Builtin.lenOf, Builtin.firstCells]
    · refine some_case ⟨b, o, none⟩ fun j u hj => ?_
      rw [List.getElem?_map] at hj
      by_cases hjl : j < xs.length
      · rw [List.getElem?_eq_getElem hjl] at hj
        cases hj
        have := hu j hjl
        rw [Go.WideShapes.add_plain, this, List.getD_eq_getElem?_getD, List.getElem?_eq_getElem hjl]; rfl
      · rw [List.getElem?_eq_none (by omega)] at hj
        cases hj
  · obtain ⟨g', c, w', hr, r1, r2, -⟩ := run_append_ints w base i ty hi hz h1 h2 g n cap ys hown B u xs hu hn hb
    exact ⟨_, c, w', hr, r1, r2⟩

/-- The same at the operation. -/
theorem wpList_append_all (w : World) {ops : Array Oper} {rest : List Oper} {o : Oper} {a : Act} {Q : Exit → Act → World → Prop} (hgd : o.guard = none) (s x : Operand)
    (ho : o.op = .call { callee := .builtin .append, args := #[s, x], argTypes := #[23, 23] })
    (base : Nat) (i : TypeInfo) (hi : Tryz.prog.info? 3 = some i) (hz : i.zero = some (.int .i64 0)) (h1 : i.size = 1) (h2 : i.bytes = 8)
    (v : Value) (n : Nat) (ys : List Int) (hs : a.eval s = v) (hown : w.ownsRow base 3 1 v n (ys.map (Value.int .i64))) (B : Nat → Prop) (u : Value) (xs : List Int) (hx : a.eval x = u) (hu : IntsAt B w u xs) (hn : n + xs.length ≤ 1048576 * 2) (hb : base ≤ w.heap.size)
    (h : ∀ a' c w', w'.ownsRow base 3 1 (.slice a' (n + xs.length) c) (n + xs.length) ((ys ++ xs).map (Value.int .i64)) → w.grownBy w' v.ownBlock → wpList Tryz.prog ops Q rest (a.put o.dst (.slice a' (n + xs.length) c)) w') :
    wpList Tryz.prog ops Q (o :: rest) a w := by
  refine wpList_plain hgd fun K hK => ?_
  obtain ⟨a', c, w', hr, r1, r2⟩ := run_append_ints_all w base i o.type hi hz h1 h2 v n ys hown B u xs hu hn hb
  unfold Oper.wp execOp
  simp only [ho, resolve, invoke, builtin, Sem.run_bind, Sem.run_pure, Result.andThen_ok, List.map_toArray, List.map_cons, List.map_nil, hs, hx, hr]
  exact hK _ _ (h a' c w' r1 r2)

/-- And at a step of a region that draws its order. -/
theorem step_append_all (w : World) {ops : Array Oper} {o : Oper} {a : Act} {K : Act → World → Prop} {Q : Exit → Act → World → Prop} {E : Prop} (hgd : o.guard = none) (s x : Operand)
    (ho : o.op = .call { callee := .builtin .append, args := #[s, x], argTypes := #[23, 23] })
    (base : Nat) (i : TypeInfo) (hi : Tryz.prog.info? 3 = some i) (hz : i.zero = some (.int .i64 0)) (h1 : i.size = 1) (h2 : i.bytes = 8)
    (v : Value) (n : Nat) (ys : List Int) (hs : a.eval s = v) (hown : w.ownsRow base 3 1 v n (ys.map (Value.int .i64))) (B : Nat → Prop) (u : Value) (xs : List Int) (hx : a.eval x = u) (hu : IntsAt B w u xs) (hn : n + xs.length ≤ 1048576 * 2) (hb : base ≤ w.heap.size)
    (h : ∀ a' c w', w'.ownsRow base 3 1 (.slice a' (n + xs.length) c) (n + xs.length) ((ys ++ xs).map (Value.int .i64)) → w.grownBy w' v.ownBlock → K (a.put o.dst (.slice a' (n + xs.length) c)) w') :
    if Region.wanted o (yielded ops a.tmps) = true then Oper.wp Tryz.prog o a w K Q else E := by
  have hw : Region.wanted o (yielded ops a.tmps) = true := by simp [Region.wanted, hgd]
  rw [if_pos hw]
  obtain ⟨a', c, w', hr, r1, r2⟩ := run_append_ints_all w base i o.type hi hz h1 h2 v n ys hown B u xs hu hn hb
  unfold Oper.wp execOp
  simp only [ho, resolve, invoke, builtin, Sem.run_bind, Sem.run_pure, Result.andThen_ok, List.map_toArray, List.map_cons, List.map_nil, hs, hx, hr]
  exact h a' c w' r1 r2

set_option maxRecDepth 20000 in
set_option maxHeartbeats 1000000 in
theorem grow_any (w : World) (n : Nat) (hn : n ≤ 1048576 * 2) :
    Calls Tryz.prog 55 #[.slice none 0 0, .int .i64 n] w fun e w' => ∃ v, e = .returned v ∧ w'.ownsRow w.heap.size 3 1 v 0 (([] : List Int).map (Value.int .i64)) ∧ Below w.heap.size w w' := by
  obtain ⟨i0, hi, hz0, hz1, hz2⟩ := info_parts Tryz.infoIntE
  by_cases h0 : n = 0
  · subst h0
    go_enter Tryz.func55, Tryz.ntmps55
    go_wp2_with fail
    go_ret
    exact ⟨_, rfl, World.ownsRow_nil _ _ _ _, Below.refl _ _⟩
  · have hr : ∀ ty, (Builtin.append_ #[23, 3] ty #[.slice none 0 0, .int .i64 n]).run Tryz.prog w = _ := fun ty => Go.Lib.run_append_nil_zeros (P := Tryz.prog) w 23 3 ty 3 i0 (.int .i64 0) .i64 .i64 Tryz.underlying23 Tryz.underlying3 hi hz0 n (by omega) (by omega) (by omega) (by rw [hz2]; omega)
    have hGn : n ≤ grownCap w n 0 3 := grownCap_ge w _ _ _
    have hG63 := grownCap_le_maxLen w n 0 3 (by unfold maxLen; omega)
    obtain ⟨G, hG⟩ : ∃ G, G = grownCap w n 0 3 := ⟨_, rfl⟩
    rw [← hG] at hr hGn hG63
    have HR := hid hr
    have hG9 : G ≤ 9223372036854775807 := by unfold maxLen at hG63; omega
    have p2 : (0 : Int) < (n : Int) := by omega
    have HM := hid hG63
    clear hr hG hi hz0 hz1 hz2 hG63
    go_enter Tryz.func55, Tryz.ntmps55
    go_wp2_with (at_builtin; refine Lib.wpList_append_run _ rfl _ _ _ _ rfl _ _ rfl rfl _ _ (HR.out _) ?_)
    all_goals
      go_ret
      refine ⟨_, rfl, ?_, ((Below.refl _ _).drew).alloc (by simp) _⟩
      exact World.ownsRow_made w.drew _ G (by simp) HM.out (by simp [size_zeroCells]; omega)

end Go.Proofs.YtjbejnibiebjgaaGreat

namespace Go.Proofs.YtjbejnibiebjgaaGreat
open Go.RowKit Go.Siskin

theorem belowJ {B : Nat} {a w : World} (h : Below B a w) (n : Nat) : Below B a (w.drewN n) := h.trans ⟨rfl, rfl, rfl, Nat.le_refl _, fun _ _ => rfl⟩
theorem flat_take {xss : List (List Int)} {k : Nat} (h : k < xss.length) : (xss.take (k + 1)).flatten = (xss.take k).flatten ++ xss[k] := by
  rw [List.take_succ_eq_append_getElem h, List.flatten_append]; simp only [List.flatten_cons, List.flatten_nil, List.append_nil]
theorem flat_le (xss : List (List Int)) (k : Nat) : (xss.take k).flatten.length ≤ xss.flatten.length := by
  have h := List.take_append_drop k xss
  have : xss.flatten = (xss.take k).flatten ++ (xss.drop k).flatten := by rw [← List.flatten_append, h]
  rw [this, List.length_append]; omega

set_option maxRecDepth 20000 in
set_option maxHeartbeats 1000000 in
theorem concat_any (B : Nat → Prop) (w : World) (b cp : Nat) (xss : List (List Int)) (xs : List Int) (hfl : xss.flatten = xs) (hb : b < w.heap.size) (hB : ∀ i, B i → i < w.heap.size)
    (hc : ∀ (i : Nat) (hi : i < xss.length), ∃ v, w.cell? ⟨b, i, none⟩ = some v ∧ IntsAt B w v xss[i]) (hn : xs.length ≤ 1048576 * 2) (hl : xss.length ≤ 10) :
    Calls Tryz.prog 45 #[.slice (some ⟨b, 0, none⟩) xss.length cp] w fun e w' => ∃ a c, e = .returned (.slice a xs.length c) ∧ w'.ownsRow w.heap.size 3 1 (.slice a xs.length c) xs.length (xs.map (Value.int .i64)) ∧ Below w.heap.size w w' := by
  have HB := hid hB
  have HC := hid hc
  have HF : Hid (∀ k, (xss.take k).flatten.length ≤ xs.length) := fun k => by rw [← hfl]; exact flat_le xss k
  have HL : Hid (xss.flatten = xs) := hfl
  clear hB hc hfl
  obtain ⟨i0, hi, hz0, hz1, hz2⟩ := info_parts Tryz.infoIntE
  have Hi := hid hi
  have Hz0 := hid hz0
  have Hz1 := hid hz1
  have Hz2 := hid hz2
  clear hi hz0 hz1 hz2
  go_enter Tryz.func45, Tryz.ntmps45
  go_wp2_with fail
  go_loopw [3, 11] (fun sz i wr => (∃ n, wr = w.drewN n) ∧ ∃ k m : Nat, k ≤ xss.length ∧ i = .int .i64 k ∧ sz = .int .i64 m ∧ Hid (m = (xss.take k).flatten.length)) (fun _ i _ => xss.length - (intOf i).toNat)
  case atStart => exact ⟨⟨0, rfl⟩, 0, 0, Nat.zero_le _, rfl, rfl, rfl⟩
  case round =>
    obtain ⟨⟨n, rfl⟩, k, m, hk, rfl, rfl, HM⟩ := hrel
    by_cases hlt : k < xss.length
    · obtain ⟨v, hv, a, ca, rfl, hla, -⟩ := HC.out k hlt
      have HT := hid (congrArg List.length (flat_take hlt))
      have hf : (xss.take k).flatten.length + xss[k].length ≤ 1048576 * 2 := by
        have h1 := HF.out (k + 1)
        rw [HT.out, List.length_append] at h1
        omega
      have hm : m + xss[k].length ≤ 1048576 * 2 := by have := HM.out; omega
      clear hf
      have hpos : ¬ ((m : Int) + (xss[k].length : Int) < 0) := by omega
      go_wp2_with fail
      refine ⟨⟨⟨n, rfl⟩, k + 1, m + xss[k].length, by omega, by go_num, by go_num, ?_⟩, by simp [intOf]; omega⟩
      show _ = _
      rw [HT.out, List.length_append, ← HM.out]
    · have hkl : k = xss.length := by omega
      have hm : m = xs.length := by have h := HM.out; rw [h, hkl, List.take_length, HL.out]
      clear HM
      subst hm
      go_wp2_with fail
      refine (grow_any _ xs.length hn).mono ?_
      rintro e w1 ⟨v, rfl, ho, hbl⟩
      have ho2 := ho
      obtain ⟨a, c, rfl⟩ := row_shape ho2
      have HO := hid ho
      have HW := hid ((belowJ (Below.refl w.heap.size w) n).trans hbl)
      clear ho hbl ho2
      go_wp2_with fail
      go_loopw [6, 27] (fun s i wr => ∃ k m : Nat, k ≤ xss.length ∧ i = .int .i64 k ∧ ∃ a c, s = .slice a m c ∧ Hid (m = (xss.take k).flatten.length) ∧ Hid (wr.ownsRow w.heap.size 3 1 (.slice a m c) m ((xss.take k).flatten.map (Value.int .i64))) ∧ Hid (Below w.heap.size w wr)) (fun _ i _ => xss.length - (intOf i).toNat)
      case atStart => exact ⟨0, 0, Nat.zero_le _, rfl, _, _, rfl, rfl, HO, HW⟩
      case round =>
        obtain ⟨j, m, hj, rfl, a1, c1, rfl, HM, HR, HV⟩ := hrel
        have hsz := HV.out.size
        by_cases hjt : j < xss.length
        · obtain ⟨v, hv, hin⟩ := HC.out j hjt
          have hcell := HV.out.cell (p := ⟨b, j, none⟩) hb
          rw [hv] at hcell
          have HU := hid (hin.keep (HV.out.on HB.out))
          obtain ⟨a2, ca, rfl, hla, -⟩ := hin
          have HT := hid (flat_take hjt)
          have hm : m + xss[j].length ≤ 1048576 * 2 := by
            have h1 := HF.out (j + 1)
            rw [HT.out, List.length_append] at h1
            have := HM.out
            omega
          go_wp2_with (at_builtin; refine wpList_append_all _ rfl _ _ rfl w.heap.size i0 Hi.out Hz0.out Hz1.out Hz2.out _ m _ rfl HR.out B _ xss[j] rfl HU.out hm (by omega) ?_; intro a3 c3 w3 hown hg)
          refine ⟨⟨j + 1, m + xss[j].length, by omega, by go_num, a3, c3, rfl, ?_, ?_, ?_⟩, by simp [intOf]; omega⟩
          · show _ = _
            rw [HT.out, List.length_append, ← HM.out]
          · show World.ownsRow _ _ _ _ _ _ _
            rw [HT.out]; exact hown
          · exact HV.out.grown hg hsz fun g e => (HR.out.lt g e).1
        · have hjl : j = xss.length := by omega
          have hm : m = xs.length := by have h := HM.out; rw [h, hjl, List.take_length, HL.out]
          rw [hjl, List.take_length, HL.out] at HR
          clear HM
          subst hm
          go_wp2_with fail
          go_ret
          exact ⟨a1, c1, rfl, HR.out, HV.out⟩

end Go.Proofs.YtjbejnibiebjgaaGreat
