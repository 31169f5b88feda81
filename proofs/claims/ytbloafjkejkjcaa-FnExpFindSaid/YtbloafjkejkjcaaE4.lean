/- The model's l1Copy and l1Copies make the same form in new memory. Condition: the form lies in memory as FormAt says, and is not too long. -/
import Derived.Test.YtbloafjkejkjcaaE3
namespace Go.Proofs.Ytbloafjkejkjcaa
open Go.RowKit Go.Siskin

/-- 'append(s, u...)' of ints at the operation. -/
theorem wpList_append_ints (w : World) {ops : Array Oper} {rest : List Oper} {o : Oper} {a : Act} {Q : Exit → Act → World → Prop} (hgd : o.guard = none) (s x : Operand)
    (ho : o.op = .call { callee := .builtin .append, args := #[s, x], argTypes := #[24, 24] })
    (base : Nat) (i : TypeInfo) (hi : Try.prog.info? 3 = some i) (hz : i.zero = some (.int .i64 0)) (h1 : i.size = 1) (h2 : i.bytes = 8)
    (g0 n cap : Nat) (ys : List Int) (hs : a.eval s = .slice (some ⟨g0, 0, none⟩) n cap) (hown : w.ownsRow base 3 1 (.slice (some ⟨g0, 0, none⟩) n cap) n (ys.map (Value.int .i64))) (B : Nat → Prop) (u : Value) (xs : List Int) (hx : a.eval x = u) (hu : IntsAt B w u xs) (hn : n + xs.length ≤ 1048576 * 2) (hb : base ≤ w.heap.size)
    (h : ∀ g c w', w'.ownsRow base 3 1 (.slice (some ⟨g, 0, none⟩) (n + xs.length) c) (n + xs.length) ((ys ++ xs).map (Value.int .i64)) → w.grownBy w' (some g0) → base ≤ g → wpList Try.prog ops Q rest (a.put o.dst (.slice (some ⟨g, 0, none⟩) (n + xs.length) c)) w') :
    wpList Try.prog ops Q (o :: rest) a w := by
  refine wpList_plain hgd fun K hK => ?_
  obtain ⟨g, c, w', hr, r1, r2, r3⟩ := run_append_ints w base i o.type hi hz h1 h2 g0 n cap ys hown B u xs hu hn hb
  unfold Oper.wp execOp
  simp only [ho, resolve, invoke, builtin, Sem.run_bind, Sem.run_pure, Result.andThen_ok, List.map_toArray, List.map_cons, List.map_nil, hs, hx, hr]
  exact hK _ _ (h g c w' r1 r2 r3)

/-- The lists of a form that was copied are the call's own, each in a row of its own. -/
def Copied (w w' : World) (f : Fm) (d2 d4 : Value) : Prop := ∃ g c N S, d2 = .slice (some ⟨g, 0, none⟩) f.scopes.length c ∧ w'.ownsRow w.heap.size 3 1 d2 f.scopes.length (f.scopes.map (Value.int .i64)) ∧ g < N ∧ w.heap.size ≤ N ∧ N ≤ w'.heap.size ∧ Kids S w' N d4 f.kids

def CopyForm (n : Nat) : Prop := ∀ f : Fm, f.sz ≤ n → ∀ (B : Nat → Prop) (w : World) (c0 c1 c2 c3 c4 : Value), FormAt B w f c0 c1 c2 c3 c4 → (∀ b, B b → b < w.heap.size) → f.cost ≤ 1048576 →
  Calls Try.prog 31 #[.agg #[c0, c1, c2, c3, c4]] w fun e w' => ∃ d0 d1 d2 d3 d4, e = .returned (.agg #[d0, d1, d2, d3, d4]) ∧ FormAt (Fresh w w') w' f d0 d1 d2 d3 d4 ∧ Copied w w' f d2 d4 ∧ Below w.heap.size w w'
def CopyForms (n : Nat) : Prop := ∀ ks : List Fm, Fm.szs ks ≤ n → ∀ (B : Nat → Prop) (w : World) (v : Value), FormsAt B w v ks → (∀ b, B b → b < w.heap.size) → ks.length + Fm.costs ks ≤ 1048576 →
  Calls Try.prog 37 #[v] w fun e w' => ∃ u S, e = .returned u ∧ Kids S w' w.heap.size u ks ∧ Below w.heap.size w w'

set_option maxRecDepth 20000 in
set_option maxHeartbeats 2000000 in
theorem copies_of (n : Nat) (ih : CopyForm n) : CopyForms n := by
  intro ks hks B w v hv hB hc
  have HI := hid ih
  have HR := hid hB
  obtain ⟨a, ca, rfl, hla, ha⟩ := hv
  unfold maxLen at hla
  clear ih hB
  obtain ⟨i0, hi, hz0, hz1, hz2⟩ := info_parts Try.infoFormE
  have Hi := hid hi
  have Hz0 := hid hz0
  have Hz1 := hid hz1
  have Hz2 := hid hz2
  clear hi hz0 hz1 hz2
  go_enter Try.func37, Try.ntmps37
  go_wp2_with fail
  go_loopw [3, 4] (fun v i wr => ∃ k : Nat, k ≤ ks.length ∧ i = .int .i64 k ∧ Hid (∃ S, Kids S wr w.heap.size v (ks.take k)) ∧ Hid (Below w.heap.size w wr)) (fun _ i _ => ks.length - (intOf i).toNat)
  case atStart =>
    refine ⟨0, Nat.zero_le _, rfl, ⟨fun _ => False, ⟨[], World.ownsRow_made w #[] 0 (Nat.le_refl _) (Nat.zero_le _) (by simp), fun i hi => absurd hi (by simp)⟩, fun _ _ h => h, fun _ h => h.elim⟩, (Below.refl _ _).alloc (Nat.le_refl _) _⟩
  case round =>
    obtain ⟨k, hk, rfl, HK, HW⟩ := hrel
    obtain ⟨S, hK⟩ := HK.out
    have HK := hid hK
    clear hK
    have hsz := HW.out.size
    by_cases hlt : k < ks.length
    · rcases ha with ha | ⟨ba, oa, rfl, hb, ha⟩
      · subst ha; simp at hlt
      obtain ⟨c0, c1, c2, c3, c4, g0, g1, g2, g3, g4, hf⟩ := RowAt.get ks (RowAt.keep (HW.out.on HR.out) hb ks ha) k hlt
      have HC := hid (HI.out ks[k] (Nat.le_trans (Fm.szs_get ks k hlt) hks) B wr c0 c1 c2 c3 c4 hf (fun b hb => by have := HR.out b hb; omega) (by have := Fm.costs_get ks k hlt; omega))
      obtain ⟨rfl, rfl, -, h2, rfl, h4⟩ := (formAt_iff _ _ _ _ _ _ _ _).1 hf
      obtain ⟨a2, k2, rfl, -⟩ := h2
      obtain ⟨a4, k4, rfl, -⟩ := h4
      have HN := hid (List.take_succ_eq_append_getElem hlt)
      have hbb : ba < wr.heap.size := by have := HR.out ba hb; omega
      clear ha hf
      go_wp2_with fail
      refine HC.out.mono ?_
      rintro e w1 ⟨d0, d1, d2, d3, d4, rfl, hd, -, hw1⟩
      have HD := hid hd
      have hs1 := hw1.size
      have HK1 := hid ((HK.out.below hw1).more (S' := Reg S wr w1) (fun i hi => Or.inl hi) (fun i hi => by
        rcases hi with hi | hi
        · have := HK.out.low i hi; omega
        · omega) (fun g e hS => by
        rcases hS with hS | hS
        · exact HK.out.off g e hS
        · have := (HK.out.lt e).2; omega))
      have HB1 := hid (HW.out.trans (hw1.mono hsz))
      have HF1 := hid (FormAt.mono (B' := Reg S wr w1) (fun i hi => Or.inr hi) _ hd)
      obtain ⟨rfl, rfl, -, h2, rfl, h4⟩ := (formAt_iff _ _ _ _ _ _ _ _).1 hd
      obtain ⟨x2, y2, rfl, -⟩ := h2
      obtain ⟨x4, y4, rfl, -⟩ := h4
      obtain ⟨cs, r1, r2⟩ := HK1.out.row
      rw [List.length_take, Nat.min_eq_left hk] at r1
      have R1 := hid r1
      have R2 := hid r2
      clear hd hw1 r1 r2 HC
      go_wp2_with (at_builtin; refine wpList_append_own_at _ rfl _ _ 25 rfl w.heap.size 27 i0 _ 5 80 Try.underlying25 Hi.out Hz0.out Hz1.out Hz2.out rfl (by decide) _ k cs rfl (R1.out.alloc _) ⟨w1.heap.size, 0, none⟩ 1 1 [.int .i64 ks[k].sort, .string ks[k].text, .slice x2 ks[k].scopes.length y2, .int .i64 ks[k].frm, .slice x4 ks[k].kids.length y4] rfl rfl (World.news_of_block (cs := #[.int .i64 ks[k].sort, .string ks[k].text, .slice x2 ks[k].scopes.length y2, .int .i64 ks[k].frm, .slice x4 ks[k].kids.length y4]) (heap_alloc_new _ _)) (by simp [Value.oneCell']) (by unfold maxLen; omega) (by omega) (by simp; omega) ?_; intro v' w2 hown' hg hnil hb')
      have hall := (World.grownBy_alloc w1 _ _).trans hg
      refine ⟨⟨k + 1, by omega, by go_num, ⟨Reg S wr w1, ?_⟩, ?_⟩, by simp [intOf]; omega⟩
      · rw [HN.out]
        refine HK1.out.snoc (by rw [List.length_take, Nat.min_eq_left hk]; exact R1.out) R2.out HF1.out hall (by rw [List.length_take, Nat.min_eq_left hk]; exact hown') ?_
        rcases hb' with h | h
        · exact Or.inl h
        · exact Or.inr ⟨_, h, by simp⟩
      · refine HB1.out.trans ⟨hall.os, hall.tape, hall.output, hall.size, fun i hi => hall.block i (by omega) fun e => ?_⟩
        have := (R1.out.lt i e.symm).1
        omega
    · have hkk : k = ks.length := by omega
      go_wp2_with fail
      go_ret
      rw [hkk, List.take_length] at HK
      exact ⟨_, S, rfl, HK.out, HW.out⟩

set_option maxRecDepth 20000 in
set_option maxHeartbeats 2000000 in
theorem copy_of (n : Nat) (ih : CopyForms n) : CopyForm (n + 1) := by
  intro f hfz B w c0 c1 c2 c3 c4 hA hB hc
  have HI := hid ih
  have HR := hid hB
  have HCo := hid (Fm.cost_eq f)
  have HSz := hid (Fm.sz_kids f)
  obtain ⟨rfl, rfl, ht, h2, rfl, h4⟩ := (formAt_iff _ _ _ _ _ _ _ _).1 hA
  have H2 := hid h2
  have H4 := hid h4
  obtain ⟨a2, k2, rfl, -⟩ := h2
  obtain ⟨a4, k4, rfl, -⟩ := h4
  clear ih hB hA
  obtain ⟨i0, hi, hz0, hz1, hz2⟩ := info_parts Try.infoIntE
  have Hi := hid hi
  have Hz0 := hid hz0
  have Hz1 := hid hz1
  have Hz2 := hid hz2
  clear hi hz0 hz1 hz2
  obtain ⟨W, hW⟩ : ∃ W, W = ((w.alloc (.cells #[.int .i64 f.sort, .string f.text, .slice a2 f.scopes.length k2, .int .i64 f.frm, .slice a4 f.kids.length k4] 27)).alloc (.cells #[.int .i64 0, .string ⟨#[]⟩, .slice none 0 0, .int .i64 0, .slice none 0 0] 27)).alloc (.cells #[.int .i64 f.sort, .string f.text, .slice a2 f.scopes.length k2, .int .i64 f.frm, .slice a4 f.kids.length k4] 27) := ⟨_, rfl⟩
  have hWs : W.heap.size = w.heap.size + 3 := by rw [hW]; simp
  have O0 : Hid (Own W w.heap.size 27 #[.int .i64 f.sort, .string f.text, .slice a2 f.scopes.length k2, .int .i64 f.frm, .slice a4 f.kids.length k4]) := by
    show Own _ _ _ _
    rw [hW]; exact ((own_new _ _ _).more (by simp) _).more (by simp; omega) _
  have O1 : Hid (Own W (w.heap.size + 1) 27 #[.int .i64 0, .string ⟨#[]⟩, .slice none 0 0, .int .i64 0, .slice none 0 0]) := by
    show Own _ _ _ _
    have h := own_new (w.alloc (.cells #[.int .i64 f.sort, .string f.text, .slice a2 f.scopes.length k2, .int .i64 f.frm, .slice a4 f.kids.length k4] 27)) #[.int .i64 0, .string ⟨#[]⟩, .slice none 0 0, .int .i64 0, .slice none 0 0] 27
    rw [World.size_alloc] at h
    rw [hW]; exact h.more (by simp) _
  have O2 : Hid (Own W (w.heap.size + 2) 27 #[.int .i64 f.sort, .string f.text, .slice a2 f.scopes.length k2, .int .i64 f.frm, .slice a4 f.kids.length k4]) := by
    show Own _ _ _ _
    have h := own_new ((w.alloc (.cells #[.int .i64 f.sort, .string f.text, .slice a2 f.scopes.length k2, .int .i64 f.frm, .slice a4 f.kids.length k4] 27)).alloc (.cells #[.int .i64 0, .string ⟨#[]⟩, .slice none 0 0, .int .i64 0, .slice none 0 0] 27)) #[.int .i64 f.sort, .string f.text, .slice a2 f.scopes.length k2, .int .i64 f.frm, .slice a4 f.kids.length k4] 27
    rw [World.size_alloc, World.size_alloc] at h
    rw [hW]; exact h
  have HWB : Hid (Below w.heap.size w W) := by
    show Below _ _ _
    rw [hW]; exact (((Below.refl _ _).alloc (Nat.le_refl _) _).alloc (by simp) _).alloc (by simp; omega) _
  have HO3 : Hid ((W.alloc (.cells #[] 3)).ownsRow (w.heap.size + 3) 3 1 (.slice (some ⟨w.heap.size + 1 + 1 + 1, 0, none⟩) 0 0) 0 (([] : List Int).map (Value.int .i64))) := by
    show World.ownsRow _ _ _ _ _ _ _
    have h := World.ownsRow_made (base := w.heap.size + 3) (e := 3) (size := 1) W #[] 0 (by omega) (Nat.zero_le _) (by simp)
    rw [hWs] at h
    exact h
  have HU := hid (H2.out.keep ((HWB.out.on HR.out).alloc (fun b hb => by have := HR.out b hb; omega) (.cells #[] 3)))
  go_enter Try.func31, Try.ntmps31
  go_wp2_with (at_builtin; rw [← hW]; refine wpList_append_ints _ rfl _ _ rfl (w.heap.size + 3) i0 Hi.out Hz0.out Hz1.out Hz2.out (w.heap.size + 1 + 1 + 1) 0 0 [] rfl HO3.out B _ f.scopes rfl HU.out (by have := HCo.out; omega) (by simp; omega) ?_; intro g c w1 ho hg hbg; have P0 := hid ((O0.out.more (by omega) _).far hg (by simp; omega)); have P1 := hid ((O1.out.more (by omega) _).far hg (by simp)); have P2 := hid ((O2.out.more (by omega) _).far hg (by simp)); have p4 := P0.out.cell 4; have p2 := P2.out.cell 2; have z2 := P2.out.frozen 2; simp at p4 p2 z2)
  have hgs := grown_set w1 (w.heap.size + 1 + 1) 2 (.slice (some ⟨g, 0, none⟩) f.scopes.length c)
  have hs1 := hg.size
  simp only [World.size_alloc] at hs1
  have hB1 : Below w.heap.size w (w1.setCell ⟨w.heap.size + 1 + 1, 2, none⟩ (.slice (some ⟨g, 0, none⟩) f.scopes.length c)) := by
    refine (HWB.out.trans (((Below.refl w.heap.size W).alloc (by omega) (.cells #[] 3)).trans ⟨hg.os, hg.tape, hg.output, hg.size, fun i hi => hg.block i (by simp; omega) (by simp; omega)⟩)).setCell (by simp; omega) _
  have HB1 := hid hB1
  have R0 := hid (P0.out.far hgs (by simp; omega))
  have R1 := hid (P1.out.far hgs (by simp))
  have R2 := P2.out.set 2 (.slice (some ⟨g, 0, none⟩) f.scopes.length c)
  simp at R2
  have R2 := hid R2
  have hgw : g < w1.heap.size := (ho.lt g rfl).2
  have HO := hid (ho.kept hgs (Or.inr fun e => by simp [Value.ownBlock] at e; omega))
  rw [Nat.zero_add] at HO
  have HQ := hid (HI.out f.kids (by have := HSz.out; omega) B (w1.setCell ⟨w.heap.size + 1 + 1, 2, none⟩ (.slice (some ⟨g, 0, none⟩) f.scopes.length c)) (.slice a4 f.kids.length k4) (H4.out.keep (hB1.on HR.out)) (fun b hb => by have := HR.out b hb; simp; omega) (by have := HCo.out; omega))
  have hsW : (w1.setCell ⟨w.heap.size + 1 + 1, 2, none⟩ (.slice (some ⟨g, 0, none⟩) f.scopes.length c)).heap.size = w1.heap.size := by simp
  clear ho hg hgs hB1 P0 P1 P2 p4 p2 z2
  generalize w1.setCell ⟨w.heap.size + 1 + 1, 2, none⟩ (.slice (some ⟨g, 0, none⟩) f.scopes.length c) = w2 at *
  refine HQ.out.mono ?_
  rintro e w3 ⟨u, S, rfl, hu, hw3⟩
  have hs3 := hw3.size
  have HU3 := hid hu
  obtain ⟨ua, uc, rfl⟩ := hu.shape
  clear hu
  have T1 := hid (R1.out.keep hw3 (by omega))
  have T2 := hid (R2.out.keep hw3 (by omega))
  have HO3 := hid (HO.out.kept (row := none) ⟨hw3.os, hw3.tape, hw3.output, hw3.size, fun i hi _ => hw3.block i hi⟩ (by simp [Value.ownBlock]))
  have HB3 := hid (HB1.out.trans (hw3.mono (by omega)))
  have a0 := T2.out.cell 0
  have a1 := T2.out.cell 1
  have a2' := T2.out.cell 2
  have a3 := T2.out.cell 3
  have a4' := T2.out.cell 4
  have z4 := T2.out.frozen 4
  have b0 := T1.out.cell 0
  have b1 := T1.out.cell 1
  have b2 := T1.out.cell 2
  have b3 := T1.out.cell 3
  have b4 := T1.out.cell 4
  have y0 := T1.out.frozen 0
  have y1 := T1.out.frozen 1
  have y2 := T1.out.frozen 2
  have y3 := T1.out.frozen 3
  have y4 := T1.out.frozen 4
  simp at a0 a1 a2' a3 a4' b0 b1 b2 b3 b4
  clear hw3 HQ
  go_wp2_with fail
  refine bodyPost_ret (v := .agg #[.int .i64 f.sort, .string f.text, .slice (some ⟨g, 0, none⟩) f.scopes.length c, .int .i64 f.frm, .slice ua f.kids.length uc]) (by simp [results, Try.results31, go_sem, b0, b1, b2, b3, b4]) rfl ?_
  have hg5 := wr5_grown (w3.setCell ⟨w.heap.size + 1 + 1, 4, none⟩ (.slice ua f.kids.length uc)) (w.heap.size + 1) (.int .i64 f.sort) (.string f.text) (.slice (some ⟨g, 0, none⟩) f.scopes.length c) (.int .i64 f.frm) (.slice ua f.kids.length uc)
  have hg4 := grown_set w3 (w.heap.size + 1 + 1) 4 (.slice ua f.kids.length uc)
  have hz5 : (wr5 (w3.setCell ⟨w.heap.size + 1 + 1, 4, none⟩ (.slice ua f.kids.length uc)) (w.heap.size + 1) (.int .i64 f.sort) (.string f.text) (.slice (some ⟨g, 0, none⟩) f.scopes.length c) (.int .i64 f.frm) (.slice ua f.kids.length uc)).heap.size = w3.heap.size := by rw [wr5_size]; simp
  have hO5 := (HO3.out.kept hg4 (Or.inr fun e => by simp [Value.ownBlock] at e; omega)).kept hg5 (Or.inr fun e => by simp [Value.ownBlock] at e; omega)
  have hb4 : ∀ i, (Value.slice ua f.kids.length uc).ownBlock = some i → w2.heap.size ≤ i := fun i e => (HU3.out.lt e).1
  have hK5 := (HU3.out.keep hg4 (fun i e hS => by cases e; have := (HU3.out.low _ hS).1; omega) (by cases hu : (Value.slice ua f.kids.length uc).ownBlock with | none => exact Or.inl rfl | some i => exact Or.inr fun e => by have := hb4 i hu; simp at e; omega)).keep hg5 (fun i e hS => by cases e; have := (HU3.out.low _ hS).1; omega) (by cases hu : (Value.slice ua f.kids.length uc).ownBlock with | none => exact Or.inl rfl | some i => exact Or.inr fun e => by have := hb4 i hu; simp at e; omega)
  have hO6 : (wr5 (w3.setCell ⟨w.heap.size + 1 + 1, 4, none⟩ (.slice ua f.kids.length uc)) (w.heap.size + 1) (.int .i64 f.sort) (.string f.text) (.slice (some ⟨g, 0, none⟩) f.scopes.length c) (.int .i64 f.frm) (.slice ua f.kids.length uc)).ownsRow w.heap.size 3 1 (.slice (some ⟨g, 0, none⟩) f.scopes.length c) f.scopes.length (f.scopes.map (Value.int .i64)) := by
    refine ⟨hO5.1, ?_⟩
    rcases hO5.2 with h | ⟨g', cap', cur', h1, h2, h3⟩
    · exact Or.inl h
    · exact Or.inr ⟨g', cap', cur', h1, by omega, h3⟩
  refine ⟨_, _, _, _, _, rfl, (formAt_iff _ _ _ _ _ _ _ _).2 ⟨rfl, rfl, ht, ?_, rfl, ?_⟩, ⟨g, c, w2.heap.size, S, rfl, hO6, by omega, by omega, by show _ ≤ (wr5 _ _ _ _ _ _ _).heap.size; rw [hz5]; omega, hK5⟩, ?_⟩
  · exact row_ints hO5 (show f.scopes.length ≤ maxLen by unfold maxLen; have := HCo.out; omega) fun i h1 h2 => ⟨by omega, h2⟩
  · exact hK5.forms (by unfold maxLen; have := HCo.out; omega) fun i h1 h2 => ⟨by omega, h2⟩
  · exact HB3.out.trans (((⟨hg4.os, hg4.tape, hg4.output, hg4.size, fun i hi => hg4.block i (by omega) (by simp; omega)⟩ : Below w.heap.size w3 _)).trans ⟨hg5.os, hg5.tape, hg5.output, hg5.size, fun i hi => hg5.block i (by simp; omega) (by simp; omega)⟩)

theorem copy_all : ∀ n, CopyForm n ∧ CopyForms n
  | 0 => by
    have h : CopyForm 0 := fun f hf => by have := Fm.sz_kids f; omega
    exact ⟨h, copies_of 0 h⟩
  | n + 1 => by
    have h := copy_of n (copy_all n).2
    exact ⟨h, copies_of (n + 1) h⟩
theorem l1Copy_any (f : Fm) (B : Nat → Prop) (w : World) (c0 c1 c2 c3 c4 : Value) (h : FormAt B w f c0 c1 c2 c3 c4) (hB : ∀ b, B b → b < w.heap.size) (hc : f.cost ≤ 1048576) :
    Calls Try.prog 31 #[.agg #[c0, c1, c2, c3, c4]] w fun e w' => ∃ d0 d1 d2 d3 d4, e = .returned (.agg #[d0, d1, d2, d3, d4]) ∧ FormAt (Fresh w w') w' f d0 d1 d2 d3 d4 ∧ Copied w w' f d2 d4 ∧ Below w.heap.size w w' :=
  (copy_all f.sz).1 f (Nat.le_refl _) B w c0 c1 c2 c3 c4 h hB hc

end Go.Proofs.Ytbloafjkejkjcaa
