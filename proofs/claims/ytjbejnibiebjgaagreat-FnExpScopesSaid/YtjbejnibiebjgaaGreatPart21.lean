/-
  The program's plain of each kind: the form as it is handed out, in memory of its own. Condition: the form lies in memory as InAt says.
  The program's ExpWith and ExpFlip: the form with other scopes, in memory of its own; nothing, if the form is not ok or the scope is none. Condition: the form lies in memory, and costs at most 1048576.
  The program's ExpWith and ExpFlip: the form with other scopes, in memory of its own; nothing, if the form is not ok or the scope is none. Condition: the form lies in memory, and costs at most 1048576.
-/
import Derived.Test.YtjbejnibiebjgaaGreatPart12
import Derived.Test.YtjbejnibiebjgaaGreatPart13
namespace Go.Proofs.YtjbejnibiebjgaaGreat
open Go.RowKit Go.Siskin

set_option maxRecDepth 20000 in
set_option maxHeartbeats 4000000 in
theorem plDots_any (n : Nat) (ih : PlIms n) (ihe : PlIm n) (ps : List Im) (l : Im) (hps : Im.szs ps ≤ n) (hl : l.sz ≤ n) (hll : l.sz ≤ 1048576) (R : Nat → Prop) (w : World) (a : Option Addr) (cap : Nat) (x : Value) (hm : Im.szs ps ≤ 1048576) (ha : ps = [] ∨ ∃ b o, a = some ⟨b, o, none⟩ ∧ R b ∧ InRow R w b o ps) (hx : InAt R w l x) (hfew : ∀ (i : Nat) (hi : i < ps.length), fewI ps[i]) (hfl : fewI l) (hR : ∀ b, R b → b < w.heap.size) :
    Calls Tryz.prog 140 #[.agg #[.slice a ps.length cap, x]] w fun e w' => ∃ c2 c4, e = .returned (handed ⟨4, ⟨#[]⟩, [], 0, ps.map outI ++ [outI l]⟩ c2 c4) ∧ Tree w' ⟨4, ⟨#[]⟩, [], 0, ps.map outI ++ [outI l]⟩ (Fresh w w') c2 c4 ∧ Below w.heap.size w w' := by
  have hpl := Im.szs_len ps
  have HR := hid hR
  have HX := hid hx
  have HIE := hid ihe
  have HUL := hid hfl
  obtain ⟨i0, hi, hz0, hz1, hz2⟩ := info_parts Tryz.infoFormE
  have Hi := hid hi
  have Hz0 := hid hz0
  have Hz1 := hid hz1
  have Hz2 := hid hz2
  clear hi hz0 hz1 hz2
  obtain ⟨W, hW⟩ : ∃ W, W = ((w.alloc (.cells #[.slice a ps.length cap, x] 97)).alloc (.cells #[.int .i64 0, .string ⟨#[]⟩, .slice none 0 0, .int .i64 0, .slice none 0 0] 26)).drew := ⟨_, rfl⟩
  have hWs : W.heap.size = w.heap.size + 2 := by rw [hW]; simp
  have HWB : Hid (Below w.heap.size w W) := by
    show Below _ _ _
    rw [hW]; exact (((Below.refl _ _).alloc (Nat.le_refl _) _).alloc (by simp) _).drew
  have O0 : Hid (Own W w.heap.size 97 #[.slice a ps.length cap, x]) := by
    show Own _ _ _ _
    rw [hW]; exact (own_new _ _ _).more (by simp) _
  have O1 : Hid (Own W (w.heap.size + 1) 26 #[.int .i64 0, .string ⟨#[]⟩, .slice none 0 0, .int .i64 0, .slice none 0 0]) := by
    show Own _ _ _ _
    have h := own_new (w.alloc (.cells #[.slice a ps.length cap, x] 97)) #[.int .i64 0, .string ⟨#[]⟩, .slice none 0 0, .int .i64 0, .slice none 0 0] 26
    rw [World.size_alloc] at h
    rw [hW]; exact h
  have HQ := hid (ih ps hps R W a cap hm (by
    rcases ha with h | ⟨b, o, h1, h2, h3⟩
    · exact Or.inl h
    · exact Or.inr ⟨b, o, h1, h2, InRow.keep (HWB.out.on HR.out) h2 _ h3⟩) hfew (fun b hb => by have := HR.out b hb; omega))
  obtain ⟨tx, xx, rfl⟩ := hx.iface
  have htx : tx = 62 ∨ tx = 90 ∨ tx = 95 ∨ tx = 97 := by
    rcases InAt.sorts hx with ⟨x', e⟩ | ⟨x', e⟩ | ⟨x', e⟩ | ⟨x', e⟩
    · cases e; exact Or.inl rfl
    · cases e; exact Or.inr (Or.inl rfl)
    · cases e; exact Or.inr (Or.inr (Or.inl rfl))
    · cases e; exact Or.inr (Or.inr (Or.inr rfl))
  have HTX := hid htx
  clear ih ha hfew hR hx ihe hfl htx
  go_enter Tryz.func140, Tryz.ntmps140
  go_wp2_with fail
  have c0 := O0.out.cell 0
  have c1 := O0.out.cell 1
  simp at c0 c1
  have L0 := hid (And.intro c0 c1)
  refine wp_region_held_drew (S := fun w' => w'.cell? ⟨w.heap.size, 0, none⟩ = some (.slice a ps.length cap) ∧ w'.cell? ⟨w.heap.size, 1, none⟩ = some (.iface tx xx)) rfl (by have h := L0.out; rw [hW] at h; exact h) (fun _ => ?_)
  rw [← hW]
  clear hW c0 c1
  refine wpAnyH_take (i := 0) (oi := ({ dst := some 3, op := _, type := _, pos := _, after := _, guard := _ } : Oper)) (v := (.pointer (some ⟨w.heap.size, 0, none⟩))) rfl (by kernel_rfl) (by kernel_rfl) (by kernel_rfl) (fun _ _ _ h => h) (Or.inl ⟨by rfl, ?_⟩) L0.out ?_
  · intro w hSw; (try dsimp only at hSw); go_simp
  try simp only [Act.put, List.setIfInBounds_toArray, List.set_cons_zero, List.set_cons_succ]
  refine wpAnyH_take (i := 1) (oi := ({ dst := some 4, op := _, type := _, pos := _, after := _, guard := _ } : Oper)) (v := (.slice a ps.length cap)) rfl (by kernel_rfl) (by kernel_rfl) (by kernel_rfl) (fun _ _ _ h => h) (Or.inl ⟨by rfl, ?_⟩) L0.out ?_
  · intro w hSw; (try dsimp only at hSw); go_simp
  try simp only [Act.put, List.setIfInBounds_toArray, List.set_cons_zero, List.set_cons_succ]
  refine wpAnyH_take (i := 3) (oi := ({ dst := some 6, op := _, type := _, pos := _, after := _, guard := _ } : Oper)) (v := (.pointer (some ⟨w.heap.size, 1, none⟩))) rfl (by kernel_rfl) (by kernel_rfl) (by kernel_rfl) (fun _ _ _ h => h) (Or.inl ⟨by rfl, ?_⟩) L0.out ?_
  · intro w hSw; (try dsimp only at hSw); go_simp
  try simp only [Act.put, List.setIfInBounds_toArray, List.set_cons_zero, List.set_cons_succ]
  refine wpAnyH_take (i := 4) (oi := ({ dst := some 7, op := _, type := _, pos := _, after := _, guard := _ } : Oper)) (v := (.iface tx xx)) rfl (by kernel_rfl) (by kernel_rfl) (by kernel_rfl) (fun _ _ _ h => h) (Or.inl ⟨by rfl, ?_⟩) L0.out ?_
  · intro w hSw; (try dsimp only at hSw); go_simp
  try simp only [Act.put, List.setIfInBounds_toArray, List.set_cons_zero, List.set_cons_succ]
  refine wpAnyH_ready (rs := [2]) (by kernel_rfl) (by simp) ?_
  refine AllReadyH.cons (o := ({ dst := some 5, op := _, type := _, pos := _, after := _, guard := _ } : Oper)) rfl (fun K hK => ?_) AllReadyH.nil
  go_simp
  go_at_call 133
  refine HQ.out.mono ?_
  rintro e w1 ⟨v, rfl, h1, hw1⟩
  have H1 := hid h1
  obtain ⟨va, vc, rfl⟩ := trow_shape h1
  have hs1 := hw1.size
  have HB1 := hid hw1
  have P0 := hid (O0.out.keep hw1 (by omega))
  have P1 := hid (O1.out.keep hw1 (by omega))
  have d0 := P0.out.cell 0
  have d1 := P0.out.cell 1
  simp at d0 d1
  have L1 := hid (And.intro d0 d1)
  obtain ⟨N, hN⟩ : ∃ N, N = (ps.map outI).length := ⟨_, rfl⟩
  have hNl : N ≤ 1048576 := by rw [hN, List.length_map]; omega
  have HN := hid hN
  rw [← HN.out] at H1 ⊢
  clear h1 hw1 d0 d1 hN
  go_wp2_with fail
  refine hK.out _ _ L1.out (fun _ => ?_)
  clear hK K
  try simp only [Act.put, List.setIfInBounds_toArray, List.set_cons_zero, List.set_cons_succ]
  refine wpAnyH_ready (rs := [5]) (by kernel_rfl) (by simp) ?_
  refine AllReadyH.cons (o := ({ dst := some 8, op := _, type := _, pos := _, after := _, guard := _ } : Oper)) rfl (fun K hK => ?_) AllReadyH.nil
  have hBW1 := HWB.out.trans (HB1.out.mono (by omega))
  have hq := HIE.out l hl hll R w1 tx xx (InAt.keep (hBW1.on HR.out) _ HX.out) HUL.out (fun b hb => by have := HR.out b hb; omega)
  obtain ⟨f, hf⟩ : ∃ f, f = outI l := ⟨_, rfl⟩
  rw [← hf] at hq
  have HFE := hid hf
  have HQ2 := hid hq
  have HBW1 := hid hBW1
  clear hq hBW1 hf
  have m1 := mpl_id
  have m2 := mpl_atom
  have m3 := mpl_list
  have m4 := mpl_dots
  simp [plName] at m1 m2 m3 m4
  rcases HTX.out with rfl | rfl | rfl | rfl
  all_goals
    have hq := HQ2.out
    simp only [plFn_id, plFn_atom, plFn_list, plFn_dots, handed] at hq
    have HQ3 := hid hq
    clear hq
    go_simp
    refine HQ3.out.mono ?_
    rintro e w2 ⟨e2, e4, rfl, ht, hw2⟩
    have HT := hid ht
    obtain ⟨⟨x2, y2, rfl⟩, x4, y4, rfl⟩ := tree_shape ht
    have HB2 := hid hw2
    have hs2 := hw2.size
    have P2 := hid (P0.out.keep hw2 (by omega))
    have Q2 := hid (P1.out.keep hw2 (by omega))
    have d0 := P2.out.cell 0
    have d1 := P2.out.cell 1
    simp at d0 d1
    have L2 := hid (And.intro d0 d1)
    clear ht hw2 d0 d1
    go_wp2_with fail
    refine hK.out _ _ L2.out (fun _ => ?_)
    clear hK K
    try simp only [Act.put, List.setIfInBounds_toArray, List.set_cons_zero, List.set_cons_succ]
    refine wpAnyH_ready (rs := [6]) (by kernel_rfl) (by simp) ?_
    refine AllReadyH.cons (o := ({ dst := some 9, op := _, type := _, pos := _, after := _, guard := _ } : Oper)) rfl (fun K hK => ?_) AllReadyH.nil
    go_simp
    have P3 := P2.out.more (by omega) (.cells #[.int .i64 f.sort, .string f.text, .slice x2 f.scopes.length y2, .int .i64 f.frm, .slice x4 f.kids.length y4] 26)
    have d0 := P3.cell 0
    have d1 := P3.cell 1
    simp only [List.getElem?_toArray, List.getElem?_cons_zero, List.getElem?_cons_succ] at d0 d1
    have L3 := hid (And.intro d0 d1)
    clear P3 d0 d1
    refine hK.out _ _ L3.out (fun _ => ?_)
    clear hK K
    try simp only [Act.put, List.setIfInBounds_toArray, List.set_cons_zero, List.set_cons_succ]
    refine wpAnyH_ready (rs := [7]) (by kernel_rfl) (by simp) ?_
    refine AllReadyH.cons (o := ({ dst := some 10, op := _, type := _, pos := _, after := _, guard := _ } : Oper)) rfl (fun K hK => ?_) AllReadyH.nil
    obtain ⟨cs, F, hP⟩ := H1.out
    have HP := hid hP
    have hr := (hP.keep (HB2.out.on fun b hb => hb.2)).row
    rw [← HN.out] at hr
    have R1 := hid hr
    clear hP hr
    refine step_append_lies _ (by rfl) _ _ _ (by rfl) 0 26 i0 _ 5 80 Tryz.underlying24 Hi.out Hz0.out Hz1.out Hz2.out rfl (by omega) (.slice va N vc) N cs (by rfl) (R1.out.alloc _) ⟨w2.heap.size, 0, none⟩ 1 1 [.int .i64 f.sort, .string f.text, .slice x2 f.scopes.length y2, .int .i64 f.frm, .slice x4 f.kids.length y4] (by rfl) (by rfl) (World.news_of_block (cs := #[.int .i64 f.sort, .string f.text, .slice x2 f.scopes.length y2, .int .i64 f.frm, .slice x4 f.kids.length y4]) (heap_alloc_new _ _)) (by simp [Value.oneCell']) (by omega) (by unfold maxLen; omega) (by omega) (Nat.zero_le _) (w2.heap.size + 1) (by simp) ?_
    intro g4 cap4 w4 hown4 hg4 hat hlt4
    have hall := (World.grownBy_alloc w2 _ _).trans hg4
    have hlow : ∀ g, (Value.slice va N vc).ownBlock = some g → W.heap.size ≤ g := fun g e => (HP.out.own g e).1
    have hs4 := hall.size
    have P4 := P2.out.far hall (fun e => by have := hlow _ e.symm; omega)
    have Q4 := Q2.out.far hall (fun e => by have := hlow _ e.symm; omega)
    have d0 := P4.cell 0
    have d1 := P4.cell 1
    have f0 := Q4.cell 0
    have f1 := Q4.cell 1
    have f2 := Q4.cell 2
    have f3 := Q4.cell 3
    have f4 := Q4.cell 4
    have z0 := Q4.frozen 0
    have z1 := Q4.frozen 1
    have z2 := Q4.frozen 2
    have z3 := Q4.frozen 3
    have z4 := Q4.frozen 4
    simp only [List.getElem?_toArray, List.getElem?_cons_zero, List.getElem?_cons_succ] at d0 d1 f0 f1 f2 f3 f4
    have L4 := hid (And.intro d0 d1)
    have HP4 := hid P4
    have HTR := hid (HP.out.snoc (by omega) HB2.out HT.out hall (by rw [← HN.out]; exact hown4) (by
      rcases hat with h | h
      · exact Or.inl h.symm
      · exact Or.inr ⟨g4, rfl, by omega⟩))
    have HA := hid hall
    have HLO := hid hlow
    clear hown4 hg4 hat hall hlow P4 Q4 d0 d1
    refine hK.out _ _ L4.out (fun _ => ?_)
    clear hK K
    try simp only [Act.put, List.setIfInBounds_toArray, List.set_cons_zero, List.set_cons_succ]
    refine wpAnyH_take (i := 8) (oi := ({ dst := some 11, op := _, type := _, pos := _, after := _, guard := _ } : Oper)) (v := (.agg #[.int .i64 4, .string ⟨#[]⟩, .slice none 0 0, .int .i64 0, .slice (some ⟨g4, 0, none⟩) (N + 1) cap4])) rfl (by kernel_rfl) (by kernel_rfl) (by kernel_rfl) (fun _ _ _ h => h) (Or.inl ⟨by rfl, ?_⟩) L4.out ?_
    · intro w hSw; (try dsimp only at hSw); go_simp
    try simp only [Act.put, List.setIfInBounds_toArray, List.set_cons_zero, List.set_cons_succ]
    refine wpAnyH_ready (rs := [9]) (by kernel_rfl) (by simp) ?_
    refine AllReadyH.cons (o := ({ dst := none, op := _, type := _, pos := _, after := _, guard := _ } : Oper)) rfl (fun K hK => ?_) AllReadyH.nil
    go_simp
    have hgr := wr5_grown w4 (w.heap.size + 1) (.int .i64 4) (.string ⟨#[]⟩) (.slice none 0 0) (.int .i64 0) (.slice (some ⟨g4, 0, none⟩) (N + 1) cap4)
    have P5 := HP4.out.far hgr (by simp)
    have d0 := P5.cell 0
    have d1 := P5.cell 1
    simp only [wr5, List.getElem?_toArray, List.getElem?_cons_zero, List.getElem?_cons_succ] at d0 d1
    have L5 := hid (And.intro d0 d1)
    have HGR := hid hgr
    clear P5 d0 d1 hgr
    go_wp2_with fail
    refine hK.out _ _ L5.out (fun _ => ?_)
    clear hK K
    try simp only [Act.put, List.setIfInBounds_toArray, List.set_cons_zero, List.set_cons_succ]
    refine wpAnyH_done (by kernel_rfl) ?_ _
    go_wp2_with fail
    refine bodyPost_ret (v := .agg #[.int .i64 4, .string ⟨#[]⟩, .slice none 0 0, .int .i64 0, .slice (some ⟨g4, 0, none⟩) (N + 1) cap4]) (by simp [results, Tryz.results140, go_sem, f0, f1, f2, f3, f4]) rfl ?_
    have hz5 : (wr5 w4 (w.heap.size + 1) (.int .i64 4) (.string ⟨#[]⟩) (.slice none 0 0) (.int .i64 0) (.slice (some ⟨g4, 0, none⟩) (N + 1) cap4)).heap.size = w4.heap.size := wr5_size _ _ _ _ _ _ _
    refine ⟨_, _, rfl, ?_, (((HBW1.out.trans (HB2.out.mono (by omega))).trans ⟨HA.out.os, HA.out.tape, HA.out.output, HA.out.size, fun i hi => HA.out.block i (by omega) fun e => by have := HLO.out i e.symm; omega⟩).trans (wr5_below (w := w4) (by omega) _ _ _ _ _))⟩
    rw [tree_iff]
    refine ⟨World.ownsRow_nil _ _ _ _, fun g e => (by cases e), ?_⟩
    show TRow _ _ _ (List.map outI ps ++ [outI l])
    rw [← HFE.out]
    refine (HTR.out.keep (w' := wr5 w4 (w.heap.size + 1) (.int .i64 4) (.string ⟨#[]⟩) (.slice none 0 0) (.int .i64 0) (.slice (some ⟨g4, 0, none⟩) (N + 1) cap4)) fun b hb => HGR.out.block b hb.2 (by have := hb.1; simp; omega)).mono fun b hb => ⟨⟨by have := hb.1; omega, by have := hb.2; rw [← hz5] at this; exact this⟩, by simp [Value.ownBlock]⟩

theorem plIm_of (n : Nat) (ih : PlIms n) (ihe : PlIm n) : PlIm (n + 1) := by
  intro p hp hpm R w t x hx hfew hR
  rw [InAt_kinds] at hx
  rcases hx with ⟨tt, xs, fr, rfl, c2, h1, h2, h3⟩ | ⟨tt, rfl, h1, h2⟩ | ⟨ps, rfl, a, cap, h1, h2, h3⟩ | ⟨ps, l, rfl, a, cap, e, h1, h2, h3, h4⟩
  · cases h1
    rw [plFn_id, outI_id]
    rw [fewI_eq] at hfew
    exact plId_any tt xs fr c2 R w h3 hR hfew.1
  · cases h1
    rw [plFn_atom, outI_atom]
    exact plAtom_any tt w
  · cases h1
    rw [plFn_list, outI_list]
    rw [Im.sz_list] at hp hpm
    exact plList_any n ih ps (by omega) R w a cap (by omega) h3 (fewI_list.1 hfew) hR
  · cases h1
    rw [plFn_dots, outI_dots]
    rw [Im.sz_dots] at hp hpm
    have := Im.sz_pos l
    exact plDots_any n ih ihe ps l (by omega) (by omega) (by omega) R w a cap e (by omega) h3 h4 (fewI_dots.1 hfew).1 (fewI_dots.1 hfew).2 hR
theorem pl_all : ∀ n, PlIm n ∧ PlIms n
  | 0 => by
    have h : PlIm 0 := fun p hp => by have := Im.sz_pos p; omega
    exact ⟨h, plIms_of 0 h⟩
  | n + 1 => by
    have h := plIm_of n (pl_all n).2 (pl_all n).1
    exact ⟨h, plIms_of (n + 1) h⟩
theorem plain_any (p : Im) (hp : p.sz ≤ 1048576) (R : Nat → Prop) (w : World) (t : TypeId) (x : Value) (hx : InAt R w p (.iface t x)) (hfew : fewI p) (hR : ∀ b, R b → b < w.heap.size) :
    Calls Tryz.prog (plFn t) #[x] w fun e w' => ∃ c2 c4, e = .returned (handed (outI p) c2 c4) ∧ Tree w' (outI p) (Fresh w w') c2 c4 ∧ Below w.heap.size w w' :=
  (pl_all p.sz).1 p (Nat.le_refl _) hp R w t x hx hfew hR

end Go.Proofs.YtjbejnibiebjgaaGreat

namespace Go.Proofs.YtjbejnibiebjgaaGreat
open Go.RowKit Go.Siskin

theorem tree_no (w : World) (S : Nat → Prop) : Tree w Fm.no S (.slice none 0 0) (.slice none 0 0) := by
  rw [tree_iff]
  exact ⟨World.ownsRow_nil _ _ _ _, fun g e => (by cases e), trow_nil _ _⟩
theorem sort_of {R : Nat → Prop} {w : World} {p : Im} {tx : TypeId} {xx : Value} (h : InAt R w p (.iface tx xx)) : tx = 62 ∨ tx = 90 ∨ tx = 95 ∨ tx = 97 := by
  rcases InAt.sorts h with ⟨x', e⟩ | ⟨x', e⟩ | ⟨x', e⟩ | ⟨x', e⟩
  · cases e; exact Or.inl rfl
  · cases e; exact Or.inr (Or.inl rfl)
  · cases e; exact Or.inr (Or.inr (Or.inl rfl))
  · cases e; exact Or.inr (Or.inr (Or.inr rfl))

set_option maxRecDepth 20000 in
set_option maxHeartbeats 4000000 in
theorem rescoped_any {wf : Nat} {n : Int} {g : List Int → List Int} (hg : Scoped wf n g) (f : Fm) (B : Nat → Prop) (w : World) (c0 c1 c2 c3 c4 : Value) (hA : FormAt B w f c0 c1 c2 c3 c4) (hB : ∀ b, B b → b < w.heap.size) (hc : f.cost ≤ 1048576) :
    Calls Tryz.prog 16 #[.agg #[c0, c1, c2, c3, c4], .int .i64 n, .func (.func wf) #[] #[]] w fun e w' => ∃ d2 d4, e = .returned (handed (resF g n f) d2 d4) ∧ Tree w' (resF g n f) (Fresh w w') d2 d4 ∧ Below w.heap.size w w' := by
  have HR := hid hB
  have HG := hid hg
  obtain ⟨fn, hfn⟩ := hg.clo
  have HFN := hid hfn
  obtain ⟨W, hW⟩ : ∃ W, W = (w.alloc (.cells #[c0, c1, c2, c3, c4] 26)).alloc (.cells #[.int .i64 0, .string ⟨#[]⟩, .slice none 0 0, .int .i64 0, .slice none 0 0] 26) := ⟨_, rfl⟩
  have hWs : W.heap.size = w.heap.size + 2 := by rw [hW]; simp
  have HWB : Hid (Below w.heap.size w W) := by
    show Below _ _ _
    rw [hW]; exact ((Below.refl _ _).alloc (Nat.le_refl _) _).alloc (by simp) _
  have O2 : Hid (Own W (w.heap.size + 1) 26 #[.int .i64 0, .string ⟨#[]⟩, .slice none 0 0, .int .i64 0, .slice none 0 0]) := by
    show Own _ _ _ _
    have h := own_new (w.alloc (.cells #[c0, c1, c2, c3, c4] 26)) #[.int .i64 0, .string ⟨#[]⟩, .slice none 0 0, .int .i64 0, .slice none 0 0] 26
    rw [World.size_alloc] at h
    rw [hW]; exact h
  have HO := hid (openForm_any f B W c0 c1 c2 c3 c4 (FormAt.keep (HWB.out.on HR.out) _ hA) (fun b hb => by have := HR.out b hb; omega) hc)
  obtain ⟨rfl, rfl, ht, h2, rfl, h4⟩ := (formAt_iff _ _ _ _ _ _ _ _).1 hA
  obtain ⟨a2, k2, rfl, -⟩ := h2
  obtain ⟨a4, k4, rfl, -⟩ := h4
  clear hA hB hg hfn
  by_cases hbad : formOk f = true ∧ 0 ≤ n
  · obtain ⟨hok, hn0⟩ := hbad
    have HX : Hid (resF g n f = chF g f) := by show _ = _; unfold resF; rw [if_pos ⟨hok, hn0⟩]
    obtain ⟨hkn, hz1, hz2⟩ := ok_known HFN.out f hok hc
    have HK := hid hkn
    clear hkn
    have ho := HO.out
    rw [hok] at ho
    have HO := hid ho
    clear ho
    have hnn : ¬ n < 0 := by omega
    go_enter Tryz.func16, Tryz.ntmps16
    go_wp2_with fail
    rw [← hW]
    refine HO.out.mono ?_
    rintro e w1 ⟨v, rfl, hw1, hv⟩
    have hin := hv (by trivial)
    obtain ⟨tx, xx, rfl⟩ := hin.iface
    have hs1 := hw1.size
    have HIN := hid hin
    have HB1 := hid hw1
    have Q2 := hid (O2.out.keep hw1 (by omega))
    have HQ := hid (scoped_any HG.out (toIm f) hz1 (Reg B W w1) w1 tx xx hin HK.out.2.1 (fun b hb => reg_lt (fun b hb => by have := HR.out b hb; omega) hs1 hb))
    clear hin hw1 hv hW
    have p1 := mpl_id
    have p2 := mpl_atom
    have p3 := mpl_list
    have p4 := mpl_dots
    simp [plName] at p1 p2 p3 p4
    obtain ⟨q, hq0⟩ : ∃ q, q = chI g (toIm f) := ⟨_, rfl⟩
    have HQE := hid hq0
    rw [← HQE.out] at HQ hz2
    clear hq0
    have HFew : Hid (fewI q) := by show fewI q; rw [HQE.out]; exact HK.out.2.2.1
    have HOut : Hid (outI q = chF g f) := by show _ = _; rw [HQE.out]; exact HK.out.1
    rcases HG.out with ⟨rfl, -⟩ | ⟨rfl, -⟩
    all_goals
      have HQ1 := hid HQ.out
      go_wp2_with fail
      refine HQ1.out.mono ?_
      rintro e w2 ⟨y, rfl, hy, hw2⟩
      obtain ⟨ty, yy, rfl⟩ := hy.iface
      have hs2 := hw2.size
      have HTY := hid (sort_of hy)
      have HB2 := hid hw2
      have Q3 := hid (Q2.out.keep hw2 (by omega))
      have HP := hid (plain_any q hz2 (Reg (Reg B W w1) w1 w2) w2 ty yy hy HFew.out (fun b hb => reg_lt (fun b hb => reg_lt (fun b hb => by have := HR.out b hb; omega) hs1 hb) hs2 hb))
      clear hy hw2
      obtain ⟨r, hr0⟩ : ∃ r, r = outI q := ⟨_, rfl⟩
      have HRE := hid hr0
      rw [← HRE.out] at HP
      clear hr0
      rcases HTY.out with rfl | rfl | rfl | rfl
      all_goals
        have hq := HP.out
        simp only [plFn_id, plFn_atom, plFn_list, plFn_dots, handed] at hq
        have HP1 := hid hq
        clear hq
        go_wp2_with fail
        refine HP1.out.mono ?_
        rintro e w3 ⟨d2, d4, rfl, ht3, hw3⟩
        have HT := hid ht3
        obtain ⟨⟨x2, y2, rfl⟩, x4, y4, rfl⟩ := tree_shape ht3
        have hs3 := hw3.size
        have HB3 := hid hw3
        have Q4 := hid (Q3.out.keep hw3 (by omega))
        have f0 := Q4.out.cell 0
        have f1 := Q4.out.cell 1
        have f2 := Q4.out.cell 2
        have f3 := Q4.out.cell 3
        have f4 := Q4.out.cell 4
        have z0 := Q4.out.frozen 0
        have z1 := Q4.out.frozen 1
        have z2 := Q4.out.frozen 2
        have z3 := Q4.out.frozen 3
        have z4 := Q4.out.frozen 4
        simp at f0 f1 f2 f3 f4
        clear ht3 hw3
        go_wp2_with fail
        have hgr := wr5_grown w3 (w.heap.size + 1) (.int .i64 r.sort) (.string r.text) (.slice x2 r.scopes.length y2) (.int .i64 r.frm) (.slice x4 r.kids.length y4)
        have hz5 : (wr5 w3 (w.heap.size + 1) (.int .i64 r.sort) (.string r.text) (.slice x2 r.scopes.length y2) (.int .i64 r.frm) (.slice x4 r.kids.length y4)).heap.size = w3.heap.size := wr5_size _ _ _ _ _ _ _
        refine bodyPost_ret (v := .agg #[.int .i64 r.sort, .string r.text, .slice x2 r.scopes.length y2, .int .i64 r.frm, .slice x4 r.kids.length y4]) (by simp [results, Tryz.results16, go_sem, f0, f1, f2, f3, f4]) rfl ?_
        rw [HX.out, ← HOut.out, ← HRE.out]
        refine ⟨_, _, rfl, ?_, (((HWB.out.trans (HB1.out.mono (by omega))).trans (HB2.out.mono (by omega))).trans (HB3.out.mono (by omega))).trans (wr5_below (w := w3) (by omega) _ _ _ _ _)⟩
        exact (HT.out.keep (w' := wr5 w3 (w.heap.size + 1) (.int .i64 r.sort) (.string r.text) (.slice x2 r.scopes.length y2) (.int .i64 r.frm) (.slice x4 r.kids.length y4)) fun b hb => hgr.block b hb.2 (by have := hb.1; simp; omega)).mono fun b hb => ⟨by have := hb.1; omega, by have := hb.2; rw [← hz5] at this; exact this⟩
  · have HX : Hid (resF g n f = Fm.no) := by show _ = _; unfold resF; rw [if_neg hbad]
    have fin : ∀ w1, Below W.heap.size W w1 → ∃ d2 d4, (Ending.returned (.agg #[.int .i64 0, .string ⟨#[]⟩, .slice none 0 0, .int .i64 0, .slice none 0 0]) : Ending) = .returned (handed (resF g n f) d2 d4) ∧ Tree (wr5 w1 (w.heap.size + 1) (.int .i64 0) (.string ⟨#[]⟩) (.slice none 0 0) (.int .i64 0) (.slice none 0 0)) (resF g n f) (Fresh w (wr5 w1 (w.heap.size + 1) (.int .i64 0) (.string ⟨#[]⟩) (.slice none 0 0) (.int .i64 0) (.slice none 0 0))) d2 d4 ∧ Below w.heap.size w (wr5 w1 (w.heap.size + 1) (.int .i64 0) (.string ⟨#[]⟩) (.slice none 0 0) (.int .i64 0) (.slice none 0 0)) := fun w1 hb => by
      rw [HX.out]
      exact ⟨_, _, rfl, tree_no _ _, (HWB.out.trans (hb.mono (by omega))).trans (wr5_below (by omega) _ _ _ _ _)⟩
    have HFin := hid fin
    clear fin
    cases hok : formOk f with
    | false =>
      have ho := HO.out
      rw [hok] at ho
      have HO := hid ho
      clear ho hbad
      go_enter Tryz.func16, Tryz.ntmps16
      go_wp2_with fail
      rw [← hW]
      refine HO.out.mono ?_
      rintro e w1 ⟨v, rfl, hw1, -⟩
      have HB1 := hid hw1
      have Q4 := hid (O2.out.keep hw1 (by omega))
      have f0 := Q4.out.cell 0
      have f1 := Q4.out.cell 1
      have f2 := Q4.out.cell 2
      have f3 := Q4.out.cell 3
      have f4 := Q4.out.cell 4
      have z0 := Q4.out.frozen 0
      have z1 := Q4.out.frozen 1
      have z2 := Q4.out.frozen 2
      have z3 := Q4.out.frozen 3
      have z4 := Q4.out.frozen 4
      simp at f0 f1 f2 f3 f4
      clear hw1 hW
      go_wp2_with fail
      refine bodyPost_ret (v := .agg #[.int .i64 0, .string ⟨#[]⟩, .slice none 0 0, .int .i64 0, .slice none 0 0]) (by simp [results, Tryz.results16, go_sem, f0, f1, f2, f3, f4]) rfl ?_
      exact HFin.out w1 HB1.out
    | true =>
      have hnn : n < 0 := by
        rcases Int.lt_or_le n 0 with h | h
        · exact h
        · exact absurd ⟨hok, h⟩ hbad
      have ho := HO.out
      rw [hok] at ho
      have HO := hid ho
      clear ho hbad
      go_enter Tryz.func16, Tryz.ntmps16
      go_wp2_with fail
      rw [← hW]
      refine HO.out.mono ?_
      rintro e w1 ⟨v, rfl, hw1, -⟩
      have HB1 := hid hw1
      have Q4 := hid (O2.out.keep hw1 (by omega))
      have f0 := Q4.out.cell 0
      have f1 := Q4.out.cell 1
      have f2 := Q4.out.cell 2
      have f3 := Q4.out.cell 3
      have f4 := Q4.out.cell 4
      have z0 := Q4.out.frozen 0
      have z1 := Q4.out.frozen 1
      have z2 := Q4.out.frozen 2
      have z3 := Q4.out.frozen 3
      have z4 := Q4.out.frozen 4
      simp at f0 f1 f2 f3 f4
      clear hw1 hW
      go_wp2_with fail
      refine bodyPost_ret (v := .agg #[.int .i64 0, .string ⟨#[]⟩, .slice none 0 0, .int .i64 0, .slice none 0 0]) (by simp [results, Tryz.results16, go_sem, f0, f1, f2, f3, f4]) rfl ?_
      exact HFin.out w1 HB1.out

end Go.Proofs.YtjbejnibiebjgaaGreat

namespace Go.Proofs.YtjbejnibiebjgaaGreat
open Go.RowKit Go.Siskin

set_option maxRecDepth 20000 in
set_option maxHeartbeats 1000000 in
theorem implWith_any (n : Int) (f : Fm) (B : Nat → Prop) (w : World) (c0 c1 c2 c3 c4 : Value) (hA : FormAt B w f c0 c1 c2 c3 c4) (hB : ∀ b, B b → b < w.heap.size) (hc : f.cost ≤ 1048576) :
    Calls Tryz.prog 5 #[.agg #[c0, c1, c2, c3, c4], .int .i64 n] w fun e w' => ∃ d2 d4, e = .returned (handed (resF (putB n) n f) d2 d4) ∧ Tree w' (resF (putB n) n f) (Fresh w w') d2 d4 ∧ Below w.heap.size w w' := by
  have HR := hid hB
  obtain ⟨W, hW⟩ : ∃ W, W = (w.alloc (.cells #[c0, c1, c2, c3, c4] 26)).alloc (.cells #[.int .i64 0, .string ⟨#[]⟩, .slice none 0 0, .int .i64 0, .slice none 0 0] 26) := ⟨_, rfl⟩
  have hWs : W.heap.size = w.heap.size + 2 := by rw [hW]; simp
  have HWB : Hid (Below w.heap.size w W) := by
    show Below _ _ _
    rw [hW]; exact ((Below.refl _ _).alloc (Nat.le_refl _) _).alloc (by simp) _
  have O2 : Hid (Own W (w.heap.size + 1) 26 #[.int .i64 0, .string ⟨#[]⟩, .slice none 0 0, .int .i64 0, .slice none 0 0]) := by
    show Own _ _ _ _
    have h := own_new (w.alloc (.cells #[c0, c1, c2, c3, c4] 26)) #[.int .i64 0, .string ⟨#[]⟩, .slice none 0 0, .int .i64 0, .slice none 0 0] 26
    rw [World.size_alloc] at h
    rw [hW]; exact h
  have HQ := hid (rescoped_any (wf := 17) (n := n) (g := putB n) (Or.inl ⟨rfl, rfl⟩) f B W c0 c1 c2 c3 c4 (FormAt.keep (HWB.out.on HR.out) _ hA) (fun b hb => by have := HR.out b hb; omega) hc)
  obtain ⟨rfl, rfl, ht, h2, rfl, h4⟩ := (formAt_iff _ _ _ _ _ _ _ _).1 hA
  obtain ⟨a2, k2, rfl, -⟩ := h2
  obtain ⟨a4, k4, rfl, -⟩ := h4
  clear hA hB
  obtain ⟨r, hr0⟩ : ∃ r, r = resF (putB n) n f := ⟨_, rfl⟩
  rw [← hr0] at HQ ⊢
  clear hr0
  simp only [handed] at HQ
  go_enter Tryz.func5, Tryz.ntmps5
  go_wp2_with fail
  rw [← hW]
  refine HQ.out.mono ?_
  rintro e w3 ⟨d2, d4, rfl, ht3, hw3⟩
  have HT := hid ht3
  obtain ⟨⟨x2, y2, rfl⟩, x4, y4, rfl⟩ := tree_shape ht3
  have hs3 := hw3.size
  have HB3 := hid hw3
  have Q4 := hid (O2.out.keep hw3 (by omega))
  have f0 := Q4.out.cell 0
  have f1 := Q4.out.cell 1
  have f2 := Q4.out.cell 2
  have f3 := Q4.out.cell 3
  have f4 := Q4.out.cell 4
  have z0 := Q4.out.frozen 0
  have z1 := Q4.out.frozen 1
  have z2 := Q4.out.frozen 2
  have z3 := Q4.out.frozen 3
  have z4 := Q4.out.frozen 4
  simp at f0 f1 f2 f3 f4
  clear ht3 hw3 hW
  go_wp2_with fail
  have hgr := wr5_grown w3 (w.heap.size + 1) (.int .i64 r.sort) (.string r.text) (.slice x2 r.scopes.length y2) (.int .i64 r.frm) (.slice x4 r.kids.length y4)
  have hz5 : (wr5 w3 (w.heap.size + 1) (.int .i64 r.sort) (.string r.text) (.slice x2 r.scopes.length y2) (.int .i64 r.frm) (.slice x4 r.kids.length y4)).heap.size = w3.heap.size := wr5_size _ _ _ _ _ _ _
  refine bodyPost_ret (v := .agg #[.int .i64 r.sort, .string r.text, .slice x2 r.scopes.length y2, .int .i64 r.frm, .slice x4 r.kids.length y4]) (by simp [results, Tryz.results5, go_sem, f0, f1, f2, f3, f4]) rfl ?_
  refine ⟨_, _, rfl, ?_, (HWB.out.trans (HB3.out.mono (by omega))).trans (wr5_below (w := w3) (by omega) _ _ _ _ _)⟩
  exact (HT.out.keep (w' := wr5 w3 (w.heap.size + 1) (.int .i64 r.sort) (.string r.text) (.slice x2 r.scopes.length y2) (.int .i64 r.frm) (.slice x4 r.kids.length y4)) fun b hb => hgr.block b hb.2 (by have := hb.1; simp; omega)).mono fun b hb => ⟨by have := hb.1; omega, by have := hb.2; rw [← hz5] at this; exact this⟩

set_option maxRecDepth 20000 in
set_option maxHeartbeats 1000000 in
theorem implFlip_any (n : Int) (f : Fm) (B : Nat → Prop) (w : World) (c0 c1 c2 c3 c4 : Value) (hA : FormAt B w f c0 c1 c2 c3 c4) (hB : ∀ b, B b → b < w.heap.size) (hc : f.cost ≤ 1048576) :
    Calls Tryz.prog 6 #[.agg #[c0, c1, c2, c3, c4], .int .i64 n] w fun e w' => ∃ d2 d4, e = .returned (handed (resF (flipB n) n f) d2 d4) ∧ Tree w' (resF (flipB n) n f) (Fresh w w') d2 d4 ∧ Below w.heap.size w w' := by
  have HR := hid hB
  obtain ⟨W, hW⟩ : ∃ W, W = (w.alloc (.cells #[c0, c1, c2, c3, c4] 26)).alloc (.cells #[.int .i64 0, .string ⟨#[]⟩, .slice none 0 0, .int .i64 0, .slice none 0 0] 26) := ⟨_, rfl⟩
  have hWs : W.heap.size = w.heap.size + 2 := by rw [hW]; simp
  have HWB : Hid (Below w.heap.size w W) := by
    show Below _ _ _
    rw [hW]; exact ((Below.refl _ _).alloc (Nat.le_refl _) _).alloc (by simp) _
  have O2 : Hid (Own W (w.heap.size + 1) 26 #[.int .i64 0, .string ⟨#[]⟩, .slice none 0 0, .int .i64 0, .slice none 0 0]) := by
    show Own _ _ _ _
    have h := own_new (w.alloc (.cells #[c0, c1, c2, c3, c4] 26)) #[.int .i64 0, .string ⟨#[]⟩, .slice none 0 0, .int .i64 0, .slice none 0 0] 26
    rw [World.size_alloc] at h
    rw [hW]; exact h
  have HQ := hid (rescoped_any (wf := 18) (n := n) (g := flipB n) (Or.inr ⟨rfl, rfl⟩) f B W c0 c1 c2 c3 c4 (FormAt.keep (HWB.out.on HR.out) _ hA) (fun b hb => by have := HR.out b hb; omega) hc)
  obtain ⟨rfl, rfl, ht, h2, rfl, h4⟩ := (formAt_iff _ _ _ _ _ _ _ _).1 hA
  obtain ⟨a2, k2, rfl, -⟩ := h2
  obtain ⟨a4, k4, rfl, -⟩ := h4
  clear hA hB
  obtain ⟨r, hr0⟩ : ∃ r, r = resF (flipB n) n f := ⟨_, rfl⟩
  rw [← hr0] at HQ ⊢
  clear hr0
  simp only [handed] at HQ
  go_enter Tryz.func6, Tryz.ntmps6
  go_wp2_with fail
  rw [← hW]
  refine HQ.out.mono ?_
  rintro e w3 ⟨d2, d4, rfl, ht3, hw3⟩
  have HT := hid ht3
  obtain ⟨⟨x2, y2, rfl⟩, x4, y4, rfl⟩ := tree_shape ht3
  have hs3 := hw3.size
  have HB3 := hid hw3
  have Q4 := hid (O2.out.keep hw3 (by omega))
  have f0 := Q4.out.cell 0
  have f1 := Q4.out.cell 1
  have f2 := Q4.out.cell 2
  have f3 := Q4.out.cell 3
  have f4 := Q4.out.cell 4
  have z0 := Q4.out.frozen 0
  have z1 := Q4.out.frozen 1
  have z2 := Q4.out.frozen 2
  have z3 := Q4.out.frozen 3
  have z4 := Q4.out.frozen 4
  simp at f0 f1 f2 f3 f4
  clear ht3 hw3 hW
  go_wp2_with fail
  have hgr := wr5_grown w3 (w.heap.size + 1) (.int .i64 r.sort) (.string r.text) (.slice x2 r.scopes.length y2) (.int .i64 r.frm) (.slice x4 r.kids.length y4)
  have hz5 : (wr5 w3 (w.heap.size + 1) (.int .i64 r.sort) (.string r.text) (.slice x2 r.scopes.length y2) (.int .i64 r.frm) (.slice x4 r.kids.length y4)).heap.size = w3.heap.size := wr5_size _ _ _ _ _ _ _
  refine bodyPost_ret (v := .agg #[.int .i64 r.sort, .string r.text, .slice x2 r.scopes.length y2, .int .i64 r.frm, .slice x4 r.kids.length y4]) (by simp [results, Tryz.results6, go_sem, f0, f1, f2, f3, f4]) rfl ?_
  refine ⟨_, _, rfl, ?_, (HWB.out.trans (HB3.out.mono (by omega))).trans (wr5_below (w := w3) (by omega) _ _ _ _ _)⟩
  exact (HT.out.keep (w' := wr5 w3 (w.heap.size + 1) (.int .i64 r.sort) (.string r.text) (.slice x2 r.scopes.length y2) (.int .i64 r.frm) (.slice x4 r.kids.length y4)) fun b hb => hgr.block b hb.2 (by have := hb.1; simp; omega)).mono fun b hb => ⟨by have := hb.1; omega, by have := hb.2; rw [← hz5] at this; exact this⟩

end Go.Proofs.YtjbejnibiebjgaaGreat
