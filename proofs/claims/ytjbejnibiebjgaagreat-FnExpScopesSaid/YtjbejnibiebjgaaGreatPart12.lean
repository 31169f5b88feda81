/-
  The program's plain of an identifier and an atom: the form as it is handed out, in memory of its own. Condition: the form lies in memory as InAt says.
  The program's plainOfAll: forms as they are handed out, in memory of their own. Condition: the forms lie in memory as InAt says.
  The program's openList and openDots, if openAll does as it should. Condition: the form lies in memory, the opener's counter apart from it.
  The program's opener opens just the forms that are ok and not too many. Condition: the form lies in memory, the opener's counter apart from it.
-/
import Derived.Test.YtjbejnibiebjgaaGreatPart11
import Derived.Test.YtjbejnibiebjgaaGreatPart10
namespace Go.Proofs.YtjbejnibiebjgaaGreat
open Go.RowKit Go.Siskin

/-- A form inside the program as it is handed out. -/
def outI : Im → Fm
  | ⟨k, t, sc, fr, ps, es⟩ => ⟨k, t, sc, fr, (ps.map fun p => outI p) ++ (es.map fun p => outI p)⟩
theorem outI_id (t : ByteArray) (sc : List Int) (fr : Int) : outI (.id t sc fr) = ⟨1, t, sc, fr, []⟩ := by simp [Im.id, outI]
theorem outI_atom (t : ByteArray) : outI (.atom t) = ⟨2, t, [], 0, []⟩ := by simp [Im.atom, outI]
theorem outI_list (ps : List Im) : outI (.list ps) = ⟨3, ⟨#[]⟩, [], 0, ps.map outI⟩ := by simp [Im.list, outI]
theorem outI_dots (ps : List Im) (l : Im) : outI (.dots ps l) = ⟨4, ⟨#[]⟩, [], 0, ps.map outI ++ [outI l]⟩ := by simp [Im.dots, outI]
theorem wr5_below {N : Nat} {w : World} {g : Nat} (hg : N ≤ g) (c0 c1 c2 c3 c4 : Value) : Below N w (wr5 w g c0 c1 c2 c3 c4) :=
  (((((Below.refl N w).setCell (p := ⟨g, 0, none⟩) hg c0).setCell (p := ⟨g, 1, none⟩) hg c1).setCell (p := ⟨g, 2, none⟩) hg c2).setCell (p := ⟨g, 3, none⟩) hg c3).setCell (p := ⟨g, 4, none⟩) hg c4
abbrev handed (f : Fm) (c2 c4 : Value) : Value := .agg #[.int .i64 f.sort, .string f.text, c2, .int .i64 f.frm, c4]

set_option maxRecDepth 20000 in
set_option maxHeartbeats 1000000 in
theorem list_any (B : Nat → Prop) (va : Value) (xs : List Int) (w : World) (ha : IntsAt B w va xs) (hB : ∀ b, B b → b < w.heap.size) (hn : xs.length ≤ 1048576 * 2) :
    Calls Tryz.prog 112 #[.agg #[va]] w fun e w' => ∃ a c, e = .returned (.slice a xs.length c) ∧ w'.ownsRow w.heap.size 3 1 (.slice a xs.length c) xs.length (xs.map (Value.int .i64)) ∧ Below w.heap.size w w' := by
  have HU := hid (ha.keep ((SameOn.refl _ _).alloc hB (.cells #[va] 60)))
  obtain ⟨a, ca, rfl, hla, ha⟩ := ha
  obtain ⟨i0, hi, hz0, hz1, hz2⟩ := info_parts Tryz.infoIntE
  have Hi := hid hi
  have Hz0 := hid hz0
  have Hz1 := hid hz1
  have Hz2 := hid hz2
  clear hi hz0 hz1 hz2 ha hB
  go_enter Tryz.func112, Tryz.ntmps112
  go_wp2_with (at_builtin; refine wpList_append_all _ rfl _ _ rfl w.heap.size i0 Hi.out Hz0.out Hz1.out Hz2.out (.slice none 0 0) 0 [] rfl (World.ownsRow_nil _ _ _ _) B _ xs rfl HU.out (by omega) (by simp) ?_; intro a3 c3 w3 hown hg)
  go_ret
  refine ⟨a3, c3, by simp, by simpa using hown, ?_⟩
  exact ((Below.refl w.heap.size w).alloc (Nat.le_refl _) _).trans ⟨hg.os, hg.tape, hg.output, hg.size, fun i hi => hg.block i (by simp; omega) (by simp [Value.ownBlock])⟩

set_option maxRecDepth 20000 in
set_option maxHeartbeats 1000000 in
theorem plId_any (t : ByteArray) (xs : List Int) (fr : Int) (c2 : Value) (R : Nat → Prop) (w : World) (ha : IntsAt R w c2 xs) (hR : ∀ b, R b → b < w.heap.size) (hn : xs.length ≤ 1048576 * 2) :
    Calls Tryz.prog 109 #[.agg #[.string t, c2, .int .i64 fr]] w fun e w' => ∃ d2 d4, e = .returned (handed ⟨1, t, xs, fr, []⟩ d2 d4) ∧ Tree w' ⟨1, t, xs, fr, []⟩ (Fresh w w') d2 d4 ∧ Below w.heap.size w w' := by
  have HR := hid hR
  have HA := hid ha
  obtain ⟨a, ca, rfl, hla, ha⟩ := ha
  obtain ⟨W, hW⟩ : ∃ W, W = ((w.alloc (.cells #[.string t, .slice a xs.length ca, .int .i64 fr] 62)).alloc (.cells #[.int .i64 0, .string ⟨#[]⟩, .slice none 0 0, .int .i64 0, .slice none 0 0] 26)).drew := ⟨_, rfl⟩
  have hWs : W.heap.size = w.heap.size + 2 := by rw [hW]; simp
  have HWB : Hid (Below w.heap.size w W) := by
    show Below _ _ _
    rw [hW]; exact (((Below.refl _ _).alloc (Nat.le_refl _) _).alloc (by simp) _).drew
  have O0 : Hid (Own W w.heap.size 62 #[.string t, .slice a xs.length ca, .int .i64 fr]) := by
    show Own _ _ _ _
    rw [hW]; exact (own_new _ _ _).more (by simp) _
  have O1 : Hid (Own W (w.heap.size + 1) 26 #[.int .i64 0, .string ⟨#[]⟩, .slice none 0 0, .int .i64 0, .slice none 0 0]) := by
    show Own _ _ _ _
    have h := own_new (w.alloc (.cells #[.string t, .slice a xs.length ca, .int .i64 fr] 62)) #[.int .i64 0, .string ⟨#[]⟩, .slice none 0 0, .int .i64 0, .slice none 0 0] 26
    rw [World.size_alloc] at h
    rw [hW]; exact h
  have HL := hid (list_any R (.slice a xs.length ca) xs W (HA.out.keep (HWB.out.on HR.out)) (fun b hb => by have := HR.out b hb; omega) hn)
  clear ha hR
  go_enter Tryz.func109, Tryz.ntmps109
  go_wp2_with fail
  have c0 := O0.out.cell 0
  have c1 := O0.out.cell 1
  have c2 := O0.out.cell 2
  simp at c0 c1 c2
  have L0 := hid (And.intro c0 (And.intro c1 c2))
  refine wp_region_held_drew (S := fun w' => w'.cell? ⟨w.heap.size, 0, none⟩ = some (.string t) ∧ w'.cell? ⟨w.heap.size, 1, none⟩ = some (.slice a xs.length ca) ∧ w'.cell? ⟨w.heap.size, 2, none⟩ = some (.int .i64 fr)) rfl (by have h := L0.out; rw [hW] at h; exact h) (fun _ => ?_)
  rw [← hW]
  clear hW c0 c1 c2
  refine wpAnyH_take (i := 0) (oi := ({ dst := some 3, op := _, type := _, pos := _, after := _, guard := _ } : Oper)) (v := (.pointer (some ⟨w.heap.size, 0, none⟩))) rfl (by kernel_rfl) (by kernel_rfl) (by kernel_rfl) (fun _ _ _ h => h) (Or.inl ⟨by rfl, ?_⟩) L0.out ?_
  · intro w hSw; (try dsimp only at hSw); go_simp
  try simp only [Act.put, List.setIfInBounds_toArray, List.set_cons_zero, List.set_cons_succ]
  refine wpAnyH_take (i := 1) (oi := ({ dst := some 4, op := _, type := _, pos := _, after := _, guard := _ } : Oper)) (v := (.string t)) rfl (by kernel_rfl) (by kernel_rfl) (by kernel_rfl) (fun _ _ _ h => h) (Or.inl ⟨by rfl, ?_⟩) L0.out ?_
  · intro w hSw; (try dsimp only at hSw); go_simp
  try simp only [Act.put, List.setIfInBounds_toArray, List.set_cons_zero, List.set_cons_succ]
  refine wpAnyH_take (i := 2) (oi := ({ dst := some 5, op := _, type := _, pos := _, after := _, guard := _ } : Oper)) (v := (.pointer (some ⟨w.heap.size, 1, none⟩))) rfl (by kernel_rfl) (by kernel_rfl) (by kernel_rfl) (fun _ _ _ h => h) (Or.inl ⟨by rfl, ?_⟩) L0.out ?_
  · intro w hSw; (try dsimp only at hSw); go_simp
  try simp only [Act.put, List.setIfInBounds_toArray, List.set_cons_zero, List.set_cons_succ]
  refine wpAnyH_take (i := 3) (oi := ({ dst := some 6, op := _, type := _, pos := _, after := _, guard := _ } : Oper)) (v := (.agg #[.slice a xs.length ca])) rfl (by kernel_rfl) (by kernel_rfl) (by kernel_rfl) (fun _ _ _ h => h) (Or.inl ⟨by rfl, ?_⟩) L0.out ?_
  · intro w hSw; (try dsimp only at hSw); go_simp
  try simp only [Act.put, List.setIfInBounds_toArray, List.set_cons_zero, List.set_cons_succ]
  refine wpAnyH_take (i := 5) (oi := ({ dst := some 8, op := _, type := _, pos := _, after := _, guard := _ } : Oper)) (v := (.pointer (some ⟨w.heap.size, 2, none⟩))) rfl (by kernel_rfl) (by kernel_rfl) (by kernel_rfl) (fun _ _ _ h => h) (Or.inl ⟨by rfl, ?_⟩) L0.out ?_
  · intro w hSw; (try dsimp only at hSw); go_simp
  try simp only [Act.put, List.setIfInBounds_toArray, List.set_cons_zero, List.set_cons_succ]
  refine wpAnyH_take (i := 6) (oi := ({ dst := some 9, op := _, type := _, pos := _, after := _, guard := _ } : Oper)) (v := (.int .i64 fr)) rfl (by kernel_rfl) (by kernel_rfl) (by kernel_rfl) (fun _ _ _ h => h) (Or.inl ⟨by rfl, ?_⟩) L0.out ?_
  · intro w hSw; (try dsimp only at hSw); go_simp
  try simp only [Act.put, List.setIfInBounds_toArray, List.set_cons_zero, List.set_cons_succ]
  refine wpAnyH_ready (rs := [4]) (by kernel_rfl) (by simp) ?_
  refine AllReadyH.cons (o := ({ dst := some 7, op := _, type := _, pos := _, after := _, guard := _ } : Oper)) rfl (fun K hK => ?_) AllReadyH.nil
  go_simp
  go_at_call 112
  refine HL.out.mono ?_
  rintro e w1 ⟨a1, c1, rfl, ho1, hw1⟩
  have HO1 := hid ho1
  have hs1 := hw1.size
  have HB1 := hid hw1
  have P0 := hid (O0.out.keep hw1 (by omega))
  have P1 := hid (O1.out.keep hw1 (by omega))
  have d0 := P0.out.cell 0
  have d1 := P0.out.cell 1
  have d2 := P0.out.cell 2
  have f0 := P1.out.cell 0
  have f1 := P1.out.cell 1
  have f2 := P1.out.cell 2
  have f3 := P1.out.cell 3
  have f4 := P1.out.cell 4
  have z0 := P1.out.frozen 0
  have z1 := P1.out.frozen 1
  have z2 := P1.out.frozen 2
  have z3 := P1.out.frozen 3
  have z4 := P1.out.frozen 4
  simp at d0 d1 d2 f0 f1 f2 f3 f4
  have L1 := hid (And.intro d0 (And.intro d1 d2))
  clear ho1 hw1 d0 d1 d2
  go_wp2_with fail
  refine hK.out _ _ L1.out (fun _ => ?_)
  clear hK K
  try simp only [Act.put, List.setIfInBounds_toArray, List.set_cons_zero, List.set_cons_succ]
  refine wpAnyH_take (i := 7) (oi := ({ dst := some 10, op := _, type := _, pos := _, after := _, guard := _ } : Oper)) (v := (.agg #[.int .i64 1, .string t, .slice a1 xs.length c1, .int .i64 fr, .slice none 0 0])) rfl (by kernel_rfl) (by kernel_rfl) (by kernel_rfl) (fun _ _ _ h => h) (Or.inl ⟨by rfl, ?_⟩) L1.out ?_
  · intro w hSw; (try dsimp only at hSw); go_simp
  try simp only [Act.put, List.setIfInBounds_toArray, List.set_cons_zero, List.set_cons_succ]
  refine wpAnyH_ready (rs := [8]) (by kernel_rfl) (by simp) ?_
  refine AllReadyH.cons (o := ({ dst := none, op := _, type := _, pos := _, after := _, guard := _ } : Oper)) rfl (fun K hK => ?_) AllReadyH.nil
  go_simp
  have hgr := wr5_grown w1 (w.heap.size + 1) (.int .i64 1) (.string t) (.slice a1 xs.length c1) (.int .i64 fr) (.slice none 0 0)
  have P2 := P0.out.far hgr (by simp)
  have d0 := P2.cell 0
  have d1 := P2.cell 1
  have d2 := P2.cell 2
  simp [wr5] at d0 d1 d2
  have L2 := hid (And.intro d0 (And.intro d1 d2))
  have HGR := hid hgr
  clear P2 d0 d1 d2 hgr
  go_wp2_with fail
  refine hK.out _ _ L2.out (fun _ => ?_)
  clear hK K
  try simp only [Act.put, List.setIfInBounds_toArray, List.set_cons_zero, List.set_cons_succ]
  refine wpAnyH_done (by kernel_rfl) ?_ _
  go_wp2_with fail
  refine bodyPost_ret (v := .agg #[.int .i64 1, .string t, .slice a1 xs.length c1, .int .i64 fr, .slice none 0 0]) (by simp [results, Tryz.results109, go_sem, f0, f1, f2, f3, f4]) rfl ?_
  have hz5 : (wr5 w1 (w.heap.size + 1) (.int .i64 1) (.string t) (.slice a1 xs.length c1) (.int .i64 fr) (.slice none 0 0)).heap.size = w1.heap.size := wr5_size _ _ _ _ _ _ _
  have hO5 := HO1.out.kept HGR.out (off_row HO1.out (by omega))
  refine ⟨_, _, rfl, ?_, (HWB.out.trans (HB1.out.mono (by omega))).trans ⟨HGR.out.os, HGR.out.tape, HGR.out.output, HGR.out.size, fun i hi => HGR.out.block i (by omega) (by simp; omega)⟩⟩
  rw [tree_iff]
  refine ⟨row_base hO5, fun g e => ?_, trow_nil _ _⟩
  have h1 := hO5.lt g e
  exact ⟨by omega, h1.2⟩

set_option maxRecDepth 20000 in
set_option maxHeartbeats 1000000 in
theorem plAtom_any (t : ByteArray) (w : World) :
    Calls Tryz.prog 121 #[.agg #[.string t]] w fun e w' => ∃ d2 d4, e = .returned (handed ⟨2, t, [], 0, []⟩ d2 d4) ∧ Tree w' ⟨2, t, [], 0, []⟩ (Fresh w w') d2 d4 ∧ Below w.heap.size w w' := by
  go_enter Tryz.func121, Tryz.ntmps121
  go_wp2_with fail
  refine bodyPost_ret (v := .agg #[.int .i64 2, .string t, .slice none 0 0, .int .i64 0, .slice none 0 0]) (by simp [results, Tryz.results121, go_sem]) rfl ?_
  refine ⟨_, _, rfl, ?_, ((Below.refl _ _).alloc (Nat.le_refl _) _).alloc (by simp) _⟩
  rw [tree_iff]
  exact ⟨World.ownsRow_nil _ _ _ _, fun g e => (by cases e), trow_nil _ _⟩

end Go.Proofs.YtjbejnibiebjgaaGreat

namespace Go.Proofs.YtjbejnibiebjgaaGreat
open Go.RowKit Go.Siskin

/-- The method that hands a value of a type out. -/
def plFn (t : TypeId) : FuncId := if t = 62 then 109 else if t = 90 then 121 else if t = 95 then 129 else 140
theorem plFn_id : plFn 62 = 109 := rfl
theorem plFn_atom : plFn 90 = 121 := rfl
theorem plFn_list : plFn 95 = 129 := rfl
theorem plFn_dots : plFn 97 = 140 := rfl

/-- No identifier has too many scopes. -/
def fewI : Im → Prop
  | ⟨_, _, sc, _, ps, es⟩ => sc.length ≤ 1048576 * 2 ∧ (∀ (i : Nat) (hi : i < ps.length), have := List.sizeOf_lt_of_mem (List.getElem_mem hi); fewI ps[i]) ∧ (∀ (i : Nat) (hi : i < es.length), have := List.sizeOf_lt_of_mem (List.getElem_mem hi); fewI es[i])
theorem fewI_eq (p : Im) : fewI p ↔ p.scopes.length ≤ 1048576 * 2 ∧ (∀ (i : Nat) (hi : i < p.parts.length), fewI p.parts[i]) ∧ (∀ (i : Nat) (hi : i < p.ends.length), fewI p.ends[i]) := by
  obtain ⟨k, t, sc, fr, ps, es⟩ := p
  rw [fewI]
theorem fewI_list {ps : List Im} : fewI (.list ps) ↔ ∀ (i : Nat) (hi : i < ps.length), fewI ps[i] := by
  rw [fewI_eq]
  simp [Im.list]
theorem fewI_dots {ps : List Im} {l : Im} : fewI (.dots ps l) ↔ (∀ (i : Nat) (hi : i < ps.length), fewI ps[i]) ∧ fewI l := by
  rw [fewI_eq]
  constructor
  · rintro ⟨-, h1, h2⟩
    exact ⟨h1, h2 0 (by simp [Im.dots])⟩
  · rintro ⟨h1, h2⟩
    refine ⟨Nat.zero_le _, h1, fun i hi => ?_⟩
    match i, hi with
    | 0, _ => exact h2

def PlIm (n : Nat) : Prop := ∀ p : Im, p.sz ≤ n → p.sz ≤ 1048576 → ∀ (R : Nat → Prop) (w : World) (t : TypeId) (x : Value), InAt R w p (.iface t x) → fewI p → (∀ b, R b → b < w.heap.size) →
  Calls Tryz.prog (plFn t) #[x] w fun e w' => ∃ c2 c4, e = .returned (handed (outI p) c2 c4) ∧ Tree w' (outI p) (Fresh w w') c2 c4 ∧ Below w.heap.size w w'
def PlIms (n : Nat) : Prop := ∀ ps : List Im, Im.szs ps ≤ n → ∀ (R : Nat → Prop) (w : World) (a : Option Addr) (cap : Nat), Im.szs ps ≤ 1048576 → (ps = [] ∨ ∃ b o, a = some ⟨b, o, none⟩ ∧ R b ∧ InRow R w b o ps) → (∀ (i : Nat) (hi : i < ps.length), fewI ps[i]) → (∀ b, R b → b < w.heap.size) →
  Calls Tryz.prog 133 #[.slice a ps.length cap] w fun e w' => ∃ v, e = .returned v ∧ TRow w' (Rng w.heap.size w') v (ps.map outI) ∧ Below w.heap.size w w'

theorem trow_shape {w : World} {S : Nat → Prop} {v : Value} {ks : List Fm} (h : TRow w S v ks) : ∃ a c, v = .slice a ks.length c := by
  obtain ⟨cs, F, h⟩ := h
  exact row_shape h.row
theorem tree_shape {w : World} {f : Fm} {S : Nat → Prop} {c2 c4 : Value} (h : Tree w f S c2 c4) : (∃ a c, c2 = .slice a f.scopes.length c) ∧ ∃ a c, c4 = .slice a f.kids.length c := by
  rw [tree_iff] at h
  exact ⟨row_shape h.1, trow_shape h.2.2⟩
theorem rng_mono {base : Nat} {w w' : World} (h : w.heap.size ≤ w'.heap.size) : ∀ b, Rng base w b → Rng base w' b := fun _ hb => ⟨hb.1, Nat.lt_of_lt_of_le hb.2 h⟩

set_option maxRecDepth 20000 in
set_option maxHeartbeats 4000000 in
theorem plIms_of (n : Nat) (ih : PlIm n) : PlIms n := by
  intro ps hps R w a cap hm ha hfew hR
  have hpl := Im.szs_len ps
  have HI := hid ih
  have HR := hid hR
  have HF := hid hfew
  obtain ⟨i0, hi, hz0, hz1, hz2⟩ := info_parts Tryz.infoFormE
  have Hi := hid hi
  have Hz0 := hid hz0
  have Hz1 := hid hz1
  have Hz2 := hid hz2
  clear hi hz0 hz1 hz2 ih hR hfew
  go_enter Tryz.func133, Tryz.ntmps133
  go_wp2_with fail
  go_loopw [3, 8] (fun v i wr => ∃ k : Nat, k ≤ ps.length ∧ i = .int .i64 k ∧ Hid (TRow wr (Rng w.heap.size wr) v ((ps.take k).map outI)) ∧ Hid (Below w.heap.size w wr)) (fun _ i _ => ps.length - (intOf i).toNat)
  case atStart => exact ⟨0, Nat.zero_le _, rfl, trow_nil _ _, Below.refl _ _⟩
  case round =>
    obtain ⟨k, hk, rfl, HK, HW⟩ := hrel
    have hsz := HW.out.size
    by_cases hlt : k < ps.length
    · rcases ha with ha | ⟨ba, oa, rfl, hb, ha⟩
      · subst ha; simp at hlt
      obtain ⟨v, hv, hin⟩ := InRow.get ps (InRow.keep (HW.out.on HR.out) hb ps ha) k hlt
      have hcont : ∀ (t : TypeId) (x : Value), v = .iface t x → Calls Tryz.prog (plFn t) #[x] wr fun e w' => ∃ c2 c4, e = .returned (handed (outI ps[k]) c2 c4) ∧ Tree w' (outI ps[k]) (Fresh wr w') c2 c4 ∧ Below wr.heap.size wr w' := by
        intro t x hv1
        subst hv1
        exact HI.out ps[k] (Nat.le_trans (Im.szs_get ps k hlt) hps) (Nat.le_trans (Im.szs_get ps k hlt) hm) R wr t x hin (HF.out k hlt) (fun b hb => by have := HR.out b hb; omega)
      have HCN := hid hcont
      have HN := hid (congrArg (List.map outI) (List.take_succ_eq_append_getElem hlt))
      have hbb : ba < wr.heap.size := by have := HR.out ba hb; omega
      have m1 := mpl_id
      have m2 := mpl_atom
      have m3 := mpl_list
      have m4 := mpl_dots
      simp [plName] at m1 m2 m3 m4
      obtain ⟨f, hf⟩ : ∃ f, f = outI ps[k] := ⟨_, rfl⟩
      rcases InAt.sorts hin with ⟨x, rfl⟩ | ⟨x, rfl⟩ | ⟨x, rfl⟩ | ⟨x, rfl⟩
      all_goals
        clear ha hin hcont
        have hq := HCN.out _ x rfl
        simp only [plFn_id, plFn_atom, plFn_list, plFn_dots, handed] at hq
        rw [← hf] at hq
        have HQ := hid hq
        have HFE := hid hf
        clear hq hf
        go_wp2_with fail
        refine HQ.out.mono ?_
        rintro e w1 ⟨d2, d4, rfl, ht, hw1⟩
        have HT := hid ht
        obtain ⟨⟨x2, y2, rfl⟩, x4, y4, rfl⟩ := tree_shape ht
        have HB1 := hid hw1
        have hs1 := hw1.size
        obtain ⟨cs, F, hP⟩ := HK.out
        have HP := hid hP
        have hr := (hP.keep (hw1.on fun b hb => hb.2)).row
        rw [List.length_map, List.length_take, Nat.min_eq_left hk] at hr
        have R1 := hid hr
        clear ht hw1 hP hr
        go_wp2_with (at_builtin; refine wpList_append_own_at _ rfl _ _ 24 rfl 0 26 i0 _ 5 80 Tryz.underlying24 Hi.out Hz0.out Hz1.out Hz2.out rfl (by decide) _ k cs rfl (R1.out.alloc _) ⟨w1.heap.size, 0, none⟩ 1 1 [.int .i64 f.sort, .string f.text, .slice x2 f.scopes.length y2, .int .i64 f.frm, .slice x4 f.kids.length y4] rfl rfl (World.news_of_block (cs := #[.int .i64 f.sort, .string f.text, .slice x2 f.scopes.length y2, .int .i64 f.frm, .slice x4 f.kids.length y4]) (heap_alloc_new _ _)) (by simp [Value.oneCell']) (by unfold maxLen; omega) (by omega) (Nat.zero_le _) ?_; intro v' w2 hown' hg hnil hb')
        have hall := (World.grownBy_alloc w1 _ _).trans hg
        refine ⟨⟨k + 1, by omega, by go_num, ?_, ?_⟩, by simp [intOf]; omega⟩
        · show TRow _ _ _ _
          rw [HN.out, List.map_append, List.map_singleton, ← HFE.out]
          refine HP.out.snoc hsz HB1.out HT.out hall (by rw [List.length_map, List.length_take, Nat.min_eq_left hk]; exact hown') ?_
          rcases hb' with h | h
          · exact Or.inl h
          · exact Or.inr ⟨_, h, by simp⟩
        · refine (HW.out.trans (HB1.out.mono hsz)).trans ⟨hall.os, hall.tape, hall.output, hall.size, fun i hi => hall.block i (by omega) fun e => ?_⟩
          have := (HP.out.own i e.symm).1
          omega
    · have hkk : k = ps.length := by omega
      rw [hkk, List.take_length] at HK
      obtain ⟨va, vc, rfl⟩ := trow_shape HK.out
      go_wp2_with fail
      go_ret
      exact ⟨_, rfl, HK.out, HW.out⟩

set_option maxRecDepth 20000 in
set_option maxHeartbeats 1000000 in
theorem plList_any (n : Nat) (ih : PlIms n) (ps : List Im) (hps : Im.szs ps ≤ n) (R : Nat → Prop) (w : World) (a : Option Addr) (cap : Nat) (hm : Im.szs ps ≤ 1048576) (ha : ps = [] ∨ ∃ b o, a = some ⟨b, o, none⟩ ∧ R b ∧ InRow R w b o ps) (hfew : ∀ (i : Nat) (hi : i < ps.length), fewI ps[i]) (hR : ∀ b, R b → b < w.heap.size) :
    Calls Tryz.prog 129 #[.agg #[.slice a ps.length cap]] w fun e w' => ∃ c2 c4, e = .returned (handed ⟨3, ⟨#[]⟩, [], 0, ps.map outI⟩ c2 c4) ∧ Tree w' ⟨3, ⟨#[]⟩, [], 0, ps.map outI⟩ (Fresh w w') c2 c4 ∧ Below w.heap.size w w' := by
  have HR := hid hR
  obtain ⟨W, hW⟩ : ∃ W, W = (w.alloc (.cells #[.slice a ps.length cap] 95)).alloc (.cells #[.int .i64 0, .string ⟨#[]⟩, .slice none 0 0, .int .i64 0, .slice none 0 0] 26) := ⟨_, rfl⟩
  have hWs : W.heap.size = w.heap.size + 2 := by rw [hW]; simp
  have HWB : Hid (Below w.heap.size w W) := by
    show Below _ _ _
    rw [hW]; exact ((Below.refl _ _).alloc (Nat.le_refl _) _).alloc (by simp) _
  have O1 : Hid (Own W (w.heap.size + 1) 26 #[.int .i64 0, .string ⟨#[]⟩, .slice none 0 0, .int .i64 0, .slice none 0 0]) := by
    show Own _ _ _ _
    have h := own_new (w.alloc (.cells #[.slice a ps.length cap] 95)) #[.int .i64 0, .string ⟨#[]⟩, .slice none 0 0, .int .i64 0, .slice none 0 0] 26
    rw [World.size_alloc] at h
    rw [hW]; exact h
  have HQ := hid (ih ps hps R W a cap hm (by
    rcases ha with h | ⟨b, o, h1, h2, h3⟩
    · exact Or.inl h
    · exact Or.inr ⟨b, o, h1, h2, InRow.keep (HWB.out.on HR.out) h2 _ h3⟩) hfew (fun b hb => by have := HR.out b hb; omega))
  clear ih ha hfew hR
  go_enter Tryz.func129, Tryz.ntmps129
  go_wp2_with fail
  rw [← hW]
  refine HQ.out.mono ?_
  rintro e w1 ⟨v, rfl, h1, hw1⟩
  have H1 := hid h1
  obtain ⟨va, vc, rfl⟩ := trow_shape h1
  have hs1 := hw1.size
  have HB1 := hid hw1
  have P1 := hid (O1.out.keep hw1 (by omega))
  have f0 := P1.out.cell 0
  have f1 := P1.out.cell 1
  have f2 := P1.out.cell 2
  have f3 := P1.out.cell 3
  have f4 := P1.out.cell 4
  have z0 := P1.out.frozen 0
  have z1 := P1.out.frozen 1
  have z2 := P1.out.frozen 2
  have z3 := P1.out.frozen 3
  have z4 := P1.out.frozen 4
  simp at f0 f1 f2 f3 f4
  obtain ⟨N, hN⟩ : ∃ N, N = (ps.map outI).length := ⟨_, rfl⟩
  rw [← hN] at H1 ⊢
  clear h1 hw1 hW hN
  go_wp2_with fail
  have hgr := wr5_grown w1 (w.heap.size + 1) (.int .i64 3) (.string ⟨#[]⟩) (.slice none 0 0) (.int .i64 0) (.slice va N vc)
  have hz5 : (wr5 w1 (w.heap.size + 1) (.int .i64 3) (.string ⟨#[]⟩) (.slice none 0 0) (.int .i64 0) (.slice va N vc)).heap.size = w1.heap.size := wr5_size _ _ _ _ _ _ _
  refine bodyPost_ret (v := .agg #[.int .i64 3, .string ⟨#[]⟩, .slice none 0 0, .int .i64 0, .slice va N vc]) (by simp [results, Tryz.results129, go_sem, f0, f1, f2, f3, f4]) rfl ?_
  refine ⟨_, _, rfl, ?_, (HWB.out.trans (HB1.out.mono (by omega))).trans (wr5_below (w := w1) (by omega) _ _ _ _ _)⟩
  rw [tree_iff]
  refine ⟨World.ownsRow_nil _ _ _ _, fun g e => (by cases e), ?_⟩
  refine (H1.out.keep (w' := wr5 w1 (w.heap.size + 1) (.int .i64 3) (.string ⟨#[]⟩) (.slice none 0 0) (.int .i64 0) (.slice va N vc)) fun b hb => hgr.block b hb.2 (by have := hb.1; simp; omega)).mono fun b hb => ⟨⟨by have := hb.1; omega, by have := hb.2; rw [← hz5] at this; exact this⟩, by simp [Value.ownBlock]⟩

end Go.Proofs.YtjbejnibiebjgaaGreat

namespace Go.Proofs.YtjbejnibiebjgaaGreat
open Go.RowKit Go.Siskin

theorem same_drewN (R : Nat → Prop) (w : World) (m : Nat) : SameOn R w (w.drewN m) := fun _ _ => rfl
theorem opened_after {bo : Nat} {w w1 w2 : World} {m' : Int} (hb : Below w.heap.size w w1) (h : Opened bo w1 w2 m') : Opened bo w w2 m' :=
  ⟨⟨h.1.os.trans hb.os, h.1.tape.trans hb.tape, h.1.output.trans hb.output, Nat.le_trans hb.size h.1.size, fun k hk hne => (h.1.block k (Nat.lt_of_lt_of_le hk hb.size) hne).trans (hb.block k hk)⟩, h.2⟩
theorem opened_below {bo : Nat} {w w1 : World} {m : Int} (hb : Below w.heap.size w w1) (ho : Own w bo 69 #[.int .i64 m]) : Opened bo w w1 m :=
  ⟨⟨hb.os, hb.tape, hb.output, hb.size, fun k hk _ => hb.block k hk⟩, ho.keep hb ho.lt⟩
theorem reg_after {B : Nat → Prop} {w w1 w2 : World} (hs : w.heap.size ≤ w1.heap.size) : ∀ b, Reg B w1 w2 b → Reg B w w2 b := by
  intro b h
  rcases h with h | h
  · exact Or.inl h
  · exact Or.inr ⟨by omega, h.2⟩

set_option maxRecDepth 20000 in
set_option maxHeartbeats 2000000 in
theorem openList_any (n : Nat) (ih : OpenForms n) (f : Fm) (hf : Fm.szs f.kids ≤ n) (B : Nat → Prop) (w : World) (c0 c1 c2 c3 c4 : Value) (d m bo : Nat) (hA : FormAt B w f c0 c1 c2 c3 c4) (hB : ∀ b, B b → b < w.heap.size ∧ b ≠ bo) (ho : Own w bo 69 #[.int .i64 m]) (hm : m ≤ 1500) (hd : d ≤ 60) (hc : f.cost ≤ 1048576) :
    Calls Tryz.prog 49 #[.pointer (some ⟨bo, 0, none⟩), .agg #[c0, c1, c2, c3, c4], .int .i64 d] w fun e w' => ∃ (m' : Int) (v : Value), Opened bo w w' m' ∧ e = .returned (.tuple #[v, .bool (listFormB f && goodsB f.kids (d + 1) m)]) ∧ ((listFormB f && goodsB f.kids (d + 1) m) = true → m' = m + Fm.szs f.kids ∧ InAt (Reg B w w') w' (.list (toIms f.kids)) v) := by
  have HA := hid hA
  obtain ⟨rfl, rfl, ht, h2, rfl, h4⟩ := (formAt_iff _ _ _ _ _ _ _ _).1 hA
  have H4 := hid h4
  obtain ⟨a2, k2, rfl, -⟩ := h2
  obtain ⟨a4, k4, rfl, hl4, -⟩ := h4
  have HI := hid ih
  have HR := hid hB
  have HO := hid ho
  have HC := hid (Fm.cost_eq f)
  have hbo := ho.lt
  clear hA hB ho ih
  go_enter Tryz.func49, Tryz.ntmps49
  go_wp2_with fail
  refine (hasOnlyKids_any f B _ _ _ _ _ _ (FormAt.keep ((SameOn.refl _ _).alloc (fun b hb => (HR.out b hb).1) _) _ HA.out)).mono ?_
  rintro e w1 ⟨rfl, hw⟩
  obtain ⟨hc1, -⟩ := bcell hw
  have hz1 : w.heap.size < w1.heap.size := by have := hw.size; simp at this; omega
  have HW := hid (((Below.refl w.heap.size w).alloc (Nat.le_refl _) _).trans (hw.mono (by simp)))
  clear hw
  cases hl : listFormB f with
  | false =>
    go_wp2_with fail
    go_ret2
    exact ⟨m, .nilIface, opened_below HW.out HO.out, ret_tup (by rw [hl]; rfl), fun h => by rw [hl] at h; cases h⟩
  | true =>
    go_wp2_with fail
    refine (HI.out f.kids hf B w1 _ (d + 1) m bo (H4.out.keep (HW.out.on (fun b hb => (HR.out b hb).1))) (fun b hb => ⟨by have := (HR.out b hb).1; omega, (HR.out b hb).2⟩) (HO.out.keep HW.out hbo) hm (by omega) (by have := HC.out; omega)).mono ?_
    rintro e w2 ⟨m', a, len, cap, hop, rfl, hgo⟩
    have HOP := hid hop
    have HGO := hid hgo
    clear hop hgo
    go_wp2_with fail
    go_ret2
    refine ⟨m', _, opened_after HW.out HOP.out, ret_tup (by rw [hl, Bool.true_and]), fun h => ?_⟩
    rw [hl, Bool.true_and] at h
    obtain ⟨h1, h2, h3, h4⟩ := HGO.out h
    refine ⟨h1, ?_⟩
    subst h2
    rw [InAt_list]
    refine ⟨a, cap, by rw [toIms_length]; rfl, by rw [toIms_length]; exact hl4, ?_⟩
    rcases h4 with h4 | ⟨g, h4, h5, h6⟩
    · exact Or.inl (by rw [h4]; rfl)
    · exact Or.inr ⟨g, 0, h4, reg_after (by omega) g h5, InRow.mono (reg_after (by omega)) _ h6⟩

def dotsB (f : Fm) (d m : Nat) : Bool := listFormB f && endB f.kids && goodsB f.kids (d + 1) m

set_option maxRecDepth 20000 in
set_option maxHeartbeats 4000000 in
theorem openDots_any (n : Nat) (ih : OpenForms n) (f : Fm) (hf : Fm.szs f.kids ≤ n) (B : Nat → Prop) (w : World) (c0 c1 c2 c3 c4 : Value) (d m bo : Nat) (hA : FormAt B w f c0 c1 c2 c3 c4) (hB : ∀ b, B b → b < w.heap.size ∧ b ≠ bo) (ho : Own w bo 69 #[.int .i64 m]) (hm : m ≤ 1500) (hd : d ≤ 60) (hc : f.cost ≤ 1048576) :
    Calls Tryz.prog 50 #[.pointer (some ⟨bo, 0, none⟩), .agg #[c0, c1, c2, c3, c4], .int .i64 d] w fun e w' => ∃ (m' : Int) (v : Value), Opened bo w w' m' ∧ e = .returned (.tuple #[v, .bool (dotsB f d m)]) ∧ (dotsB f d m = true → m' = m + Fm.szs f.kids ∧ InAt (Reg B w w') w' (.dots (toIms f.kids).dropLast ((toIms f.kids).getD ((toIms f.kids).length - 1) Im.no)) v) := by
  have HA := hid hA
  obtain ⟨rfl, rfl, ht, h2, rfl, h4⟩ := (formAt_iff _ _ _ _ _ _ _ _).1 hA
  have H4 := hid h4
  obtain ⟨a2, k2, rfl, -⟩ := h2
  obtain ⟨a4, k4, rfl, hl4, h4⟩ := h4
  have HI := hid ih
  have HR := hid hB
  have HO := hid ho
  have HC := hid (Fm.cost_eq f)
  have hbo := ho.lt
  have hl40 := hl4
  unfold maxLen at hl4
  clear hA hB ho ih
  go_enter Tryz.func50, Tryz.ntmps50
  go_wp2_with fail
  refine (hasOnlyKids_any f B _ _ _ _ _ _ (FormAt.keep ((SameOn.refl _ _).alloc (fun b hb => (HR.out b hb).1) _) _ HA.out)).mono ?_
  rintro e w1 ⟨rfl, hw⟩
  obtain ⟨hc1, -⟩ := bcell hw
  have hz1 : w.heap.size < w1.heap.size := by have := hw.size; simp at this; omega
  have HW := hid (((Below.refl w.heap.size w).alloc (Nat.le_refl _) _).trans (hw.mono (by simp)))
  have HW0 := hid (((SameOn.refl B w).alloc (fun b hb => (HR.out b hb).1) _).below hw (fun b hb => by have := (HR.out b hb).1; simp; omega))
  clear hw
  cases hl : listFormB f with
  | false =>
    go_wp2_with fail
    go_ret2
    exact ⟨m, .nilIface, opened_below HW.out HO.out, ret_tup (by unfold dotsB; rw [hl]; rfl), fun h => by unfold dotsB at h; rw [hl] at h; cases h⟩
  | true =>
  by_cases hn : 1 < f.kids.length
  · rcases h4 with h4 | ⟨ba, oa, rfl, hb, h4⟩
    · rw [h4] at hn; simp at hn
    obtain ⟨c0, c1, c2, c3, c4, g0, -, -, -, -, hf'⟩ := RowAt.get f.kids (RowAt.keep HW0.out hb f.kids h4) (f.kids.length - 1) (by omega)
    obtain ⟨rfl, -⟩ := (formAt_iff _ _ _ _ _ _ _ _).1 hf'
    have HE : Hid (endB f.kids = (decide (f.kids[f.kids.length - 1].sort = 1) || decide (f.kids[f.kids.length - 1].sort = 2))) := by
      show _ = _
      unfold endB
      rw [decide_eq_true hn, List.getD_eq_getElem?_getD, List.getElem?_eq_getElem (by omega)]; rfl
    generalize f.kids[f.kids.length - 1].sort = z at *
    have hn' : (1 : Int) < (f.kids.length : Int) := by omega
    have hn2 : (1 : Int) ≤ (f.kids.length : Int) - 1 := by omega
    clear h4 hf'
    by_cases hz : z = 1 ∨ z = 2
    · have HEt : Hid (endB f.kids = true) := by
        show _ = _
        rw [HE.out]; rcases hz with hz | hz <;> rw [hz] <;> rfl
      clear HE
      rcases hz with rfl | rfl
      all_goals
        go_wp2_with fail
        refine (HI.out f.kids hf B w1 _ (d + 1) m bo (H4.out.keep HW0.out) (fun b hb => ⟨by have := (HR.out b hb).1; omega, (HR.out b hb).2⟩) (HO.out.keep HW.out hbo) hm (by omega) (by have := HC.out; omega)).mono ?_
        rintro e w2 ⟨m', a, len, cap, hop, rfl, hgo⟩
        have HOP := hid hop
        have HGO := hid hgo
        clear hop hgo
        cases hg : goodsB f.kids (d + 1) m with
        | false =>
          go_wp2_with fail
          go_ret2
          exact ⟨m', .nilIface, opened_after HW.out HOP.out, ret_tup (by unfold dotsB; rw [hg]; simp), fun h => by unfold dotsB at h; rw [hg] at h; simp at h⟩
        | true =>
          obtain ⟨e1, rfl, e3, e4⟩ := HGO.out hg
          rcases e4 with e4 | ⟨g, rfl, e5, e6⟩
          · rw [e4] at hn; simp at hn
          obtain ⟨x, hx, hin⟩ := InRow.get _ e6 (f.kids.length - 1) (by rw [toIms_length]; omega)
          obtain ⟨t, y, rfl⟩ := InAt.iface hin
          rw [Nat.zero_add] at hx
          have HIN := hid hin
          have H6 := hid e6
          have H1 := hid e1
          clear hin e6 e1
          go_wp2_with fail
          go_quiet (fail)
          go_wp2_with fail
          go_ret2
          refine ⟨m', _, ?_, ret_tup (by unfold dotsB; rw [hl, HEt.out, hg]; rfl), fun _ => ⟨H1.out, ?_⟩⟩
          · have h := opened_after HW.out HOP.out
            exact ⟨⟨h.1.os, h.1.tape, h.1.output, h.1.size, h.1.block⟩, h.2⟩
          · rw [InAt_dots]
            have hlen : (toIms f.kids).dropLast.length = f.kids.length - 1 := by rw [List.length_dropLast, toIms_length]
            refine ⟨some ⟨g, 0, none⟩, f.kids.length - 1, .iface t y, by rw [hlen]; rfl, by rw [hlen]; omega, Or.inr ⟨g, 0, rfl, reg_after (by omega) g e5, ?_⟩, ?_⟩
            · refine InRow.mk _ fun i hi => ?_
              obtain ⟨x', hx', hi'⟩ := InRow.get _ H6.out i (by rw [hlen] at hi; rw [toIms_length]; omega)
              exact ⟨x', hx', by rw [List.getElem_dropLast]; exact InAt.mono (reg_after (by omega)) _ (InAt.keep (same_drewN _ _ _) _ hi')⟩
            · rw [List.getD_eq_getElem?_getD, List.getElem?_eq_getElem (by rw [toIms_length]; omega)]
              have h := HIN.out
              simp only [toIms_length]
              exact InAt.mono (reg_after (by omega)) _ (InAt.keep (same_drewN _ _ _) _ h)
    · have HEf : Hid (endB f.kids = false) := by
        show _ = _
        rw [HE.out, decide_eq_false (fun h => hz (Or.inl h)), decide_eq_false (fun h => hz (Or.inr h))]; rfl
      have z1 : (z != 1) = true := by simp; omega
      have z2 : (z != 2) = true := by simp; omega
      clear HE hz
      go_wp2_with fail
      go_ret2
      exact ⟨m, .nilIface, opened_below HW.out HO.out, ret_tup (by unfold dotsB; rw [HEf.out]; simp), fun h => by unfold dotsB at h; rw [HEf.out] at h; simp at h⟩
  · have HEf : Hid (endB f.kids = false) := by
      show _ = _
      unfold endB; rw [decide_eq_false hn]; rfl
    have hn2 : (f.kids.length : Int) - 1 < 1 := by omega
    go_wp2_with fail
    go_ret2
    exact ⟨m, .nilIface, opened_below HW.out HO.out, ret_tup (by unfold dotsB; rw [HEf.out]; simp), fun h => by unfold dotsB at h; rw [HEf.out] at h; simp at h⟩

end Go.Proofs.YtjbejnibiebjgaaGreat

namespace Go.Proofs.YtjbejnibiebjgaaGreat
open Go.RowKit Go.Siskin

theorem opened_world1 {w w2 : World} {bo m : Nat} {o : Obj} {m' : Int} (h : Opened bo (world1 w bo m o) w2 m') : Opened bo w w2 m' := by
  have g := world1_grown w bo m o
  exact ⟨⟨h.1.os.trans g.os, h.1.tape.trans g.tape, h.1.output.trans g.output, Nat.le_trans g.size h.1.size, fun k hk hne => (h.1.block k (Nat.lt_of_lt_of_le hk g.size) hne).trans (g.block k hk hne)⟩, h.2⟩

theorem goodB_list {f : Fm} {d : Nat} (m : Nat) (hd : d ≤ 60) (hs : f.sort = 3) : goodB f d m = (listFormB f && goodsB f.kids (d + 1) (m + 1)) := by
  have h := Fm.sz_kids f
  have e : decide (m + f.sz ≤ 1500) = decide (m + 1 + Fm.szs f.kids ≤ 1500) := decide_eq_decide.2 (by omega)
  unfold goodB goodsB
  rw [okB_list f d hd hs, e, Bool.and_assoc]
theorem goodB_dots {f : Fm} {d : Nat} (m : Nat) (hd : d ≤ 60) (hs : f.sort = 4) : goodB f d m = dotsB f d (m + 1) := by
  have h := Fm.sz_kids f
  have e : decide (m + f.sz ≤ 1500) = decide (m + 1 + Fm.szs f.kids ≤ 1500) := decide_eq_decide.2 (by omega)
  unfold goodB dotsB goodsB
  rw [okB_dots f d hd hs, e]
  cases listFormB f <;> cases oksB f.kids (d + 1) <;> cases endB f.kids <;> simp

set_option maxRecDepth 20000 in
set_option maxHeartbeats 1000000 in
theorem openF_list (n : Nat) (ih : OpenForms n) (f : Fm) (hf : f.sz ≤ n + 1) (B : Nat → Prop) (w : World) (c0 c1 c2 c3 c4 : Value) (d m bo : Nat) (hA : FormAt B w f c0 c1 c2 c3 c4) (hB : ∀ b, B b → b < w.heap.size ∧ b ≠ bo) (ho : Own w bo 69 #[.int .i64 m]) (hm : m < 1500) (hd : d ≤ 60) (hc : f.cost ≤ 1048576) (hs : f.sort = 3) :
    Calls Tryz.prog 37 #[.pointer (some ⟨bo, 0, none⟩), .agg #[c0, c1, c2, c3, c4], .int .i64 d] w fun e w' => ∃ (m' : Int) (v : Value), Opened bo w w' m' ∧ e = .returned (.tuple #[v, .bool (goodB f d m)]) ∧ (goodB f d m = true → m' = m + f.sz ∧ InAt (Reg B w w') w' (toIm f) v) := by
  obtain ⟨rfl, rfl, ht, h2, rfl, h4⟩ := (formAt_iff _ _ _ _ _ _ _ _).1 hA
  have q0 := ho.cell 0
  have f0 := ho.frozen 0
  simp at q0
  have hlt := ho.lt
  rw [hs] at hA ⊢
  have HA := hid hA
  obtain ⟨a2, k2, rfl, -⟩ := h2
  obtain ⟨a4, k4, rfl, -⟩ := h4
  have HR := hid hB
  have HO := hid ho
  have HG := hid (goodB_list m hd hs)
  have HT := hid (toIm_list f hs)
  have HS := hid (Fm.sz_kids f)
  have HI := hid ih
  clear hA hB ho hs ih
  go_enter Tryz.func37, Tryz.ntmps37
  go_wp2_with fail
  refine (openList_any n HI.out f (by have := HS.out; omega) B (world1 w bo m _) _ _ _ _ _ d (m + 1) bo (FormAt.keep (world1_same HR.out m _) f HA.out) (fun b hb => ⟨by have := (HR.out b hb).1; rw [world1_size]; omega, (HR.out b hb).2⟩) (world1_own HO.out _) (by omega) hd hc).mono ?_
  rintro e w2 ⟨m', v, hop, rfl, hgo⟩
  have HOP := hid hop
  have HGO := hid hgo
  clear hop hgo
  go_wp2_with fail
  go_ret2
  refine ⟨m', v, opened_world1 HOP.out, ret_tup HG.out.symm, fun h => ?_⟩
  obtain ⟨h1, h2⟩ := HGO.out (HG.out.symm.trans h)
  refine ⟨by have := HS.out; omega, ?_⟩
  rw [HT.out]
  exact InAt.mono (reg_after (by rw [world1_size]; omega)) _ h2

set_option maxRecDepth 20000 in
set_option maxHeartbeats 1000000 in
theorem openF_dots (n : Nat) (ih : OpenForms n) (f : Fm) (hf : f.sz ≤ n + 1) (B : Nat → Prop) (w : World) (c0 c1 c2 c3 c4 : Value) (d m bo : Nat) (hA : FormAt B w f c0 c1 c2 c3 c4) (hB : ∀ b, B b → b < w.heap.size ∧ b ≠ bo) (ho : Own w bo 69 #[.int .i64 m]) (hm : m < 1500) (hd : d ≤ 60) (hc : f.cost ≤ 1048576) (hs : f.sort = 4) :
    Calls Tryz.prog 37 #[.pointer (some ⟨bo, 0, none⟩), .agg #[c0, c1, c2, c3, c4], .int .i64 d] w fun e w' => ∃ (m' : Int) (v : Value), Opened bo w w' m' ∧ e = .returned (.tuple #[v, .bool (goodB f d m)]) ∧ (goodB f d m = true → m' = m + f.sz ∧ InAt (Reg B w w') w' (toIm f) v) := by
  obtain ⟨rfl, rfl, ht, h2, rfl, h4⟩ := (formAt_iff _ _ _ _ _ _ _ _).1 hA
  have q0 := ho.cell 0
  have f0 := ho.frozen 0
  simp at q0
  have hlt := ho.lt
  rw [hs] at hA ⊢
  have HA := hid hA
  obtain ⟨a2, k2, rfl, -⟩ := h2
  obtain ⟨a4, k4, rfl, -⟩ := h4
  have HR := hid hB
  have HO := hid ho
  have HG := hid (goodB_dots m hd hs)
  have HT := hid (toIm_dots f hs)
  have HS := hid (Fm.sz_kids f)
  have HI := hid ih
  clear hA hB ho hs ih
  go_enter Tryz.func37, Tryz.ntmps37
  go_wp2_with fail
  refine (openDots_any n HI.out f (by have := HS.out; omega) B (world1 w bo m _) _ _ _ _ _ d (m + 1) bo (FormAt.keep (world1_same HR.out m _) f HA.out) (fun b hb => ⟨by have := (HR.out b hb).1; rw [world1_size]; omega, (HR.out b hb).2⟩) (world1_own HO.out _) (by omega) hd hc).mono ?_
  rintro e w2 ⟨m', v, hop, rfl, hgo⟩
  have HOP := hid hop
  have HGO := hid hgo
  clear hop hgo
  go_wp2_with fail
  go_ret2
  refine ⟨m', v, opened_world1 HOP.out, ret_tup HG.out.symm, fun h => ?_⟩
  obtain ⟨h1, h2⟩ := HGO.out (HG.out.symm.trans h)
  refine ⟨by have := HS.out; omega, ?_⟩
  rw [HT.out]
  exact InAt.mono (reg_after (by rw [world1_size]; omega)) _ h2

set_option maxRecDepth 20000 in
set_option maxHeartbeats 2000000 in
theorem openForm_of (n : Nat) (ih : OpenForms n) : OpenForm (n + 1) := by
  intro f hf B w c0 c1 c2 c3 c4 d m bo hA hB ho hm hd hc
  by_cases hm2 : m < 1500
  · by_cases hd2 : d ≤ 60
    · by_cases s1 : f.sort = 1
      · exact openF_id f B w c0 c1 c2 c3 c4 d m bo hA hB ho hm2 hd2 s1
      by_cases s2 : f.sort = 2
      · exact openF_atom f B w c0 c1 c2 c3 c4 d m bo hA hB ho hm2 hd2 s2
      by_cases s3 : f.sort = 3
      · exact openF_list n ih f hf B w c0 c1 c2 c3 c4 d m bo hA hB ho hm2 hd2 hc s3
      by_cases s4 : f.sort = 4
      · exact openF_dots n ih f hf B w c0 c1 c2 c3 c4 d m bo hA hB ho hm2 hd2 hc s4
      have HX : Hid (false = goodB f d m) := by
        show _ = _
        unfold goodB; rw [okB_none f d s1 s2 s3 s4]; rfl
      obtain ⟨rfl, rfl, ht, h2, rfl, h4⟩ := (formAt_iff _ _ _ _ _ _ _ _).1 hA
      have q0 := ho.cell 0
      have f0 := ho.frozen 0
      simp at q0
      have hlt := ho.lt
      have HO := hid ho
      have b1 : (f.sort == 1) = false := by simpa using s1
      have b2 : (f.sort == 2) = false := by simpa using s2
      have b3 : (f.sort == 3) = false := by simpa using s3
      have b4 : (f.sort == 4) = false := by simpa using s4
      clear hA h2 h4 s1 s2 s3 s4 hB ih ho
      go_enter Tryz.func37, Tryz.ntmps37
      go_wp2_with fail
      go_ret2
      exact ⟨m + 1, .nilIface, opened1 HO.out (Below.refl _ _), ret_tup HX.out, fun h => absurd (HX.out.trans h) (by decide)⟩
    · have HX : Hid (false = goodB f d m) := by
        show _ = _
        unfold goodB; rw [okB_deep f d (by omega)]; rfl
      have q0 := ho.cell 0
      have f0 := ho.frozen 0
      simp at q0
      have hlt := ho.lt
      have HO := hid ho
      have hd3 : 60 < (d : Int) := by omega
      clear hA hB ih ho
      go_enter Tryz.func37, Tryz.ntmps37
      go_wp2_with fail
      go_ret2
      exact ⟨m + 1, .nilIface, opened1 HO.out (Below.refl _ _), ret_tup HX.out, fun h => absurd (HX.out.trans h) (by decide)⟩
  · have HX : Hid (false = goodB f d m) := by
      show _ = _
      have := Fm.sz_kids f
      unfold goodB; rw [decide_eq_false (p := m + f.sz ≤ 1500) (by omega)]; simp
    have q0 := ho.cell 0
    have f0 := ho.frozen 0
    simp at q0
    have hlt := ho.lt
    have HO := hid ho
    have hm3 : 1500 < (m : Int) + 1 := by omega
    clear hA hB ih ho
    go_enter Tryz.func37, Tryz.ntmps37
    go_wp2_with fail
    go_ret2
    exact ⟨m + 1, .nilIface, opened1 HO.out (Below.refl _ _), ret_tup HX.out, fun h => absurd (HX.out.trans h) (by decide)⟩

theorem openForm_all : ∀ n, OpenForm n ∧ OpenForms n
  | 0 => by
    have h : OpenForm 0 := fun f hf => by have := Fm.sz_kids f; omega
    exact ⟨h, openForms_of 0 h⟩
  | n + 1 => by
    have h := openForm_of n (openForm_all n).2
    exact ⟨h, openForms_of (n + 1) h⟩

end Go.Proofs.YtjbejnibiebjgaaGreat
