/-
  The program's changed of each kind: the form with other scopes. Condition: the form lies in memory as InAt says, its scopes ascending; what the closures captured is there.
  A form in memory of its own: every list in a block of its own, no two in one. No program's step is walked here.
-/
import Derived.Test.YtjbejnibiebjgaaGreatPart10
import Derived.Test.YtjbejnibiebjgaaGreatPart3
namespace Go.Proofs.YtjbejnibiebjgaaGreat
open Go.RowKit Go.Siskin

set_option maxHeartbeats 1000000 in
theorem chAtom_any (t : ByteArray) (R : Nat → Prop) (w : World) (c : Value) (ht : t.size ≤ maxLen) :
    Calls Tryz.prog 116 #[.agg #[.string t], c] w fun e w' => ∃ y, e = .returned y ∧ InAt (Reg R w w') w' (.atom t) y ∧ Below w.heap.size w w' := by
  have HT := hid ht
  clear ht
  go_enter Tryz.func116, Tryz.ntmps116
  go_wp2_with fail
  go_ret
  refine ⟨_, rfl, ?_, (Below.refl _ _).alloc (Nat.le_refl _) _⟩
  rw [InAt_atom]
  exact ⟨rfl, HT.out⟩

set_option maxRecDepth 20000 in
set_option maxHeartbeats 1000000 in
theorem chList_any {fn : Nat} {sc : Int} {g : List Int → List Int} (n : Nat) (ih : ChIms fn sc g n) (ps : List Im) (hps : Im.szs ps ≤ n) (R : Nat → Prop) (w : World) (a : Option Addr) (cap hp : Nat) (hm : Im.szs ps ≤ 1048576) (ha : ps = [] ∨ ∃ b o, a = some ⟨b, o, none⟩ ∧ R b ∧ InRow R w b o ps) (hup : ∀ (i : Nat) (hi : i < ps.length), upI ps[i]) (hR : ∀ b, R b → b < w.heap.size) (hc : Caps w sc hp) :
    Calls Tryz.prog 124 #[.agg #[.slice a ps.length cap], clo fn hp] w fun e w' => ∃ y, e = .returned y ∧ InAt (Reg R w w') w' (.list (ps.map (chI g))) y ∧ Below w.heap.size w w' := by
  have hpl := Im.szs_len ps
  have hh := hc.f.lt
  have HQ := hid (ih ps hps R (w.alloc (.cells #[.slice a ps.length cap] 95)) a cap hp hm (by
    rcases ha with h | ⟨b, o, h1, h2, h3⟩
    · exact Or.inl h
    · exact Or.inr ⟨b, o, h1, h2, InRow.keep ((SameOn.refl _ _).alloc hR _) h2 _ h3⟩) hup (fun b hb => by have := hR b hb; simp; omega) (hc.below ((Below.refl _ _).alloc (Nat.le_refl _) _) hh))
  clear ih ha hup hR hc
  simp only [clo] at HQ ⊢
  go_enter Tryz.func124, Tryz.ntmps124
  go_wp2_with fail
  refine HQ.out.mono ?_
  rintro e w1 ⟨a1, c1, rfl, h1, hw1⟩
  have H1 := hid h1
  have HW := hid (((Below.refl w.heap.size w).alloc (Nat.le_refl _) (.cells #[.slice a ps.length cap] 95)).trans (hw1.mono (by simp)))
  clear h1 hw1
  go_wp2_with fail
  go_ret
  refine ⟨_, rfl, ?_, HW.out⟩
  rw [InAt_list]
  refine ⟨a1, c1, by rw [List.length_map]; rfl, by rw [List.length_map]; unfold maxLen; omega, ?_⟩
  have hreg : ∀ b, Reg R (w.alloc (.cells #[.slice a ps.length cap] 95)) w1 b → Reg R w w1 b := fun b hb => reg_trans (by simp) hb
  rcases H1.out with h | ⟨b, o, h1, h2, h3⟩
  · exact Or.inl (by rw [h]; rfl)
  · exact Or.inr ⟨b, o, h1, hreg b h2, InRow.mono hreg _ h3⟩

set_option maxRecDepth 20000 in
set_option maxHeartbeats 4000000 in
theorem chDots_any {fn : Nat} {sc : Int} {g : List Int → List Int} (n : Nat) (ih : ChIms fn sc g n) (ihe : ChIm fn sc g n) (ps : List Im) (l : Im) (hps : Im.szs ps ≤ n) (hl : l.sz ≤ n) (hll : l.sz ≤ 1048576) (R : Nat → Prop) (w : World) (a : Option Addr) (cap hp : Nat) (x : Value) (hm : Im.szs ps ≤ 1048576) (ha : ps = [] ∨ ∃ b o, a = some ⟨b, o, none⟩ ∧ R b ∧ InRow R w b o ps) (hx : InAt R w l x) (hup : ∀ (i : Nat) (hi : i < ps.length), upI ps[i]) (hupl : upI l) (hR : ∀ b, R b → b < w.heap.size) (hc : Caps w sc hp) :
    Calls Tryz.prog 135 #[.agg #[.slice a ps.length cap, x], clo fn hp] w fun e w' => ∃ y, e = .returned y ∧ InAt (Reg R w w') w' (.dots (ps.map (chI g)) (chI g l)) y ∧ Below w.heap.size w w' := by
  have hpl := Im.szs_len ps
  have hh := hc.f.lt
  have HR := hid hR
  have HX := hid hx
  have HIE := hid ihe
  have HUL := hid hupl
  have HCp := hid hc
  obtain ⟨W, hW⟩ : ∃ W, W = (w.alloc (.cells #[.slice a ps.length cap, x] 97)).drew := ⟨_, rfl⟩
  have hWs : W.heap.size = w.heap.size + 1 := by rw [hW]; simp
  have HWB : Hid (Below w.heap.size w W) := by
    show Below _ _ _
    rw [hW]; exact ((Below.refl _ _).alloc (Nat.le_refl _) _).drew
  have O0 : Hid (Own W w.heap.size 97 #[.slice a ps.length cap, x]) := by
    show Own _ _ _ _
    rw [hW]; exact own_new _ _ _
  have HQ := hid (ih ps hps R W a cap hp hm (by
    rcases ha with h | ⟨b, o, h1, h2, h3⟩
    · exact Or.inl h
    · exact Or.inr ⟨b, o, h1, h2, InRow.keep (HWB.out.on HR.out) h2 _ h3⟩) hup (fun b hb => by have := hR b hb; omega) (hc.below HWB.out hh))
  obtain ⟨tx, xx, rfl⟩ := hx.iface
  have htx : tx = 62 ∨ tx = 90 ∨ tx = 95 ∨ tx = 97 := by
    rcases InAt.sorts hx with ⟨x', e⟩ | ⟨x', e⟩ | ⟨x', e⟩ | ⟨x', e⟩
    · cases e; exact Or.inl rfl
    · cases e; exact Or.inr (Or.inl rfl)
    · cases e; exact Or.inr (Or.inr (Or.inl rfl))
    · cases e; exact Or.inr (Or.inr (Or.inr rfl))
  have HTX := hid htx
  have HN := hid ihe
  clear ih ha hup hR hc hx ihe hupl htx
  simp only [clo] at HQ ⊢
  go_enter Tryz.func135, Tryz.ntmps135
  go_wp2_with fail
  have c0 := O0.out.cell 0
  have c1 := O0.out.cell 1
  simp at c0 c1
  have L0 := hid (And.intro c0 c1)
  refine wp_region_held_drew (S := fun w' => w'.cell? ⟨w.heap.size, 0, none⟩ = some (.slice a ps.length cap) ∧ w'.cell? ⟨w.heap.size, 1, none⟩ = some (.iface tx xx)) rfl (by have h := L0.out; rw [hW] at h; exact h) (fun _ => ?_)
  rw [← hW]
  clear hW c0 c1
  refine wpAnyH_take (i := 0) (oi := ({ dst := some 5, op := _, type := _, pos := _, after := _, guard := _ } : Oper)) (v := (.pointer (some ⟨w.heap.size, 0, none⟩))) rfl (by kernel_rfl) (by kernel_rfl) (by kernel_rfl) (fun _ _ _ h => h) (Or.inl ⟨by rfl, ?_⟩) L0.out ?_
  · intro w hSw; (try dsimp only at hSw); go_simp
  try simp only [Act.put, List.setIfInBounds_toArray, List.set_cons_zero, List.set_cons_succ]
  refine wpAnyH_take (i := 1) (oi := ({ dst := some 6, op := _, type := _, pos := _, after := _, guard := _ } : Oper)) (v := (.slice a ps.length cap)) rfl (by kernel_rfl) (by kernel_rfl) (by kernel_rfl) (fun _ _ _ h => h) (Or.inl ⟨by rfl, ?_⟩) L0.out ?_
  · intro w hSw; (try dsimp only at hSw); go_simp
  try simp only [Act.put, List.setIfInBounds_toArray, List.set_cons_zero, List.set_cons_succ]
  refine wpAnyH_take (i := 2) (oi := ({ dst := some 7, op := _, type := _, pos := _, after := _, guard := _ } : Oper)) (v := (.func (.func fn) #[] #[.pointer (some ⟨hp, 0, none⟩)])) rfl (by kernel_rfl) (by kernel_rfl) (by kernel_rfl) (fun _ _ _ h => h) (Or.inl ⟨by rfl, ?_⟩) L0.out ?_
  · intro w hSw; (try dsimp only at hSw); go_simp
  try simp only [Act.put, List.setIfInBounds_toArray, List.set_cons_zero, List.set_cons_succ]
  refine wpAnyH_take (i := 4) (oi := ({ dst := some 9, op := _, type := _, pos := _, after := _, guard := _ } : Oper)) (v := (.pointer (some ⟨w.heap.size, 1, none⟩))) rfl (by kernel_rfl) (by kernel_rfl) (by kernel_rfl) (fun _ _ _ h => h) (Or.inl ⟨by rfl, ?_⟩) L0.out ?_
  · intro w hSw; (try dsimp only at hSw); go_simp
  try simp only [Act.put, List.setIfInBounds_toArray, List.set_cons_zero, List.set_cons_succ]
  refine wpAnyH_take (i := 5) (oi := ({ dst := some 10, op := _, type := _, pos := _, after := _, guard := _ } : Oper)) (v := (.iface tx xx)) rfl (by kernel_rfl) (by kernel_rfl) (by kernel_rfl) (fun _ _ _ h => h) (Or.inl ⟨by rfl, ?_⟩) L0.out ?_
  · intro w hSw; (try dsimp only at hSw); go_simp
  try simp only [Act.put, List.setIfInBounds_toArray, List.set_cons_zero, List.set_cons_succ]
  refine wpAnyH_take (i := 6) (oi := ({ dst := some 11, op := _, type := _, pos := _, after := _, guard := _ } : Oper)) (v := (.func (.func fn) #[] #[.pointer (some ⟨hp, 0, none⟩)])) rfl (by kernel_rfl) (by kernel_rfl) (by kernel_rfl) (fun _ _ _ h => h) (Or.inl ⟨by rfl, ?_⟩) L0.out ?_
  · intro w hSw; (try dsimp only at hSw); go_simp
  try simp only [Act.put, List.setIfInBounds_toArray, List.set_cons_zero, List.set_cons_succ]
  refine wpAnyH_ready (rs := [3]) (by kernel_rfl) (by simp) ?_
  refine AllReadyH.cons (o := ({ dst := some 8, op := _, type := _, pos := _, after := _, guard := _ } : Oper)) rfl (fun K hK => ?_) AllReadyH.nil
  go_simp
  go_at_call 132
  refine HQ.out.mono ?_
  rintro e w1 ⟨a1, c1, rfl, h1, hw1⟩
  have H1 := hid h1
  have hs1 := hw1.size
  have HB1 := hid hw1
  have P0 := hid (O0.out.keep hw1 (by omega))
  have d0 := P0.out.cell 0
  have d1 := P0.out.cell 1
  simp at d0 d1
  have L1 := hid (And.intro d0 d1)
  clear h1 hw1 d0 d1
  go_wp2_with fail
  refine hK.out _ _ L1.out (fun _ => ?_)
  clear hK K
  try simp only [Act.put, List.setIfInBounds_toArray, List.set_cons_zero, List.set_cons_succ]
  refine wpAnyH_ready (rs := [7]) (by kernel_rfl) (by simp) ?_
  refine AllReadyH.cons (o := ({ dst := some 12, op := _, type := _, pos := _, after := _, guard := _ } : Oper)) rfl (fun K hK => ?_) AllReadyH.nil
  have hBW1 := HWB.out.trans (HB1.out.mono (by omega))
  have hq := HIE.out l hl hll R w1 tx xx hp (InAt.keep (hBW1.on HR.out) _ HX.out) HUL.out (fun b hb => by have := HR.out b hb; omega) (HCp.out.below hBW1 hh)
  have HQ2 := hid hq
  have HBW1 := hid hBW1
  clear hq hBW1
  have m1 := mch_id
  have m2 := mch_atom
  have m3 := mch_list
  have m4 := mch_dots
  simp [chName] at m1 m2 m3 m4
  rcases HTX.out with rfl | rfl | rfl | rfl
  all_goals
    have hq := HQ2.out
    simp only [chFn_id, chFn_atom, chFn_list, chFn_dots, clo] at hq
    have HQ3 := hid hq
    clear hq
    go_simp
    refine HQ3.out.mono ?_
    rintro e w2 ⟨y, rfl, hy, hw2⟩
    obtain ⟨yt, yx, rfl⟩ := hy.iface
    have HY := hid hy
    have HB2 := hid hw2
    have hs2 := hw2.size
    have P2 := hid (P0.out.keep hw2 (by omega))
    have d0 := P2.out.cell 0
    have d1 := P2.out.cell 1
    simp at d0 d1
    have L2 := hid (And.intro d0 d1)
    clear hy hw2 d0 d1
    go_wp2_with fail
    refine hK.out _ _ L2.out (fun _ => ?_)
    clear hK K
    try simp only [Act.put, List.setIfInBounds_toArray, List.set_cons_zero, List.set_cons_succ]
    refine wpAnyH_take (i := 8) (oi := ({ dst := some 13, op := _, type := _, pos := _, after := _, guard := _ } : Oper)) (v := (.agg #[.slice a1 ps.length c1, .iface yt yx])) rfl (by kernel_rfl) (by kernel_rfl) (by kernel_rfl) (fun _ _ _ h => h) (Or.inl ⟨by rfl, ?_⟩) L2.out ?_
    · intro w hSw; (try dsimp only at hSw); go_simp
    try simp only [Act.put, List.setIfInBounds_toArray, List.set_cons_zero, List.set_cons_succ]
    refine wpAnyH_take (i := 9) (oi := ({ dst := some 14, op := _, type := _, pos := _, after := _, guard := _ } : Oper)) (v := (.iface 97 (.agg #[.slice a1 ps.length c1, .iface yt yx]))) rfl (by kernel_rfl) (by kernel_rfl) (by kernel_rfl) (fun _ _ _ h => h) (Or.inl ⟨by rfl, ?_⟩) L2.out ?_
    · intro w hSw; (try dsimp only at hSw); go_simp
    try simp only [Act.put, List.setIfInBounds_toArray, List.set_cons_zero, List.set_cons_succ]
    refine wpAnyH_take (i := 10) (oi := ({ dst := some 4, op := _, type := _, pos := _, after := _, guard := _ } : Oper)) (v := (.iface 97 (.agg #[.slice a1 ps.length c1, .iface yt yx]))) rfl (by kernel_rfl) (by kernel_rfl) (by kernel_rfl) (fun _ _ _ h => h) (Or.inl ⟨by rfl, ?_⟩) L2.out ?_
    · intro w hSw; (try dsimp only at hSw); go_simp
    try simp only [Act.put, List.setIfInBounds_toArray, List.set_cons_zero, List.set_cons_succ]
    refine wpAnyH_done (by kernel_rfl) ?_ _
    go_wp2_with fail
    go_ret
    refine ⟨_, rfl, ?_, HBW1.out.trans (HB2.out.mono (by omega))⟩
    rw [InAt_dots]
    have r1 : ∀ b, Reg R W w1 b → Reg R w w2 b := fun b hb => by
      rcases hb with hb | hb
      · exact Or.inl hb
      · exact Or.inr ⟨by omega, by omega⟩
    refine ⟨a1, c1, _, by rw [List.length_map]; rfl, by rw [List.length_map]; unfold maxLen; omega, ?_, InAt.mono (fun b hb => reg_trans (by omega) hb) _ HY.out⟩
    have hreg : ∀ b, Reg R W w1 b → b < w1.heap.size := fun b hb => by
      rcases hb with hb | hb
      · have := HR.out b hb; omega
      · exact hb.2
    rcases H1.out with h | ⟨b, o, h1, h2, h3⟩
    · exact Or.inl (by rw [h]; rfl)
    · exact Or.inr ⟨b, o, h1, r1 b h2, InRow.mono r1 _ (InRow.keep (HB2.out.on hreg) h2 _ h3)⟩

theorem chIm_of {fn : Nat} {sc : Int} {g : List Int → List Int} (hg : Change fn sc g) (n : Nat) (ih : ChIms fn sc g n) (ihe : ChIm fn sc g n) : ChIm fn sc g (n + 1) := by
  intro p hp hpm R w t x hpb hx hup hR hc
  have hx0 := hx
  rw [InAt_kinds] at hx
  rcases hx with ⟨tt, xs, fr, rfl, c2, h1, h2, h3⟩ | ⟨tt, rfl, h1, h2⟩ | ⟨ps, rfl, a, cap, h1, h2, h3⟩ | ⟨ps, l, rfl, a, cap, e, h1, h2, h3, h4⟩
  · cases h1
    rw [chFn_id, chI_id]
    rw [upI_eq] at hup
    exact chId_any hg R tt c2 xs fr hpb w h3 h2 hup.1 hR hup.2.1 hc
  · cases h1
    rw [chFn_atom, chI_atom]
    exact chAtom_any tt R w _ h2
  · cases h1
    rw [chFn_list, chI_list]
    rw [Im.sz_list] at hp hpm
    exact chList_any n ih ps (by omega) R w a cap hpb (by omega) h3 (upI_list.1 hup) hR hc
  · cases h1
    rw [chFn_dots, chI_dots]
    rw [Im.sz_dots] at hp hpm
    have := Im.sz_pos l
    exact chDots_any n ih ihe ps l (by omega) (by omega) (by omega) R w a cap hpb e (by omega) h3 h4 (upI_dots.1 hup).1 (upI_dots.1 hup).2 hR hc

theorem ch_all {fn : Nat} {sc : Int} {g : List Int → List Int} (hg : Change fn sc g) : ∀ n, ChIm fn sc g n ∧ ChIms fn sc g n
  | 0 => by
    have h : ChIm fn sc g 0 := fun p hp => by have := Im.sz_pos p; omega
    exact ⟨h, chIms_of 0 h⟩
  | n + 1 => by
    have h := chIm_of hg n (ch_all hg n).2 (ch_all hg n).1
    exact ⟨h, chIms_of (n + 1) h⟩
theorem changed_any {fn : Nat} {sc : Int} {g : List Int → List Int} (hg : Change fn sc g) (p : Im) (hp : p.sz ≤ 1048576) (R : Nat → Prop) (w : World) (t : TypeId) (x : Value) (hpb : Nat) (hx : InAt R w p (.iface t x)) (hup : upI p) (hR : ∀ b, R b → b < w.heap.size) (hc : Caps w sc hpb) :
    Calls Tryz.prog (chFn t) #[x, clo fn hpb] w fun e w' => ∃ y, e = .returned y ∧ InAt (Reg R w w') w' (chI g p) y ∧ Below w.heap.size w w' :=
  (ch_all hg p.sz).1 p (Nat.le_refl _) hp R w t x hpb hx hup hR hc


/-- Which function changes scopes, and what it comes to. -/
def Scoped (wf : Nat) (n : Int) (g : List Int → List Int) : Prop := (wf = 17 ∧ g = putB n) ∨ (wf = 18 ∧ g = flipB n)
theorem Scoped.clo {wf : Nat} {n : Int} {g : List Int → List Int} (h : Scoped wf n g) : ∃ fn, Change fn n g := by
  rcases h with ⟨-, e⟩ | ⟨-, e⟩
  · exact ⟨_, Or.inl ⟨rfl, e⟩⟩
  · exact ⟨_, Or.inr ⟨rfl, e⟩⟩

set_option maxRecDepth 20000 in
set_option maxHeartbeats 1000000 in
theorem scoped_any {wf : Nat} {n : Int} {g : List Int → List Int} (hg : Scoped wf n g) (p : Im) (hp : p.sz ≤ 1048576) (R : Nat → Prop) (w : World) (t : TypeId) (x : Value) (hx : InAt R w p (.iface t x)) (hup : upI p) (hR : ∀ b, R b → b < w.heap.size) :
    Calls Tryz.prog wf #[.iface t x, .int .i64 n] w fun e w' => ∃ y, e = .returned y ∧ InAt (Reg R w w') w' (chI g p) y ∧ Below w.heap.size w w' := by
  obtain ⟨W, hW⟩ : ∃ W, W = w.alloc (.cells #[.int .i64 n] 3) := ⟨_, rfl⟩
  have hWs : W.heap.size = w.heap.size + 1 := by rw [hW]; simp
  have hWB : Below w.heap.size w W := by rw [hW]; exact (Below.refl _ _).alloc (Nat.le_refl _) _
  have HWB := hid hWB
  have hO : Own W w.heap.size 3 #[.int .i64 n] := by rw [hW]; exact own_new _ _ _
  have HQ : Hid (∀ fn, Change fn n g → Calls Tryz.prog (chFn t) #[x, clo fn w.heap.size] W fun e w' => ∃ y, e = .returned y ∧ InAt (Reg R W w') w' (chI g p) y ∧ Below W.heap.size W w') := fun fn hc =>
    changed_any hc p hp R W t x w.heap.size (InAt.keep (hWB.on hR) _ hx) hup (fun b hb => by have := hR b hb; omega) ⟨hO⟩
  have htx : t = 62 ∨ t = 90 ∨ t = 95 ∨ t = 97 := by
    rcases InAt.sorts hx with ⟨x', e⟩ | ⟨x', e⟩ | ⟨x', e⟩ | ⟨x', e⟩
    · cases e; exact Or.inl rfl
    · cases e; exact Or.inr (Or.inl rfl)
    · cases e; exact Or.inr (Or.inr (Or.inl rfl))
    · cases e; exact Or.inr (Or.inr (Or.inr rfl))
  have hmf : ∀ (fn : Fn) (first cap : Array Value) (w : World), (Instr.makeFunc fn first cap).run Tryz.prog w = .ok (.func fn first cap) w := fun _ _ _ _ => rfl
  have m1 := mch_id
  have m2 := mch_atom
  have m3 := mch_list
  have m4 := mch_dots
  simp [chName] at m1 m2 m3 m4
  have hW' := hW.symm
  clear hW hWB hO hx hup hR hp
  obtain ⟨q, hq⟩ : ∃ q, q = chI g p := ⟨_, rfl⟩
  rw [← hq] at HQ ⊢
  clear hq
  rcases hg with ⟨rfl, hg⟩ | ⟨rfl, hg⟩
  · have HQ1 := hid (HQ.out 29 (Or.inl ⟨rfl, hg⟩))
    clear HQ hg
    rcases htx with rfl | rfl | rfl | rfl
    all_goals
      simp only [chFn_id, chFn_atom, chFn_list, chFn_dots, clo] at HQ1
      go_enter Tryz.func17, Tryz.ntmps17
      go_wp2_with fail
      refine HQ1.out.mono ?_
      rintro e w1 ⟨y, rfl, hy, hw1⟩
      have HY := hid hy
      have HB1 := hid hw1
      clear hy hw1
      go_wp2_with fail
      go_ret
      exact ⟨_, rfl, InAt.mono (fun b hb => reg_trans (by omega) hb) _ HY.out, HWB.out.trans (HB1.out.mono (by omega))⟩
  · have HQ1 := hid (HQ.out 31 (Or.inr ⟨rfl, hg⟩))
    clear HQ hg
    rcases htx with rfl | rfl | rfl | rfl
    all_goals
      simp only [chFn_id, chFn_atom, chFn_list, chFn_dots, clo] at HQ1
      go_enter Tryz.func18, Tryz.ntmps18
      go_wp2_with fail
      refine HQ1.out.mono ?_
      rintro e w1 ⟨y, rfl, hy, hw1⟩
      have HY := hid hy
      have HB1 := hid hw1
      clear hy hw1
      go_wp2_with fail
      go_ret
      exact ⟨_, rfl, InAt.mono (fun b hb => reg_trans (by omega) hb) _ HY.out, HWB.out.trans (HB1.out.mono (by omega))⟩

end Go.Proofs.YtjbejnibiebjgaaGreat

namespace Go.Proofs.YtjbejnibiebjgaaGreat
open Go.RowKit Go.Siskin

/-- A form whose lists lie in blocks of S, each in one of its own. -/
def Tree (w : World) : Fm → (Nat → Prop) → Value → Value → Prop
  | ⟨_, _, sc, _, ks⟩, S, c2, c4 => w.ownsRow 0 3 1 c2 sc.length (sc.map (Value.int .i64)) ∧ (∀ g, c2.ownBlock = some g → S g) ∧
      ∃ (cs : List Value) (F : Nat → Nat → Prop), w.ownsRow 0 26 5 c4 ks.length cs ∧ (∀ g, c4.ownBlock = some g → S g ∧ c2.ownBlock ≠ some g) ∧
        (∀ i b, F i b → (S b ∧ c2.ownBlock ≠ some b) ∧ c4.ownBlock ≠ some b) ∧ (∀ i j b, i ≠ j → F i b → ¬ F j b) ∧
        ∀ (i : Nat) (hi : i < ks.length), ∃ k2 k4, cs[i * 5]? = some (.int .i64 ks[i].sort) ∧ cs[i * 5 + 1]? = some (.string ks[i].text) ∧ cs[i * 5 + 2]? = some k2 ∧ cs[i * 5 + 3]? = some (.int .i64 ks[i].frm) ∧ cs[i * 5 + 4]? = some k4 ∧ (have := List.sizeOf_lt_of_mem (List.getElem_mem hi); Tree w ks[i] (F i) k2 k4)
/-- What a row of such forms has. -/
structure TParts (w : World) (S : Nat → Prop) (v : Value) (ks : List Fm) (cs : List Value) (F : Nat → Nat → Prop) : Prop where
  row : w.ownsRow 0 26 5 v ks.length cs
  own : ∀ g, v.ownBlock = some g → S g
  sub : ∀ i b, F i b → S b ∧ v.ownBlock ≠ some b
  apart : ∀ i j b, i ≠ j → F i b → ¬ F j b
  kid : ∀ (i : Nat) (hi : i < ks.length), ∃ k2 k4, cs[i * 5]? = some (.int .i64 ks[i].sort) ∧ cs[i * 5 + 1]? = some (.string ks[i].text) ∧ cs[i * 5 + 2]? = some k2 ∧ cs[i * 5 + 3]? = some (.int .i64 ks[i].frm) ∧ cs[i * 5 + 4]? = some k4 ∧ Tree w ks[i] (F i) k2 k4
def TRow (w : World) (S : Nat → Prop) (v : Value) (ks : List Fm) : Prop := ∃ cs F, TParts w S v ks cs F
theorem tree_iff (w : World) (f : Fm) (S : Nat → Prop) (c2 c4 : Value) : Tree w f S c2 c4 ↔ w.ownsRow 0 3 1 c2 f.scopes.length (f.scopes.map (Value.int .i64)) ∧ (∀ g, c2.ownBlock = some g → S g) ∧ TRow w (fun b => S b ∧ c2.ownBlock ≠ some b) c4 f.kids := by
  obtain ⟨s, t, sc, fr, ks⟩ := f
  rw [Tree]
  constructor
  · rintro ⟨h1, h2, cs, F, h3, h4, h5, h6, h7⟩
    exact ⟨h1, h2, cs, F, h3, h4, h5, h6, h7⟩
  · rintro ⟨h1, h2, cs, F, h3, h4, h5, h6, h7⟩
    exact ⟨h1, h2, cs, F, h3, h4, h5, h6, h7⟩

theorem row_same {w w' : World} {e : TypeId} {s n : Nat} {v : Value} {xs : List Value} (h : w.ownsRow 0 e s v n xs) (hs : ∀ g, v.ownBlock = some g → w'.heap[g]? = w.heap[g]?) : w'.ownsRow 0 e s v n xs := by
  refine ⟨h.1, ?_⟩
  rcases h.2 with h2 | ⟨g, cap, cur, rfl, h3, h4, h5⟩
  · exact Or.inl h2
  · exact Or.inr ⟨g, cap, cur, rfl, h3, (hs g rfl).trans h4, h5⟩
theorem row_base {w : World} {base : Nat} {e : TypeId} {s n : Nat} {v : Value} {xs : List Value} (h : w.ownsRow base e s v n xs) : w.ownsRow 0 e s v n xs := by
  refine ⟨h.1, ?_⟩
  rcases h.2 with h2 | ⟨g, cap, cur, rfl, h3, h4, h5⟩
  · exact Or.inl h2
  · exact Or.inr ⟨g, cap, cur, rfl, Nat.zero_le _, h4, h5⟩

theorem tkeep_upto : ∀ (n : Nat) (f : Fm), f.sz ≤ n → ∀ {S : Nat → Prop} {w w' : World} {c2 c4 : Value}, SameOn S w w' → Tree w f S c2 c4 → Tree w' f S c2 c4
  | 0, f, hn, _, _, _, _, _, _ => by have := Fm.sz_kids f; omega
  | n + 1, f, hn, S, w, w', c2, c4, hs => fun h => by
    have hsz := Fm.sz_kids f
    rw [tree_iff] at h ⊢
    obtain ⟨h1, h2, cs, F, h3⟩ := h
    refine ⟨row_same h1 fun g e => hs g (h2 g e), h2, cs, F, row_same h3.row fun g e => hs g (h3.own g e).1, h3.own, h3.sub, h3.apart, fun i hi => ?_⟩
    obtain ⟨k2, k4, e0, e1, e2, e3, e4, e5⟩ := h3.kid i hi
    exact ⟨k2, k4, e0, e1, e2, e3, e4, tkeep_upto n _ (by have := Fm.szs_get f.kids i hi; omega) (fun b hb => hs b (h3.sub i b hb).1.1) e5⟩
theorem Tree.keep {S : Nat → Prop} {w w' : World} {f : Fm} {c2 c4 : Value} (h : Tree w f S c2 c4) (hs : SameOn S w w') : Tree w' f S c2 c4 := tkeep_upto f.sz f (Nat.le_refl _) hs h
theorem TParts.keep {S : Nat → Prop} {w w' : World} {v : Value} {ks : List Fm} {cs : List Value} {F : Nat → Nat → Prop} (h : TParts w S v ks cs F) (hs : SameOn S w w') : TParts w' S v ks cs F :=
  ⟨row_same h.row fun g e => hs g (h.own g e), h.own, h.sub, h.apart, fun i hi => by
    obtain ⟨k2, k4, e0, e1, e2, e3, e4, e5⟩ := h.kid i hi
    exact ⟨k2, k4, e0, e1, e2, e3, e4, e5.keep fun b hb => hs b (h.sub i b hb).1⟩⟩
theorem TRow.keep {S : Nat → Prop} {w w' : World} {v : Value} {ks : List Fm} (h : TRow w S v ks) (hs : SameOn S w w') : TRow w' S v ks := by
  obtain ⟨cs, F, h⟩ := h
  exact ⟨cs, F, h.keep hs⟩
theorem TRow.mono {S S' : Nat → Prop} {w : World} {v : Value} {ks : List Fm} (h : TRow w S v ks) (hs : ∀ b, S b → S' b) : TRow w S' v ks := by
  obtain ⟨cs, F, h⟩ := h
  exact ⟨cs, F, h.row, fun g e => hs g (h.own g e), fun i b hb => ⟨hs b (h.sub i b hb).1, (h.sub i b hb).2⟩, h.apart, h.kid⟩
theorem Tree.mono {S S' : Nat → Prop} {w : World} {f : Fm} {c2 c4 : Value} (h : Tree w f S c2 c4) (hs : ∀ b, S b → S' b) : Tree w f S' c2 c4 := by
  rw [tree_iff] at h ⊢
  exact ⟨h.1, fun g e => hs g (h.2.1 g e), h.2.2.mono fun b hb => ⟨hs b hb.1, hb.2⟩⟩

theorem tform_upto : ∀ (n : Nat) (f : Fm), f.sz ≤ n → f.cost ≤ maxLen → ∀ {S : Nat → Prop} {w : World} {c2 c4 : Value}, Tree w f S c2 c4 → FormAt S w f (.int .i64 f.sort) (.string f.text) c2 (.int .i64 f.frm) c4
  | 0, f, hn, _, _, _, _, _ => by have := Fm.sz_kids f; omega
  | n + 1, f, hn, hc, S, w, c2, c4 => fun h => by
    have hsz := Fm.sz_kids f
    have hce := Fm.cost_eq f
    rw [tree_iff] at h
    obtain ⟨h1, h2, cs, F, h3⟩ := h
    rw [formAt_iff]
    refine ⟨rfl, rfl, by omega, ?_, rfl, ?_⟩
    · have hl := h1.1
      rcases h1.2 with ⟨rfl, h0⟩ | ⟨g, cap, cur, rfl, hb, hg, hcap, -, -, -⟩
      · have : f.scopes = [] := List.length_eq_zero_iff.1 (by omega)
        rw [this]
        exact ⟨none, 0, rfl, ⟨Nat.zero_le _, Nat.le_refl _⟩, Or.inl rfl⟩
      · refine ⟨some ⟨g, 0, none⟩, cap, rfl, ⟨by omega, by omega⟩, Or.inr ⟨g, 0, rfl, h2 g rfl, fun i hi => ?_⟩⟩
        have k := h1.cells (g := g) rfl i (.int .i64 (f.scopes.getD i 0)) (by rw [List.getElem?_map, List.getElem?_eq_getElem hi, List.getD_eq_getElem?_getD, List.getElem?_eq_getElem hi]; rfl)
        rw [Go.WideShapes.add_plain] at k
        exact k
    · have r1 := h3.row
      have r1' := h3.row
      rcases r1.2 with ⟨rfl, h0⟩ | ⟨g, cap, cur, rfl, hb, hg, -, -, -, -⟩
      · have : f.kids = [] := List.length_eq_zero_iff.1 h0
        rw [this]
        exact ⟨none, 0, rfl, Nat.zero_le _, Or.inl rfl⟩
      · refine ⟨some ⟨g, 0, none⟩, cap, rfl, by omega, Or.inr ⟨g, 0, rfl, (h3.own g rfl).1, RowAt.mk _ fun i hi => ?_⟩⟩
        obtain ⟨k2, k4, e0, e1, e2, e3, e4, e5⟩ := h3.kid i hi
        have k := r1'.cells (g := g) rfl
        have q0 := k _ _ e0
        have q1 := k _ _ e1
        have q2 := k _ _ e2
        have q3 := k _ _ e3
        have q4 := k _ _ e4
        rw [Go.WideShapes.add_plain] at q0 q1 q2 q3 q4
        exact ⟨_, _, _, _, _, q0, q1, q2, q3, q4, FormAt.mono (fun b hb => (h3.sub i b hb).1.1) _ (tform_upto n _ (by have := Fm.szs_get f.kids i hi; omega) (by have := Fm.costs_get f.kids i hi; omega) e5)⟩
theorem Tree.form {S : Nat → Prop} {w : World} {f : Fm} {c2 c4 : Value} (h : Tree w f S c2 c4) (hc : f.cost ≤ maxLen) : FormAt S w f (.int .i64 f.sort) (.string f.text) c2 (.int .i64 f.frm) c4 := tform_upto f.sz f (Nat.le_refl _) hc h

/-- The blocks from base on. -/
def Rng (base : Nat) (w : World) (b : Nat) : Prop := base ≤ b ∧ b < w.heap.size
theorem trow_nil (w : World) (S : Nat → Prop) : TRow w S (.slice none 0 0) [] :=
  ⟨[], fun _ _ => False, World.ownsRow_nil _ _ _ _, fun _ e => (by cases e), fun _ _ h => h.elim, fun _ _ _ _ h => h.elim, fun i hi => absurd hi (by simp)⟩

theorem kid_cells {cs : List Value} {f : Fm} {n : Nat} {k2 k4 : Value} (hl : cs.length = n * 5) : (cs ++ [.int .i64 f.sort, .string f.text, k2, .int .i64 f.frm, k4])[n * 5]? = some (.int .i64 f.sort) ∧ (cs ++ [.int .i64 f.sort, .string f.text, k2, .int .i64 f.frm, k4])[n * 5 + 1]? = some (.string f.text) ∧ (cs ++ [.int .i64 f.sort, .string f.text, k2, .int .i64 f.frm, k4])[n * 5 + 2]? = some k2 ∧ (cs ++ [.int .i64 f.sort, .string f.text, k2, .int .i64 f.frm, k4])[n * 5 + 3]? = some (.int .i64 f.frm) ∧ (cs ++ [.int .i64 f.sort, .string f.text, k2, .int .i64 f.frm, k4])[n * 5 + 4]? = some k4 := by
  refine ⟨?_, ?_, ?_, ?_, ?_⟩
  · rw [List.getElem?_append_right (by omega), hl, Nat.sub_self]; rfl
  · rw [List.getElem?_append_right (by omega), hl, show n * 5 + 1 - n * 5 = 1 by omega]; rfl
  · rw [List.getElem?_append_right (by omega), hl, show n * 5 + 2 - n * 5 = 2 by omega]; rfl
  · rw [List.getElem?_append_right (by omega), hl, show n * 5 + 3 - n * 5 = 3 by omega]; rfl
  · rw [List.getElem?_append_right (by omega), hl, show n * 5 + 4 - n * 5 = 4 by omega]; rfl

/-- With one form more, made in new blocks. -/
theorem TParts.snoc {w w1 w2 : World} {base : Nat} {v v' : Value} {ks : List Fm} {cs : List Value} {F : Nat → Nat → Prop} (h : TParts w (Rng base w) v ks cs F) (hbase : base ≤ w.heap.size) (hb : Below w.heap.size w w1) {f : Fm} {k2 k4 : Value} (hf : Tree w1 f (Fresh w w1) k2 k4)
    (hg : w1.grownBy w2 v.ownBlock) (hr : w2.ownsRow 0 26 5 v' (ks.length + 1) (cs ++ [.int .i64 f.sort, .string f.text, k2, .int .i64 f.frm, k4])) (hloc : v'.ownBlock = v.ownBlock ∨ ∃ g, v'.ownBlock = some g ∧ w1.heap.size ≤ g) : TRow w2 (Rng base w2) v' (ks ++ [f]) := by
  have hs1 := hb.size
  have hs2 := hg.size
  have hl := h.row.1
  have hv' : ∀ g, v'.ownBlock = some g → base ≤ g ∧ g < w2.heap.size := fun g e => by
    rcases hloc with h1 | ⟨g', h1, h2⟩
    · have := h.own g (by rw [← h1]; exact e)
      exact ⟨this.1, by have := this.2; omega⟩
    · rw [h1] at e
      cases e
      exact ⟨by omega, (hr.lt g h1).2⟩
  have hoff : ∀ b, b < w1.heap.size → v.ownBlock ≠ some b → v'.ownBlock ≠ some b := fun b hb1 hb2 e => by
    rcases hloc with h1 | ⟨g', h1, h2⟩
    · exact hb2 (by rw [← h1]; exact e)
    · rw [h1] at e
      cases e
      omega
  refine ⟨_, fun i b => if i < ks.length then F i b else i = ks.length ∧ Fresh w w1 b, by rw [List.length_append, List.length_singleton]; exact hr, hv', fun i b hF => ?_, fun i j b hij h1 h2 => ?_, fun i hi => ?_⟩
  · by_cases hi : i < ks.length
    · rw [if_pos hi] at hF
      have h1 := h.sub i b hF
      exact ⟨⟨h1.1.1, by have := h1.1.2; omega⟩, hoff b (by have := h1.1.2; omega) h1.2⟩
    · rw [if_neg hi] at hF
      obtain ⟨-, h1, h2⟩ := hF
      exact ⟨⟨by omega, by omega⟩, hoff b h2 fun e => by have := (h.own b e).2; omega⟩
  · by_cases hi : i < ks.length
    · rw [if_pos hi] at h1
      by_cases hj : j < ks.length
      · rw [if_pos hj] at h2
        exact h.apart i j b hij h1 h2
      · rw [if_neg hj] at h2
        have := (h.sub i b h1).1.2
        have := h2.2.1
        omega
    · rw [if_neg hi] at h1
      by_cases hj : j < ks.length
      · rw [if_pos hj] at h2
        have := (h.sub j b h2).1.2
        have := h1.2.1
        omega
      · rw [if_neg hj] at h2
        omega
  · rw [List.length_append, List.length_singleton] at hi
    by_cases e : i < ks.length
    · obtain ⟨q2, q4, e0, e1, e2, e3, e4, e5⟩ := h.kid i e
      rw [List.getElem_append_left e]
      refine ⟨q2, q4, ?_, ?_, ?_, ?_, ?_, ?_⟩
      · rw [List.getElem?_append_left (by omega)]; exact e0
      · rw [List.getElem?_append_left (by omega)]; exact e1
      · rw [List.getElem?_append_left (by omega)]; exact e2
      · rw [List.getElem?_append_left (by omega)]; exact e3
      · rw [List.getElem?_append_left (by omega)]; exact e4
      · simp only [e, if_true]
        refine e5.keep fun b hb2 => ?_
        have h1 := h.sub i b hb2
        exact (hg.block b (by have := h1.1.2; omega) fun e => h1.2 e.symm).trans (hb.block b h1.1.2)
    · have hi' : i = ks.length := by omega
      subst hi'
      obtain ⟨q0, q1, q2, q3, q4⟩ := kid_cells (f := f) (k2 := k2) (k4 := k4) hl
      have hg0 : (ks ++ [f])[ks.length]'(by simp) = f := by simp
      rw [hg0]
      refine ⟨k2, k4, q0, q1, q2, q3, q4, ?_⟩
      simp only [Nat.lt_irrefl, if_false, true_and]
      refine hf.keep fun b hb2 => ?_
      exact hg.block b hb2.2 fun e => by have := (h.own b e.symm).2; have := hb2.1; omega

end Go.Proofs.YtjbejnibiebjgaaGreat
