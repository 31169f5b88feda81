/-
  The draws of two numbers: l16Two2, DrawNumAdd, DrawNumMul, DrawNumCmp. Condition: the code is at most 1048576 bytes that lie in memory.
  Rationals in order; the boxes of a law that draws numbers.
-/
import Derived.Test.YtbbffhpppacihaaDoorPart26
import Derived.Test.YtbbffhpppacihaaDoorPart19
import Derived.Test.YtbbffhpppacihaaDoorPart22
namespace Go.Proofs.YtbbffhpppacihaaDoor
open Go.RowKit Go.Siskin

abbrev numT (m : Bool) (T S : ByteArray) : Value := .agg #[.bool m, .string T, .string S]
def AnyN2 (e : Ending) : Prop := ∃ (m : Bool) (T S : ByteArray) (k : Bool) (U V : ByteArray), (T.size ≤ 2000 ∧ S.size ≤ 2000 ∧ U.size ≤ 2000 ∧ V.size ≤ 2000) ∧ e = .returned (.tuple #[numT m T S, numT k U V])

/-- The reader, the two results' boxes. -/
structure TwoAt (R : Nat → Prop) (w W : World) (rb n q : Nat) (v : Value) : Prop where
  rd : RdAt R W rb n q v
  r1 : Own W w.heap.size 25 #[.bool false, .string ⟨#[]⟩, .string ⟨#[]⟩]
  r2 : Own W (w.heap.size + 1) 25 #[.bool false, .string ⟨#[]⟩, .string ⟨#[]⟩]
  bel : Below w.heap.size w W
  hr : w.heap.size + 2 ≤ rb
theorem TwoAt.picked {R : Nat → Prop} {w W W' : World} {rb n q q' : Nat} {v : Value} (h : TwoAt R w W rb n q v) (hp : Picked rb v W W' q') (hq : q' ≤ 1000000) : TwoAt R w W' rb n q' v :=
  ⟨h.rd.picked hp hq, h.r1.picked hp (by have := h.hr; omega), h.r2.picked hp (by have := h.hr; omega), h.bel.trans (picked_below hp (by have := h.hr; omega) h.bel.size), h.hr⟩
theorem TwoAt.below {R : Nat → Prop} {w W W' : World} {rb n q : Nat} {v : Value} (h : TwoAt R w W rb n q v) (hb : Below W.heap.size W W') : TwoAt R w W' rb n q v :=
  ⟨h.rd.below hb, h.r1.keep hb h.r1.lt, h.r2.keep hb h.r2.lt, h.bel.trans (hb.mono h.bel.size), h.hr⟩

set_option maxRecDepth 20000 in
set_option maxHeartbeats 2000000 in
theorem l16Two2_any (R : Nat → Prop) (w : World) (n : Nat) (v : Value) (hv : BytesAt R w v n) (hn : n ≤ 1048576) (hR : ∀ b, R b → b < w.heap.size) :
    Calls Tryd.prog 43 #[v] w fun e w' => AnyN2 e ∧ Below w.heap.size w w' := by
  have hb := boxes2 w #[.bool false, .string ⟨#[]⟩, .string ⟨#[]⟩] #[.bool false, .string ⟨#[]⟩, .string ⟨#[]⟩] 25 25 (Below.refl _ _)
  have HOp := hid (l11Open_any R ((w.alloc box0).alloc box0) n v (hv.keep fun b hb' => hb.2.2.block b (hR b hb')) hn (fun b h => by have := hR b h; simp; omega))
  have HB := hid hb
  obtain ⟨a0, cap, rfl, -, -⟩ := hv
  have hsz : ((w.alloc box0).alloc box0).heap.size = w.heap.size + 2 := by simp
  have HSz := hid hsz
  clear hb hn hR hsz
  go_enter Tryd.func43, Tryd.ntmps43
  go_wp2_with fail
  refine HOp.out.mono ?_
  rintro e w1 ⟨n', v', rfl, hr, hw⟩
  have hlt2 := HB.out.2.1.lt
  have H1 : Hid (TwoAt R w w1 ((w.alloc box0).alloc box0).heap.size n' 0 v') := ⟨hr, HB.out.1.keep hw HB.out.1.lt, HB.out.2.1.keep hw hlt2, HB.out.2.2.trans (hw.mono HB.out.2.2.size), by rw [HSz.out]; exact Nat.le_refl _⟩
  generalize ((w.alloc box0).alloc box0).heap.size = rb at *
  clear hr hw HB HOp HSz hlt2
  go_wp2_with fail
  refine (l16Any_rd H1.out.rd (by omega)).mono ?_
  rintro e w2 ⟨q2, hq2, hp2, ma, Ta, Sa, hTa, hSa, rfl⟩
  have H2 := hid (H1.out.picked hp2 (by omega))
  clear hp2
  have k2 := (Below.refl w2.heap.size w2).alloc (Nat.le_refl _) (boxN ma Ta Sa)
  have H3 := hid (H2.out.below k2)
  have HA3 := hid (own_new w2 #[.bool ma, .string Ta, .string Sa] 25)
  have hna : w2.heap.size ≠ rb := by have := H2.out.rd.own.lt; omega
  have hga : w.heap.size + 2 ≤ w2.heap.size := by have := H2.out.rd.own.lt; have := H2.out.hr; omega
  clear k2
  go_wp2_with fail
  refine (l16Any_rd H3.out.rd (by omega)).mono ?_
  rintro e w4 ⟨q4, hq4, hp4, mb, Tb, Sb, hTb, hSb, rfl⟩
  have H4 := hid (H3.out.picked hp4 (by omega))
  have HA4 := hid (HA3.out.picked hp4 hna)
  clear hp4
  have k4 := (Below.refl w4.heap.size w4).alloc (Nat.le_refl _) (boxN mb Tb Sb)
  have H5 := hid (H4.out.below k4)
  have HA5 := hid (HA4.out.keep k4 HA4.out.lt)
  have HB5 := hid (own_new w4 #[.bool mb, .string Tb, .string Sb] 25)
  have hnb : w4.heap.size ≠ rb := by have := H4.out.rd.own.lt; omega
  have hab : w2.heap.size < w4.heap.size := HA4.out.lt
  clear k4
  go_wp2_with fail
  refine (pick_rd H5.out.rd 8 (by omega) (by omega)).mono ?_
  rintro e w6 ⟨k, hk, rfl, hp6, -⟩
  have H6 := hid (H5.out.picked hp6 (by omega))
  have HA6 := hid (HA5.out.picked hp6 hna)
  have HB6 := hid (HB5.out.picked hp6 hnb)
  clear hp6
  have hcase : k = 0 ∨ k = 1 ∨ (((k : Int) == 0) = false ∧ ((k : Int) == 1) = false) := by
    rcases Nat.lt_or_ge k 2 with h | h
    · omega
    · exact Or.inr (Or.inr ⟨by simp; omega, by simp; omega⟩)
  clear hk
  obtain ⟨⟨x0, x1, x2⟩, -⟩ := own3V HA6.out
  obtain ⟨⟨y0, y1, y2⟩, f0, f1, f2⟩ := own3V HB6.out
  rcases hcase with rfl | rfl | ⟨hk0, hk1⟩
  · go_wp2_with fail
    obtain ⟨W9, HW9⟩ : ∃ W, Hid (((w6.setCell ⟨w4.heap.size, 0, none⟩ (.bool ma)).setCell ⟨w4.heap.size, 1, none⟩ (.string Ta)).setCell ⟨w4.heap.size, 2, none⟩ (.string Sa) = W) := ⟨_, rfl⟩
    have HW : Hid (Own W9 w2.heap.size 25 #[.bool ma, .string Ta, .string Sa] ∧ Own W9 w4.heap.size 25 #[.bool ma, .string Ta, .string Sa] ∧ Own W9 w.heap.size 25 #[.bool false, .string ⟨#[]⟩, .string ⟨#[]⟩] ∧ Own W9 (w.heap.size + 1) 25 #[.bool false, .string ⟨#[]⟩, .string ⟨#[]⟩] ∧ Below w.heap.size w W9) := by
      rw [← HW9.out]
      exact ⟨own_set3 HA6.out (by omega) _ _ _, ((HB6.out.set 0 _).set 1 _).set 2 _, own_set3 H6.out.r1 (by omega) _ _ _, own_set3 H6.out.r2 (by omega) _ _ _, below_set3 H6.out.bel (by omega) _ _ _⟩
    rw [HW9.out]
    clear HW9 x0 x1 x2 y0 y1 y2 f0 f1 f2
    have OA := hid (HW.out.1.keep (Below.refl W9.heap.size W9).drew HW.out.1.lt)
    have OB := hid (HW.out.2.1.keep (Below.refl W9.heap.size W9).drew HW.out.2.1.lt)
    have O1 := hid (HW.out.2.2.1.keep (Below.refl W9.heap.size W9).drew HW.out.2.2.1.lt)
    have O2 := hid (HW.out.2.2.2.1.keep (Below.refl W9.heap.size W9).drew HW.out.2.2.2.1.lt)
    have HBl := hid (HW.out.2.2.2.2.drew)
    obtain ⟨V, HV⟩ : ∃ V, Hid (W9.drew = V) := ⟨_, rfl⟩
    rw [HV.out] at OA OB O1 O2 HBl
    obtain ⟨⟨r0, r1, r2⟩, g0, g1, g2⟩ := own3V O1.out
    obtain ⟨⟨s0, s1, s2⟩, h0, h1, h2⟩ := own3V O2.out
    have HL : Hid (∀ W, (Own W w2.heap.size 25 #[.bool ma, .string Ta, .string Sa] ∧ Own W w4.heap.size 25 #[.bool ma, .string Ta, .string Sa]) → (W.cell? ⟨w2.heap.size, 0, none⟩ = some (.bool ma) ∧ W.cell? ⟨w2.heap.size, 1, none⟩ = some (.string Ta) ∧ W.cell? ⟨w2.heap.size, 2, none⟩ = some (.string Sa)) ∧ W.cell? ⟨w4.heap.size, 0, none⟩ = some (.bool ma) ∧ W.cell? ⟨w4.heap.size, 1, none⟩ = some (.string Ta) ∧ W.cell? ⟨w4.heap.size, 2, none⟩ = some (.string Sa)) := fun W h => ⟨(own3V h.1).1, (own3V h.2).1⟩
    have L0 := hid (HL.out _ ⟨OA.out, OB.out⟩)
    have L0' := hid (show (W9.drew.cell? ⟨w2.heap.size, 0, none⟩ = some (.bool ma) ∧ W9.drew.cell? ⟨w2.heap.size, 1, none⟩ = some (.string Ta) ∧ W9.drew.cell? ⟨w2.heap.size, 2, none⟩ = some (.string Sa)) ∧ W9.drew.cell? ⟨w4.heap.size, 0, none⟩ = some (.bool ma) ∧ W9.drew.cell? ⟨w4.heap.size, 1, none⟩ = some (.string Ta) ∧ W9.drew.cell? ⟨w4.heap.size, 2, none⟩ = some (.string Sa) by rw [HV.out]; exact L0.out)
    have L3 := hid (HL.out _ ⟨own_set3 OA.out (r := w.heap.size) (by omega) (.bool ma) (.string Ta) (.string Sa), own_set3 OB.out (r := w.heap.size) (by omega) (.bool ma) (.string Ta) (.string Sa)⟩)
    have L4 := hid (HL.out _ ⟨own_set3 (own_set3 OA.out (r := w.heap.size) (by omega) (.bool ma) (.string Ta) (.string Sa)) (r := w.heap.size + 1) (by omega) (.bool ma) (.string Ta) (.string Sa), own_set3 (own_set3 OB.out (r := w.heap.size) (by omega) (.bool ma) (.string Ta) (.string Sa)) (r := w.heap.size + 1) (by omega) (.bool ma) (.string Ta) (.string Sa)⟩)
    refine wp_region_held_drew (S := fun W => (W.cell? ⟨w2.heap.size, 0, none⟩ = some (.bool ma) ∧ W.cell? ⟨w2.heap.size, 1, none⟩ = some (.string Ta) ∧ W.cell? ⟨w2.heap.size, 2, none⟩ = some (.string Sa)) ∧ W.cell? ⟨w4.heap.size, 0, none⟩ = some (.bool ma) ∧ W.cell? ⟨w4.heap.size, 1, none⟩ = some (.string Ta) ∧ W.cell? ⟨w4.heap.size, 2, none⟩ = some (.string Sa)) rfl L0'.out (fun _ => ?_)
    rw [HV.out]
    refine wpAnyH_take (i := 0) (oi := ({ dst := some 22, op := _, type := _, pos := _, after := _, guard := _ } : Oper)) (v := (numT ma Ta Sa)) rfl (by kernel_rfl) (by kernel_rfl) (by kernel_rfl) (fun _ _ _ h => h) (Or.inl ⟨by rfl, ?_⟩) L0.out ?_
    · intro w hSw; (try dsimp only at hSw); go_simp
    try simp only [Act.put, List.setIfInBounds_toArray, List.set_cons_zero, List.set_cons_succ]
    refine wpAnyH_take (i := 1) (oi := ({ dst := some 23, op := _, type := _, pos := _, after := _, guard := _ } : Oper)) (v := (numT ma Ta Sa)) rfl (by kernel_rfl) (by kernel_rfl) (by kernel_rfl) (fun _ _ _ h => h) (Or.inl ⟨by rfl, ?_⟩) L0.out ?_
    · intro w hSw; (try dsimp only at hSw); go_simp
    try simp only [Act.put, List.setIfInBounds_toArray, List.set_cons_zero, List.set_cons_succ]
    refine wpAnyH_ready (rs := [2]) (by kernel_rfl) (by simp) ?_
    refine AllReadyH.cons (o := ({ dst := none, op := _, type := _, pos := _, after := _, guard := _ } : Oper)) rfl (fun K hK => ?_) AllReadyH.nil
    go_simp
    refine hK.out _ _ L3.out (fun _ => ?_)
    clear hK K
    try simp only [Act.put, List.setIfInBounds_toArray, List.set_cons_zero, List.set_cons_succ]
    refine wpAnyH_ready (rs := [3]) (by kernel_rfl) (by simp) ?_
    refine AllReadyH.cons (o := ({ dst := none, op := _, type := _, pos := _, after := _, guard := _ } : Oper)) rfl (fun K hK => ?_) AllReadyH.nil
    go_simp
    refine hK.out _ _ L4.out (fun _ => ?_)
    clear hK K
    try simp only [Act.put, List.setIfInBounds_toArray, List.set_cons_zero, List.set_cons_succ]
    refine wpAnyH_done (by kernel_rfl) ?_ _
    go_wp2_with fail
    refine bodyPost_ret (v := .tuple #[numT ma Ta Sa, numT ma Ta Sa]) (by simp [results, Tryd.results43, go_sem, r0, r1, r2, s0, s1, s2]) rfl ⟨⟨ma, Ta, Sa, ma, Ta, Sa, ⟨hTa, hSa, by assumption, by assumption⟩, rfl⟩, ?_⟩
    exact below_set3 (below_set3 HBl.out (Nat.le_refl _) _ _ _) (Nat.le_succ _) _ _ _
  · go_wp2_with fail
    refine (l13Neg_text ma Ta Sa w6).mono ?_
    rintro e w7 ⟨mc, rfl, hw7⟩
    have H7 := hid (H6.out.below hw7)
    have HA7 := hid (HA6.out.keep hw7 HA6.out.lt)
    have HB7 := hid (HB6.out.keep hw7 HB6.out.lt)
    clear hw7 x0 x1 x2 y0 y1 y2 f0 f1 f2
    obtain ⟨⟨x0, x1, x2⟩, -⟩ := own3V HA7.out
    obtain ⟨⟨y0, y1, y2⟩, f0, f1, f2⟩ := own3V HB7.out
    go_wp2_with fail
    obtain ⟨W9, HW9⟩ : ∃ W, Hid (((w7.setCell ⟨w4.heap.size, 0, none⟩ (.bool mc)).setCell ⟨w4.heap.size, 1, none⟩ (.string Ta)).setCell ⟨w4.heap.size, 2, none⟩ (.string Sa) = W) := ⟨_, rfl⟩
    have HW : Hid (Own W9 w2.heap.size 25 #[.bool ma, .string Ta, .string Sa] ∧ Own W9 w4.heap.size 25 #[.bool mc, .string Ta, .string Sa] ∧ Own W9 w.heap.size 25 #[.bool false, .string ⟨#[]⟩, .string ⟨#[]⟩] ∧ Own W9 (w.heap.size + 1) 25 #[.bool false, .string ⟨#[]⟩, .string ⟨#[]⟩] ∧ Below w.heap.size w W9) := by
      rw [← HW9.out]
      exact ⟨own_set3 HA7.out (by omega) _ _ _, ((HB7.out.set 0 _).set 1 _).set 2 _, own_set3 H7.out.r1 (by omega) _ _ _, own_set3 H7.out.r2 (by omega) _ _ _, below_set3 H7.out.bel (by omega) _ _ _⟩
    rw [HW9.out]
    clear HW9 x0 x1 x2 y0 y1 y2 f0 f1 f2
    have OA := hid (HW.out.1.keep (Below.refl W9.heap.size W9).drew HW.out.1.lt)
    have OB := hid (HW.out.2.1.keep (Below.refl W9.heap.size W9).drew HW.out.2.1.lt)
    have O1 := hid (HW.out.2.2.1.keep (Below.refl W9.heap.size W9).drew HW.out.2.2.1.lt)
    have O2 := hid (HW.out.2.2.2.1.keep (Below.refl W9.heap.size W9).drew HW.out.2.2.2.1.lt)
    have HBl := hid (HW.out.2.2.2.2.drew)
    obtain ⟨V, HV⟩ : ∃ V, Hid (W9.drew = V) := ⟨_, rfl⟩
    rw [HV.out] at OA OB O1 O2 HBl
    obtain ⟨⟨r0, r1, r2⟩, g0, g1, g2⟩ := own3V O1.out
    obtain ⟨⟨s0, s1, s2⟩, h0, h1, h2⟩ := own3V O2.out
    have HL : Hid (∀ W, (Own W w2.heap.size 25 #[.bool ma, .string Ta, .string Sa] ∧ Own W w4.heap.size 25 #[.bool mc, .string Ta, .string Sa]) → (W.cell? ⟨w2.heap.size, 0, none⟩ = some (.bool ma) ∧ W.cell? ⟨w2.heap.size, 1, none⟩ = some (.string Ta) ∧ W.cell? ⟨w2.heap.size, 2, none⟩ = some (.string Sa)) ∧ W.cell? ⟨w4.heap.size, 0, none⟩ = some (.bool mc) ∧ W.cell? ⟨w4.heap.size, 1, none⟩ = some (.string Ta) ∧ W.cell? ⟨w4.heap.size, 2, none⟩ = some (.string Sa)) := fun W h => ⟨(own3V h.1).1, (own3V h.2).1⟩
    have L0 := hid (HL.out _ ⟨OA.out, OB.out⟩)
    have L0' := hid (show (W9.drew.cell? ⟨w2.heap.size, 0, none⟩ = some (.bool ma) ∧ W9.drew.cell? ⟨w2.heap.size, 1, none⟩ = some (.string Ta) ∧ W9.drew.cell? ⟨w2.heap.size, 2, none⟩ = some (.string Sa)) ∧ W9.drew.cell? ⟨w4.heap.size, 0, none⟩ = some (.bool mc) ∧ W9.drew.cell? ⟨w4.heap.size, 1, none⟩ = some (.string Ta) ∧ W9.drew.cell? ⟨w4.heap.size, 2, none⟩ = some (.string Sa) by rw [HV.out]; exact L0.out)
    have L3 := hid (HL.out _ ⟨own_set3 OA.out (r := w.heap.size) (by omega) (.bool ma) (.string Ta) (.string Sa), own_set3 OB.out (r := w.heap.size) (by omega) (.bool ma) (.string Ta) (.string Sa)⟩)
    have L4 := hid (HL.out _ ⟨own_set3 (own_set3 OA.out (r := w.heap.size) (by omega) (.bool ma) (.string Ta) (.string Sa)) (r := w.heap.size + 1) (by omega) (.bool mc) (.string Ta) (.string Sa), own_set3 (own_set3 OB.out (r := w.heap.size) (by omega) (.bool ma) (.string Ta) (.string Sa)) (r := w.heap.size + 1) (by omega) (.bool mc) (.string Ta) (.string Sa)⟩)
    refine wp_region_held_drew (S := fun W => (W.cell? ⟨w2.heap.size, 0, none⟩ = some (.bool ma) ∧ W.cell? ⟨w2.heap.size, 1, none⟩ = some (.string Ta) ∧ W.cell? ⟨w2.heap.size, 2, none⟩ = some (.string Sa)) ∧ W.cell? ⟨w4.heap.size, 0, none⟩ = some (.bool mc) ∧ W.cell? ⟨w4.heap.size, 1, none⟩ = some (.string Ta) ∧ W.cell? ⟨w4.heap.size, 2, none⟩ = some (.string Sa)) rfl L0'.out (fun _ => ?_)
    rw [HV.out]
    refine wpAnyH_take (i := 0) (oi := ({ dst := some 22, op := _, type := _, pos := _, after := _, guard := _ } : Oper)) (v := (numT ma Ta Sa)) rfl (by kernel_rfl) (by kernel_rfl) (by kernel_rfl) (fun _ _ _ h => h) (Or.inl ⟨by rfl, ?_⟩) L0.out ?_
    · intro w hSw; (try dsimp only at hSw); go_simp
    try simp only [Act.put, List.setIfInBounds_toArray, List.set_cons_zero, List.set_cons_succ]
    refine wpAnyH_take (i := 1) (oi := ({ dst := some 23, op := _, type := _, pos := _, after := _, guard := _ } : Oper)) (v := (numT mc Ta Sa)) rfl (by kernel_rfl) (by kernel_rfl) (by kernel_rfl) (fun _ _ _ h => h) (Or.inl ⟨by rfl, ?_⟩) L0.out ?_
    · intro w hSw; (try dsimp only at hSw); go_simp
    try simp only [Act.put, List.setIfInBounds_toArray, List.set_cons_zero, List.set_cons_succ]
    refine wpAnyH_ready (rs := [2]) (by kernel_rfl) (by simp) ?_
    refine AllReadyH.cons (o := ({ dst := none, op := _, type := _, pos := _, after := _, guard := _ } : Oper)) rfl (fun K hK => ?_) AllReadyH.nil
    go_simp
    refine hK.out _ _ L3.out (fun _ => ?_)
    clear hK K
    try simp only [Act.put, List.setIfInBounds_toArray, List.set_cons_zero, List.set_cons_succ]
    refine wpAnyH_ready (rs := [3]) (by kernel_rfl) (by simp) ?_
    refine AllReadyH.cons (o := ({ dst := none, op := _, type := _, pos := _, after := _, guard := _ } : Oper)) rfl (fun K hK => ?_) AllReadyH.nil
    go_simp
    refine hK.out _ _ L4.out (fun _ => ?_)
    clear hK K
    try simp only [Act.put, List.setIfInBounds_toArray, List.set_cons_zero, List.set_cons_succ]
    refine wpAnyH_done (by kernel_rfl) ?_ _
    go_wp2_with fail
    refine bodyPost_ret (v := .tuple #[numT ma Ta Sa, numT mc Ta Sa]) (by simp [results, Tryd.results43, go_sem, r0, r1, r2, s0, s1, s2]) rfl ⟨⟨ma, Ta, Sa, mc, Ta, Sa, ⟨hTa, hSa, by assumption, by assumption⟩, rfl⟩, ?_⟩
    exact below_set3 (below_set3 HBl.out (Nat.le_refl _) _ _ _) (Nat.le_succ _) _ _ _
  · go_wp2_with fail
    have HW : Hid (Own w6 w2.heap.size 25 #[.bool ma, .string Ta, .string Sa] ∧ Own w6 w4.heap.size 25 #[.bool mb, .string Tb, .string Sb] ∧ Own w6 w.heap.size 25 #[.bool false, .string ⟨#[]⟩, .string ⟨#[]⟩] ∧ Own w6 (w.heap.size + 1) 25 #[.bool false, .string ⟨#[]⟩, .string ⟨#[]⟩] ∧ Below w.heap.size w w6) := ⟨HA6.out, HB6.out, H6.out.r1, H6.out.r2, H6.out.bel⟩
    clear x0 x1 x2 y0 y1 y2 f0 f1 f2
    have OA := hid (HW.out.1.keep (Below.refl w6.heap.size w6).drew HW.out.1.lt)
    have OB := hid (HW.out.2.1.keep (Below.refl w6.heap.size w6).drew HW.out.2.1.lt)
    have O1 := hid (HW.out.2.2.1.keep (Below.refl w6.heap.size w6).drew HW.out.2.2.1.lt)
    have O2 := hid (HW.out.2.2.2.1.keep (Below.refl w6.heap.size w6).drew HW.out.2.2.2.1.lt)
    have HBl := hid (HW.out.2.2.2.2.drew)
    obtain ⟨V, HV⟩ : ∃ V, Hid (w6.drew = V) := ⟨_, rfl⟩
    rw [HV.out] at OA OB O1 O2 HBl
    obtain ⟨⟨r0, r1, r2⟩, g0, g1, g2⟩ := own3V O1.out
    obtain ⟨⟨s0, s1, s2⟩, h0, h1, h2⟩ := own3V O2.out
    have HL : Hid (∀ W, (Own W w2.heap.size 25 #[.bool ma, .string Ta, .string Sa] ∧ Own W w4.heap.size 25 #[.bool mb, .string Tb, .string Sb]) → (W.cell? ⟨w2.heap.size, 0, none⟩ = some (.bool ma) ∧ W.cell? ⟨w2.heap.size, 1, none⟩ = some (.string Ta) ∧ W.cell? ⟨w2.heap.size, 2, none⟩ = some (.string Sa)) ∧ W.cell? ⟨w4.heap.size, 0, none⟩ = some (.bool mb) ∧ W.cell? ⟨w4.heap.size, 1, none⟩ = some (.string Tb) ∧ W.cell? ⟨w4.heap.size, 2, none⟩ = some (.string Sb)) := fun W h => ⟨(own3V h.1).1, (own3V h.2).1⟩
    have L0 := hid (HL.out _ ⟨OA.out, OB.out⟩)
    have L0' := hid (show (w6.drew.cell? ⟨w2.heap.size, 0, none⟩ = some (.bool ma) ∧ w6.drew.cell? ⟨w2.heap.size, 1, none⟩ = some (.string Ta) ∧ w6.drew.cell? ⟨w2.heap.size, 2, none⟩ = some (.string Sa)) ∧ w6.drew.cell? ⟨w4.heap.size, 0, none⟩ = some (.bool mb) ∧ w6.drew.cell? ⟨w4.heap.size, 1, none⟩ = some (.string Tb) ∧ w6.drew.cell? ⟨w4.heap.size, 2, none⟩ = some (.string Sb) by rw [HV.out]; exact L0.out)
    have L3 := hid (HL.out _ ⟨own_set3 OA.out (r := w.heap.size) (by omega) (.bool ma) (.string Ta) (.string Sa), own_set3 OB.out (r := w.heap.size) (by omega) (.bool ma) (.string Ta) (.string Sa)⟩)
    have L4 := hid (HL.out _ ⟨own_set3 (own_set3 OA.out (r := w.heap.size) (by omega) (.bool ma) (.string Ta) (.string Sa)) (r := w.heap.size + 1) (by omega) (.bool mb) (.string Tb) (.string Sb), own_set3 (own_set3 OB.out (r := w.heap.size) (by omega) (.bool ma) (.string Ta) (.string Sa)) (r := w.heap.size + 1) (by omega) (.bool mb) (.string Tb) (.string Sb)⟩)
    refine wp_region_held_drew (S := fun W => (W.cell? ⟨w2.heap.size, 0, none⟩ = some (.bool ma) ∧ W.cell? ⟨w2.heap.size, 1, none⟩ = some (.string Ta) ∧ W.cell? ⟨w2.heap.size, 2, none⟩ = some (.string Sa)) ∧ W.cell? ⟨w4.heap.size, 0, none⟩ = some (.bool mb) ∧ W.cell? ⟨w4.heap.size, 1, none⟩ = some (.string Tb) ∧ W.cell? ⟨w4.heap.size, 2, none⟩ = some (.string Sb)) rfl L0'.out (fun _ => ?_)
    rw [HV.out]
    refine wpAnyH_take (i := 0) (oi := ({ dst := some 22, op := _, type := _, pos := _, after := _, guard := _ } : Oper)) (v := (numT ma Ta Sa)) rfl (by kernel_rfl) (by kernel_rfl) (by kernel_rfl) (fun _ _ _ h => h) (Or.inl ⟨by rfl, ?_⟩) L0.out ?_
    · intro w hSw; (try dsimp only at hSw); go_simp
    try simp only [Act.put, List.setIfInBounds_toArray, List.set_cons_zero, List.set_cons_succ]
    refine wpAnyH_take (i := 1) (oi := ({ dst := some 23, op := _, type := _, pos := _, after := _, guard := _ } : Oper)) (v := (numT mb Tb Sb)) rfl (by kernel_rfl) (by kernel_rfl) (by kernel_rfl) (fun _ _ _ h => h) (Or.inl ⟨by rfl, ?_⟩) L0.out ?_
    · intro w hSw; (try dsimp only at hSw); go_simp
    try simp only [Act.put, List.setIfInBounds_toArray, List.set_cons_zero, List.set_cons_succ]
    refine wpAnyH_ready (rs := [2]) (by kernel_rfl) (by simp) ?_
    refine AllReadyH.cons (o := ({ dst := none, op := _, type := _, pos := _, after := _, guard := _ } : Oper)) rfl (fun K hK => ?_) AllReadyH.nil
    go_simp
    refine hK.out _ _ L3.out (fun _ => ?_)
    clear hK K
    try simp only [Act.put, List.setIfInBounds_toArray, List.set_cons_zero, List.set_cons_succ]
    refine wpAnyH_ready (rs := [3]) (by kernel_rfl) (by simp) ?_
    refine AllReadyH.cons (o := ({ dst := none, op := _, type := _, pos := _, after := _, guard := _ } : Oper)) rfl (fun K hK => ?_) AllReadyH.nil
    go_simp
    refine hK.out _ _ L4.out (fun _ => ?_)
    clear hK K
    try simp only [Act.put, List.setIfInBounds_toArray, List.set_cons_zero, List.set_cons_succ]
    refine wpAnyH_done (by kernel_rfl) ?_ _
    go_wp2_with fail
    refine bodyPost_ret (v := .tuple #[numT ma Ta Sa, numT mb Tb Sb]) (by simp [results, Tryd.results43, go_sem, r0, r1, r2, s0, s1, s2]) rfl ⟨⟨ma, Ta, Sa, mb, Tb, Sb, ⟨hTa, hSa, by assumption, by assumption⟩, rfl⟩, ?_⟩
    exact below_set3 (below_set3 HBl.out (Nat.le_refl _) _ _ _) (Nat.le_succ _) _ _ _

set_option maxRecDepth 20000 in
set_option maxHeartbeats 1000000 in
theorem DrawNumAdd_any (R : Nat → Prop) (w : World) (n : Nat) (v : Value) (hv : BytesAt R w v n) (hn : n ≤ 1048576) (hR : ∀ b, R b → b < w.heap.size) :
    Calls Tryd.prog 15 #[v] w fun e w' => AnyN2 e ∧ Below w.heap.size w w' := by
  have hb := boxes2 w #[.bool false, .string ⟨#[]⟩, .string ⟨#[]⟩] #[.bool false, .string ⟨#[]⟩, .string ⟨#[]⟩] 25 25 (Below.refl _ _)
  have HT := hid (l16Two2_any R ((w.alloc box0).alloc box0) n v (hv.keep fun b hb' => hb.2.2.block b (hR b hb')) hn (fun b h => by have := hR b h; simp; omega))
  have HB := hid hb
  obtain ⟨a0, cap, rfl, -, -⟩ := hv
  clear hb hn hR
  go_enter Tryd.func15, Tryd.ntmps15
  go_wp2_with fail
  refine HT.out.mono ?_
  rintro e w1 ⟨⟨ma, Ta, Sa, mb, Tb, Sb, hs, rfl⟩, hw⟩
  have hlt2 := HB.out.2.1.lt
  obtain ⟨⟨r0, r1, r2⟩, g0, g1, g2⟩ := own3V (HB.out.1.keep hw HB.out.1.lt)
  obtain ⟨⟨s0, s1, s2⟩, h0, h1, h2⟩ := own3V (HB.out.2.1.keep hw hlt2)
  have HBl := hid (HB.out.2.2.trans (hw.mono HB.out.2.2.size))
  clear hw hlt2
  go_wp2_with fail
  refine bodyPost_ret (v := .tuple #[numT ma Ta Sa, numT mb Tb Sb]) (by simp [results, Tryd.results15, go_sem, r0, r1, r2, s0, s1, s2]) rfl ⟨⟨ma, Ta, Sa, mb, Tb, Sb, hs, rfl⟩, ?_⟩
  exact below_set3 (below_set3 HBl.out (Nat.le_refl _) _ _ _) (Nat.le_succ _) _ _ _

set_option maxRecDepth 20000 in
set_option maxHeartbeats 1000000 in
theorem DrawNumMul_any (R : Nat → Prop) (w : World) (n : Nat) (v : Value) (hv : BytesAt R w v n) (hn : n ≤ 1048576) (hR : ∀ b, R b → b < w.heap.size) :
    Calls Tryd.prog 16 #[v] w fun e w' => AnyN2 e ∧ Below w.heap.size w w' := by
  have hb := boxes2 w #[.bool false, .string ⟨#[]⟩, .string ⟨#[]⟩] #[.bool false, .string ⟨#[]⟩, .string ⟨#[]⟩] 25 25 (Below.refl _ _)
  have HT := hid (l16Two2_any R ((w.alloc box0).alloc box0) n v (hv.keep fun b hb' => hb.2.2.block b (hR b hb')) hn (fun b h => by have := hR b h; simp; omega))
  have HB := hid hb
  obtain ⟨a0, cap, rfl, -, -⟩ := hv
  clear hb hn hR
  go_enter Tryd.func16, Tryd.ntmps16
  go_wp2_with fail
  refine HT.out.mono ?_
  rintro e w1 ⟨⟨ma, Ta, Sa, mb, Tb, Sb, hs, rfl⟩, hw⟩
  have hlt2 := HB.out.2.1.lt
  obtain ⟨⟨r0, r1, r2⟩, g0, g1, g2⟩ := own3V (HB.out.1.keep hw HB.out.1.lt)
  obtain ⟨⟨s0, s1, s2⟩, h0, h1, h2⟩ := own3V (HB.out.2.1.keep hw hlt2)
  have HBl := hid (HB.out.2.2.trans (hw.mono HB.out.2.2.size))
  clear hw hlt2
  go_wp2_with fail
  refine bodyPost_ret (v := .tuple #[numT ma Ta Sa, numT mb Tb Sb]) (by simp [results, Tryd.results16, go_sem, r0, r1, r2, s0, s1, s2]) rfl ⟨⟨ma, Ta, Sa, mb, Tb, Sb, hs, rfl⟩, ?_⟩
  exact below_set3 (below_set3 HBl.out (Nat.le_refl _) _ _ _) (Nat.le_succ _) _ _ _

set_option maxRecDepth 20000 in
set_option maxHeartbeats 1000000 in
theorem DrawNumCmp_any (R : Nat → Prop) (w : World) (n : Nat) (v : Value) (hv : BytesAt R w v n) (hn : n ≤ 1048576) (hR : ∀ b, R b → b < w.heap.size) :
    Calls Tryd.prog 26 #[v] w fun e w' => AnyN2 e ∧ Below w.heap.size w w' := by
  have hb := boxes2 w #[.bool false, .string ⟨#[]⟩, .string ⟨#[]⟩] #[.bool false, .string ⟨#[]⟩, .string ⟨#[]⟩] 25 25 (Below.refl _ _)
  have HT := hid (l16Two2_any R ((w.alloc box0).alloc box0) n v (hv.keep fun b hb' => hb.2.2.block b (hR b hb')) hn (fun b h => by have := hR b h; simp; omega))
  have HB := hid hb
  obtain ⟨a0, cap, rfl, -, -⟩ := hv
  clear hb hn hR
  go_enter Tryd.func26, Tryd.ntmps26
  go_wp2_with fail
  refine HT.out.mono ?_
  rintro e w1 ⟨⟨ma, Ta, Sa, mb, Tb, Sb, hs, rfl⟩, hw⟩
  have hlt2 := HB.out.2.1.lt
  obtain ⟨⟨r0, r1, r2⟩, g0, g1, g2⟩ := own3V (HB.out.1.keep hw HB.out.1.lt)
  obtain ⟨⟨s0, s1, s2⟩, h0, h1, h2⟩ := own3V (HB.out.2.1.keep hw hlt2)
  have HBl := hid (HB.out.2.2.trans (hw.mono HB.out.2.2.size))
  clear hw hlt2
  go_wp2_with fail
  refine bodyPost_ret (v := .tuple #[numT ma Ta Sa, numT mb Tb Sb]) (by simp [results, Tryd.results26, go_sem, r0, r1, r2, s0, s1, s2]) rfl ⟨⟨ma, Ta, Sa, mb, Tb, Sb, hs, rfl⟩, ?_⟩
  exact below_set3 (below_set3 HBl.out (Nat.le_refl _) _ _ _) (Nat.le_succ _) _ _ _
end Go.Proofs.YtbbffhpppacihaaDoor

namespace Go.Proofs.YtbbffhpppacihaaDoor
open Go.RowKit Go.Siskin

theorem sgnR_neg (x : Rat) : sgnR (-x) = - sgnR x := by
  unfold sgnR
  by_cases h0 : x = 0
  · subst h0; rfl
  · by_cases h1 : x < 0
    · rw [if_neg (by grind), if_neg (by grind), if_neg h0, if_pos h1]; rfl
    · rw [if_neg (by grind), if_pos (by grind), if_neg h0, if_neg h1]
theorem sgnR_mul (x y : Rat) : sgnR (x * y) = sgnR x * sgnR y := by
  by_cases h0 : x = 0
  · subst h0; rw [Rat.zero_mul]; unfold sgnR; simp
  · by_cases h1 : y = 0
    · subst h1; rw [Rat.mul_zero]; unfold sgnR; simp
    · have hne : x * y ≠ 0 := by
        intro h
        rcases Rat.mul_eq_zero.1 h with h | h
        · exact h0 h
        · exact h1 h
      by_cases hx : x < 0 <;> by_cases hy : y < 0
      · have : 0 < x * y := by have := Rat.mul_pos (a := -x) (b := -y) (by grind) (by grind); grind
        unfold sgnR; rw [if_neg hne, if_neg (by grind), if_neg h0, if_pos hx, if_neg h1, if_pos hy]; rfl
      · have : x * y < 0 := by have := Rat.mul_pos (a := -x) (b := y) (by grind) (by grind); grind
        unfold sgnR; rw [if_neg hne, if_pos this, if_neg h0, if_pos hx, if_neg h1, if_neg hy]; rfl
      · have : x * y < 0 := by have := Rat.mul_pos (a := x) (b := -y) (by grind) (by grind); grind
        unfold sgnR; rw [if_neg hne, if_pos this, if_neg h0, if_neg hx, if_neg h1, if_pos hy]; rfl
      · have : 0 < x * y := Rat.mul_pos (by grind) (by grind)
        unfold sgnR; rw [if_neg hne, if_neg (by grind), if_neg h0, if_neg hx, if_neg h1, if_neg hy]; rfl
theorem cmpR_swap (p q : Rat) : cmpR q p = - cmpR p q := by
  unfold cmpR; rw [← sgnR_neg]; congr 1; grind
theorem cmpR_zero (p q : Rat) : cmpR p q = 0 ↔ p = q := by
  unfold cmpR sgnR
  constructor
  · intro h
    by_cases h0 : p - q = 0
    · grind
    · rw [if_neg h0] at h; split at h <;> cases h
  · rintro rfl; rw [if_pos (by grind)]
theorem cmpR_add (p q r : Rat) : cmpR (p + r) (q + r) = cmpR p q := by unfold cmpR; congr 1; grind
theorem cmpR_mul (p q r : Rat) : cmpR (p * r) (q * r) = cmpR p q * cmpR r 0 := by
  unfold cmpR; rw [← sgnR_mul]; congr 1; grind
theorem cmpR_sub (p q : Rat) : cmpR (p - q) 0 = cmpR p q := by unfold cmpR; congr 1; grind
theorem cmpR_range (p q : Rat) : cmpR p q = -1 ∨ cmpR p q = 0 ∨ cmpR p q = 1 := by
  unfold cmpR sgnR; split
  · exact Or.inr (Or.inl rfl)
  · split
    · exact Or.inl rfl
    · exact Or.inr (Or.inr rfl)
theorem sm_zero : Sm 0 := by
  refine ⟨?_, ?_⟩
  · show Lib.nDigits 0 ≤ 60; rw [Lib.nDigits_small (by decide)]; decide
  · show Lib.nDigits 1 ≤ 60; rw [Lib.nDigits_small (by decide)]; decide
/-- An answer in parts. -/
theorem ansR_cases (q : Rat) : (Sm q ∧ ansR q = .tuple #[numR q, .int .i64 0]) ∨ (¬ Sm q ∧ ansR q = noAns 3) := by
  by_cases h : Sm q
  · exact Or.inl ⟨h, if_pos h⟩
  · exact Or.inr ⟨h, if_neg h⟩

theorem specCmpR (p q : Rat) (hp : Sm p) (hq : Sm q) (w : World) :
    Calls Tryd.prog 28 #[numR p, numR q] w fun e w' => e = .returned (.int .i64 (cmpR p q)) ∧ Below w.heap.size w w' := by
  have h := specNumCmp_yes (decide (p.num < 0)) (decide (q.num < 0)) p.num.natAbs p.den q.num.natAbs q.den w (sm_len hp).1 (sm_len hp).2 (sm_len hq).1 (sm_len hq).2 (ok_rat p) (ok_rat q)
  rw [← cmp_same (fun h => Nat.mul_ne_zero (fun e => (ok_rat p).2.1 ⟨h, e⟩) (ok_rat q).1) (fun h => Nat.mul_ne_zero (fun e => (ok_rat q).2.1 ⟨h, e⟩) (ok_rat p).1), ← sgnR_Q _ _ _ (Nat.mul_ne_zero p.den_nz q.den_nz), ratQ_sub _ _ _ _ _ _ p.den_nz q.den_nz, rat_ratQ, rat_ratQ] at h
  exact h
/-- What comparing two numbers, whatever they are, tells: the model, the program, the program the other way round. -/
theorem cmp_facts (n1 n2 : Bool) (T1 R1 T2 R2 : ByteArray) (h1 : T1.size ≤ maxLen) (h2 : R1.size ≤ maxLen) (h3 : T2.size ≤ maxLen) (h4 : R2.size ≤ maxLen) : ∃ z zb : Int,
    (∀ w, Calls Tryd.prog 28 #[numT n1 T1 R1, numT n2 T2 R2] w fun e w' => e = .returned (.int .i64 z) ∧ Below w.heap.size w w') ∧
    (∀ w, Pow9 w → Calls Tryd.prog 27 #[numT n1 T1 R1, numT n2 T2 R2] w fun e w' => e = .returned (.int .i64 z) ∧ Below w.heap.size w w') ∧
    (∀ w, Pow9 w → Calls Tryd.prog 27 #[numT n2 T2 R2, numT n1 T1 R1] w fun e w' => e = .returned (.int .i64 zb) ∧ Below w.heap.size w w') ∧
    zb = -z ∧ (-1 ≤ z ∧ z ≤ 1) ∧ ∀ p q : Rat, Sm p → Sm q → numT n1 T1 R1 = numR p → numT n2 T2 R2 = numR q → z = cmpR p q := by
  by_cases h : NumP n1 T1 R1 ∧ NumP n2 T2 R2
  · obtain ⟨p, hp, rfl, rfl, rfl⟩ := numP_R h.1
    obtain ⟨q, hq, rfl, rfl, rfl⟩ := numP_R h.2
    refine ⟨cmpR p q, cmpR q p, fun w => specCmpR p q hp hq w, fun w hP => cmpRR p q hp hq w hP, fun w hP => cmpRR q p hq hp w hP, cmpR_swap p q, ?_, ?_⟩
    · rcases cmpR_range p q with h | h | h <;> rw [h] <;> decide
    · intro p' q' _ _ e1 e2
      unfold numR at e1 e2
      simp only [Value.agg.injEq, Array.mk.injEq, List.cons.injEq, Value.bool.injEq, Value.string.injEq, and_true] at e1 e2
      rw [numR_inj e1.1 e1.2.1 e1.2.2, numR_inj e2.1 e2.2.1 e2.2.2]
  · obtain ⟨b1, p1, U1, D1, o1, c1⟩ := openNum_all n1 T1 R1 h1 h2
    obtain ⟨b2, p2, U2, D2, o2, c2⟩ := openNum_all n2 T2 R2 h3 h4
    have g1 := o1.small
    have g2 := o2.small
    rcases both_parts o1 o2 with ⟨rfl, rfl, rfl, rfl, rfl, rfl, rfl, rfl, s1, s2, s3, s4, k1, k2⟩ | ⟨hb, hno⟩
    · exact absurd ⟨⟨_, _, rfl, rfl, s1, s2, k1⟩, _, _, rfl, rfl, s3, s4, k2⟩ h
    · refine ⟨0, 0, fun w => specNumCmp_no n1 n2 T1 R1 T2 R2 w h1 h2 h3 h4 hno, fun w hP => ?_, fun w hP => ?_, rfl, ⟨by decide, by decide⟩, ?_⟩
      · have h := implNumCmp_of n1 n2 _ _ _ _ b1 b2 p1 p2 U1 D1 U2 D2 w c1 c2 g1.1 g1.2 g2.1 g2.2 hP
        rw [hb, if_neg (by decide)] at h
        exact h
      · have h := implNumCmp_of n2 n1 _ _ _ _ b2 b1 p2 p1 U2 D2 U1 D1 w c2 c1 g2.1 g2.2 g1.1 g1.2 hP
        rw [Bool.and_comm, hb, if_neg (by decide)] at h
        exact h
      · intro p' q' hp hq e1 e2
        exfalso
        unfold numR at e1 e2
        simp only [Value.agg.injEq, Array.mk.injEq, List.cons.injEq, Value.bool.injEq, Value.string.injEq, and_true] at e1 e2
        obtain ⟨rfl, rfl, rfl⟩ := e1
        obtain ⟨rfl, rfl, rfl⟩ := e2
        exact h ⟨numP_of hp, numP_of hq⟩
/-- Whether a number is ok, the model and the program. -/
theorem ok_facts (n : Bool) (T R : ByteArray) (h1 : T.size ≤ maxLen) (h2 : R.size ≤ maxLen) : ∃ b : Bool, (b = true ↔ NumP n T R) ∧
    (∀ w, Calls Tryd.prog 21 #[numT n T R] w fun e w' => e = .returned (.bool b) ∧ Below w.heap.size w w') ∧
    (∀ w, Pow9 w → Calls Tryd.prog 20 #[numT n T R] w fun e w' => e = .returned (.bool b) ∧ Below w.heap.size w w') := by
  obtain ⟨b, hb⟩ : ∃ b : Bool, b = true ↔ NumP n T R := by
    by_cases h : NumP n T R
    · exact ⟨true, ⟨fun _ => h, fun _ => rfl⟩⟩
    · exact ⟨false, ⟨fun h' => Bool.noConfusion h', fun h' => absurd h' h⟩⟩
  exact ⟨b, hb, fun w => specNumOk_any n T R w h1 h2 b hb, fun w hP => implNumOk_any n T R w h1 h2 hP b hb⟩

theorem toL_inj {a b : ByteArray} (h : a.toList = b.toList) : a = b := by
  rw [Go.ByteArray.toList_eq, Go.ByteArray.toList_eq] at h
  exact ByteArray.ext (Array.toList_inj.mp h)
/-- What a function of two numbers that are ok tells, with letters for its answer. -/
theorem two_facts {f : Nat} {p q t : Rat} {m1 m2 : Bool} {T1 R1 T2 R2 : ByteArray} (h : ∀ W, Pow9 W → Calls Tryd.prog f #[numR p, numR q] W fun e w' => e = .returned (ansR t) ∧ Below W.heap.size W w') (e1 : numT m1 T1 R1 = numR p) (e2 : numT m2 T2 R2 = numR q) :
    ∃ (m : Bool) (T D : ByteArray) (d : Int), (∀ W, Pow9 W → Calls Tryd.prog f #[numT m1 T1 R1, numT m2 T2 R2] W fun e w' => e = .returned (.tuple #[numT m T D, .int .i64 d]) ∧ Below W.heap.size W w') ∧
      (((Sm t ∧ numT m T D = numR t) ∧ d = 0) ∨ d = 3) := by
  rw [e1, e2]
  rcases ansR_cases t with ⟨hs, ha⟩ | ⟨hs, ha⟩
  · rw [ha] at h
    exact ⟨_, _, _, 0, h, Or.inl ⟨⟨hs, rfl⟩, rfl⟩⟩
  · rw [ha] at h
    exact ⟨_, _, _, 3, h, Or.inr rfl⟩

/-- The boxes of numbers that a law has made so far. -/
structure St (w W : World) (l : List (Nat × Array Value)) : Prop where
  bel : Below w.heap.size w W
  own : ∀ p ∈ l, Own W p.1 25 p.2
theorem St.call {w W W' : World} {l : List (Nat × Array Value)} (h : St w W l) (hb : Below W.heap.size W W') : St w W' l :=
  ⟨h.bel.trans (hb.mono h.bel.size), fun p hp => (h.own p hp).keep hb (h.own p hp).lt⟩
theorem St.new {w W : World} {l : List (Nat × Array Value)} (h : St w W l) (cs : Array Value) : St w (W.alloc (.cells cs 25)) ((W.heap.size, cs) :: l) := by
  have h1 := h.call ((Below.refl W.heap.size W).alloc (Nat.le_refl _) (.cells cs 25))
  refine ⟨h1.bel, fun p hp => ?_⟩
  rcases List.mem_cons.1 hp with rfl | hp
  · exact own_new W cs _
  · exact h1.own p hp
theorem St.drew {w W : World} {l : List (Nat × Array Value)} (h : St w W l) : St w W.drew l := h.call (Below.refl W.heap.size W).drew
theorem St.start (w : World) : St w w [] := ⟨Below.refl _ _, fun p h => by cases h⟩
theorem St.get {w W : World} {l : List (Nat × Array Value)} (h : St w W l) {b : Nat} {x y z : Value} (hm : (b, #[x, y, z]) ∈ l) : W.cell? ⟨b, 0, none⟩ = some x ∧ W.cell? ⟨b, 1, none⟩ = some y ∧ W.cell? ⟨b, 2, none⟩ = some z := (own3V (h.own _ hm)).1
theorem St.at {w W : World} {l : List (Nat × Array Value)} (h : St w W l) (i : Nat) {b : Nat} {x y z : Value} (hi : l[i]? = some (b, #[x, y, z])) : W.cell? ⟨b, 0, none⟩ = some x ∧ W.cell? ⟨b, 1, none⟩ = some y ∧ W.cell? ⟨b, 2, none⟩ = some z := h.get (List.mem_of_getElem? hi)
theorem St.pow {w W : World} {l : List (Nat × Array Value)} (h : St w W l) (hP : Pow9 w) : Pow9 W := hP.below h.bel (Nat.le_refl _)
end Go.Proofs.YtbbffhpppacihaaDoor
