/-
  The draws of two numbers: l16Two2, DrawNumAdd, DrawNumMul, DrawNumCmp. Condition: the code is at most 1048576 bytes that lie in memory.
  Stage 8, the program's small parts: isOdd, isWhole, integerOf, a whole number as it is handed out. Condition: the table of powers stands.
  Stage 8, the program: a whole number as it is handed out. Condition: the table of powers stands.
-/
import Derived.Test.YtbbffhpppacihaaDoorPart20
import Derived.Test.YtbbffhpppacihaaDoorPart14
import Derived.Test.YtbbffhpppacihaaDoorPart10
import Derived.Test.YtbbffhpppacihaaDoorPart5
import Derived.Test.YtbbffhpppacihaaDoorPart8
import Derived.Test.YtbbffhpppacihaaDoorUO
namespace Go.Proofs.YtbbffhpppacihaaDoor
open Go.RowKit Go.Siskin

abbrev numT (m : Bool) (T S : ByteArray) : Value := .agg #[.bool m, .string T, .string S]
def AnyN2 (e : Ending) : Prop := ∃ (m : Bool) (T S : ByteArray) (k : Bool) (U V : ByteArray), (T.size ≤ 2000 ∧ S.size ≤ 2000 ∧ U.size ≤ 2000 ∧ V.size ≤ 2000) ∧ e = .returned (.tuple #[numT m T S, numT k U V])

/-- The reader, the two results' boxes. -/
structure TwoAt (R : Nat → Prop) (w W : World) (rb n q : Nat) (v : Value) : Prop where
  rd : RdAt R W rb n q v
  r1 : Own W w.heap.size 25 #[.bool false, .string ⟨#[]⟩, .string ⟨#[]⟩]
  r2 : Own W (w.heap.size + 1) 25 #[.bool false, .string ⟨#[]⟩, .string ⟨#[]⟩]
  bel : Below w.heap.size w W
  hr : w.heap.size + 2 ≤ rb
theorem TwoAt.picked {R : Nat → Prop} {w W W' : World} {rb n q q' : Nat} {v : Value} (h : TwoAt R w W rb n q v) (hp : Picked rb v W W' q') (hq : q' ≤ 1000000) : TwoAt R w W' rb n q' v :=
  ⟨h.rd.picked hp hq, h.r1.picked hp (by have := h.hr; omega), h.r2.picked hp (by have := h.hr; omega), h.bel.trans (picked_below hp (by have := h.hr; omega) h.bel.size), h.hr⟩
theorem TwoAt.below {R : Nat → Prop} {w W W' : World} {rb n q : Nat} {v : Value} (h : TwoAt R w W rb n q v) (hb : Below W.heap.size W W') : TwoAt R w W' rb n q v :=
  ⟨h.rd.below hb, h.r1.keep hb h.r1.lt, h.r2.keep hb h.r2.lt, h.bel.trans (hb.mono h.bel.size), h.hr⟩

set_option maxRecDepth 20000 in
set_option maxHeartbeats 2000000 in
theorem l16Two2_any (R : Nat → Prop) (w : World) (n : Nat) (v : Value) (hv : BytesAt R w v n) (hn : n ≤ 1048576) (hR : ∀ b, R b → b < w.heap.size) :
    Calls Tryd.prog 43 #[v] w fun e w' => AnyN2 e ∧ Below w.heap.size w w' := by
  have hb := boxes2 w #[.bool false, .string ⟨#[]⟩, .string ⟨#[]⟩] #[.bool false, .string ⟨#[]⟩, .string ⟨#[]⟩] 25 25 (Below.refl _ _)
  have HOp := hid (l11Open_any R ((w.alloc box0).alloc box0) n v (hv.keep fun b hb' => hb.2.2.block b (hR b hb')) hn (fun b h => by have := hR b h; simp; omega))
  have HB := hid hb
  obtain ⟨a0, cap, rfl, -, -⟩ := hv
  have hsz : ((w.alloc box0).alloc box0).heap.size = w.heap.size + 2 := by simp
  have HSz := hid hsz
  clear hb hn hR hsz
  go_enter Tryd.func43, Tryd.ntmps43
  go_wp2_with fail
  refine HOp.out.mono ?_
  rintro e w1 ⟨n', v', rfl, hr, hw⟩
  have hlt2 := HB.out.2.1.lt
  have H1 : Hid (TwoAt R w w1 ((w.alloc box0).alloc box0).heap.size n' 0 v') := ⟨hr, HB.out.1.keep hw HB.out.1.lt, HB.out.2.1.keep hw hlt2, HB.out.2.2.trans (hw.mono HB.out.2.2.size), by rw [HSz.out]; exact Nat.le_refl _⟩
  generalize ((w.alloc box0).alloc box0).heap.size = rb at *
  clear hr hw HB HOp HSz hlt2
  go_wp2_with fail
  refine (l16Any_rd H1.out.rd (by omega)).mono ?_
  rintro e w2 ⟨q2, hq2, hp2, ma, Ta, Sa, hTa, hSa, rfl⟩
  have H2 := hid (H1.out.picked hp2 (by omega))
  clear hp2
  have k2 := (Below.refl w2.heap.size w2).alloc (Nat.le_refl _) (boxN ma Ta Sa)
  have H3 := hid (H2.out.below k2)
  have HA3 := hid (own_new w2 #[.bool ma, .string Ta, .string Sa] 25)
  have hna : w2.heap.size ≠ rb := by have := H2.out.rd.own.lt; omega
  have hga : w.heap.size + 2 ≤ w2.heap.size := by have := H2.out.rd.own.lt; have := H2.out.hr; omega
  clear k2
  go_wp2_with fail
  refine (l16Any_rd H3.out.rd (by omega)).mono ?_
  rintro e w4 ⟨q4, hq4, hp4, mb, Tb, Sb, hTb, hSb, rfl⟩
  have H4 := hid (H3.out.picked hp4 (by omega))
  have HA4 := hid (HA3.out.picked hp4 hna)
  clear hp4
  have k4 := (Below.refl w4.heap.size w4).alloc (Nat.le_refl _) (boxN mb Tb Sb)
  have H5 := hid (H4.out.below k4)
  have HA5 := hid (HA4.out.keep k4 HA4.out.lt)
  have HB5 := hid (own_new w4 #[.bool mb, .string Tb, .string Sb] 25)
  have hnb : w4.heap.size ≠ rb := by have := H4.out.rd.own.lt; omega
  have hab : w2.heap.size < w4.heap.size := HA4.out.lt
  clear k4
  go_wp2_with fail
  refine (pick_rd H5.out.rd 8 (by omega) (by omega)).mono ?_
  rintro e w6 ⟨k, hk, rfl, hp6, -⟩
  have H6 := hid (H5.out.picked hp6 (by omega))
  have HA6 := hid (HA5.out.picked hp6 hna)
  have HB6 := hid (HB5.out.picked hp6 hnb)
  clear hp6
  have hcase : k = 0 ∨ k = 1 ∨ (((k : Int) == 0) = false ∧ ((k : Int) == 1) = false) := by
    rcases Nat.lt_or_ge k 2 with h | h
    · omega
    · exact Or.inr (Or.inr ⟨by simp; omega, by simp; omega⟩)
  clear hk
  obtain ⟨⟨x0, x1, x2⟩, -⟩ := own3V HA6.out
  obtain ⟨⟨y0, y1, y2⟩, f0, f1, f2⟩ := own3V HB6.out
  rcases hcase with rfl | rfl | ⟨hk0, hk1⟩
  · go_wp2_with fail
    obtain ⟨W9, HW9⟩ : ∃ W, Hid (((w6.setCell ⟨w4.heap.size, 0, none⟩ (.bool ma)).setCell ⟨w4.heap.size, 1, none⟩ (.string Ta)).setCell ⟨w4.heap.size, 2, none⟩ (.string Sa) = W) := ⟨_, rfl⟩
    have HW : Hid (Own W9 w2.heap.size 25 #[.bool ma, .string Ta, .string Sa] ∧ Own W9 w4.heap.size 25 #[.bool ma, .string Ta, .string Sa] ∧ Own W9 w.heap.size 25 #[.bool false, .string ⟨#[]⟩, .string ⟨#[]⟩] ∧ Own W9 (w.heap.size + 1) 25 #[.bool false, .string ⟨#[]⟩, .string ⟨#[]⟩] ∧ Below w.heap.size w W9) := by
      rw [← HW9.out]
      exact ⟨own_set3 HA6.out (by omega) _ _ _, ((HB6.out.set 0 _).set 1 _).set 2 _, own_set3 H6.out.r1 (by omega) _ _ _, own_set3 H6.out.r2 (by omega) _ _ _, below_set3 H6.out.bel (by omega) _ _ _⟩
    rw [HW9.out]
    clear HW9 x0 x1 x2 y0 y1 y2 f0 f1 f2
    have OA := hid (HW.out.1.keep (Below.refl W9.heap.size W9).drew HW.out.1.lt)
    have OB := hid (HW.out.2.1.keep (Below.refl W9.heap.size W9).drew HW.out.2.1.lt)
    have O1 := hid (HW.out.2.2.1.keep (Below.refl W9.heap.size W9).drew HW.out.2.2.1.lt)
    have O2 := hid (HW.out.2.2.2.1.keep (Below.refl W9.heap.size W9).drew HW.out.2.2.2.1.lt)
    have HBl := hid (HW.out.2.2.2.2.drew)
    obtain ⟨V, HV⟩ : ∃ V, Hid (W9.drew = V) := ⟨_, rfl⟩
    rw [HV.out] at OA OB O1 O2 HBl
    obtain ⟨⟨r0, r1, r2⟩, g0, g1, g2⟩ := own3V O1.out
    obtain ⟨⟨s0, s1, s2⟩, h0, h1, h2⟩ := own3V O2.out
    have HL : Hid (∀ W, (Own W w2.heap.size 25 #[.bool ma, .string Ta, .string Sa] ∧ Own W w4.heap.size 25 #[.bool ma, .string Ta, .string Sa]) → (W.cell? ⟨w2.heap.size, 0, none⟩ = some (.bool ma) ∧ W.cell? ⟨w2.heap.size, 1, none⟩ = some (.string Ta) ∧ W.cell? ⟨w2.heap.size, 2, none⟩ = some (.string Sa)) ∧ W.cell? ⟨w4.heap.size, 0, none⟩ = some (.bool ma) ∧ W.cell? ⟨w4.heap.size, 1, none⟩ = some (.string Ta) ∧ W.cell? ⟨w4.heap.size, 2, none⟩ = some (.string Sa)) := fun W h => ⟨(own3V h.1).1, (own3V h.2).1⟩
    have L0 := hid (HL.out _ ⟨OA.out, OB.out⟩)
    have L0' := hid (show (W9.drew.cell? ⟨w2.heap.size, 0, none⟩ = some (.bool ma) ∧ W9.drew.cell? ⟨w2.heap.size, 1, none⟩ = some (.string Ta) ∧ W9.drew.cell? ⟨w2.heap.size, 2, none⟩ = some (.string Sa)) ∧ W9.drew.cell? ⟨w4.heap.size, 0, none⟩ = some (.bool ma) ∧ W9.drew.cell? ⟨w4.heap.size, 1, none⟩ = some (.string Ta) ∧ W9.drew.cell? ⟨w4.heap.size, 2, none⟩ = some (.string Sa) by rw [HV.out]; exact L0.out)
    have L3 := hid (HL.out _ ⟨own_set3 OA.out (r := w.heap.size) (by omega) (.bool ma) (.string Ta) (.string Sa), own_set3 OB.out (r := w.heap.size) (by omega) (.bool ma) (.string Ta) (.string Sa)⟩)
    have L4 := hid (HL.out _ ⟨own_set3 (own_set3 OA.out (r := w.heap.size) (by omega) (.bool ma) (.string Ta) (.string Sa)) (r := w.heap.size + 1) (by omega) (.bool ma) (.string Ta) (.string Sa), own_set3 (own_set3 OB.out (r := w.heap.size) (by omega) (.bool ma) (.string Ta) (.string Sa)) (r := w.heap.size + 1) (by omega) (.bool ma) (.string Ta) (.string Sa)⟩)
    refine wp_region_held_drew (S := fun W => (W.cell? ⟨w2.heap.size, 0, none⟩ = some (.bool ma) ∧ W.cell? ⟨w2.heap.size, 1, none⟩ = some (.string Ta) ∧ W.cell? ⟨w2.heap.size, 2, none⟩ = some (.string Sa)) ∧ W.cell? ⟨w4.heap.size, 0, none⟩ = some (.bool ma) ∧ W.cell? ⟨w4.heap.size, 1, none⟩ = some (.string Ta) ∧ W.cell? ⟨w4.heap.size, 2, none⟩ = some (.string Sa)) rfl L0'.out (fun _ => ?_)
    rw [HV.out]
    refine wpAnyH_take (i := 0) (oi := ({ dst := some 22, op := _, type := _, pos := _, after := _, guard := _ } : Oper)) (v := (numT ma Ta Sa)) rfl (by kernel_rfl) (by kernel_rfl) (by kernel_rfl) (fun _ _ _ h => h) (Or.inl ⟨by rfl, ?_⟩) L0.out ?_
    · intro w hSw; (try dsimp only at hSw); go_simp
    try simp only [Act.put, List.setIfInBounds_toArray, List.set_cons_zero, List.set_cons_succ]
    refine wpAnyH_take (i := 1) (oi := ({ dst := some 23, op := _, type := _, pos := _, after := _, guard := _ } : Oper)) (v := (numT ma Ta Sa)) rfl (by kernel_rfl) (by kernel_rfl) (by kernel_rfl) (fun _ _ _ h => h) (Or.inl ⟨by rfl, ?_⟩) L0.out ?_
    · intro w hSw; (try dsimp only at hSw); go_simp
    try simp only [Act.put, List.setIfInBounds_toArray, List.set_cons_zero, List.set_cons_succ]
    refine wpAnyH_ready (rs := [2]) (by kernel_rfl) (by simp) ?_
    refine AllReadyH.cons (o := ({ dst := none, op := _, type := _, pos := _, after := _, guard := _ } : Oper)) rfl (fun K hK => ?_) AllReadyH.nil
    go_simp
    refine hK.out _ _ L3.out (fun _ => ?_)
    clear hK K
    try simp only [Act.put, List.setIfInBounds_toArray, List.set_cons_zero, List.set_cons_succ]
    refine wpAnyH_ready (rs := [3]) (by kernel_rfl) (by simp) ?_
    refine AllReadyH.cons (o := ({ dst := none, op := _, type := _, pos := _, after := _, guard := _ } : Oper)) rfl (fun K hK => ?_) AllReadyH.nil
    go_simp
    refine hK.out _ _ L4.out (fun _ => ?_)
    clear hK K
    try simp only [Act.put, List.setIfInBounds_toArray, List.set_cons_zero, List.set_cons_succ]
    refine wpAnyH_done (by kernel_rfl) ?_ _
    go_wp2_with fail
    refine bodyPost_ret (v := .tuple #[numT ma Ta Sa, numT ma Ta Sa]) (by simp [results, Tryd.results43, go_sem, r0, r1, r2, s0, s1, s2]) rfl ⟨⟨ma, Ta, Sa, ma, Ta, Sa, ⟨hTa, hSa, by assumption, by assumption⟩, rfl⟩, ?_⟩
    exact below_set3 (below_set3 HBl.out (Nat.le_refl _) _ _ _) (Nat.le_succ _) _ _ _
  · go_wp2_with fail
    refine (l13Neg_text ma Ta Sa w6).mono ?_
    rintro e w7 ⟨mc, rfl, hw7⟩
    have H7 := hid (H6.out.below hw7)
    have HA7 := hid (HA6.out.keep hw7 HA6.out.lt)
    have HB7 := hid (HB6.out.keep hw7 HB6.out.lt)
    clear hw7 x0 x1 x2 y0 y1 y2 f0 f1 f2
    obtain ⟨⟨x0, x1, x2⟩, -⟩ := own3V HA7.out
    obtain ⟨⟨y0, y1, y2⟩, f0, f1, f2⟩ := own3V HB7.out
    go_wp2_with fail
    obtain ⟨W9, HW9⟩ : ∃ W, Hid (((w7.setCell ⟨w4.heap.size, 0, none⟩ (.bool mc)).setCell ⟨w4.heap.size, 1, none⟩ (.string Ta)).setCell ⟨w4.heap.size, 2, none⟩ (.string Sa) = W) := ⟨_, rfl⟩
    have HW : Hid (Own W9 w2.heap.size 25 #[.bool ma, .string Ta, .string Sa] ∧ Own W9 w4.heap.size 25 #[.bool mc, .string Ta, .string Sa] ∧ Own W9 w.heap.size 25 #[.bool false, .string ⟨#[]⟩, .string ⟨#[]⟩] ∧ Own W9 (w.heap.size + 1) 25 #[.bool false, .string ⟨#[]⟩, .string ⟨#[]⟩] ∧ Below w.heap.size w W9) := by
      rw [← HW9.out]
      exact ⟨own_set3 HA7.out (by omega) _ _ _, ((HB7.out.set 0 _).set 1 _).set 2 _, own_set3 H7.out.r1 (by omega) _ _ _, own_set3 H7.out.r2 (by omega) _ _ _, below_set3 H7.out.bel (by omega) _ _ _⟩
    rw [HW9.out]
    clear HW9 x0 x1 x2 y0 y1 y2 f0 f1 f2
    have OA := hid (HW.out.1.keep (Below.refl W9.heap.size W9).drew HW.out.1.lt)
    have OB := hid (HW.out.2.1.keep (Below.refl W9.heap.size W9).drew HW.out.2.1.lt)
    have O1 := hid (HW.out.2.2.1.keep (Below.refl W9.heap.size W9).drew HW.out.2.2.1.lt)
    have O2 := hid (HW.out.2.2.2.1.keep (Below.refl W9.heap.size W9).drew HW.out.2.2.2.1.lt)
    have HBl := hid (HW.out.2.2.2.2.drew)
    obtain ⟨V, HV⟩ : ∃ V, Hid (W9.drew = V) := ⟨_, rfl⟩
    rw [HV.out] at OA OB O1 O2 HBl
    obtain ⟨⟨r0, r1, r2⟩, g0, g1, g2⟩ := own3V O1.out
    obtain ⟨⟨s0, s1, s2⟩, h0, h1, h2⟩ := own3V O2.out
    have HL : Hid (∀ W, (Own W w2.heap.size 25 #[.bool ma, .string Ta, .string Sa] ∧ Own W w4.heap.size 25 #[.bool mc, .string Ta, .string Sa]) → (W.cell? ⟨w2.heap.size, 0, none⟩ = some (.bool ma) ∧ W.cell? ⟨w2.heap.size, 1, none⟩ = some (.string Ta) ∧ W.cell? ⟨w2.heap.size, 2, none⟩ = some (.string Sa)) ∧ W.cell? ⟨w4.heap.size, 0, none⟩ = some (.bool mc) ∧ W.cell? ⟨w4.heap.size, 1, none⟩ = some (.string Ta) ∧ W.cell? ⟨w4.heap.size, 2, none⟩ = some (.string Sa)) := fun W h => ⟨(own3V h.1).1, (own3V h.2).1⟩
    have L0 := hid (HL.out _ ⟨OA.out, OB.out⟩)
    have L0' := hid (show (W9.drew.cell? ⟨w2.heap.size, 0, none⟩ = some (.bool ma) ∧ W9.drew.cell? ⟨w2.heap.size, 1, none⟩ = some (.string Ta) ∧ W9.drew.cell? ⟨w2.heap.size, 2, none⟩ = some (.string Sa)) ∧ W9.drew.cell? ⟨w4.heap.size, 0, none⟩ = some (.bool mc) ∧ W9.drew.cell? ⟨w4.heap.size, 1, none⟩ = some (.string Ta) ∧ W9.drew.cell? ⟨w4.heap.size, 2, none⟩ = some (.string Sa) by rw [HV.out]; exact L0.out)
    have L3 := hid (HL.out _ ⟨own_set3 OA.out (r := w.heap.size) (by omega) (.bool ma) (.string Ta) (.string Sa), own_set3 OB.out (r := w.heap.size) (by omega) (.bool ma) (.string Ta) (.string Sa)⟩)
    have L4 := hid (HL.out _ ⟨own_set3 (own_set3 OA.out (r := w.heap.size) (by omega) (.bool ma) (.string Ta) (.string Sa)) (r := w.heap.size + 1) (by omega) (.bool mc) (.string Ta) (.string Sa), own_set3 (own_set3 OB.out (r := w.heap.size) (by omega) (.bool ma) (.string Ta) (.string Sa)) (r := w.heap.size + 1) (by omega) (.bool mc) (.string Ta) (.string Sa)⟩)
    refine wp_region_held_drew (S := fun W => (W.cell? ⟨w2.heap.size, 0, none⟩ = some (.bool ma) ∧ W.cell? ⟨w2.heap.size, 1, none⟩ = some (.string Ta) ∧ W.cell? ⟨w2.heap.size, 2, none⟩ = some (.string Sa)) ∧ W.cell? ⟨w4.heap.size, 0, none⟩ = some (.bool mc) ∧ W.cell? ⟨w4.heap.size, 1, none⟩ = some (.string Ta) ∧ W.cell? ⟨w4.heap.size, 2, none⟩ = some (.string Sa)) rfl L0'.out (fun _ => ?_)
    rw [HV.out]
    refine wpAnyH_take (i := 0) (oi := ({ dst := some 22, op := _, type := _, pos := _, after := _, guard := _ } : Oper)) (v := (numT ma Ta Sa)) rfl (by kernel_rfl) (by kernel_rfl) (by kernel_rfl) (fun _ _ _ h => h) (Or.inl ⟨by rfl, ?_⟩) L0.out ?_
    · intro w hSw; (try dsimp only at hSw); go_simp
    try simp only [Act.put, List.setIfInBounds_toArray, List.set_cons_zero, List.set_cons_succ]
    refine wpAnyH_take (i := 1) (oi := ({ dst := some 23, op := _, type := _, pos := _, after := _, guard := _ } : Oper)) (v := (numT mc Ta Sa)) rfl (by kernel_rfl) (by kernel_rfl) (by kernel_rfl) (fun _ _ _ h => h) (Or.inl ⟨by rfl, ?_⟩) L0.out ?_
    · intro w hSw; (try dsimp only at hSw); go_simp
    try simp only [Act.put, List.setIfInBounds_toArray, List.set_cons_zero, List.set_cons_succ]
    refine wpAnyH_ready (rs := [2]) (by kernel_rfl) (by simp) ?_
    refine AllReadyH.cons (o := ({ dst := none, op := _, type := _, pos := _, after := _, guard := _ } : Oper)) rfl (fun K hK => ?_) AllReadyH.nil
    go_simp
    refine hK.out _ _ L3.out (fun _ => ?_)
    clear hK K
    try simp only [Act.put, List.setIfInBounds_toArray, List.set_cons_zero, List.set_cons_succ]
    refine wpAnyH_ready (rs := [3]) (by kernel_rfl) (by simp) ?_
    refine AllReadyH.cons (o := ({ dst := none, op := _, type := _, pos := _, after := _, guard := _ } : Oper)) rfl (fun K hK => ?_) AllReadyH.nil
    go_simp
    refine hK.out _ _ L4.out (fun _ => ?_)
    clear hK K
    try simp only [Act.put, List.setIfInBounds_toArray, List.set_cons_zero, List.set_cons_succ]
    refine wpAnyH_done (by kernel_rfl) ?_ _
    go_wp2_with fail
    refine bodyPost_ret (v := .tuple #[numT ma Ta Sa, numT mc Ta Sa]) (by simp [results, Tryd.results43, go_sem, r0, r1, r2, s0, s1, s2]) rfl ⟨⟨ma, Ta, Sa, mc, Ta, Sa, ⟨hTa, hSa, by assumption, by assumption⟩, rfl⟩, ?_⟩
    exact below_set3 (below_set3 HBl.out (Nat.le_refl _) _ _ _) (Nat.le_succ _) _ _ _
  · go_wp2_with fail
    have HW : Hid (Own w6 w2.heap.size 25 #[.bool ma, .string Ta, .string Sa] ∧ Own w6 w4.heap.size 25 #[.bool mb, .string Tb, .string Sb] ∧ Own w6 w.heap.size 25 #[.bool false, .string ⟨#[]⟩, .string ⟨#[]⟩] ∧ Own w6 (w.heap.size + 1) 25 #[.bool false, .string ⟨#[]⟩, .string ⟨#[]⟩] ∧ Below w.heap.size w w6) := ⟨HA6.out, HB6.out, H6.out.r1, H6.out.r2, H6.out.bel⟩
    clear x0 x1 x2 y0 y1 y2 f0 f1 f2
    have OA := hid (HW.out.1.keep (Below.refl w6.heap.size w6).drew HW.out.1.lt)
    have OB := hid (HW.out.2.1.keep (Below.refl w6.heap.size w6).drew HW.out.2.1.lt)
    have O1 := hid (HW.out.2.2.1.keep (Below.refl w6.heap.size w6).drew HW.out.2.2.1.lt)
    have O2 := hid (HW.out.2.2.2.1.keep (Below.refl w6.heap.size w6).drew HW.out.2.2.2.1.lt)
    have HBl := hid (HW.out.2.2.2.2.drew)
    obtain ⟨V, HV⟩ : ∃ V, Hid (w6.drew = V) := ⟨_, rfl⟩
    rw [HV.out] at OA OB O1 O2 HBl
    obtain ⟨⟨r0, r1, r2⟩, g0, g1, g2⟩ := own3V O1.out
    obtain ⟨⟨s0, s1, s2⟩, h0, h1, h2⟩ := own3V O2.out
    have HL : Hid (∀ W, (Own W w2.heap.size 25 #[.bool ma, .string Ta, .string Sa] ∧ Own W w4.heap.size 25 #[.bool mb, .string Tb, .string Sb]) → (W.cell? ⟨w2.heap.size, 0, none⟩ = some (.bool ma) ∧ W.cell? ⟨w2.heap.size, 1, none⟩ = some (.string Ta) ∧ W.cell? ⟨w2.heap.size, 2, none⟩ = some (.string Sa)) ∧ W.cell? ⟨w4.heap.size, 0, none⟩ = some (.bool mb) ∧ W.cell? ⟨w4.heap.size, 1, none⟩ = some (.string Tb) ∧ W.cell? ⟨w4.heap.size, 2, none⟩ = some (.string Sb)) := fun W h => ⟨(own3V h.1).1, (own3V h.2).1⟩
    have L0 := hid (HL.out _ ⟨OA.out, OB.out⟩)
    have L0' := hid (show (w6.drew.cell? ⟨w2.heap.size, 0, none⟩ = some (.bool ma) ∧ w6.drew.cell? ⟨w2.heap.size, 1, none⟩ = some (.string Ta) ∧ w6.drew.cell? ⟨w2.heap.size, 2, none⟩ = some (.string Sa)) ∧ w6.drew.cell? ⟨w4.heap.size, 0, none⟩ = some (.bool mb) ∧ w6.drew.cell? ⟨w4.heap.size, 1, none⟩ = some (.string Tb) ∧ w6.drew.cell? ⟨w4.heap.size, 2, none⟩ = some (.string Sb) by rw [HV.out]; exact L0.out)
    have L3 := hid (HL.out _ ⟨own_set3 OA.out (r := w.heap.size) (by omega) (.bool ma) (.string Ta) (.string Sa), own_set3 OB.out (r := w.heap.size) (by omega) (.bool ma) (.string Ta) (.string Sa)⟩)
    have L4 := hid (HL.out _ ⟨own_set3 (own_set3 OA.out (r := w.heap.size) (by omega) (.bool ma) (.string Ta) (.string Sa)) (r := w.heap.size + 1) (by omega) (.bool mb) (.string Tb) (.string Sb), own_set3 (own_set3 OB.out (r := w.heap.size) (by omega) (.bool ma) (.string Ta) (.string Sa)) (r := w.heap.size + 1) (by omega) (.bool mb) (.string Tb) (.string Sb)⟩)
    refine wp_region_held_drew (S := fun W => (W.cell? ⟨w2.heap.size, 0, none⟩ = some (.bool ma) ∧ W.cell? ⟨w2.heap.size, 1, none⟩ = some (.string Ta) ∧ W.cell? ⟨w2.heap.size, 2, none⟩ = some (.string Sa)) ∧ W.cell? ⟨w4.heap.size, 0, none⟩ = some (.bool mb) ∧ W.cell? ⟨w4.heap.size, 1, none⟩ = some (.string Tb) ∧ W.cell? ⟨w4.heap.size, 2, none⟩ = some (.string Sb)) rfl L0'.out (fun _ => ?_)
    rw [HV.out]
    refine wpAnyH_take (i := 0) (oi := ({ dst := some 22, op := _, type := _, pos := _, after := _, guard := _ } : Oper)) (v := (numT ma Ta Sa)) rfl (by kernel_rfl) (by kernel_rfl) (by kernel_rfl) (fun _ _ _ h => h) (Or.inl ⟨by rfl, ?_⟩) L0.out ?_
    · intro w hSw; (try dsimp only at hSw); go_simp
    try simp only [Act.put, List.setIfInBounds_toArray, List.set_cons_zero, List.set_cons_succ]
    refine wpAnyH_take (i := 1) (oi := ({ dst := some 23, op := _, type := _, pos := _, after := _, guard := _ } : Oper)) (v := (numT mb Tb Sb)) rfl (by kernel_rfl) (by kernel_rfl) (by kernel_rfl) (fun _ _ _ h => h) (Or.inl ⟨by rfl, ?_⟩) L0.out ?_
    · intro w hSw; (try dsimp only at hSw); go_simp
    try simp only [Act.put, List.setIfInBounds_toArray, List.set_cons_zero, List.set_cons_succ]
    refine wpAnyH_ready (rs := [2]) (by kernel_rfl) (by simp) ?_
    refine AllReadyH.cons (o := ({ dst := none, op := _, type := _, pos := _, after := _, guard := _ } : Oper)) rfl (fun K hK => ?_) AllReadyH.nil
    go_simp
    refine hK.out _ _ L3.out (fun _ => ?_)
    clear hK K
    try simp only [Act.put, List.setIfInBounds_toArray, List.set_cons_zero, List.set_cons_succ]
    refine wpAnyH_ready (rs := [3]) (by kernel_rfl) (by simp) ?_
    refine AllReadyH.cons (o := ({ dst := none, op := _, type := _, pos := _, after := _, guard := _ } : Oper)) rfl (fun K hK => ?_) AllReadyH.nil
    go_simp
    refine hK.out _ _ L4.out (fun _ => ?_)
    clear hK K
    try simp only [Act.put, List.setIfInBounds_toArray, List.set_cons_zero, List.set_cons_succ]
    refine wpAnyH_done (by kernel_rfl) ?_ _
    go_wp2_with fail
    refine bodyPost_ret (v := .tuple #[numT ma Ta Sa, numT mb Tb Sb]) (by simp [results, Tryd.results43, go_sem, r0, r1, r2, s0, s1, s2]) rfl ⟨⟨ma, Ta, Sa, mb, Tb, Sb, ⟨hTa, hSa, by assumption, by assumption⟩, rfl⟩, ?_⟩
    exact below_set3 (below_set3 HBl.out (Nat.le_refl _) _ _ _) (Nat.le_succ _) _ _ _

set_option maxRecDepth 20000 in
set_option maxHeartbeats 1000000 in
theorem DrawNumAdd_any (R : Nat → Prop) (w : World) (n : Nat) (v : Value) (hv : BytesAt R w v n) (hn : n ≤ 1048576) (hR : ∀ b, R b → b < w.heap.size) :
    Calls Tryd.prog 15 #[v] w fun e w' => AnyN2 e ∧ Below w.heap.size w w' := by
  have hb := boxes2 w #[.bool false, .string ⟨#[]⟩, .string ⟨#[]⟩] #[.bool false, .string ⟨#[]⟩, .string ⟨#[]⟩] 25 25 (Below.refl _ _)
  have HT := hid (l16Two2_any R ((w.alloc box0).alloc box0) n v (hv.keep fun b hb' => hb.2.2.block b (hR b hb')) hn (fun b h => by have := hR b h; simp; omega))
  have HB := hid hb
  obtain ⟨a0, cap, rfl, -, -⟩ := hv
  clear hb hn hR
  go_enter Tryd.func15, Tryd.ntmps15
  go_wp2_with fail
  refine HT.out.mono ?_
  rintro e w1 ⟨⟨ma, Ta, Sa, mb, Tb, Sb, hs, rfl⟩, hw⟩
  have hlt2 := HB.out.2.1.lt
  obtain ⟨⟨r0, r1, r2⟩, g0, g1, g2⟩ := own3V (HB.out.1.keep hw HB.out.1.lt)
  obtain ⟨⟨s0, s1, s2⟩, h0, h1, h2⟩ := own3V (HB.out.2.1.keep hw hlt2)
  have HBl := hid (HB.out.2.2.trans (hw.mono HB.out.2.2.size))
  clear hw hlt2
  go_wp2_with fail
  refine bodyPost_ret (v := .tuple #[numT ma Ta Sa, numT mb Tb Sb]) (by simp [results, Tryd.results15, go_sem, r0, r1, r2, s0, s1, s2]) rfl ⟨⟨ma, Ta, Sa, mb, Tb, Sb, hs, rfl⟩, ?_⟩
  exact below_set3 (below_set3 HBl.out (Nat.le_refl _) _ _ _) (Nat.le_succ _) _ _ _

set_option maxRecDepth 20000 in
set_option maxHeartbeats 1000000 in
theorem DrawNumMul_any (R : Nat → Prop) (w : World) (n : Nat) (v : Value) (hv : BytesAt R w v n) (hn : n ≤ 1048576) (hR : ∀ b, R b → b < w.heap.size) :
    Calls Tryd.prog 16 #[v] w fun e w' => AnyN2 e ∧ Below w.heap.size w w' := by
  have hb := boxes2 w #[.bool false, .string ⟨#[]⟩, .string ⟨#[]⟩] #[.bool false, .string ⟨#[]⟩, .string ⟨#[]⟩] 25 25 (Below.refl _ _)
  have HT := hid (l16Two2_any R ((w.alloc box0).alloc box0) n v (hv.keep fun b hb' => hb.2.2.block b (hR b hb')) hn (fun b h => by have := hR b h; simp; omega))
  have HB := hid hb
  obtain ⟨a0, cap, rfl, -, -⟩ := hv
  clear hb hn hR
  go_enter Tryd.func16, Tryd.ntmps16
  go_wp2_with fail
  refine HT.out.mono ?_
  rintro e w1 ⟨⟨ma, Ta, Sa, mb, Tb, Sb, hs, rfl⟩, hw⟩
  have hlt2 := HB.out.2.1.lt
  obtain ⟨⟨r0, r1, r2⟩, g0, g1, g2⟩ := own3V (HB.out.1.keep hw HB.out.1.lt)
  obtain ⟨⟨s0, s1, s2⟩, h0, h1, h2⟩ := own3V (HB.out.2.1.keep hw hlt2)
  have HBl := hid (HB.out.2.2.trans (hw.mono HB.out.2.2.size))
  clear hw hlt2
  go_wp2_with fail
  refine bodyPost_ret (v := .tuple #[numT ma Ta Sa, numT mb Tb Sb]) (by simp [results, Tryd.results16, go_sem, r0, r1, r2, s0, s1, s2]) rfl ⟨⟨ma, Ta, Sa, mb, Tb, Sb, hs, rfl⟩, ?_⟩
  exact below_set3 (below_set3 HBl.out (Nat.le_refl _) _ _ _) (Nat.le_succ _) _ _ _

set_option maxRecDepth 20000 in
set_option maxHeartbeats 1000000 in
theorem DrawNumCmp_any (R : Nat → Prop) (w : World) (n : Nat) (v : Value) (hv : BytesAt R w v n) (hn : n ≤ 1048576) (hR : ∀ b, R b → b < w.heap.size) :
    Calls Tryd.prog 26 #[v] w fun e w' => AnyN2 e ∧ Below w.heap.size w w' := by
  have hb := boxes2 w #[.bool false, .string ⟨#[]⟩, .string ⟨#[]⟩] #[.bool false, .string ⟨#[]⟩, .string ⟨#[]⟩] 25 25 (Below.refl _ _)
  have HT := hid (l16Two2_any R ((w.alloc box0).alloc box0) n v (hv.keep fun b hb' => hb.2.2.block b (hR b hb')) hn (fun b h => by have := hR b h; simp; omega))
  have HB := hid hb
  obtain ⟨a0, cap, rfl, -, -⟩ := hv
  clear hb hn hR
  go_enter Tryd.func26, Tryd.ntmps26
  go_wp2_with fail
  refine HT.out.mono ?_
  rintro e w1 ⟨⟨ma, Ta, Sa, mb, Tb, Sb, hs, rfl⟩, hw⟩
  have hlt2 := HB.out.2.1.lt
  obtain ⟨⟨r0, r1, r2⟩, g0, g1, g2⟩ := own3V (HB.out.1.keep hw HB.out.1.lt)
  obtain ⟨⟨s0, s1, s2⟩, h0, h1, h2⟩ := own3V (HB.out.2.1.keep hw hlt2)
  have HBl := hid (HB.out.2.2.trans (hw.mono HB.out.2.2.size))
  clear hw hlt2
  go_wp2_with fail
  refine bodyPost_ret (v := .tuple #[numT ma Ta Sa, numT mb Tb Sb]) (by simp [results, Tryd.results26, go_sem, r0, r1, r2, s0, s1, s2]) rfl ⟨⟨ma, Ta, Sa, mb, Tb, Sb, hs, rfl⟩, ?_⟩
  exact below_set3 (below_set3 HBl.out (Nat.le_refl _) _ _ _) (Nat.le_succ _) _ _ _
end Go.Proofs.YtbbffhpppacihaaDoor

namespace Go.Proofs.YtbbffhpppacihaaDoor
open Go.RowKit Go.Siskin

set_option maxRecDepth 20000 in
set_option maxHeartbeats 1000000 in
theorem integerOf_any (i : Int) (w : World) (h1 : -9223372036854775808 ≤ i) (h2 : i ≤ 9223372036854775807) :
    Calls Tryd.prog 71 #[.int .i64 i] w fun e w' => ∃ a c, e = .returned (.agg #[.bool (decide (i < 0)), .slice a (grp i.natAbs).length c]) ∧ NatA w' (.slice a (grp i.natAbs).length c) (grp i.natAbs) ∧ Below w.heap.size w w' := by
  have HO := hid (fun w => sizeOf_any i w h1 h2)
  obtain ⟨b, hb⟩ : ∃ b : Bool, decide (i < 0) = b := ⟨_, rfl⟩
  obtain ⟨x, hx⟩ : ∃ x, i.natAbs = x := ⟨_, rfl⟩
  rw [hx] at HO ⊢
  rw [hb]
  clear hx
  go_enter Tryd.func71, Tryd.ntmps71
  go_wp2_with fail
  refine (HO.out _).mono ?_
  rintro e w1 ⟨vu, rfl, hu, hw⟩
  rw [World.size_alloc] at hw
  have HU := hid hu
  have HW := hid hw
  obtain ⟨ua, uc, rfl⟩ := natA_formR hu
  obtain ⟨⟨r0, r1⟩, q0, q1⟩ := own2V ((own_new w #[.bool false, .slice none 0 0] 50).keep hw (Nat.lt_succ_self _))
  have hO := (own_new w #[.bool false, .slice none 0 0] 50).keep hw (Nat.lt_succ_self _)
  have HO2 := hid hO
  clear hw hu hO
  go_wp2_with fail
  refine bodyPost_ret (v := .agg #[.bool b, .slice ua (grp x).length uc]) (by simp [results, Tryd.results71, go_sem, r0, r1]) rfl ⟨ua, uc, rfl, ?_, ?_⟩
  · exact natA_set2 HU.out HO2.out _ _
  · exact below_set2 (res_done HW.out) (Nat.le_refl _) _ _
end Go.Proofs.YtbbffhpppacihaaDoor

namespace Go.Proofs.YtbbffhpppacihaaDoor
open Go.RowKit Go.Siskin

theorem sign_neg (n : Bool) (x : Nat) : decide (signI n x < 0) = (n && !decide (x = 0)) := by
  unfold signI
  by_cases h : x = 0
  · simp [h]
  · cases n <;> simp [h]

set_option maxRecDepth 20000 in
set_option maxHeartbeats 2000000 in
theorem intPlain_any (n : Bool) (x : Nat) (v : Value) (w : World) (h : NatA w v (grp x)) (hn : nG x ≤ 1000) (hP : Pow9 w) :
    Calls Tryd.prog 37 #[.agg #[.bool n, v]] w fun e w' => e = .returned (.agg #[.bool (n && !decide (x = 0)), .string (dec x), .string (dec 1)]) ∧ Below w.heap.size w w' := by
  obtain ⟨a, c, rfl⟩ := natA_formR h
  have HSg : Hid (∀ W, Below w.heap.size w W → Calls Tryd.prog 53 #[.agg #[.bool n, .slice a (grp x).length c]] W fun e w' => e = .returned (.int .i64 (signI n x)) ∧ Below W.heap.size W w') := fun W hb => intSign_any n x _ W (h.below hb (Nat.le_refl _))
  have HO1 := hid (fun w => naturalOf_any 1 w (by decide))
  have HPl : Hid (∀ W b vd, Below w.heap.size w W → NatA W vd (grp 1) → Calls Tryd.prog 57 #[.agg #[.bool b, .slice a (grp x).length c, vd]] W fun e w' => e = .returned (.agg #[.bool b, .string (dec x), .string (dec 1)]) ∧ Below W.heap.size W w') := fun W b vd hb hd => plain_any b x 1 _ _ W (h.below hb (Nat.le_refl _)) hd (by omega) (Nat.le_trans (nG_int (n := 1) (by decide)) (by decide)) (hP.below hb (Nat.le_refl _))
  have hs := sign_neg n x
  generalize (n && !decide (x = 0)) = b at *
  generalize signI n x = sg at *
  generalize (grp x).length = l at *
  clear h hP hn
  have HX : Hid (∀ W, Below (w.heap.size + 2) ((w.alloc (boxI n (.slice a l c))).alloc (.cells #[.bool false, .string ⟨#[]⟩, .string ⟨#[]⟩] 25)) W → Own W w.heap.size 50 #[.bool n, .slice a l c] ∧ Own W (w.heap.size + 1) 25 #[.bool false, .string ⟨#[]⟩, .string ⟨#[]⟩] ∧ Below w.heap.size w W) := fun W h => boxes2 w _ _ _ _ h
  have HB0 : Hid (Below (w.heap.size + 2) ((w.alloc (boxI n (.slice a l c))).alloc (.cells #[.bool false, .string ⟨#[]⟩, .string ⟨#[]⟩] 25)) ((w.alloc (boxI n (.slice a l c))).alloc (.cells #[.bool false, .string ⟨#[]⟩, .string ⟨#[]⟩] 25))) := Below.refl _ _
  have HSz : Hid (w.heap.size + 2 ≤ ((w.alloc (boxI n (.slice a l c))).alloc (.cells #[.bool false, .string ⟨#[]⟩, .string ⟨#[]⟩] 25)).heap.size) := by show _ ≤ _; simp
  have HSt : Hid (∀ W, Below (w.heap.size + 2) ((w.alloc (boxI n (.slice a l c))).alloc (.cells #[.bool false, .string ⟨#[]⟩, .string ⟨#[]⟩] 25)) W → ∀ x y z : Value, (((W.setCell ⟨w.heap.size + 1, 0, none⟩ x).setCell ⟨w.heap.size + 1, 1, none⟩ y).setCell ⟨w.heap.size + 1, 2, none⟩ z).cell? ⟨w.heap.size, 0, none⟩ = some (.bool n) ∧ (((W.setCell ⟨w.heap.size + 1, 0, none⟩ x).setCell ⟨w.heap.size + 1, 1, none⟩ y).setCell ⟨w.heap.size + 1, 2, none⟩ z).cell? ⟨w.heap.size, 1, none⟩ = some (.slice a l c)) := fun W h x y z => (own2V (own_set3 (HX.out W h).1 (by omega) x y z)).1
  go_enter Tryd.func37, Tryd.ntmps37
  go_wp2_with fail
  have HB := hid HB0.out.drew
  obtain ⟨⟨r0, r1, r2⟩, q0, q1, q2⟩ := own3V (HX.out _ HB.out).2.1
  go_region_held3 (fun W => W.cell? ⟨w.heap.size, 0, none⟩ = some (.bool n) ∧ W.cell? ⟨w.heap.size, 1, none⟩ = some (.slice a l c))
    (first
      | exact (own2V (HX.out _ HB.out).1).1
      | exact HSt.out _ HB.out _ _ _)
    (first
      | (go_at_call 53
         go_loud (
           refine (HSg.out _ (HX.out _ HB.out).2.2).mono ?_
           rintro e w5 ⟨rfl, hw5⟩
           have HB := hid (HB.out.trans (hw5.mono (Nat.le_trans HSz.out HB.out.size)))
           clear hw5 r0 r1 r2 q0 q1 q2
           obtain ⟨⟨r0, r1, r2⟩, q0, q1, q2⟩ := own3V (HX.out _ HB.out).2.1))
      | (go_at_call 56
         go_loud (
           refine (HO1.out _).mono ?_
           rintro e w5 ⟨vd, rfl, hvd, hw5⟩
           obtain ⟨da, dc, rfl⟩ := natA_formR hvd
           have HVD := hid hvd
           have HB := hid (HB.out.trans (hw5.mono (Nat.le_trans HSz.out HB.out.size)))
           clear hw5 r0 r1 r2 q0 q1 q2 hvd
           obtain ⟨⟨r0, r1, r2⟩, q0, q1, q2⟩ := own3V (HX.out _ HB.out).2.1))
      | (go_at_call 57
         go_loud (
           refine (HPl.out _ _ _ (HX.out _ HB.out).2.2 HVD.out).mono ?_
           rintro e w5 ⟨rfl, hw5⟩
           have HB := hid (HB.out.trans (hw5.mono (Nat.le_trans HSz.out HB.out.size)))
           clear hw5 r0 r1 r2 q0 q1 q2
           obtain ⟨⟨r0, r1, r2⟩, q0, q1, q2⟩ := own3V (HX.out _ HB.out).2.1)))
  all_goals
    go_wp2_with fail
    refine bodyPost_ret (v := .agg #[.bool b, .string (dec x), .string (dec 1)]) (by simp [results, Tryd.results37, go_sem, r0, r1, r2]) rfl ⟨rfl, ?_⟩
    exact below_set3 (HX.out _ HB.out).2.2 (by omega) _ _ _
end Go.Proofs.YtbbffhpppacihaaDoor
