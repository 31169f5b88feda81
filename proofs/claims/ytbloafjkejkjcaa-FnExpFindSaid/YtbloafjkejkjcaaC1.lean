/- Names that are bound, as they lie in memory inside the program; the program's size and nearestOf. -/
import Derived.Test.YtbloafjkejkjcaaB9
namespace Go.Proofs.Ytbloafjkejkjcaa
open Go.RowKit Go.Siskin

/-- Names that are bound, side by side from a cell on: each its set and its name. -/
def NRowAt (R : Nat → Prop) (w : World) (b o : Nat) (ks : List Bd) : Prop := ∀ (i : Nat) (hi : i < ks.length),
  ∃ c0, w.cell? ⟨b, o + i * 2, none⟩ = some c0 ∧ w.cell? ⟨b, o + i * 2 + 1, none⟩ = some (.string ks[i].name) ∧ IntsAt R w c0 (setL ks[i].scopes)
theorem NRowAt.keep {R : Nat → Prop} {w w' : World} (hb : SameOn R w w') {b : Nat} (hB : R b) {ks : List Bd} {o : Nat} (h : NRowAt R w b o ks) : NRowAt R w' b o ks := fun i hi => by
  obtain ⟨c0, e0, e1, e2⟩ := h i hi
  exact ⟨c0, (hb.cell hB _).trans e0, (hb.cell hB _).trans e1, e2.keep hb⟩

abbrev setD (d : Bd) : List Int := setL d.scopes

theorem near_snoc (S : Bd → List Int) (d : Bd) : ∀ (l : List Bd) (n : Bd), nearB S n (l ++ [d]) = if (S (nearB S n l)).length ≤ (S d).length then d else nearB S n l
  | [], n => rfl
  | a :: r, n => by
    rw [List.cons_append, nearB, nearB]; exact near_snoc S d r _
theorem near_take (S : Bd → List Int) (n : Bd) (ks : List Bd) (k : Nat) (h : k < ks.length) : nearB S n (ks.take (k + 1)) = if (S (nearB S n (ks.take k))).length ≤ (S ks[k]).length then ks[k] else nearB S n (ks.take k) := by
  rw [List.take_succ_eq_append_getElem h, near_snoc]

theorem size_any (a : Option Addr) (n c : Nat) (w : World) :
    Calls Try.prog 33 #[.agg #[.slice a n c]] w fun e w' => e = .returned (.int .i64 n) ∧ Below w.heap.size w w' := by
  go_enter Try.func33, Try.ntmps33
  go_wp2_with fail
  go_ret
  exact ⟨rfl, (Below.refl _ _).alloc (Nat.le_refl _) _⟩

set_option maxRecDepth 20000 in
set_option maxHeartbeats 2000000 in
theorem nearestOf_any (R : Nat → Prop) (w : World) (b o cap : Nat) (ks : List Bd) (n : Bd) (l : List Bd) (hks : ks = n :: l) (hl : ks.length ≤ maxLen) (hr : NRowAt R w b o ks) (hb : R b) (hB : ∀ b, R b → b < w.heap.size) :
    Calls Try.prog 24 #[.slice (some ⟨b, o, none⟩) ks.length cap] w fun e w' => ∃ c0, e = .returned (.agg #[c0, .string (nearB setD n ks).name]) ∧ IntsAt R w' c0 (setL (nearB setD n ks).scopes) ∧ Below w.heap.size w w' := by
  have h0 : 0 < ks.length := by rw [hks]; simp
  have h0i : (0 : Int) < (ks.length : Int) := by omega
  obtain ⟨c, g0, g1, hi⟩ := hr 0 h0
  have HI := hid hi
  obtain ⟨ca, cc, rfl, -⟩ := hi
  simp only [Nat.zero_mul, Nat.add_zero] at g0 g1
  have hbl := hB b hb
  have HR := hid hB
  have HN := hid hr
  have hn0 : ks[0] = n := by subst hks; rfl
  rw [hn0] at g0 g1 HI
  unfold maxLen at hl
  clear hB hr hks hn0
  go_enter Try.func24, Try.ntmps24
  go_wp2_with fail
  go_loopw [11] (fun i wr => ∃ k : Nat, k ≤ ks.length ∧ i = .int .i64 k ∧ ∃ (a : Option Addr) (c : Nat), Hid (Own wr (w.heap.size + 1) 59 #[.slice a (setL (nearB setD n (ks.take k)).scopes).length c, .string (nearB setD n (ks.take k)).name]) ∧ Hid (Own wr w.heap.size 59 #[.slice none 0 0, .string ⟨#[]⟩]) ∧ Hid (IntsAt R wr (.slice a (setL (nearB setD n (ks.take k)).scopes).length c) (setL (nearB setD n (ks.take k)).scopes)) ∧ Hid (Below w.heap.size w wr)) (fun i _ => ks.length - (intOf i).toNat)
  case atStart =>
    refine ⟨0, Nat.zero_le _, rfl, ca, cc, ?_, ?_, ?_, ?_⟩
    · show Own _ _ _ _
      have h := own_new (w.alloc (.cells #[.slice none 0 0, .string ⟨#[]⟩] 59)) #[.slice ca (setL n.scopes).length cc, .string n.name] 59
      rw [World.size_alloc] at h
      exact h
    · show Own _ _ _ _
      exact (own_new w #[.slice none 0 0, .string ⟨#[]⟩] 59).keep ((Below.refl (w.heap.size + 1) _).alloc (by simp) _) (by omega)
    · exact HI.out.keep (((SameOn.refl _ _).alloc HR.out _).alloc (fun b hb => by have := HR.out b hb; simp; omega) _)
    · exact ((Below.refl _ _).alloc (Nat.le_refl _) _).alloc (by simp) _
  case round =>
    obtain ⟨k, hk, rfl, a, c, HO, HO2, HA, HB⟩ := hrel
    have q0 := HO.out.cell 0
    have q1 := HO.out.cell 1
    have f0 := HO.out.frozen 0
    have f1 := HO.out.frozen 1
    have p0 := HO2.out.cell 0
    have p1 := HO2.out.cell 1
    have r0 := HO2.out.frozen 0
    have r1 := HO2.out.frozen 1
    simp at q0 q1 p0 p1
    have hlt1 := HO.out.lt
    by_cases hlt : k < ks.length
    · obtain ⟨x, y0, y1, hx⟩ := (HN.out.keep (HB.out.on HR.out) hb) k hlt
      have HX := hid hx
      obtain ⟨xa, xc, rfl, -⟩ := hx
      have hbl2 : b < wr.heap.size := by omega
      have HT := hid (near_take setD n ks k hlt)
      generalize hgn : nearB setD n (ks.take k) = N at HO HA HT q0 q1
      by_cases hd : (setL N.scopes).length ≤ (setL ks[k].scopes).length
      · have hd' : ((setL N.scopes).length : Int) ≤ ((setL ks[k].scopes).length : Int) := by omega
        have HT2 := hid (HT.out.trans (if_pos hd))
        clear hd
        go_wp2_with fail
        go_region_with (go_at_call 33; refine (size_any _ _ _ _).mono ?_; rintro e w1 ⟨rfl, hw⟩; have z : wr.heap.size < w1.heap.size := (by have := hw.size; first | omega | (simp at this; omega)); have y2 := hw.cell (p := ⟨w.heap.size + 1, 0, none⟩) (by first | omega | (simp; omega)); first | (have HH := hid (HH.out.trans (hw.mono (by omega)))) | (have HH := hid ((Below.refl (wr.heap.size + 1) (wr.alloc (.cells #[.slice xa (setL ks[k].scopes).length xc, .string ks[k].name] 59))).drew.trans (hw.mono (by simp)))); clear hw)
        all_goals
          have O1 := (own_new wr #[.slice xa (setL ks[k].scopes).length xc, .string ks[k].name] 59).keep HH.out (by omega)
          have O2 := HO.out.keep (bx_done HH.out) hlt1
          have O3 := HO2.out.keep (bx_done HH.out) (by omega)
          have s0 := O1.cell 0
          have s1 := O1.cell 1
          have t0 := O2.cell 0
          have t1 := O2.cell 1
          have v0 := O2.frozen 0
          have v1 := O2.frozen 1
          simp at s0 s1 t0 t1
          have P2 := hid O2
          have P3 := hid O3
          clear O1 O2 O3 y2
          go_wp2_with fail
          refine ⟨⟨k + 1, by omega, by go_num, xa, xc, ?_, ?_, ?_, ?_⟩, by simp [intOf]; omega⟩
          · rw [HT2.out]; exact (P2.out.set 0 _).set 1 _
          · exact P3.out.keep (((Below.refl (w.heap.size + 1) _).setCell (Nat.le_refl _) _).setCell (Nat.le_refl _) _) (by omega)
          · rw [HT2.out]
            exact (HX.out.keep ((bx_done HH.out).on (fun b hb => by have := HR.out b hb; omega))).keep (((SameOn.refl _ _).setCell (fun hb => by have := HR.out _ hb; simp at this; omega) _).setCell (fun hb => by have := HR.out _ hb; simp at this; omega) _)
          · exact ((HB.out.trans ((bx_done HH.out).mono (by omega))).setCell (by simp) _).setCell (by simp) _
      · have hd' : ¬ ((setL N.scopes).length : Int) ≤ ((setL ks[k].scopes).length : Int) := by omega
        have HT2 := hid (HT.out.trans (if_neg hd))
        clear hd
        go_wp2_with fail
        go_region_with (go_at_call 33; refine (size_any _ _ _ _).mono ?_; rintro e w1 ⟨rfl, hw⟩; have z : wr.heap.size < w1.heap.size := (by have := hw.size; first | omega | (simp at this; omega)); have y2 := hw.cell (p := ⟨w.heap.size + 1, 0, none⟩) (by first | omega | (simp; omega)); first | (have HH := hid (HH.out.trans (hw.mono (by omega)))) | (have HH := hid ((Below.refl (wr.heap.size + 1) (wr.alloc (.cells #[.slice xa (setL ks[k].scopes).length xc, .string ks[k].name] 59))).drew.trans (hw.mono (by simp)))); clear hw)
        all_goals
          have O1 := (own_new wr #[.slice xa (setL ks[k].scopes).length xc, .string ks[k].name] 59).keep HH.out (by omega)
          have O2 := HO.out.keep (bx_done HH.out) hlt1
          have O3 := HO2.out.keep (bx_done HH.out) (by omega)
          have s0 := O1.cell 0
          have s1 := O1.cell 1
          have t0 := O2.cell 0
          have t1 := O2.cell 1
          have v0 := O2.frozen 0
          have v1 := O2.frozen 1
          simp at s0 s1 t0 t1
          have P2 := hid O2
          have P3 := hid O3
          clear O1 O2 O3 y2
          go_wp2_with fail
          refine ⟨⟨k + 1, by omega, by go_num, a, c, ?_, ?_, ?_, ?_⟩, by simp [intOf]; omega⟩
          · rw [HT2.out]; exact P2.out
          · exact P3.out
          · rw [HT2.out]
            exact HA.out.keep ((bx_done HH.out).on (fun b hb => by have := HR.out b hb; omega))
          · exact HB.out.trans ((bx_done HH.out).mono (by omega))
    · go_wp2_with fail
      have hkk : k = ks.length := by omega
      refine bodyPost_ret (v := .agg #[.slice a (setL (nearB setD n (ks.take k)).scopes).length c, .string (nearB setD n (ks.take k)).name]) (by simp [results, Try.results24, go_sem, p0, p1]) rfl ?_
      rw [hkk, List.take_length] at HA ⊢
      exact ⟨_, rfl, HA.out.keep (((SameOn.refl _ _).setCell (fun hb => by have := HR.out _ hb; simp at this) _).setCell (fun hb => by have := HR.out _ hb; simp at this) _), (HB.out.setCell (Nat.le_refl _) _).setCell (Nat.le_refl _) _⟩

end Go.Proofs.Ytbloafjkejkjcaa
