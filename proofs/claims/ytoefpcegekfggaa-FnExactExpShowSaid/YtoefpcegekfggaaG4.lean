/- The program's openAll opens all forms of a list, just where all are ok and not too many, if its opener does so of one. Condition: the forms lie in memory, the opener's counter apart from them. -/
import Derived.Test.YtoefpcegekfggaaG3
namespace Go.Proofs.Ytoefpcegekfggaa
open Go.RowKit Go.Siskin

theorem goods_bad {ks : List Fm} {d m k : Nat} (hlt : k < ks.length) (h : goodB ks[k] d (m + Fm.szs (ks.take k)) = false) : false = goodsB ks d m := by
  unfold goodB at h
  unfold goodsB
  cases h1 : okB ks[k] d with
  | false => rw [oksB_bad ks k d hlt h1]; rfl
  | true =>
    rw [h1, Bool.true_and, decide_eq_false_iff_not] at h
    have h2 := Fm.szs_take ks k hlt
    have h3 := Fm.szs_take_le ks (k + 1)
    rw [decide_eq_false (p := m + Fm.szs ks ≤ 1500) (by omega)]; simp

theorem one_cell (w : World) (v : Value) (t : TypeId) : ∀ (j : Nat) u, [v][j]? = some u → (w.alloc (.cells #[v] t)).cell? ((⟨w.heap.size, 0, none⟩ : Addr).add j) = some u := by
  intro j u hj
  match j, hj with
  | 0, hj => simp at hj; subst hj; simp [Addr.add]

set_option maxRecDepth 20000 in
set_option maxHeartbeats 2000000 in
theorem openForms_of (n : Nat) (ih : OpenForm n) : OpenForms n := by
  intro ks hks B w v d m bo hv hB ho hm hd hc
  obtain ⟨a, ca, rfl, hla, ha⟩ := hv
  unfold maxLen at hla
  obtain ⟨i, hi, hz0, hz1, hz2⟩ := info_parts Try.infoIface
  have Hi := hid hi
  have Hz0 := hid hz0
  have Hz1 := hid hz1
  have Hz2 := hid hz2
  have HI := hid ih
  have HR := hid hB
  have HO := hid ho
  have hbo := ho.lt
  clear hi hz0 hz1 hz2 ih hB ho
  go_enter Try.func63, Try.ntmps63
  go_wp2_with fail
  go_loopw [8, 15] (fun v i wr => ∃ k : Nat, k ≤ ks.length ∧ i = .int .i64 k ∧ Hid (AllRel B w bo d m ks k v wr)) (fun _ i _ => ks.length - (intOf i).toNat)
  case atStart =>
    refine ⟨0, Nat.zero_le _, rfl, by simp [oksB], by simpa [Fm.szs] using hm, ⟨World.grownBy.refl _ _, by simpa [Fm.szs] using HO.out⟩, [], World.ownsRow_nil _ _ _ _, fun j _ hj => absurd hj (by omega)⟩
  case round =>
    obtain ⟨k, hk, rfl, HA⟩ := hrel
    by_cases hlt : k < ks.length
    · rcases ha with ha | ⟨ba, oa, rfl, hb, ha⟩
      · subst ha; simp at hlt
      have hsz := HA.out.opened.1.size
      have hsame : SameOn B w wr := grown_on (SameOn.refl _ _) HA.out.opened.1 (fun b hb => ⟨(HR.out b hb).1, fun e => (HR.out b hb).2 (Option.some.inj e)⟩)
      obtain ⟨c0, c1, c2, c3, c4, g0, g1, g2, g3, g4, hf⟩ := RowAt.get ks (RowAt.keep hsame hb ks ha) k hlt
      have HC := hid (HI.out ks[k] (Nat.le_trans (Fm.szs_get ks k hlt) hks) B (wr.alloc (.cells #[c0, c1, c2, c3, c4] 30)) c0 c1 c2 c3 c4 d (m + Fm.szs (ks.take k)) bo (FormAt.keep ((SameOn.refl _ _).alloc (fun b hb => by have := (HR.out b hb).1; omega) _) _ hf) (fun b hb => ⟨by have := (HR.out b hb).1; simp; omega, (HR.out b hb).2⟩) ((Below.heap_alloc _ _ _ (by have := HA.out.opened.1.size; omega)).trans HA.out.opened.2) HA.out.le hd (by have := Fm.costs_get ks k hlt; omega))
      obtain ⟨rfl, rfl, -, h2, rfl, h4⟩ := (formAt_iff _ _ _ _ _ _ _ _).1 hf
      obtain ⟨a2, k2, rfl, -⟩ := h2
      obtain ⟨a4, k4, rfl, -⟩ := h4
      clear ha hf HI hsame
      go_wp2_with fail
      refine HC.out.mono ?_
      rintro e w1 ⟨m', part, hop, rfl, hgo⟩
      have HOP := hid hop
      have HGO := hid hgo
      clear hop hgo HC
      cases hgd : goodB ks[k] d (m + Fm.szs (ks.take k)) with
      | false =>
        have HX := hid (goods_bad hlt hgd)
        go_wp2_with fail
        go_ret2
        have h1 := HOP.out
        have h0 := HA.out.opened
        refine ⟨m', none, 0, 0, ⟨⟨h1.1.os.trans h0.1.os, h1.1.tape.trans h0.1.tape, h1.1.output.trans h0.1.output, by have := h1.1.size; simp at this; omega, fun b hb1 hb2 => ?_⟩, h1.2⟩, ret_tup HX.out, fun h => absurd (HX.out.trans h) (by decide)⟩
        rw [h1.1.block b (by simp; omega) hb2, Below.heap_alloc _ _ _ (by omega)]
        exact h0.1.block b hb1 hb2
      | true =>
        obtain ⟨xs, hown, hvals⟩ := HA.out.vals
        have HGD := hid hgd
        obtain ⟨t, x, hpart⟩ := InAt.iface (HGO.out hgd).2
        subst hpart
        have HV := hid hvals
        have HW := hid hown
        have hs1 := HOP.out.1.size
        simp only [World.size_alloc] at hs1
        have hz1 : w.heap.size ≤ w1.heap.size := by omega
        clear hvals hown
        go_wp2_with (at_builtin; refine wpList_append_own_at _ rfl _ _ 103 rfl w.heap.size 48 i .nilIface 1 16 Try.underlying103 Hi.out Hz0.out Hz1.out Hz2.out rfl (by decide) _ k xs rfl (ownsRow_alloc (ownsRow_grown (ownsRow_alloc HW.out _) HOP.out.1 (fun b e => by have := Option.some.inj e; omega)) _) ⟨w1.heap.size, 0, none⟩ 1 1 [.iface t x] rfl rfl (one_cell _ _ _) (by intro u hu; simp at hu; subst hu; rfl) (by unfold maxLen; omega) (by omega) (by simp; omega) ?_; intro v' w2 hown' hg hnil hb')
        have h2 := HGO.out HGD.out
        have hop := HOP.out
        rw [h2.1] at hop
        exact ⟨⟨k + 1, by omega, by go_num, all_step HR.out hbo hlt HA.out.ok HA.out.opened HW.out HV.out HGD.out hop h2.2 hown' hg hb'⟩, by simp [intOf]; omega⟩
    · have e : k = ks.length := by omega
      obtain ⟨xs, hown, hvals⟩ := HA.out.vals
      have HOK := hid HA.out.ok
      have HLE := hid HA.out.le
      have HOP := hid HA.out.opened
      subst e
      have HV := hid hvals
      have HW := hid hown
      rw [List.take_length] at HOK HLE HOP
      have HX : Hid (true = goodsB ks d m) := by
        show _ = _
        unfold goodsB; rw [HOK.out, decide_eq_true HLE.out]; rfl
      rcases hown.2 with ⟨rfl, h0⟩ | ⟨g, cap, cur, rfl, e2, e3, e4, e5, e6, e7⟩
      · clear hvals hown
        go_wp2_with fail
        go_ret2
        refine ⟨_, none, 0, 0, HOP.out, ret_tup HX.out, fun _ => ⟨by omega, by omega, by omega, Or.inl (List.eq_nil_of_length_eq_zero h0)⟩⟩
      · have HE := hid e3
        have HE7 := hid e7
        have hlt2 := (Array.getElem?_eq_some_iff.1 e3).1
        clear hvals hown e3 e7
        go_wp2_with fail
        go_ret2
        refine ⟨_, _, _, _, HOP.out, ret_tup HX.out, fun _ => ⟨by omega, rfl, e4, Or.inr ⟨g, rfl, Or.inr ⟨e2, hlt2⟩, InRow.mk _ fun j hj => ?_⟩⟩⟩
        rw [toIms_length] at hj
        obtain ⟨x, hx, hin⟩ := HV.out j hj hj
        refine ⟨x, ?_, ?_⟩
        · rw [Nat.zero_add]
          simp only [World.cell?, HE.out]
          rw [← HE7.out] at hx
          rw [List.getElem?_take, if_pos (by omega)] at hx
          simpa using hx
        · rw [toIms_get ks j hj]
          refine InAt.mono ?_ _ hin
          intro b h
          rcases h with h | ⟨a1, a2, -⟩
          · exact Or.inl h
          · exact Or.inr ⟨a1, a2⟩

end Go.Proofs.Ytoefpcegekfggaa
