/-
  The model's l2Put: ascending numbers and one more, in new memory. Condition: the slice lies in memory as IntsAt says, ascending.
-/
import Derived.Test.YtjbejnibiebjgaaGreatPart5
namespace Go.Proofs.YtjbejnibiebjgaaGreat
open Go.RowKit Go.Siskin

set_option maxRecDepth 20000 in
set_option maxHeartbeats 4000000 in
theorem l2Put_any (B : Nat → Prop) (va : Value) (xs : List Int) (n : Int) (w : World) (ha : IntsAt B w va xs) (hup : Up xs) (hB : ∀ b, B b → b < w.heap.size) (hn : xs.length ≤ 1048576) :
    Calls Tryz.prog 34 #[va, .int .i64 n] w fun e w' => ∃ u, e = .returned u ∧ IntsAt (Fresh w w') w' u (putB n xs) ∧ Below w.heap.size w w' := by
  have HR := hid hB
  have HI := hid ha
  have HU := hid hup
  obtain ⟨a, ca, rfl, hla, ha⟩ := ha
  unfold maxLen at hla
  have HC : Hid (∀ k (hk : k < xs.length), ∃ ba oa, a = some ⟨ba, oa, none⟩ ∧ w.cell? ⟨ba, oa + k, none⟩ = some (.int .i64 xs[k])) := fun k hk => by
    rcases ha with ha | ⟨ba, oa, h1, -, ha⟩
    · subst ha; simp at hk
    · exact ⟨ba, oa, h1, by rw [ha k hk, List.getD_eq_getElem?_getD, List.getElem?_eq_getElem hk]; rfl⟩
  obtain ⟨i0, hi, hz0, hz1, hz2⟩ := info_parts Tryz.infoIntE
  have Hi := hid hi
  have Hz0 := hid hz0
  have Hz1 := hid hz1
  have Hz2 := hid hz2
  clear hi hz0 hz1 hz2 ha hB hup
  go_enter Tryz.func34, Tryz.ntmps34
  go_wp2_with fail
  go_loopw [5] (fun i wr => (∃ m, wr = w.drewN m) ∧ ∃ k : Nat, k ≤ xs.length ∧ i = .int .i64 k ∧ Hid (∀ j (hj : j < xs.length), j < k → xs[j] < n)) (fun i _ => xs.length - (intOf i).toNat)
  case atStart => exact ⟨⟨0, rfl⟩, 0, Nat.zero_le _, rfl, fun j _ hj => absurd hj (by omega)⟩
  case round =>
    obtain ⟨⟨mm, rfl⟩, k, hk, rfl, HJ⟩ := hrel
    have KL : Hid ((xs.take k).length = k) := by show _ = _; rw [List.length_take, Nat.min_eq_left hk]
    have E1 := hid (slice_to a xs.length ca k (by omega))
    have E2 := hid (slice_from a xs.length ca k hk)
    obtain ⟨A, hA⟩ : ∃ A, A = fromA a ca k := ⟨_, rfl⟩
    have HA := hid hA
    rw [← HA.out] at E2
    clear hA
    have HPL : Hid ((xs.take k ++ [n] ++ xs.drop k).length = xs.length + 1) := by show _ = _; simp; omega
    by_cases hlt : k < xs.length
    · obtain ⟨ba, oa, rfl, ga⟩ := HC.out k hlt
      by_cases hx : xs[k] < n
      · have hd : decide (xs[k] < n) = true := decide_eq_true hx
        have HJ2 : Hid (∀ j (hj : j < xs.length), j < k + 1 → xs[j] < n) := fun j hj hjk => by
          by_cases e : j = k
          · subst e; exact hx
          · exact HJ.out j hj (by omega)
        go_wp2_with fail
        exact ⟨⟨⟨mm, by simp⟩, k + 1, by omega, by go_num, HJ2⟩, by simp [intOf]; omega⟩
      · have hd : decide (xs[k] < n) = false := decide_eq_false hx
        have hcut := hid (cut_eq hk HJ.out fun _ => hx)
        cases hcn : xs.contains n with
        | true =>
          have hxk := cut_has HU.out hcn
          rw [← hcut.out, List.getElem?_eq_getElem hlt] at hxk
          have hxn : xs[k] = n := Option.some.inj hxk
          have hxb : (xs[k] == n) = true := by simpa using hxn
          have HX : Hid (putB n xs = xs) := by show _ = _; unfold putB; rw [if_pos hcn]
          clear hxk hxn
          go_wp2_with (at_builtin; refine wpList_append_ints _ rfl _ _ rfl w.heap.size i0 Hi.out Hz0.out Hz1.out Hz2.out w.heap.size 0 0 [] rfl (World.ownsRow_made _ #[] 0 (by simp) (Nat.zero_le _) (by simp)) B _ xs rfl (HI.out.keep (SameOn.alloc (w := w.drewN mm) (fun b hb => rfl) HR.out _)) (by omega) (by simp) ?_; intro g c w1 ho hg hbg)
          go_ret
          refine ⟨_, rfl, ?_, ?_⟩
          · rw [HX.out]
            have h9 := ho
            rw [Nat.zero_add, List.nil_append] at h9
            exact row_ints (B := Fresh w w1) h9 (by unfold maxLen; omega) fun g h1 h2 => ⟨h1, h2⟩
          · exact ((belowJ (Below.refl w.heap.size w) mm).alloc (by simp) _).grown hg (by simp) (fun g e => by simp at e; omega)
        | false =>
          have hxb : (xs[k] == n) = false := by
            have h := cut_hasnt hcn (by rw [← hcut.out]; exact hlt)
            simp only [← hcut.out] at h
            simpa using h
          have HX : Hid (putB n xs = xs.take k ++ [n] ++ xs.drop k) := by show _ = _; unfold putB; rw [if_neg (by rw [hcn]; simp), ← hcut.out]
          go_wp2_with fail
          refine wp_region_held_drew (S := fun _ => True) rfl trivial (fun _ => ?_)
          obtain ⟨V, hV⟩ : ∃ V, V = (w.drewN mm).drew := ⟨_, rfl⟩
          have BV : Hid (Below w.heap.size w V) := by
            show Below _ _ _
            rw [hV]; exact (belowJ (Below.refl _ _) mm).drew
          rw [← hV]
          clear hV
          refine wpAnyH_take (i := 1) (oi := ({ dst := some 36, op := _, type := _, pos := _, after := _, guard := _ } : Oper)) (v := (.slice (some ⟨ba, oa, none⟩) xs.length ca)) rfl (by kernel_rfl) (by kernel_rfl) (by kernel_rfl) (fun _ _ _ h => h) (Or.inl ⟨by rfl, ?_⟩) trivial ?_
          · intro w hSw; (try dsimp only at hSw); go_simp
          try simp only [Act.put, List.setIfInBounds_toArray, List.set_cons_zero, List.set_cons_succ]
          refine wpAnyH_take (i := 2) (oi := ({ dst := some 37, op := _, type := _, pos := _, after := _, guard := _ } : Oper)) (v := (.int .i64 k)) rfl (by kernel_rfl) (by kernel_rfl) (by kernel_rfl) (fun _ _ _ h => h) (Or.inl ⟨by rfl, ?_⟩) trivial ?_
          · intro w hSw; (try dsimp only at hSw); go_simp
          try simp only [Act.put, List.setIfInBounds_toArray, List.set_cons_zero, List.set_cons_succ]
          refine wpAnyH_take (i := 3) (oi := ({ dst := some 38, op := _, type := _, pos := _, after := _, guard := _ } : Oper)) (v := (.slice (some ⟨ba, oa, none⟩) k ca)) rfl (by kernel_rfl) (by kernel_rfl) (by kernel_rfl) (fun _ _ _ h => h) (Or.inl ⟨by rfl, ?_⟩) trivial ?_
          · intro w hSw; (try dsimp only at hSw); exact exec_slice (x := .tmp 36) (lo := none) (hi := some (.tmp 37)) rfl w rfl rfl rfl (E1.out w)
          try simp only [Act.put, List.setIfInBounds_toArray, List.set_cons_zero, List.set_cons_succ]
          refine wpAnyH_take (i := 5) (oi := ({ dst := some 40, op := _, type := _, pos := _, after := _, guard := _ } : Oper)) (v := (.int .i64 n)) rfl (by kernel_rfl) (by kernel_rfl) (by kernel_rfl) (fun _ _ _ h => h) (Or.inl ⟨by rfl, ?_⟩) trivial ?_
          · intro w hSw; (try dsimp only at hSw); go_simp
          try simp only [Act.put, List.setIfInBounds_toArray, List.set_cons_zero, List.set_cons_succ]
          refine wpAnyH_take (i := 8) (oi := ({ dst := some 43, op := _, type := _, pos := _, after := _, guard := _ } : Oper)) (v := (.slice (some ⟨ba, oa, none⟩) xs.length ca)) rfl (by kernel_rfl) (by kernel_rfl) (by kernel_rfl) (fun _ _ _ h => h) (Or.inl ⟨by rfl, ?_⟩) trivial ?_
          · intro w hSw; (try dsimp only at hSw); go_simp
          try simp only [Act.put, List.setIfInBounds_toArray, List.set_cons_zero, List.set_cons_succ]
          refine wpAnyH_take (i := 9) (oi := ({ dst := some 44, op := _, type := _, pos := _, after := _, guard := _ } : Oper)) (v := (.int .i64 k)) rfl (by kernel_rfl) (by kernel_rfl) (by kernel_rfl) (fun _ _ _ h => h) (Or.inl ⟨by rfl, ?_⟩) trivial ?_
          · intro w hSw; (try dsimp only at hSw); go_simp
          try simp only [Act.put, List.setIfInBounds_toArray, List.set_cons_zero, List.set_cons_succ]
          refine wpAnyH_take (i := 10) (oi := ({ dst := some 45, op := _, type := _, pos := _, after := _, guard := _ } : Oper)) (v := (.slice A (xs.length - k) (ca - k))) rfl (by kernel_rfl) (by kernel_rfl) (by kernel_rfl) (fun _ _ _ h => h) (Or.inl ⟨by rfl, ?_⟩) trivial ?_
          · intro w hSw; (try dsimp only at hSw); exact exec_slice (x := .tmp 43) (lo := some (.tmp 44)) (hi := none) rfl w rfl rfl rfl (E2.out w)
          try simp only [Act.put, List.setIfInBounds_toArray, List.set_cons_zero, List.set_cons_succ]
          refine wpAnyH_ready (rs := [0, 6]) (by kernel_rfl) (by simp) ?_
          refine AllReadyH.cons (o := ({ dst := some 35, op := _, type := _, pos := _, after := _, guard := _ } : Oper)) rfl (fun K hK => ?_) (AllReadyH.cons (o := ({ dst := some 41, op := _, type := _, pos := _, after := _, guard := _ } : Oper)) rfl (fun K hK => ?_) AllReadyH.nil)
          · go_simp
            refine hK.out _ _ trivial (fun _ => ?_)
            clear hK K
            try simp only [Act.put, List.setIfInBounds_toArray, List.set_cons_zero, List.set_cons_succ]
            obtain ⟨W1, hW1⟩ : ∃ W1, W1 = V.alloc (.cells #[] 3) := ⟨_, rfl⟩
            rw [← hW1]
            have ZW1 : Hid (W1.heap.size = V.heap.size + 1) := by show _ = _; rw [hW1]; simp
            have BW1 : Hid (Below w.heap.size w W1) := by show Below _ _ _; rw [hW1]; exact BV.out.alloc BV.out.size _
            have RW1 : Hid (W1.ownsRow w.heap.size 3 1 (.slice (some ⟨V.heap.size, 0, none⟩) 0 0) 0 (([] : List Int).map (Value.int .i64))) := by show World.ownsRow _ _ _ _ _ _ _; rw [hW1]; exact World.ownsRow_made V #[] 0 BV.out.size (Nat.zero_le _) (by simp)
            clear hW1
            refine wpAnyH_ready (rs := [4, 6]) (by kernel_rfl) (by simp) ?_
            refine AllReadyH.cons (o := ({ dst := some 39, op := _, type := _, pos := _, after := _, guard := _ } : Oper)) rfl (fun K hK => ?_) (AllReadyH.cons (o := ({ dst := some 41, op := _, type := _, pos := _, after := _, guard := _ } : Oper)) rfl (fun K hK => ?_) AllReadyH.nil)
            · have UW1 := hid (HI.out.keep (BW1.out.on HR.out))
              refine step_append_all _ (by rfl) _ _ (by rfl) w.heap.size i0 Hi.out Hz0.out Hz1.out Hz2.out (.slice (some ⟨V.heap.size, 0, none⟩) 0 0) 0 [] (by rfl) RW1.out B (.slice (some ⟨ba, oa, none⟩) k ca) (xs.take k) (by rfl) (ints_take UW1.out hk ca (by omega)) (by have := KL.out; omega) BW1.out.size ?_
              intro aW2 cW2 W2 rW2 gW2
              have BW2 := hid (BW1.out.grown gW2 BW1.out.size fun g e => (RW1.out.lt g e).1)
              have RW2 := hid rW2
              have GW2 := hid gW2
              clear rW2 gW2
              refine hK.out _ _ trivial (fun _ => ?_)
              clear hK K
              try simp only [Act.put, List.setIfInBounds_toArray, List.set_cons_zero, List.set_cons_succ]
              refine wpAnyH_ready (rs := [6]) (by kernel_rfl) (by simp) ?_
              refine AllReadyH.cons (o := ({ dst := some 41, op := _, type := _, pos := _, after := _, guard := _ } : Oper)) rfl (fun K hK => ?_) AllReadyH.nil
              go_simp
              refine hK.out _ _ trivial (fun _ => ?_)
              clear hK K
              try simp only [Act.put, List.setIfInBounds_toArray, List.set_cons_zero, List.set_cons_succ]
              obtain ⟨W3, hW3⟩ : ∃ W3, W3 = W2.alloc (.cells #[.int .i64 n] 3) := ⟨_, rfl⟩
              rw [← hW3]
              have ZW3 : Hid (W3.heap.size = W2.heap.size + 1) := by show _ = _; rw [hW3]; simp
              have BW3 : Hid (Below w.heap.size w W3) := by show Below _ _ _; rw [hW3]; exact BW2.out.alloc BW2.out.size _
              have NW3 : Hid (IntsAt (fun b => b = W2.heap.size) W3 (.slice (some ⟨W2.heap.size, 0, none⟩) 1 1) [n]) := by show IntsAt _ _ _ _; rw [hW3]; exact ints_one W2 n 1 (Nat.le_refl _) rfl
              have RW3 : Hid (W3.ownsRow w.heap.size 3 1 (.slice aW2 (0 + (xs.take k).length) cW2) (0 + (xs.take k).length) (([] ++ xs.take k).map (Value.int .i64))) := by show World.ownsRow _ _ _ _ _ _ _; rw [hW3]; exact RW2.out.alloc _
              rw [Nat.zero_add, List.nil_append, KL.out] at RW3
              clear hW3
              refine wpAnyH_ready (rs := [7]) (by kernel_rfl) (by simp) ?_
              refine AllReadyH.cons (o := ({ dst := some 42, op := _, type := _, pos := _, after := _, guard := _ } : Oper)) rfl (fun K hK => ?_) AllReadyH.nil
              refine step_append_all _ (by rfl) _ _ (by rfl) w.heap.size i0 Hi.out Hz0.out Hz1.out Hz2.out (.slice aW2 k cW2) k (xs.take k) (by rfl) RW3.out (fun b => b = W2.heap.size) (.slice (some ⟨W2.heap.size, 0, none⟩) 1 1) [n] (by rfl) NW3.out (by simp only [List.length_singleton]; have := KL.out; omega) BW3.out.size ?_
              intro aX7 cX7 X7 rX7 gX7
              have BX7 := hid (BW3.out.grown gX7 BW3.out.size fun g e => (RW3.out.lt g e).1)
              have RX7 := hid rX7
              have GX7 := hid gX7
              clear rX7 gX7
              refine hK.out _ _ trivial (fun _ => ?_)
              clear hK K
              try simp only [Act.put, List.setIfInBounds_toArray, List.set_cons_zero, List.set_cons_succ]
              have UX7 := hid (HI.out.keep (BX7.out.on HR.out))
              refine wpAnyH_ready (rs := [11]) (by kernel_rfl) (by simp) ?_
              refine AllReadyH.cons (o := ({ dst := some 46, op := _, type := _, pos := _, after := _, guard := _ } : Oper)) rfl (fun K hK => ?_) AllReadyH.nil
              have RX7' : Hid (X7.ownsRow w.heap.size 3 1 (.slice aX7 (k + [n].length) cX7) (k + [n].length) ((xs.take k ++ [n]).map (Value.int .i64))) := RX7
              refine step_append_all _ (by rfl) _ _ (by rfl) w.heap.size i0 Hi.out Hz0.out Hz1.out Hz2.out (.slice aX7 (k + [n].length) cX7) (k + [n].length) (xs.take k ++ [n]) (by rfl) RX7.out B (.slice A (xs.length - k) (ca - k)) (xs.drop k) (by rfl) (by have h := ints_from UX7.out hk; rw [← HA.out] at h; exact h) (by rw [List.length_drop]; simp only [List.length_singleton]; have := KL.out; omega) BX7.out.size ?_
              intro aX8 cX8 X8 rX8 gX8
              have BX8 := hid (BX7.out.grown gX8 BX7.out.size fun g e => (RX7.out.lt g e).1)
              have RX8 := hid rX8
              have GX8 := hid gX8
              clear rX8 gX8
              refine hK.out _ _ trivial (fun _ => ?_)
              clear hK K
              try simp only [Act.put, List.setIfInBounds_toArray, List.set_cons_zero, List.set_cons_succ]
              refine wpAnyH_take (i := 12) (oi := ({ dst := some 4, op := _, type := _, pos := _, after := _, guard := _ } : Oper)) (v := (.slice aX8 (k + [n].length + (xs.drop k).length) cX8)) rfl (by kernel_rfl) (by kernel_rfl) (by kernel_rfl) (fun _ _ _ h => h) (Or.inl ⟨by rfl, ?_⟩) trivial ?_
              · intro w hSw; (try dsimp only at hSw); go_simp
              try simp only [Act.put, List.setIfInBounds_toArray, List.set_cons_zero, List.set_cons_succ]
              refine wpAnyH_done (by kernel_rfl) ?_ _
              go_wp2_with fail
              go_ret
              refine ⟨_, rfl, ?_, BX8.out⟩
              rw [HX.out]
              exact row_ints RX8.out (by rw [HPL.out]; unfold maxLen; omega) fun g h1 h2 => ⟨h1, h2⟩
            · go_simp
              refine hK.out _ _ trivial (fun _ => ?_)
              clear hK K
              try simp only [Act.put, List.setIfInBounds_toArray, List.set_cons_zero, List.set_cons_succ]
              obtain ⟨W2, hW2⟩ : ∃ W2, W2 = W1.alloc (.cells #[.int .i64 n] 3) := ⟨_, rfl⟩
              rw [← hW2]
              have ZW2 : Hid (W2.heap.size = W1.heap.size + 1) := by show _ = _; rw [hW2]; simp
              have BW2 : Hid (Below w.heap.size w W2) := by show Below _ _ _; rw [hW2]; exact BW1.out.alloc BW1.out.size _
              have NW2 : Hid (IntsAt (fun b => b = W1.heap.size) W2 (.slice (some ⟨W1.heap.size, 0, none⟩) 1 1) [n]) := by show IntsAt _ _ _ _; rw [hW2]; exact ints_one W1 n 1 (Nat.le_refl _) rfl
              have RW2 : Hid (W2.ownsRow w.heap.size 3 1 (.slice (some ⟨V.heap.size, 0, none⟩) 0 0) 0 (([] : List Int).map (Value.int .i64))) := by show World.ownsRow _ _ _ _ _ _ _; rw [hW2]; exact RW1.out.alloc _
              clear hW2
              refine wpAnyH_ready (rs := [4]) (by kernel_rfl) (by simp) ?_
              refine AllReadyH.cons (o := ({ dst := some 39, op := _, type := _, pos := _, after := _, guard := _ } : Oper)) rfl (fun K hK => ?_) AllReadyH.nil
              have UW2 := hid (HI.out.keep (BW2.out.on HR.out))
              refine step_append_all _ (by rfl) _ _ (by rfl) w.heap.size i0 Hi.out Hz0.out Hz1.out Hz2.out (.slice (some ⟨V.heap.size, 0, none⟩) 0 0) 0 [] (by rfl) RW2.out B (.slice (some ⟨ba, oa, none⟩) k ca) (xs.take k) (by rfl) (ints_take UW2.out hk ca (by omega)) (by have := KL.out; omega) BW2.out.size ?_
              intro aW3 cW3 W3 rW3 gW3
              have BW3 := hid (BW2.out.grown gW3 BW2.out.size fun g e => (RW2.out.lt g e).1)
              have RW3 := hid rW3
              have GW3 := hid gW3
              clear rW3 gW3
              refine hK.out _ _ trivial (fun _ => ?_)
              clear hK K
              try simp only [Act.put, List.setIfInBounds_toArray, List.set_cons_zero, List.set_cons_succ]
              have NW3 := hid (NW2.out.keep fun b hb => GW3.out.block b (by have := ZW2.out; omega) (by rw [hb]; simp [Value.ownBlock]; have := ZW1.out; omega))
              rw [Nat.zero_add, List.nil_append] at RW3
              try rw [Nat.zero_add]
              refine wpAnyH_ready (rs := [7]) (by kernel_rfl) (by simp) ?_
              refine AllReadyH.cons (o := ({ dst := some 42, op := _, type := _, pos := _, after := _, guard := _ } : Oper)) rfl (fun K hK => ?_) AllReadyH.nil
              refine step_append_all _ (by rfl) _ _ (by rfl) w.heap.size i0 Hi.out Hz0.out Hz1.out Hz2.out (.slice aW3 (xs.take k).length cW3) (xs.take k).length (xs.take k) (by rfl) RW3.out (fun b => b = W1.heap.size) (.slice (some ⟨W1.heap.size, 0, none⟩) 1 1) [n] (by rfl) NW3.out (by simp only [List.length_singleton]; have := KL.out; omega) BW3.out.size ?_
              intro aX7 cX7 X7 rX7 gX7
              have BX7 := hid (BW3.out.grown gX7 BW3.out.size fun g e => (RW3.out.lt g e).1)
              have RX7 := hid rX7
              have GX7 := hid gX7
              clear rX7 gX7
              refine hK.out _ _ trivial (fun _ => ?_)
              clear hK K
              try simp only [Act.put, List.setIfInBounds_toArray, List.set_cons_zero, List.set_cons_succ]
              have UX7 := hid (HI.out.keep (BX7.out.on HR.out))
              refine wpAnyH_ready (rs := [11]) (by kernel_rfl) (by simp) ?_
              refine AllReadyH.cons (o := ({ dst := some 46, op := _, type := _, pos := _, after := _, guard := _ } : Oper)) rfl (fun K hK => ?_) AllReadyH.nil
              have RX7' : Hid (X7.ownsRow w.heap.size 3 1 (.slice aX7 ((xs.take k).length + [n].length) cX7) ((xs.take k).length + [n].length) ((xs.take k ++ [n]).map (Value.int .i64))) := RX7
              refine step_append_all _ (by rfl) _ _ (by rfl) w.heap.size i0 Hi.out Hz0.out Hz1.out Hz2.out (.slice aX7 ((xs.take k).length + [n].length) cX7) ((xs.take k).length + [n].length) (xs.take k ++ [n]) (by rfl) RX7.out B (.slice A (xs.length - k) (ca - k)) (xs.drop k) (by rfl) (by have h := ints_from UX7.out hk; rw [← HA.out] at h; exact h) (by rw [List.length_drop]; simp only [List.length_singleton]; have := KL.out; omega) BX7.out.size ?_
              intro aX8 cX8 X8 rX8 gX8
              have BX8 := hid (BX7.out.grown gX8 BX7.out.size fun g e => (RX7.out.lt g e).1)
              have RX8 := hid rX8
              have GX8 := hid gX8
              clear rX8 gX8
              refine hK.out _ _ trivial (fun _ => ?_)
              clear hK K
              try simp only [Act.put, List.setIfInBounds_toArray, List.set_cons_zero, List.set_cons_succ]
              refine wpAnyH_take (i := 12) (oi := ({ dst := some 4, op := _, type := _, pos := _, after := _, guard := _ } : Oper)) (v := (.slice aX8 ((xs.take k).length + [n].length + (xs.drop k).length) cX8)) rfl (by kernel_rfl) (by kernel_rfl) (by kernel_rfl) (fun _ _ _ h => h) (Or.inl ⟨by rfl, ?_⟩) trivial ?_
              · intro w hSw; (try dsimp only at hSw); go_simp
              try simp only [Act.put, List.setIfInBounds_toArray, List.set_cons_zero, List.set_cons_succ]
              refine wpAnyH_done (by kernel_rfl) ?_ _
              go_wp2_with fail
              go_ret
              refine ⟨_, rfl, ?_, BX8.out⟩
              rw [HX.out]
              exact row_ints RX8.out (by rw [HPL.out]; unfold maxLen; omega) fun g h1 h2 => ⟨h1, h2⟩
          · go_simp
            refine hK.out _ _ trivial (fun _ => ?_)
            clear hK K
            try simp only [Act.put, List.setIfInBounds_toArray, List.set_cons_zero, List.set_cons_succ]
            obtain ⟨W1, hW1⟩ : ∃ W1, W1 = V.alloc (.cells #[.int .i64 n] 3) := ⟨_, rfl⟩
            rw [← hW1]
            have ZW1 : Hid (W1.heap.size = V.heap.size + 1) := by show _ = _; rw [hW1]; simp
            have BW1 : Hid (Below w.heap.size w W1) := by show Below _ _ _; rw [hW1]; exact BV.out.alloc BV.out.size _
            have NW1 : Hid (IntsAt (fun b => b = V.heap.size) W1 (.slice (some ⟨V.heap.size, 0, none⟩) 1 1) [n]) := by show IntsAt _ _ _ _; rw [hW1]; exact ints_one V n 1 (Nat.le_refl _) rfl
            clear hW1
            refine wpAnyH_ready (rs := [0]) (by kernel_rfl) (by simp) ?_
            refine AllReadyH.cons (o := ({ dst := some 35, op := _, type := _, pos := _, after := _, guard := _ } : Oper)) rfl (fun K hK => ?_) AllReadyH.nil
            go_simp
            refine hK.out _ _ trivial (fun _ => ?_)
            clear hK K
            try simp only [Act.put, List.setIfInBounds_toArray, List.set_cons_zero, List.set_cons_succ]
            obtain ⟨W2, hW2⟩ : ∃ W2, W2 = W1.alloc (.cells #[] 3) := ⟨_, rfl⟩
            rw [← hW2]
            have ZW2 : Hid (W2.heap.size = W1.heap.size + 1) := by show _ = _; rw [hW2]; simp
            have BW2 : Hid (Below w.heap.size w W2) := by show Below _ _ _; rw [hW2]; exact BW1.out.alloc BW1.out.size _
            have RW2 : Hid (W2.ownsRow w.heap.size 3 1 (.slice (some ⟨W1.heap.size, 0, none⟩) 0 0) 0 (([] : List Int).map (Value.int .i64))) := by show World.ownsRow _ _ _ _ _ _ _; rw [hW2]; exact World.ownsRow_made W1 #[] 0 BW1.out.size (Nat.zero_le _) (by simp)
            have NW2 : Hid (IntsAt (fun b => b = V.heap.size) W2 (.slice (some ⟨V.heap.size, 0, none⟩) 1 1) [n]) := by show IntsAt _ _ _ _; rw [hW2]; exact NW1.out.keep ((SameOn.refl _ _).alloc (fun b hb => by have := ZW1.out; omega) _)
            clear hW2
            refine wpAnyH_ready (rs := [4]) (by kernel_rfl) (by simp) ?_
            refine AllReadyH.cons (o := ({ dst := some 39, op := _, type := _, pos := _, after := _, guard := _ } : Oper)) rfl (fun K hK => ?_) AllReadyH.nil
            have UW2 := hid (HI.out.keep (BW2.out.on HR.out))
            refine step_append_all _ (by rfl) _ _ (by rfl) w.heap.size i0 Hi.out Hz0.out Hz1.out Hz2.out (.slice (some ⟨W1.heap.size, 0, none⟩) 0 0) 0 [] (by rfl) RW2.out B (.slice (some ⟨ba, oa, none⟩) k ca) (xs.take k) (by rfl) (ints_take UW2.out hk ca (by omega)) (by have := KL.out; omega) BW2.out.size ?_
            intro aW3 cW3 W3 rW3 gW3
            have BW3 := hid (BW2.out.grown gW3 BW2.out.size fun g e => (RW2.out.lt g e).1)
            have RW3 := hid rW3
            have GW3 := hid gW3
            clear rW3 gW3
            refine hK.out _ _ trivial (fun _ => ?_)
            clear hK K
            try simp only [Act.put, List.setIfInBounds_toArray, List.set_cons_zero, List.set_cons_succ]
            have NW3 := hid (NW2.out.keep fun b hb => GW3.out.block b (by have := ZW2.out; have := ZW1.out; omega) (by rw [hb]; simp [Value.ownBlock]; have := ZW1.out; omega))
            rw [Nat.zero_add, List.nil_append] at RW3
            try rw [Nat.zero_add]
            refine wpAnyH_ready (rs := [7]) (by kernel_rfl) (by simp) ?_
            refine AllReadyH.cons (o := ({ dst := some 42, op := _, type := _, pos := _, after := _, guard := _ } : Oper)) rfl (fun K hK => ?_) AllReadyH.nil
            refine step_append_all _ (by rfl) _ _ (by rfl) w.heap.size i0 Hi.out Hz0.out Hz1.out Hz2.out (.slice aW3 (xs.take k).length cW3) (xs.take k).length (xs.take k) (by rfl) RW3.out (fun b => b = V.heap.size) (.slice (some ⟨V.heap.size, 0, none⟩) 1 1) [n] (by rfl) NW3.out (by simp only [List.length_singleton]; have := KL.out; omega) BW3.out.size ?_
            intro aX7 cX7 X7 rX7 gX7
            have BX7 := hid (BW3.out.grown gX7 BW3.out.size fun g e => (RW3.out.lt g e).1)
            have RX7 := hid rX7
            have GX7 := hid gX7
            clear rX7 gX7
            refine hK.out _ _ trivial (fun _ => ?_)
            clear hK K
            try simp only [Act.put, List.setIfInBounds_toArray, List.set_cons_zero, List.set_cons_succ]
            have UX7 := hid (HI.out.keep (BX7.out.on HR.out))
            refine wpAnyH_ready (rs := [11]) (by kernel_rfl) (by simp) ?_
            refine AllReadyH.cons (o := ({ dst := some 46, op := _, type := _, pos := _, after := _, guard := _ } : Oper)) rfl (fun K hK => ?_) AllReadyH.nil
            have RX7' : Hid (X7.ownsRow w.heap.size 3 1 (.slice aX7 ((xs.take k).length + [n].length) cX7) ((xs.take k).length + [n].length) ((xs.take k ++ [n]).map (Value.int .i64))) := RX7
            refine step_append_all _ (by rfl) _ _ (by rfl) w.heap.size i0 Hi.out Hz0.out Hz1.out Hz2.out (.slice aX7 ((xs.take k).length + [n].length) cX7) ((xs.take k).length + [n].length) (xs.take k ++ [n]) (by rfl) RX7.out B (.slice A (xs.length - k) (ca - k)) (xs.drop k) (by rfl) (by have h := ints_from UX7.out hk; rw [← HA.out] at h; exact h) (by rw [List.length_drop]; simp only [List.length_singleton]; have := KL.out; omega) BX7.out.size ?_
            intro aX8 cX8 X8 rX8 gX8
            have BX8 := hid (BX7.out.grown gX8 BX7.out.size fun g e => (RX7.out.lt g e).1)
            have RX8 := hid rX8
            have GX8 := hid gX8
            clear rX8 gX8
            refine hK.out _ _ trivial (fun _ => ?_)
            clear hK K
            try simp only [Act.put, List.setIfInBounds_toArray, List.set_cons_zero, List.set_cons_succ]
            refine wpAnyH_take (i := 12) (oi := ({ dst := some 4, op := _, type := _, pos := _, after := _, guard := _ } : Oper)) (v := (.slice aX8 ((xs.take k).length + [n].length + (xs.drop k).length) cX8)) rfl (by kernel_rfl) (by kernel_rfl) (by kernel_rfl) (fun _ _ _ h => h) (Or.inl ⟨by rfl, ?_⟩) trivial ?_
            · intro w hSw; (try dsimp only at hSw); go_simp
            try simp only [Act.put, List.setIfInBounds_toArray, List.set_cons_zero, List.set_cons_succ]
            refine wpAnyH_done (by kernel_rfl) ?_ _
            go_wp2_with fail
            go_ret
            refine ⟨_, rfl, ?_, BX8.out⟩
            rw [HX.out]
            exact row_ints RX8.out (by rw [HPL.out]; unfold maxLen; omega) fun g h1 h2 => ⟨h1, h2⟩
    · have hcut := hid (cut_eq hk HJ.out fun h => absurd h hlt)
      have hkl : k = xs.length := by omega
      have hcn : xs.contains n = false := by
        cases hcn : xs.contains n with
        | false => rfl
        | true =>
          have hxk := cut_has HU.out hcn
          rw [← hcut.out, List.getElem?_eq_none (by omega)] at hxk
          cases hxk
      have HX : Hid (putB n xs = xs.take k ++ [n] ++ xs.drop k) := by show _ = _; unfold putB; rw [if_neg (by rw [hcn]; simp), ← hcut.out]
      clear hkl
      go_wp2_with fail
      refine wp_region_held_drew (S := fun _ => True) rfl trivial (fun _ => ?_)
      obtain ⟨V, hV⟩ : ∃ V, V = (w.drewN mm).drew := ⟨_, rfl⟩
      have BV : Hid (Below w.heap.size w V) := by
        show Below _ _ _
        rw [hV]; exact (belowJ (Below.refl _ _) mm).drew
      rw [← hV]
      clear hV
      refine wpAnyH_take (i := 1) (oi := ({ dst := some 36, op := _, type := _, pos := _, after := _, guard := _ } : Oper)) (v := (.slice a xs.length ca)) rfl (by kernel_rfl) (by kernel_rfl) (by kernel_rfl) (fun _ _ _ h => h) (Or.inl ⟨by rfl, ?_⟩) trivial ?_
      · intro w hSw; (try dsimp only at hSw); go_simp
      try simp only [Act.put, List.setIfInBounds_toArray, List.set_cons_zero, List.set_cons_succ]
      refine wpAnyH_take (i := 2) (oi := ({ dst := some 37, op := _, type := _, pos := _, after := _, guard := _ } : Oper)) (v := (.int .i64 k)) rfl (by kernel_rfl) (by kernel_rfl) (by kernel_rfl) (fun _ _ _ h => h) (Or.inl ⟨by rfl, ?_⟩) trivial ?_
      · intro w hSw; (try dsimp only at hSw); go_simp
      try simp only [Act.put, List.setIfInBounds_toArray, List.set_cons_zero, List.set_cons_succ]
      refine wpAnyH_take (i := 3) (oi := ({ dst := some 38, op := _, type := _, pos := _, after := _, guard := _ } : Oper)) (v := (.slice a k ca)) rfl (by kernel_rfl) (by kernel_rfl) (by kernel_rfl) (fun _ _ _ h => h) (Or.inl ⟨by rfl, ?_⟩) trivial ?_
      · intro w hSw; (try dsimp only at hSw); exact exec_slice (x := .tmp 36) (lo := none) (hi := some (.tmp 37)) rfl w rfl rfl rfl (E1.out w)
      try simp only [Act.put, List.setIfInBounds_toArray, List.set_cons_zero, List.set_cons_succ]
      refine wpAnyH_take (i := 5) (oi := ({ dst := some 40, op := _, type := _, pos := _, after := _, guard := _ } : Oper)) (v := (.int .i64 n)) rfl (by kernel_rfl) (by kernel_rfl) (by kernel_rfl) (fun _ _ _ h => h) (Or.inl ⟨by rfl, ?_⟩) trivial ?_
      · intro w hSw; (try dsimp only at hSw); go_simp
      try simp only [Act.put, List.setIfInBounds_toArray, List.set_cons_zero, List.set_cons_succ]
      refine wpAnyH_take (i := 8) (oi := ({ dst := some 43, op := _, type := _, pos := _, after := _, guard := _ } : Oper)) (v := (.slice a xs.length ca)) rfl (by kernel_rfl) (by kernel_rfl) (by kernel_rfl) (fun _ _ _ h => h) (Or.inl ⟨by rfl, ?_⟩) trivial ?_
      · intro w hSw; (try dsimp only at hSw); go_simp
      try simp only [Act.put, List.setIfInBounds_toArray, List.set_cons_zero, List.set_cons_succ]
      refine wpAnyH_take (i := 9) (oi := ({ dst := some 44, op := _, type := _, pos := _, after := _, guard := _ } : Oper)) (v := (.int .i64 k)) rfl (by kernel_rfl) (by kernel_rfl) (by kernel_rfl) (fun _ _ _ h => h) (Or.inl ⟨by rfl, ?_⟩) trivial ?_
      · intro w hSw; (try dsimp only at hSw); go_simp
      try simp only [Act.put, List.setIfInBounds_toArray, List.set_cons_zero, List.set_cons_succ]
      refine wpAnyH_take (i := 10) (oi := ({ dst := some 45, op := _, type := _, pos := _, after := _, guard := _ } : Oper)) (v := (.slice A (xs.length - k) (ca - k))) rfl (by kernel_rfl) (by kernel_rfl) (by kernel_rfl) (fun _ _ _ h => h) (Or.inl ⟨by rfl, ?_⟩) trivial ?_
      · intro w hSw; (try dsimp only at hSw); exact exec_slice (x := .tmp 43) (lo := some (.tmp 44)) (hi := none) rfl w rfl rfl rfl (E2.out w)
      try simp only [Act.put, List.setIfInBounds_toArray, List.set_cons_zero, List.set_cons_succ]
      refine wpAnyH_ready (rs := [0, 6]) (by kernel_rfl) (by simp) ?_
      refine AllReadyH.cons (o := ({ dst := some 35, op := _, type := _, pos := _, after := _, guard := _ } : Oper)) rfl (fun K hK => ?_) (AllReadyH.cons (o := ({ dst := some 41, op := _, type := _, pos := _, after := _, guard := _ } : Oper)) rfl (fun K hK => ?_) AllReadyH.nil)
      · go_simp
        refine hK.out _ _ trivial (fun _ => ?_)
        clear hK K
        try simp only [Act.put, List.setIfInBounds_toArray, List.set_cons_zero, List.set_cons_succ]
        obtain ⟨W1, hW1⟩ : ∃ W1, W1 = V.alloc (.cells #[] 3) := ⟨_, rfl⟩
        rw [← hW1]
        have ZW1 : Hid (W1.heap.size = V.heap.size + 1) := by show _ = _; rw [hW1]; simp
        have BW1 : Hid (Below w.heap.size w W1) := by show Below _ _ _; rw [hW1]; exact BV.out.alloc BV.out.size _
        have RW1 : Hid (W1.ownsRow w.heap.size 3 1 (.slice (some ⟨V.heap.size, 0, none⟩) 0 0) 0 (([] : List Int).map (Value.int .i64))) := by show World.ownsRow _ _ _ _ _ _ _; rw [hW1]; exact World.ownsRow_made V #[] 0 BV.out.size (Nat.zero_le _) (by simp)
        clear hW1
        refine wpAnyH_ready (rs := [4, 6]) (by kernel_rfl) (by simp) ?_
        refine AllReadyH.cons (o := ({ dst := some 39, op := _, type := _, pos := _, after := _, guard := _ } : Oper)) rfl (fun K hK => ?_) (AllReadyH.cons (o := ({ dst := some 41, op := _, type := _, pos := _, after := _, guard := _ } : Oper)) rfl (fun K hK => ?_) AllReadyH.nil)
        · have UW1 := hid (HI.out.keep (BW1.out.on HR.out))
          refine step_append_all _ (by rfl) _ _ (by rfl) w.heap.size i0 Hi.out Hz0.out Hz1.out Hz2.out (.slice (some ⟨V.heap.size, 0, none⟩) 0 0) 0 [] (by rfl) RW1.out B (.slice a k ca) (xs.take k) (by rfl) (ints_take UW1.out hk ca (by omega)) (by have := KL.out; omega) BW1.out.size ?_
          intro aW2 cW2 W2 rW2 gW2
          have BW2 := hid (BW1.out.grown gW2 BW1.out.size fun g e => (RW1.out.lt g e).1)
          have RW2 := hid rW2
          have GW2 := hid gW2
          clear rW2 gW2
          refine hK.out _ _ trivial (fun _ => ?_)
          clear hK K
          try simp only [Act.put, List.setIfInBounds_toArray, List.set_cons_zero, List.set_cons_succ]
          refine wpAnyH_ready (rs := [6]) (by kernel_rfl) (by simp) ?_
          refine AllReadyH.cons (o := ({ dst := some 41, op := _, type := _, pos := _, after := _, guard := _ } : Oper)) rfl (fun K hK => ?_) AllReadyH.nil
          go_simp
          refine hK.out _ _ trivial (fun _ => ?_)
          clear hK K
          try simp only [Act.put, List.setIfInBounds_toArray, List.set_cons_zero, List.set_cons_succ]
          obtain ⟨W3, hW3⟩ : ∃ W3, W3 = W2.alloc (.cells #[.int .i64 n] 3) := ⟨_, rfl⟩
          rw [← hW3]
          have ZW3 : Hid (W3.heap.size = W2.heap.size + 1) := by show _ = _; rw [hW3]; simp
          have BW3 : Hid (Below w.heap.size w W3) := by show Below _ _ _; rw [hW3]; exact BW2.out.alloc BW2.out.size _
          have NW3 : Hid (IntsAt (fun b => b = W2.heap.size) W3 (.slice (some ⟨W2.heap.size, 0, none⟩) 1 1) [n]) := by show IntsAt _ _ _ _; rw [hW3]; exact ints_one W2 n 1 (Nat.le_refl _) rfl
          have RW3 : Hid (W3.ownsRow w.heap.size 3 1 (.slice aW2 (0 + (xs.take k).length) cW2) (0 + (xs.take k).length) (([] ++ xs.take k).map (Value.int .i64))) := by show World.ownsRow _ _ _ _ _ _ _; rw [hW3]; exact RW2.out.alloc _
          rw [Nat.zero_add, List.nil_append, KL.out] at RW3
          clear hW3
          refine wpAnyH_ready (rs := [7]) (by kernel_rfl) (by simp) ?_
          refine AllReadyH.cons (o := ({ dst := some 42, op := _, type := _, pos := _, after := _, guard := _ } : Oper)) rfl (fun K hK => ?_) AllReadyH.nil
          refine step_append_all _ (by rfl) _ _ (by rfl) w.heap.size i0 Hi.out Hz0.out Hz1.out Hz2.out (.slice aW2 k cW2) k (xs.take k) (by rfl) RW3.out (fun b => b = W2.heap.size) (.slice (some ⟨W2.heap.size, 0, none⟩) 1 1) [n] (by rfl) NW3.out (by simp only [List.length_singleton]; have := KL.out; omega) BW3.out.size ?_
          intro aX7 cX7 X7 rX7 gX7
          have BX7 := hid (BW3.out.grown gX7 BW3.out.size fun g e => (RW3.out.lt g e).1)
          have RX7 := hid rX7
          have GX7 := hid gX7
          clear rX7 gX7
          refine hK.out _ _ trivial (fun _ => ?_)
          clear hK K
          try simp only [Act.put, List.setIfInBounds_toArray, List.set_cons_zero, List.set_cons_succ]
          have UX7 := hid (HI.out.keep (BX7.out.on HR.out))
          refine wpAnyH_ready (rs := [11]) (by kernel_rfl) (by simp) ?_
          refine AllReadyH.cons (o := ({ dst := some 46, op := _, type := _, pos := _, after := _, guard := _ } : Oper)) rfl (fun K hK => ?_) AllReadyH.nil
          have RX7' : Hid (X7.ownsRow w.heap.size 3 1 (.slice aX7 (k + [n].length) cX7) (k + [n].length) ((xs.take k ++ [n]).map (Value.int .i64))) := RX7
          refine step_append_all _ (by rfl) _ _ (by rfl) w.heap.size i0 Hi.out Hz0.out Hz1.out Hz2.out (.slice aX7 (k + [n].length) cX7) (k + [n].length) (xs.take k ++ [n]) (by rfl) RX7.out B (.slice A (xs.length - k) (ca - k)) (xs.drop k) (by rfl) (by have h := ints_from UX7.out hk; rw [← HA.out] at h; exact h) (by rw [List.length_drop]; simp only [List.length_singleton]; have := KL.out; omega) BX7.out.size ?_
          intro aX8 cX8 X8 rX8 gX8
          have BX8 := hid (BX7.out.grown gX8 BX7.out.size fun g e => (RX7.out.lt g e).1)
          have RX8 := hid rX8
          have GX8 := hid gX8
          clear rX8 gX8
          refine hK.out _ _ trivial (fun _ => ?_)
          clear hK K
          try simp only [Act.put, List.setIfInBounds_toArray, List.set_cons_zero, List.set_cons_succ]
          refine wpAnyH_take (i := 12) (oi := ({ dst := some 4, op := _, type := _, pos := _, after := _, guard := _ } : Oper)) (v := (.slice aX8 (k + [n].length + (xs.drop k).length) cX8)) rfl (by kernel_rfl) (by kernel_rfl) (by kernel_rfl) (fun _ _ _ h => h) (Or.inl ⟨by rfl, ?_⟩) trivial ?_
          · intro w hSw; (try dsimp only at hSw); go_simp
          try simp only [Act.put, List.setIfInBounds_toArray, List.set_cons_zero, List.set_cons_succ]
          refine wpAnyH_done (by kernel_rfl) ?_ _
          go_wp2_with fail
          go_ret
          refine ⟨_, rfl, ?_, BX8.out⟩
          rw [HX.out]
          exact row_ints RX8.out (by rw [HPL.out]; unfold maxLen; omega) fun g h1 h2 => ⟨h1, h2⟩
        · go_simp
          refine hK.out _ _ trivial (fun _ => ?_)
          clear hK K
          try simp only [Act.put, List.setIfInBounds_toArray, List.set_cons_zero, List.set_cons_succ]
          obtain ⟨W2, hW2⟩ : ∃ W2, W2 = W1.alloc (.cells #[.int .i64 n] 3) := ⟨_, rfl⟩
          rw [← hW2]
          have ZW2 : Hid (W2.heap.size = W1.heap.size + 1) := by show _ = _; rw [hW2]; simp
          have BW2 : Hid (Below w.heap.size w W2) := by show Below _ _ _; rw [hW2]; exact BW1.out.alloc BW1.out.size _
          have NW2 : Hid (IntsAt (fun b => b = W1.heap.size) W2 (.slice (some ⟨W1.heap.size, 0, none⟩) 1 1) [n]) := by show IntsAt _ _ _ _; rw [hW2]; exact ints_one W1 n 1 (Nat.le_refl _) rfl
          have RW2 : Hid (W2.ownsRow w.heap.size 3 1 (.slice (some ⟨V.heap.size, 0, none⟩) 0 0) 0 (([] : List Int).map (Value.int .i64))) := by show World.ownsRow _ _ _ _ _ _ _; rw [hW2]; exact RW1.out.alloc _
          clear hW2
          refine wpAnyH_ready (rs := [4]) (by kernel_rfl) (by simp) ?_
          refine AllReadyH.cons (o := ({ dst := some 39, op := _, type := _, pos := _, after := _, guard := _ } : Oper)) rfl (fun K hK => ?_) AllReadyH.nil
          have UW2 := hid (HI.out.keep (BW2.out.on HR.out))
          refine step_append_all _ (by rfl) _ _ (by rfl) w.heap.size i0 Hi.out Hz0.out Hz1.out Hz2.out (.slice (some ⟨V.heap.size, 0, none⟩) 0 0) 0 [] (by rfl) RW2.out B (.slice a k ca) (xs.take k) (by rfl) (ints_take UW2.out hk ca (by omega)) (by have := KL.out; omega) BW2.out.size ?_
          intro aW3 cW3 W3 rW3 gW3
          have BW3 := hid (BW2.out.grown gW3 BW2.out.size fun g e => (RW2.out.lt g e).1)
          have RW3 := hid rW3
          have GW3 := hid gW3
          clear rW3 gW3
          refine hK.out _ _ trivial (fun _ => ?_)
          clear hK K
          try simp only [Act.put, List.setIfInBounds_toArray, List.set_cons_zero, List.set_cons_succ]
          have NW3 := hid (NW2.out.keep fun b hb => GW3.out.block b (by have := ZW2.out; omega) (by rw [hb]; simp [Value.ownBlock]; have := ZW1.out; omega))
          rw [Nat.zero_add, List.nil_append] at RW3
          try rw [Nat.zero_add]
          refine wpAnyH_ready (rs := [7]) (by kernel_rfl) (by simp) ?_
          refine AllReadyH.cons (o := ({ dst := some 42, op := _, type := _, pos := _, after := _, guard := _ } : Oper)) rfl (fun K hK => ?_) AllReadyH.nil
          refine step_append_all _ (by rfl) _ _ (by rfl) w.heap.size i0 Hi.out Hz0.out Hz1.out Hz2.out (.slice aW3 (xs.take k).length cW3) (xs.take k).length (xs.take k) (by rfl) RW3.out (fun b => b = W1.heap.size) (.slice (some ⟨W1.heap.size, 0, none⟩) 1 1) [n] (by rfl) NW3.out (by simp only [List.length_singleton]; have := KL.out; omega) BW3.out.size ?_
          intro aX7 cX7 X7 rX7 gX7
          have BX7 := hid (BW3.out.grown gX7 BW3.out.size fun g e => (RW3.out.lt g e).1)
          have RX7 := hid rX7
          have GX7 := hid gX7
          clear rX7 gX7
          refine hK.out _ _ trivial (fun _ => ?_)
          clear hK K
          try simp only [Act.put, List.setIfInBounds_toArray, List.set_cons_zero, List.set_cons_succ]
          have UX7 := hid (HI.out.keep (BX7.out.on HR.out))
          refine wpAnyH_ready (rs := [11]) (by kernel_rfl) (by simp) ?_
          refine AllReadyH.cons (o := ({ dst := some 46, op := _, type := _, pos := _, after := _, guard := _ } : Oper)) rfl (fun K hK => ?_) AllReadyH.nil
          have RX7' : Hid (X7.ownsRow w.heap.size 3 1 (.slice aX7 ((xs.take k).length + [n].length) cX7) ((xs.take k).length + [n].length) ((xs.take k ++ [n]).map (Value.int .i64))) := RX7
          refine step_append_all _ (by rfl) _ _ (by rfl) w.heap.size i0 Hi.out Hz0.out Hz1.out Hz2.out (.slice aX7 ((xs.take k).length + [n].length) cX7) ((xs.take k).length + [n].length) (xs.take k ++ [n]) (by rfl) RX7.out B (.slice A (xs.length - k) (ca - k)) (xs.drop k) (by rfl) (by have h := ints_from UX7.out hk; rw [← HA.out] at h; exact h) (by rw [List.length_drop]; simp only [List.length_singleton]; have := KL.out; omega) BX7.out.size ?_
          intro aX8 cX8 X8 rX8 gX8
          have BX8 := hid (BX7.out.grown gX8 BX7.out.size fun g e => (RX7.out.lt g e).1)
          have RX8 := hid rX8
          have GX8 := hid gX8
          clear rX8 gX8
          refine hK.out _ _ trivial (fun _ => ?_)
          clear hK K
          try simp only [Act.put, List.setIfInBounds_toArray, List.set_cons_zero, List.set_cons_succ]
          refine wpAnyH_take (i := 12) (oi := ({ dst := some 4, op := _, type := _, pos := _, after := _, guard := _ } : Oper)) (v := (.slice aX8 ((xs.take k).length + [n].length + (xs.drop k).length) cX8)) rfl (by kernel_rfl) (by kernel_rfl) (by kernel_rfl) (fun _ _ _ h => h) (Or.inl ⟨by rfl, ?_⟩) trivial ?_
          · intro w hSw; (try dsimp only at hSw); go_simp
          try simp only [Act.put, List.setIfInBounds_toArray, List.set_cons_zero, List.set_cons_succ]
          refine wpAnyH_done (by kernel_rfl) ?_ _
          go_wp2_with fail
          go_ret
          refine ⟨_, rfl, ?_, BX8.out⟩
          rw [HX.out]
          exact row_ints RX8.out (by rw [HPL.out]; unfold maxLen; omega) fun g h1 h2 => ⟨h1, h2⟩
      · go_simp
        refine hK.out _ _ trivial (fun _ => ?_)
        clear hK K
        try simp only [Act.put, List.setIfInBounds_toArray, List.set_cons_zero, List.set_cons_succ]
        obtain ⟨W1, hW1⟩ : ∃ W1, W1 = V.alloc (.cells #[.int .i64 n] 3) := ⟨_, rfl⟩
        rw [← hW1]
        have ZW1 : Hid (W1.heap.size = V.heap.size + 1) := by show _ = _; rw [hW1]; simp
        have BW1 : Hid (Below w.heap.size w W1) := by show Below _ _ _; rw [hW1]; exact BV.out.alloc BV.out.size _
        have NW1 : Hid (IntsAt (fun b => b = V.heap.size) W1 (.slice (some ⟨V.heap.size, 0, none⟩) 1 1) [n]) := by show IntsAt _ _ _ _; rw [hW1]; exact ints_one V n 1 (Nat.le_refl _) rfl
        clear hW1
        refine wpAnyH_ready (rs := [0]) (by kernel_rfl) (by simp) ?_
        refine AllReadyH.cons (o := ({ dst := some 35, op := _, type := _, pos := _, after := _, guard := _ } : Oper)) rfl (fun K hK => ?_) AllReadyH.nil
        go_simp
        refine hK.out _ _ trivial (fun _ => ?_)
        clear hK K
        try simp only [Act.put, List.setIfInBounds_toArray, List.set_cons_zero, List.set_cons_succ]
        obtain ⟨W2, hW2⟩ : ∃ W2, W2 = W1.alloc (.cells #[] 3) := ⟨_, rfl⟩
        rw [← hW2]
        have ZW2 : Hid (W2.heap.size = W1.heap.size + 1) := by show _ = _; rw [hW2]; simp
        have BW2 : Hid (Below w.heap.size w W2) := by show Below _ _ _; rw [hW2]; exact BW1.out.alloc BW1.out.size _
        have RW2 : Hid (W2.ownsRow w.heap.size 3 1 (.slice (some ⟨W1.heap.size, 0, none⟩) 0 0) 0 (([] : List Int).map (Value.int .i64))) := by show World.ownsRow _ _ _ _ _ _ _; rw [hW2]; exact World.ownsRow_made W1 #[] 0 BW1.out.size (Nat.zero_le _) (by simp)
        have NW2 : Hid (IntsAt (fun b => b = V.heap.size) W2 (.slice (some ⟨V.heap.size, 0, none⟩) 1 1) [n]) := by show IntsAt _ _ _ _; rw [hW2]; exact NW1.out.keep ((SameOn.refl _ _).alloc (fun b hb => by have := ZW1.out; omega) _)
        clear hW2
        refine wpAnyH_ready (rs := [4]) (by kernel_rfl) (by simp) ?_
        refine AllReadyH.cons (o := ({ dst := some 39, op := _, type := _, pos := _, after := _, guard := _ } : Oper)) rfl (fun K hK => ?_) AllReadyH.nil
        have UW2 := hid (HI.out.keep (BW2.out.on HR.out))
        refine step_append_all _ (by rfl) _ _ (by rfl) w.heap.size i0 Hi.out Hz0.out Hz1.out Hz2.out (.slice (some ⟨W1.heap.size, 0, none⟩) 0 0) 0 [] (by rfl) RW2.out B (.slice a k ca) (xs.take k) (by rfl) (ints_take UW2.out hk ca (by omega)) (by have := KL.out; omega) BW2.out.size ?_
        intro aW3 cW3 W3 rW3 gW3
        have BW3 := hid (BW2.out.grown gW3 BW2.out.size fun g e => (RW2.out.lt g e).1)
        have RW3 := hid rW3
        have GW3 := hid gW3
        clear rW3 gW3
        refine hK.out _ _ trivial (fun _ => ?_)
        clear hK K
        try simp only [Act.put, List.setIfInBounds_toArray, List.set_cons_zero, List.set_cons_succ]
        have NW3 := hid (NW2.out.keep fun b hb => GW3.out.block b (by have := ZW2.out; have := ZW1.out; omega) (by rw [hb]; simp [Value.ownBlock]; have := ZW1.out; omega))
        rw [Nat.zero_add, List.nil_append] at RW3
        try rw [Nat.zero_add]
        refine wpAnyH_ready (rs := [7]) (by kernel_rfl) (by simp) ?_
        refine AllReadyH.cons (o := ({ dst := some 42, op := _, type := _, pos := _, after := _, guard := _ } : Oper)) rfl (fun K hK => ?_) AllReadyH.nil
        refine step_append_all _ (by rfl) _ _ (by rfl) w.heap.size i0 Hi.out Hz0.out Hz1.out Hz2.out (.slice aW3 (xs.take k).length cW3) (xs.take k).length (xs.take k) (by rfl) RW3.out (fun b => b = V.heap.size) (.slice (some ⟨V.heap.size, 0, none⟩) 1 1) [n] (by rfl) NW3.out (by simp only [List.length_singleton]; have := KL.out; omega) BW3.out.size ?_
        intro aX7 cX7 X7 rX7 gX7
        have BX7 := hid (BW3.out.grown gX7 BW3.out.size fun g e => (RW3.out.lt g e).1)
        have RX7 := hid rX7
        have GX7 := hid gX7
        clear rX7 gX7
        refine hK.out _ _ trivial (fun _ => ?_)
        clear hK K
        try simp only [Act.put, List.setIfInBounds_toArray, List.set_cons_zero, List.set_cons_succ]
        have UX7 := hid (HI.out.keep (BX7.out.on HR.out))
        refine wpAnyH_ready (rs := [11]) (by kernel_rfl) (by simp) ?_
        refine AllReadyH.cons (o := ({ dst := some 46, op := _, type := _, pos := _, after := _, guard := _ } : Oper)) rfl (fun K hK => ?_) AllReadyH.nil
        have RX7' : Hid (X7.ownsRow w.heap.size 3 1 (.slice aX7 ((xs.take k).length + [n].length) cX7) ((xs.take k).length + [n].length) ((xs.take k ++ [n]).map (Value.int .i64))) := RX7
        refine step_append_all _ (by rfl) _ _ (by rfl) w.heap.size i0 Hi.out Hz0.out Hz1.out Hz2.out (.slice aX7 ((xs.take k).length + [n].length) cX7) ((xs.take k).length + [n].length) (xs.take k ++ [n]) (by rfl) RX7.out B (.slice A (xs.length - k) (ca - k)) (xs.drop k) (by rfl) (by have h := ints_from UX7.out hk; rw [← HA.out] at h; exact h) (by rw [List.length_drop]; simp only [List.length_singleton]; have := KL.out; omega) BX7.out.size ?_
        intro aX8 cX8 X8 rX8 gX8
        have BX8 := hid (BX7.out.grown gX8 BX7.out.size fun g e => (RX7.out.lt g e).1)
        have RX8 := hid rX8
        have GX8 := hid gX8
        clear rX8 gX8
        refine hK.out _ _ trivial (fun _ => ?_)
        clear hK K
        try simp only [Act.put, List.setIfInBounds_toArray, List.set_cons_zero, List.set_cons_succ]
        refine wpAnyH_take (i := 12) (oi := ({ dst := some 4, op := _, type := _, pos := _, after := _, guard := _ } : Oper)) (v := (.slice aX8 ((xs.take k).length + [n].length + (xs.drop k).length) cX8)) rfl (by kernel_rfl) (by kernel_rfl) (by kernel_rfl) (fun _ _ _ h => h) (Or.inl ⟨by rfl, ?_⟩) trivial ?_
        · intro w hSw; (try dsimp only at hSw); go_simp
        try simp only [Act.put, List.setIfInBounds_toArray, List.set_cons_zero, List.set_cons_succ]
        refine wpAnyH_done (by kernel_rfl) ?_ _
        go_wp2_with fail
        go_ret
        refine ⟨_, rfl, ?_, BX8.out⟩
        rw [HX.out]
        exact row_ints RX8.out (by rw [HPL.out]; unfold maxLen; omega) fun g h1 h2 => ⟨h1, h2⟩

end Go.Proofs.YtjbejnibiebjgaaGreat
