/-
  Plain: a number put among ascending ones, and taken away.
  The program's sets: with and flipped make the set with one item more, or without it. Condition: the items lie in memory as IntsAt says, ascending.
  The program's sets: flipped makes the set with one item more, or without it. Condition: the items lie in memory as IntsAt says, ascending.
-/
import Derived.Test.YtjbejnibiebjgaaGreatPart3
import Derived.Test.YtjbejnibiebjgaaGreatShelf3
import Derived.Deep.RegionHeld3
namespace Go.Proofs.YtjbejnibiebjgaaGreat
open Go.RowKit Go.Siskin

abbrev Up (xs : List Int) : Prop := xs.Pairwise (· < ·)
/-- Ascending numbers and one more. -/
def putB (n : Int) (xs : List Int) : List Int := if xs.contains n then xs else xs.take (cutB n xs) ++ [n] ++ xs.drop (cutB n xs)
/-- Ascending numbers with one more, or without one that is there. -/
def flipB (n : Int) (xs : List Int) : List Int := if xs.contains n then lessB n xs else xs.take (cutB n xs) ++ [n] ++ xs.drop (cutB n xs)

theorem up_le : ∀ {xs : List Int}, Up xs → xs.Pairwise (· ≤ ·)
  | [], _ => List.Pairwise.nil
  | _ :: _, h => by
    obtain ⟨h1, h2⟩ := List.pairwise_cons.1 h
    exact List.pairwise_cons.2 ⟨fun x hx => Int.le_of_lt (h1 x hx), up_le h2⟩
theorem cut_count {n : Int} : ∀ {xs : List Int}, Up xs → xs.countP (· < n) = cutB n xs
  | [], _ => rfl
  | x :: r, h => by
    obtain ⟨h1, h2⟩ := List.pairwise_cons.1 h
    have ih := cut_count (n := n) h2
    unfold cutB at ih ⊢
    by_cases hx : x < n
    · rw [List.countP_cons_of_pos (by simpa using hx), List.takeWhile_cons_of_pos (by simpa using hx), List.length_cons, ih]
    · rw [List.countP_cons_of_neg (by simpa using hx), List.takeWhile_cons_of_neg (by simpa using hx)]
      rw [List.length_nil, List.countP_eq_zero]
      intro y hy
      have := h1 y hy
      simp; omega
theorem cut_le (n : Int) (xs : List Int) : cutB n xs ≤ xs.length := by
  unfold cutB
  exact (List.takeWhile_sublist _).length_le
/-- Where it stands if it is there. -/
theorem cut_has {n : Int} : ∀ {xs : List Int}, Up xs → xs.contains n = true → xs[cutB n xs]? = some n
  | [], _, h => by simp at h
  | x :: r, h, hc => by
    obtain ⟨h1, h2⟩ := List.pairwise_cons.1 h
    by_cases e : x = n
    · subst e
      unfold cutB
      rw [List.takeWhile_cons_of_neg (by simp)]; rfl
    · have hr : r.contains n = true := by
        simp at hc ⊢
        rcases hc with hc | hc
        · exact absurd hc.symm e
        · exact hc
      have hx : x < n := h1 n (by simpa using hr)
      have ih := cut_has (n := n) h2 hr
      unfold cutB at ih ⊢
      rw [List.takeWhile_cons_of_pos (by simpa using hx), List.length_cons, List.getElem?_cons_succ]
      exact ih
theorem cut_hasnt {n : Int} {xs : List Int} (hc : xs.contains n = false) (h : cutB n xs < xs.length) : xs[cutB n xs] ≠ n := by
  intro e
  rw [Bool.eq_false_iff] at hc
  exact hc (by simpa using e ▸ List.getElem_mem h)
/-- Without it: what is ahead and what is behind. -/
theorem less_cut {n : Int} : ∀ {xs : List Int}, Up xs → xs.contains n = true → lessB n xs = xs.take (cutB n xs) ++ xs.drop (cutB n xs + 1)
  | [], _, h => by simp at h
  | x :: r, h, hc => by
    obtain ⟨h1, h2⟩ := List.pairwise_cons.1 h
    by_cases e : x = n
    · subst e
      unfold cutB lessB
      rw [List.takeWhile_cons_of_neg (by simp), List.filter_cons_of_neg (by simp)]
      simp only [List.length_nil, List.take_zero, List.nil_append, Nat.zero_add, List.drop_succ_cons, List.drop_zero]
      rw [List.filter_eq_self]
      intro y hy
      have := h1 y hy
      simp; omega
    · have hr : r.contains n = true := by
        simp at hc ⊢
        rcases hc with hc | hc
        · exact absurd hc.symm e
        · exact hc
      have hx : x < n := h1 n (by simpa using hr)
      have ih := less_cut (n := n) h2 hr
      unfold cutB lessB at ih ⊢
      rw [List.takeWhile_cons_of_pos (by simpa using hx), List.filter_cons_of_pos (by simpa using e), List.length_cons, List.take_succ_cons, List.drop_succ_cons, ih]
      rfl
theorem put_length (n : Int) (xs : List Int) : (putB n xs).length ≤ xs.length + 1 := by
  unfold putB
  split
  · omega
  · have := cut_le n xs
    simp; omega
theorem flip_length (n : Int) (xs : List Int) : (flipB n xs).length ≤ xs.length + 1 := by
  unfold flipB
  split
  · have := less_le n xs; omega
  · have := cut_le n xs
    simp; omega

/-- Where a number goes in a set, and whether it is there: what slices.BinarySearch says. -/
theorem place_any (B : Nat → Prop) (v : Value) (xs : List Int) (x : Int) (w : World) (h : IntsAt B w v xs) (hs : Up xs) (hn : xs.length ≤ 1048576) :
    Calls Tryz.prog 44 #[v, .int .i64 x] w fun e w' => e = .returned (.tuple #[.int .i64 (cutB x xs : Nat), .bool (xs.contains x)]) ∧ ∃ q, w' = w.drewN q := by
  obtain ⟨a, cap, rfl, hl, h⟩ := h
  rcases h with h | ⟨b, o, rfl, hb, h⟩
  · subst h
    refine (Tryz.slices_BinarySearch_int_empty a cap x w).mono ?_
    rintro e w' ⟨rfl, rfl⟩
    exact ⟨rfl, 0, rfl⟩
  · refine (Tryz.slices_BinarySearch_int b o xs.length cap xs x w (Nat.le_refl _) (by omega) h (by rw [List.take_length]; exact up_le hs)).mono ?_
    rintro e w' ⟨rfl, hw⟩
    rw [List.take_length, cut_count hs]
    exact ⟨rfl, hw⟩

end Go.Proofs.YtjbejnibiebjgaaGreat

namespace Go.Proofs.YtjbejnibiebjgaaGreat
open Go.RowKit Go.Siskin

theorem Tryz.elemInt : Tryz.prog.elem 23 = 3 := by kernel_rfl
theorem Tryz.slInt : Tryz.prog.underlying 23 = some (.slice (Tryz.prog.elem 23)) := by rw [Tryz.elemInt]; exact Tryz.underlying23
theorem addr_zero (a : Addr) : a.add 0 = a := by obtain ⟨b, o, p⟩ := a; cases p <;> rfl
/-- 's[:k]' of ints. -/
theorem slice_to (a : Option Addr) (n c k : Nat) (hk : k ≤ c) (w : World) : (Instr.slice 23 (.slice a n c) none (some (.int .i64 (k : Int))) none).run Tryz.prog w = .ok (.slice a k c) w := by
  obtain ⟨i0, hi, -, -, -⟩ := info_parts Tryz.infoIntE
  rw [run_slice_h w 23 a n c Tryz.slInt .i64 (k : Int) (by omega) (by omega)]
  simp [Tryz.elemInt, sizeOf, typeInfo, hi, sliced, addr_zero]
/-- Where 's[k:]' begins. -/
def fromA (a : Option Addr) (c k : Nat) : Option Addr := if c = k then a else a.map (·.add k)
/-- 's[k:]' of ints. -/
theorem slice_from (a : Option Addr) (n c k : Nat) (hk : k ≤ n) (w : World) : (Instr.slice 23 (.slice a n c) (some (.int .i64 (k : Int))) none none).run Tryz.prog w = .ok (.slice (fromA a c k) (n - k) (c - k)) w := by
  obtain ⟨i0, hi, -, hz1, -⟩ := info_parts Tryz.infoIntE
  rw [run_slice_l w 23 a n c Tryz.slInt .i64 (k : Int) (by omega) (by omega)]
  simp [Tryz.elemInt, sizeOf, typeInfo, hi, hz1, sliced, fromA]
/-- A slicing of ints as an operation. -/
theorem exec_slice {ρ : Operand → Value} {o : Oper} {x : Operand} {lo hi : Option Operand} (ho : o.op = .slice 23 x lo hi none) (w : World) {v vx : Value} {vlo vhi : Option Value} (h1 : ρ x = vx) (h2 : lo.map ρ = vlo) (h3 : hi.map ρ = vhi)
    (h : (Instr.slice 23 vx vlo vhi none).run Tryz.prog w = .ok v w) : Sem.run Tryz.prog (execOp ρ o) w = .ok (.value v) w := by
  unfold execOp
  simp only [ho, h1, h2, h3, Option.map_none, Sem.run_bind, run_sliceAt_slice w 23 _ _ _ _ Tryz.slInt, h, Result.andThen_ok, Sem.run_pure]
theorem ints_from {B : Nat → Prop} {w : World} {a : Option Addr} {c : Nat} {xs : List Int} (h : IntsAt B w (.slice a xs.length c) xs) {k : Nat} (hk : k ≤ xs.length) : IntsAt B w (.slice (fromA a c k) (xs.length - k) (c - k)) (xs.drop k) := by
  obtain ⟨a', c', e, hl, h⟩ := h
  cases e
  by_cases hd : xs.drop k = []
  · have hlk : xs.length - k = 0 := by have := congrArg List.length hd; simpa using this
    refine ⟨_, c - k, by rw [List.length_drop], by rw [List.length_drop]; omega, Or.inl hd⟩
  · have hlk : k < xs.length := by
      rcases Nat.lt_or_ge k xs.length with h | h
      · exact h
      · exact absurd (List.drop_eq_nil_iff.2 h) hd
    rcases h with h | ⟨b, o, rfl, hb, h⟩
    · subst h; simp at hlk
    · rw [show fromA (some ⟨b, o, none⟩) c k = some ⟨b, o + k, none⟩ by unfold fromA; rw [if_neg (by omega), Option.map_some, Go.WideShapes.add_plain]]
      exact ints_drop hb hl.1 h hk (by omega)
theorem reg_lt {B : Nat → Prop} {w w' : World} (h : ∀ b, B b → b < w.heap.size) (hs : w.heap.size ≤ w'.heap.size) {b : Nat} (hb : Reg B w w' b) : b < w'.heap.size := by
  rcases hb with hb | hb
  · have := h b hb; omega
  · exact hb.2
/-- A row from block base on does not lie ahead of it. -/
theorem off_row {w : World} {base size n : Nat} {e : TypeId} {v : Value} {xs : List Value} (h : w.ownsRow base e size v n xs) {g : Nat} (hg : g < base) : v.ownBlock = none ∨ v.ownBlock ≠ some g := by
  cases hv : v.ownBlock with
  | none => exact Or.inl rfl
  | some b => exact Or.inr fun e => by cases e; have := (h.lt g hv).1; omega
/-- A block of one number, new. -/
theorem ints_one (w : World) (n : Int) (c : Nat) (hc : 1 ≤ c) {B : Nat → Prop} (hB : B w.heap.size) : IntsAt B (w.alloc (.cells #[.int .i64 n] 3)) (.slice (some ⟨w.heap.size, 0, none⟩) 1 c) [n] := by
  refine ⟨_, c, rfl, ⟨by simp [maxLen], hc⟩, Or.inr ⟨w.heap.size, 0, rfl, hB, fun i hi => ?_⟩⟩
  have h0 : i = 0 := by simpa using hi
  subst h0
  rw [(own_new w #[.int .i64 n] 3).cell]; rfl

set_option maxRecDepth 20000 in
set_option maxHeartbeats 1000000 in
theorem with_any (B : Nat → Prop) (va : Value) (xs : List Int) (n : Int) (w : World) (ha : IntsAt B w va xs) (hup : Up xs) (hB : ∀ b, B b → b < w.heap.size) (hn : xs.length ≤ 1048576) :
    Calls Tryz.prog 30 #[.agg #[va], .int .i64 n] w fun e w' => ∃ u, e = .returned (.agg #[u]) ∧ IntsAt (Reg B w w') w' u (putB n xs) ∧ Below w.heap.size w w' := by
  have HR := hid hB
  have HI := hid ha
  obtain ⟨a, ca, rfl, hla, ha⟩ := ha
  unfold maxLen at hla
  have HP := hid (place_any B (.slice a xs.length ca) xs n ((w.alloc (.cells #[.slice a xs.length ca] 60)).alloc (.cells #[.slice none 0 0] 60)) (HI.out.keep (((SameOn.refl _ _).alloc HR.out _).alloc (fun b hb => by have := HR.out b hb; simp; omega) _)) hup hn)
  clear hB ha
  cases hx : xs.contains n with
  | true =>
    have HX : Hid (putB n xs = xs) := by show _ = _; unfold putB; rw [if_pos hx]
    go_enter Tryz.func30, Tryz.ntmps30
    go_wp2_with (go_at_call 44; refine HP.out.mono ?_; rintro e w' ⟨rfl, q, hw⟩; rw [hw, hx]; clear hw w')
    refine bodyPost_ret (v := .agg #[.slice a xs.length ca]) (by simp [results, Tryz.results30, go_sem]) rfl ?_
    refine ⟨_, rfl, ?_, ?_⟩
    · rw [HX.out]
      refine (HI.out.keep ?_).mono fun b hb => Or.inl hb
      exact (SameOn.trans (((SameOn.refl _ _).alloc HR.out _).alloc (fun b hb => by have := HR.out b hb; simp; omega) _) (fun b hb => rfl)).setCell (fun h => by have := HR.out _ h; simp at this; omega) _
    · exact (belowJ (((Below.refl _ _).alloc (Nat.le_refl _) _).alloc (by simp) _) q).setCell (by simp) _
  | false =>
    have hk := cut_le n xs
    obtain ⟨k, hk2⟩ : ∃ k, k = cutB n xs := ⟨_, rfl⟩
    have HX : Hid (putB n xs = xs.take k ++ [n] ++ xs.drop k) := by show _ = _; unfold putB; rw [if_neg (by rw [hx]; simp), hk2]
    rw [← hk2] at HP hk
    clear hk2
    have hpl : (xs.take k ++ [n] ++ xs.drop k).length = xs.length + 1 := by simp; omega
    have HPL := hid hpl
    clear hpl
    have E1 := hid (slice_to a xs.length ca k (by omega))
    have E2 := hid (slice_from a xs.length ca k hk)
    obtain ⟨A, hA⟩ : ∃ A, A = fromA a ca k := ⟨_, rfl⟩
    have HA := hid hA
    rw [← HA.out] at E2
    clear hA
    go_enter Tryz.func30, Tryz.ntmps30
    go_wp2_with (go_at_call 44; refine HP.out.mono ?_; rintro e w' ⟨rfl, q, hw⟩; rw [hw, hx]; clear hw w')
    obtain ⟨W, hW⟩ : ∃ W, W = ((w.alloc (.cells #[.slice a xs.length ca] 60)).alloc (.cells #[.slice none 0 0] 60)).drewN (q + 1) := ⟨_, rfl⟩
    have hWs : W.heap.size = w.heap.size + 2 := by rw [hW]; simp
    have O0 : Hid (Own W w.heap.size 60 #[.slice a xs.length ca]) := by
      show Own _ _ _ _
      rw [hW]; exact (own_new _ _ _).more (by simp) _
    have O1 : Hid (Own W (w.heap.size + 1) 60 #[.slice none 0 0]) := by
      show Own _ _ _ _
      have h := own_new (w.alloc (.cells #[.slice a xs.length ca] 60)) #[.slice none 0 0] 60
      rw [World.size_alloc] at h
      rw [hW]; exact h
    have HWB : Hid (Below w.heap.size w W) := by
      show Below _ _ _
      rw [hW]; exact belowJ (((Below.refl _ _).alloc (Nat.le_refl _) _).alloc (by simp) _) (q + 1)
    have L0 : Hid (W.cell? ⟨w.heap.size, 0, none⟩ = some (.slice a xs.length ca)) := O0.out.cell 0
    refine wp_region_held_drew (S := fun w' => w'.cell? ⟨w.heap.size, 0, none⟩ = some (.slice a xs.length ca)) rfl (by have h := L0.out; rw [hW] at h; exact h) (fun _ => ?_)
    rw [show (((w.alloc (.cells #[.slice a xs.length ca] 60)).alloc (.cells #[.slice none 0 0] 60)).drewN q).drew = W from hW.symm]
    clear hW
    refine wpAnyH_take (i := 0) (oi := ({ dst := some 16, op := _, type := _, pos := _, after := _, guard := _ } : Oper)) (v := (.pointer (some ⟨w.heap.size, 0, none⟩))) rfl (by kernel_rfl) (by kernel_rfl) (by kernel_rfl) (fun _ _ _ h => h) (Or.inl ⟨by rfl, ?_⟩) L0.out ?_
    · intro w hSw; (try dsimp only at hSw); go_simp
    try simp only [Act.put, List.setIfInBounds_toArray, List.set_cons_zero, List.set_cons_succ]
    refine wpAnyH_take (i := 1) (oi := ({ dst := some 17, op := _, type := _, pos := _, after := _, guard := _ } : Oper)) (v := (.slice a xs.length ca)) rfl (by kernel_rfl) (by kernel_rfl) (by kernel_rfl) (fun _ _ _ h => h) (Or.inl ⟨by rfl, ?_⟩) L0.out ?_
    · intro w hSw; (try dsimp only at hSw); go_simp
    try simp only [Act.put, List.setIfInBounds_toArray, List.set_cons_zero, List.set_cons_succ]
    refine wpAnyH_take (i := 2) (oi := ({ dst := some 18, op := _, type := _, pos := _, after := _, guard := _ } : Oper)) (v := (.int .i64 k)) rfl (by kernel_rfl) (by kernel_rfl) (by kernel_rfl) (fun _ _ _ h => h) (Or.inl ⟨by rfl, ?_⟩) L0.out ?_
    · intro w hSw; (try dsimp only at hSw); go_simp
    try simp only [Act.put, List.setIfInBounds_toArray, List.set_cons_zero, List.set_cons_succ]
    refine wpAnyH_take (i := 3) (oi := ({ dst := some 19, op := _, type := _, pos := _, after := _, guard := _ } : Oper)) (v := (.slice a k ca)) rfl (by kernel_rfl) (by kernel_rfl) (by kernel_rfl) (fun _ _ _ h => h) (Or.inl ⟨by rfl, ?_⟩) L0.out ?_
    · intro w hSw; (try dsimp only at hSw); exact exec_slice (x := .tmp 17) (lo := none) (hi := some (.tmp 18)) rfl w rfl rfl rfl (E1.out w)
    try simp only [Act.put, List.setIfInBounds_toArray, List.set_cons_zero, List.set_cons_succ]
    refine wpAnyH_take (i := 4) (oi := ({ dst := some 20, op := _, type := _, pos := _, after := _, guard := _ } : Oper)) (v := (.int .i64 n)) rfl (by kernel_rfl) (by kernel_rfl) (by kernel_rfl) (fun _ _ _ h => h) (Or.inl ⟨by rfl, ?_⟩) L0.out ?_
    · intro w hSw; (try dsimp only at hSw); go_simp
    try simp only [Act.put, List.setIfInBounds_toArray, List.set_cons_zero, List.set_cons_succ]
    refine wpAnyH_take (i := 6) (oi := ({ dst := some 22, op := _, type := _, pos := _, after := _, guard := _ } : Oper)) (v := (.pointer (some ⟨w.heap.size, 0, none⟩))) rfl (by kernel_rfl) (by kernel_rfl) (by kernel_rfl) (fun _ _ _ h => h) (Or.inl ⟨by rfl, ?_⟩) L0.out ?_
    · intro w hSw; (try dsimp only at hSw); go_simp
    try simp only [Act.put, List.setIfInBounds_toArray, List.set_cons_zero, List.set_cons_succ]
    refine wpAnyH_take (i := 7) (oi := ({ dst := some 23, op := _, type := _, pos := _, after := _, guard := _ } : Oper)) (v := (.slice a xs.length ca)) rfl (by kernel_rfl) (by kernel_rfl) (by kernel_rfl) (fun _ _ _ h => h) (Or.inl ⟨by rfl, ?_⟩) L0.out ?_
    · intro w hSw; (try dsimp only at hSw); go_simp
    try simp only [Act.put, List.setIfInBounds_toArray, List.set_cons_zero, List.set_cons_succ]
    refine wpAnyH_take (i := 8) (oi := ({ dst := some 24, op := _, type := _, pos := _, after := _, guard := _ } : Oper)) (v := (.int .i64 k)) rfl (by kernel_rfl) (by kernel_rfl) (by kernel_rfl) (fun _ _ _ h => h) (Or.inl ⟨by rfl, ?_⟩) L0.out ?_
    · intro w hSw; (try dsimp only at hSw); go_simp
    try simp only [Act.put, List.setIfInBounds_toArray, List.set_cons_zero, List.set_cons_succ]
    refine wpAnyH_take (i := 9) (oi := ({ dst := some 25, op := _, type := _, pos := _, after := _, guard := _ } : Oper)) (v := (.slice A (xs.length - k) (ca - k))) rfl (by kernel_rfl) (by kernel_rfl) (by kernel_rfl) (fun _ _ _ h => h) (Or.inl ⟨by rfl, ?_⟩) L0.out ?_
    · intro w hSw; (try dsimp only at hSw); exact exec_slice (x := .tmp 23) (lo := some (.tmp 24)) (hi := none) rfl w rfl rfl rfl (E2.out w)
    try simp only [Act.put, List.setIfInBounds_toArray, List.set_cons_zero, List.set_cons_succ]
    refine wpAnyH_ready (rs := [5]) (by kernel_rfl) (by simp) ?_
    refine AllReadyH.cons (o := ({ dst := some 21, op := _, type := _, pos := _, after := _, guard := _ } : Oper)) rfl (fun K hK => ?_) AllReadyH.nil
    go_simp
    have L1 : Hid ((W.alloc (.cells #[.int .i64 n] 3)).cell? ⟨w.heap.size, 0, none⟩ = some (.slice a xs.length ca)) := (O0.out.more (by omega) _).cell 0
    refine hK.out _ _ L1.out (fun _ => ?_)
    clear hK K
    try simp only [Act.put, List.setIfInBounds_toArray, List.set_cons_zero, List.set_cons_succ]
    refine wpAnyH_ready (rs := [10]) (by kernel_rfl) (by simp) ?_
    refine AllReadyH.cons (o := ({ dst := some 26, op := _, type := _, pos := _, after := _, guard := _ } : Oper)) rfl (fun K hK => ?_) AllReadyH.nil
    go_simp
    obtain ⟨V, hV⟩ : ∃ V, V = (W.alloc (.cells #[.int .i64 n] 3)).alloc (.cells #[.slice a k ca, .slice (some ⟨w.heap.size + 2, 0, none⟩) 1 1, .slice A (xs.length - k) (ca - k)] 23) := ⟨_, rfl⟩
    have hVs : V.heap.size = w.heap.size + 4 := by rw [hV]; simp; omega
    have HV : Hid (Below W.heap.size W V) := by
      show Below _ _ _
      rw [hV]; exact ((Below.refl _ _).alloc (Nat.le_refl _) _).alloc (by simp) _
    have hVB : Below w.heap.size w V := HWB.out.trans (HV.out.mono (by omega))
    have hIV := HI.out.keep (hVB.on HR.out)
    have L2 : Hid (V.cell? ⟨w.heap.size, 0, none⟩ = some (.slice a xs.length ca)) := (O0.out.keep HV.out (by omega)).cell 0
    have hq := own_new (W.alloc (.cells #[.int .i64 n] 3)) #[.slice a k ca, .slice (some ⟨w.heap.size + 2, 0, none⟩) 1 1, .slice A (xs.length - k) (ca - k)] 23
    rw [← hV, World.size_alloc, hWs] at hq
    have hone : IntsAt (Reg B w V) V (.slice (some ⟨w.heap.size + 2, 0, none⟩) 1 1) [n] := by
      have h := ints_one W n 1 (Nat.le_refl _) (B := fun b => b = w.heap.size + 2) hWs
      rw [hWs] at h
      refine (IntsAt.keep h (w' := V) ?_).mono fun b hb => Or.inr (by omega)
      rw [hV]; exact (SameOn.refl _ _).alloc (fun b hb => by simp; omega) _
    have HC := hid (concat_any (Reg B w V) V (w.heap.size + 3) 3 [xs.take k, [n], xs.drop k] (xs.take k ++ [n] ++ xs.drop k) (by simp) (by omega) (fun b hb => reg_lt (w' := V) HR.out (by omega) hb) (fun i hi => by
      match i, hi with
      | 0, _ => exact ⟨_, hq.cell 0, (ints_take (hIV.mono fun b hb => Or.inl hb) hk ca (by omega))⟩
      | 1, _ => exact ⟨_, hq.cell 1, hone⟩
      | 2, _ => exact ⟨_, hq.cell 2, by rw [HA.out]; exact ints_from (hIV.mono fun b hb => Or.inl hb) hk⟩) (by rw [HPL.out]; omega) (by simp))
    rw [HPL.out] at HC
    rw [← hV]
    clear hq hone hIV hVB hV
    refine hK.out _ _ L2.out (fun _ => ?_)
    clear hK K
    try simp only [Act.put, List.setIfInBounds_toArray, List.set_cons_zero, List.set_cons_succ]
    refine wpAnyH_ready (rs := [11]) (by kernel_rfl) (by simp) ?_
    refine AllReadyH.cons (o := ({ dst := some 27, op := _, type := _, pos := _, after := _, guard := _ } : Oper)) rfl (fun K hK => ?_) AllReadyH.nil
    go_simp
    go_at_call 45
    refine HC.out.mono ?_
    rintro e w5 ⟨a5, c5, rfl, ho5, hw5⟩
    have HO5 := hid ho5
    have HB5 := hid hw5
    have P0 := hid (O0.out.keep (HV.out.trans (hw5.mono (by omega))) (by omega))
    have P1 := hid (O1.out.keep (HV.out.trans (hw5.mono (by omega))) (by omega))
    have L5 : Hid (w5.cell? ⟨w.heap.size, 0, none⟩ = some (.slice a xs.length ca)) := P0.out.cell 0
    have f5 := P1.out.cell 0
    have z5 := P1.out.frozen 0
    simp at f5
    clear ho5 hw5
    go_wp2_with fail
    refine hK.out _ _ L5.out (fun _ => ?_)
    clear hK K
    try simp only [Act.put, List.setIfInBounds_toArray, List.set_cons_zero, List.set_cons_succ]
    refine wpAnyH_take (i := 12) (oi := ({ dst := some 28, op := _, type := _, pos := _, after := _, guard := _ } : Oper)) (v := (.agg #[.slice a5 (xs.length + 1) c5])) rfl (by kernel_rfl) (by kernel_rfl) (by kernel_rfl) (fun _ _ _ h => h) (Or.inl ⟨by rfl, ?_⟩) L5.out ?_
    · intro w hSw; (try dsimp only at hSw); go_simp
    try simp only [Act.put, List.setIfInBounds_toArray, List.set_cons_zero, List.set_cons_succ]
    refine wpAnyH_ready (rs := [13]) (by kernel_rfl) (by simp) ?_
    refine AllReadyH.cons (o := ({ dst := none, op := _, type := _, pos := _, after := _, guard := _ } : Oper)) rfl (fun K hK => ?_) AllReadyH.nil
    go_simp
    have L6 : Hid ((w5.setCell ⟨w.heap.size + 1, 0, none⟩ (.slice a5 (xs.length + 1) c5)).cell? ⟨w.heap.size, 0, none⟩ = some (.slice a xs.length ca)) := (P0.out.far (grown_set _ _ _ _) (by simp)).cell 0
    go_wp2_with fail
    refine hK.out _ _ L6.out (fun _ => ?_)
    clear hK K
    try simp only [Act.put, List.setIfInBounds_toArray, List.set_cons_zero, List.set_cons_succ]
    refine wpAnyH_done (by kernel_rfl) ?_ _
    go_wp2_with fail
    have g6 := (P1.out.set 0 (.slice a5 (xs.length + 1) c5)).cell 0
    simp at g6
    refine bodyPost_ret (v := .agg #[.slice a5 (xs.length + 1) c5]) (by simp [results, Tryz.results30, go_sem, g6]) rfl ?_
    refine ⟨_, rfl, ?_, ?_⟩
    · rw [HX.out]
      refine (row_ints (HO5.out.kept (grown_set w5 (w.heap.size + 1) 0 (.slice a5 (xs.length + 1) c5)) (off_row HO5.out (by omega))) (by rw [HPL.out]; unfold maxLen; omega) (B := Reg B w (w5.setCell ⟨w.heap.size + 1, 0, none⟩ (.slice a5 (xs.length + 1) c5))) fun g h1 h2 => Or.inr ⟨by omega, h2⟩)
    · exact ((HWB.out.trans (HV.out.mono (by omega))).trans (HB5.out.mono (by omega))).setCell (by simp) _

end Go.Proofs.YtjbejnibiebjgaaGreat

namespace Go.Proofs.YtjbejnibiebjgaaGreat
open Go.RowKit Go.Siskin

set_option maxRecDepth 20000 in
set_option maxHeartbeats 1000000 in
theorem flipped_any (B : Nat → Prop) (va : Value) (xs : List Int) (n : Int) (w : World) (ha : IntsAt B w va xs) (hup : Up xs) (hB : ∀ b, B b → b < w.heap.size) (hn : xs.length ≤ 1048576) :
    Calls Tryz.prog 32 #[.agg #[va], .int .i64 n] w fun e w' => ∃ u, e = .returned (.agg #[u]) ∧ IntsAt (Reg B w w') w' u (flipB n xs) ∧ Below w.heap.size w w' := by
  have HR := hid hB
  have HI := hid ha
  have HU := hid hup
  obtain ⟨a, ca, rfl, hla, ha⟩ := ha
  unfold maxLen at hla
  have HP := hid (place_any B (.slice a xs.length ca) xs n ((w.alloc (.cells #[.slice a xs.length ca] 60)).alloc (.cells #[.slice none 0 0] 60)) (HI.out.keep (((SameOn.refl _ _).alloc HR.out _).alloc (fun b hb => by have := HR.out b hb; simp; omega) _)) hup hn)
  clear hB ha hup
  cases hx : xs.contains n with
  | false =>
    have HX : Hid (flipB n xs = putB n xs) := by show _ = _; unfold flipB putB; rw [if_neg (by rw [hx]; simp), if_neg (by rw [hx]; simp)]
    go_enter Tryz.func32, Tryz.ntmps32
    go_wp2_with (go_at_call 44; refine HP.out.mono ?_; rintro e w' ⟨rfl, q, hw⟩; rw [hw, hx]; clear hw w')
    have hBW := belowJ (((Below.refl w.heap.size w).alloc (Nat.le_refl _) (.cells #[.slice a xs.length ca] 60)).alloc (by simp) (.cells #[.slice none 0 0] 60)) q
    refine (with_any B (.slice a xs.length ca) xs n _ (HI.out.keep (hBW.on HR.out)) HU.out (fun b hb => by have := HR.out b hb; simp; omega) hn).mono ?_
    rintro e w1 ⟨u, rfl, hu, hw1⟩
    have hO : Own (((w.alloc (.cells #[.slice a xs.length ca] 60)).alloc (.cells #[.slice none 0 0] 60)).drewN q) (w.heap.size + 1) 60 #[.slice none 0 0] := by
      have h := own_new (w.alloc (.cells #[.slice a xs.length ca] 60)) #[.slice none 0 0] 60
      rw [World.size_alloc] at h
      exact h
    have P1 := hid (hO.keep hw1 (by simp))
    have HU1 := hid hu
    have hs1 := hw1.size
    simp at hs1
    have HW1 := hid (hBW.trans (hw1.mono (by simp; omega)))
    obtain ⟨ua, uc, rfl, -⟩ := hu
    have f5 := P1.out.cell 0
    have z5 := P1.out.frozen 0
    simp at f5
    clear hO hw1 hBW
    go_wp2_with fail
    have g6 := (P1.out.set 0 (.slice ua (putB n xs).length uc)).cell 0
    simp at g6
    refine bodyPost_ret (v := .agg #[.slice ua (putB n xs).length uc]) (by simp [results, Tryz.results32, go_sem, g6]) rfl ?_
    refine ⟨_, rfl, ?_, HW1.out.setCell (by simp) _⟩
    rw [HX.out]
    refine IntsAt.mono (B := fun b => Reg B (((w.alloc (.cells #[.slice a xs.length ca] 60)).alloc (.cells #[.slice none 0 0] 60)).drewN q) w1 b) (HU1.out.keep ((SameOn.refl _ _).setCell (fun h => ?_) _)) fun b hb => ?_
    · rcases h with h | h
      · have := HR.out _ h; simp at this; omega
      · have := h.1; simp at this; omega
    · rcases hb with hb | hb
      · exact Or.inl hb
      · have h1 := hb.1
        have h2 := hb.2
        simp at h1
        exact Or.inr ⟨by omega, by simpa using h2⟩
  | true =>
    have hk := cut_le n xs
    have hkk := cut_has HU.out hx
    have hlc := less_cut HU.out hx
    obtain ⟨k, hk2⟩ : ∃ k, k = cutB n xs := ⟨_, rfl⟩
    rw [← hk2] at hkk hlc
    have hk1 : k + 1 ≤ xs.length := (List.getElem?_eq_some_iff.1 hkk).1
    have HX : Hid (flipB n xs = xs.take k ++ xs.drop (k + 1)) := by show _ = _; unfold flipB; rw [if_pos hx, hlc]
    rw [← hk2] at HP hk
    clear hk2 hkk hlc
    have hpl : (xs.take k ++ xs.drop (k + 1)).length = xs.length - 1 := by simp; omega
    have HPL := hid hpl
    clear hpl
    have E1 := hid (slice_to a xs.length ca k (by omega))
    have E2 := hid (slice_from a xs.length ca (k + 1) hk1)
    have hk9 : k ≤ 1048576 := by omega
    obtain ⟨A, hA⟩ : ∃ A, A = fromA a ca (k + 1) := ⟨_, rfl⟩
    have HA := hid hA
    rw [← HA.out] at E2
    clear hA
    go_enter Tryz.func32, Tryz.ntmps32
    go_wp2_with (go_at_call 44; refine HP.out.mono ?_; rintro e w' ⟨rfl, q, hw⟩; rw [hw, hx]; clear hw w')
    obtain ⟨W, hW⟩ : ∃ W, W = ((w.alloc (.cells #[.slice a xs.length ca] 60)).alloc (.cells #[.slice none 0 0] 60)).drewN (q + 1) := ⟨_, rfl⟩
    have hWs : W.heap.size = w.heap.size + 2 := by rw [hW]; simp
    have O0 : Hid (Own W w.heap.size 60 #[.slice a xs.length ca]) := by
      show Own _ _ _ _
      rw [hW]; exact (own_new _ _ _).more (by simp) _
    have O1 : Hid (Own W (w.heap.size + 1) 60 #[.slice none 0 0]) := by
      show Own _ _ _ _
      have h := own_new (w.alloc (.cells #[.slice a xs.length ca] 60)) #[.slice none 0 0] 60
      rw [World.size_alloc] at h
      rw [hW]; exact h
    have HWB : Hid (Below w.heap.size w W) := by
      show Below _ _ _
      rw [hW]; exact belowJ (((Below.refl _ _).alloc (Nat.le_refl _) _).alloc (by simp) _) (q + 1)
    have L0 : Hid (W.cell? ⟨w.heap.size, 0, none⟩ = some (.slice a xs.length ca)) := O0.out.cell 0
    refine wp_region_held_drew (S := fun w' => w'.cell? ⟨w.heap.size, 0, none⟩ = some (.slice a xs.length ca)) rfl (by have h := L0.out; rw [hW] at h; exact h) (fun _ => ?_)
    rw [show (((w.alloc (.cells #[.slice a xs.length ca] 60)).alloc (.cells #[.slice none 0 0] 60)).drewN q).drew = W from hW.symm]
    clear hW
    refine wpAnyH_take (i := 0) (oi := ({ dst := some 15, op := _, type := _, pos := _, after := _, guard := _ } : Oper)) (v := (.pointer (some ⟨w.heap.size, 0, none⟩))) rfl (by kernel_rfl) (by kernel_rfl) (by kernel_rfl) (fun _ _ _ h => h) (Or.inl ⟨by rfl, ?_⟩) L0.out ?_
    · intro w hSw; (try dsimp only at hSw); go_simp
    try simp only [Act.put, List.setIfInBounds_toArray, List.set_cons_zero, List.set_cons_succ]
    refine wpAnyH_take (i := 1) (oi := ({ dst := some 16, op := _, type := _, pos := _, after := _, guard := _ } : Oper)) (v := (.slice a xs.length ca)) rfl (by kernel_rfl) (by kernel_rfl) (by kernel_rfl) (fun _ _ _ h => h) (Or.inl ⟨by rfl, ?_⟩) L0.out ?_
    · intro w hSw; (try dsimp only at hSw); go_simp
    try simp only [Act.put, List.setIfInBounds_toArray, List.set_cons_zero, List.set_cons_succ]
    refine wpAnyH_take (i := 2) (oi := ({ dst := some 17, op := _, type := _, pos := _, after := _, guard := _ } : Oper)) (v := (.int .i64 k)) rfl (by kernel_rfl) (by kernel_rfl) (by kernel_rfl) (fun _ _ _ h => h) (Or.inl ⟨by rfl, ?_⟩) L0.out ?_
    · intro w hSw; (try dsimp only at hSw); go_simp
    try simp only [Act.put, List.setIfInBounds_toArray, List.set_cons_zero, List.set_cons_succ]
    refine wpAnyH_take (i := 3) (oi := ({ dst := some 18, op := _, type := _, pos := _, after := _, guard := _ } : Oper)) (v := (.slice a k ca)) rfl (by kernel_rfl) (by kernel_rfl) (by kernel_rfl) (fun _ _ _ h => h) (Or.inl ⟨by rfl, ?_⟩) L0.out ?_
    · intro w hSw; (try dsimp only at hSw); exact exec_slice (x := .tmp 16) (lo := none) (hi := some (.tmp 17)) rfl w rfl rfl rfl (E1.out w)
    try simp only [Act.put, List.setIfInBounds_toArray, List.set_cons_zero, List.set_cons_succ]
    refine wpAnyH_take (i := 4) (oi := ({ dst := some 19, op := _, type := _, pos := _, after := _, guard := _ } : Oper)) (v := (.pointer (some ⟨w.heap.size, 0, none⟩))) rfl (by kernel_rfl) (by kernel_rfl) (by kernel_rfl) (fun _ _ _ h => h) (Or.inl ⟨by rfl, ?_⟩) L0.out ?_
    · intro w hSw; (try dsimp only at hSw); go_simp
    try simp only [Act.put, List.setIfInBounds_toArray, List.set_cons_zero, List.set_cons_succ]
    refine wpAnyH_take (i := 5) (oi := ({ dst := some 20, op := _, type := _, pos := _, after := _, guard := _ } : Oper)) (v := (.slice a xs.length ca)) rfl (by kernel_rfl) (by kernel_rfl) (by kernel_rfl) (fun _ _ _ h => h) (Or.inl ⟨by rfl, ?_⟩) L0.out ?_
    · intro w hSw; (try dsimp only at hSw); go_simp
    try simp only [Act.put, List.setIfInBounds_toArray, List.set_cons_zero, List.set_cons_succ]
    refine wpAnyH_take (i := 6) (oi := ({ dst := some 21, op := _, type := _, pos := _, after := _, guard := _ } : Oper)) (v := (.int .i64 k)) rfl (by kernel_rfl) (by kernel_rfl) (by kernel_rfl) (fun _ _ _ h => h) (Or.inl ⟨by rfl, ?_⟩) L0.out ?_
    · intro w hSw; (try dsimp only at hSw); go_simp
    try simp only [Act.put, List.setIfInBounds_toArray, List.set_cons_zero, List.set_cons_succ]
    refine wpAnyH_take (i := 7) (oi := ({ dst := some 22, op := _, type := _, pos := _, after := _, guard := _ } : Oper)) (v := (.int .i64 ((k + 1 : Nat) : Int))) rfl (by kernel_rfl) (by kernel_rfl) (by kernel_rfl) (fun _ _ _ h => h) (Or.inl ⟨by rfl, ?_⟩) L0.out ?_
    · intro w hSw; (try dsimp only at hSw); (go_simp; simp [IntKind.wrap, IntKind.bits, IntKind.signed]; omega)
    try simp only [Act.put, List.setIfInBounds_toArray, List.set_cons_zero, List.set_cons_succ]
    refine wpAnyH_take (i := 8) (oi := ({ dst := some 23, op := _, type := _, pos := _, after := _, guard := _ } : Oper)) (v := (.slice A (xs.length - (k + 1)) (ca - (k + 1)))) rfl (by kernel_rfl) (by kernel_rfl) (by kernel_rfl) (fun _ _ _ h => h) (Or.inl ⟨by rfl, ?_⟩) L0.out ?_
    · intro w hSw; (try dsimp only at hSw); exact exec_slice (x := .tmp 20) (lo := some (.tmp 22)) (hi := none) rfl w rfl rfl rfl (E2.out w)
    try simp only [Act.put, List.setIfInBounds_toArray, List.set_cons_zero, List.set_cons_succ]
    refine wpAnyH_ready (rs := [9]) (by kernel_rfl) (by simp) ?_
    refine AllReadyH.cons (o := ({ dst := some 24, op := _, type := _, pos := _, after := _, guard := _ } : Oper)) rfl (fun K hK => ?_) AllReadyH.nil
    go_simp
    obtain ⟨V, hV⟩ : ∃ V, V = W.alloc (.cells #[.slice a k ca, .slice A (xs.length - (k + 1)) (ca - (k + 1))] 23) := ⟨_, rfl⟩
    have hVs : V.heap.size = w.heap.size + 3 := by rw [hV]; simp; omega
    have HV : Hid (Below W.heap.size W V) := by
      show Below _ _ _
      rw [hV]; exact (Below.refl _ _).alloc (Nat.le_refl _) _
    have hVB : Below w.heap.size w V := HWB.out.trans (HV.out.mono (by omega))
    have hIV := HI.out.keep (hVB.on HR.out)
    have L2 : Hid (V.cell? ⟨w.heap.size, 0, none⟩ = some (.slice a xs.length ca)) := (O0.out.keep HV.out (by omega)).cell 0
    have hq := own_new W #[.slice a k ca, .slice A (xs.length - (k + 1)) (ca - (k + 1))] 23
    rw [← hV, hWs] at hq
    have HC := hid (concat_any (Reg B w V) V (w.heap.size + 2) 2 [xs.take k, xs.drop (k + 1)] (xs.take k ++ xs.drop (k + 1)) (by simp) (by omega) (fun b hb => reg_lt (w' := V) HR.out (by omega) hb) (fun i hi => by
      match i, hi with
      | 0, _ => exact ⟨_, hq.cell 0, (ints_take (hIV.mono fun b hb => Or.inl hb) hk ca (by omega))⟩
      | 1, _ => exact ⟨_, hq.cell 1, by rw [HA.out]; exact ints_from (hIV.mono fun b hb => Or.inl hb) hk1⟩) (by rw [HPL.out]; omega) (by simp))
    rw [HPL.out] at HC
    rw [← hV]
    clear hq hIV hVB hV
    refine hK.out _ _ L2.out (fun _ => ?_)
    clear hK K
    try simp only [Act.put, List.setIfInBounds_toArray, List.set_cons_zero, List.set_cons_succ]
    refine wpAnyH_ready (rs := [10]) (by kernel_rfl) (by simp) ?_
    refine AllReadyH.cons (o := ({ dst := some 25, op := _, type := _, pos := _, after := _, guard := _ } : Oper)) rfl (fun K hK => ?_) AllReadyH.nil
    go_simp
    go_at_call 45
    refine HC.out.mono ?_
    rintro e w5 ⟨a5, c5, rfl, ho5, hw5⟩
    have HO5 := hid ho5
    have HB5 := hid hw5
    have P0 := hid (O0.out.keep (HV.out.trans (hw5.mono (by omega))) (by omega))
    have P1 := hid (O1.out.keep (HV.out.trans (hw5.mono (by omega))) (by omega))
    have L5 : Hid (w5.cell? ⟨w.heap.size, 0, none⟩ = some (.slice a xs.length ca)) := P0.out.cell 0
    have f5 := P1.out.cell 0
    have z5 := P1.out.frozen 0
    simp at f5
    clear ho5 hw5
    go_wp2_with fail
    refine hK.out _ _ L5.out (fun _ => ?_)
    clear hK K
    try simp only [Act.put, List.setIfInBounds_toArray, List.set_cons_zero, List.set_cons_succ]
    refine wpAnyH_take (i := 11) (oi := ({ dst := some 26, op := _, type := _, pos := _, after := _, guard := _ } : Oper)) (v := (.agg #[.slice a5 (xs.length - 1) c5])) rfl (by kernel_rfl) (by kernel_rfl) (by kernel_rfl) (fun _ _ _ h => h) (Or.inl ⟨by rfl, ?_⟩) L5.out ?_
    · intro w hSw; (try dsimp only at hSw); go_simp
    try simp only [Act.put, List.setIfInBounds_toArray, List.set_cons_zero, List.set_cons_succ]
    refine wpAnyH_ready (rs := [12]) (by kernel_rfl) (by simp) ?_
    refine AllReadyH.cons (o := ({ dst := none, op := _, type := _, pos := _, after := _, guard := _ } : Oper)) rfl (fun K hK => ?_) AllReadyH.nil
    go_simp
    have L6 : Hid ((w5.setCell ⟨w.heap.size + 1, 0, none⟩ (.slice a5 (xs.length - 1) c5)).cell? ⟨w.heap.size, 0, none⟩ = some (.slice a xs.length ca)) := (P0.out.far (grown_set _ _ _ _) (by simp)).cell 0
    go_wp2_with fail
    refine hK.out _ _ L6.out (fun _ => ?_)
    clear hK K
    try simp only [Act.put, List.setIfInBounds_toArray, List.set_cons_zero, List.set_cons_succ]
    refine wpAnyH_done (by kernel_rfl) ?_ _
    go_wp2_with fail
    have g6 := (P1.out.set 0 (.slice a5 (xs.length - 1) c5)).cell 0
    simp at g6
    refine bodyPost_ret (v := .agg #[.slice a5 (xs.length - 1) c5]) (by simp [results, Tryz.results32, go_sem, g6]) rfl ?_
    refine ⟨_, rfl, ?_, ?_⟩
    · rw [HX.out]
      refine (row_ints (HO5.out.kept (grown_set w5 (w.heap.size + 1) 0 (.slice a5 (xs.length - 1) c5)) (off_row HO5.out (by omega))) (by rw [HPL.out]; unfold maxLen; omega) (B := Reg B w (w5.setCell ⟨w.heap.size + 1, 0, none⟩ (.slice a5 (xs.length - 1) c5))) fun g h1 h2 => Or.inr ⟨by omega, h2⟩)
    · exact ((HWB.out.trans (HV.out.mono (by omega))).trans (HB5.out.mono (by omega))).setCell (by simp) _

end Go.Proofs.YtjbejnibiebjgaaGreat
