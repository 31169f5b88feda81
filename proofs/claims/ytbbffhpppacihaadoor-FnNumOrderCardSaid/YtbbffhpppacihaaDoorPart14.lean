/-
  The program's whole numbers and ratios: opposite, sign, ratioOf, turned. Condition: what is above and below lies in memory.
  The program's sumAbove and productAbove. Condition: the groups lie in memory as NatA says; at most 100 groups each.
  The program's overBoth, answerOf. Condition: the groups lie in memory as NatA says; at most 100 groups each.
-/
import Derived.Test.YtbbffhpppacihaaDoorPart13
import Derived.Test.YtbbffhpppacihaaDoorPart11
namespace Go.Proofs.YtbbffhpppacihaaDoor
open Go.RowKit Go.Siskin

theorem meth_times (x : Value) (w : World) : (method 302 50 x "loop.example/siskin/impl.times").run Tryd.prog w = .ok (141, x) w := by kernel_rfl
theorem meth_plus (x : Value) (w : World) : (method 302 50 x "loop.example/siskin/impl.plus").run Tryd.prog w = .ok (140, x) w := by kernel_rfl
theorem meth_opposite (x : Value) (w : World) : (method 302 50 x "loop.example/siskin/impl.opposite").run Tryd.prog w = .ok (139, x) w := by kernel_rfl

/-- Two boxes of a call's own. -/
theorem boxes2 (w : World) (c1 c2 : Array Value) (t1 t2 : TypeId) {W : World} (h : Below (w.heap.size + 2) ((w.alloc (.cells c1 t1)).alloc (.cells c2 t2)) W) :
    Own W w.heap.size t1 c1 ∧ Own W (w.heap.size + 1) t2 c2 ∧ Below w.heap.size w W := by
  have h1 : Own ((w.alloc (.cells c1 t1)).alloc (.cells c2 t2)) w.heap.size t1 c1 := (Below.heap_alloc _ _ _ (by simp)).trans (own_new w _ _)
  have h2 := own_new (w.alloc (.cells c1 t1)) c2 t2
  rw [World.size_alloc] at h2
  exact ⟨h1.keep h (by omega), h2.keep h (by omega), (((Below.refl _ _).alloc (Nat.le_refl _) _).alloc (by simp) _).trans (h.mono (by omega))⟩
abbrev boxR (n : Bool) (v : Value) (m : Bool) (u : Value) : Obj := .cells #[.bool n, v, .bool m, u] 61
theorem own4V {w : World} {g : Nat} {e : TypeId} {a b c d : Value} (h : Own w g e #[a, b, c, d]) : (w.cell? ⟨g, 0, none⟩ = some a ∧ w.cell? ⟨g, 1, none⟩ = some b ∧ w.cell? ⟨g, 2, none⟩ = some c ∧ w.cell? ⟨g, 3, none⟩ = some d) ∧ w.frozen? ⟨g, 0, none⟩ = false ∧ w.frozen? ⟨g, 1, none⟩ = false ∧ w.frozen? ⟨g, 2, none⟩ = false ∧ w.frozen? ⟨g, 3, none⟩ = false :=
  ⟨⟨h.cell 0, h.cell 1, h.cell 2, h.cell 3⟩, h.frozen 0, h.frozen 1, h.frozen 2, h.frozen 3⟩

set_option maxRecDepth 20000 in
set_option maxHeartbeats 1000000 in
theorem intOpposite_any (n : Bool) (a : Option Addr) (l c : Nat) (w : World) :
    Calls Tryd.prog 139 #[.agg #[.bool n, .slice a l c]] w fun e w' => e = .returned (.agg #[.bool !n, .slice a l c]) ∧ Below w.heap.size w w' := by
  go_enter Tryd.func139, Tryd.ntmps139
  go_wp2_with fail
  have h2 := own_new (w.alloc (boxI n (.slice a l c))) #[.bool !n, .slice a l c] 50
  rw [World.size_alloc] at h2
  obtain ⟨⟨r0, r1⟩, -⟩ := own2V h2
  refine bodyPost_ret (v := .agg #[.bool !n, .slice a l c]) (by simp [results, Tryd.results139, go_sem, r0, r1]) rfl ⟨rfl, ?_⟩
  exact ((Below.refl _ _).alloc (Nat.le_refl _) _).alloc (by simp) _

def signI (n : Bool) (x : Nat) : Int := if x = 0 then 0 else if n then -1 else 1

set_option maxRecDepth 20000 in
set_option maxHeartbeats 1000000 in
theorem intSign_any (n : Bool) (x : Nat) (v : Value) (w : World) (h : NatA w v (grp x)) :
    Calls Tryd.prog 53 #[.agg #[.bool n, v]] w fun e w' => e = .returned (.int .i64 (signI n x)) ∧ Below w.heap.size w w' := by
  obtain ⟨a, c, rfl⟩ := natA_formR h
  have HN := hid (isNought_any x _ _ (h.alloc (boxI n (.slice a (grp x).length c))))
  have h0 := own_new w #[.bool n, .slice a (grp x).length c] 50
  obtain ⟨⟨a0, a1⟩, -⟩ := own2V h0
  have HB : Hid (Below w.heap.size w (w.alloc (boxI n (.slice a (grp x).length c)))) := (Below.refl _ _).alloc (Nat.le_refl _) _
  clear h h0
  obtain ⟨z, hz⟩ : ∃ z, signI n x = z := ⟨_, rfl⟩
  rw [hz]
  have hc : ((x == 0) = true ∧ z = 0) ∨ ((x == 0) = false ∧ n = true ∧ z = -1) ∨ ((x == 0) = false ∧ n = false ∧ z = 1) := by
    rw [← hz]; unfold signI
    by_cases hx : x = 0
    · exact Or.inl ⟨by rw [hx]; rfl, if_pos hx⟩
    · cases n
      · exact Or.inr (Or.inr ⟨by simpa using hx, rfl, by rw [if_neg hx]; rfl⟩)
      · exact Or.inr (Or.inl ⟨by simpa using hx, rfl, by rw [if_neg hx]; rfl⟩)
  clear hz
  rcases hc with ⟨h1, rfl⟩ | ⟨h1, rfl, rfl⟩ | ⟨h1, rfl, rfl⟩
  all_goals
    rw [h1] at HN
    go_enter Tryd.func53, Tryd.ntmps53
    go_wp2_with fail
    refine HN.out.mono ?_
    rintro e w' ⟨rfl, hw⟩
    obtain rfl := hw.symm
    go_wp2_with fail
    go_ret
    exact ⟨rfl, HB.out⟩

set_option maxRecDepth 20000 in
set_option maxHeartbeats 1000000 in
theorem ratioOf_any (n : Bool) (a b : Option Addr) (l c k d : Nat) (w : World) :
    Calls Tryd.prog 69 #[.agg #[.bool n, .slice a l c, .slice b k d]] w fun e w' => e = .returned (.agg #[.bool n, .slice a l c, .bool false, .slice b k d]) ∧ Below w.heap.size w w' := by
  go_enter Tryd.func69, Tryd.ntmps69
  go_wp2_with fail
  have h2 := own_new (w.alloc (.cells #[.bool n, .slice a l c, .slice b k d] 71)) #[.bool n, .slice a l c, .bool false, .slice b k d] 61
  rw [World.size_alloc] at h2
  obtain ⟨⟨r0, r1, r2, r3⟩, -⟩ := own4V h2
  refine bodyPost_ret (v := .agg #[.bool n, .slice a l c, .bool false, .slice b k d]) (by simp [results, Tryd.results69, go_sem, r0, r1, r2, r3]) rfl ⟨rfl, ?_⟩
  exact ((Below.refl _ _).alloc (Nat.le_refl _) _).alloc (by simp) _

set_option maxRecDepth 20000 in
set_option maxHeartbeats 1000000 in
theorem turned_any (n m : Bool) (a b : Option Addr) (l c k d : Nat) (w : World) :
    Calls Tryd.prog 54 #[.agg #[.bool n, .slice a l c, .bool m, .slice b k d]] w fun e w' => e = .returned (.agg #[.bool m, .slice b k d, .bool n, .slice a l c]) ∧ Below w.heap.size w w' := by
  go_enter Tryd.func54, Tryd.ntmps54
  go_wp2_with fail
  have h2 := own_new (w.alloc (boxR n (.slice a l c) m (.slice b k d))) #[.bool m, .slice b k d, .bool n, .slice a l c] 61
  rw [World.size_alloc] at h2
  obtain ⟨⟨r0, r1, r2, r3⟩, -⟩ := own4V h2
  refine bodyPost_ret (v := .agg #[.bool m, .slice b k d, .bool n, .slice a l c]) (by simp [results, Tryd.results54, go_sem, r0, r1, r2, r3]) rfl ⟨rfl, ?_⟩
  exact ((Below.refl _ _).alloc (Nat.le_refl _) _).alloc (by simp) _

set_option maxRecDepth 20000 in
set_option maxHeartbeats 1000000 in
theorem ratioOpposite_any (n m : Bool) (a b : Option Addr) (l c k d : Nat) (w : World) :
    Calls Tryd.prog 52 #[.agg #[.bool n, .slice a l c, .bool m, .slice b k d]] w fun e w' => e = .returned (.agg #[.bool !n, .slice a l c, .bool m, .slice b k d]) ∧ Below w.heap.size w w' := by
  have HO := hid (fun w => intOpposite_any n a l c w)
  have mo := meth_opposite
  obtain ⟨W0, HW0⟩ : ∃ W, Hid ((w.alloc (boxR n (.slice a l c) m (.slice b k d))).alloc (boxR false (.slice none 0 0) false (.slice none 0 0)) = W) := ⟨_, rfl⟩
  have HX : Hid (∀ W, Below (w.heap.size + 2) W0 W → Own W w.heap.size 61 #[.bool n, .slice a l c, .bool m, .slice b k d] ∧ Own W (w.heap.size + 1) 61 #[.bool false, .slice none 0 0, .bool false, .slice none 0 0] ∧ Below w.heap.size w W) := fun W h => by
    rw [← HW0.out] at h
    exact boxes2 w _ _ _ _ h
  have HSt : Hid (∀ W, Below (w.heap.size + 2) W0 W → ∀ x y z t : Value, (((((W.setCell ⟨w.heap.size + 1, 0, none⟩ x).setCell ⟨w.heap.size + 1, 1, none⟩ y).setCell ⟨w.heap.size + 1, 2, none⟩ z).setCell ⟨w.heap.size + 1, 3, none⟩ t).cell? ⟨w.heap.size, 0, none⟩ = some (.bool n) ∧ ((((W.setCell ⟨w.heap.size + 1, 0, none⟩ x).setCell ⟨w.heap.size + 1, 1, none⟩ y).setCell ⟨w.heap.size + 1, 2, none⟩ z).setCell ⟨w.heap.size + 1, 3, none⟩ t).cell? ⟨w.heap.size, 1, none⟩ = some (.slice a l c) ∧
      ((((W.setCell ⟨w.heap.size + 1, 0, none⟩ x).setCell ⟨w.heap.size + 1, 1, none⟩ y).setCell ⟨w.heap.size + 1, 2, none⟩ z).setCell ⟨w.heap.size + 1, 3, none⟩ t).cell? ⟨w.heap.size, 2, none⟩ = some (.bool m) ∧ ((((W.setCell ⟨w.heap.size + 1, 0, none⟩ x).setCell ⟨w.heap.size + 1, 1, none⟩ y).setCell ⟨w.heap.size + 1, 2, none⟩ z).setCell ⟨w.heap.size + 1, 3, none⟩ t).cell? ⟨w.heap.size, 3, none⟩ = some (.slice b k d))) := fun W h x y z t => (own4V (own_set4 (HX.out W h).1 (by omega) x y z t)).1
  have HS0 : Hid (w.heap.size + 2 ≤ W0.heap.size) := by show _ ≤ _; rw [← HW0.out]; simp
  go_enter Tryd.func52, Tryd.ntmps52
  go_wp2_with fail
  rw [HW0.out]
  have HB : Hid (Below (w.heap.size + 2) W0 W0.drew) := (Below.refl _ _).drew
  obtain ⟨⟨r0, r1, r2, r3⟩, q0, q1, q2, q3⟩ := own4V (HX.out _ HB.out).2.1
  go_region_held3 (fun W => W.cell? ⟨w.heap.size, 0, none⟩ = some (.bool n) ∧ W.cell? ⟨w.heap.size, 1, none⟩ = some (.slice a l c) ∧ W.cell? ⟨w.heap.size, 2, none⟩ = some (.bool m) ∧ W.cell? ⟨w.heap.size, 3, none⟩ = some (.slice b k d))
    (first
      | exact (own4V (HX.out _ HB.out).1).1
      | exact HSt.out _ HB.out _ _ _ _)
    (first
      | (go_at_call 139
         go_loud (
         refine (HO.out _).mono ?_
         rintro e w3 ⟨rfl, hw3⟩
         have HB := hid (HB.out.trans (hw3.mono (Nat.le_trans HS0.out HB.out.size)))
         clear hw3 r0 r1 r2 r3 q0 q1 q2 q3
         obtain ⟨⟨r0, r1, r2, r3⟩, q0, q1, q2, q3⟩ := own4V (HX.out _ HB.out).2.1)))
  go_wp2_with fail
  refine bodyPost_ret (v := .agg #[.bool !n, .slice a l c, .bool m, .slice b k d]) (by simp [results, Tryd.results52, go_sem, r0, r1, r2, r3]) rfl ⟨rfl, ?_⟩
  exact below_set4 (HX.out _ HB.out).2.2 (by omega) _ _ _ _
end Go.Proofs.YtbbffhpppacihaaDoor

namespace Go.Proofs.YtbbffhpppacihaaDoor
open Go.RowKit Go.Siskin

theorem nG_mul (x y : Nat) : nG (x * y) ≤ nG x + nG y := nG_le (by rw [Nat.pow_add]; exact Nat.mul_lt_mul'' (lt_pow_nG x) (lt_pow_nG y))
/-- The sum of two numbers with signs. -/
def sumN (n1 : Bool) (x : Nat) (n2 : Bool) (y : Nat) : Bool := if n1 = n2 then n1 else if x < y then n2 else n1
def sumZ (n1 : Bool) (x : Nat) (n2 : Bool) (y : Nat) : Nat := if n1 = n2 then x + y else if x < y then y - x else x - y
theorem intPlus_any (n1 n2 : Bool) (x y : Nat) (vx vy : Value) (w : World) (hx : NatA w vx (grp x)) (hy : NatA w vy (grp y)) (hnx : nG x ≤ 5000) (hny : nG y ≤ 5000) :
    Calls Tryd.prog 140 #[.agg #[.bool n1, vx], .agg #[.bool n2, vy]] w fun e w' => ∃ a c, e = .returned (.agg #[.bool (sumN n1 x n2 y), .slice a (grp (sumZ n1 x n2 y)).length c]) ∧ NatA w' (.slice a (grp (sumZ n1 x n2 y)).length c) (grp (sumZ n1 x n2 y)) ∧ Below w.heap.size w w' := by
  by_cases h : n1 = n2
  · subst h
    have e1 : sumN n1 x n1 y = n1 := if_pos rfl
    have e2 : sumZ n1 x n1 y = x + y := if_pos rfl
    rw [e1, e2]
    refine (intPlus_same n1 x y vx vy w hx hy hnx hny).mono ?_
    rintro e w' ⟨u, rfl, h1, h2⟩
    obtain ⟨a, c, rfl⟩ := natA_formR h1
    exact ⟨a, c, rfl, h1, h2⟩
  · have hn : n2 = !n1 := by cases n1 <;> cases n2 <;> simp_all
    subst hn
    have e1 : sumN n1 x (!n1) y = if x < y then !n1 else n1 := if_neg h
    have e2 : sumZ n1 x (!n1) y = if x < y then y - x else x - y := if_neg h
    rw [e1, e2]
    refine (intPlus_diff n1 x y vx vy w hx hy hnx hny).mono ?_
    rintro e w' ⟨u, rfl, h1, h2⟩
    obtain ⟨a, c, rfl⟩ := natA_formR h1
    exact ⟨a, c, rfl, h1, h2⟩
theorem intTimes_slice (n1 n2 n : Bool) (x y : Nat) (vx vy : Value) (w : World) (hn : (n1 != n2) = n) (hx : NatA w vx (grp x)) (hy : NatA w vy (grp y)) (hnx : nG x ≤ 2000) (hny : nG y ≤ 2000) :
    Calls Tryd.prog 141 #[.agg #[.bool n1, vx], .agg #[.bool n2, vy]] w fun e w' => ∃ a c, e = .returned (.agg #[.bool n, .slice a (grp (x * y)).length c]) ∧ NatA w' (.slice a (grp (x * y)).length c) (grp (x * y)) ∧ Below w.heap.size w w' := by
  refine (intTimes_any n1 n2 x y vx vy w hx hy hnx hny).mono ?_
  rintro e w' ⟨u, rfl, h1, h2⟩
  obtain ⟨a, c, rfl⟩ := natA_formR h1
  exact ⟨a, c, by rw [hn], h1, h2⟩

set_option maxRecDepth 20000 in
set_option maxHeartbeats 4000000 in
theorem sumAbove_any (n1 n2 : Bool) (x1 y1 x2 y2 : Nat) (a1 b1 a2 b2 : Option Addr) (l1 c1 k1 d1 l2 c2 k2 d2 : Nat) (w : World) (hx1 : NatA w (.slice a1 l1 c1) (grp x1)) (hy1 : NatA w (.slice b1 k1 d1) (grp y1)) (hx2 : NatA w (.slice a2 l2 c2) (grp x2)) (hy2 : NatA w (.slice b2 k2 d2) (grp y2))
    (g1 : nG x1 ≤ 100) (g2 : nG y1 ≤ 100) (g3 : nG x2 ≤ 100) (g4 : nG y2 ≤ 100) :
    Calls Tryd.prog 46 #[.agg #[.bool n1, .slice a1 l1 c1, .bool false, .slice b1 k1 d1], .agg #[.bool n2, .slice a2 l2 c2, .bool false, .slice b2 k2 d2]] w fun e w' => ∃ a c, e = .returned (.agg #[.bool (sumN n1 (x1 * y2) n2 (x2 * y1)), .slice a (grp (sumZ n1 (x1 * y2) n2 (x2 * y1))).length c]) ∧ NatA w' (.slice a (grp (sumZ n1 (x1 * y2) n2 (x2 * y1))).length c) (grp (sumZ n1 (x1 * y2) n2 (x2 * y1))) ∧ Below w.heap.size w w' := by
  have mt := meth_times
  have mp := meth_plus
  have hf : ∀ b : Bool, (b != false) = b := fun b => by cases b <;> rfl
  have HT1 := hid (fun W (hb : Below w.heap.size w W) => intTimes_slice n1 false n1 x1 y2 _ _ W (hf n1) (hx1.below hb (Nat.le_refl _)) (hy2.below hb (Nat.le_refl _)) (by omega) (by omega))
  have HT2 := hid (fun W (hb : Below w.heap.size w W) => intTimes_slice n2 false n2 x2 y1 _ _ W (hf n2) (hx2.below hb (Nat.le_refl _)) (hy1.below hb (Nat.le_refl _)) (by omega) (by omega))
  have HP := hid (fun va vb W h1 h2 => intPlus_any n1 n2 (x1 * y2) (x2 * y1) va vb W h1 h2 (by have := nG_mul x1 y2; omega) (by have := nG_mul x2 y1; omega))
  generalize x1 * y2 = X at *
  generalize x2 * y1 = Y at *
  generalize sumN n1 X n2 Y = S at *
  generalize sumZ n1 X n2 Y = Z at *
  obtain ⟨W0, HW0⟩ : ∃ W, Hid (((w.alloc (boxR n1 (.slice a1 l1 c1) false (.slice b1 k1 d1))).alloc (boxR n2 (.slice a2 l2 c2) false (.slice b2 k2 d2))).alloc (boxI false (.slice none 0 0)) = W) := ⟨_, rfl⟩
  have HX : Hid (∀ W, Below (w.heap.size + 3) W0 W → Own W w.heap.size 61 #[.bool n1, .slice a1 l1 c1, .bool false, .slice b1 k1 d1] ∧ Own W (w.heap.size + 1) 61 #[.bool n2, .slice a2 l2 c2, .bool false, .slice b2 k2 d2] ∧ Own W (w.heap.size + 1 + 1) 50 #[.bool false, .slice none 0 0] ∧ Below w.heap.size w W) := fun W h => by
    rw [← HW0.out] at h
    exact boxes3 w _ _ _ _ _ _ h
  have HSt : Hid (∀ W, Below (w.heap.size + 3) W0 W → ∀ x' y' : Value, (((W.setCell ⟨w.heap.size + 1 + 1, 0, none⟩ x').setCell ⟨w.heap.size + 1 + 1, 1, none⟩ y').cell? ⟨w.heap.size, 0, none⟩ = some (.bool n1) ∧ ((W.setCell ⟨w.heap.size + 1 + 1, 0, none⟩ x').setCell ⟨w.heap.size + 1 + 1, 1, none⟩ y').cell? ⟨w.heap.size, 1, none⟩ = some (.slice a1 l1 c1) ∧ ((W.setCell ⟨w.heap.size + 1 + 1, 0, none⟩ x').setCell ⟨w.heap.size + 1 + 1, 1, none⟩ y').cell? ⟨w.heap.size, 2, none⟩ = some (.bool false) ∧ ((W.setCell ⟨w.heap.size + 1 + 1, 0, none⟩ x').setCell ⟨w.heap.size + 1 + 1, 1, none⟩ y').cell? ⟨w.heap.size, 3, none⟩ = some (.slice b1 k1 d1)) ∧
      ((W.setCell ⟨w.heap.size + 1 + 1, 0, none⟩ x').setCell ⟨w.heap.size + 1 + 1, 1, none⟩ y').cell? ⟨w.heap.size + 1, 0, none⟩ = some (.bool n2) ∧ ((W.setCell ⟨w.heap.size + 1 + 1, 0, none⟩ x').setCell ⟨w.heap.size + 1 + 1, 1, none⟩ y').cell? ⟨w.heap.size + 1, 1, none⟩ = some (.slice a2 l2 c2) ∧ ((W.setCell ⟨w.heap.size + 1 + 1, 0, none⟩ x').setCell ⟨w.heap.size + 1 + 1, 1, none⟩ y').cell? ⟨w.heap.size + 1, 2, none⟩ = some (.bool false) ∧ ((W.setCell ⟨w.heap.size + 1 + 1, 0, none⟩ x').setCell ⟨w.heap.size + 1 + 1, 1, none⟩ y').cell? ⟨w.heap.size + 1, 3, none⟩ = some (.slice b2 k2 d2)) := fun W h x' y' => by
    have h0 := HX.out W h
    exact ⟨(own4V (own_set2 h0.1 (by omega) x' y')).1, (own4V (own_set2 h0.2.1 (by omega) x' y')).1⟩
  have HS0 : Hid (w.heap.size + 3 ≤ W0.heap.size) := by show _ ≤ _; rw [← HW0.out]; simp
  clear hx1 hy1 hx2 hy2 g1 g2 g3 g4 hf
  go_enter Tryd.func46, Tryd.ntmps46
  go_wp2_with fail
  rw [HW0.out]
  have HB : Hid (Below (w.heap.size + 3) W0 W0.drew) := (Below.refl _ _).drew
  obtain ⟨⟨r0, r1⟩, q0, q1⟩ := own2V (HX.out _ HB.out).2.2.1
  go_region_held3 (fun W => (W.cell? ⟨w.heap.size, 0, none⟩ = some (.bool n1) ∧ W.cell? ⟨w.heap.size, 1, none⟩ = some (.slice a1 l1 c1) ∧ W.cell? ⟨w.heap.size, 2, none⟩ = some (.bool false) ∧ W.cell? ⟨w.heap.size, 3, none⟩ = some (.slice b1 k1 d1)) ∧ W.cell? ⟨w.heap.size + 1, 0, none⟩ = some (.bool n2) ∧ W.cell? ⟨w.heap.size + 1, 1, none⟩ = some (.slice a2 l2 c2) ∧ W.cell? ⟨w.heap.size + 1, 2, none⟩ = some (.bool false) ∧ W.cell? ⟨w.heap.size + 1, 3, none⟩ = some (.slice b2 k2 d2))
    (first
      | exact ⟨(own4V (HX.out _ HB.out).1).1, (own4V (HX.out _ HB.out).2.1).1⟩
      | exact HSt.out _ HB.out _ _)
    (first
      | (go_at_call_of 141 (Value.slice a1 l1 c1)
         go_loud (
         refine (HT1.out _ (HX.out _ HB.out).2.2.2).mono ?_
         rintro e w3 ⟨ta, tc, rfl, hu, hw3⟩
         have HTa := hid hu
         first
           | (have HTb := hid (HTb.out.below hw3 (Nat.le_refl _)))
           | skip
         have HB := hid (HB.out.trans (hw3.mono (Nat.le_trans HS0.out HB.out.size)))
         clear hu hw3 r0 r1 q0 q1
         obtain ⟨⟨r0, r1⟩, q0, q1⟩ := own2V (HX.out _ HB.out).2.2.1))
      | (go_at_call_of 141 (Value.slice a2 l2 c2)
         go_loud (
         refine (HT2.out _ (HX.out _ HB.out).2.2.2).mono ?_
         rintro e w4 ⟨sa, sc, rfl, hu, hw3⟩
         have HTb := hid hu
         first
           | (have HTa := hid (HTa.out.below hw3 (Nat.le_refl _)))
           | skip
         have HB := hid (HB.out.trans (hw3.mono (Nat.le_trans HS0.out HB.out.size)))
         clear hu hw3 r0 r1 q0 q1
         obtain ⟨⟨r0, r1⟩, q0, q1⟩ := own2V (HX.out _ HB.out).2.2.1))
      | (go_at_call 140
         go_loud (
         refine (HP.out _ _ _ HTa.out HTb.out).mono ?_
         rintro e w5 ⟨pa, pc, rfl, hu, hw3⟩
         have HU := hid hu
         have HB := hid (HB.out.trans (hw3.mono (Nat.le_trans HS0.out HB.out.size)))
         clear hu hw3 r0 r1 q0 q1
         obtain ⟨⟨r0, r1⟩, q0, q1⟩ := own2V (HX.out _ HB.out).2.2.1)))
  all_goals
    go_wp2_with fail
    refine bodyPost_ret (v := .agg #[.bool S, .slice pa (grp Z).length pc]) (by simp [results, Tryd.results46, go_sem, r0, r1]) rfl ⟨pa, pc, rfl, ?_, ?_⟩
    · exact natA_set2 HU.out (HX.out _ HB.out).2.2.1 _ _
    · exact below_set2 (HX.out _ HB.out).2.2.2 (by omega) _ _

set_option maxRecDepth 20000 in
set_option maxHeartbeats 4000000 in
theorem productAbove_any (n1 m1 n2 m2 : Bool) (x1 x2 : Nat) (a1 b1 a2 b2 : Option Addr) (l1 c1 k1 d1 l2 c2 k2 d2 : Nat) (w : World) (hx1 : NatA w (.slice a1 l1 c1) (grp x1)) (hx2 : NatA w (.slice a2 l2 c2) (grp x2)) (g1 : nG x1 ≤ 100) (g3 : nG x2 ≤ 100) :
    Calls Tryd.prog 48 #[.agg #[.bool n1, .slice a1 l1 c1, .bool m1, .slice b1 k1 d1], .agg #[.bool n2, .slice a2 l2 c2, .bool m2, .slice b2 k2 d2]] w fun e w' => ∃ a c, e = .returned (.agg #[.bool (n1 != n2), .slice a (grp (x1 * x2)).length c]) ∧ NatA w' (.slice a (grp (x1 * x2)).length c) (grp (x1 * x2)) ∧ Below w.heap.size w w' := by
  have mt := meth_times
  have HT1 := hid (fun W (hb : Below w.heap.size w W) => intTimes_slice n1 n2 _ x1 x2 _ _ W rfl (hx1.below hb (Nat.le_refl _)) (hx2.below hb (Nat.le_refl _)) (by omega) (by omega))
  generalize x1 * x2 = Z at *
  generalize (n1 != n2) = S at *
  obtain ⟨W0, HW0⟩ : ∃ W, Hid (((w.alloc (boxR n1 (.slice a1 l1 c1) m1 (.slice b1 k1 d1))).alloc (boxR n2 (.slice a2 l2 c2) m2 (.slice b2 k2 d2))).alloc (boxI false (.slice none 0 0)) = W) := ⟨_, rfl⟩
  have HX : Hid (∀ W, Below (w.heap.size + 3) W0 W → Own W w.heap.size 61 #[.bool n1, .slice a1 l1 c1, .bool m1, .slice b1 k1 d1] ∧ Own W (w.heap.size + 1) 61 #[.bool n2, .slice a2 l2 c2, .bool m2, .slice b2 k2 d2] ∧ Own W (w.heap.size + 1 + 1) 50 #[.bool false, .slice none 0 0] ∧ Below w.heap.size w W) := fun W h => by
    rw [← HW0.out] at h
    exact boxes3 w _ _ _ _ _ _ h
  have HS0 : Hid (w.heap.size + 3 ≤ W0.heap.size) := by show _ ≤ _; rw [← HW0.out]; simp
  have HB0 : Hid (Below (w.heap.size + 3) W0 W0) := Below.refl _ _
  obtain ⟨⟨e0, e1, e2, e3⟩, -⟩ := own4V (HX.out _ HB0.out).1
  obtain ⟨⟨f0, f1, f2, f3⟩, -⟩ := own4V (HX.out _ HB0.out).2.1
  clear hx1 hx2 g1 g3
  go_enter Tryd.func48, Tryd.ntmps48
  go_wp2_with fail
  rw [HW0.out]
  go_wp2_with fail
  refine (HT1.out _ (HX.out _ HB0.out).2.2.2).mono ?_
  rintro e w3 ⟨ta, tc, rfl, hu, hw3⟩
  have HU := hid hu
  have HB := hid (HB0.out.trans (hw3.mono HS0.out))
  clear hu hw3 e0 e1 e2 e3 f0 f1 f2 f3
  obtain ⟨⟨r0, r1⟩, q0, q1⟩ := own2V (HX.out _ HB.out).2.2.1
  go_wp2_with fail
  refine bodyPost_ret (v := .agg #[.bool S, .slice ta (grp Z).length tc]) (by simp [results, Tryd.results48, go_sem, r0, r1]) rfl ⟨ta, tc, rfl, ?_, ?_⟩
  · exact natA_set2 HU.out (HX.out _ HB.out).2.2.1 _ _
  · exact below_set2 (HX.out _ HB.out).2.2.2 (by omega) _ _
end Go.Proofs.YtbbffhpppacihaaDoor

namespace Go.Proofs.YtbbffhpppacihaaDoor
open Go.RowKit Go.Siskin

theorem ratBox_no (n m : Bool) (a b : Option Addr) (l c k d : Nat) : ∀ (i : Nat) (z : Int), (#[Value.bool n, .slice a l c, .bool m, .slice b k d] : Array Value)[i]? ≠ some (.int .u64 z) := by
  intro i z
  rcases i with _ | _ | _ | _ | i <;> simp
theorem natA_set4 {w : World} {v : Value} {gs : List Nat} {fb : Nat} {e : TypeId} {n m : Bool} {a b : Option Addr} {l c k d : Nat} (h : NatA w v gs) (ho : Own w fb e #[.bool n, .slice a l c, .bool m, .slice b k d]) (x y z t : Value) : NatA ((((w.setCell ⟨fb, 0, none⟩ x).setCell ⟨fb, 1, none⟩ y).setCell ⟨fb, 2, none⟩ z).setCell ⟨fb, 3, none⟩ t) v gs :=
  natA_boxG h ho (ratBox_no n m a b l c k d) (fun b hb => by rw [Below.heap_setCell _ _ _ _ hb, Below.heap_setCell _ _ _ _ hb, Below.heap_setCell _ _ _ _ hb, Below.heap_setCell _ _ _ _ hb]) (by simp [World.setCell])

set_option maxRecDepth 20000 in
set_option maxHeartbeats 4000000 in
theorem overSum_any (n1 n2 : Bool) (x1 y1 x2 y2 : Nat) (a1 b1 a2 b2 : Option Addr) (l1 c1 k1 d1 l2 c2 k2 d2 : Nat) (w : World) (hx1 : NatA w (.slice a1 l1 c1) (grp x1)) (hy1 : NatA w (.slice b1 k1 d1) (grp y1)) (hx2 : NatA w (.slice a2 l2 c2) (grp x2)) (hy2 : NatA w (.slice b2 k2 d2) (grp y2))
    (g1 : nG x1 ≤ 100) (g2 : nG y1 ≤ 100) (g3 : nG x2 ≤ 100) (g4 : nG y2 ≤ 100) :
    Calls Tryd.prog 45 #[.agg #[.bool n1, .slice a1 l1 c1, .bool false, .slice b1 k1 d1], .agg #[.bool n2, .slice a2 l2 c2, .bool false, .slice b2 k2 d2], .func (.func 46) #[] #[]] w fun e w' => ∃ a c b d, e = .returned (.agg #[.bool (sumN n1 (x1 * y2) n2 (x2 * y1)), .slice a (grp (sumZ n1 (x1 * y2) n2 (x2 * y1))).length c, .bool (false), .slice b (grp (y1 * y2)).length d]) ∧ NatA w' (.slice a (grp (sumZ n1 (x1 * y2) n2 (x2 * y1))).length c) (grp (sumZ n1 (x1 * y2) n2 (x2 * y1))) ∧ NatA w' (.slice b (grp (y1 * y2)).length d) (grp (y1 * y2)) ∧ Below w.heap.size w w' := by
  have mt := meth_times
  have HF := hid (fun W (hb : Below w.heap.size w W) => sumAbove_any n1 n2 x1 y1 x2 y2 a1 b1 a2 b2 l1 c1 k1 d1 l2 c2 k2 d2 W (hx1.below hb (Nat.le_refl _)) (hy1.below hb (Nat.le_refl _)) (hx2.below hb (Nat.le_refl _)) (hy2.below hb (Nat.le_refl _)) g1 g2 g3 g4)
  have HTd := hid (fun W (hb : Below w.heap.size w W) => intTimes_slice false false false y1 y2 _ _ W rfl (hy1.below hb (Nat.le_refl _)) (hy2.below hb (Nat.le_refl _)) (by omega) (by omega))
  generalize sumN n1 (x1 * y2) n2 (x2 * y1) = S at *
  generalize sumZ n1 (x1 * y2) n2 (x2 * y1) = Z at *
  generalize y1 * y2 = D at *
  obtain ⟨W0, HW0⟩ : ∃ W, Hid (((w.alloc (boxR n1 (.slice a1 l1 c1) false (.slice b1 k1 d1))).alloc (boxR n2 (.slice a2 l2 c2) false (.slice b2 k2 d2))).alloc (boxR false (.slice none 0 0) false (.slice none 0 0)) = W) := ⟨_, rfl⟩
  have HX : Hid (∀ W, Below (w.heap.size + 3) W0 W → Own W w.heap.size 61 #[.bool n1, .slice a1 l1 c1, .bool false, .slice b1 k1 d1] ∧ Own W (w.heap.size + 1) 61 #[.bool n2, .slice a2 l2 c2, .bool false, .slice b2 k2 d2] ∧ Own W (w.heap.size + 1 + 1) 61 #[.bool false, .slice none 0 0, .bool false, .slice none 0 0] ∧ Below w.heap.size w W) := fun W h => by
    rw [← HW0.out] at h
    exact boxes3 w _ _ _ _ _ _ h
  have HSt : Hid (∀ W, Below (w.heap.size + 3) W0 W → ∀ x' y' z' t' : Value, (((((W.setCell ⟨w.heap.size + 1 + 1, 0, none⟩ x').setCell ⟨w.heap.size + 1 + 1, 1, none⟩ y').setCell ⟨w.heap.size + 1 + 1, 2, none⟩ z').setCell ⟨w.heap.size + 1 + 1, 3, none⟩ t').cell? ⟨w.heap.size, 0, none⟩ = some (.bool n1) ∧ ((((W.setCell ⟨w.heap.size + 1 + 1, 0, none⟩ x').setCell ⟨w.heap.size + 1 + 1, 1, none⟩ y').setCell ⟨w.heap.size + 1 + 1, 2, none⟩ z').setCell ⟨w.heap.size + 1 + 1, 3, none⟩ t').cell? ⟨w.heap.size, 1, none⟩ = some (.slice a1 l1 c1) ∧ ((((W.setCell ⟨w.heap.size + 1 + 1, 0, none⟩ x').setCell ⟨w.heap.size + 1 + 1, 1, none⟩ y').setCell ⟨w.heap.size + 1 + 1, 2, none⟩ z').setCell ⟨w.heap.size + 1 + 1, 3, none⟩ t').cell? ⟨w.heap.size, 2, none⟩ = some (.bool false) ∧ ((((W.setCell ⟨w.heap.size + 1 + 1, 0, none⟩ x').setCell ⟨w.heap.size + 1 + 1, 1, none⟩ y').setCell ⟨w.heap.size + 1 + 1, 2, none⟩ z').setCell ⟨w.heap.size + 1 + 1, 3, none⟩ t').cell? ⟨w.heap.size, 3, none⟩ = some (.slice b1 k1 d1)) ∧ ((((W.setCell ⟨w.heap.size + 1 + 1, 0, none⟩ x').setCell ⟨w.heap.size + 1 + 1, 1, none⟩ y').setCell ⟨w.heap.size + 1 + 1, 2, none⟩ z').setCell ⟨w.heap.size + 1 + 1, 3, none⟩ t').cell? ⟨w.heap.size + 1, 0, none⟩ = some (.bool n2) ∧ ((((W.setCell ⟨w.heap.size + 1 + 1, 0, none⟩ x').setCell ⟨w.heap.size + 1 + 1, 1, none⟩ y').setCell ⟨w.heap.size + 1 + 1, 2, none⟩ z').setCell ⟨w.heap.size + 1 + 1, 3, none⟩ t').cell? ⟨w.heap.size + 1, 1, none⟩ = some (.slice a2 l2 c2) ∧ ((((W.setCell ⟨w.heap.size + 1 + 1, 0, none⟩ x').setCell ⟨w.heap.size + 1 + 1, 1, none⟩ y').setCell ⟨w.heap.size + 1 + 1, 2, none⟩ z').setCell ⟨w.heap.size + 1 + 1, 3, none⟩ t').cell? ⟨w.heap.size + 1, 2, none⟩ = some (.bool false) ∧ ((((W.setCell ⟨w.heap.size + 1 + 1, 0, none⟩ x').setCell ⟨w.heap.size + 1 + 1, 1, none⟩ y').setCell ⟨w.heap.size + 1 + 1, 2, none⟩ z').setCell ⟨w.heap.size + 1 + 1, 3, none⟩ t').cell? ⟨w.heap.size + 1, 3, none⟩ = some (.slice b2 k2 d2)) := fun W h x' y' z' t' => by
    have h0 := HX.out W h
    exact ⟨(own4V (own_set4 h0.1 (by omega) x' y' z' t')).1, (own4V (own_set4 h0.2.1 (by omega) x' y' z' t')).1⟩
  have HS0 : Hid (w.heap.size + 3 ≤ W0.heap.size) := by show _ ≤ _; rw [← HW0.out]; simp
  clear hx1 hy1 hx2 hy2 g1 g2 g3 g4
  go_enter Tryd.func45, Tryd.ntmps45
  go_wp2_with fail
  rw [HW0.out]
  have HB : Hid (Below (w.heap.size + 3) W0 W0.drew) := (Below.refl _ _).drew
  obtain ⟨⟨r0, r1, r2, r3⟩, q0, q1, q2, q3⟩ := own4V (HX.out _ HB.out).2.2.1
  go_region_held3 (fun W => (W.cell? ⟨w.heap.size, 0, none⟩ = some (.bool n1) ∧ W.cell? ⟨w.heap.size, 1, none⟩ = some (.slice a1 l1 c1) ∧ W.cell? ⟨w.heap.size, 2, none⟩ = some (.bool false) ∧ W.cell? ⟨w.heap.size, 3, none⟩ = some (.slice b1 k1 d1)) ∧ W.cell? ⟨w.heap.size + 1, 0, none⟩ = some (.bool n2) ∧ W.cell? ⟨w.heap.size + 1, 1, none⟩ = some (.slice a2 l2 c2) ∧ W.cell? ⟨w.heap.size + 1, 2, none⟩ = some (.bool false) ∧ W.cell? ⟨w.heap.size + 1, 3, none⟩ = some (.slice b2 k2 d2))
    (first
      | exact ⟨(own4V (HX.out _ HB.out).1).1, (own4V (HX.out _ HB.out).2.1).1⟩
      | exact HSt.out _ HB.out _ _ _ _)
    (first
      | (go_at_call 46
         go_loud (
         refine (HF.out _ (HX.out _ HB.out).2.2.2).mono ?_
         rintro e w3 ⟨ta, tc, rfl, hu, hw3⟩
         have HTa := hid hu
         first
           | (have HTb := hid (HTb.out.below hw3 (Nat.le_refl _)))
           | skip
         have HB := hid (HB.out.trans (hw3.mono (Nat.le_trans HS0.out HB.out.size)))
         clear hu hw3 r0 r1 r2 r3 q0 q1 q2 q3
         obtain ⟨⟨r0, r1, r2, r3⟩, q0, q1, q2, q3⟩ := own4V (HX.out _ HB.out).2.2.1))
      | (go_at_call 141
         go_loud (
         refine (HTd.out _ (HX.out _ HB.out).2.2.2).mono ?_
         rintro e w4 ⟨sa, sc, rfl, hu, hw3⟩
         have HTb := hid hu
         first
           | (have HTa := hid (HTa.out.below hw3 (Nat.le_refl _)))
           | skip
         have HB := hid (HB.out.trans (hw3.mono (Nat.le_trans HS0.out HB.out.size)))
         clear hu hw3 r0 r1 r2 r3 q0 q1 q2 q3
         obtain ⟨⟨r0, r1, r2, r3⟩, q0, q1, q2, q3⟩ := own4V (HX.out _ HB.out).2.2.1)))
  all_goals
    go_wp2_with fail
    refine bodyPost_ret (v := .agg #[.bool S, .slice ta (grp Z).length tc, .bool false, .slice sa (grp D).length sc]) (by simp [results, Tryd.results45, go_sem, r0, r1, r2, r3]) rfl ⟨ta, tc, sa, sc, rfl, ?_, ?_, ?_⟩
    · exact natA_set4 HTa.out (HX.out _ HB.out).2.2.1 _ _ _ _
    · exact natA_set4 HTb.out (HX.out _ HB.out).2.2.1 _ _ _ _
    · exact below_set4 (HX.out _ HB.out).2.2.2 (by omega) _ _ _ _

set_option maxRecDepth 20000 in
set_option maxHeartbeats 4000000 in
theorem overProduct_any (n1 m1 m2 n2 : Bool) (x1 y1 x2 y2 : Nat) (a1 b1 a2 b2 : Option Addr) (l1 c1 k1 d1 l2 c2 k2 d2 : Nat) (w : World) (hx1 : NatA w (.slice a1 l1 c1) (grp x1)) (hy1 : NatA w (.slice b1 k1 d1) (grp y1)) (hx2 : NatA w (.slice a2 l2 c2) (grp x2)) (hy2 : NatA w (.slice b2 k2 d2) (grp y2))
    (g1 : nG x1 ≤ 100) (g2 : nG y1 ≤ 100) (g3 : nG x2 ≤ 100) (g4 : nG y2 ≤ 100) :
    Calls Tryd.prog 45 #[.agg #[.bool n1, .slice a1 l1 c1, .bool m1, .slice b1 k1 d1], .agg #[.bool n2, .slice a2 l2 c2, .bool m2, .slice b2 k2 d2], .func (.func 48) #[] #[]] w fun e w' => ∃ a c b d, e = .returned (.agg #[.bool (n1 != n2), .slice a (grp (x1 * x2)).length c, .bool (m1 != m2), .slice b (grp (y1 * y2)).length d]) ∧ NatA w' (.slice a (grp (x1 * x2)).length c) (grp (x1 * x2)) ∧ NatA w' (.slice b (grp (y1 * y2)).length d) (grp (y1 * y2)) ∧ Below w.heap.size w w' := by
  have mt := meth_times
  have HF := hid (fun W (hb : Below w.heap.size w W) => productAbove_any n1 m1 n2 m2 x1 x2 a1 b1 a2 b2 l1 c1 k1 d1 l2 c2 k2 d2 W (hx1.below hb (Nat.le_refl _)) (hx2.below hb (Nat.le_refl _)) g1 g3)
  have HTd := hid (fun W (hb : Below w.heap.size w W) => intTimes_slice m1 m2 _ y1 y2 _ _ W rfl (hy1.below hb (Nat.le_refl _)) (hy2.below hb (Nat.le_refl _)) (by omega) (by omega))
  generalize (n1 != n2) = S at *
  generalize x1 * x2 = Z at *
  generalize y1 * y2 = D at *
  generalize (m1 != m2) = M at *
  obtain ⟨W0, HW0⟩ : ∃ W, Hid (((w.alloc (boxR n1 (.slice a1 l1 c1) m1 (.slice b1 k1 d1))).alloc (boxR n2 (.slice a2 l2 c2) m2 (.slice b2 k2 d2))).alloc (boxR false (.slice none 0 0) false (.slice none 0 0)) = W) := ⟨_, rfl⟩
  have HX : Hid (∀ W, Below (w.heap.size + 3) W0 W → Own W w.heap.size 61 #[.bool n1, .slice a1 l1 c1, .bool m1, .slice b1 k1 d1] ∧ Own W (w.heap.size + 1) 61 #[.bool n2, .slice a2 l2 c2, .bool m2, .slice b2 k2 d2] ∧ Own W (w.heap.size + 1 + 1) 61 #[.bool false, .slice none 0 0, .bool false, .slice none 0 0] ∧ Below w.heap.size w W) := fun W h => by
    rw [← HW0.out] at h
    exact boxes3 w _ _ _ _ _ _ h
  have HSt : Hid (∀ W, Below (w.heap.size + 3) W0 W → ∀ x' y' z' t' : Value, (((((W.setCell ⟨w.heap.size + 1 + 1, 0, none⟩ x').setCell ⟨w.heap.size + 1 + 1, 1, none⟩ y').setCell ⟨w.heap.size + 1 + 1, 2, none⟩ z').setCell ⟨w.heap.size + 1 + 1, 3, none⟩ t').cell? ⟨w.heap.size, 0, none⟩ = some (.bool n1) ∧ ((((W.setCell ⟨w.heap.size + 1 + 1, 0, none⟩ x').setCell ⟨w.heap.size + 1 + 1, 1, none⟩ y').setCell ⟨w.heap.size + 1 + 1, 2, none⟩ z').setCell ⟨w.heap.size + 1 + 1, 3, none⟩ t').cell? ⟨w.heap.size, 1, none⟩ = some (.slice a1 l1 c1) ∧ ((((W.setCell ⟨w.heap.size + 1 + 1, 0, none⟩ x').setCell ⟨w.heap.size + 1 + 1, 1, none⟩ y').setCell ⟨w.heap.size + 1 + 1, 2, none⟩ z').setCell ⟨w.heap.size + 1 + 1, 3, none⟩ t').cell? ⟨w.heap.size, 2, none⟩ = some (.bool m1) ∧ ((((W.setCell ⟨w.heap.size + 1 + 1, 0, none⟩ x').setCell ⟨w.heap.size + 1 + 1, 1, none⟩ y').setCell ⟨w.heap.size + 1 + 1, 2, none⟩ z').setCell ⟨w.heap.size + 1 + 1, 3, none⟩ t').cell? ⟨w.heap.size, 3, none⟩ = some (.slice b1 k1 d1)) ∧ ((((W.setCell ⟨w.heap.size + 1 + 1, 0, none⟩ x').setCell ⟨w.heap.size + 1 + 1, 1, none⟩ y').setCell ⟨w.heap.size + 1 + 1, 2, none⟩ z').setCell ⟨w.heap.size + 1 + 1, 3, none⟩ t').cell? ⟨w.heap.size + 1, 0, none⟩ = some (.bool n2) ∧ ((((W.setCell ⟨w.heap.size + 1 + 1, 0, none⟩ x').setCell ⟨w.heap.size + 1 + 1, 1, none⟩ y').setCell ⟨w.heap.size + 1 + 1, 2, none⟩ z').setCell ⟨w.heap.size + 1 + 1, 3, none⟩ t').cell? ⟨w.heap.size + 1, 1, none⟩ = some (.slice a2 l2 c2) ∧ ((((W.setCell ⟨w.heap.size + 1 + 1, 0, none⟩ x').setCell ⟨w.heap.size + 1 + 1, 1, none⟩ y').setCell ⟨w.heap.size + 1 + 1, 2, none⟩ z').setCell ⟨w.heap.size + 1 + 1, 3, none⟩ t').cell? ⟨w.heap.size + 1, 2, none⟩ = some (.bool m2) ∧ ((((W.setCell ⟨w.heap.size + 1 + 1, 0, none⟩ x').setCell ⟨w.heap.size + 1 + 1, 1, none⟩ y').setCell ⟨w.heap.size + 1 + 1, 2, none⟩ z').setCell ⟨w.heap.size + 1 + 1, 3, none⟩ t').cell? ⟨w.heap.size + 1, 3, none⟩ = some (.slice b2 k2 d2)) := fun W h x' y' z' t' => by
    have h0 := HX.out W h
    exact ⟨(own4V (own_set4 h0.1 (by omega) x' y' z' t')).1, (own4V (own_set4 h0.2.1 (by omega) x' y' z' t')).1⟩
  have HS0 : Hid (w.heap.size + 3 ≤ W0.heap.size) := by show _ ≤ _; rw [← HW0.out]; simp
  clear hx1 hy1 hx2 hy2 g1 g2 g3 g4
  go_enter Tryd.func45, Tryd.ntmps45
  go_wp2_with fail
  rw [HW0.out]
  have HB : Hid (Below (w.heap.size + 3) W0 W0.drew) := (Below.refl _ _).drew
  obtain ⟨⟨r0, r1, r2, r3⟩, q0, q1, q2, q3⟩ := own4V (HX.out _ HB.out).2.2.1
  go_region_held3 (fun W => (W.cell? ⟨w.heap.size, 0, none⟩ = some (.bool n1) ∧ W.cell? ⟨w.heap.size, 1, none⟩ = some (.slice a1 l1 c1) ∧ W.cell? ⟨w.heap.size, 2, none⟩ = some (.bool m1) ∧ W.cell? ⟨w.heap.size, 3, none⟩ = some (.slice b1 k1 d1)) ∧ W.cell? ⟨w.heap.size + 1, 0, none⟩ = some (.bool n2) ∧ W.cell? ⟨w.heap.size + 1, 1, none⟩ = some (.slice a2 l2 c2) ∧ W.cell? ⟨w.heap.size + 1, 2, none⟩ = some (.bool m2) ∧ W.cell? ⟨w.heap.size + 1, 3, none⟩ = some (.slice b2 k2 d2))
    (first
      | exact ⟨(own4V (HX.out _ HB.out).1).1, (own4V (HX.out _ HB.out).2.1).1⟩
      | exact HSt.out _ HB.out _ _ _ _)
    (first
      | (go_at_call 48
         go_loud (
         refine (HF.out _ (HX.out _ HB.out).2.2.2).mono ?_
         rintro e w3 ⟨ta, tc, rfl, hu, hw3⟩
         have HTa := hid hu
         first
           | (have HTb := hid (HTb.out.below hw3 (Nat.le_refl _)))
           | skip
         have HB := hid (HB.out.trans (hw3.mono (Nat.le_trans HS0.out HB.out.size)))
         clear hu hw3 r0 r1 r2 r3 q0 q1 q2 q3
         obtain ⟨⟨r0, r1, r2, r3⟩, q0, q1, q2, q3⟩ := own4V (HX.out _ HB.out).2.2.1))
      | (go_at_call 141
         go_loud (
         refine (HTd.out _ (HX.out _ HB.out).2.2.2).mono ?_
         rintro e w4 ⟨sa, sc, rfl, hu, hw3⟩
         have HTb := hid hu
         first
           | (have HTa := hid (HTa.out.below hw3 (Nat.le_refl _)))
           | skip
         have HB := hid (HB.out.trans (hw3.mono (Nat.le_trans HS0.out HB.out.size)))
         clear hu hw3 r0 r1 r2 r3 q0 q1 q2 q3
         obtain ⟨⟨r0, r1, r2, r3⟩, q0, q1, q2, q3⟩ := own4V (HX.out _ HB.out).2.2.1)))
  all_goals
    go_wp2_with fail
    refine bodyPost_ret (v := .agg #[.bool S, .slice ta (grp Z).length tc, .bool M, .slice sa (grp D).length sc]) (by simp [results, Tryd.results45, go_sem, r0, r1, r2, r3]) rfl ⟨ta, tc, sa, sc, rfl, ?_, ?_, ?_⟩
    · exact natA_set4 HTa.out (HX.out _ HB.out).2.2.1 _ _ _ _
    · exact natA_set4 HTb.out (HX.out _ HB.out).2.2.1 _ _ _ _
    · exact below_set4 (HX.out _ HB.out).2.2.2 (by omega) _ _ _ _
end Go.Proofs.YtbbffhpppacihaaDoor
