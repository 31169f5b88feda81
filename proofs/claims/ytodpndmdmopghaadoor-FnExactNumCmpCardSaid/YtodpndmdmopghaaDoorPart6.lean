/-
  The program's whole numbers and ratios: opposite, sign, ratioOf, turned. Condition: what is above and below lies in memory.
  The program's sumAbove and productAbove. Condition: the groups lie in memory as NatA says; at most 100 groups each.
  The program's digits of a natural. Condition: the groups lie in memory as NatA says, and the table of powers stands.
-/
import Derived.Test.YtodpndmdmopghaaDoorPart5
import Derived.Test.YtodpndmdmopghaaDoorPart1
namespace Go.Proofs.YtodpndmdmopghaaDoor
open Go.RowKit Go.Siskin

theorem meth_times (x : Value) (w : World) : (method 249 77 x "loop.example/siskin/impl.times").run Tryd.prog w = .ok (125, x) w := by kernel_rfl
theorem meth_plus (x : Value) (w : World) : (method 249 77 x "loop.example/siskin/impl.plus").run Tryd.prog w = .ok (124, x) w := by kernel_rfl
theorem meth_opposite (x : Value) (w : World) : (method 249 77 x "loop.example/siskin/impl.opposite").run Tryd.prog w = .ok (123, x) w := by kernel_rfl

/-- Two boxes of a call's own. -/
theorem boxes2 (w : World) (c1 c2 : Array Value) (t1 t2 : TypeId) {W : World} (h : Below (w.heap.size + 2) ((w.alloc (.cells c1 t1)).alloc (.cells c2 t2)) W) :
    Own W w.heap.size t1 c1 ∧ Own W (w.heap.size + 1) t2 c2 ∧ Below w.heap.size w W := by
  have h1 : Own ((w.alloc (.cells c1 t1)).alloc (.cells c2 t2)) w.heap.size t1 c1 := (Below.heap_alloc _ _ _ (by simp)).trans (own_new w _ _)
  have h2 := own_new (w.alloc (.cells c1 t1)) c2 t2
  rw [World.size_alloc] at h2
  exact ⟨h1.keep h (by omega), h2.keep h (by omega), (((Below.refl _ _).alloc (Nat.le_refl _) _).alloc (by simp) _).trans (h.mono (by omega))⟩
abbrev boxR (n : Bool) (v : Value) (m : Bool) (u : Value) : Obj := .cells #[.bool n, v, .bool m, u] 79
theorem own4V {w : World} {g : Nat} {e : TypeId} {a b c d : Value} (h : Own w g e #[a, b, c, d]) : (w.cell? ⟨g, 0, none⟩ = some a ∧ w.cell? ⟨g, 1, none⟩ = some b ∧ w.cell? ⟨g, 2, none⟩ = some c ∧ w.cell? ⟨g, 3, none⟩ = some d) ∧ w.frozen? ⟨g, 0, none⟩ = false ∧ w.frozen? ⟨g, 1, none⟩ = false ∧ w.frozen? ⟨g, 2, none⟩ = false ∧ w.frozen? ⟨g, 3, none⟩ = false :=
  ⟨⟨h.cell 0, h.cell 1, h.cell 2, h.cell 3⟩, h.frozen 0, h.frozen 1, h.frozen 2, h.frozen 3⟩

set_option maxRecDepth 20000 in
set_option maxHeartbeats 1000000 in
theorem intOpposite_any (n : Bool) (a : Option Addr) (l c : Nat) (w : World) :
    Calls Tryd.prog 123 #[.agg #[.bool n, .slice a l c]] w fun e w' => e = .returned (.agg #[.bool !n, .slice a l c]) ∧ Below w.heap.size w w' := by
  go_enter Tryd.func123, Tryd.ntmps123
  go_wp2_with fail
  have h2 := own_new (w.alloc (boxI n (.slice a l c))) #[.bool !n, .slice a l c] 77
  rw [World.size_alloc] at h2
  obtain ⟨⟨r0, r1⟩, -⟩ := own2V h2
  refine bodyPost_ret (v := .agg #[.bool !n, .slice a l c]) (by simp [results, Tryd.results123, go_sem, r0, r1]) rfl ⟨rfl, ?_⟩
  exact ((Below.refl _ _).alloc (Nat.le_refl _) _).alloc (by simp) _

def signI (n : Bool) (x : Nat) : Int := if x = 0 then 0 else if n then -1 else 1

set_option maxRecDepth 20000 in
set_option maxHeartbeats 1000000 in
theorem intSign_any (n : Bool) (x : Nat) (v : Value) (w : World) (h : NatA w v (grp x)) :
    Calls Tryd.prog 52 #[.agg #[.bool n, v]] w fun e w' => e = .returned (.int .i64 (signI n x)) ∧ Below w.heap.size w w' := by
  obtain ⟨a, c, rfl⟩ := natA_formR h
  have HN := hid (isNought_any x _ _ (h.alloc (boxI n (.slice a (grp x).length c))))
  have h0 := own_new w #[.bool n, .slice a (grp x).length c] 77
  obtain ⟨⟨a0, a1⟩, -⟩ := own2V h0
  have HB : Hid (Below w.heap.size w (w.alloc (boxI n (.slice a (grp x).length c)))) := (Below.refl _ _).alloc (Nat.le_refl _) _
  clear h h0
  obtain ⟨z, hz⟩ : ∃ z, signI n x = z := ⟨_, rfl⟩
  rw [hz]
  have hc : ((x == 0) = true ∧ z = 0) ∨ ((x == 0) = false ∧ n = true ∧ z = -1) ∨ ((x == 0) = false ∧ n = false ∧ z = 1) := by
    rw [← hz]; unfold signI
    by_cases hx : x = 0
    · exact Or.inl ⟨by rw [hx]; rfl, if_pos hx⟩
    · cases n
      · exact Or.inr (Or.inr ⟨by simpa using hx, rfl, by rw [if_neg hx]; rfl⟩)
      · exact Or.inr (Or.inl ⟨by simpa using hx, rfl, by rw [if_neg hx]; rfl⟩)
  clear hz
  rcases hc with ⟨h1, rfl⟩ | ⟨h1, rfl, rfl⟩ | ⟨h1, rfl, rfl⟩
  all_goals
    rw [h1] at HN
    go_enter Tryd.func52, Tryd.ntmps52
    go_wp2_with fail
    refine HN.out.mono ?_
    rintro e w' ⟨rfl, hw⟩
    obtain rfl := hw.symm
    go_wp2_with fail
    go_ret
    exact ⟨rfl, HB.out⟩

set_option maxRecDepth 20000 in
set_option maxHeartbeats 1000000 in
theorem ratioOf_any (n : Bool) (a b : Option Addr) (l c k d : Nat) (w : World) :
    Calls Tryd.prog 77 #[.agg #[.bool n, .slice a l c, .slice b k d]] w fun e w' => e = .returned (.agg #[.bool n, .slice a l c, .bool false, .slice b k d]) ∧ Below w.heap.size w w' := by
  go_enter Tryd.func77, Tryd.ntmps77
  go_wp2_with fail
  have h2 := own_new (w.alloc (.cells #[.bool n, .slice a l c, .slice b k d] 46)) #[.bool n, .slice a l c, .bool false, .slice b k d] 79
  rw [World.size_alloc] at h2
  obtain ⟨⟨r0, r1, r2, r3⟩, -⟩ := own4V h2
  refine bodyPost_ret (v := .agg #[.bool n, .slice a l c, .bool false, .slice b k d]) (by simp [results, Tryd.results77, go_sem, r0, r1, r2, r3]) rfl ⟨rfl, ?_⟩
  exact ((Below.refl _ _).alloc (Nat.le_refl _) _).alloc (by simp) _

set_option maxRecDepth 20000 in
set_option maxHeartbeats 1000000 in
theorem ratioOpposite_any (n m : Bool) (a b : Option Addr) (l c k d : Nat) (w : World) :
    Calls Tryd.prog 51 #[.agg #[.bool n, .slice a l c, .bool m, .slice b k d]] w fun e w' => e = .returned (.agg #[.bool !n, .slice a l c, .bool m, .slice b k d]) ∧ Below w.heap.size w w' := by
  have HO := hid (fun w => intOpposite_any n a l c w)
  have mo := meth_opposite
  obtain ⟨W0, HW0⟩ : ∃ W, Hid ((w.alloc (boxR n (.slice a l c) m (.slice b k d))).alloc (boxR false (.slice none 0 0) false (.slice none 0 0)) = W) := ⟨_, rfl⟩
  have HX : Hid (∀ W, Below (w.heap.size + 2) W0 W → Own W w.heap.size 79 #[.bool n, .slice a l c, .bool m, .slice b k d] ∧ Own W (w.heap.size + 1) 79 #[.bool false, .slice none 0 0, .bool false, .slice none 0 0] ∧ Below w.heap.size w W) := fun W h => by
    rw [← HW0.out] at h
    exact boxes2 w _ _ _ _ h
  have HSt : Hid (∀ W, Below (w.heap.size + 2) W0 W → ∀ x y z t : Value, (((((W.setCell ⟨w.heap.size + 1, 0, none⟩ x).setCell ⟨w.heap.size + 1, 1, none⟩ y).setCell ⟨w.heap.size + 1, 2, none⟩ z).setCell ⟨w.heap.size + 1, 3, none⟩ t).cell? ⟨w.heap.size, 0, none⟩ = some (.bool n) ∧ ((((W.setCell ⟨w.heap.size + 1, 0, none⟩ x).setCell ⟨w.heap.size + 1, 1, none⟩ y).setCell ⟨w.heap.size + 1, 2, none⟩ z).setCell ⟨w.heap.size + 1, 3, none⟩ t).cell? ⟨w.heap.size, 1, none⟩ = some (.slice a l c) ∧
      ((((W.setCell ⟨w.heap.size + 1, 0, none⟩ x).setCell ⟨w.heap.size + 1, 1, none⟩ y).setCell ⟨w.heap.size + 1, 2, none⟩ z).setCell ⟨w.heap.size + 1, 3, none⟩ t).cell? ⟨w.heap.size, 2, none⟩ = some (.bool m) ∧ ((((W.setCell ⟨w.heap.size + 1, 0, none⟩ x).setCell ⟨w.heap.size + 1, 1, none⟩ y).setCell ⟨w.heap.size + 1, 2, none⟩ z).setCell ⟨w.heap.size + 1, 3, none⟩ t).cell? ⟨w.heap.size, 3, none⟩ = some (.slice b k d))) := fun W h x y z t => (own4V (own_set4 (HX.out W h).1 (by omega) x y z t)).1
  have HS0 : Hid (w.heap.size + 2 ≤ W0.heap.size) := by show _ ≤ _; rw [← HW0.out]; simp
  go_enter Tryd.func51, Tryd.ntmps51
  go_wp2_with fail
  rw [HW0.out]
  have HB : Hid (Below (w.heap.size + 2) W0 W0.drew) := (Below.refl _ _).drew
  obtain ⟨⟨r0, r1, r2, r3⟩, q0, q1, q2, q3⟩ := own4V (HX.out _ HB.out).2.1
  go_region_held3 (fun W => W.cell? ⟨w.heap.size, 0, none⟩ = some (.bool n) ∧ W.cell? ⟨w.heap.size, 1, none⟩ = some (.slice a l c) ∧ W.cell? ⟨w.heap.size, 2, none⟩ = some (.bool m) ∧ W.cell? ⟨w.heap.size, 3, none⟩ = some (.slice b k d))
    (first
      | exact (own4V (HX.out _ HB.out).1).1
      | exact HSt.out _ HB.out _ _ _ _)
    (first
      | (go_at_call 123
         go_loud (
         refine (HO.out _).mono ?_
         rintro e w3 ⟨rfl, hw3⟩
         have HB := hid (HB.out.trans (hw3.mono (Nat.le_trans HS0.out HB.out.size)))
         clear hw3 r0 r1 r2 r3 q0 q1 q2 q3
         obtain ⟨⟨r0, r1, r2, r3⟩, q0, q1, q2, q3⟩ := own4V (HX.out _ HB.out).2.1)))
  go_wp2_with fail
  refine bodyPost_ret (v := .agg #[.bool !n, .slice a l c, .bool m, .slice b k d]) (by simp [results, Tryd.results51, go_sem, r0, r1, r2, r3]) rfl ⟨rfl, ?_⟩
  exact below_set4 (HX.out _ HB.out).2.2 (by omega) _ _ _ _
end Go.Proofs.YtodpndmdmopghaaDoor

namespace Go.Proofs.YtodpndmdmopghaaDoor
open Go.RowKit Go.Siskin

theorem nG_mul (x y : Nat) : nG (x * y) ≤ nG x + nG y := nG_le (by rw [Nat.pow_add]; exact Nat.mul_lt_mul'' (lt_pow_nG x) (lt_pow_nG y))
/-- The sum of two numbers with signs. -/
def sumN (n1 : Bool) (x : Nat) (n2 : Bool) (y : Nat) : Bool := if n1 = n2 then n1 else if x < y then n2 else n1
def sumZ (n1 : Bool) (x : Nat) (n2 : Bool) (y : Nat) : Nat := if n1 = n2 then x + y else if x < y then y - x else x - y
theorem intPlus_any (n1 n2 : Bool) (x y : Nat) (vx vy : Value) (w : World) (hx : NatA w vx (grp x)) (hy : NatA w vy (grp y)) (hnx : nG x ≤ 5000) (hny : nG y ≤ 5000) :
    Calls Tryd.prog 124 #[.agg #[.bool n1, vx], .agg #[.bool n2, vy]] w fun e w' => ∃ a c, e = .returned (.agg #[.bool (sumN n1 x n2 y), .slice a (grp (sumZ n1 x n2 y)).length c]) ∧ NatA w' (.slice a (grp (sumZ n1 x n2 y)).length c) (grp (sumZ n1 x n2 y)) ∧ Below w.heap.size w w' := by
  by_cases h : n1 = n2
  · subst h
    have e1 : sumN n1 x n1 y = n1 := if_pos rfl
    have e2 : sumZ n1 x n1 y = x + y := if_pos rfl
    rw [e1, e2]
    refine (intPlus_same n1 x y vx vy w hx hy hnx hny).mono ?_
    rintro e w' ⟨u, rfl, h1, h2⟩
    obtain ⟨a, c, rfl⟩ := natA_formR h1
    exact ⟨a, c, rfl, h1, h2⟩
  · have hn : n2 = !n1 := by cases n1 <;> cases n2 <;> simp_all
    subst hn
    have e1 : sumN n1 x (!n1) y = if x < y then !n1 else n1 := if_neg h
    have e2 : sumZ n1 x (!n1) y = if x < y then y - x else x - y := if_neg h
    rw [e1, e2]
    refine (intPlus_diff n1 x y vx vy w hx hy hnx hny).mono ?_
    rintro e w' ⟨u, rfl, h1, h2⟩
    obtain ⟨a, c, rfl⟩ := natA_formR h1
    exact ⟨a, c, rfl, h1, h2⟩
theorem intTimes_slice (n1 n2 n : Bool) (x y : Nat) (vx vy : Value) (w : World) (hn : (n1 != n2) = n) (hx : NatA w vx (grp x)) (hy : NatA w vy (grp y)) (hnx : nG x ≤ 2000) (hny : nG y ≤ 2000) :
    Calls Tryd.prog 125 #[.agg #[.bool n1, vx], .agg #[.bool n2, vy]] w fun e w' => ∃ a c, e = .returned (.agg #[.bool n, .slice a (grp (x * y)).length c]) ∧ NatA w' (.slice a (grp (x * y)).length c) (grp (x * y)) ∧ Below w.heap.size w w' := by
  refine (intTimes_any n1 n2 x y vx vy w hx hy hnx hny).mono ?_
  rintro e w' ⟨u, rfl, h1, h2⟩
  obtain ⟨a, c, rfl⟩ := natA_formR h1
  exact ⟨a, c, by rw [hn], h1, h2⟩

set_option maxRecDepth 20000 in
set_option maxHeartbeats 4000000 in
theorem sumAbove_any (n1 n2 : Bool) (x1 y1 x2 y2 : Nat) (a1 b1 a2 b2 : Option Addr) (l1 c1 k1 d1 l2 c2 k2 d2 : Nat) (w : World) (hx1 : NatA w (.slice a1 l1 c1) (grp x1)) (hy1 : NatA w (.slice b1 k1 d1) (grp y1)) (hx2 : NatA w (.slice a2 l2 c2) (grp x2)) (hy2 : NatA w (.slice b2 k2 d2) (grp y2))
    (g1 : nG x1 ≤ 100) (g2 : nG y1 ≤ 100) (g3 : nG x2 ≤ 100) (g4 : nG y2 ≤ 100) :
    Calls Tryd.prog 50 #[.agg #[.bool n1, .slice a1 l1 c1, .bool false, .slice b1 k1 d1], .agg #[.bool n2, .slice a2 l2 c2, .bool false, .slice b2 k2 d2]] w fun e w' => ∃ a c, e = .returned (.agg #[.bool (sumN n1 (x1 * y2) n2 (x2 * y1)), .slice a (grp (sumZ n1 (x1 * y2) n2 (x2 * y1))).length c]) ∧ NatA w' (.slice a (grp (sumZ n1 (x1 * y2) n2 (x2 * y1))).length c) (grp (sumZ n1 (x1 * y2) n2 (x2 * y1))) ∧ Below w.heap.size w w' := by
  have mt := meth_times
  have mp := meth_plus
  have hf : ∀ b : Bool, (b != false) = b := fun b => by cases b <;> rfl
  have HT1 := hid (fun W (hb : Below w.heap.size w W) => intTimes_slice n1 false n1 x1 y2 _ _ W (hf n1) (hx1.below hb (Nat.le_refl _)) (hy2.below hb (Nat.le_refl _)) (by omega) (by omega))
  have HT2 := hid (fun W (hb : Below w.heap.size w W) => intTimes_slice n2 false n2 x2 y1 _ _ W (hf n2) (hx2.below hb (Nat.le_refl _)) (hy1.below hb (Nat.le_refl _)) (by omega) (by omega))
  have HP := hid (fun va vb W h1 h2 => intPlus_any n1 n2 (x1 * y2) (x2 * y1) va vb W h1 h2 (by have := nG_mul x1 y2; omega) (by have := nG_mul x2 y1; omega))
  generalize x1 * y2 = X at *
  generalize x2 * y1 = Y at *
  generalize sumN n1 X n2 Y = S at *
  generalize sumZ n1 X n2 Y = Z at *
  obtain ⟨W0, HW0⟩ : ∃ W, Hid (((w.alloc (boxR n1 (.slice a1 l1 c1) false (.slice b1 k1 d1))).alloc (boxR n2 (.slice a2 l2 c2) false (.slice b2 k2 d2))).alloc (boxI false (.slice none 0 0)) = W) := ⟨_, rfl⟩
  have HX : Hid (∀ W, Below (w.heap.size + 3) W0 W → Own W w.heap.size 79 #[.bool n1, .slice a1 l1 c1, .bool false, .slice b1 k1 d1] ∧ Own W (w.heap.size + 1) 79 #[.bool n2, .slice a2 l2 c2, .bool false, .slice b2 k2 d2] ∧ Own W (w.heap.size + 1 + 1) 77 #[.bool false, .slice none 0 0] ∧ Below w.heap.size w W) := fun W h => by
    rw [← HW0.out] at h
    exact boxes3 w _ _ _ _ _ _ h
  have HSt : Hid (∀ W, Below (w.heap.size + 3) W0 W → ∀ x' y' : Value, (((W.setCell ⟨w.heap.size + 1 + 1, 0, none⟩ x').setCell ⟨w.heap.size + 1 + 1, 1, none⟩ y').cell? ⟨w.heap.size, 0, none⟩ = some (.bool n1) ∧ ((W.setCell ⟨w.heap.size + 1 + 1, 0, none⟩ x').setCell ⟨w.heap.size + 1 + 1, 1, none⟩ y').cell? ⟨w.heap.size, 1, none⟩ = some (.slice a1 l1 c1) ∧ ((W.setCell ⟨w.heap.size + 1 + 1, 0, none⟩ x').setCell ⟨w.heap.size + 1 + 1, 1, none⟩ y').cell? ⟨w.heap.size, 2, none⟩ = some (.bool false) ∧ ((W.setCell ⟨w.heap.size + 1 + 1, 0, none⟩ x').setCell ⟨w.heap.size + 1 + 1, 1, none⟩ y').cell? ⟨w.heap.size, 3, none⟩ = some (.slice b1 k1 d1)) ∧
      ((W.setCell ⟨w.heap.size + 1 + 1, 0, none⟩ x').setCell ⟨w.heap.size + 1 + 1, 1, none⟩ y').cell? ⟨w.heap.size + 1, 0, none⟩ = some (.bool n2) ∧ ((W.setCell ⟨w.heap.size + 1 + 1, 0, none⟩ x').setCell ⟨w.heap.size + 1 + 1, 1, none⟩ y').cell? ⟨w.heap.size + 1, 1, none⟩ = some (.slice a2 l2 c2) ∧ ((W.setCell ⟨w.heap.size + 1 + 1, 0, none⟩ x').setCell ⟨w.heap.size + 1 + 1, 1, none⟩ y').cell? ⟨w.heap.size + 1, 2, none⟩ = some (.bool false) ∧ ((W.setCell ⟨w.heap.size + 1 + 1, 0, none⟩ x').setCell ⟨w.heap.size + 1 + 1, 1, none⟩ y').cell? ⟨w.heap.size + 1, 3, none⟩ = some (.slice b2 k2 d2)) := fun W h x' y' => by
    have h0 := HX.out W h
    exact ⟨(own4V (own_set2 h0.1 (by omega) x' y')).1, (own4V (own_set2 h0.2.1 (by omega) x' y')).1⟩
  have HS0 : Hid (w.heap.size + 3 ≤ W0.heap.size) := by show _ ≤ _; rw [← HW0.out]; simp
  clear hx1 hy1 hx2 hy2 g1 g2 g3 g4 hf
  go_enter Tryd.func50, Tryd.ntmps50
  go_wp2_with fail
  rw [HW0.out]
  have HB : Hid (Below (w.heap.size + 3) W0 W0.drew) := (Below.refl _ _).drew
  obtain ⟨⟨r0, r1⟩, q0, q1⟩ := own2V (HX.out _ HB.out).2.2.1
  go_region_held3 (fun W => (W.cell? ⟨w.heap.size, 0, none⟩ = some (.bool n1) ∧ W.cell? ⟨w.heap.size, 1, none⟩ = some (.slice a1 l1 c1) ∧ W.cell? ⟨w.heap.size, 2, none⟩ = some (.bool false) ∧ W.cell? ⟨w.heap.size, 3, none⟩ = some (.slice b1 k1 d1)) ∧ W.cell? ⟨w.heap.size + 1, 0, none⟩ = some (.bool n2) ∧ W.cell? ⟨w.heap.size + 1, 1, none⟩ = some (.slice a2 l2 c2) ∧ W.cell? ⟨w.heap.size + 1, 2, none⟩ = some (.bool false) ∧ W.cell? ⟨w.heap.size + 1, 3, none⟩ = some (.slice b2 k2 d2))
    (first
      | exact ⟨(own4V (HX.out _ HB.out).1).1, (own4V (HX.out _ HB.out).2.1).1⟩
      | exact HSt.out _ HB.out _ _)
    (first
      | (go_at_call_of 125 (Value.slice a1 l1 c1)
         go_loud (
         refine (HT1.out _ (HX.out _ HB.out).2.2.2).mono ?_
         rintro e w3 ⟨ta, tc, rfl, hu, hw3⟩
         have HTa := hid hu
         first
           | (have HTb := hid (HTb.out.below hw3 (Nat.le_refl _)))
           | skip
         have HB := hid (HB.out.trans (hw3.mono (Nat.le_trans HS0.out HB.out.size)))
         clear hu hw3 r0 r1 q0 q1
         obtain ⟨⟨r0, r1⟩, q0, q1⟩ := own2V (HX.out _ HB.out).2.2.1))
      | (go_at_call_of 125 (Value.slice a2 l2 c2)
         go_loud (
         refine (HT2.out _ (HX.out _ HB.out).2.2.2).mono ?_
         rintro e w4 ⟨sa, sc, rfl, hu, hw3⟩
         have HTb := hid hu
         first
           | (have HTa := hid (HTa.out.below hw3 (Nat.le_refl _)))
           | skip
         have HB := hid (HB.out.trans (hw3.mono (Nat.le_trans HS0.out HB.out.size)))
         clear hu hw3 r0 r1 q0 q1
         obtain ⟨⟨r0, r1⟩, q0, q1⟩ := own2V (HX.out _ HB.out).2.2.1))
      | (go_at_call 124
         go_loud (
         refine (HP.out _ _ _ HTa.out HTb.out).mono ?_
         rintro e w5 ⟨pa, pc, rfl, hu, hw3⟩
         have HU := hid hu
         have HB := hid (HB.out.trans (hw3.mono (Nat.le_trans HS0.out HB.out.size)))
         clear hu hw3 r0 r1 q0 q1
         obtain ⟨⟨r0, r1⟩, q0, q1⟩ := own2V (HX.out _ HB.out).2.2.1)))
  all_goals
    go_wp2_with fail
    refine bodyPost_ret (v := .agg #[.bool S, .slice pa (grp Z).length pc]) (by simp [results, Tryd.results50, go_sem, r0, r1]) rfl ⟨pa, pc, rfl, ?_, ?_⟩
    · exact natA_set2 HU.out (HX.out _ HB.out).2.2.1 _ _
    · exact below_set2 (HX.out _ HB.out).2.2.2 (by omega) _ _

end Go.Proofs.YtodpndmdmopghaaDoor

namespace Go.Proofs.YtodpndmdmopghaaDoor
open Go.RowKit Go.Siskin

theorem run_index_nums {P : Program} {t e : TypeId} {n : Nat} (ht : P.underlying t = some (.array n e)) (he : P.plainKey e = true) {i : TypeInfo} (hi : P.info? e = some i) (h1 : P.cellsOf e = 1) {cs : Array Value} {k : Nat} {kk : IntKind} (hk : k < n) {v : Value} (hv : cs[k]? = some v) (w : World) :
    (Instr.index t (.agg cs) (.int kk k)).run P w = .ok v w := by
  have hk' : (0 : Int) ≤ k ∧ (k : Int) < n := ⟨by omega, by omega⟩
  unfold Instr.index
  simp only [asIntOf, Sem.run_bind, Sem.run_pure, Result.andThen_ok, run_underlying ht, if_pos hk', run_sizeOf w hi, h1, Nat.mul_one, Int.toNat_natCast]
  exact run_part_plain w he hv
/-- An element of an array that is held. -/
theorem wpList_index_nums {P : Program} (w : World) {ops : Array Oper} {rest : List Oper} {o : Oper} {a : Act} {Q : Exit → Act → World → Prop} (hgd : o.guard = none) (x i : Operand) (t : TypeId) (hop : o.op = Op.index t x i)
    {e : TypeId} {n : Nat} (ht : P.underlying t = some (.array n e)) (he : P.plainKey e = true) {inf : TypeInfo} (hi : P.info? e = some inf) (h1 : P.cellsOf e = 1) (cs : Array Value) (hx : a.eval x = .agg cs) (k : Nat) (kk : IntKind) (hk : a.eval i = .int kk k) (hkn : k < n) (v : Value) (hv : cs[k]? = some v)
    (hK : wpList P ops Q rest (a.put o.dst v) w) : wpList P ops Q (o :: rest) a w := by
  refine wpList_plain hgd fun K hK' => ?_
  unfold Oper.wp execOp
  simp only [hop, hx, hk, run_index_nums ht he hi h1 hkn hv w, Sem.run_bind, Result.andThen_ok, Sem.run_pure]
  exact hK' _ _ hK
theorem Tryd.plainWord : Tryd.prog.plainKey 50 = true := by kernel_rfl
theorem Tryd.cellsWord : Tryd.prog.cellsOf 50 = 1 := by kernel_rfl

set_option maxRecDepth 20000 in
set_option maxHeartbeats 1000000 in
theorem digits_any (x : Nat) (v : Value) (w : World) (h : NatA w v (grp x)) (hn : nG x ≤ 1000000) (hP : Pow9 w) :
    Calls Tryd.prog 72 #[v] w fun e w' => e = .returned (.int .i64 (Lib.nDigits x)) ∧ w' = w := by
  have HN := hid h
  have HC := hid (isNought_any x v w h)
  obtain ⟨a, cap, rfl, h1, h2, h3⟩ := h
  rw [grp_length] at *
  unfold maxLen at h2
  rcases Nat.eq_zero_or_pos x with h0 | h0
  · subst h0
    clear h3
    go_enter Tryd.func72, Tryd.ntmps72
    go_wp2_with (go_at_call 40; refine HC.out.mono ?_; rintro e w' ⟨rfl, rfl⟩)
    go_ret
    exact ⟨ret_intz (by rw [Lib.nDigits_small (by decide)]; rfl), rfl⟩
  · have hx0 : (x == 0) = false := by rw [beq_eq_false_iff_ne]; omega
    rw [hx0] at HC
    clear hx0
    have hg := nG_pos h0
    have HT := hid (top_pos h0)
    have HD := hid (nDigits_top h0)
    rcases h3 with h3 | ⟨b, o, rfl, -, h3⟩
    · have := congrArg List.length h3; rw [grp_length] at this; simp at this; omega
    obtain ⟨t, HTG⟩ : ∃ t, Hid (nG x = t + 1) := ⟨nG x - 1, by show _ = _; omega⟩
    rw [HTG.out] at h1 hn HC
    have g : w.cell? ⟨b, o + t, none⟩ = some (.int .u64 ((x / 1000000000 ^ t : Nat) : Int)) := by
      have h := h3 t (by rw [grp_length, HTG.out]; omega)
      rw [h]
      have e := top_get h0
      rw [HTG.out, Nat.add_sub_cancel] at e
      unfold grp; rw [grpN_get, e]
    have HT2 : Hid (0 < x / 1000000000 ^ t ∧ x / 1000000000 ^ t < 1000000000) := by
      have h := HT.out; rw [HTG.out, Nat.add_sub_cancel] at h; exact h
    have HD2 : Hid (Lib.nDigits x = 9 * t + Lib.nDigits (x / 1000000000 ^ t)) := by
      have h := HD.out; rw [HTG.out, Nat.add_sub_cancel] at h; exact h
    obtain ⟨z, HZ⟩ : ∃ z, Hid (x / 1000000000 ^ t = z) := ⟨_, rfl⟩
    rw [HZ.out] at g HT2 HD2
    rw [HTG.out]
    have P0 := hP.2 0 (by omega)
    have P1 := hP.2 1 (by omega)
    have P2 := hP.2 2 (by omega)
    have P3 := hP.2 3 (by omega)
    have P4 := hP.2 4 (by omega)
    have P5 := hP.2 5 (by omega)
    have P6 := hP.2 6 (by omega)
    have P7 := hP.2 7 (by omega)
    have P8 := hP.2 8 (by omega)
    obtain ⟨i0, hi, -, -, -⟩ := info_partsZ Tryd.infoWordZ
    have Hi := hid hi
    clear hi
    clear h3 hg hP HD HT HN
    go_enter Tryd.func72, Tryd.ntmps72
    go_wp2_with (go_at_call 40; refine HC.out.mono ?_; rintro e w' ⟨rfl, rfl⟩)
    go_loop [4, 15] (fun c i => ∃ k : Nat, k ≤ 9 ∧ i = .int .i64 k ∧ c = .int .i64 ((t : Int) * 9 + ((nPow z k : Nat) : Int))) (fun _ i => 9 - (intOf i).toNat)
    case atStart => exact ⟨0, by omega, rfl, by simp [nPow]⟩
    case round =>
      obtain ⟨k, hk, rfl, rfl⟩ := hrel
      have hle := nPow_le z k
      by_cases hlt : k < 9
      · have HS := hid (nPow_succ z k)
        obtain ⟨q, HQ⟩ : ∃ q, Hid (nPow z k = q) := ⟨_, rfl⟩
        rw [HQ.out] at hle ⊢
        have hzz : z < 1000000000 := HT2.out.2
        have HV : Hid ((#[.int .u64 1, .int .u64 10, .int .u64 100, .int .u64 1000, .int .u64 10000, .int .u64 100000, .int .u64 1000000, .int .u64 10000000, .int .u64 100000000] : Array Value)[k]? = some (.int .u64 ((10 ^ k : Nat) : Int))) := by
          have hcase : k = 0 ∨ k = 1 ∨ k = 2 ∨ k = 3 ∨ k = 4 ∨ k = 5 ∨ k = 6 ∨ k = 7 ∨ k = 8 := by omega
          show _ = _
          rcases hcase with rfl | rfl | rfl | rfl | rfl | rfl | rfl | rfl | rfl <;> rfl
        obtain ⟨p, HPk⟩ : ∃ p : Nat, Hid (10 ^ k = p) := ⟨_, rfl⟩
        rw [HPk.out] at HV HS
        by_cases hz : p ≤ z
        · have HS2 : Hid (nPow z (k + 1) = q + 1) := by show _ = _; rw [HS.out, if_pos hz, HQ.out]
          go_wp2_with (refine wpList_index_nums _ rfl (.tmp 14) (.tmp 15) _ rfl Tryd.underlying112 Tryd.plainWord Hi.out Tryd.cellsWord _ rfl k .i64 rfl hlt _ HV.out ?_)
          go_round
          case rel => exact ⟨k + 1, by omega, by congr 1, by rw [HS2.out]; congr 1⟩
          case measure => simp [intOf]; omega
        · have HS2 : Hid (nPow z (k + 1) = q) := by show _ = _; rw [HS.out, if_neg hz, HQ.out]; rfl
          go_wp2_with (refine wpList_index_nums _ rfl (.tmp 14) (.tmp 15) _ rfl Tryd.underlying112 Tryd.plainWord Hi.out Tryd.cellsWord _ rfl k .i64 rfl hlt _ HV.out ?_)
          go_round
          case rel => exact ⟨k + 1, by omega, by congr 1, by rw [HS2.out]⟩
          case measure => simp [intOf]; omega
      · obtain rfl : k = 9 := by omega
        have HF : Hid ((t : Int) * 9 + ((nPow z 9 : Nat) : Int) = (Lib.nDigits x : Int)) := by
          show _ = _
          rw [HD2.out, nPow_nine HT2.out.1 HT2.out.2]; omega
        go_wp2_with fail
        go_ret
        exact ⟨ret_intz HF.out, rfl⟩
end Go.Proofs.YtodpndmdmopghaaDoor
