/-
  The model's l5Bound. Condition: the pairs lie in a row of their own, the names in memory, as many on both sides.
-/
import Derived.Test.YtghgilkdmdppcaaR10
namespace Go.Proofs.Ytghgilkdmdppcaa
open Go.RowKit Go.Siskin

theorem strs_spots {B : Nat → Prop} {w : World} {v : Value} {xs : List ByteArray} (h : StrsAt B w v xs) : ∃ a cap, v = .slice a xs.length cap ∧ xs.length ≤ maxLen ∧ (∀ k, k < xs.length → ∃ b o, a = some ⟨b, o, none⟩ ∧ B b ∧ ∀ j (hj : j < xs.length), w.cell? ⟨b, o + j, none⟩ = some (.string xs[j]) ∧ xs[j].size ≤ maxLen) := by
  obtain ⟨a, cap, rfl, h1, h2, h3⟩ := h
  refine ⟨a, cap, rfl, h1.1, fun k hk => ?_⟩
  rcases h3 with rfl | ⟨b, o, rfl, hb, h⟩
  · simp at hk
  · exact ⟨b, o, rfl, hb, fun j hj => ⟨h j hj, h2 j hj⟩⟩
theorem zip_take (xs ys : List ByteArray) (k : Nat) (h : k < xs.length) (h' : k < ys.length) : (xs.zip ys).take (k + 1) = (xs.zip ys).take k ++ [(xs[k], ys[k])] := by
  rw [List.take_succ_eq_append_getElem (by rw [List.length_zip]; omega)]
  simp
theorem grow_below {w w0 w1 : World} {o : Option Nat} (h : Below w.heap.size w w0) (hg : w0.grownBy w1 o) (ho : ∀ g, o = some g → w.heap.size ≤ g) : Below w.heap.size w w1 :=
  ⟨hg.os.trans h.os, hg.tape.trans h.tape, hg.output.trans h.output, Nat.le_trans h.size hg.size, fun i hi => (hg.block i (Nat.lt_of_lt_of_le hi h.size) (fun e => by have := ho i e.symm; omega)).trans (h.block i hi)⟩

set_option maxRecDepth 20000 in
set_option maxHeartbeats 2000000 in
theorem l5Bound_any (R : Nat → Prop) (w : World) (v vx vy : Value) (ps : List (ByteArray × ByteArray)) (xs ys : List ByteArray) (h : PrsAt w v ps) (hx : StrsAt R w vx xs) (hy : StrsAt R w vy ys) (hR : ∀ k, R k → k < w.heap.size) (hl : xs.length = ys.length) (hn : ps.length + xs.length ≤ 4194304) :
    Calls Try.prog 18 #[v, vx, vy] w fun e w' => ∃ u, e = .returned u ∧ PrsAt w' u (ps ++ xs.zip ys) ∧ Below w.heap.size w w' := by
  obtain ⟨i0, hi, hz0, hz1, hz2⟩ := info_parts Try.infoPair
  have Hi := hid hi
  have Hz0 := hid hz0
  have Hz1 := hid hz1
  have Hz2 := hid hz2
  clear hi hz0 hz1 hz2
  have HX := hid hx
  have HY := hid hy
  have HR := hid hR
  have HP := hid h
  obtain ⟨ax, cx, rfl, hlx, fx⟩ := strs_spots hx
  obtain ⟨ay, cy, rfl, hly, fy⟩ := strs_spots hy
  have FX := hid fx
  have FY := hid fy
  have HL := hid hl
  unfold maxLen at hlx hly
  rw [← hl] at hly
  have hzl : (xs.zip ys).length = xs.length := by rw [List.length_zip]; omega
  have HZ := hid hzl
  rw [← hl] at HY ⊢
  obtain ⟨g, cap, rfl, ho⟩ := h
  have HO := hid ho
  clear hx hy fx fy hl hR hzl ho
  go_enter Try.func18, Try.ntmps18
  go_wp2_with (at_builtin; refine wpList_append_own_at _ rfl _ _ 33 rfl w.heap.size 57 i0 _ 2 32 Try.underlying33 Hi.out Hz0.out Hz1.out Hz2.out rfl (by decide) _ 0 [] rfl (World.ownsRow_made w #[] 0 (Nat.le_refl _) (Nat.zero_le _) (by simp)) ⟨g, 0, none⟩ ps.length cap (flatP ps) rfl (flatP_len ps) ((HO.out.alloc _).cells (g := g) rfl) (flatP_one ps) (by unfold maxLen; omega) (by omega) (by simp) ?_; intro v' w2 hown' hgw hnil hb')
  obtain ⟨g2, cap2, rfl⟩ : ∃ g2 cap2, v' = .slice (some ⟨g2, 0, none⟩) ps.length cap2 := by
    rcases hown'.2 with ⟨h0, -⟩ | ⟨g2, cap2, cur, e, -⟩
    · have h1 := (hnil.1 h0).1
      exact absurd h1 (by simp [Act.eval])
    · exact ⟨g2, cap2, by rw [e, Nat.zero_add]⟩
  rw [Nat.zero_add, List.nil_append] at hown'
  have HO2 := hid hown'
  have HB2 : Hid (Below w.heap.size w w2) := grow_below ((Below.refl _ _).alloc (Nat.le_refl _) _) hgw (fun k e => by
    have e' : some w.heap.size = some k := e
    cases e'; exact Nat.le_refl _)
  clear hown' hgw hnil hb'
  go_loopw [7, 8] (fun v i wr => ∃ k : Nat, k ≤ xs.length ∧ i = .int .i64 k ∧ ∃ g3 c3, v = .slice (some ⟨g3, 0, none⟩) (ps.length + k) c3 ∧ Hid (wr.ownsRow w.heap.size 57 2 (.slice (some ⟨g3, 0, none⟩) (ps.length + k) c3) (ps.length + k) (flatP (ps ++ (xs.zip ys).take k))) ∧ Hid (Below w.heap.size w wr)) (fun _ i _ => xs.length - (intOf i).toNat)
  case atStart => exact ⟨0, Nat.zero_le _, rfl, g2, cap2, rfl, by show World.ownsRow _ _ _ _ _ _ _; simpa using HO2.out, HB2⟩
  case round =>
    obtain ⟨k, hk, rfl, g3, c3, rfl, HA, HB⟩ := hrel
    by_cases hlt : k < xs.length
    · have hlty : k < ys.length := by have := HL.out; omega
      obtain ⟨bx, ox, rfl, hbx, gx⟩ := FX.out k hlt
      obtain ⟨by', oy, rfl, hby, gy⟩ := FY.out k hlty
      have HZT := hid (zip_take xs ys k hlt hlty)
      have hsz := HB.out.size
      have cx1 := ((HB.out.on HR.out).cell hbx (ox + k)).trans (gx k hlt).1
      have cy1 := ((HB.out.on HR.out).cell hby (oy + k)).trans (gy k hlty).1
      have hbx' : bx < wr.heap.size := by have := HR.out bx hbx; omega
      have hby' : by' < wr.heap.size := by have := HR.out by' hby; omega
      generalize xs[k] = x at *
      generalize ys[k] = y at *
      have K0 : Hid (wr.drew.cell? ⟨bx, ox + k, none⟩ = some (.string x) ∧ wr.drew.cell? ⟨by', oy + k, none⟩ = some (.string y)) := ⟨cx1, cy1⟩
      have K1 : Hid (∀ o, (wr.drew.alloc o).cell? ⟨bx, ox + k, none⟩ = some (.string x) ∧ (wr.drew.alloc o).cell? ⟨by', oy + k, none⟩ = some (.string y)) := fun o =>
        ⟨(World.cell?_of_block (w := wr.drew) (Below.heap_alloc wr.drew o bx hbx')).trans cx1, (World.cell?_of_block (w := wr.drew) (Below.heap_alloc wr.drew o by' hby')).trans cy1⟩
      have HRW := hid (show wr.drew.ownsRow w.heap.size 57 2 (.slice (some ⟨g3, 0, none⟩) (ps.length + k) c3) (ps.length + k) (flatP (ps ++ (xs.zip ys).take k)) from HA.out)
      have hnk : ps.length + k < 4194304 := by omega
      have HRX := hid (HR.out bx hbx)
      have HRY := hid (HR.out by' hby)
      clear gx gy
      go_wp2_with fail
      go_region_held3 (fun w' => w'.cell? ⟨bx, ox + k, none⟩ = some (.string x) ∧ w'.cell? ⟨by', oy + k, none⟩ = some (.string y))
        (first | exact K2.out | exact K1.out _ | exact K0.out)
        (first
          | (refine step_append_lies _ (by rfl) _ _ _ (by rfl) w.heap.size 57 i0 _ 2 32 Try.underlying33 Hi.out Hz0.out Hz1.out Hz2.out rfl (by omega) (.slice (some ⟨g3, 0, none⟩) (ps.length + k) c3) (ps.length + k) _ (by rfl) (HRW.out.alloc _)
              ⟨wr.heap.size, 0, none⟩ 1 1 [.string x, .string y] (by rfl) (by rfl) (World.news_of_block (cs := #[.string x, .string y]) (heap_alloc_new _ _)) (by simp [Value.oneCell'])
              (by omega) (by unfold maxLen; omega) (by omega) (by simp; omega) (wr.heap.size + 1) (by simp) ?_
             intro g4 c4 w4 hown4 hgrow4 hat4 hlt4
             have hall := (World.grownBy_alloc wr.drew _ _).trans hgrow4
             have HB4 : Hid (Below w.heap.size w w4) := grow_below HB.out.drew hall (fun i e => by
               have h1 := (HRW.out.lt i e).1
               exact h1)
             have K2 : Hid (w4.cell? ⟨bx, ox + k, none⟩ = some (.string x) ∧ w4.cell? ⟨by', oy + k, none⟩ = some (.string y)) :=
               ⟨(hall.cell_far ⟨bx, ox + k, none⟩ hbx' (fun e => by have h1 := (HRW.out.lt bx e.symm).1; have h2 := HRX.out; omega)).trans K0.out.1, (hall.cell_far ⟨by', oy + k, none⟩ hby' (fun e => by have h1 := (HRW.out.lt by' e.symm).1; have h2 := HRY.out; omega)).trans K0.out.2⟩
             have HO4 := hid hown4
             clear hall hgrow4 hown4 hat4))
      all_goals go_wp2_with fail
      all_goals
        refine ⟨⟨k + 1, by omega, by go_num, g4, c4, rfl, ?_, HB4⟩, by simp [intOf]; omega⟩
        show World.ownsRow _ _ _ _ _ _ _
        rw [HZT.out, ← List.append_assoc, flatP_append]
        exact HO4.out
    · have hkk : k = xs.length := by omega
      subst hkk
      have h := HA.out
      rw [← HZ.out, List.take_length] at h
      rw [HZ.out] at h
      have HA' := hid h
      clear h
      go_wp2_with fail
      go_ret
      refine ⟨.slice (some ⟨g3, 0, none⟩) (ps.length + xs.length) c3, rfl, ⟨g3, c3, by rw [List.length_append, HZ.out], ?_⟩, HB.out⟩
      · have h := HA'.out
        rw [List.length_append, HZ.out]
        rcases h.2 with ⟨h0, -⟩ | ⟨g', cap', cur, e, -, h2⟩
        · cases h0
        · exact ⟨h.1, Or.inr ⟨g', cap', cur, e, Nat.zero_le _, h2⟩⟩
end Go.Proofs.Ytghgilkdmdppcaa
