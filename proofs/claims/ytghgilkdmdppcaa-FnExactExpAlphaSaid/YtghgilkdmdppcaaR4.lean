/-
  The program's pair and unpair. Condition: the alpha lies in memory as AlphaAt says, the names elsewhere.
-/
import Derived.Test.YtghgilkdmdppcaaR3
namespace Go.Proofs.Ytghgilkdmdppcaa
open Go.RowKit Go.Siskin

abbrev pa (b : Nat) : Value := .pointer (some ⟨b, 0, none⟩)
abbrev fE (b : Nat) : Value := .func (.func 24) #[pa b] #[]
abbrev fS (b : Nat) : Value := .func (.func 25) #[pa b] #[]
/-- An alpha's cells. -/
abbrev alCells (b : Nat) (m : Bool → Nat) (p : Int) : Array Value := #[fE b, fE b, fS b, fE b, fE b, fE b, fS b, fE b, fE b, fS b, .map (some (m true)), .map (some (m false)), .int .i64 p]

/-- An alpha in memory; blocks of F are others. -/
structure AlphaAt (w : World) (F : Nat → Prop) (base b : Nat) (m : Bool → Nat) (n : Nat) (p : Int) (A : Bool → ByteArray → List Int) (G : Bool → ByteArray → Option Value) : Prop where
  own : Own w b 53 (alCells b m p)
  pn : PN w (fun k => F k ∨ k = b) base m n A G
  nb : ¬ F b

theorem grown_set (w : World) (b i : Nat) (v : Value) : w.grownBy (w.setCell ⟨b, i, none⟩ v) (some b) :=
  ⟨rfl, rfl, rfl, by simp, fun k _ hk => Below.heap_setCell w _ _ k (fun e => hk (by rw [e]))⟩
section
variable {w w' : World} {F : Nat → Prop} {base b : Nat} {m : Bool → Nat} {n n' : Nat} {p q : Int} {A A' : Bool → ByteArray → List Int} {G G' : Bool → ByteArray → Option Value}
theorem AlphaAt.moved (h : AlphaAt w F base b m n p A G) (hk : Kept (fun k => F k ∨ k = b) w w') (hp : PN w' (fun k => F k ∨ k = b) base m n' A' G') : AlphaAt w' F base b m n' p A' G' :=
  ⟨(hk.on b (Or.inr rfl)).trans h.own, hp, h.nb⟩
theorem AlphaAt.cells (h : AlphaAt w F base b m n p A G) :
    w.cell? ⟨b, 10, none⟩ = some (.map (some (m true))) ∧ w.cell? ⟨b, 11, none⟩ = some (.map (some (m false))) ∧ w.cell? ⟨b, 12, none⟩ = some (.int .i64 p) :=
  ⟨(h.own.cell 10).trans rfl, (h.own.cell 11).trans rfl, (h.own.cell 12).trans rfl⟩
theorem AlphaAt.count (h : AlphaAt w F base b m n p A G) : AlphaAt (w.setCell ⟨b, 12, none⟩ (.int .i64 q)) F base b m n q A G :=
  ⟨h.own.set 12 (.int .i64 q), h.pn.wrote (Or.inr rfl) (grown_set w b 12 _), h.nb⟩
theorem AlphaAt.keep (h : AlphaAt w F base b m n p A G) (hb : Below w.heap.size w w') : AlphaAt w' (fun k => F k ∨ Fresh w w' k) base b m n p A G :=
  ⟨h.own.keep hb h.own.lt, (h.pn.keep hb).mono (fun k hk => by
    rcases hk with (hk | hk) | hk
    · exact Or.inl (Or.inl hk)
    · exact Or.inr hk
    · exact Or.inl (Or.inr hk)), fun hk => by
    rcases hk with hk | hk
    · exact h.nb hk
    · have := h.own.lt
      have := hk.1
      omega⟩
theorem AlphaAt.mono {F' : Nat → Prop} (h : AlphaAt w F base b m n p A G) (hF : ∀ k, F' k → F k) : AlphaAt w F' base b m n p A G :=
  ⟨h.own, h.pn.mono (fun k hk => hk.imp (hF k) id), fun hk => h.nb (hF b hk)⟩
theorem AlphaAt.drew (h : AlphaAt w F base b m n p A G) : AlphaAt w.drew F base b m n p A G := (h.keep (Below.refl _ _).drew).mono fun _ hk => Or.inl hk
theorem AlphaAt.more (h : AlphaAt w F base b m n p A G) (hn : n ≤ n') : AlphaAt w F base b m n' p A G := ⟨h.own, h.pn.more hn, h.nb⟩
theorem kept_set (h : Kept F w w') (hb : ¬ F b) (i : Nat) (v : Value) : Kept F w (w'.setCell ⟨b, i, none⟩ v) :=
  h.trans ⟨rfl, rfl, rfl, by simp, fun k hk => Below.heap_setCell w' _ _ k (fun e => hb (by have e' : k = b := e; rw [← e']; exact hk))⟩
theorem Kept.toA (h : Kept (fun k => F k ∨ k = b) w w') : Kept F w w' := h.mono fun _ hk => Or.inl hk
end

theorem nums_len (T : List (Int × ByteArray × ByteArray)) (i : Bool) (s : ByteArray) : (nums T i s).length ≤ T.length := by
  unfold nums; rw [List.length_map]; exact List.length_filter_le _ _

/-- The k-th of the names. -/
theorem strs_cell {B : Nat → Prop} {w : World} {v : Value} {xs : List ByteArray} (h : StrsAt B w v xs) : ∃ a cap, v = .slice a xs.length cap ∧ xs.length ≤ maxLen ∧ (∀ k, k < xs.length → ∃ b o, a = some ⟨b, o, none⟩ ∧ B b ∧ ∀ j (hj : j < xs.length), w.cell? ⟨b, o + j, none⟩ = some (.string xs[j]) ∧ xs[j].size ≤ maxLen) := by
  obtain ⟨a, cap, rfl, h1, h2, h3⟩ := h
  refine ⟨a, cap, rfl, h1.1, fun k hk => ?_⟩
  rcases h3 with rfl | ⟨b, o, rfl, hb, h⟩
  · simp at hk
  · exact ⟨b, o, rfl, hb, fun j hj => ⟨h j hj, h2 j hj⟩⟩

set_option maxRecDepth 20000 in
set_option maxHeartbeats 2000000 in
theorem pair_any (T : List (Int × ByteArray × ByteArray)) (R F : Nat → Prop) (w : World) (base b : Nat) (m : Bool → Nat) (n : Nat) (p : Int) (G : Bool → ByteArray → Option Value) (vx vy : Value) (xs ys : List ByteArray)
    (h : AlphaAt w F base b m n p (nums T) G) (hx : StrsAt R w vx xs) (hy : StrsAt R w vy ys) (hR : ∀ k, R k → F k) (hl : xs.length = ys.length)
    (hn : n + 2 * xs.length < 16777216) (hT : T.length + xs.length ≤ 2097152) (hp0 : 0 ≤ p) (hp : p + xs.length ≤ 16777216) :
    Calls Try.prog 27 #[pa b, vx, vy] w fun e w' => e = .returned (.tuple #[]) ∧ Kept F w w' ∧ ∃ G', AlphaAt w' F base b m (n + 2 * xs.length) (p + xs.length) (nums (T ++ trips p (xs.zip ys))) G' := by
  have HX := hid hx
  have HY := hid hy
  have HR := hid hR
  have H0 := hid h
  obtain ⟨ax, cx, rfl, hlx, fx⟩ := strs_cell hx
  obtain ⟨ay, cy, rfl, hly, fy⟩ := strs_cell hy
  have FX := hid fx
  have FY := hid fy
  have HL := hid hl
  unfold maxLen at hlx hly
  rw [← hl] at hly
  have hzl : (xs.zip ys).length = xs.length := by rw [List.length_zip]; omega
  have HZ := hid hzl
  rw [← hl] at HY ⊢
  clear h hx hy fx fy hl hR hzl
  go_enter Try.func27, Try.ntmps27
  go_wp2_with fail
  go_loopw [9] (fun i wr => ∃ k : Nat, k ≤ xs.length ∧ i = .int .i64 k ∧ ∃ G', Hid (AlphaAt wr F base b m (n + 2 * k) (p + k) (nums (T ++ trips p ((xs.zip ys).take k))) G') ∧ Hid (Kept F w wr)) (fun i _ => xs.length - (intOf i).toNat)
  case atStart => exact ⟨0, Nat.zero_le _, rfl, G, by show AlphaAt _ _ _ _ _ _ _ _ _; simpa [trips] using H0.out, Kept.refl _ _⟩
  case round =>
    obtain ⟨k, hk, rfl, G1, HA, HK⟩ := hrel
    by_cases hlt : k < xs.length
    · obtain ⟨bx, ox, rfl, hbx, gx⟩ := FX.out k hlt
      obtain ⟨by', oy, rfl, hby, gy⟩ := FY.out k (by have := HL.out; omega)
      obtain ⟨cx1, sx1⟩ := gx k hlt
      obtain ⟨cy1, sy1⟩ := gy k (by have := HL.out; omega)
      have HST := hid (push_step T p (xs.zip ys) k (by have := HZ.out; omega) _ rfl)
      have hzk : (xs.zip ys)[k]'(by have := HZ.out; omega) = (xs[k], ys[k]'(by have := HL.out; omega)) := by simp
      rw [hzk] at HST
      have hlen1 : ∀ i s, Hid ((nums (T ++ trips p ((xs.zip ys).take k)) i s).length + 1 ≤ 2097152) := fun i s => by
        show _ ≤ _
        have := nums_len (T ++ trips p ((xs.zip ys).take k)) i s
        rw [List.length_append, trips_len, List.length_take] at this
        have := HZ.out
        omega
      have HLE := hid hlen1
      generalize nums (T ++ trips p ((xs.zip ys).take k)) = A1 at *
      obtain ⟨A2, hA2⟩ : ∃ A2, A2 = nums (T ++ trips p ((xs.zip ys).take (k + 1))) := ⟨_, rfl⟩
      rw [← hA2] at HST
      have HA2E := hid hA2
      clear hA2
      have hq0 : 0 ≤ p + k := by omega
      have hq1 : p + (k : Int) < 16777216 := by omega
      have hkp := hid (show p + ((k + 1 : Nat) : Int) = p + k + 1 by omega)
      generalize p + (k : Int) = q at *
      generalize xs[k] = x at *
      generalize ys[k]'(by have := HL.out; omega) = y at *
      have HCX := hid cx1
      have HCY := hid cy1
      have SX := hid sx1
      have SY := hid sy1
      have c0 := HA.out.cells
      have x0 := ((HK.out.on.cell (HR.out _ hbx) (ox + k))).trans HCX.out
      have K0 : Hid (wr.drew.cell? ⟨b, 10, none⟩ = some (.map (some (m true))) ∧ wr.drew.cell? ⟨b, 12, none⟩ = some (.int .i64 q) ∧ wr.drew.cell? ⟨bx, ox + k, none⟩ = some (.string x)) := ⟨c0.1, c0.2.2, x0⟩
      have HQ := hid (push_any HA.out.drew.pn true x SX.out q (by omega) (by have := (HLE.out true x).out; omega))
      clear gx gy cx1 sx1 cy1 sy1 hlen1 c0 x0
      go_wp2_with fail
      go_region_held3 (fun w' => w'.cell? ⟨b, 10, none⟩ = some (.map (some (m true))) ∧ w'.cell? ⟨b, 12, none⟩ = some (.int .i64 q) ∧ w'.cell? ⟨bx, ox + k, none⟩ = some (.string x))
        (first | exact K1.out | exact K0.out)
        (first
          | (go_at_call 30
             refine HQ.out.mono ?_
             rintro e w1 ⟨rfl, hk1, G2, hp1⟩
             have HA1 := hid (HA.out.drew.moved hk1 hp1)
             have HK1 := hid (HK.out.drew.trans hk1.toA)
             have K1 : Hid (w1.cell? ⟨b, 10, none⟩ = some (.map (some (m true))) ∧ w1.cell? ⟨b, 12, none⟩ = some (.int .i64 q) ∧ w1.cell? ⟨bx, ox + k, none⟩ = some (.string x)) := ⟨HA1.out.cells.1, HA1.out.cells.2.2, (HK1.out.on.cell (HR.out _ hbx) (ox + k)).trans HCX.out⟩
             clear hk1 hp1))
      have y1 := (HK1.out.drew.on.cell (HR.out _ hby) (oy + k)).trans HCY.out
      have c1 := HA1.out.drew.cells
      have K2 : Hid (w1.drew.cell? ⟨b, 11, none⟩ = some (.map (some (m false))) ∧ w1.drew.cell? ⟨b, 12, none⟩ = some (.int .i64 q) ∧ w1.drew.cell? ⟨by', oy + k, none⟩ = some (.string y)) := ⟨c1.2.1, c1.2.2, y1⟩
      have HQ2 := hid (push_any HA1.out.drew.pn false y SY.out q (by omega) (by rw [updA_other _ _ (fun h => absurd h.1 (by decide))]; have := (HLE.out false y).out; omega))
      rw [updA_other (A1) _ (fun h => absurd h.1 (by decide))] at HQ2
      clear c1 y1 K0 K1 HQ
      go_wp2_with fail
      go_region_held3 (fun w' => w'.cell? ⟨b, 11, none⟩ = some (.map (some (m false))) ∧ w'.cell? ⟨b, 12, none⟩ = some (.int .i64 q) ∧ w'.cell? ⟨by', oy + k, none⟩ = some (.string y))
        (first | exact K3.out | exact K2.out)
        (first
          | (go_at_call 30
             refine HQ2.out.mono ?_
             rintro e w2 ⟨rfl, hk2, G3, hp2⟩
             have HA2 := hid (HA1.out.drew.moved hk2 hp2)
             have HK2 := hid (HK1.out.drew.trans hk2.toA)
             have K3 : Hid (w2.cell? ⟨b, 11, none⟩ = some (.map (some (m false))) ∧ w2.cell? ⟨b, 12, none⟩ = some (.int .i64 q) ∧ w2.cell? ⟨by', oy + k, none⟩ = some (.string y)) := ⟨HA2.out.cells.2.1, HA2.out.cells.2.2, (HK2.out.on.cell (HR.out _ hby) (oy + k)).trans HCY.out⟩
             clear hk2 hp2))
      have d2 := HA2.out.cells.2.2
      have e2 := HA2.out.own.frozen 12
      clear K2 K3 HQ2
      go_wp2_with fail
      refine ⟨⟨k + 1, by omega, by go_num, G3, ?_, kept_set HK2.out HA2.out.nb _ _⟩, by simp [intOf]; omega⟩
      have h := HA2.out.count (q := q + 1)
      rw [HST.out, HA2E.out] at h
      show AlphaAt _ _ _ _ _ _ _ _ _
      rw [hkp.out]
      exact AlphaAt.more (n := n + 2 * k + 1 + 1) (n' := n + 2 * (k + 1)) h (by omega)
    · go_wp2_with fail
      go_end0
      have hkk : k = xs.length := by omega
      subst hkk
      have h := HA.out
      rw [← HZ.out, List.take_length] at h
      exact ⟨rfl, HK.out, G1, by rw [HZ.out] at h; exact h⟩

set_option maxRecDepth 20000 in
set_option maxHeartbeats 2000000 in
theorem unpair_any (T : List (Int × ByteArray × ByteArray)) (p0 : Int) (R F : Nat → Prop) (w : World) (base b : Nat) (m : Bool → Nat) (n : Nat) (p : Int) (G : Bool → ByteArray → Option Value) (vx vy : Value) (xs ys : List ByteArray)
    (h : AlphaAt w F base b m n p (nums (T ++ trips p0 (xs.zip ys))) G) (hx : StrsAt R w vx xs) (hy : StrsAt R w vy ys) (hR : ∀ k, R k → F k) (hl : xs.length = ys.length)
    (hn : n + 2 * xs.length < 16777216) :
    Calls Try.prog 28 #[pa b, vx, vy] w fun e w' => e = .returned (.tuple #[]) ∧ Kept F w w' ∧ ∃ G', AlphaAt w' F base b m (n + 2 * xs.length) p (nums T) G' := by
  have HX := hid hx
  have HY := hid hy
  have HR := hid hR
  have H0 := hid h
  obtain ⟨ax, cx, rfl, hlx, fx⟩ := strs_cell hx
  obtain ⟨ay, cy, rfl, hly, fy⟩ := strs_cell hy
  have FX := hid fx
  have FY := hid fy
  have HL := hid hl
  unfold maxLen at hlx hly
  rw [← hl] at hly
  have hzl : (xs.zip ys).length = xs.length := by rw [List.length_zip]; omega
  have HZ := hid hzl
  rw [← hl] at HY ⊢
  clear h hx hy fx fy hl hR hzl
  go_enter Try.func28, Try.ntmps28
  go_wp2_with fail
  go_loopw [9] (fun i wr => ∃ k : Nat, k ≤ xs.length ∧ i = .int .i64 k ∧ ∃ G', Hid (AlphaAt wr F base b m (n + 2 * k) p (popA (nums T) (nums (T ++ trips p0 (xs.zip ys))) (xs.zip ys) k) G') ∧ Hid (Kept F w wr)) (fun i _ => xs.length - (intOf i).toNat)
  case atStart => exact ⟨0, Nat.zero_le _, rfl, G, by show AlphaAt _ _ _ _ _ _ _ _ _; rw [popA_start]; exact H0.out, Kept.refl _ _⟩
  case round =>
    obtain ⟨k, hk, rfl, G1, HA, HK⟩ := hrel
    by_cases hlt : k < xs.length
    · obtain ⟨bx, ox, rfl, hbx, gx⟩ := FX.out k hlt
      obtain ⟨by', oy, rfl, hby, gy⟩ := FY.out k (by have := HL.out; omega)
      obtain ⟨cx1, sx1⟩ := gx k hlt
      obtain ⟨cy1, sy1⟩ := gy k (by have := HL.out; omega)
      have HST := hid (pop_step T p0 (xs.zip ys) k (by have := HZ.out; omega) _ rfl)
      have HPX := hid (popA_pos T p0 (xs.zip ys) k (by have := HZ.out; omega) true)
      have HPY := hid (popA_pos T p0 (xs.zip ys) k (by have := HZ.out; omega) false)
      have hzk : (xs.zip ys)[k]'(by have := HZ.out; omega) = (xs[k], ys[k]'(by have := HL.out; omega)) := by simp
      rw [hzk] at HST HPX HPY
      simp only [side, if_true, Bool.false_eq_true, if_false] at HPX HPY
      generalize popA (nums T) (nums (T ++ trips p0 (xs.zip ys))) (xs.zip ys) k = A1 at *
      obtain ⟨A2, hA2⟩ : ∃ A2, A2 = popA (nums T) (nums (T ++ trips p0 (xs.zip ys))) (xs.zip ys) (k + 1) := ⟨_, rfl⟩
      rw [← hA2] at HST
      have HA2E := hid hA2
      clear hA2
      generalize xs[k] = x at *
      generalize ys[k]'(by have := HL.out; omega) = y at *
      have HCX := hid cx1
      have HCY := hid cy1
      have SX := hid sx1
      have SY := hid sy1
      have c0 := HA.out.cells
      have x0 := ((HK.out.on.cell (HR.out _ hbx) (ox + k))).trans HCX.out
      have K0 : Hid (wr.drew.cell? ⟨b, 10, none⟩ = some (.map (some (m true))) ∧ wr.drew.cell? ⟨bx, ox + k, none⟩ = some (.string x)) := ⟨c0.1, x0⟩
      have HQ := hid (pop_any HA.out.drew.pn true x SX.out (by omega) HPX.out)
      clear gx gy cx1 sx1 cy1 sy1 c0 x0
      go_wp2_with fail
      go_region_held3 (fun w' => w'.cell? ⟨b, 10, none⟩ = some (.map (some (m true))) ∧ w'.cell? ⟨bx, ox + k, none⟩ = some (.string x))
        (first | exact K1.out | exact K0.out)
        (first
          | (go_at_call 31
             refine HQ.out.mono ?_
             rintro e w1 ⟨rfl, hk1, G2, hp1⟩
             have HA1 := hid (HA.out.drew.moved hk1 hp1)
             have HK1 := hid (HK.out.drew.trans hk1.toA)
             have K1 : Hid (w1.cell? ⟨b, 10, none⟩ = some (.map (some (m true))) ∧ w1.cell? ⟨bx, ox + k, none⟩ = some (.string x)) := ⟨HA1.out.cells.1, (HK1.out.on.cell (HR.out _ hbx) (ox + k)).trans HCX.out⟩
             clear hk1 hp1))
      have y1 := (HK1.out.drew.on.cell (HR.out _ hby) (oy + k)).trans HCY.out
      have c1 := HA1.out.drew.cells
      have K2 : Hid (w1.drew.cell? ⟨b, 11, none⟩ = some (.map (some (m false))) ∧ w1.drew.cell? ⟨by', oy + k, none⟩ = some (.string y)) := ⟨c1.2.1, y1⟩
      have HQ2 := hid (pop_any HA1.out.drew.pn false y SY.out (by omega) (by rw [updA_other _ _ (fun h => absurd h.1 (by decide))]; exact HPY.out))
      rw [updA_other (A1) _ (fun h => absurd h.1 (by decide))] at HQ2
      clear c1 y1 K0 K1 HQ
      go_wp2_with fail
      go_region_held3 (fun w' => w'.cell? ⟨b, 11, none⟩ = some (.map (some (m false))) ∧ w'.cell? ⟨by', oy + k, none⟩ = some (.string y))
        (first | exact K3.out | exact K2.out)
        (first
          | (go_at_call 31
             refine HQ2.out.mono ?_
             rintro e w2 ⟨rfl, hk2, G3, hp2⟩
             have HA2 := hid (HA1.out.drew.moved hk2 hp2)
             have HK2 := hid (HK1.out.drew.trans hk2.toA)
             have K3 : Hid (w2.cell? ⟨b, 11, none⟩ = some (.map (some (m false))) ∧ w2.cell? ⟨by', oy + k, none⟩ = some (.string y)) := ⟨HA2.out.cells.2.1, (HK2.out.on.cell (HR.out _ hby) (oy + k)).trans HCY.out⟩
             clear hk2 hp2))
      clear K2 K3 HQ2
      go_wp2_with fail
      refine ⟨⟨k + 1, by omega, by go_num, G3, ?_, HK2⟩, by simp [intOf]; omega⟩
      have h := HA2.out
      rw [HST.out, HA2E.out] at h
      exact AlphaAt.more (n := n + 2 * k + 1 + 1) (n' := n + 2 * (k + 1)) h (by omega)
    · go_wp2_with fail
      go_end0
      have hkk : k = xs.length := by omega
      subst hkk
      have h := HA.out
      rw [popA_end _ _ _ _ (by have := HZ.out; omega)] at h
      exact ⟨rfl, HK.out, G1, h⟩
end Go.Proofs.Ytghgilkdmdppcaa
