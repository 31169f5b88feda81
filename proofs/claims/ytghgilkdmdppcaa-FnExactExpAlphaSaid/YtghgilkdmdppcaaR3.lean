/-
  The program's push, pop and last. Condition: the two maps lie in memory as PN says.
-/
import Derived.Test.YtghgilkdmdppcaaR2
namespace Go.Proofs.Ytghgilkdmdppcaa
open Go.RowKit Go.Siskin

section
variable {w : World} {F : Nat → Prop} {base : Nat} {m : Bool → Nat} {n : Nat} {A : Bool → ByteArray → List Int} {G : Bool → ByteArray → Option Value}

theorem kept_push {w1 w2 : World} (h : PN w F base m n A G) {i : Bool} {t : ByteArray} (hg : w.grownBy w1 (pG (G i) t).ownBlock) (hg2 : w1.grownBy w2 (some (m i))) : Kept F w w2 :=
  ⟨hg2.os.trans hg.os, hg2.tape.trans hg.tape, hg2.output.trans hg.output, Nat.le_trans hg.size hg2.size, fun k hk =>
    (hg2.block k (Nat.lt_of_lt_of_le (h.low k hk) hg.size) (fun e => h.offm i (by rw [← Option.some.inj e]; exact hk))).trans (hg.block k (h.low k hk) fun e => h.off i t k e.symm hk)⟩

set_option maxRecDepth 20000 in
set_option maxHeartbeats 1000000 in
theorem push_any (h : PN w F base m n A G) (i : Bool) (t : ByteArray) (ht : t.size ≤ maxLen) (x : Int) (hn : n < 16777216) (hl : (A i t).length ≤ 2097152) :
    Calls Try.prog 30 #[.map (some (m i)), .string t, .int .i64 x] w fun e w' => e = .returned (.tuple #[]) ∧ Kept F w w' ∧ ∃ G', PN w' F base m (n + 1) (updA A i t (A i t ++ [x])) G' := by
  obtain ⟨i0, hi, hz0, hz1, hz2⟩ := info_parts Try.infoIntP
  have Hi := hid hi
  have Hz0 := hid hz0
  have Hz1 := hid hz1
  have Hz2 := hid hz2
  clear hi hz0 hz1 hz2
  have hL := (h.map i).look Try.underlying9 Try.underlying48 (Try.zeroInts _) ht
  obtain ⟨a, cap, hv, hlm⟩ : ∃ a cap, pG (G i) t = .slice a (A i t).length cap ∧ (A i t).length ≤ maxLen := by
    obtain ⟨a, cap, e, h1, -⟩ := row_last (h.row i t)
    exact ⟨a, cap, e, h1⟩
  have hv' : (G i t).getD (.slice none 0 0) = .slice a (A i t).length cap := hv
  rw [hv'] at hL
  have HP := hid h
  have Hv := hid hv
  have HR := hid (h.row i t)
  rw [hv] at HR
  have Ht := hid ht
  have hle := h.le
  clear h hv hv' ht
  go_enter Try.func30, Try.ntmps30
  go_wp2_with (at_builtin; refine wpList_append_lies _ rfl _ _ _ rfl base 3 i0 (.int .i64 0) 1 8 Try.underlying68 Hi.out Hz0.out Hz1.out Hz2.out rfl (by decide) _ (A i t).length ((A i t).map (Value.int .i64)) rfl (HR.out.alloc _) ⟨w.heap.size, 0, none⟩ 1 1 [.int .i64 x] rfl rfl (cell_one_new _ _ _) (by simp [Value.oneCell']) (by omega) (by unfold maxLen; omega) (by omega) (by simp; omega) (w.heap.size + 1) (by simp) ?_; intro gg cc w4 hown' hg hat hgl; have hall := (World.grownBy_alloc w _ _).trans hg; have HA := hid hall; have HO := hid hown'; have HT := hid hat; obtain ⟨w5, hr5, hm5, hg5⟩ := ((HP.out.map i).keep (w' := w4) (fun k e => by rw [e]; exact hall.block _ (HP.out.map i).lt (fun e' => by have h1 := HP.out.rowlt i t (g := m i) (by rw [Hv.out]; exact e'.symm); have h2 := HP.out.lt i; omega))).put Try.underlying9 Try.underlying48 (by unfold maxLen; omega) Ht.out (.slice (some ⟨gg, 0, none⟩) ((A i t).length + 1) cc); have HM5 := hid hm5; have HG5 := hid hg5; clear hall hown' hat hg hm5 hg5)
  go_end0
  have hA : w.grownBy w4 (pG (G i) t).ownBlock := by rw [Hv.out]; exact HA.out
  refine ⟨rfl, kept_push HP.out hA HG5.out, _, HP.out.step i t (l' := A i t ++ [x]) (v' := .slice (some ⟨gg, 0, none⟩) ((A i t).length + 1) cc) hA ?_ ?_ HM5.out HG5.out⟩
  · have h := HO.out
    rw [List.length_append, List.length_singleton, List.map_append]
    exact h
  · rcases HT.out with e | e
    · left; rw [Hv.out]; exact e.symm
    · right; exact ⟨gg, rfl, by omega⟩

set_option maxRecDepth 20000 in
set_option maxHeartbeats 1000000 in
theorem pop_any (h : PN w F base m n A G) (i : Bool) (t : ByteArray) (ht : t.size ≤ maxLen) (hn : n < 16777216) (hp : 1 ≤ (A i t).length) :
    Calls Try.prog 31 #[.map (some (m i)), .string t] w fun e w' => e = .returned (.tuple #[]) ∧ Kept F w w' ∧ ∃ G', PN w' F base m (n + 1) (updA A i t (A i t).dropLast) G' := by
  have hL := (h.map i).look Try.underlying9 Try.underlying48 (Try.zeroInts _) ht
  obtain ⟨g, cap, hv, hcap, hrow⟩ := row_pop (h.row i t) hp
  have hv' : (G i t).getD (.slice none 0 0) = .slice (some ⟨g, 0, none⟩) (A i t).length cap := hv
  have hlm : (A i t).length ≤ maxLen := by
    obtain ⟨a, c, e, h1, -⟩ := row_last (h.row i t)
    exact h1
  unfold maxLen at hlm
  rw [hv'] at hL
  obtain ⟨w5, hr5, hm5, hg5⟩ := (h.map i).put Try.underlying9 Try.underlying48 (by unfold maxLen; omega) ht (.slice (some ⟨g, 0, none⟩) ((A i t).length - 1) cap)
  have HG0 : Hid (w.grownBy w (pG (G i) t).ownBlock) := World.grownBy.refl _ _
  have HK := hid (kept_push h HG0.out hg5)
  have HS := hid (h.step i t (l' := (A i t).dropLast) (v' := .slice (some ⟨g, 0, none⟩) ((A i t).length - 1) cap) HG0.out hrow (Or.inl (by rw [hv]; rfl)) hm5 hg5)
  clear h hv hv' ht hrow hm5 hg5 HG0
  generalize A i t = l at *
  obtain ⟨q, hq⟩ : ∃ q, l.length = q + 1 := ⟨l.length - 1, by omega⟩
  rw [hq] at hL hr5 hcap hlm
  rw [Nat.add_sub_cancel] at hr5
  clear hq hp
  go_enter Try.func31, Try.ntmps31
  go_wp2_with fail
  go_end0
  exact ⟨rfl, HK.out, _, HS.out⟩

def lastV (l : List Int) : Int × Bool := match l.getLast? with
  | some x => (x, true)
  | none => (0, false)

set_option maxRecDepth 20000 in
set_option maxHeartbeats 1000000 in
theorem last_any (h : PN w F base m n A G) (i : Bool) (t : ByteArray) (ht : t.size ≤ maxLen) :
    Calls Try.prog 29 #[.map (some (m i)), .string t] w fun e w' => e = .returned (.tuple #[.int .i64 (lastV (A i t)).1, .bool (lastV (A i t)).2]) ∧ w' = w := by
  have hL := (h.map i).look Try.underlying9 Try.underlying48 (Try.zeroInts _) ht
  obtain ⟨a, cap, hv, hlm, hx⟩ := row_last (h.row i t)
  have hv' : (G i t).getD (.slice none 0 0) = .slice a (A i t).length cap := hv
  rw [hv'] at hL
  unfold maxLen at hlm
  clear h hv hv' ht
  generalize A i t = l at *
  rcases hx with rfl | ⟨g, x, rfl, hx, hc⟩
  · have h0 : (lastV []) = (0, false) := rfl
    rw [h0]
    simp only [List.length_nil] at hL
    go_enter Try.func29, Try.ntmps29
    go_wp2_with fail
    go_ret2
    exact ⟨rfl, rfl⟩
  · have h0 : lastV l = (x, true) := by unfold lastV; rw [hx]
    rw [h0]
    obtain ⟨q, hq⟩ : ∃ q, l.length = q + 1 := ⟨l.length - 1, by
      have : l ≠ [] := fun e => by rw [e] at hx; cases hx
      have := List.length_pos_iff.2 this
      omega⟩
    rw [hq] at hL hc hlm
    rw [Nat.add_sub_cancel] at hc
    clear h0 hq hx
    go_enter Try.func29, Try.ntmps29
    go_wp2_with fail
    go_ret2
    exact ⟨rfl, rfl⟩
end
end Go.Proofs.Ytghgilkdmdppcaa
