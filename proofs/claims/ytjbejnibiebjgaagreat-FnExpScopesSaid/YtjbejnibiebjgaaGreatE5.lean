/-
  The drawing of a form, l8Form. Condition: the reader and its bytes lie in memory apart, and it has not picked too often.
-/
import Derived.Test.YtjbejnibiebjgaaGreatPart3
import Derived.Deep.RegionLaw
namespace Go.Proofs.YtjbejnibiebjgaaGreat
open Go.RowKit Go.Siskin

/-- How often is picked for a form so deep, and how long it is, at most. -/
def bnd (d : Nat) : Nat := 10 * 4 ^ d
theorem bnd_succ (d : Nat) : bnd (d + 1) = 4 * bnd d := by unfold bnd; rw [Nat.pow_succ]; omega
theorem bnd_ten (d : Nat) : 10 ≤ bnd d := by unfold bnd; have := Nat.one_le_pow d 4 (by decide); omega

theorem least_zero (w : World) : Calls Tryz.prog 41 #[.int .i64 0, .int .i64 1] w fun e w' => e = .returned (.int .i64 0) ∧ w' = w := by
  go_enter Tryz.func41, Tryz.ntmps41
  go_wp2_with fail
  go_ret
  exact ⟨rfl, rfl⟩
theorem least_one (d : Nat) (hd : d ≤ 100) (w : World) : Calls Tryz.prog 41 #[.int .i64 ((d : Int) + 1), .int .i64 1] w fun e w' => e = .returned (.int .i64 1) ∧ w' = w := by
  have h1 : ¬ (d : Int) + 1 < 1 := by omega
  go_enter Tryz.func41, Tryz.ntmps41
  go_wp2_with fail
  go_ret
  exact ⟨rfl, rfl⟩

/-- What is drawn as a form: behind the call. -/
def Drawn (rb : Nat) (v : Value) (w : World) (p b c : Nat) (e : Ending) (w' : World) : Prop :=
  ∃ (c0 c1 c2 c3 c4 : Value) (f : Fm) (q : Nat), e = .returned (.agg #[c0, c1, c2, c3, c4]) ∧ FormAt (Fresh w w') w' f c0 c1 c2 c3 c4 ∧ f.cost ≤ c ∧ q ≤ p + b ∧ Picked rb v w w' q
def DrawForm (d : Nat) : Prop := ∀ (R : Nat → Prop) (w : World) (rb n p : Nat) (v : Value), RdAt R w rb n p v → p + bnd d ≤ 900000 →
  Calls Tryz.prog 27 #[.pointer (some ⟨rb, 0, none⟩), .int .i64 d] w (Drawn rb v w p (bnd d) (bnd d))

theorem drawn_put {rb : Nat} {v : Value} {w w2 : World} {p b c q : Nat} {f : Fm} {c0 c1 c2 c3 c4 : Value} {B : Nat → Prop} (hf : FormAt B w2 f c0 c1 c2 c3 c4) (hB : ∀ i, B i → w.heap.size < i ∧ i < w2.heap.size) (hc : f.cost ≤ c) (hq : q ≤ p + b) (hp : Picked rb v w w2 q) (hrb : rb < w.heap.size) :
    Drawn rb v w p b c (.returned (.agg #[c0, c1, c2, c3, c4])) (wr5 w2 w.heap.size c0 c1 c2 c3 c4) := by
  have hg := wr5_grown w2 w.heap.size c0 c1 c2 c3 c4
  refine ⟨c0, c1, c2, c3, c4, f, q, rfl, FormAt.mono (fun i hi => ⟨by have := hB i hi; omega, by rw [wr5_size]; exact (hB i hi).2⟩) _ (FormAt.keep (fun i hi => hg.block i (hB i hi).2 fun e => ?_) f hf), hc, hq, hp.far hg (fun g e => by cases e; exact Nat.le_refl _) hrb⟩
  have := (hB i hi).1
  cases e
  omega
/-- The ten facts on a result's block. -/
theorem own_ten {w : World} {g : Nat} {e : TypeId} {c0 c1 c2 c3 c4 : Value} (h : Own w g e #[c0, c1, c2, c3, c4]) :
    (w.cell? ⟨g, 0, none⟩ = some c0 ∧ w.cell? ⟨g, 1, none⟩ = some c1 ∧ w.cell? ⟨g, 2, none⟩ = some c2 ∧ w.cell? ⟨g, 3, none⟩ = some c3 ∧ w.cell? ⟨g, 4, none⟩ = some c4) ∧
    w.frozen? ⟨g, 0, none⟩ = false ∧ w.frozen? ⟨g, 1, none⟩ = false ∧ w.frozen? ⟨g, 2, none⟩ = false ∧ w.frozen? ⟨g, 3, none⟩ = false ∧ w.frozen? ⟨g, 4, none⟩ = false :=
  ⟨⟨(h.cell 0).trans (by simp), (h.cell 1).trans (by simp), (h.cell 2).trans (by simp), (h.cell 3).trans (by simp), (h.cell 4).trans (by simp)⟩, h.frozen 0, h.frozen 1, h.frozen 2, h.frozen 3, h.frozen 4⟩

theorem either5 {a b c d : Prop} (h : a ∨ b) (f : a → c) (g : b → d) : c ∨ d := by
  rcases h with h | h
  · exact Or.inl (f h)
  · exact Or.inr (g h)

set_option maxRecDepth 20000 in
set_option maxHeartbeats 2000000 in
theorem form_zero : DrawForm 0 := by
  intro R w rb n p v h hp
  have HR := hid h
  have hrb := h.own.lt
  clear h
  have hRd : Hid (∀ g, w.heap.size ≤ g → ¬ R g ∧ g ≠ rb) := fun g hg => ⟨fun h => by have := HR.out.low g h; omega, by omega⟩
  have hb10 := bnd_ten 0
  go_enter Tryz.func27, Tryz.ntmps27
  go_wp2_with (go_at_call 41; refine (least_zero _).mono ?_; rintro e w' ⟨rfl, rfl⟩)
  refine (pick_rd (HR.out.alloc _) 4 (by omega) (by omega)).mono ?_
  rintro e w1 ⟨m, hm, rfl, hp1, hz1⟩
  have HR1 := hid ((HR.out.alloc _).picked hp1 (by omega))
  have HB1 := hid ((own_new w #[.int .i64 0, .string ⟨#[]⟩, .slice none 0 0, .int .i64 0, .slice none 0 0] 26).picked hp1 (by omega))
  have HP1 := hid ((HR.out.now.below ((Below.refl w.heap.size w).alloc (Nat.le_refl _) _) (Nat.le_refl _) hrb).trans hp1)
  have hz : w1.heap.size = w.heap.size + 1 := by rw [hz1]; simp
  clear hp1 hz1
  obtain rfl | rfl | rfl | rfl : m = 0 ∨ m = 1 ∨ m = 2 ∨ m = 3 := by omega
  · go_wp2_with fail
    refine (l8Id_any HR1.out (by omega)).mono ?_
    rintro e w2 ⟨c0, c1, c2, c3, c4, f, q, rfl, hf, -, -, hcost, hq, hp2⟩
    have HF := hid hf
    obtain ⟨rfl, rfl, -, h2, rfl, h4⟩ := (formAt_iff _ _ _ _ _ _ _ _).1 hf
    obtain ⟨x2, y2, rfl, -⟩ := h2
    obtain ⟨x4, y4, rfl, -⟩ := h4
    obtain ⟨⟨b0, b1, b2, b3, b4⟩, z0, z1, z2, z3, z4⟩ := own_ten (HB1.out.picked hp2 (by omega))
    have HP2 := hid (HP1.out.trans hp2)
    have hs2 := hp2.1.size
    clear hf hp2
    go_wp2_with fail
    refine bodyPost_ret (v := .agg #[.int .i64 f.sort, .string f.text, .slice x2 f.scopes.length y2, .int .i64 f.frm, .slice x4 f.kids.length y4]) (by simp [results, Tryz.results27, go_sem, b0, b1, b2, b3, b4]) rfl ?_
    exact drawn_put HF.out (fun i hi => ⟨by have := hi.1; omega, hi.2⟩) (by omega) (by omega) HP2.out hrb
  · go_wp2_with fail
    refine (l8Id_any HR1.out (by omega)).mono ?_
    rintro e w2 ⟨c0, c1, c2, c3, c4, f, q, rfl, hf, -, -, hcost, hq, hp2⟩
    have HF := hid hf
    obtain ⟨rfl, rfl, -, h2, rfl, h4⟩ := (formAt_iff _ _ _ _ _ _ _ _).1 hf
    obtain ⟨x2, y2, rfl, -⟩ := h2
    obtain ⟨x4, y4, rfl, -⟩ := h4
    obtain ⟨⟨b0, b1, b2, b3, b4⟩, z0, z1, z2, z3, z4⟩ := own_ten (HB1.out.picked hp2 (by omega))
    have HP2 := hid (HP1.out.trans hp2)
    have hs2 := hp2.1.size
    clear hf hp2
    go_wp2_with fail
    refine bodyPost_ret (v := .agg #[.int .i64 f.sort, .string f.text, .slice x2 f.scopes.length y2, .int .i64 f.frm, .slice x4 f.kids.length y4]) (by simp [results, Tryz.results27, go_sem, b0, b1, b2, b3, b4]) rfl ?_
    exact drawn_put HF.out (fun i hi => ⟨by have := hi.1; omega, hi.2⟩) (by omega) (by omega) HP2.out hrb
  · go_wp2_with fail
    refine (of_rd (HR1.out.alloc _) (w.heap.size + 1) [⟨#[49]⟩, ⟨#[35, 116]⟩, ⟨#[34, 115, 34]⟩, ⟨#[45, 55]⟩] (by simp) (by simp) (by omega) (by simp; omega) (fun i hi => by rw [← hz]; rcases i with _ | _ | _ | _ | i <;> first | (simp; done) | (simp at hi; omega))).mono ?_
    rintro e w2 ⟨s, hs, rfl, hp2, hz2⟩
    have hsz : s.size ≤ 4 := by
      simp only [List.mem_cons, List.not_mem_nil, or_false] at hs
      rcases hs with rfl | rfl | rfl | rfl <;> decide
    obtain ⟨⟨b0, b1, b2, b3, b4⟩, z0, z1, z2, z3, z4⟩ := own_ten ((HB1.out.more (by omega) _).picked hp2 (by omega))
    have HP2 := hid ((HP1.out.below ((Below.refl w.heap.size w1).alloc (by omega) _) (Nat.le_refl _) hrb).trans hp2)
    clear hs hp2
    go_wp2_with fail
    refine bodyPost_ret (v := .agg #[.int .i64 2, .string s, .slice none 0 0, .int .i64 0, .slice none 0 0]) (by simp [results, Tryz.results27, go_sem, b0, b1, b2, b3, b4]) rfl ?_
    refine drawn_put (f := ⟨2, s, [], 0, []⟩) (B := fun _ => False) ((formAt_iff _ _ _ _ _ _ _ _).2 ⟨rfl, rfl, by unfold maxLen; show s.size ≤ _; omega, ⟨none, 0, rfl, ⟨Nat.zero_le _, Nat.le_refl _⟩, Or.inl rfl⟩, rfl, none, 0, rfl, Nat.zero_le _, Or.inl rfl⟩) (fun i hi => hi.elim) ?_ (by omega) HP2.out hrb
    rw [Fm.cost_eq]
    show s.size + 0 + 0 + Fm.costs [] ≤ _
    rw [Fm.costs_nil]; omega
  · obtain ⟨⟨b0, b1, b2, b3, b4⟩, z0, z1, z2, z3, z4⟩ := own_ten HB1.out
    go_wp2_with fail
    refine bodyPost_ret (v := .agg #[.int .i64 3, .string ⟨#[]⟩, .slice none 0 0, .int .i64 0, .slice none 0 0]) (by simp [results, Tryz.results27, go_sem, b0, b1, b2, b3, b4]) rfl ?_
    refine drawn_put (f := ⟨3, ⟨#[]⟩, [], 0, []⟩) (B := fun _ => False) ((formAt_iff _ _ _ _ _ _ _ _).2 ⟨rfl, rfl, Nat.zero_le _, ⟨none, 0, rfl, ⟨Nat.zero_le _, Nat.le_refl _⟩, Or.inl rfl⟩, rfl, none, 0, rfl, Nat.zero_le _, Or.inl rfl⟩) (fun i hi => hi.elim) ?_ (by omega) HP1.out hrb
    rw [Fm.cost_eq]
    show 0 + 0 + 0 + Fm.costs [] ≤ _
    rw [Fm.costs_nil]; omega

set_option maxRecDepth 20000 in
set_option maxHeartbeats 8000000 in
theorem form_succ (d : Nat) (hd : d ≤ 100) (ih : DrawForm d) : DrawForm (d + 1) := by
  have HI := hid ih
  clear ih
  obtain ⟨i0, hi, hz0, hz1, hz2⟩ := info_parts Tryz.infoFormE
  have Hi := hid hi
  have Hz0 := hid hz0
  have Hz1 := hid hz1
  have Hz2 := hid hz2
  clear hi hz0 hz1 hz2
  intro R w rb n p v h hp
  have HR := hid h
  have hrb := h.own.lt
  clear h
  have hRd : Hid (∀ g, w.heap.size ≤ g → ¬ R g ∧ g ≠ rb) := fun g hg => ⟨fun h => by have := HR.out.low g h; omega, by omega⟩
  have hb10 := bnd_ten d
  have hb4 := bnd_succ d
  go_enter Tryz.func27, Tryz.ntmps27
  go_wp2_with (go_at_call 41; refine (least_one d hd _).mono ?_; rintro e w' ⟨rfl, rfl⟩)
  refine (pick_rd (HR.out.alloc _) 7 (by omega) (by omega)).mono ?_
  rintro e w1 ⟨m, hm, rfl, hp1, hz1⟩
  have HR1 := hid ((HR.out.alloc _).picked hp1 (by omega))
  have HB1 := hid ((own_new w #[.int .i64 0, .string ⟨#[]⟩, .slice none 0 0, .int .i64 0, .slice none 0 0] 26).picked hp1 (by omega))
  have HP1 := hid ((HR.out.now.below ((Below.refl w.heap.size w).alloc (Nat.le_refl _) _) (Nat.le_refl _) hrb).trans hp1)
  have hz : w1.heap.size = w.heap.size + 1 := by rw [hz1]; simp
  clear hp1 hz1
  obtain rfl | rfl | rfl | rfl | rfl | hm5 : m = 0 ∨ m = 1 ∨ m = 2 ∨ m = 3 ∨ m = 4 ∨ 5 ≤ m := by omega
  · go_wp2_with fail
    refine (l8Id_any HR1.out (by omega)).mono ?_
    rintro e w2 ⟨c0, c1, c2, c3, c4, f, q, rfl, hf, -, -, hcost, hq, hp2⟩
    have HF := hid hf
    obtain ⟨rfl, rfl, -, h2, rfl, h4⟩ := (formAt_iff _ _ _ _ _ _ _ _).1 hf
    obtain ⟨x2, y2, rfl, -⟩ := h2
    obtain ⟨x4, y4, rfl, -⟩ := h4
    obtain ⟨⟨b0, b1, b2, b3, b4⟩, z0, z1, z2, z3, z4⟩ := own_ten (HB1.out.picked hp2 (by omega))
    have HP2 := hid (HP1.out.trans hp2)
    have hs2 := hp2.1.size
    clear hf hp2
    go_wp2_with fail
    refine bodyPost_ret (v := .agg #[.int .i64 f.sort, .string f.text, .slice x2 f.scopes.length y2, .int .i64 f.frm, .slice x4 f.kids.length y4]) (by simp [results, Tryz.results27, go_sem, b0, b1, b2, b3, b4]) rfl ?_
    exact drawn_put HF.out (fun i hi => ⟨by have := hi.1; omega, hi.2⟩) (by omega) (by omega) HP2.out hrb
  · go_wp2_with fail
    refine (l8Id_any HR1.out (by omega)).mono ?_
    rintro e w2 ⟨c0, c1, c2, c3, c4, f, q, rfl, hf, -, -, hcost, hq, hp2⟩
    have HF := hid hf
    obtain ⟨rfl, rfl, -, h2, rfl, h4⟩ := (formAt_iff _ _ _ _ _ _ _ _).1 hf
    obtain ⟨x2, y2, rfl, -⟩ := h2
    obtain ⟨x4, y4, rfl, -⟩ := h4
    obtain ⟨⟨b0, b1, b2, b3, b4⟩, z0, z1, z2, z3, z4⟩ := own_ten (HB1.out.picked hp2 (by omega))
    have HP2 := hid (HP1.out.trans hp2)
    have hs2 := hp2.1.size
    clear hf hp2
    go_wp2_with fail
    refine bodyPost_ret (v := .agg #[.int .i64 f.sort, .string f.text, .slice x2 f.scopes.length y2, .int .i64 f.frm, .slice x4 f.kids.length y4]) (by simp [results, Tryz.results27, go_sem, b0, b1, b2, b3, b4]) rfl ?_
    exact drawn_put HF.out (fun i hi => ⟨by have := hi.1; omega, hi.2⟩) (by omega) (by omega) HP2.out hrb
  · go_wp2_with fail
    refine (of_rd (HR1.out.alloc _) (w.heap.size + 1) [⟨#[49]⟩, ⟨#[35, 116]⟩, ⟨#[34, 115, 34]⟩, ⟨#[45, 55]⟩] (by simp) (by simp) (by omega) (by simp; omega) (fun i hi => by rw [← hz]; rcases i with _ | _ | _ | _ | i <;> first | (simp; done) | (simp at hi; omega))).mono ?_
    rintro e w2 ⟨s, hs, rfl, hp2, hz2⟩
    have hsz : s.size ≤ 4 := by
      simp only [List.mem_cons, List.not_mem_nil, or_false] at hs
      rcases hs with rfl | rfl | rfl | rfl <;> decide
    obtain ⟨⟨b0, b1, b2, b3, b4⟩, z0, z1, z2, z3, z4⟩ := own_ten ((HB1.out.more (by omega) _).picked hp2 (by omega))
    have HP2 := hid ((HP1.out.below ((Below.refl w.heap.size w1).alloc (by omega) _) (Nat.le_refl _) hrb).trans hp2)
    clear hs hp2
    go_wp2_with fail
    refine bodyPost_ret (v := .agg #[.int .i64 2, .string s, .slice none 0 0, .int .i64 0, .slice none 0 0]) (by simp [results, Tryz.results27, go_sem, b0, b1, b2, b3, b4]) rfl ?_
    refine drawn_put (f := ⟨2, s, [], 0, []⟩) (B := fun _ => False) ((formAt_iff _ _ _ _ _ _ _ _).2 ⟨rfl, rfl, by unfold maxLen; show s.size ≤ _; omega, ⟨none, 0, rfl, ⟨Nat.zero_le _, Nat.le_refl _⟩, Or.inl rfl⟩, rfl, none, 0, rfl, Nat.zero_le _, Or.inl rfl⟩) (fun i hi => hi.elim) ?_ (by omega) HP2.out hrb
    rw [Fm.cost_eq]
    show s.size + 0 + 0 + Fm.costs [] ≤ _
    rw [Fm.costs_nil]; omega
  · obtain ⟨⟨b0, b1, b2, b3, b4⟩, z0, z1, z2, z3, z4⟩ := own_ten HB1.out
    go_wp2_with fail
    refine bodyPost_ret (v := .agg #[.int .i64 3, .string ⟨#[]⟩, .slice none 0 0, .int .i64 0, .slice none 0 0]) (by simp [results, Tryz.results27, go_sem, b0, b1, b2, b3, b4]) rfl ?_
    refine drawn_put (f := ⟨3, ⟨#[]⟩, [], 0, []⟩) (B := fun _ => False) ((formAt_iff _ _ _ _ _ _ _ _).2 ⟨rfl, rfl, Nat.zero_le _, ⟨none, 0, rfl, ⟨Nat.zero_le _, Nat.le_refl _⟩, Or.inl rfl⟩, rfl, none, 0, rfl, Nat.zero_le _, Or.inl rfl⟩) (fun i hi => hi.elim) ?_ (by omega) HP1.out hrb
    rw [Fm.cost_eq]
    show 0 + 0 + 0 + Fm.costs [] ≤ _
    rw [Fm.costs_nil]; omega
  · go_wp2_with fail
    refine (pick_rd (HR1.out.alloc _) 2 (by omega) (by omega)).mono ?_
    rintro e w2 ⟨m2, hm2, rfl, hp2, hz2⟩
    have HR2 := hid ((HR1.out.alloc _).picked hp2 (by omega))
    have HB2 := hid ((HB1.out.more (by omega) _).picked hp2 (by omega))
    have HF2 := own_new w1 #[.int .i64 4, .string ⟨#[]⟩, .slice none 0 0, .int .i64 0, .slice none 0 0] 26
    rw [hz] at HF2
    have HF2 := hid (HF2.picked hp2 (by omega))
    have HP2 := hid ((HP1.out.below ((Below.refl w.heap.size w1).alloc (by omega) _) (Nat.le_refl _) hrb).trans hp2)
    simp only [World.size_alloc] at hz2
    have hz3 : w2.heap.size = w.heap.size + 2 := by omega
    clear hp2 hz2
    go_wp2_with fail
    go_loopw [6] (fun i wr => ∃ j : Nat, i = .int .i64 j ∧ ∃ (ks : List Fm) (S : Nat → Prop) (ua : Option Addr) (uc q : Nat), ks.length + j ≤ 2 ∧ ks.length + Fm.costs ks ≤ ks.length * (1 + bnd d) ∧ q ≤ p + 2 + ks.length * bnd d ∧ Hid (Kids S wr (w.heap.size + 2) (.slice ua ks.length uc) ks) ∧ Hid (Own wr (w.heap.size + 1) 26 #[.int .i64 4, .string ⟨#[]⟩, .slice none 0 0, .int .i64 0, .slice ua ks.length uc]) ∧ Hid (Own wr w.heap.size 26 #[.int .i64 0, .string ⟨#[]⟩, .slice none 0 0, .int .i64 0, .slice none 0 0]) ∧ Hid (RdAt R wr rb n q v) ∧ Hid (Picked rb v w wr q) ∧ w.heap.size + 2 ≤ wr.heap.size) (fun i _ => (intOf i).toNat)
    case atStart => exact ⟨1 + m2, by simp, [], fun _ => False, none, 0, p + 1 + 1, by simp; omega, by simp [Fm.costs_nil], by simp, kids_no, HF2, HB2, HR2, HP2, by omega⟩
    case round =>
      obtain ⟨j, rfl, ks, S, ua, uc, q, hkl, hcs, hq, HK, HF, HB, HD, HP, hws⟩ := hrel
      by_cases hj : 0 < j
      · have hj' : (0 : Int) < (j : Int) := by omega
        have hmul : ks.length * bnd d ≤ 2 * bnd d := Nat.mul_le_mul_right _ (by omega)
        have HC := hid (HI.out R wr.drew rb n q v (HD.out.below (Below.refl _ _).drew) (by omega))
        have f4 := HF.out.cell 4
        have z4 := HF.out.frozen 4
        simp at f4
        have hrw : w.heap.size + 1 < wr.heap.size := by omega
        have hwd : IntKind.i64.wrap (d : Int) = (d : Int) := by simp [IntKind.wrap, IntKind.bits, IntKind.signed]; omega
        go_wp2_with fail
        go_region_law (first
          | (refine step_append_lies _ (by rfl) _ _ _ (by rfl) (w.heap.size + 2) 26 i0 _ 5 80 Tryz.underlying24 Hi.out Hz0.out Hz1.out Hz2.out rfl (by omega) (.slice ua ks.length uc) ks.length cs (by rfl) (R1.out.alloc _)
              ⟨w3.heap.size, 0, none⟩ 1 1 [.int .i64 f.sort, .string f.text, .slice x2 f.scopes.length y2, .int .i64 f.frm, .slice x4 f.kids.length y4] (by rfl) (by rfl) (World.news_of_block (cs := #[.int .i64 f.sort, .string f.text, .slice x2 f.scopes.length y2, .int .i64 f.frm, .slice x4 f.kids.length y4]) (heap_alloc_new _ _)) (by simp [Value.oneCell'])
              (by omega) (by unfold maxLen; omega) (by omega) (by simp; omega) (w3.heap.size + 1) (by simp) ?_
             intro g2 cap2 w4 hown4 hgrow hat hlt4
             have hall := (World.grownBy_alloc w3 _ _).trans hgrow
             have HA := hid hall
             have HF4 := hid (HF3.out.far hall fun e => by have := (HK3.out.lt e.symm).1; omega)
             have f5 := HF4.out.cell 4
             have z5 := HF4.out.frozen 4
             simp at f5
             have HK4 := hid (HK3.out.snoc R1.out R2.out HM3.out hall hown4 (either5 hat (fun e => e.symm) fun e => ⟨g2, rfl, by omega⟩))
             clear hall hgrow hown4 hat)
          | (go_simp
             go_at_call 27
             refine HC.out.mono ?_
             rintro e w3 ⟨c0, c1, c2, c3, c4, f, q3, rfl, hf, hcost, hq3, hp3⟩
             have hs3 : wr.heap.size ≤ w3.heap.size := hp3.1.size
             have hpk : Picked rb v wr w3 q3 := ⟨⟨hp3.1.os, hp3.1.tape, hp3.1.output, hp3.1.size, hp3.1.block⟩, hp3.2⟩
             have HK3 := hid ((HK.out.keep hpk.1 (fun g e hS => by cases e; have := HK.out.low _ hS; omega) (by cases hu : (Value.slice ua ks.length uc).ownBlock with | none => exact Or.inl rfl | some g => exact Or.inr fun e => by have := (HK.out.lt hu).1; simp at e; omega)).more (S' := Reg S wr w3) (fun i hi => Or.inl hi) (fun i hi => by
               rcases hi with hi | hi
               · have := HK.out.low i hi; omega
               · omega) (fun g e hS => by
               rcases hS with hS | hS
               · exact HK.out.off g e hS
               · have := (HK.out.lt e).2; omega))
             have HM3 := hid (FormAt.mono (B' := Reg S wr w3) (fun i hi => Or.inr hi) _ hf)
             obtain ⟨rfl, rfl, -, h2, rfl, h4⟩ := (formAt_iff _ _ _ _ _ _ _ _).1 hf
             obtain ⟨x2, y2, rfl, -⟩ := h2
             obtain ⟨x4, y4, rfl, -⟩ := h4
             have HF3 := hid (HF.out.picked hpk (by omega))
             have HB3 := hid (HB.out.picked hpk (by omega))
             have HD3 := hid (HD.out.picked hpk (by omega))
             have HP3 := hid (HP.out.trans hpk)
             have f3 := HF3.out.cell 4
             simp at f3
             have hr3 : w.heap.size + 1 < w3.heap.size := by omega
             obtain ⟨cs, r1, r2⟩ := HK3.out.row
             have R1 := hid r1
             have R2 := hid r2
             clear hf hp3 hpk r1 r2))
        all_goals go_wp2_with fail
        all_goals
          have hs4 := HA.out.size
          have hgs := grown_set w4 (w.heap.size + 1) 4 (.slice (some ⟨g2, 0, none⟩) (ks.length + 1) cap2)
          have hlow : ∀ g, (Value.slice ua ks.length uc).ownBlock = some g → w.heap.size + 2 ≤ g := fun g e => (HK3.out.lt e).1
          have hg2 : w.heap.size + 2 ≤ g2 := (HK4.out.lt rfl).1
          have hcc : Fm.costs (ks ++ [f]) = Fm.costs ks + f.cost := by unfold Fm.costs; simp
          have hm1 : (ks.length + 1) * (1 + bnd d) = ks.length * (1 + bnd d) + (1 + bnd d) := by rw [Nat.add_mul, Nat.one_mul]
          have hm2 : (ks.length + 1) * bnd d = ks.length * bnd d + bnd d := by rw [Nat.add_mul, Nat.one_mul]
          refine ⟨⟨j - 1, by go_num, ks ++ [f], Reg S wr w3, some ⟨g2, 0, none⟩, cap2, q3, by simp; omega, by rw [List.length_append, List.length_singleton, hcc, hm1]; omega, by rw [List.length_append, List.length_singleton, hm2]; omega, ?_, ?_, ?_, ?_, ?_, by simp; omega⟩, by simp [intOf]; omega⟩
          · have h1 := HK4.out.keep hgs (fun g e hS => by cases e; have := (HK3.out.low _ hS).1; omega) (Or.inr fun e => by simp [Value.ownBlock] at e; omega)
            show Kids _ _ _ _ _
            rw [List.length_append, List.length_singleton]
            exact h1
          · have h1 := HF4.out.set 4 (.slice (some ⟨g2, 0, none⟩) (ks.length + 1) cap2)
            show Own _ _ _ _
            rw [List.length_append, List.length_singleton]
            simpa using h1
          · exact (HB3.out.far HA.out fun e => by have := hlow _ e.symm; omega).far hgs (by simp)
          · exact (HD3.out.far HA.out fun g e => hRd.out g (by have := hlow g e; omega)).far hgs fun g e => hRd.out g (by simp at e; omega)
          · exact (HP3.out.far HA.out (fun g e => by have := hlow g e; omega) hrb).far hgs (fun g e => by simp at e; omega) hrb
      · have hj0 : j = 0 := by omega
        subst hj0
        have hmul : ks.length * bnd d ≤ 2 * bnd d := Nat.mul_le_mul_right _ (by omega)
        have hmul2 : ks.length * (1 + bnd d) = ks.length + ks.length * bnd d := by rw [Nat.mul_add, Nat.mul_one]
        have f4 := HF.out.cell 4
        have z4 := HF.out.frozen 4
        simp at f4
        have hrw : w.heap.size + 1 < wr.heap.size := by omega
        go_wp2_with fail
        go_region_law (first
          | (refine step_append_lies _ (by rfl) _ _ _ (by rfl) (w.heap.size + 2) 26 i0 _ 5 80 Tryz.underlying24 Hi.out Hz0.out Hz1.out Hz2.out rfl (by omega) (.slice ua ks.length uc) ks.length cs (by rfl) (R1.out.alloc _)
              ⟨w3.heap.size, 0, none⟩ 1 1 [.int .i64 f.sort, .string f.text, .slice x2 f.scopes.length y2, .int .i64 f.frm, .slice x4 f.kids.length y4] (by rfl) (by rfl) (World.news_of_block (cs := #[.int .i64 f.sort, .string f.text, .slice x2 f.scopes.length y2, .int .i64 f.frm, .slice x4 f.kids.length y4]) (heap_alloc_new _ _)) (by simp [Value.oneCell'])
              (by omega) (by unfold maxLen; omega) (by omega) (by simp; omega) (w3.heap.size + 1) (by simp) ?_
             intro g2 cap2 w4 hown4 hgrow hat hlt4
             have hall := (World.grownBy_alloc w3 _ _).trans hgrow
             have HA := hid hall
             have HF4 := hid (HF3.out.far hall fun e => by have := (HK3.out.lt e.symm).1; omega)
             have f5 := HF4.out.cell 4
             have z5 := HF4.out.frozen 4
             simp at f5
             have HK4 := hid (HK3.out.snoc R1.out R2.out HM3.out hall hown4 (either5 hat (fun e => e.symm) fun e => ⟨g2, rfl, by omega⟩))
             clear hall hgrow hown4 hat)
          | (go_simp
             go_at_call 42
             refine (l8Id_any (HD.out.below (Below.refl _ _).drew) (by omega)).mono ?_
             rintro e w3 ⟨c0, c1, c2, c3, c4, f, q3, rfl, hf, -, -, hcost, hq3, hp3⟩
             have hs3 : wr.heap.size ≤ w3.heap.size := hp3.1.size
             have hpk : Picked rb v wr w3 q3 := ⟨⟨hp3.1.os, hp3.1.tape, hp3.1.output, hp3.1.size, hp3.1.block⟩, hp3.2⟩
             have HK3 := hid ((HK.out.keep hpk.1 (fun g e hS => by cases e; have := HK.out.low _ hS; omega) (by cases hu : (Value.slice ua ks.length uc).ownBlock with | none => exact Or.inl rfl | some g => exact Or.inr fun e => by have := (HK.out.lt hu).1; simp at e; omega)).more (S' := Reg S wr w3) (fun i hi => Or.inl hi) (fun i hi => by
               rcases hi with hi | hi
               · have := HK.out.low i hi; omega
               · omega) (fun g e hS => by
               rcases hS with hS | hS
               · exact HK.out.off g e hS
               · have := (HK.out.lt e).2; omega))
             have HM3 := hid (FormAt.mono (B' := Reg S wr w3) (fun i hi => Or.inr hi) _ hf)
             obtain ⟨rfl, rfl, -, h2, rfl, h4⟩ := (formAt_iff _ _ _ _ _ _ _ _).1 hf
             obtain ⟨x2, y2, rfl, -⟩ := h2
             obtain ⟨x4, y4, rfl, -⟩ := h4
             have HF3 := hid (HF.out.picked hpk (by omega))
             have HB3 := hid (HB.out.picked hpk (by omega))
             have HD3 := hid (HD.out.picked hpk (by omega))
             have HP3 := hid (HP.out.trans hpk)
             have f3 := HF3.out.cell 4
             simp at f3
             have hr3 : w.heap.size + 1 < w3.heap.size := by omega
             obtain ⟨cs, r1, r2⟩ := HK3.out.row
             have R1 := hid r1
             have R2 := hid r2
             clear hf hp3 hpk r1 r2))
        all_goals
          obtain ⟨⟨a0, a1, a2, a3, a4⟩, -⟩ := own_ten HF4.out
          have HB4 := hid (HB3.out.far HA.out fun e => by have := (HK3.out.lt e.symm).1; omega)
          obtain ⟨⟨b0, b1, b2, b3, b4⟩, y0, y1, y2, y3, y4⟩ := own_ten HB4.out
          go_wp2_with fail
          refine bodyPost_ret (v := .agg #[.int .i64 4, .string ⟨#[]⟩, .slice none 0 0, .int .i64 0, .slice (some ⟨g2, 0, none⟩) (ks.length + 1) cap2]) (by simp [results, Tryz.results27, go_sem, b0, b1, b2, b3, b4]) rfl ?_
          have hs4 := HA.out.size
          have hgs := grown_set w4 (w.heap.size + 1) 4 (.slice (some ⟨g2, 0, none⟩) (ks.length + 1) cap2)
          have hlow : ∀ g, (Value.slice ua ks.length uc).ownBlock = some g → w.heap.size + 2 ≤ g := fun g e => (HK3.out.lt e).1
          have hg2 : w.heap.size + 2 ≤ g2 := (HK4.out.lt rfl).1
          have hcc : Fm.costs (ks ++ [f]) = Fm.costs ks + f.cost := by unfold Fm.costs; simp
          have hK5 := HK4.out.keep hgs (fun g e hS => by cases e; have := (HK3.out.low _ hS).1; omega) (Or.inr fun e => by simp [Value.ownBlock] at e; omega)
          have hfo := hK5.forms (by unfold maxLen; rw [List.length_append, List.length_singleton]; omega) (B := fun i => w.heap.size + 2 ≤ i ∧ i < (w4.setCell ⟨w.heap.size + 1, 4, none⟩ (.slice (some ⟨g2, 0, none⟩) (ks.length + 1) cap2)).heap.size) fun i h1 h2 => ⟨h1, h2⟩
          have hPf := (HP3.out.far HA.out (fun g e => by have := hlow g e; omega) hrb).far hgs (fun g e => by simp at e; omega) hrb
          refine drawn_put (f := ⟨4, ⟨#[]⟩, [], 0, ks ++ [f]⟩) (B := fun i => w.heap.size + 2 ≤ i ∧ i < (w4.setCell ⟨w.heap.size + 1, 4, none⟩ (.slice (some ⟨g2, 0, none⟩) (ks.length + 1) cap2)).heap.size) ((formAt_iff _ _ _ _ _ _ _ _).2 ⟨rfl, rfl, Nat.zero_le _, ⟨none, 0, rfl, ⟨Nat.zero_le _, Nat.le_refl _⟩, Or.inl rfl⟩, rfl, hfo⟩) (fun i hi => ⟨by omega, hi.2⟩) ?_ (by omega) hPf hrb
          rw [Fm.cost_eq]
          show 0 + 0 + (ks ++ [f]).length + Fm.costs (ks ++ [f]) ≤ _
          rw [hcc, List.length_append, List.length_singleton]; omega
  · have n0 : ((m : Int) == 0) = false := by simp; omega
    have n1 : ((m : Int) == 1) = false := by simp; omega
    have n2 : ((m : Int) == 2) = false := by simp; omega
    have n3 : ((m : Int) == 3) = false := by simp; omega
    have n4 : ((m : Int) == 4) = false := by simp; omega
    go_wp2_with fail
    refine (pick_rd (HR1.out.alloc _) 4 (by omega) (by omega)).mono ?_
    rintro e w2 ⟨m2, hm2, rfl, hp2, hz2⟩
    have HR2 := hid ((HR1.out.alloc _).picked hp2 (by omega))
    have HB2 := hid ((HB1.out.more (by omega) _).picked hp2 (by omega))
    have HF2 := own_new w1 #[.int .i64 3, .string ⟨#[]⟩, .slice none 0 0, .int .i64 0, .slice none 0 0] 26
    rw [hz] at HF2
    have HF2 := hid (HF2.picked hp2 (by omega))
    have HP2 := hid ((HP1.out.below ((Below.refl w.heap.size w1).alloc (by omega) _) (Nat.le_refl _) hrb).trans hp2)
    simp only [World.size_alloc] at hz2
    have hz3 : w2.heap.size = w.heap.size + 2 := by omega
    clear hp2 hz2
    go_wp2_with fail
    go_loopw [8] (fun i wr => ∃ j : Nat, i = .int .i64 j ∧ ∃ (ks : List Fm) (S : Nat → Prop) (ua : Option Addr) (uc q : Nat), ks.length + j ≤ 3 ∧ ks.length + Fm.costs ks ≤ ks.length * (1 + bnd d) ∧ q ≤ p + 2 + ks.length * bnd d ∧ Hid (Kids S wr (w.heap.size + 2) (.slice ua ks.length uc) ks) ∧ Hid (Own wr (w.heap.size + 1) 26 #[.int .i64 3, .string ⟨#[]⟩, .slice none 0 0, .int .i64 0, .slice ua ks.length uc]) ∧ Hid (Own wr w.heap.size 26 #[.int .i64 0, .string ⟨#[]⟩, .slice none 0 0, .int .i64 0, .slice none 0 0]) ∧ Hid (RdAt R wr rb n q v) ∧ Hid (Picked rb v w wr q) ∧ w.heap.size + 2 ≤ wr.heap.size) (fun i _ => (intOf i).toNat)
    case atStart => exact ⟨m2, rfl, [], fun _ => False, none, 0, p + 1 + 1, by simp; omega, by simp [Fm.costs_nil], by simp, kids_no, HF2, HB2, HR2, HP2, by omega⟩
    case round =>
      obtain ⟨j, rfl, ks, S, ua, uc, q, hkl, hcs, hq, HK, HF, HB, HD, HP, hws⟩ := hrel
      by_cases hj : 0 < j
      · have hj' : (0 : Int) < (j : Int) := by omega
        have hmul : ks.length * bnd d ≤ 2 * bnd d := Nat.mul_le_mul_right _ (by omega)
        have HC := hid (HI.out R wr.drew rb n q v (HD.out.below (Below.refl _ _).drew) (by omega))
        have f4 := HF.out.cell 4
        have z4 := HF.out.frozen 4
        simp at f4
        have hrw : w.heap.size + 1 < wr.heap.size := by omega
        have hwd : IntKind.i64.wrap (d : Int) = (d : Int) := by simp [IntKind.wrap, IntKind.bits, IntKind.signed]; omega
        go_wp2_with fail
        go_region_law (first
          | (refine step_append_lies _ (by rfl) _ _ _ (by rfl) (w.heap.size + 2) 26 i0 _ 5 80 Tryz.underlying24 Hi.out Hz0.out Hz1.out Hz2.out rfl (by omega) (.slice ua ks.length uc) ks.length cs (by rfl) (R1.out.alloc _)
              ⟨w3.heap.size, 0, none⟩ 1 1 [.int .i64 f.sort, .string f.text, .slice x2 f.scopes.length y2, .int .i64 f.frm, .slice x4 f.kids.length y4] (by rfl) (by rfl) (World.news_of_block (cs := #[.int .i64 f.sort, .string f.text, .slice x2 f.scopes.length y2, .int .i64 f.frm, .slice x4 f.kids.length y4]) (heap_alloc_new _ _)) (by simp [Value.oneCell'])
              (by omega) (by unfold maxLen; omega) (by omega) (by simp; omega) (w3.heap.size + 1) (by simp) ?_
             intro g2 cap2 w4 hown4 hgrow hat hlt4
             have hall := (World.grownBy_alloc w3 _ _).trans hgrow
             have HA := hid hall
             have HF4 := hid (HF3.out.far hall fun e => by have := (HK3.out.lt e.symm).1; omega)
             have f5 := HF4.out.cell 4
             have z5 := HF4.out.frozen 4
             simp at f5
             have HK4 := hid (HK3.out.snoc R1.out R2.out HM3.out hall hown4 (either5 hat (fun e => e.symm) fun e => ⟨g2, rfl, by omega⟩))
             clear hall hgrow hown4 hat)
          | (go_simp
             go_at_call 27
             refine HC.out.mono ?_
             rintro e w3 ⟨c0, c1, c2, c3, c4, f, q3, rfl, hf, hcost, hq3, hp3⟩
             have hs3 : wr.heap.size ≤ w3.heap.size := hp3.1.size
             have hpk : Picked rb v wr w3 q3 := ⟨⟨hp3.1.os, hp3.1.tape, hp3.1.output, hp3.1.size, hp3.1.block⟩, hp3.2⟩
             have HK3 := hid ((HK.out.keep hpk.1 (fun g e hS => by cases e; have := HK.out.low _ hS; omega) (by cases hu : (Value.slice ua ks.length uc).ownBlock with | none => exact Or.inl rfl | some g => exact Or.inr fun e => by have := (HK.out.lt hu).1; simp at e; omega)).more (S' := Reg S wr w3) (fun i hi => Or.inl hi) (fun i hi => by
               rcases hi with hi | hi
               · have := HK.out.low i hi; omega
               · omega) (fun g e hS => by
               rcases hS with hS | hS
               · exact HK.out.off g e hS
               · have := (HK.out.lt e).2; omega))
             have HM3 := hid (FormAt.mono (B' := Reg S wr w3) (fun i hi => Or.inr hi) _ hf)
             obtain ⟨rfl, rfl, -, h2, rfl, h4⟩ := (formAt_iff _ _ _ _ _ _ _ _).1 hf
             obtain ⟨x2, y2, rfl, -⟩ := h2
             obtain ⟨x4, y4, rfl, -⟩ := h4
             have HF3 := hid (HF.out.picked hpk (by omega))
             have HB3 := hid (HB.out.picked hpk (by omega))
             have HD3 := hid (HD.out.picked hpk (by omega))
             have HP3 := hid (HP.out.trans hpk)
             have f3 := HF3.out.cell 4
             simp at f3
             have hr3 : w.heap.size + 1 < w3.heap.size := by omega
             obtain ⟨cs, r1, r2⟩ := HK3.out.row
             have R1 := hid r1
             have R2 := hid r2
             clear hf hp3 hpk r1 r2))
        all_goals go_wp2_with fail
        all_goals
          have hs4 := HA.out.size
          have hgs := grown_set w4 (w.heap.size + 1) 4 (.slice (some ⟨g2, 0, none⟩) (ks.length + 1) cap2)
          have hlow : ∀ g, (Value.slice ua ks.length uc).ownBlock = some g → w.heap.size + 2 ≤ g := fun g e => (HK3.out.lt e).1
          have hg2 : w.heap.size + 2 ≤ g2 := (HK4.out.lt rfl).1
          have hcc : Fm.costs (ks ++ [f]) = Fm.costs ks + f.cost := by unfold Fm.costs; simp
          have hm1 : (ks.length + 1) * (1 + bnd d) = ks.length * (1 + bnd d) + (1 + bnd d) := by rw [Nat.add_mul, Nat.one_mul]
          have hm2 : (ks.length + 1) * bnd d = ks.length * bnd d + bnd d := by rw [Nat.add_mul, Nat.one_mul]
          refine ⟨⟨j - 1, by go_num, ks ++ [f], Reg S wr w3, some ⟨g2, 0, none⟩, cap2, q3, by simp; omega, by rw [List.length_append, List.length_singleton, hcc, hm1]; omega, by rw [List.length_append, List.length_singleton, hm2]; omega, ?_, ?_, ?_, ?_, ?_, by simp; omega⟩, by simp [intOf]; omega⟩
          · have h1 := HK4.out.keep hgs (fun g e hS => by cases e; have := (HK3.out.low _ hS).1; omega) (Or.inr fun e => by simp [Value.ownBlock] at e; omega)
            show Kids _ _ _ _ _
            rw [List.length_append, List.length_singleton]
            exact h1
          · have h1 := HF4.out.set 4 (.slice (some ⟨g2, 0, none⟩) (ks.length + 1) cap2)
            show Own _ _ _ _
            rw [List.length_append, List.length_singleton]
            simpa using h1
          · exact (HB3.out.far HA.out fun e => by have := hlow _ e.symm; omega).far hgs (by simp)
          · exact (HD3.out.far HA.out fun g e => hRd.out g (by have := hlow g e; omega)).far hgs fun g e => hRd.out g (by simp at e; omega)
          · exact (HP3.out.far HA.out (fun g e => by have := hlow g e; omega) hrb).far hgs (fun g e => by simp at e; omega) hrb
      · have hj0 : j = 0 := by omega
        subst hj0
        have hmul : ks.length * bnd d ≤ 3 * bnd d := Nat.mul_le_mul_right _ (by omega)
        have hmul2 : ks.length * (1 + bnd d) = ks.length + ks.length * bnd d := by rw [Nat.mul_add, Nat.mul_one]
        obtain ⟨⟨a0, a1, a2, a3, a4⟩, -⟩ := own_ten HF.out
        obtain ⟨⟨b0, b1, b2, b3, b4⟩, z0, z1, z2, z3, z4⟩ := own_ten HB.out
        go_wp2_with fail
        refine bodyPost_ret (v := .agg #[.int .i64 3, .string ⟨#[]⟩, .slice none 0 0, .int .i64 0, .slice ua ks.length uc]) (by simp [results, Tryz.results27, go_sem, b0, b1, b2, b3, b4]) rfl ?_
        refine drawn_put (f := ⟨3, ⟨#[]⟩, [], 0, ks⟩) (B := fun i => w.heap.size + 2 ≤ i ∧ i < wr.heap.size) ((formAt_iff _ _ _ _ _ _ _ _).2 ⟨rfl, rfl, Nat.zero_le _, ⟨none, 0, rfl, ⟨Nat.zero_le _, Nat.le_refl _⟩, Or.inl rfl⟩, rfl, HK.out.forms (by unfold maxLen; omega) fun i h1 h2 => ⟨h1, h2⟩⟩) (fun i hi => ⟨by omega, hi.2⟩) ?_ (by omega) HP.out hrb
        rw [Fm.cost_eq]
        show 0 + 0 + ks.length + Fm.costs ks ≤ _
        omega

theorem form_all : ∀ d, d ≤ 100 → DrawForm d
  | 0, _ => form_zero
  | d + 1, h => form_succ d (by omega) (form_all d (by omega))

end Go.Proofs.YtjbejnibiebjgaaGreat
