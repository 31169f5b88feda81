/-
  The program's haveEnd finds that no list of kids is within itself. Condition: every list lies in a block of its own.
-/
import Derived.Test.YtghgilkdmdppcaaQ9
import Derived.Maps.OwnOps
import Derived.WalkKit
namespace Go.Proofs.Ytghgilkdmdppcaa
open Go.RowKit Go.Siskin

theorem row_rowB {w : World} {e : TypeId} {s n g : Nat} {c : Nat} {xs : List Value} (h : w.ownsRow 0 e s (.slice (some ⟨g, 0, none⟩) n c) n xs) : RowB w g := by
  rcases h.2 with ⟨h0, -⟩ | ⟨g', cap, cur, h0, -, h1, -⟩
  · cases h0
  · cases h0; exact ⟨cur, e, h1⟩

def HaveEnd (n : Nat) : Prop := ∀ ks : List Cm, Cm.szs ks ≤ n → Cm.costs ks + ks.length ≤ 1048576 → ∀ (S V : Nat → Prop) (w : World) (v : Value) (b : Nat), CRow w S v ks → (∀ x, S x → x < w.heap.size) → MetAt V w b → (∀ x, S x → ¬ V x) → ¬ S b → ¬ V b →
  Calls Try.prog 20 #[v, .map (some b)] w fun e w' => e = .returned (.bool true) ∧ MetAt (fun i => V i ∨ S i) w' b ∧ w.grownBy w' (some b)

set_option maxRecDepth 20000 in
set_option maxHeartbeats 4000000 in
theorem haveEnd_of (n : Nat) (ih : ∀ m, m < n → HaveEnd m) : HaveEnd n := by
  intro ks hks hcs S V w v b hv hS hM hSV hSb hVb
  have HI := hid ih
  have HS := hid hS
  have HM := hid hM
  have HSV := hid hSV
  have HSb := hid hSb
  have HVb := hid hVb
  obtain ⟨cs, F, hP⟩ := hv
  have HP := hid hP
  obtain ⟨a, c, rfl⟩ := crow_shape hP.row
  have hlen : ks.length ≤ 1048576 := by omega
  by_cases h0 : ks.length = 0
  · have h0' : ((ks.length : Int) == 0) = true := by simp [h0]
    clear ih hS hM hSV hSb hVb hP
    go_enter Try.func20, Try.ntmps20
    go_wp2_with fail
    go_ret
    exact ⟨rfl, HM.out.mono fun _ h => Or.inl h, World.grownBy.refl _ _⟩
  have h0' : ((ks.length : Int) == 0) = false := by simp [h0]
  have hpos : 0 < ks.length := by omega
  obtain ⟨g, rfl⟩ : ∃ g, a = some ⟨g, 0, none⟩ := by
    rcases hP.row.2 with ⟨e, h0⟩ | ⟨g, cap, cur, e, -⟩
    · omega
    · cases e; exact ⟨g, rfl⟩
  have hSg : S g := hP.own g rfl
  have hgb : g ≠ b := fun e => hSb (e ▸ hSg)
  have hgV : ¬ V g := hSV g hSg
  have hgR := row_rowB hP.row
  have hbw := hM.lt
  have HgR := hid hgR
  have HgV := hid hgV
  have Hgb := hid hgb
  have hL := fun o : Obj => (hM.keep (w' := w.alloc o) ((Below.refl _ _).alloc (Nat.le_refl _) o)).look g ks.length (hgR.keep (Below.heap_alloc w o g hgR.lt)) hgV
  simp only [kkey] at hL
  obtain ⟨W0, hW0⟩ : ∃ W0, W0 = w.alloc (.cells #[.pointer (some ⟨g, 0, none⟩), .int .i64 (ks.length : Int)] 60) := ⟨_, rfl⟩
  have HB0 : Hid (Below w.heap.size w W0) := by
    show Below _ _ _
    rw [hW0]; exact (Below.refl _ _).alloc (Nat.le_refl _) _
  have hs0 : W0.heap.size = w.heap.size + 1 := by rw [hW0]; simp
  have O0 : Hid (Own W0 w.heap.size 60 #[.pointer (some ⟨g, 0, none⟩), .int .i64 (ks.length : Int)]) := by
    show Own _ _ _ _
    rw [hW0]; exact own_new _ _ _
  obtain ⟨w1, hU, hm1, hg1⟩ := (hM.keep HB0.out).put g ks.length (hgR.keep (HB0.out.block g hgR.lt)) hgb hVb (.int .i64 1)
  simp only [kkey] at hU
  rw [hW0] at hU
  have Hm1 := hid hm1
  have Hg1 := hid hg1
  have s1 := hg1.size
  have O1 : Hid (Own w1 w.heap.size 60 #[.pointer (some ⟨g, 0, none⟩), .int .i64 (ks.length : Int)]) := (hg1.block _ (by omega) (fun e => by cases e; omega)).trans O0.out
  have hsame1 : Hid (∀ x, x < w.heap.size → x ≠ b → w1.heap[x]? = w.heap[x]?) := fun x hx hxb => (hg1.block x (by omega) (fun e => hxb (by cases e; rfl))).trans (HB0.out.block x hx)
  have hos1 : Hid (w1.os = w.os ∧ w1.tape = w.tape ∧ w1.output = w.output) := ⟨hg1.os.trans HB0.out.os, hg1.tape.trans HB0.out.tape, hg1.output.trans HB0.out.output⟩
  clear ih hS hM hSV hSb hVb hP hgV hgR hgb hm1 hg1 hW0
  go_enter Try.func20, Try.ntmps20
  go_wp2_with fail
  go_loopw [27] (fun i wr => ∃ k : Nat, k ≤ ks.length ∧ i = .int .i64 k ∧ Hid (MetAt (fun x => (V x ∨ x = g) ∨ ∃ j, j < k ∧ F j x) wr b) ∧ Hid (w1.grownBy wr (some b))) (fun i _ => ks.length - (intOf i).toNat)
  case atStart => exact ⟨0, Nat.zero_le _, rfl, Hm1.out.mono fun _ h => Or.inl h, World.grownBy.refl _ _⟩
  case round =>
    obtain ⟨k, hk, rfl, HMk, HGk⟩ := hrel
    have sk := HGk.out.size
    have hsame : ∀ x, x < w.heap.size → x ≠ b → wr.heap[x]? = w.heap[x]? := fun x hx hxb => (HGk.out.block x (by omega) (fun e => hxb (by cases e; rfl))).trans (hsame1.out x hx hxb)
    have HSame := hid hsame
    have HO := hid (show Own wr w.heap.size 60 #[.pointer (some ⟨g, 0, none⟩), .int .i64 (ks.length : Int)] from (HGk.out.block _ (by omega) (fun e => by cases e; omega)).trans O1.out)
    have hrowk : wr.ownsRow 0 35 5 (.slice (some ⟨g, 0, none⟩) ks.length c) ks.length cs := crow_same HP.out.row fun x e => by
      have hx : x = g := by simpa [Value.ownBlock] using e.symm
      subst hx
      exact hsame x HgR.out.lt Hgb.out
    have HRk := hid hrowk
    clear hsame
    by_cases hlt : k < ks.length
    · obtain ⟨k2, k4, e0, e1, e2, e3, e4, hT⟩ := HP.out.kid k hlt
      have hcsl := hrowk.1
      have q4 := (hrowk.cellAt (k * 5 + 4) (by omega)).trans e4
      obtain ⟨t1, t2, t3⟩ := (ctree_iff _ _ _ _ _).1 hT
      have hsub := HP.out.sub k
      have hap := HP.out.apart
      have hcost := Cm.costs_get ks k hlt
      have hcq := Cm.cost_eq ks[k]
      have hszk := Cm.sz_kids ks[k]
      have hszg := Cm.szs_get ks k hlt
      have HC := hid (HI.out (Cm.szs ks[k].kids) (by omega) ks[k].kids (Nat.le_refl _) (by omega) (fun x => F k x ∧ k2.ownBlock ≠ some x) (fun x => (V x ∨ x = g) ∨ ∃ j, j < k ∧ F j x) wr k4 b
        (t3.keep fun x hx => HSame.out x (HS.out x (hsub x hx.1).1) (fun e => HSb.out (e ▸ (hsub x hx.1).1)))
        (fun x hx => by have := HS.out x (hsub x hx.1).1; omega) HMk.out
        (fun x hx h => by
          rcases h with (h | h) | ⟨j, hj, h⟩
          · exact HSV.out x (hsub x hx.1).1 h
          · exact (hsub x hx.1).2 (by rw [h]; rfl)
          · exact hap j k x (by omega) h hx.1)
        (fun h => HSb.out (hsub b h.1).1)
        (fun h => by
          rcases h with (h | h) | ⟨j, hj, h⟩
          · exact HVb.out h
          · exact Hgb.out h.symm
          · exact HSb.out (HP.out.sub j b h).1))
      obtain ⟨x4, y4, rfl⟩ : ∃ a c, k4 = .slice a ks[k].kids.length c := (ctshape hT).2
      clear hT t1 t2 t3 hsub hap hcost hcq hszk hszg e0 e1 e2 e3 e4 hrowk HI
      go_wp2_with fail
      refine HC.out.mono ?_
      rintro e w2 ⟨rfl, hm2, hg2⟩
      have Hm2 := hid hm2
      have Hg2 := hid hg2
      clear hm2 hg2 HC
      go_wp2_with fail
      refine ⟨⟨k + 1, by omega, by go_num, Hm2.out.mono fun x h => ?_, HGk.out.trans Hg2.out⟩, by simp [intOf]; omega⟩
      rcases h with (h | ⟨j, hj, h⟩) | h
      · exact Or.inl h
      · exact Or.inr ⟨j, by omega, h⟩
      · exact Or.inr ⟨k, by omega, h.1⟩
    · have hgR2 : RowB wr g := HgR.out.keep (HSame.out g HgR.out.lt Hgb.out)
      obtain ⟨w3, hU3, hm3, hg3⟩ := HMk.out.put g ks.length hgR2 Hgb.out (fun h => by
          rcases h with (h | h) | ⟨j, hj, h⟩
          · exact HVb.out h
          · exact Hgb.out h.symm
          · exact HSb.out (HP.out.sub j b h).1) (.int .i64 2)
      simp only [kkey] at hU3
      have Hm3 := hid hm3
      have Hg3 := hid hg3
      have z0 : wr.cell? ⟨w.heap.size, 0, none⟩ = some (.pointer (some ⟨g, 0, none⟩)) := (HO.out.cell 0).trans rfl
      have z1 : wr.cell? ⟨w.heap.size, 1, none⟩ = some (.int .i64 (ks.length : Int)) := (HO.out.cell 1).trans rfl
      clear hm3 hg3
      go_wp2_with fail
      go_ret
      refine ⟨rfl, Hm3.out.mono fun x h => ?_, ?_⟩
      · rcases h with ((h | h) | ⟨j, hj, h⟩) | h
        · exact Or.inl h
        · exact Or.inr (h ▸ hSg)
        · exact Or.inr (HP.out.sub j x h).1
        · exact Or.inr (h ▸ hSg)
      · have hh := HGk.out.trans Hg3.out
        exact ⟨hh.os.trans hos1.out.1, hh.tape.trans hos1.out.2.1, hh.output.trans hos1.out.2.2, by have := hh.size; omega, fun x hx hxb => (hh.block x (by omega) hxb).trans (hsame1.out x hx fun e => hxb (by rw [e]))⟩

theorem haveEnd_all : ∀ n, HaveEnd n := fun n => by
  induction n using Nat.strongRecOn with
  | _ n ih => exact haveEnd_of n ih

set_option maxHeartbeats 1000000 in
theorem haveEndTop_any (ks : List Cm) (S : Nat → Prop) (w : World) (v : Value) (hv : CRow w S v ks) (hS : ∀ x, S x → x < w.heap.size) (hc : Cm.costs ks + ks.length ≤ 1048576) :
    Calls Try.prog 12 #[v] w fun e w' => e = .returned (.bool true) ∧ Below w.heap.size w w' := by
  have HQ := hid (haveEnd_all _ ks (Nat.le_refl _) hc S (fun _ => False) (w.alloc (.map #[] 0)) v w.heap.size (hv.keep ((SameOn.refl _ _).alloc hS _)) (fun x hx => by have := hS x hx; simp; omega) (metAt_made w) (fun _ _ h => h) (fun h => by have := hS _ h; omega) (fun h => h))
  obtain ⟨a, c, rfl⟩ : ∃ a c, v = .slice a ks.length c := by
    obtain ⟨cs, F, h⟩ := hv
    exact crow_shape h.row
  clear hv hS
  have hmk : ∀ W : World, (Instr.makeMap 46 none).run Try.prog W = .ok (.map (some W.heap.size)) (W.alloc (.map #[] 0)) := fun W => run_makeMap _ W
  go_enter Try.func12, Try.ntmps12
  go_wp2_with fail
  refine HQ.out.mono ?_
  rintro e w1 ⟨rfl, -, hg1⟩
  have Hg := hid hg1
  clear hg1
  go_wp2_with fail
  go_ret
  have h1 := Hg.out.size
  simp only [World.size_alloc] at h1
  exact ⟨rfl, Hg.out.os, Hg.out.tape, Hg.out.output, by omega, fun x hx => (Hg.out.block x (by simp; omega) (fun e => by cases e; omega)).trans (Below.heap_alloc w _ x hx)⟩

end Go.Proofs.Ytghgilkdmdppcaa
