/- The program's boundNamesOf makes a map that has, by text, the names that were bound to it, in order. Condition: the binds lie in memory as BindsAt says, and are not too many. -/
import Derived.Test.YtbloafjkejkjcaaD2
import Derived.Deep.RegionHeld3
import Derived.Deep.AppendLies
namespace Go.Proofs.Ytbloafjkejkjcaa
open Go.RowKit Go.Siskin

theorem Try.infoBound : (Try.prog.info? 59).map (fun i => (i.zero, i.size, i.bytes)) = some (some (.agg #[.slice none 0 0, .string ⟨#[]⟩]), 2, 40) := by kernel_rfl
theorem Try.zeroBounds (w : World) : (zeroValue 57).run Try.prog w = .ok (.slice none 0 0) w := by kernel_rfl

theorem alloc_cell {w : World} {b : Nat} (h : b < w.heap.size) (i : Nat) (o : Obj) : (w.alloc o).cell? ⟨b, i, none⟩ = w.cell? ⟨b, i, none⟩ := World.cell?_of_block (w := w) (Below.heap_alloc w o b h)
theorem either {a b c d : Prop} (h : a ∨ b) (f : a → c) (g : b → d) : c ∨ d := by
  rcases h with h | h
  · exact Or.inl (f h)
  · exact Or.inr (g h)
theorem take_snoc (ks : List Bd) (k : Nat) (h : k < ks.length) : ks.take (k + 1) = ks.take k ++ [ks[k]] := List.take_succ_eq_append_getElem h

set_option maxRecDepth 20000 in
set_option maxHeartbeats 4000000 in
theorem boundNamesOf_any (ks : List Bd) (R : Nat → Prop) (w : World) (v : Value) (hv : BindsAt R w v ks) (hR : ∀ b, R b → b < w.heap.size) (hn : ks.length ≤ 1048576) (hs : ∀ d ∈ ks, d.scopes.length ≤ 1048576) :
    Calls Try.prog 14 #[v] w fun e w' => e = .returned (.map (some w.heap.size)) ∧ Below w.heap.size w w' ∧ ∃ S G, GroupsAt S w' (w.heap.size + 1) w.heap.size ks.length ks G ∧ ∀ i, R i → S i := by
  have HR := hid hR
  have HS := hid hs
  obtain ⟨a, ca, rfl, hla, ha⟩ := hv
  unfold maxLen at hla
  clear hR hs
  obtain ⟨i0, hi, hz0, hz1, hz2⟩ := info_parts Try.infoBound
  have Hi := hid hi
  have Hz0 := hid hz0
  have Hz1 := hid hz1
  have Hz2 := hid hz2
  clear hi hz0 hz1 hz2
  have hmm := @run_makeMap Try.prog
  go_enter Try.func14, Try.ntmps14
  go_wp2_with fail
  go_loopw [9] (fun i wr => ∃ k : Nat, k ≤ ks.length ∧ i = .int .i64 k ∧ ∃ S G, Hid (GroupsAt S wr (w.heap.size + 1) w.heap.size k (ks.take k) G) ∧ Hid (Below w.heap.size w wr) ∧ Hid (∀ i, R i → S i)) (fun i _ => ks.length - (intOf i).toNat)
  case atStart => exact ⟨0, Nat.zero_le _, rfl, R, _, groupsAt_made R w HR.out, (Below.refl _ _).alloc (Nat.le_refl _) _, fun _ h => h⟩
  case round =>
    obtain ⟨k, hk, rfl, S, G, HG, HB, HS2⟩ := hrel
    by_cases hlt : k < ks.length
    · rcases ha with ha | ⟨ba, oa, rfl, hb, ha⟩
      · subst ha; simp at hlt
      have HN := hid (take_snoc ks k hlt)
      have HLn := hid (show (ofT ks[k].text (ks.take k)).length ≤ 1048576 from Nat.le_trans (ofT_len _ _) (by rw [List.length_take]; omega))
      have HL := hid (HS.out ks[k] (List.getElem_mem hlt))
      obtain ⟨k0, k1, k2, g0, g1, g2, hf⟩ := (ha.keep (HB.out.on HR.out) hb) k hlt
      obtain ⟨rfl, ht, h2, rfl, -⟩ := hf
      have H2 := hid h2
      obtain ⟨a2, ca2, rfl, -⟩ := h2
      have hsz := HB.out.size
      have hsz1 : w.heap.size + 1 ≤ wr.heap.size := HG.out.le
      have hbb : ba < wr.heap.size := Nat.lt_of_lt_of_le (HR.out ba hb) hsz
      have Ht := hid ht
      generalize ks[k] = d at *
      clear ha ht
      go_wp2_with fail
      obtain ⟨W, hW⟩ : ∃ W, W = wr.alloc (.cells #[.string d.text, .slice a2 d.scopes.length ca2, .string d.name] 34) := ⟨_, rfl⟩
      rw [← hW]
      have hO : Own W wr.heap.size 34 #[.string d.text, .slice a2 d.scopes.length ca2, .string d.name] := by rw [hW]; exact own_new _ _ _
      have hWB : Below wr.heap.size wr W.drew := by rw [hW]; exact ((Below.refl _ _).alloc (Nat.le_refl _) _).drew
      have hWs : W.heap.size = wr.heap.size + 1 := by rw [hW]; simp
      clear hW
      have HW := hid (HG.out.grow hWB)
      have HWB := hid hWB
      have q0 := hO.cell 0
      have q1 := hO.cell 1
      have q2 := hO.cell 2
      simp at q0 q1 q2
      have K0 : Hid (W.drew.cell? ⟨wr.heap.size, 0, none⟩ = some (.string d.text) ∧ W.drew.cell? ⟨wr.heap.size, 1, none⟩ = some (.slice a2 d.scopes.length ca2) ∧ W.drew.cell? ⟨wr.heap.size, 2, none⟩ = some (.string d.name)) := ⟨q0, q1, q2⟩
      have hL0 := HW.out.map.look Try.underlying9 Try.underlying43 (Try.zeroBounds _) Ht.out
      have HC := hid (setOf_any R (.slice a2 d.scopes.length ca2) d.scopes W.drew (H2.out.keep (hWB.on fun b hb => by have := HR.out b hb; omega)) (fun b hb => by have := HR.out b hb; show b < W.heap.size; omega) HL.out)
      clear hO hWB g0 g1 g2 H2
      go_region_held3 (fun w' => w'.cell? ⟨wr.heap.size, 0, none⟩ = some (.string d.text) ∧ w'.cell? ⟨wr.heap.size, 1, none⟩ = some (.slice a2 d.scopes.length ca2) ∧ w'.cell? ⟨wr.heap.size, 2, none⟩ = some (.string d.name))
        (first | exact K3.out | exact K2.out | exact K1a.out _ | exact K1.out | exact K0.out)
        (first
          | (go_at_call 16
             refine HC.out.mono ?_
             rintro e w1 ⟨u, rfl, hu, hw1⟩
             have HU := hid (hu.mono (B' := Reg (Reg S wr W.drew) W.drew w1) fun i hi => either hi (fun h => Or.inl (HS2.out i h)) id)
             obtain ⟨ua, uc, rfl, -⟩ := hu
             have HW1 := hid (HW.out.grow hw1)
             have hL1 := HW1.out.map.look Try.underlying9 Try.underlying43 (Try.zeroBounds _) Ht.out
             have hL1a := fun o : Obj => (HW1.out.map.keep ((SameOn.refl _ _).alloc (fun i e => by rw [e]; exact HW1.out.map.lt) o)).look (w := w1.alloc o) Try.underlying9 Try.underlying43 (Try.zeroBounds _) Ht.out
             have hs1 : W.heap.size ≤ w1.heap.size := hw1.size
             have K1 : Hid (w1.cell? ⟨wr.heap.size, 0, none⟩ = some (.string d.text) ∧ w1.cell? ⟨wr.heap.size, 1, none⟩ = some (.slice a2 d.scopes.length ca2) ∧ w1.cell? ⟨wr.heap.size, 2, none⟩ = some (.string d.name)) :=
               ⟨(hw1.cell (p := ⟨wr.heap.size, 0, none⟩) (by show wr.heap.size < W.heap.size; omega)).trans K0.out.1, (hw1.cell (p := ⟨wr.heap.size, 1, none⟩) (by show wr.heap.size < W.heap.size; omega)).trans K0.out.2.1, (hw1.cell (p := ⟨wr.heap.size, 2, none⟩) (by show wr.heap.size < W.heap.size; omega)).trans K0.out.2.2⟩
             have HB1 := hid (HWB.out.trans (hw1.mono (by show wr.heap.size ≤ W.heap.size; omega)))
             have K1a : Hid (∀ o, (w1.alloc o).cell? ⟨wr.heap.size, 0, none⟩ = some (.string d.text) ∧ (w1.alloc o).cell? ⟨wr.heap.size, 1, none⟩ = some (.slice a2 d.scopes.length ca2) ∧ (w1.alloc o).cell? ⟨wr.heap.size, 2, none⟩ = some (.string d.name)) :=
               fun o => ⟨(alloc_cell (by omega) _ _).trans K1.out.1, (alloc_cell (by omega) _ _).trans K1.out.2.1, (alloc_cell (by omega) _ _).trans K1.out.2.2⟩
             obtain ⟨cs, r1, r2⟩ := HW1.out.grp d.text
             have R1 := hid r1
             have R2 := hid r2
             clear hw1 r1 r2)
          | (refine step_append_lies _ (by rfl) _ _ _ (by rfl) (w.heap.size + 1) 59 i0 _ 2 40 Try.underlying57 Hi.out Hz0.out Hz1.out Hz2.out rfl (by omega) (atG G d.text) (ofT d.text (ks.take k)).length _ (by rfl) (R1.out.alloc _)
              ⟨w1.heap.size, 0, none⟩ 1 1 [.slice ua (setL d.scopes).length uc, .string d.name] (by rfl) (by rfl) (World.news_of_block (cs := #[.slice ua (setL d.scopes).length uc, .string d.name]) (heap_alloc_new _ _)) (by simp [Value.oneCell'])
              (by omega) (by have := HLn.out; unfold maxLen; omega) (by have := HLn.out; omega) (by simp; omega) (w1.heap.size + 1) (by simp) ?_
             intro g2 cap2 w2 hown2 hgrow hat hlt2
             have hall := (World.grownBy_alloc w1 _ _).trans hgrow
             have K2 : Hid (w2.cell? ⟨wr.heap.size, 0, none⟩ = some (.string d.text) ∧ w2.cell? ⟨wr.heap.size, 1, none⟩ = some (.slice a2 d.scopes.length ca2) ∧ w2.cell? ⟨wr.heap.size, 2, none⟩ = some (.string d.name)) :=
               ⟨(hall.cell_far ⟨wr.heap.size, 0, none⟩ (by show wr.heap.size < _; omega) (HG.out.new d.text (Nat.le_refl _))).trans K1.out.1, (hall.cell_far ⟨wr.heap.size, 1, none⟩ (by show wr.heap.size < _; omega) (HG.out.new d.text (Nat.le_refl _))).trans K1.out.2.1, (hall.cell_far ⟨wr.heap.size, 2, none⟩ (by show wr.heap.size < _; omega) (HG.out.new d.text (Nat.le_refl _))).trans K1.out.2.2⟩
             obtain ⟨w3, hr3, hm3, hg3⟩ := (HW1.out.map.keep (grown_on hall HW1.out.map.lt (HW1.out.offMap d.text))).put Try.underlying9 Try.underlying43 (by unfold maxLen; omega) Ht.out (.slice (some ⟨g2, 0, none⟩) ((ofT d.text (ks.take k)).length + 1) cap2)
             have hs2 : wr.heap.size < w2.heap.size := Nat.lt_of_lt_of_le (by omega) hall.size
             have K3 : Hid (w3.cell? ⟨wr.heap.size, 0, none⟩ = some (.string d.text) ∧ w3.cell? ⟨wr.heap.size, 1, none⟩ = some (.slice a2 d.scopes.length ca2) ∧ w3.cell? ⟨wr.heap.size, 2, none⟩ = some (.string d.name)) :=
               ⟨(hg3.cell_far ⟨wr.heap.size, 0, none⟩ hs2 (by simp; omega)).trans K2.out.1, (hg3.cell_far ⟨wr.heap.size, 1, none⟩ hs2 (by simp; omega)).trans K2.out.2.1, (hg3.cell_far ⟨wr.heap.size, 2, none⟩ hs2 (by simp; omega)).trans K2.out.2.2⟩
             have HB3 : Hid (Below w.heap.size w w3) := by
               show Below _ _ _
               have hB1 := HB.out.trans (HB1.out.mono hsz)
               refine hB1.trans ⟨hg3.os.trans hall.os, hg3.tape.trans hall.tape, hg3.output.trans hall.output, Nat.le_trans hall.size hg3.size, fun i hi => ?_⟩
               rw [hg3.block i (Nat.lt_of_lt_of_le (by omega) hall.size) (by simp; omega)]
               exact hall.block i (by omega) fun e => by have := ((HW1.out.grp d.text).row e.symm).1; omega
             have HG3 := hid (HW1.out.step HU.out R1.out R2.out hall hown2 (either hat (fun e => e.symm) fun e => ⟨g2, rfl, by omega⟩) hm3 hg3)
             clear hall hgrow hown2 hat hm3 hg3))
      all_goals go_wp2_with fail
      all_goals exact ⟨⟨k + 1, by omega, by go_num, Reg (Reg S wr W.drew) W.drew w1, _, by show GroupsAt _ _ _ _ _ _ _; rw [HN.out]; exact HG3.out, HB3, fun i hi => Or.inl (Or.inl (HS2.out i hi))⟩, by simp [intOf]; omega⟩
    · go_wp2_with fail
      go_ret
      have hkk : k = ks.length := by omega
      rw [hkk, List.take_length] at HG
      exact ⟨rfl, HB.out, S, G, HG.out, HS2.out⟩

end Go.Proofs.Ytbloafjkejkjcaa
