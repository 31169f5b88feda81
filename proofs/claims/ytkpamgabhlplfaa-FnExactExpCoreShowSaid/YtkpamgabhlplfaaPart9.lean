/-
  The law's toStringS, toExpCore and toExpCoreS copy into memory of their own: every list in a block of its own. Condition: the part lies in memory, and costs at most 1048576.
  The law's eqExpForm and eqExpFormS return true of two places that hold one form. Condition: both lie in memory as FormAt says.
  The law's eqStringS, eqExpCore and eqExpCoreS return true of two places that hold one part. Condition: both lie in memory as CoreAt says.
  The law's szStringS, szExpCore and szExpCoreS take from a number what a part costs. Condition: the part lies in memory as CoreAt says.
-/
import Derived.Test.YtkpamgabhlplfaaPart7
import Derived.Test.YtkpamgabhlplfaaPart2
import Derived.Deep.RegionWith
namespace Go.Proofs.Ytkpamgabhlplfaa
open Go.RowKit Go.Siskin

theorem Try.infoStr : (Try.prog.info? 9).map (fun i => (i.zero, i.size, i.bytes)) = some (some (.string ⟨#[]⟩), 1, 16) := by kernel_rfl
theorem Try.infoCore : (Try.prog.info? 50).map (fun i => (i.zero, i.size, i.bytes)) = some (some (.agg #[.int .i64 0, .string ⟨#[]⟩, .bool false, .slice none 0 0, .slice none 0 0]), 5, 80) := by kernel_rfl

theorem cown_row {w : World} {g n size : Nat} {e : TypeId} {cs : Array Value} (h : Own w g e cs) (hs : cs.size = n * size) (hm : n ≤ maxLen) : w.ownsRow 0 e size (.slice (some ⟨g, 0, none⟩) n n) n cs.toList :=
  ⟨by simp [hs], Or.inr ⟨g, n, cs, rfl, Nat.zero_le _, h, Nat.le_refl _, hm, hs, by rw [List.take_of_length_le (by simp [hs])]⟩⟩

theorem sset_step {cs : Array Value} {xs : List ByteArray} {k : Nat} (hcs : cs.size = xs.length) (hlt : k < xs.length) (hg : ∀ j (hj : j < xs.length), j < k → cs[j]? = some (.string xs[j])) :
    ∀ j (hj : j < xs.length), j < k + 1 → (cs.setIfInBounds k (.string xs[k]))[j]? = some (.string xs[j]) := by
  intro j hj hjk
  by_cases e : k = j
  · subst e; rw [Array.getElem?_setIfInBounds, if_pos rfl, if_pos (by omega)]
  · rw [Array.getElem?_setIfInBounds, if_neg e]; exact hg j hj (by omega)

set_option maxHeartbeats 1000000 in
theorem toStringS_own (B : Nat → Prop) (va : Value) (xs : List ByteArray) (w : World) (ha : StrsAt B w va xs) (hB : ∀ b, B b → b < w.heap.size) (hn : strc xs ≤ 1048576) :
    Calls Try.prog 45 #[va] w fun e w' => e = .returned (.slice (some ⟨w.heap.size, 0, none⟩) xs.length xs.length) ∧ w'.ownsRow 0 9 1 (.slice (some ⟨w.heap.size, 0, none⟩) xs.length xs.length) xs.length (xs.map Value.string) ∧ Below w.heap.size w w' := by
  obtain ⟨a, ca, rfl, hla, hmx, ha⟩ := ha
  have hn1 : xs.length ≤ 1048576 := by unfold strc at hn; omega
  clear hmx hn hla
  obtain ⟨i, hi, hz0, hz1, hz2⟩ := info_parts Try.infoStr
  have Hi := hid hi
  have Hz0 := hid hz0
  have Hz1 := hid hz1
  have Hz2 := hid hz2
  clear hi hz0 hz1 hz2
  go_enter Try.func45, Try.ntmps45
  go_wp2_with (at_make; refine wpList_make_new _ rfl _ _ 42 rfl 9 i (.string ⟨#[]⟩) 1 Try.underlying42 Hi.out Hz0.out Hz1.out .i64 .i64 xs.length rfl rfl (by rw [Hz2.out]; omega) (by unfold maxLen; omega) ?_)
  go_loopw [4] (fun i wr => ∃ k : Nat, k ≤ xs.length ∧ i = .int .i64 k ∧ Hid (∃ cs : Array Value, Own wr w.heap.size 9 cs ∧ cs.size = xs.length ∧ (∀ j (hj : j < xs.length), j < k → cs[j]? = some (.string xs[j])) ∧ Below w.heap.size w wr)) (fun i _ => xs.length - (intOf i).toNat)
  case atStart => exact ⟨0, Nat.zero_le _, rfl, _, own_new _ _ _, size_madeCells _ _, fun j _ hj => absurd hj (by omega), (Below.refl _ _).alloc (Nat.le_refl _) _⟩
  case round =>
    obtain ⟨k, hk, rfl, HA⟩ := hrel
    obtain ⟨cs, ho, hcs, hgot, hbel⟩ := HA.out
    have HO := hid ho
    have HG := hid hgot
    have HB := hid hbel
    by_cases hlt : k < xs.length
    · rcases ha with ha | ⟨ba, oa, rfl, hb, ha⟩
      · subst ha; simp at hlt
      have ga := (hbel.cell (p := ⟨ba, oa + k, none⟩) (hB ba hb)).trans (ha k hlt)
      have gc := ho.cell k
      rw [Array.getElem?_eq_getElem (by omega)] at gc
      have gf := ho.frozen k
      clear ha HA ho hgot hbel
      go_wp2_with fail
      exact ⟨⟨k + 1, by omega, by go_num, _, HO.out.set k _, by simp [hcs], sset_step hcs hlt HG.out, HB.out.setCell (Nat.le_refl _) _⟩, by simp [intOf]; omega⟩
    · clear HA ho hgot hbel
      go_wp2_with fail
      go_ret
      refine ⟨rfl, ?_, HB.out⟩
      have hl : cs.toList = xs.map Value.string := by
        apply List.ext_getElem?
        intro j
        by_cases hj : j < xs.length
        · rw [Array.getElem?_toList, HG.out j hj (by omega), List.getElem?_map, List.getElem?_eq_getElem hj]; rfl
        · rw [List.getElem?_eq_none (by simp; omega), List.getElem?_eq_none (by simp; omega)]
      have h := cown_row (n := xs.length) (size := 1) HO.out (by omega) (by unfold maxLen; omega)
      rw [hl] at h
      exact h

def CToCore (n : Nat) : Prop := ∀ f : Cm, f.sz ≤ n → ∀ (B : Nat → Prop) (w : World) (c0 c1 c2 c3 c4 : Value), CoreAt B w f c0 c1 c2 c3 c4 → (∀ b, B b → b < w.heap.size) → f.cost ≤ 1048576 →
    Calls Try.prog 19 #[.agg #[c0, c1, c2, c3, c4]] w fun e w' => ∃ d2 d4, e = .returned (.agg #[.int .i64 f.sort, .string f.text, .bool f.rest, d2, d4]) ∧ CTree w' f (Fresh w w') d2 d4 ∧ Below w.heap.size w w'
def CToCores (n : Nat) : Prop := ∀ ks : List Cm, Cm.szs ks ≤ n → ∀ (B : Nat → Prop) (w : World) (v : Value), CoresAt B w v ks → (∀ b, B b → b < w.heap.size) → ks.length + Cm.costs ks ≤ 1048576 →
    Calls Try.prog 46 #[v] w fun e w' => ∃ u, e = .returned u ∧ CRow w' (Fresh w w') u ks ∧ Below w.heap.size w w'

set_option maxHeartbeats 1000000 in
theorem ctoCore_of (n : Nat) (ih : CToCores n) : CToCore (n + 1) := by
  intro f hf B w c0 c1 c2 c3 c4 hA hB h0
  obtain ⟨rfl, rfl, ht, rfl, h2, h4⟩ := (coreAt_iff _ _ _ _ _ _ _ _).1 hA
  have HC := hid (Cm.cost_eq f)
  have HS := hid (Cm.sz_kids f)
  have hl : strc f.names ≤ 1048576 := by have := HC.out; omega
  have H2 := hid h2
  have H4 := hid h4
  have HI := hid ih
  have HR := hid hB
  clear h2 h4 hA ih hB
  go_enter Try.func19, Try.ntmps19
  go_wp2_with fail
  refine (toStringS_own B _ f.names _ (H2.out.keep (((((SameOn.refl _ _).alloc HR.out _).alloc (fun b hb => by have := HR.out b hb; simp; omega) _).alloc (fun b hb => by have := HR.out b hb; simp; omega) _))) (fun b hb => by have := HR.out b hb; simp; omega) hl).mono ?_
  rintro e w1 ⟨rfl, hi1, hb1⟩
  simp only [World.size_alloc] at hi1
  simp only [World.size_alloc]
  obtain ⟨hc1, hf1⟩ := bcell hb1
  have hz0 : w.heap.size + 3 < w1.heap.size := (hi1.lt (w.heap.size + 1 + 1 + 1) rfl).2
  have hz1 : w.heap.size + 2 < w1.heap.size := by omega
  have hz1a : w.heap.size + 1 < w1.heap.size := by omega
  have hz1b : w.heap.size < w1.heap.size := by omega
  have HI1 := hid hi1
  have HB1 := hid hb1
  clear hi1 hb1
  go_wp2_with fail
  refine (HI.out f.kids (by have := HS.out; omega) B _ c4 (H4.out.keep ?_) ?_ (by have := HC.out; omega)).mono ?_
  · exact ((((((SameOn.refl _ _).alloc HR.out _).alloc (fun b hb => by have := HR.out b hb; simp; omega) _).alloc (fun b hb => by have := HR.out b hb; simp; omega) _).below HB1.out (fun b hb => by have := HR.out b hb; simp; omega)).setCell (fun hb => by have := HR.out _ hb; simp at this; omega) _)
  · exact fun b hb => by have := HR.out b hb; simp; omega
  rintro e w2 ⟨u, rfl, hi2, hb2⟩
  obtain ⟨a4, k4, rfl⟩ : ∃ a c, u = .slice a f.kids.length c := by
    obtain ⟨cs', F', h⟩ := hi2
    exact crow_shape h.row
  obtain ⟨hc2, hf2⟩ := bcell hb2
  have hz2 : w1.heap.size ≤ w2.heap.size := by have := hb2.size; simp at this; omega
  have HI2 := hid hi2
  have HB2 := hid hb2
  clear hi2 hb2
  go_wp2_with fail
  refine bodyPost_ret (v := .agg #[.int .i64 f.sort, .string f.text, .bool f.rest, .slice (some ⟨w.heap.size + 1 + 1 + 1, 0, none⟩) f.names.length f.names.length, .slice a4 f.kids.length k4]) (by simp [results, Try.results19, go_sem, hc1, hc2, hz1a]) rfl ⟨_, _, rfl, ?_, ?_⟩
  · rw [ctree_iff]
    refine ⟨crow_same HI1.out ?_, ?_, ((HI2.out.keep ?_).mono ?_)⟩
    · intro g hg
      have hg' : g = w.heap.size + 1 + 1 + 1 := by simpa [Value.ownBlock] using hg.symm
      subst hg'
      refine ((((((((SameOn.refl (fun b => b = w.heap.size + 1 + 1 + 1) w1).setCell ?_ _).below HB2.out ?_).setCell ?_ _).setCell ?_ _).setCell ?_ _).setCell ?_ _).setCell ?_ _ |>.setCell ?_ _) _ rfl
      all_goals first
        | (intro h; simp at h <;> omega)
        | (intro b h; have h' : b = w.heap.size + 1 + 1 + 1 := h; simp; omega)
    · intro g hg
      have hg' : g = w.heap.size + 1 + 1 + 1 := by simpa [Value.ownBlock] using hg.symm
      subst hg'
      exact ⟨by omega, by simp; omega⟩
    · refine ((((((SameOn.refl _ _).setCell ?_ _).setCell ?_ _).setCell ?_ _).setCell ?_ _).setCell ?_ _).setCell ?_ _
      all_goals (intro h; have := h.1; simp at this; omega)
    · intro b h; have h1 := h.1; have h2 := h.2; simp at h1; exact ⟨⟨by omega, by simp; omega⟩, by simp [Value.ownBlock]; omega⟩
  · refine ((((((((((((Below.refl _ _).alloc (Nat.le_refl _) _).alloc (by simp) _).alloc (by simp; omega) _).trans (HB1.out.mono (by simp; omega))).setCell ?_ _).trans (HB2.out.mono (by simp; omega))).setCell ?_ _).setCell ?_ _).setCell ?_ _).setCell ?_ _).setCell ?_ _).setCell ?_ _
    all_goals (simp; try omega)

/-- The first k forms stand in a block of the call's own; what they lead to lies behind it, each in blocks of its own. -/
def CGot (g : Nat) (wr : World) (cs : Array Value) (ks : List Cm) (k : Nat) : Prop :=
  ∃ F : Nat → Nat → Prop, (∀ i b, F i b → i < k ∧ g < b ∧ b < wr.heap.size) ∧ (∀ i j b, i ≠ j → F i b → ¬ F j b) ∧
    ∀ j (hj : j < ks.length), j < k → ∃ d2 d4, cs[j * 5]? = some (.int .i64 ks[j].sort) ∧ cs[j * 5 + 1]? = some (.string ks[j].text) ∧ cs[j * 5 + 2]? = some (.bool ks[j].rest) ∧ cs[j * 5 + 3]? = some d2 ∧ cs[j * 5 + 4]? = some d4 ∧ CTree wr ks[j] (F j) d2 d4

theorem cgot_step {g k : Nat} {wr w1 : World} {cs : Array Value} {ks : List Cm} {d2 d4 : Value} (hcs : cs.size = ks.length * 5) (hlt : k < ks.length) (hg : g < wr.heap.size) (hb : Below wr.heap.size wr w1)
    (hf : CTree w1 ks[k] (Fresh wr w1) d2 d4) (got : CGot g wr cs ks k) : CGot g (put5 w1 g (k * 5) (.int .i64 ks[k].sort) (.string ks[k].text) (.bool ks[k].rest) d2 d4) (arr5 cs (k * 5) (.int .i64 ks[k].sort) (.string ks[k].text) (.bool ks[k].rest) d2 d4) ks (k + 1) := by
  obtain ⟨F, hF, hap, hk⟩ := got
  have hs := hb.size
  refine ⟨fun i b => F i b ∨ (i = k ∧ Fresh wr w1 b), ?_, ?_, ?_⟩
  · intro i b h
    rw [put5_size]
    rcases h with h | ⟨rfl, h⟩
    · have := hF i b h; omega
    · have := h.1; have := h.2; omega
  · intro i j b hij h1 h2
    rcases h1 with h1 | ⟨rfl, h1⟩
    · rcases h2 with h2 | ⟨rfl, h2⟩
      · exact hap i j b hij h1 h2
      · have := hF i b h1; have := h2.1; omega
    · rcases h2 with h2 | ⟨rfl, h2⟩
      · have := hF j b h2; have := h1.1; omega
      · exact hij rfl
  · intro j hj hjk
    by_cases e : j = k
    · subst e
      obtain ⟨e0, e1, e2, e3, e4⟩ := arr5_in (cs := cs) (o := j * 5) (.int .i64 ks[j].sort) (.string ks[j].text) (.bool ks[j].rest) d2 d4 (by omega)
      refine ⟨d2, d4, e0, e1, e2, e3, e4, (hf.keep (put5_same (SameOn.refl _ _) ?_ _ _ _ _ _ _)).mono ?_⟩
      · intro h; have h1 := h.1; omega
      · intro b h; exact Or.inr ⟨rfl, h⟩
    · obtain ⟨x2, x4, e0, e1, e2, e3, e4, hx⟩ := hk j hj (by omega)
      refine ⟨x2, x4, ?_, ?_, ?_, ?_, ?_, (hx.keep (put5_same ((SameOn.refl _ _).below hb ?_) ?_ _ _ _ _ _ _)).mono ?_⟩
      · rw [arr5_out _ _ _ _ _ (by omega)]; exact e0
      · rw [arr5_out _ _ _ _ _ (by omega)]; exact e1
      · rw [arr5_out _ _ _ _ _ (by omega)]; exact e2
      · rw [arr5_out _ _ _ _ _ (by omega)]; exact e3
      · rw [arr5_out _ _ _ _ _ (by omega)]; exact e4
      · intro b h; exact (hF j b h).2.2
      · intro h; have := hF j g h; omega
      · intro b h; exact Or.inl h

set_option maxHeartbeats 1000000 in
theorem ctoCores_of (n : Nat) (ih : CToCore n) : CToCores n := by
  intro ks hks B w v hv hB hn
  obtain ⟨a, ca, rfl, hla, ha⟩ := hv
  unfold maxLen at hla
  obtain ⟨i, hi, hz0, hz1, hz2⟩ := info_parts Try.infoCore
  have Hi := hid hi
  have Hz0 := hid hz0
  have Hz1 := hid hz1
  have Hz2 := hid hz2
  have HI := hid ih
  have HR := hid hB
  clear hi hz0 hz1 hz2 ih hB
  have hn1 : ks.length ≤ 1048576 := by omega
  go_enter Try.func46, Try.ntmps46
  go_wp2_with (at_make; refine wpList_make_new _ rfl _ _ 48 rfl 50 i (.agg #[.int .i64 0, .string ⟨#[]⟩, .bool false, .slice none 0 0, .slice none 0 0]) 5 Try.underlying48 Hi.out Hz0.out Hz1.out .i64 .i64 ks.length rfl rfl (by rw [Hz2.out]; omega) (by unfold maxLen; omega) ?_)
  go_loopw [4] (fun i wr => ∃ k : Nat, k ≤ ks.length ∧ i = .int .i64 k ∧ Hid (∃ cs : Array Value, Own wr w.heap.size 50 cs ∧ cs.size = ks.length * 5 ∧ CGot w.heap.size wr cs ks k ∧ Below w.heap.size w wr)) (fun i _ => ks.length - (intOf i).toNat)
  case atStart => exact ⟨0, Nat.zero_le _, rfl, _, own_new _ _ _, size_madeCells _ _, ⟨fun _ _ => False, fun _ _ h => h.elim, fun _ _ _ _ h => h.elim, fun j _ hj => absurd hj (by omega)⟩, (Below.refl _ _).alloc (Nat.le_refl _) _⟩
  case round =>
    obtain ⟨k, hk, rfl, HA⟩ := hrel
    obtain ⟨cs, ho, hcs, hgot, hbel⟩ := HA.out
    have HO := hid ho
    have HG := hid hgot
    have HB := hid hbel
    clear ho hgot hbel HA
    by_cases hlt : k < ks.length
    · rcases ha with ha | ⟨ba, oa, rfl, hb, ha⟩
      · subst ha; simp at hlt
      have hrow := CRowAt.keep (HB.out.on HR.out) hb ks ha
      obtain ⟨c0, c1, c2, c3, c4, g0, g1, g2, g3, g4, hf⟩ := CRowAt.get ks hrow k hlt
      have HC := hid (HI.out ks[k] (Nat.le_trans (Cm.szs_get ks k hlt) hks) B wr c0 c1 c2 c3 c4 hf (fun b hb => by have := HR.out b hb; have := HB.out.size; omega) (by have := Cm.costs_get ks k hlt; omega))
      clear ha hf hrow HI
      go_wp2_with fail
      refine HC.out.mono ?_
      rintro e w1 ⟨d2, d4, rfl, hf, hw⟩
      have HF := hid hf
      obtain ⟨⟨a2, k2, rfl⟩, a4, k4, rfl⟩ : (∃ a c, d2 = .slice a ks[k].names.length c) ∧ ∃ a c, d4 = .slice a ks[k].kids.length c := by
        rw [ctree_iff] at hf
        obtain ⟨h1, -, cs', F', h2⟩ := hf
        exact ⟨crow_shape h1, crow_shape h2.row⟩
      have ho1 := HO.out.keep hw HO.out.lt
      have q0 := ho1.cell (k * 5)
      have q1 := ho1.cell (k * 5 + 1)
      have q2 := ho1.cell (k * 5 + 2)
      have q3 := ho1.cell (k * 5 + 3)
      have q4 := ho1.cell (k * 5 + 4)
      rw [Array.getElem?_eq_getElem (by omega)] at q0 q1 q2 q3 q4
      have f0 := ho1.frozen (k * 5)
      have f1 := ho1.frozen (k * 5 + 1)
      have f2 := ho1.frozen (k * 5 + 2)
      have f3 := ho1.frozen (k * 5 + 3)
      have f4 := ho1.frozen (k * 5 + 4)
      have HW := hid hw
      have HO1 := hid ho1
      clear ho1 hf hw
      go_wp2_with fail
      have hsz := HB.out.size
      exact ⟨⟨k + 1, by omega, by go_num, _, put5_own HO1.out (k * 5) _ _ _ _ _, by rw [arr5_size, hcs], cgot_step hcs hlt HO.out.lt HW.out HF.out HG.out, put5_below (HB.out.trans (HW.out.mono hsz)) (Nat.le_refl _) _ _ _ _ _ _⟩, by simp [intOf]; omega⟩
    · go_wp2_with fail
      go_ret
      refine ⟨_, rfl, ?_, HB.out⟩
      obtain ⟨F, hF, hap, hkk⟩ := HG.out
      have hkl : k = ks.length := by omega
      refine ⟨cs.toList, F, cown_row HO.out hcs (by unfold maxLen; omega), ?_, ?_, hap, ?_⟩
      · intro g hg
        have hg' : g = w.heap.size := by simpa [Value.ownBlock] using hg.symm
        subst hg'
        exact ⟨Nat.le_refl _, HO.out.lt⟩
      · intro i b h
        have := hF i b h
        exact ⟨⟨by omega, by omega⟩, by simp [Value.ownBlock]; omega⟩
      · intro j hj
        obtain ⟨x2, x4, e0, e1, e2, e3, e4, hx⟩ := hkk j hj (by omega)
        simp only [Array.getElem?_toList]
        exact ⟨x2, x4, e0, e1, e2, e3, e4, hx⟩

theorem ctoCore_all : ∀ n, CToCore n ∧ CToCores n
  | 0 => by
    have h : CToCore 0 := fun f hf => by have := Cm.sz_kids f; omega
    exact ⟨h, ctoCores_of 0 h⟩
  | n + 1 => by
    have h := ctoCore_of n (ctoCore_all n).2
    exact ⟨h, ctoCores_of (n + 1) h⟩

/-- The law's copy of a form: the same form, in memory of its own. -/
theorem toExpCore_own (f : Cm) (B : Nat → Prop) (w : World) (c0 c1 c2 c3 c4 : Value) (h : CoreAt B w f c0 c1 c2 c3 c4) (hB : ∀ b, B b → b < w.heap.size) (h0 : f.cost ≤ 1048576) :
    Calls Try.prog 19 #[.agg #[c0, c1, c2, c3, c4]] w fun e w' => ∃ d2 d4, e = .returned (.agg #[.int .i64 f.sort, .string f.text, .bool f.rest, d2, d4]) ∧ CTree w' f (Fresh w w') d2 d4 ∧ Below w.heap.size w w' :=
  (ctoCore_all f.sz).1 f (Nat.le_refl _) B w c0 c1 c2 c3 c4 h hB h0

end Go.Proofs.Ytkpamgabhlplfaa

namespace Go.Proofs.Ytkpamgabhlplfaa
open Go.RowKit Go.Siskin

theorem _root_.Go.Siskin.SameOn.drewN {R : Nat → Prop} {a w : World} (h : SameOn R a w) (m : Nat) : SameOn R a (w.drewN m) := fun b hb => h b hb
theorem belowN {B : Nat} {a w : World} (h : Below B a w) (n : Nat) : Below B a (w.drewN n) := h.trans ⟨rfl, rfl, rfl, Nat.le_refl _, fun _ _ => rfl⟩

def EqForm (n : Nat) : Prop := ∀ f : Fm, f.sz ≤ n → ∀ (B B' : Nat → Prop) (w : World) (c0 c1 c2 c3 c4 d0 d1 d2 d3 d4 : Value), FormAt B w f c0 c1 c2 c3 c4 → FormAt B' w f d0 d1 d2 d3 d4 → (∀ b, B b → b < w.heap.size) → (∀ b, B' b → b < w.heap.size) →
    Calls Try.prog 11 #[.agg #[c0, c1, c2, c3, c4], .agg #[d0, d1, d2, d3, d4]] w fun e w' => e = .returned (.bool true) ∧ Below w.heap.size w w'
def EqForms (n : Nat) : Prop := ∀ ks : List Fm, Fm.szs ks ≤ n → ∀ (B B' : Nat → Prop) (w : World) (v u : Value), FormsAt B w v ks → FormsAt B' w u ks → (∀ b, B b → b < w.heap.size) → (∀ b, B' b → b < w.heap.size) →
    Calls Try.prog 32 #[v, u] w fun e w' => e = .returned (.bool true) ∧ Below w.heap.size w w'

set_option maxHeartbeats 1000000 in
theorem eqForms_of (n : Nat) (ih : EqForm n) : EqForms n := by
  intro ks hks B B' w v u hv hu hB hB'
  obtain ⟨a, ca, rfl, hla, ha⟩ := hv
  obtain ⟨a', ca', rfl, -, ha'⟩ := hu
  unfold maxLen at hla
  have HI := hid ih
  have HR := hid hB
  have HR' := hid hB'
  clear ih hB hB'
  go_enter Try.func32, Try.ntmps32
  go_wp2_with fail
  go_loopw [5] (fun i wr => ∃ k : Nat, k ≤ ks.length ∧ i = .int .i64 k ∧ Hid (Below w.heap.size w wr)) (fun i _ => ks.length - (intOf i).toNat)
  case atStart => exact ⟨0, Nat.zero_le _, rfl, Below.refl _ _⟩
  case round =>
    obtain ⟨k, hk, rfl, HB⟩ := hrel
    by_cases hlt : k < ks.length
    · rcases ha with ha | ⟨ba, oa, rfl, hb, ha⟩
      · subst ha; simp at hlt
      rcases ha' with ha' | ⟨ba', oa', rfl, hb', ha'⟩
      · subst ha'; simp at hlt
      obtain ⟨c0, c1, c2, c3, c4, g0, g1, g2, g3, g4, hf⟩ := RowAt.get ks (RowAt.keep (HB.out.on HR.out) hb ks ha) k hlt
      obtain ⟨d0, d1, d2, d3, d4, e0, e1, e2, e3, e4, hf'⟩ := RowAt.get ks (RowAt.keep (HB.out.on HR'.out) hb' ks ha') k hlt
      have hsz := HB.out.size
      have HC := hid (HI.out ks[k] (Nat.le_trans (Fm.szs_get ks k hlt) hks) B B' wr.drew c0 c1 c2 c3 c4 d0 d1 d2 d3 d4 (FormAt.keep (SameOn.drew _ _) _ hf) (FormAt.keep (SameOn.drew _ _) _ hf') (fun b hb => Nat.lt_of_lt_of_le (HR.out b hb) hsz) (fun b hb => Nat.lt_of_lt_of_le (HR'.out b hb) hsz))
      clear ha hf ha' hf' HI
      go_wp2_with fail
      go_region_with (go_at_call 11; refine HC.out.mono ?_; rintro e w' ⟨rfl, hw⟩)
      all_goals go_wp2_with fail
      all_goals exact ⟨⟨k + 1, by omega, by go_num, HB.out.drew.trans (hw.mono hsz)⟩, by simp [intOf]; omega⟩
    · go_wp2_with fail
      go_ret
      exact ⟨rfl, HB.out⟩

set_option maxHeartbeats 2000000 in
theorem eqForm_of (n : Nat) (ih : EqForms n) : EqForm (n + 1) := by
  intro f hf B B' w c0 c1 c2 c3 c4 d0 d1 d2 d3 d4 hA hA' hB hB'
  obtain ⟨rfl, rfl, ht, h2, rfl, h4⟩ := (formAt_iff _ _ _ _ _ _ _ _).1 hA
  obtain ⟨rfl, rfl, -, h2', rfl, h4'⟩ := (formAt_iff _ _ _ _ _ _ _ _).1 hA'
  have HS := hid (Fm.sz_kids f)
  have H2 := hid h2
  have H4 := hid h4
  have H2' := hid h2'
  have H4' := hid h4'
  have HI := hid ih
  have HR := hid hB
  have HR' := hid hB'
  obtain ⟨a2, k2, rfl, -⟩ := h2
  obtain ⟨a2', k2', rfl, -⟩ := h2'
  obtain ⟨a4, k4, rfl, -⟩ := h4
  obtain ⟨a4', k4', rfl, -⟩ := h4'
  clear hA hA' ih hB hB'
  go_enter Try.func11, Try.ntmps11
  go_wp2_with fail
  refine (eqIntS_any (fun b => B b ∨ B' b) _ _ f.scopes f.scopes _ ((H2.out.keep (((SameOn.refl _ _).alloc HR.out _).alloc (fun b hb => by have := HR.out b hb; simp; omega) _)).mono (fun _ h => Or.inl h)) ((H2'.out.keep (((SameOn.refl _ _).alloc HR'.out _).alloc (fun b hb => by have := HR'.out b hb; simp; omega) _)).mono (fun _ h => Or.inr h))).mono ?_
  rintro e w1 ⟨rfl, m, rfl⟩
  rw [show (f.scopes == f.scopes) = true from by simp]
  go_wp2_with fail
  refine (HI.out f.kids (by have := HS.out; omega) B B' _ _ _ (H4.out.keep ?_) (H4'.out.keep ?_) ?_ ?_).mono ?_
  · exact (((SameOn.refl _ _).alloc HR.out _).alloc (fun b hb => by have := HR.out b hb; simp; omega) _).drewN m
  · exact (((SameOn.refl _ _).alloc HR'.out _).alloc (fun b hb => by have := HR'.out b hb; simp; omega) _).drewN m
  · exact fun b hb => by have := HR.out b hb; simp; omega
  · exact fun b hb => by have := HR'.out b hb; simp; omega
  rintro e w2 ⟨rfl, hw⟩
  go_wp2_with fail
  go_ret
  exact ⟨rfl, (belowN (((Below.refl _ _).alloc (Nat.le_refl _) _).alloc (by simp) _) m).trans (hw.mono (by simp; omega))⟩

theorem eqForm_all : ∀ n, EqForm n ∧ EqForms n
  | 0 => by
    have h : EqForm 0 := fun f hf => by have := Fm.sz_kids f; omega
    exact ⟨h, eqForms_of 0 h⟩
  | n + 1 => by
    have h := eqForm_of n (eqForm_all n).2
    exact ⟨h, eqForms_of (n + 1) h⟩

/-- Two places that hold one form are held equal by the law. -/
theorem eqExpForm_any (f : Fm) (B B' : Nat → Prop) (w : World) (c0 c1 c2 c3 c4 d0 d1 d2 d3 d4 : Value) (h : FormAt B w f c0 c1 c2 c3 c4) (h' : FormAt B' w f d0 d1 d2 d3 d4) (hB : ∀ b, B b → b < w.heap.size) (hB' : ∀ b, B' b → b < w.heap.size) :
    Calls Try.prog 11 #[.agg #[c0, c1, c2, c3, c4], .agg #[d0, d1, d2, d3, d4]] w fun e w' => e = .returned (.bool true) ∧ Below w.heap.size w w' :=
  (eqForm_all f.sz).1 f (Nat.le_refl _) B B' w c0 c1 c2 c3 c4 d0 d1 d2 d3 d4 h h' hB hB'

end Go.Proofs.Ytkpamgabhlplfaa

namespace Go.Proofs.Ytkpamgabhlplfaa
open Go.RowKit Go.Siskin

set_option maxHeartbeats 1000000 in
theorem eqStringS_any (B : Nat → Prop) (va vb : Value) (xs : List ByteArray) (w : World) (ha : StrsAt B w va xs) (hb : StrsAt B w vb xs) :
    Calls Try.prog 49 #[va, vb] w fun e w' => e = .returned (.bool true) ∧ ∃ n, w' = w.drewN n := by
  obtain ⟨a, ca, rfl, hla, -, ha⟩ := ha
  obtain ⟨b, cb, rfl, hlb, -, hb⟩ := hb
  unfold maxLen at hla hlb
  go_enter Try.func49, Try.ntmps49
  go_wp2_with fail
  go_loopw [5] (fun i wr => (∃ n, wr = w.drewN n) ∧ ∃ k : Nat, k ≤ xs.length ∧ i = .int .i64 k) (fun i _ => xs.length - (intOf i).toNat)
  case atStart => exact ⟨⟨0, rfl⟩, 0, Nat.zero_le _, rfl⟩
  case round =>
    obtain ⟨⟨n, rfl⟩, k, hk, rfl⟩ := hrel
    by_cases hlt : k < xs.length
    · rcases ha with ha | ⟨ba, oa, rfl, _, ha⟩
      · subst ha; simp at hlt
      rcases hb with hb | ⟨bb, ob, rfl, _, hb⟩
      · subst hb; simp at hlt
      have ga := ha k hlt
      have gb := hb k hlt
      clear ha hb
      go_wp2_with fail
      go_quiet (fail)
      go_wp2_with fail
      exact ⟨⟨⟨n + nq, rfl⟩, k + 1, by omega, by go_num⟩, by simp [intOf]; omega⟩
    · go_wp2_with fail
      go_ret
      exact ⟨rfl, n, rfl⟩

def EqCore (n : Nat) : Prop := ∀ f : Cm, f.sz ≤ n → ∀ (B B' : Nat → Prop) (w : World) (c0 c1 c2 c3 c4 d0 d1 d2 d3 d4 : Value), CoreAt B w f c0 c1 c2 c3 c4 → CoreAt B' w f d0 d1 d2 d3 d4 → (∀ b, B b → b < w.heap.size) → (∀ b, B' b → b < w.heap.size) →
    Calls Try.prog 21 #[.agg #[c0, c1, c2, c3, c4], .agg #[d0, d1, d2, d3, d4]] w fun e w' => e = .returned (.bool true) ∧ Below w.heap.size w w'
def EqCores (n : Nat) : Prop := ∀ ks : List Cm, Cm.szs ks ≤ n → ∀ (B B' : Nat → Prop) (w : World) (v u : Value), CoresAt B w v ks → CoresAt B' w u ks → (∀ b, B b → b < w.heap.size) → (∀ b, B' b → b < w.heap.size) →
    Calls Try.prog 50 #[v, u] w fun e w' => e = .returned (.bool true) ∧ Below w.heap.size w w'

set_option maxHeartbeats 1000000 in
theorem eqCores_of (n : Nat) (ih : EqCore n) : EqCores n := by
  intro ks hks B B' w v u hv hu hB hB'
  obtain ⟨a, ca, rfl, hla, ha⟩ := hv
  obtain ⟨a', ca', rfl, -, ha'⟩ := hu
  unfold maxLen at hla
  have HI := hid ih
  have HR := hid hB
  have HR' := hid hB'
  clear ih hB hB'
  go_enter Try.func50, Try.ntmps50
  go_wp2_with fail
  go_loopw [5] (fun i wr => ∃ k : Nat, k ≤ ks.length ∧ i = .int .i64 k ∧ Hid (Below w.heap.size w wr)) (fun i _ => ks.length - (intOf i).toNat)
  case atStart => exact ⟨0, Nat.zero_le _, rfl, Below.refl _ _⟩
  case round =>
    obtain ⟨k, hk, rfl, HB⟩ := hrel
    by_cases hlt : k < ks.length
    · rcases ha with ha | ⟨ba, oa, rfl, hb, ha⟩
      · subst ha; simp at hlt
      rcases ha' with ha' | ⟨ba', oa', rfl, hb', ha'⟩
      · subst ha'; simp at hlt
      obtain ⟨c0, c1, c2, c3, c4, g0, g1, g2, g3, g4, hf⟩ := CRowAt.get ks (CRowAt.keep (HB.out.on HR.out) hb ks ha) k hlt
      obtain ⟨d0, d1, d2, d3, d4, e0, e1, e2, e3, e4, hf'⟩ := CRowAt.get ks (CRowAt.keep (HB.out.on HR'.out) hb' ks ha') k hlt
      have hsz := HB.out.size
      have HC := hid (HI.out ks[k] (Nat.le_trans (Cm.szs_get ks k hlt) hks) B B' wr.drew c0 c1 c2 c3 c4 d0 d1 d2 d3 d4 (CoreAt.keep (SameOn.drew _ _) _ hf) (CoreAt.keep (SameOn.drew _ _) _ hf') (fun b hb => Nat.lt_of_lt_of_le (HR.out b hb) hsz) (fun b hb => Nat.lt_of_lt_of_le (HR'.out b hb) hsz))
      clear ha hf ha' hf' HI
      go_wp2_with fail
      go_region_with (go_at_call 21; refine HC.out.mono ?_; rintro e w' ⟨rfl, hw⟩)
      all_goals go_wp2_with fail
      all_goals exact ⟨⟨k + 1, by omega, by go_num, HB.out.drew.trans (hw.mono hsz)⟩, by simp [intOf]; omega⟩
    · go_wp2_with fail
      go_ret
      exact ⟨rfl, HB.out⟩

set_option maxHeartbeats 2000000 in
theorem eqCore_of (n : Nat) (ih : EqCores n) : EqCore (n + 1) := by
  intro f hf B B' w c0 c1 c2 c3 c4 d0 d1 d2 d3 d4 hA hA' hB hB'
  obtain ⟨rfl, rfl, ht, rfl, h2, h4⟩ := (coreAt_iff _ _ _ _ _ _ _ _).1 hA
  obtain ⟨rfl, rfl, -, rfl, h2', h4'⟩ := (coreAt_iff _ _ _ _ _ _ _ _).1 hA'
  have HS := hid (Cm.sz_kids f)
  have H2 := hid h2
  have H4 := hid h4
  have H2' := hid h2'
  have H4' := hid h4'
  have HI := hid ih
  have HR := hid hB
  have HR' := hid hB'
  obtain ⟨a2, k2, rfl, -⟩ := h2
  obtain ⟨a2', k2', rfl, -⟩ := h2'
  obtain ⟨a4, k4, rfl, -⟩ := h4
  obtain ⟨a4', k4', rfl, -⟩ := h4'
  clear hA hA' ih hB hB'
  go_enter Try.func21, Try.ntmps21
  go_wp2_with fail
  refine (eqStringS_any (fun b => B b ∨ B' b) _ _ f.names _ ((H2.out.keep (((SameOn.refl _ _).alloc HR.out _).alloc (fun b hb => by have := HR.out b hb; simp; omega) _)).mono (fun _ h => Or.inl h)) ((H2'.out.keep (((SameOn.refl _ _).alloc HR'.out _).alloc (fun b hb => by have := HR'.out b hb; simp; omega) _)).mono (fun _ h => Or.inr h))).mono ?_
  rintro e w1 ⟨rfl, m, rfl⟩
  go_wp2_with fail
  refine (HI.out f.kids (by have := HS.out; omega) B B' _ _ _ (H4.out.keep ?_) (H4'.out.keep ?_) ?_ ?_).mono ?_
  · exact (((SameOn.refl _ _).alloc HR.out _).alloc (fun b hb => by have := HR.out b hb; simp; omega) _).drewN m
  · exact (((SameOn.refl _ _).alloc HR'.out _).alloc (fun b hb => by have := HR'.out b hb; simp; omega) _).drewN m
  · exact fun b hb => by have := HR.out b hb; simp; omega
  · exact fun b hb => by have := HR'.out b hb; simp; omega
  rintro e w2 ⟨rfl, hw⟩
  go_wp2_with fail
  go_ret
  exact ⟨rfl, (belowN (((Below.refl _ _).alloc (Nat.le_refl _) _).alloc (by simp) _) m).trans (hw.mono (by simp; omega))⟩

theorem eqCore_all : ∀ n, EqCore n ∧ EqCores n
  | 0 => by
    have h : EqCore 0 := fun f hf => by have := Cm.sz_kids f; omega
    exact ⟨h, eqCores_of 0 h⟩
  | n + 1 => by
    have h := eqCore_of n (eqCore_all n).2
    exact ⟨h, eqCores_of (n + 1) h⟩

/-- Two places that hold one form are held equal by the law. -/
theorem eqExpCore_any (f : Cm) (B B' : Nat → Prop) (w : World) (c0 c1 c2 c3 c4 d0 d1 d2 d3 d4 : Value) (h : CoreAt B w f c0 c1 c2 c3 c4) (h' : CoreAt B' w f d0 d1 d2 d3 d4) (hB : ∀ b, B b → b < w.heap.size) (hB' : ∀ b, B' b → b < w.heap.size) :
    Calls Try.prog 21 #[.agg #[c0, c1, c2, c3, c4], .agg #[d0, d1, d2, d3, d4]] w fun e w' => e = .returned (.bool true) ∧ Below w.heap.size w w' :=
  (eqCore_all f.sz).1 f (Nat.le_refl _) B B' w c0 c1 c2 c3 c4 d0 d1 d2 d3 d4 h h' hB hB'

end Go.Proofs.Ytkpamgabhlplfaa

namespace Go.Proofs.Ytkpamgabhlplfaa
open Go.RowKit Go.Siskin

set_option maxHeartbeats 1000000 in
theorem szStringS_any (B : Nat → Prop) (va : Value) (xs : List ByteArray) (left : Int) (w : World) (ha : StrsAt B w va xs) (h0 : 0 ≤ left) (h1 : left ≤ 1048576) :
    Calls Try.prog 41 #[va, .int .i64 left] w fun e w' => e = .returned (.int .i64 (szI (strc xs) left)) ∧ w' = w := by
  obtain ⟨a, ca, rfl, hla, hmx, ha⟩ := ha
  obtain ⟨hla, -⟩ := hla
  unfold maxLen at hla
  have HS := hid (show strc xs = xs.length + (xs.map ByteArray.size).sum from rfl)
  by_cases hn : left - xs.length < 0
  · go_enter Try.func41, Try.ntmps41
    go_wp2_with fail
    go_ret
    exact ⟨ret_int ((szI_minus _ _).2 (by have := HS.out; omega)).symm, rfl⟩
  go_enter Try.func41, Try.ntmps41
  go_wp2_with fail
  go_loopw [1, 5] (fun l i wr => Hid (wr = w) ∧ ∃ k : Nat, k ≤ xs.length ∧ i = .int .i64 k ∧ ∃ m : Int, l = .int .i64 m ∧ 0 ≤ m ∧ m ≤ 1048576 ∧ Hid (m = left - xs.length - ((xs.take k).map ByteArray.size).sum)) (fun _ i _ => xs.length - (intOf i).toNat)
  case atStart => exact ⟨rfl, 0, Nat.zero_le _, rfl, _, rfl, by omega, by omega, by show _ = _; simp⟩
  case round =>
    obtain ⟨HW, k, hk, rfl, m, rfl, hm0, hm1, HM⟩ := hrel
    by_cases hlt : k < xs.length
    · rcases ha with ha | ⟨ba, oa, rfl, hb, ha⟩
      · subst ha; simp at hlt
      have hc := ha k hlt
      rw [← HW.out] at hc
      have hx := hmx k hlt
      unfold maxLen at hx
      have HT := hid (sums_take xs k hlt)
      have HL := hid (sums_take_le xs (k + 1))
      clear ha hmx
      by_cases hneg : m - xs[k].size < 0
      · go_wp2_with fail
        go_ret
        refine ⟨ret_int ?_, HW.out⟩
        have h1 := HM.out
        have h2 := HT.out
        have h3 := HL.out
        exact ((szI_minus _ _).2 (by have := HS.out; omega)).symm
      · go_wp2_with fail
        have h1 := HM.out
        have h2 := HT.out
        exact ⟨⟨HW, k + 1, by omega, by go_num, _, rfl, by omega, by omega, by show _ = _; rw [h2]; omega⟩, by simp [intOf]; omega⟩
    · go_wp2_with fail
      go_ret
      exact ⟨ret_int (by
        have h := HM.out
        rw [List.take_of_length_le (by omega)] at h
        rw [szI_pos _ _ (by rw [szI_neg]; have := HS.out; omega)]; have := HS.out; omega), HW.out⟩

def SzCore (n : Nat) : Prop := ∀ f : Cm, f.sz ≤ n → ∀ (B : Nat → Prop) (w : World) (c0 c1 c2 c3 c4 : Value) (left : Int), CoreAt B w f c0 c1 c2 c3 c4 → (∀ b, B b → b < w.heap.size) → 0 ≤ left → left ≤ 1048576 →
    Calls Try.prog 17 #[.agg #[c0, c1, c2, c3, c4], .int .i64 left] w fun e w' => e = .returned (.int .i64 (szI f.cost left)) ∧ Below w.heap.size w w'
def SzCores (n : Nat) : Prop := ∀ ks : List Cm, Cm.szs ks ≤ n → ∀ (B : Nat → Prop) (w : World) (v : Value) (left : Int), CoresAt B w v ks → (∀ b, B b → b < w.heap.size) → 0 ≤ left → left ≤ 1048576 →
    Calls Try.prog 42 #[v, .int .i64 left] w fun e w' => e = .returned (.int .i64 (szI (ks.length + Cm.costs ks) left)) ∧ Below w.heap.size w w'

set_option maxHeartbeats 1000000 in
theorem szCores_of (n : Nat) (ih : SzCore n) : SzCores n := by
  intro ks hks B w v left hv hB h0 h1
  obtain ⟨a, ca, rfl, hla, ha⟩ := hv
  unfold maxLen at hla
  have HI := hid ih
  clear ih
  by_cases hn : left - ks.length < 0
  · go_enter Try.func42, Try.ntmps42
    go_wp2_with fail
    go_ret
    exact ⟨ret_int (by unfold szI; rw [if_pos (by omega)]), Below.refl _ _⟩
  go_enter Try.func42, Try.ntmps42
  go_wp2_with fail
  go_loopw [1, 5] (fun l i wr => ∃ k : Nat, k ≤ ks.length ∧ i = .int .i64 k ∧ ∃ m : Int, l = .int .i64 m ∧ 0 ≤ m ∧ m ≤ 1048576 ∧ Hid (m = left - ks.length - Cm.costs (ks.take k)) ∧ Hid (Below w.heap.size w wr)) (fun _ i _ => ks.length - (intOf i).toNat)
  case atStart => exact ⟨0, Nat.zero_le _, rfl, _, rfl, by omega, by omega, by show _ = _; simp [Cm.costs], Below.refl _ _⟩
  case round =>
    obtain ⟨k, hk, rfl, m, rfl, hm0, hm1, HM, HB⟩ := hrel
    by_cases hlt : k < ks.length
    · rcases ha with ha | ⟨ba, oa, rfl, hb, ha⟩
      · subst ha; simp at hlt
      obtain ⟨c0, c1, c2, c3, c4, g0, g1, g2, g3, g4, hf⟩ := CRowAt.get ks (CRowAt.keep (HB.out.on hB) hb ks ha) k hlt
      have hsz := HB.out.size
      have hc := HI.out ks[k] (Nat.le_trans (Cm.szs_get ks k hlt) hks) B wr c0 c1 c2 c3 c4 m hf (fun b hb => by have := hB b hb; omega) hm0 hm1
      have HC := hid hc
      have HT := hid (Cm.costs_take ks k hlt)
      have HL := hid (Cm.costs_take_le ks (k + 1))
      clear hc ha hf HI
      by_cases hneg : szI ks[k].cost m < 0
      · go_wp2_with (go_at_call 17; refine HC.out.mono ?_; rintro e w' ⟨rfl, hw⟩)
        go_ret
        refine ⟨ret_int ?_, HB.out.trans (hw.mono (by omega))⟩
        have h1 := HM.out
        have h2 := HT.out
        have h3 := HL.out
        have h4 := (szI_neg _ _).1 hneg
        exact ((szI_minus _ _).2 (by omega)).symm
      · go_wp2_with (go_at_call 17; refine HC.out.mono ?_; rintro e w' ⟨rfl, hw⟩)
        have h1 := HM.out
        have h2 := HT.out
        have h4 := szI_pos _ _ (Int.not_lt.2 hneg)
        have h5 := (szI_ge ks[k].cost m).2 hm0
        exact ⟨⟨k + 1, by omega, by go_num, _, rfl, by omega, by omega, by show _ = _; rw [h4, h2]; omega, HB.out.trans (hw.mono (by omega))⟩, by simp [intOf]; omega⟩
    · go_wp2_with fail
      go_ret
      exact ⟨ret_int (by
        have h := HM.out
        rw [List.take_of_length_le (by omega)] at h
        unfold szI; rw [if_neg (by omega)]; omega), HB.out⟩

set_option maxHeartbeats 1000000 in
theorem szCore_of (n : Nat) (ih : SzCores n) : SzCore (n + 1) := by
  intro f hf B w c0 c1 c2 c3 c4 left hA hB h0 h1
  obtain ⟨rfl, rfl, ht, rfl, h3, h4⟩ := (coreAt_iff _ _ _ _ _ _ _ _).1 hA
  have hst : ∀ t, Hid (StrsAt B (w.alloc (.cells #[.int .i64 f.sort, .string f.text, .bool f.rest, c3, c4] t)) c3 f.names) := fun t => h3.keep ((SameOn.refl _ _).alloc hB _)
  have H3 := hid (hst 45)
  obtain ⟨sa, sc, rfl, -⟩ := h3
  clear hst
  have ht0 := ht
  unfold maxLen at ht
  have HC := hid (Cm.cost_eq f)
  have HS := hid (Cm.sz_kids f)
  by_cases k1 : left - f.text.size < 0
  · go_enter Try.func17, Try.ntmps17
    go_wp2_with fail
    go_ret
    have := HC.out
    exact ⟨ret_int ((szI_minus _ _).2 (by omega)).symm, (Below.refl _ _).alloc (Nat.le_refl _) _⟩
  by_cases k2 : szI (strc f.names) (left - f.text.size) < 0
  · go_enter Try.func17, Try.ntmps17
    go_wp2_with (go_at_call 41; refine (szStringS_any B _ f.names _ _ H3.out.out (by omega) (by omega)).mono ?_; rintro e w' ⟨rfl, hw⟩; rw [hw]; clear hw w')
    go_ret
    have := HC.out
    have := (szI_neg _ _).1 k2
    exact ⟨ret_int ((szI_minus _ _).2 (by omega)).symm, (Below.refl _ _).alloc (Nat.le_refl _) _⟩
  have HP := hid (szI_pos _ _ k2)
  have hle := (szI_ge (strc f.names) (left - f.text.size)).2 (by omega)
  have HK := hid (ih f.kids (by have := HS.out; omega) B (w.alloc (.cells #[.int .i64 f.sort, .string f.text, .bool f.rest, .slice sa f.names.length sc, c4] 45)) c4 (szI (strc f.names) (left - f.text.size)) (h4.keep ((SameOn.refl _ _).alloc hB _)) (fun b hb => by have := hB b hb; simp; omega) (by omega) (by omega))
  clear ih h4 hA
  by_cases k3 : szI (f.kids.length + Cm.costs f.kids) (szI (strc f.names) (left - f.text.size)) < 0
  · go_enter Try.func17, Try.ntmps17
    go_wp2_with (first
      | (go_at_call 41; refine (szStringS_any B _ f.names _ _ H3.out.out (by omega) (by omega)).mono ?_; rintro e w' ⟨rfl, hw⟩; rw [hw]; clear hw w')
      | (go_at_call 42; refine HK.out.mono ?_; rintro e w' ⟨rfl, hw⟩))
    go_ret
    have h1 := HC.out
    have h2 := HP.out
    have h3 := (szI_neg _ _).1 k3
    exact ⟨ret_int ((szI_minus _ _).2 (by omega)).symm, ((Below.refl _ _).alloc (Nat.le_refl _) _).trans (hw.mono (by simp))⟩
  · go_enter Try.func17, Try.ntmps17
    go_wp2_with (first
      | (go_at_call 41; refine (szStringS_any B _ f.names _ _ H3.out.out (by omega) (by omega)).mono ?_; rintro e w' ⟨rfl, hw⟩; rw [hw]; clear hw w')
      | (go_at_call 42; refine HK.out.mono ?_; rintro e w' ⟨rfl, hw⟩))
    go_ret
    have h1 := HC.out
    have h2 := HP.out
    have h3 := szI_pos _ _ (Int.not_lt.2 k3)
    refine ⟨ret_int ?_, ((Below.refl _ _).alloc (Nat.le_refl _) _).trans (hw.mono (by simp))⟩
    rw [h3, h2, szI_pos _ _ (by rw [szI_neg]; omega)]; omega

theorem szCore_all : ∀ n, SzCore n ∧ SzCores n
  | 0 => by
    have h : SzCore 0 := fun f hf => by have := Cm.sz_kids f; omega
    exact ⟨h, szCores_of 0 h⟩
  | n + 1 => by
    have h := szCore_of n (szCore_all n).2
    exact ⟨h, szCores_of (n + 1) h⟩

/-- The law's own count of a form. -/
theorem szExpCore_any (f : Cm) (B : Nat → Prop) (w : World) (c0 c1 c2 c3 c4 : Value) (left : Int) (h : CoreAt B w f c0 c1 c2 c3 c4) (hB : ∀ b, B b → b < w.heap.size) (h0 : 0 ≤ left) (h1 : left ≤ 1048576) :
    Calls Try.prog 17 #[.agg #[c0, c1, c2, c3, c4], .int .i64 left] w fun e w' => e = .returned (.int .i64 (szI f.cost left)) ∧ Below w.heap.size w w' :=
  (szCore_all f.sz).1 f (Nat.le_refl _) B w c0 c1 c2 c3 c4 left h hB h0 h1

end Go.Proofs.Ytkpamgabhlplfaa
