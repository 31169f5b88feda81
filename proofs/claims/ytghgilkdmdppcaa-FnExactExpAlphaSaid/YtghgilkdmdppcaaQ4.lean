/-
  The law's toStringS, toExpCore and toExpCoreS copy into memory of their own: every list in a block of its own. Condition: the part lies in memory, and costs at most 1048576.
-/
import Derived.Test.YtghgilkdmdppcaaF2b
import Derived.Test.YtghgilkdmdppcaaQ2
namespace Go.Proofs.Ytghgilkdmdppcaa
open Go.RowKit Go.Siskin

theorem Try.infoStr : (Try.prog.info? 9).map (fun i => (i.zero, i.size, i.bytes)) = some (some (.string ⟨#[]⟩), 1, 16) := by kernel_rfl
theorem Try.infoCore : (Try.prog.info? 35).map (fun i => (i.zero, i.size, i.bytes)) = some (some (.agg #[.int .i64 0, .string ⟨#[]⟩, .bool false, .slice none 0 0, .slice none 0 0]), 5, 80) := by kernel_rfl

theorem cown_row {w : World} {g n size : Nat} {e : TypeId} {cs : Array Value} (h : Own w g e cs) (hs : cs.size = n * size) (hm : n ≤ maxLen) : w.ownsRow 0 e size (.slice (some ⟨g, 0, none⟩) n n) n cs.toList :=
  ⟨by simp [hs], Or.inr ⟨g, n, cs, rfl, Nat.zero_le _, h, Nat.le_refl _, hm, hs, by rw [List.take_of_length_le (by simp [hs])]⟩⟩

theorem sset_step {cs : Array Value} {xs : List ByteArray} {k : Nat} (hcs : cs.size = xs.length) (hlt : k < xs.length) (hg : ∀ j (hj : j < xs.length), j < k → cs[j]? = some (.string xs[j])) :
    ∀ j (hj : j < xs.length), j < k + 1 → (cs.setIfInBounds k (.string xs[k]))[j]? = some (.string xs[j]) := by
  intro j hj hjk
  by_cases e : k = j
  · subst e; rw [Array.getElem?_setIfInBounds, if_pos rfl, if_pos (by omega)]
  · rw [Array.getElem?_setIfInBounds, if_neg e]; exact hg j hj (by omega)

set_option maxHeartbeats 1000000 in
theorem toStringS_own (B : Nat → Prop) (va : Value) (xs : List ByteArray) (w : World) (ha : StrsAt B w va xs) (hB : ∀ b, B b → b < w.heap.size) (hn : strc xs ≤ 1048576) :
    Calls Try.prog 19 #[va] w fun e w' => e = .returned (.slice (some ⟨w.heap.size, 0, none⟩) xs.length xs.length) ∧ w'.ownsRow 0 9 1 (.slice (some ⟨w.heap.size, 0, none⟩) xs.length xs.length) xs.length (xs.map Value.string) ∧ Below w.heap.size w w' := by
  obtain ⟨a, ca, rfl, hla, hmx, ha⟩ := ha
  have hn1 : xs.length ≤ 1048576 := by unfold strc at hn; omega
  clear hmx hn hla
  obtain ⟨i, hi, hz0, hz1, hz2⟩ := info_parts Try.infoStr
  have Hi := hid hi
  have Hz0 := hid hz0
  have Hz1 := hid hz1
  have Hz2 := hid hz2
  clear hi hz0 hz1 hz2
  go_enter Try.func19, Try.ntmps19
  go_wp2_with (at_make; refine wpList_make_new _ rfl _ _ 29 rfl 9 i (.string ⟨#[]⟩) 1 Try.underlying29 Hi.out Hz0.out Hz1.out .i64 .i64 xs.length rfl rfl (by rw [Hz2.out]; omega) (by unfold maxLen; omega) ?_)
  go_loopw [4] (fun i wr => ∃ k : Nat, k ≤ xs.length ∧ i = .int .i64 k ∧ Hid (∃ cs : Array Value, Own wr w.heap.size 9 cs ∧ cs.size = xs.length ∧ (∀ j (hj : j < xs.length), j < k → cs[j]? = some (.string xs[j])) ∧ Below w.heap.size w wr)) (fun i _ => xs.length - (intOf i).toNat)
  case atStart => exact ⟨0, Nat.zero_le _, rfl, _, own_new _ _ _, size_madeCells _ _, fun j _ hj => absurd hj (by omega), (Below.refl _ _).alloc (Nat.le_refl _) _⟩
  case round =>
    obtain ⟨k, hk, rfl, HA⟩ := hrel
    obtain ⟨cs, ho, hcs, hgot, hbel⟩ := HA.out
    have HO := hid ho
    have HG := hid hgot
    have HB := hid hbel
    by_cases hlt : k < xs.length
    · rcases ha with ha | ⟨ba, oa, rfl, hb, ha⟩
      · subst ha; simp at hlt
      have ga := (hbel.cell (p := ⟨ba, oa + k, none⟩) (hB ba hb)).trans (ha k hlt)
      have gc := ho.cell k
      rw [Array.getElem?_eq_getElem (by omega)] at gc
      have gf := ho.frozen k
      clear ha HA ho hgot hbel
      go_wp2_with fail
      exact ⟨⟨k + 1, by omega, by go_num, _, HO.out.set k _, by simp [hcs], sset_step hcs hlt HG.out, HB.out.setCell (Nat.le_refl _) _⟩, by simp [intOf]; omega⟩
    · clear HA ho hgot hbel
      go_wp2_with fail
      go_ret
      refine ⟨rfl, ?_, HB.out⟩
      have hl : cs.toList = xs.map Value.string := by
        apply List.ext_getElem?
        intro j
        by_cases hj : j < xs.length
        · rw [Array.getElem?_toList, HG.out j hj (by omega), List.getElem?_map, List.getElem?_eq_getElem hj]; rfl
        · rw [List.getElem?_eq_none (by simp; omega), List.getElem?_eq_none (by simp; omega)]
      have h := cown_row (n := xs.length) (size := 1) HO.out (by omega) (by unfold maxLen; omega)
      rw [hl] at h
      exact h

def CToCore (n : Nat) : Prop := ∀ f : Cm, f.sz ≤ n → ∀ (B : Nat → Prop) (w : World) (c0 c1 c2 c3 c4 : Value), CoreAt B w f c0 c1 c2 c3 c4 → (∀ b, B b → b < w.heap.size) → f.cost ≤ 1048576 →
    Calls Try.prog 11 #[.agg #[c0, c1, c2, c3, c4]] w fun e w' => ∃ d2 d4, e = .returned (.agg #[.int .i64 f.sort, .string f.text, .bool f.rest, d2, d4]) ∧ CTree w' f (Fresh w w') d2 d4 ∧ Below w.heap.size w w'
def CToCores (n : Nat) : Prop := ∀ ks : List Cm, Cm.szs ks ≤ n → ∀ (B : Nat → Prop) (w : World) (v : Value), CoresAt B w v ks → (∀ b, B b → b < w.heap.size) → ks.length + Cm.costs ks ≤ 1048576 →
    Calls Try.prog 6 #[v] w fun e w' => ∃ u, e = .returned u ∧ CRow w' (Fresh w w') u ks ∧ Below w.heap.size w w'

set_option maxHeartbeats 1000000 in
theorem ctoCore_of (n : Nat) (ih : CToCores n) : CToCore (n + 1) := by
  intro f hf B w c0 c1 c2 c3 c4 hA hB h0
  obtain ⟨rfl, rfl, ht, rfl, h2, h4⟩ := (coreAt_iff _ _ _ _ _ _ _ _).1 hA
  have HC := hid (Cm.cost_eq f)
  have HS := hid (Cm.sz_kids f)
  have hl : strc f.names ≤ 1048576 := by have := HC.out; omega
  have H2 := hid h2
  have H4 := hid h4
  have HI := hid ih
  have HR := hid hB
  clear h2 h4 hA ih hB
  go_enter Try.func11, Try.ntmps11
  go_wp2_with fail
  refine (toStringS_own B _ f.names _ (H2.out.keep (((((SameOn.refl _ _).alloc HR.out _).alloc (fun b hb => by have := HR.out b hb; simp; omega) _).alloc (fun b hb => by have := HR.out b hb; simp; omega) _))) (fun b hb => by have := HR.out b hb; simp; omega) hl).mono ?_
  rintro e w1 ⟨rfl, hi1, hb1⟩
  simp only [World.size_alloc] at hi1
  simp only [World.size_alloc]
  obtain ⟨hc1, hf1⟩ := bcell hb1
  have hz0 : w.heap.size + 3 < w1.heap.size := (hi1.lt (w.heap.size + 1 + 1 + 1) rfl).2
  have hz1 : w.heap.size + 2 < w1.heap.size := by omega
  have hz1a : w.heap.size + 1 < w1.heap.size := by omega
  have hz1b : w.heap.size < w1.heap.size := by omega
  have HI1 := hid hi1
  have HB1 := hid hb1
  clear hi1 hb1
  go_wp2_with fail
  refine (HI.out f.kids (by have := HS.out; omega) B _ c4 (H4.out.keep ?_) ?_ (by have := HC.out; omega)).mono ?_
  · exact ((((((SameOn.refl _ _).alloc HR.out _).alloc (fun b hb => by have := HR.out b hb; simp; omega) _).alloc (fun b hb => by have := HR.out b hb; simp; omega) _).below HB1.out (fun b hb => by have := HR.out b hb; simp; omega)).setCell (fun hb => by have := HR.out _ hb; simp at this; omega) _)
  · exact fun b hb => by have := HR.out b hb; simp; omega
  rintro e w2 ⟨u, rfl, hi2, hb2⟩
  obtain ⟨a4, k4, rfl⟩ : ∃ a c, u = .slice a f.kids.length c := by
    obtain ⟨cs', F', h⟩ := hi2
    exact crow_shape h.row
  obtain ⟨hc2, hf2⟩ := bcell hb2
  have hz2 : w1.heap.size ≤ w2.heap.size := by have := hb2.size; simp at this; omega
  have HI2 := hid hi2
  have HB2 := hid hb2
  clear hi2 hb2
  go_wp2_with fail
  refine bodyPost_ret (v := .agg #[.int .i64 f.sort, .string f.text, .bool f.rest, .slice (some ⟨w.heap.size + 1 + 1 + 1, 0, none⟩) f.names.length f.names.length, .slice a4 f.kids.length k4]) (by simp [results, Try.results11, go_sem, hc1, hc2, hz1a]) rfl ⟨_, _, rfl, ?_, ?_⟩
  · rw [ctree_iff]
    refine ⟨crow_same HI1.out ?_, ?_, ((HI2.out.keep ?_).mono ?_)⟩
    · intro g hg
      have hg' : g = w.heap.size + 1 + 1 + 1 := by simpa [Value.ownBlock] using hg.symm
      subst hg'
      refine ((((((((SameOn.refl (fun b => b = w.heap.size + 1 + 1 + 1) w1).setCell ?_ _).below HB2.out ?_).setCell ?_ _).setCell ?_ _).setCell ?_ _).setCell ?_ _).setCell ?_ _ |>.setCell ?_ _) _ rfl
      all_goals first
        | (intro h; simp at h <;> omega)
        | (intro b h; have h' : b = w.heap.size + 1 + 1 + 1 := h; simp; omega)
    · intro g hg
      have hg' : g = w.heap.size + 1 + 1 + 1 := by simpa [Value.ownBlock] using hg.symm
      subst hg'
      exact ⟨by omega, by simp; omega⟩
    · refine ((((((SameOn.refl _ _).setCell ?_ _).setCell ?_ _).setCell ?_ _).setCell ?_ _).setCell ?_ _).setCell ?_ _
      all_goals (intro h; have := h.1; simp at this; omega)
    · intro b h; have h1 := h.1; have h2 := h.2; simp at h1; exact ⟨⟨by omega, by simp; omega⟩, by simp [Value.ownBlock]; omega⟩
  · refine ((((((((((((Below.refl _ _).alloc (Nat.le_refl _) _).alloc (by simp) _).alloc (by simp; omega) _).trans (HB1.out.mono (by simp; omega))).setCell ?_ _).trans (HB2.out.mono (by simp; omega))).setCell ?_ _).setCell ?_ _).setCell ?_ _).setCell ?_ _).setCell ?_ _).setCell ?_ _
    all_goals (simp; try omega)

/-- The first k forms stand in a block of the call's own; what they lead to lies behind it, each in blocks of its own. -/
def CGot (g : Nat) (wr : World) (cs : Array Value) (ks : List Cm) (k : Nat) : Prop :=
  ∃ F : Nat → Nat → Prop, (∀ i b, F i b → i < k ∧ g < b ∧ b < wr.heap.size) ∧ (∀ i j b, i ≠ j → F i b → ¬ F j b) ∧
    ∀ j (hj : j < ks.length), j < k → ∃ d2 d4, cs[j * 5]? = some (.int .i64 ks[j].sort) ∧ cs[j * 5 + 1]? = some (.string ks[j].text) ∧ cs[j * 5 + 2]? = some (.bool ks[j].rest) ∧ cs[j * 5 + 3]? = some d2 ∧ cs[j * 5 + 4]? = some d4 ∧ CTree wr ks[j] (F j) d2 d4

theorem cgot_step {g k : Nat} {wr w1 : World} {cs : Array Value} {ks : List Cm} {d2 d4 : Value} (hcs : cs.size = ks.length * 5) (hlt : k < ks.length) (hg : g < wr.heap.size) (hb : Below wr.heap.size wr w1)
    (hf : CTree w1 ks[k] (Fresh wr w1) d2 d4) (got : CGot g wr cs ks k) : CGot g (put5 w1 g (k * 5) (.int .i64 ks[k].sort) (.string ks[k].text) (.bool ks[k].rest) d2 d4) (arr5 cs (k * 5) (.int .i64 ks[k].sort) (.string ks[k].text) (.bool ks[k].rest) d2 d4) ks (k + 1) := by
  obtain ⟨F, hF, hap, hk⟩ := got
  have hs := hb.size
  refine ⟨fun i b => F i b ∨ (i = k ∧ Fresh wr w1 b), ?_, ?_, ?_⟩
  · intro i b h
    rw [put5_size]
    rcases h with h | ⟨rfl, h⟩
    · have := hF i b h; omega
    · have := h.1; have := h.2; omega
  · intro i j b hij h1 h2
    rcases h1 with h1 | ⟨rfl, h1⟩
    · rcases h2 with h2 | ⟨rfl, h2⟩
      · exact hap i j b hij h1 h2
      · have := hF i b h1; have := h2.1; omega
    · rcases h2 with h2 | ⟨rfl, h2⟩
      · have := hF j b h2; have := h1.1; omega
      · exact hij rfl
  · intro j hj hjk
    by_cases e : j = k
    · subst e
      obtain ⟨e0, e1, e2, e3, e4⟩ := arr5_in (cs := cs) (o := j * 5) (.int .i64 ks[j].sort) (.string ks[j].text) (.bool ks[j].rest) d2 d4 (by omega)
      refine ⟨d2, d4, e0, e1, e2, e3, e4, (hf.keep (put5_same (SameOn.refl _ _) ?_ _ _ _ _ _ _)).mono ?_⟩
      · intro h; have h1 := h.1; omega
      · intro b h; exact Or.inr ⟨rfl, h⟩
    · obtain ⟨x2, x4, e0, e1, e2, e3, e4, hx⟩ := hk j hj (by omega)
      refine ⟨x2, x4, ?_, ?_, ?_, ?_, ?_, (hx.keep (put5_same ((SameOn.refl _ _).below hb ?_) ?_ _ _ _ _ _ _)).mono ?_⟩
      · rw [arr5_out _ _ _ _ _ (by omega)]; exact e0
      · rw [arr5_out _ _ _ _ _ (by omega)]; exact e1
      · rw [arr5_out _ _ _ _ _ (by omega)]; exact e2
      · rw [arr5_out _ _ _ _ _ (by omega)]; exact e3
      · rw [arr5_out _ _ _ _ _ (by omega)]; exact e4
      · intro b h; exact (hF j b h).2.2
      · intro h; have := hF j g h; omega
      · intro b h; exact Or.inl h

set_option maxHeartbeats 1000000 in
theorem ctoCores_of (n : Nat) (ih : CToCore n) : CToCores n := by
  intro ks hks B w v hv hB hn
  obtain ⟨a, ca, rfl, hla, ha⟩ := hv
  unfold maxLen at hla
  obtain ⟨i, hi, hz0, hz1, hz2⟩ := info_parts Try.infoCore
  have Hi := hid hi
  have Hz0 := hid hz0
  have Hz1 := hid hz1
  have Hz2 := hid hz2
  have HI := hid ih
  have HR := hid hB
  clear hi hz0 hz1 hz2 ih hB
  have hn1 : ks.length ≤ 1048576 := by omega
  go_enter Try.func6, Try.ntmps6
  go_wp2_with (at_make; refine wpList_make_new _ rfl _ _ 25 rfl 35 i (.agg #[.int .i64 0, .string ⟨#[]⟩, .bool false, .slice none 0 0, .slice none 0 0]) 5 Try.underlying25 Hi.out Hz0.out Hz1.out .i64 .i64 ks.length rfl rfl (by rw [Hz2.out]; omega) (by unfold maxLen; omega) ?_)
  go_loopw [4] (fun i wr => ∃ k : Nat, k ≤ ks.length ∧ i = .int .i64 k ∧ Hid (∃ cs : Array Value, Own wr w.heap.size 35 cs ∧ cs.size = ks.length * 5 ∧ CGot w.heap.size wr cs ks k ∧ Below w.heap.size w wr)) (fun i _ => ks.length - (intOf i).toNat)
  case atStart => exact ⟨0, Nat.zero_le _, rfl, _, own_new _ _ _, size_madeCells _ _, ⟨fun _ _ => False, fun _ _ h => h.elim, fun _ _ _ _ h => h.elim, fun j _ hj => absurd hj (by omega)⟩, (Below.refl _ _).alloc (Nat.le_refl _) _⟩
  case round =>
    obtain ⟨k, hk, rfl, HA⟩ := hrel
    obtain ⟨cs, ho, hcs, hgot, hbel⟩ := HA.out
    have HO := hid ho
    have HG := hid hgot
    have HB := hid hbel
    clear ho hgot hbel HA
    by_cases hlt : k < ks.length
    · rcases ha with ha | ⟨ba, oa, rfl, hb, ha⟩
      · subst ha; simp at hlt
      have hrow := CRowAt.keep (HB.out.on HR.out) hb ks ha
      obtain ⟨c0, c1, c2, c3, c4, g0, g1, g2, g3, g4, hf⟩ := CRowAt.get ks hrow k hlt
      have HC := hid (HI.out ks[k] (Nat.le_trans (Cm.szs_get ks k hlt) hks) B wr c0 c1 c2 c3 c4 hf (fun b hb => by have := HR.out b hb; have := HB.out.size; omega) (by have := Cm.costs_get ks k hlt; omega))
      clear ha hf hrow HI
      go_wp2_with fail
      refine HC.out.mono ?_
      rintro e w1 ⟨d2, d4, rfl, hf, hw⟩
      have HF := hid hf
      obtain ⟨⟨a2, k2, rfl⟩, a4, k4, rfl⟩ : (∃ a c, d2 = .slice a ks[k].names.length c) ∧ ∃ a c, d4 = .slice a ks[k].kids.length c := by
        rw [ctree_iff] at hf
        obtain ⟨h1, -, cs', F', h2⟩ := hf
        exact ⟨crow_shape h1, crow_shape h2.row⟩
      have ho1 := HO.out.keep hw HO.out.lt
      have q0 := ho1.cell (k * 5)
      have q1 := ho1.cell (k * 5 + 1)
      have q2 := ho1.cell (k * 5 + 2)
      have q3 := ho1.cell (k * 5 + 3)
      have q4 := ho1.cell (k * 5 + 4)
      rw [Array.getElem?_eq_getElem (by omega)] at q0 q1 q2 q3 q4
      have f0 := ho1.frozen (k * 5)
      have f1 := ho1.frozen (k * 5 + 1)
      have f2 := ho1.frozen (k * 5 + 2)
      have f3 := ho1.frozen (k * 5 + 3)
      have f4 := ho1.frozen (k * 5 + 4)
      have HW := hid hw
      have HO1 := hid ho1
      clear ho1 hf hw
      go_wp2_with fail
      have hsz := HB.out.size
      exact ⟨⟨k + 1, by omega, by go_num, _, put5_own HO1.out (k * 5) _ _ _ _ _, by rw [arr5_size, hcs], cgot_step hcs hlt HO.out.lt HW.out HF.out HG.out, put5_below (HB.out.trans (HW.out.mono hsz)) (Nat.le_refl _) _ _ _ _ _ _⟩, by simp [intOf]; omega⟩
    · go_wp2_with fail
      go_ret
      refine ⟨_, rfl, ?_, HB.out⟩
      obtain ⟨F, hF, hap, hkk⟩ := HG.out
      have hkl : k = ks.length := by omega
      refine ⟨cs.toList, F, cown_row HO.out hcs (by unfold maxLen; omega), ?_, ?_, hap, ?_⟩
      · intro g hg
        have hg' : g = w.heap.size := by simpa [Value.ownBlock] using hg.symm
        subst hg'
        exact ⟨Nat.le_refl _, HO.out.lt⟩
      · intro i b h
        have := hF i b h
        exact ⟨⟨by omega, by omega⟩, by simp [Value.ownBlock]; omega⟩
      · intro j hj
        obtain ⟨x2, x4, e0, e1, e2, e3, e4, hx⟩ := hkk j hj (by omega)
        simp only [Array.getElem?_toList]
        exact ⟨x2, x4, e0, e1, e2, e3, e4, hx⟩

theorem ctoCore_all : ∀ n, CToCore n ∧ CToCores n
  | 0 => by
    have h : CToCore 0 := fun f hf => by have := Cm.sz_kids f; omega
    exact ⟨h, ctoCores_of 0 h⟩
  | n + 1 => by
    have h := ctoCore_of n (ctoCore_all n).2
    exact ⟨h, ctoCores_of (n + 1) h⟩

/-- The law's copy of a form: the same form, in memory of its own. -/
theorem toExpCore_own (f : Cm) (B : Nat → Prop) (w : World) (c0 c1 c2 c3 c4 : Value) (h : CoreAt B w f c0 c1 c2 c3 c4) (hB : ∀ b, B b → b < w.heap.size) (h0 : f.cost ≤ 1048576) :
    Calls Try.prog 11 #[.agg #[c0, c1, c2, c3, c4]] w fun e w' => ∃ d2 d4, e = .returned (.agg #[.int .i64 f.sort, .string f.text, .bool f.rest, d2, d4]) ∧ CTree w' f (Fresh w w') d2 d4 ∧ Below w.heap.size w w' :=
  (ctoCore_all f.sz).1 f (Nat.le_refl _) B w c0 c1 c2 c3 c4 h hB h0

end Go.Proofs.Ytghgilkdmdppcaa
