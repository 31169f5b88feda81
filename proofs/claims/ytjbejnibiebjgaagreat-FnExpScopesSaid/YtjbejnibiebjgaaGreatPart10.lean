/-
  What stands after some kids have been opened by the program's openAll, and that one kid more keeps it. No program's step is walked here.
  The program's openAll opens all forms of a list, just where all are ok and not too many, if its opener does so of one. Condition: the forms lie in memory, the opener's counter apart from them.
  Rows of the program's forms that a call makes; what changing the scopes of a form comes to. No step is walked here.
  The program's changed, of each kind, and changedAll: the form with other scopes. Condition: the form lies in memory as InAt says, its scopes ascending; what the closures captured is there.
-/
import Derived.Test.YtjbejnibiebjgaaGreatPart9
import Derived.Maps.AppendAt
import Derived.Test.YtjbejnibiebjgaaGreatPart6
namespace Go.Proofs.YtjbejnibiebjgaaGreat
open Go.RowKit Go.Siskin

theorem Tryz.infoIface : (Tryz.prog.info? 43).map (fun i => (i.zero, i.size, i.bytes)) = some (some .nilIface, 1, 16) := by kernel_rfl

def OpenForms (n : Nat) : Prop := ∀ ks : List Fm, Fm.szs ks ≤ n → ∀ (B : Nat → Prop) (w : World) (v : Value) (d m bo : Nat), FormsAt B w v ks → (∀ b, B b → b < w.heap.size ∧ b ≠ bo) → Own w bo 69 #[.int .i64 m] → m ≤ 1500 → d ≤ 61 → ks.length + Fm.costs ks ≤ 1048576 →
    Calls Tryz.prog 60 #[.pointer (some ⟨bo, 0, none⟩), v, .int .i64 d] w fun e w' => ∃ (m' : Int) (a : Option Addr) (len cap : Nat), Opened bo w w' m' ∧ e = .returned (.tuple #[.slice a len cap, .bool (goodsB ks d m)]) ∧
      (goodsB ks d m = true → m' = m + Fm.szs ks ∧ len = ks.length ∧ len ≤ cap ∧ (ks = [] ∨ ∃ g, a = some ⟨g, 0, none⟩ ∧ Reg B w w' g ∧ InRow (Reg B w w') w' g 0 (toIms ks)))

/-- The blocks in which what was opened so far may lie: old ones, and new ones but the row's own. -/
def Reg2 (B : Nat → Prop) (w wr : World) (v : Value) (b : Nat) : Prop := B b ∨ (w.heap.size ≤ b ∧ b < wr.heap.size ∧ v.ownBlock ≠ some b)

theorem ownsRow_grown {w w' : World} {base : Nat} {e : TypeId} {v : Value} {n : Nat} {xs : List Value} {row : Option Nat} (h : w.ownsRow base e 1 v n xs) (hg : w.grownBy w' row) (hr : ∀ k, row = some k → k < base) : w'.ownsRow base e 1 v n xs := by
  obtain ⟨h1, h2⟩ := h
  refine ⟨h1, ?_⟩
  rcases h2 with h2 | ⟨g, cap, cur, e1, e2, e3, e4⟩
  · exact Or.inl h2
  · refine Or.inr ⟨g, cap, cur, e1, e2, ?_, e4⟩
    rw [← e3]
    exact hg.block g (Array.getElem?_eq_some_iff.1 e3).1 (fun e => by have := hr g e.symm; omega)
theorem ownsRow_alloc {w : World} {base : Nat} {e : TypeId} {v : Value} {n : Nat} {xs : List Value} (h : w.ownsRow base e 1 v n xs) (o : Obj) : (w.alloc o).ownsRow base e 1 v n xs :=
  ownsRow_grown h (World.grownBy_alloc w o none) (fun _ e => by cases e)
/-- The row's own block is a new one. -/
theorem ownsRow_block {w : World} {base : Nat} {e : TypeId} {v : Value} {n : Nat} {xs : List Value} (h : w.ownsRow base e 1 v n xs) {b : Nat} (hb : v.ownBlock = some b) : base ≤ b ∧ b < w.heap.size := by
  rcases h.2 with h2 | ⟨g, cap, cur, e1, e2, e3, e4⟩
  · rw [h2.1] at hb; cases hb
  · rw [e1] at hb
    simp only [Value.ownBlock, Option.some.injEq] at hb
    subst hb
    exact ⟨e2, (Array.getElem?_eq_some_iff.1 e3).1⟩

/-- What stands after k kids have been opened. -/
structure AllRel (B : Nat → Prop) (w : World) (bo d m : Nat) (ks : List Fm) (k : Nat) (v : Value) (wr : World) : Prop where
  ok : oksB (ks.take k) d = true
  le : m + Fm.szs (ks.take k) ≤ 1500
  opened : Opened bo w wr ((m + Fm.szs (ks.take k) : Nat) : Int)
  vals : ∃ xs : List Value, wr.ownsRow w.heap.size 43 1 v k xs ∧ ∀ j (hj : j < ks.length), j < k → ∃ x, xs[j]? = some x ∧ InAt (Reg2 B w wr v) wr (toIm ks[j]) x

theorem grown_on {R : Nat → Prop} {a w w' : World} {row : Option Nat} (h : SameOn R a w) (hg : w.grownBy w' row) (hR : ∀ b, R b → b < w.heap.size ∧ some b ≠ row) : SameOn R a w' :=
  fun b hb => (hg.block b (hR b hb).1 (hR b hb).2).trans (h b hb)

/-- One kid more. -/
theorem all_step {B : Nat → Prop} {w wr w1 w2 : World} {bo d m k : Nat} {ks : List Fm} {v v' part : Value} {o o' : Obj} {xs : List Value} (hB : ∀ b, B b → b < w.heap.size ∧ b ≠ bo) (hbo : bo < w.heap.size) (hlt : k < ks.length)
    (ok : oksB (ks.take k) d = true) (opened : Opened bo w wr ((m + Fm.szs (ks.take k) : Nat) : Int))
    (hown : wr.ownsRow w.heap.size 43 1 v k xs) (hvals : ∀ j (hj : j < ks.length), j < k → ∃ x, xs[j]? = some x ∧ InAt (Reg2 B w wr v) wr (toIm ks[j]) x)
    (hgood : goodB ks[k] d (m + Fm.szs (ks.take k)) = true) (h1 : Opened bo (wr.alloc o) w1 (((m + Fm.szs (ks.take k) : Nat) : Int) + ks[k].sz)) (hin : InAt (Reg B (wr.alloc o) w1) w1 (toIm ks[k]) part)
    (hown' : w2.ownsRow w.heap.size 43 1 v' (k + 1) (xs ++ [part])) (hg : (w1.alloc o').grownBy w2 v.ownBlock) (hb : v'.ownBlock = v.ownBlock ∨ v'.ownBlock = some (w1.alloc o').heap.size) :
    AllRel B w bo d m ks (k + 1) v' w2 := by
  have hgd := hgood
  unfold goodB at hgd
  rw [Bool.and_eq_true, decide_eq_true_eq] at hgd
  have hszs := Fm.szs_take ks k hlt
  have s0 := opened.1.size
  have s1 := h1.1.size
  have s2 := hg.size
  simp only [World.size_alloc] at s1 s2
  have hvb : ∀ b, v.ownBlock = some b → w.heap.size ≤ b ∧ b < wr.heap.size := fun b hb => ownsRow_block hown hb
  have hlen : xs.length = k := by have := hown.1; omega
  refine ⟨?_, by omega, ?_, xs ++ [part], hown', ?_⟩
  · rw [oksB_take ks k d hlt, ok, hgd.1]; rfl
  · refine ⟨⟨hg.os.trans (h1.1.os.trans opened.1.os), hg.tape.trans (h1.1.tape.trans opened.1.tape), hg.output.trans (h1.1.output.trans opened.1.output), by omega, fun b hb1 hb2 => ?_⟩, ?_⟩
    · rw [hg.block b (by simp only [World.size_alloc]; omega) (fun e => by have := hvb b e.symm; omega), Below.heap_alloc _ _ _ (by omega), h1.1.block b (by simp only [World.size_alloc]; omega) hb2, Below.heap_alloc _ _ _ (by omega)]
      exact opened.1.block b hb1 hb2
    · have e : ((m + Fm.szs (ks.take (k + 1)) : Nat) : Int) = ((m + Fm.szs (ks.take k) : Nat) : Int) + ks[k].sz := by omega
      rw [e]
      refine (hg.block bo (by simp only [World.size_alloc]; omega) (fun e => by have := hvb bo e.symm; omega)).trans ((Below.heap_alloc _ _ _ (by omega)).trans h1.2)
  · intro j hj hjk
    by_cases e : j = k
    · subst e
      refine ⟨part, by rw [List.getElem?_append_right (by omega), hlen, Nat.sub_self]; rfl, InAt.mono ?_ _ (InAt.keep ?_ _ hin)⟩
      · intro b h
        rcases h with h | h
        · exact Or.inl h
        · refine Or.inr ⟨by have := h.1; simp only [World.size_alloc] at this; omega, by have := h.2; omega, ?_⟩
          rcases hb with hb | hb
          · rw [hb]; intro e; have := hvb b e; have := h.1; simp only [World.size_alloc] at this; omega
          · rw [hb]; intro e; have e := Option.some.inj e; have := h.2; simp only [World.size_alloc] at e; omega
      · refine grown_on ((SameOn.refl _ _).alloc ?_ _) hg ?_
        · intro b h
          rcases h with h | h
          · have := (hB b h).1; omega
          · exact h.2
        · intro b h
          simp only [World.size_alloc]
          rcases h with h | h
          · refine ⟨by have := (hB b h).1; omega, fun e => ?_⟩
            have := hvb b e.symm; have := (hB b h).1; omega
          · refine ⟨by have := h.2; omega, fun e => ?_⟩
            have := hvb b e.symm; have := h.1; simp only [World.size_alloc] at this; omega
    · obtain ⟨x, hx, hix⟩ := hvals j hj (by omega)
      refine ⟨x, by rw [List.getElem?_append_left (by omega)]; exact hx, InAt.mono ?_ _ (InAt.keep ?_ _ hix)⟩
      · intro b h
        rcases h with h | ⟨a1, a2, a3⟩
        · exact Or.inl h
        · refine Or.inr ⟨a1, by omega, ?_⟩
          rcases hb with hb | hb
          · rw [hb]; exact a3
          · rw [hb]; intro e; have e := Option.some.inj e; simp only [World.size_alloc] at e; omega
      · refine grown_on ((grown_on ((SameOn.refl _ _).alloc ?_ _) h1.1 ?_).alloc ?_ _) hg ?_
        · intro b h
          rcases h with h | ⟨a1, a2, a3⟩
          · have := (hB b h).1; omega
          · exact a2
        · intro b h
          simp only [World.size_alloc]
          rcases h with h | ⟨a1, a2, a3⟩
          · exact ⟨by have := (hB b h).1; omega, fun e => (hB b h).2 (Option.some.inj e)⟩
          · exact ⟨by omega, fun e => by have := Option.some.inj e; omega⟩
        · intro b h
          rcases h with h | ⟨a1, a2, a3⟩
          · have := (hB b h).1; omega
          · omega
        · intro b h
          simp only [World.size_alloc]
          rcases h with h | ⟨a1, a2, a3⟩
          · refine ⟨by have := (hB b h).1; omega, fun e => ?_⟩
            have := hvb b e.symm; have := (hB b h).1; omega
          · exact ⟨by omega, fun e => a3 e.symm⟩

end Go.Proofs.YtjbejnibiebjgaaGreat

namespace Go.Proofs.YtjbejnibiebjgaaGreat
open Go.RowKit Go.Siskin

theorem goods_bad {ks : List Fm} {d m k : Nat} (hlt : k < ks.length) (h : goodB ks[k] d (m + Fm.szs (ks.take k)) = false) : false = goodsB ks d m := by
  unfold goodB at h
  unfold goodsB
  cases h1 : okB ks[k] d with
  | false => rw [oksB_bad ks k d hlt h1]; rfl
  | true =>
    rw [h1, Bool.true_and, decide_eq_false_iff_not] at h
    have h2 := Fm.szs_take ks k hlt
    have h3 := Fm.szs_take_le ks (k + 1)
    rw [decide_eq_false (p := m + Fm.szs ks ≤ 1500) (by omega)]; simp

theorem one_cell (w : World) (v : Value) (t : TypeId) : ∀ (j : Nat) u, [v][j]? = some u → (w.alloc (.cells #[v] t)).cell? ((⟨w.heap.size, 0, none⟩ : Addr).add j) = some u := by
  intro j u hj
  match j, hj with
  | 0, hj => simp at hj; subst hj; simp [Addr.add]

set_option maxRecDepth 20000 in
set_option maxHeartbeats 2000000 in
theorem openForms_of (n : Nat) (ih : OpenForm n) : OpenForms n := by
  intro ks hks B w v d m bo hv hB ho hm hd hc
  obtain ⟨a, ca, rfl, hla, ha⟩ := hv
  unfold maxLen at hla
  obtain ⟨i, hi, hz0, hz1, hz2⟩ := info_parts Tryz.infoIface
  have Hi := hid hi
  have Hz0 := hid hz0
  have Hz1 := hid hz1
  have Hz2 := hid hz2
  have HI := hid ih
  have HR := hid hB
  have HO := hid ho
  have hbo := ho.lt
  clear hi hz0 hz1 hz2 ih hB ho
  go_enter Tryz.func60, Tryz.ntmps60
  go_wp2_with fail
  go_loopw [8, 15] (fun v i wr => ∃ k : Nat, k ≤ ks.length ∧ i = .int .i64 k ∧ Hid (AllRel B w bo d m ks k v wr)) (fun _ i _ => ks.length - (intOf i).toNat)
  case atStart =>
    refine ⟨0, Nat.zero_le _, rfl, by simp [oksB], by simpa [Fm.szs] using hm, ⟨World.grownBy.refl _ _, by simpa [Fm.szs] using HO.out⟩, [], World.ownsRow_nil _ _ _ _, fun j _ hj => absurd hj (by omega)⟩
  case round =>
    obtain ⟨k, hk, rfl, HA⟩ := hrel
    by_cases hlt : k < ks.length
    · rcases ha with ha | ⟨ba, oa, rfl, hb, ha⟩
      · subst ha; simp at hlt
      have hsz := HA.out.opened.1.size
      have hsame : SameOn B w wr := grown_on (SameOn.refl _ _) HA.out.opened.1 (fun b hb => ⟨(HR.out b hb).1, fun e => (HR.out b hb).2 (Option.some.inj e)⟩)
      obtain ⟨c0, c1, c2, c3, c4, g0, g1, g2, g3, g4, hf⟩ := RowAt.get ks (RowAt.keep hsame hb ks ha) k hlt
      have HC := hid (HI.out ks[k] (Nat.le_trans (Fm.szs_get ks k hlt) hks) B (wr.alloc (.cells #[c0, c1, c2, c3, c4] 26)) c0 c1 c2 c3 c4 d (m + Fm.szs (ks.take k)) bo (FormAt.keep ((SameOn.refl _ _).alloc (fun b hb => by have := (HR.out b hb).1; omega) _) _ hf) (fun b hb => ⟨by have := (HR.out b hb).1; simp; omega, (HR.out b hb).2⟩) ((Below.heap_alloc _ _ _ (by have := HA.out.opened.1.size; omega)).trans HA.out.opened.2) HA.out.le hd (by have := Fm.costs_get ks k hlt; omega))
      obtain ⟨rfl, rfl, -, h2, rfl, h4⟩ := (formAt_iff _ _ _ _ _ _ _ _).1 hf
      obtain ⟨a2, k2, rfl, -⟩ := h2
      obtain ⟨a4, k4, rfl, -⟩ := h4
      clear ha hf HI hsame
      go_wp2_with fail
      refine HC.out.mono ?_
      rintro e w1 ⟨m', part, hop, rfl, hgo⟩
      have HOP := hid hop
      have HGO := hid hgo
      clear hop hgo HC
      cases hgd : goodB ks[k] d (m + Fm.szs (ks.take k)) with
      | false =>
        have HX := hid (goods_bad hlt hgd)
        go_wp2_with fail
        go_ret2
        have h1 := HOP.out
        have h0 := HA.out.opened
        refine ⟨m', none, 0, 0, ⟨⟨h1.1.os.trans h0.1.os, h1.1.tape.trans h0.1.tape, h1.1.output.trans h0.1.output, by have := h1.1.size; simp at this; omega, fun b hb1 hb2 => ?_⟩, h1.2⟩, ret_tup HX.out, fun h => absurd (HX.out.trans h) (by decide)⟩
        rw [h1.1.block b (by simp; omega) hb2, Below.heap_alloc _ _ _ (by omega)]
        exact h0.1.block b hb1 hb2
      | true =>
        obtain ⟨xs, hown, hvals⟩ := HA.out.vals
        have HGD := hid hgd
        obtain ⟨t, x, hpart⟩ := InAt.iface (HGO.out hgd).2
        subst hpart
        have HV := hid hvals
        have HW := hid hown
        have hs1 := HOP.out.1.size
        simp only [World.size_alloc] at hs1
        have hz1 : w.heap.size ≤ w1.heap.size := by omega
        clear hvals hown
        go_wp2_with (at_builtin; refine wpList_append_own_at _ rfl _ _ 91 rfl w.heap.size 43 i .nilIface 1 16 Tryz.underlying91 Hi.out Hz0.out Hz1.out Hz2.out rfl (by decide) _ k xs rfl (ownsRow_alloc (ownsRow_grown (ownsRow_alloc HW.out _) HOP.out.1 (fun b e => by have := Option.some.inj e; omega)) _) ⟨w1.heap.size, 0, none⟩ 1 1 [.iface t x] rfl rfl (one_cell _ _ _) (by intro u hu; simp at hu; subst hu; rfl) (by unfold maxLen; omega) (by omega) (by simp; omega) ?_; intro v' w2 hown' hg hnil hb')
        have h2 := HGO.out HGD.out
        have hop := HOP.out
        rw [h2.1] at hop
        exact ⟨⟨k + 1, by omega, by go_num, all_step HR.out hbo hlt HA.out.ok HA.out.opened HW.out HV.out HGD.out hop h2.2 hown' hg hb'⟩, by simp [intOf]; omega⟩
    · have e : k = ks.length := by omega
      obtain ⟨xs, hown, hvals⟩ := HA.out.vals
      have HOK := hid HA.out.ok
      have HLE := hid HA.out.le
      have HOP := hid HA.out.opened
      subst e
      have HV := hid hvals
      have HW := hid hown
      rw [List.take_length] at HOK HLE HOP
      have HX : Hid (true = goodsB ks d m) := by
        show _ = _
        unfold goodsB; rw [HOK.out, decide_eq_true HLE.out]; rfl
      rcases hown.2 with ⟨rfl, h0⟩ | ⟨g, cap, cur, rfl, e2, e3, e4, e5, e6, e7⟩
      · clear hvals hown
        go_wp2_with fail
        go_ret2
        refine ⟨_, none, 0, 0, HOP.out, ret_tup HX.out, fun _ => ⟨by omega, by omega, by omega, Or.inl (List.eq_nil_of_length_eq_zero h0)⟩⟩
      · have HE := hid e3
        have HE7 := hid e7
        have hlt2 := (Array.getElem?_eq_some_iff.1 e3).1
        clear hvals hown e3 e7
        go_wp2_with fail
        go_ret2
        refine ⟨_, _, _, _, HOP.out, ret_tup HX.out, fun _ => ⟨by omega, rfl, e4, Or.inr ⟨g, rfl, Or.inr ⟨e2, hlt2⟩, InRow.mk _ fun j hj => ?_⟩⟩⟩
        rw [toIms_length] at hj
        obtain ⟨x, hx, hin⟩ := HV.out j hj hj
        refine ⟨x, ?_, ?_⟩
        · rw [Nat.zero_add]
          simp only [World.cell?, HE.out]
          rw [← HE7.out] at hx
          rw [List.getElem?_take, if_pos (by omega)] at hx
          simpa using hx
        · rw [toIms_get ks j hj]
          refine InAt.mono ?_ _ hin
          intro b h
          rcases h with h | ⟨a1, a2, -⟩
          · exact Or.inl h
          · exact Or.inr ⟨a1, a2⟩

end Go.Proofs.YtjbejnibiebjgaaGreat

namespace Go.Proofs.YtjbejnibiebjgaaGreat
open Go.RowKit Go.Siskin

/-- A form inside the program, its identifiers' scopes changed. -/
def chI (g : List Int → List Int) : Im → Im
  | ⟨k, t, sc, fr, ps, es⟩ => ⟨k, t, if k = 1 then g sc else sc, fr, ps.map fun p => chI g p, es.map fun p => chI g p⟩
theorem chI_id (g : List Int → List Int) (t : ByteArray) (sc : List Int) (fr : Int) : chI g (.id t sc fr) = .id t (g sc) fr := by simp [Im.id, chI]
theorem chI_atom (g : List Int → List Int) (t : ByteArray) : chI g (.atom t) = .atom t := by simp [Im.atom, chI]
theorem chI_list (g : List Int → List Int) (ps : List Im) : chI g (.list ps) = .list (ps.map (chI g)) := by simp [Im.list, chI]
theorem chI_dots (g : List Int → List Int) (ps : List Im) (l : Im) : chI g (.dots ps l) = .dots (ps.map (chI g)) (chI g l) := by simp [Im.dots, chI]

/-- All scopes of a form inside the program are ascending, and not too many. -/
def upI : Im → Prop
  | ⟨_, _, sc, _, ps, es⟩ => Up sc ∧ sc.length ≤ 1048576 ∧ (∀ (i : Nat) (hi : i < ps.length), have := List.sizeOf_lt_of_mem (List.getElem_mem hi); upI ps[i]) ∧ (∀ (i : Nat) (hi : i < es.length), have := List.sizeOf_lt_of_mem (List.getElem_mem hi); upI es[i])
theorem upI_eq (p : Im) : upI p ↔ Up p.scopes ∧ p.scopes.length ≤ 1048576 ∧ (∀ (i : Nat) (hi : i < p.parts.length), upI p.parts[i]) ∧ (∀ (i : Nat) (hi : i < p.ends.length), upI p.ends[i]) := by
  obtain ⟨k, t, sc, fr, ps, es⟩ := p
  rw [upI]
theorem upI_list {ps : List Im} : upI (.list ps) ↔ ∀ (i : Nat) (hi : i < ps.length), upI ps[i] := by
  rw [upI_eq]
  simp [Im.list]
theorem upI_dots {ps : List Im} {l : Im} : upI (.dots ps l) ↔ (∀ (i : Nat) (hi : i < ps.length), upI ps[i]) ∧ upI l := by
  rw [upI_eq]
  constructor
  · rintro ⟨-, -, h1, h2⟩
    exact ⟨h1, h2 0 (by simp [Im.dots])⟩
  · rintro ⟨h1, h2⟩
    refine ⟨List.Pairwise.nil, Nat.zero_le _, h1, fun i hi => ?_⟩
    match i, hi with
    | 0, _ => exact h2

/-- A slice of forms inside the program that owns its row; what they lead to lies in S, and not in the row. -/
structure Ins (R S : Nat → Prop) (w : World) (base : Nat) (v : Value) (ps : List Im) : Prop where
  row : ∃ cs, w.ownsRow base 43 1 v ps.length cs ∧ ∀ (i : Nat) (hi : i < ps.length), ∃ x, cs[i]? = some x ∧ InAt S w ps[i] x
  off : ∀ g, v.ownBlock = some g → ¬ S g
  low : ∀ i, S i → (R i ∨ base ≤ i) ∧ i < w.heap.size
theorem ins_no {R : Nat → Prop} {w : World} {base : Nat} : Ins R (fun _ => False) w base (.slice none 0 0) [] :=
  ⟨⟨[], World.ownsRow_nil _ _ _ _, fun i hi => absurd hi (by simp)⟩, fun _ _ h => h, fun _ h => h.elim⟩
theorem Ins.keep {R S : Nat → Prop} {w w' : World} {base : Nat} {v : Value} {ps : List Im} (h : Ins R S w base v ps) (hb : Below w.heap.size w w') : Ins R S w' base v ps := by
  obtain ⟨⟨cs, r1, r2⟩, ho, hl⟩ := h
  refine ⟨⟨cs, r1.kept (row := none) ⟨hb.os, hb.tape, hb.output, hb.size, fun i hi _ => hb.block i hi⟩ (by cases v.ownBlock <;> simp), fun i hi => ?_⟩, ho, fun i hi => ⟨(hl i hi).1, Nat.lt_of_lt_of_le (hl i hi).2 hb.size⟩⟩
  obtain ⟨x, e1, e2⟩ := r2 i hi
  exact ⟨x, e1, InAt.keep (hb.on fun b hb => (hl b hb).2) _ e2⟩
theorem Ins.more {R S S' : Nat → Prop} {w : World} {base : Nat} {v : Value} {ps : List Im} (h : Ins R S w base v ps) (h1 : ∀ i, S i → S' i) (h2 : ∀ i, S' i → (R i ∨ base ≤ i) ∧ i < w.heap.size) (h3 : ∀ g, v.ownBlock = some g → ¬ S' g) : Ins R S' w base v ps := by
  obtain ⟨⟨cs, r1, r2⟩, -, -⟩ := h
  refine ⟨⟨cs, r1, fun i hi => ?_⟩, h3, h2⟩
  obtain ⟨x, e1, e2⟩ := r2 i hi
  exact ⟨x, e1, InAt.mono h1 _ e2⟩
theorem Ins.lt {R S : Nat → Prop} {w : World} {base : Nat} {v : Value} {ps : List Im} (h : Ins R S w base v ps) {g : Nat} (e : v.ownBlock = some g) : base ≤ g ∧ g < w.heap.size := by
  obtain ⟨⟨cs, r1, -⟩, -, -⟩ := h
  exact r1.lt g e
theorem Ins.snoc {R S : Nat → Prop} {w w' : World} {base : Nat} {v v' : Value} {ps : List Im} (h : Ins R S w base v ps) {cs : List Value} (r1 : w.ownsRow base 43 1 v ps.length cs) (r2 : ∀ (i : Nat) (hi : i < ps.length), ∃ x, cs[i]? = some x ∧ InAt S w ps[i] x) {p : Im} {x : Value} (hp : InAt S w p x)
    (hg : w.grownBy w' v.ownBlock) (hr : w'.ownsRow base 43 1 v' (ps.length + 1) (cs ++ [x])) (hloc : v'.ownBlock = v.ownBlock ∨ ∃ g, v'.ownBlock = some g ∧ w.heap.size ≤ g) : Ins R S w' base v' (ps ++ [p]) := by
  have hs : SameOn S w w' := fun i hi => hg.block i (h.low i hi).2 fun e => h.off i e.symm hi
  have hl := r1.1
  refine ⟨⟨_, by rw [List.length_append, List.length_singleton]; exact hr, fun i hi => ?_⟩, fun g e hS => ?_, fun i hi => ⟨(h.low i hi).1, Nat.lt_of_lt_of_le (h.low i hi).2 hg.size⟩⟩
  · rw [List.length_append, List.length_singleton] at hi
    by_cases e : i < ps.length
    · obtain ⟨y, e1, e2⟩ := r2 i e
      exact ⟨y, by rw [List.getElem?_append_left (by omega)]; exact e1, by rw [List.getElem_append_left e]; exact InAt.keep hs _ e2⟩
    · have : i = ps.length := by omega
      subst this
      exact ⟨x, by rw [List.getElem?_append_right (by omega), hl, Nat.mul_one, Nat.sub_self]; rfl, by simpa using InAt.keep hs _ hp⟩
  · rcases hloc with h1 | ⟨g', h1, h2⟩
    · exact h.off g (by rw [← h1]; exact e) hS
    · rw [h1] at e
      cases e
      have := (h.low _ hS).2
      omega
theorem Ins.shape {R S : Nat → Prop} {w : World} {base : Nat} {v : Value} {ps : List Im} (h : Ins R S w base v ps) : ∃ a c, v = .slice a ps.length c := by
  obtain ⟨⟨cs, r1, -⟩, -, -⟩ := h
  exact row_shape r1
/-- As parts in memory. -/
theorem Ins.parts {R S : Nat → Prop} {w : World} {base : Nat} {a : Option Addr} {n c : Nat} {ps : List Im} (h : Ins R S w base (.slice a n c) ps) {B : Nat → Prop} (hB : ∀ i, (R i ∨ base ≤ i) → i < w.heap.size → B i) : ps = [] ∨ ∃ b o, a = some ⟨b, o, none⟩ ∧ B b ∧ InRow B w b o ps := by
  obtain ⟨⟨cs, r1, r2⟩, -, hl⟩ := h
  have r1' := r1
  rcases r1.2 with ⟨e, h0⟩ | ⟨g, cap, cur, e, hb, hg, -, -, -, -⟩
  · exact Or.inl (List.length_eq_zero_iff.1 h0)
  · cases e
    refine Or.inr ⟨g, 0, rfl, hB g (Or.inr hb) (Array.getElem?_eq_some_iff.1 hg).1, InRow.mk _ fun i hi => ?_⟩
    obtain ⟨x, e1, e2⟩ := r2 i hi
    have q := r1'.cells (g := g) rfl _ _ e1
    rw [Go.WideShapes.add_plain] at q
    exact ⟨x, q, InAt.mono (fun i hi => hB i (hl i hi).1 (hl i hi).2) _ e2⟩

/- ### Which method is called -/
def chName : String := "loop.example/siskin/impl.changed"
theorem mch_id (x : Value) (w : World) : (method 240 62 x chName).run Tryz.prog w = .ok (104, x) w := by kernel_rfl
theorem mch_atom (x : Value) (w : World) : (method 240 90 x chName).run Tryz.prog w = .ok (116, x) w := by kernel_rfl
theorem mch_list (x : Value) (w : World) : (method 240 95 x chName).run Tryz.prog w = .ok (124, x) w := by kernel_rfl
theorem mch_dots (x : Value) (w : World) : (method 240 97 x chName).run Tryz.prog w = .ok (135, x) w := by kernel_rfl
def plName : String := "loop.example/siskin/impl.plain"
theorem mpl_id (x : Value) (w : World) : (method 240 62 x plName).run Tryz.prog w = .ok (109, x) w := by kernel_rfl
theorem mpl_atom (x : Value) (w : World) : (method 240 90 x plName).run Tryz.prog w = .ok (121, x) w := by kernel_rfl
theorem mpl_list (x : Value) (w : World) : (method 240 95 x plName).run Tryz.prog w = .ok (129, x) w := by kernel_rfl
theorem mpl_dots (x : Value) (w : World) : (method 240 97 x plName).run Tryz.prog w = .ok (140, x) w := by kernel_rfl

/-- The method that changes a value of a type. -/
def chFn (t : TypeId) : FuncId := if t = 62 then 104 else if t = 90 then 116 else if t = 95 then 124 else 135
theorem chFn_id : chFn 62 = 104 := rfl
theorem chFn_atom : chFn 90 = 116 := rfl
theorem chFn_list : chFn 95 = 124 := rfl
theorem chFn_dots : chFn 97 = 135 := rfl

theorem InAt.sorts {R : Nat → Prop} {w : World} {p : Im} {v : Value} (h : InAt R w p v) : (∃ x, v = .iface 62 x) ∨ (∃ x, v = .iface 90 x) ∨ (∃ x, v = .iface 95 x) ∨ (∃ x, v = .iface 97 x) := by
  rw [InAt_kinds] at h
  rcases h with ⟨t, sc, fr, rfl, c2, h1, h2, h3⟩ | ⟨t, rfl, h1, h2⟩ | ⟨ps, rfl, a, cap, h1, h2, h3⟩ | ⟨ps, l, rfl, a, cap, e, h1, h2, h3, h4⟩
  · exact Or.inl ⟨_, h1⟩
  · exact Or.inr (Or.inl ⟨_, h1⟩)
  · exact Or.inr (Or.inr (Or.inl ⟨_, h1⟩))
  · exact Or.inr (Or.inr (Or.inr ⟨_, h1⟩))

end Go.Proofs.YtjbejnibiebjgaaGreat

namespace Go.Proofs.YtjbejnibiebjgaaGreat
open Go.RowKit Go.Siskin

abbrev clo (fn hp : Nat) : Value := .func (.func fn) #[] #[.pointer (some ⟨hp, 0, none⟩)]
def ChIm (fn : Nat) (sc : Int) (g : List Int → List Int) (n : Nat) : Prop := ∀ p : Im, p.sz ≤ n → p.sz ≤ 1048576 → ∀ (R : Nat → Prop) (w : World) (t : TypeId) (x : Value) (hp : Nat), InAt R w p (.iface t x) → upI p → (∀ b, R b → b < w.heap.size) → Caps w sc hp →
  Calls Tryz.prog (chFn t) #[x, clo fn hp] w fun e w' => ∃ y, e = .returned y ∧ InAt (Reg R w w') w' (chI g p) y ∧ Below w.heap.size w w'
def ChIms (fn : Nat) (sc : Int) (g : List Int → List Int) (n : Nat) : Prop := ∀ ps : List Im, Im.szs ps ≤ n → ∀ (R : Nat → Prop) (w : World) (a : Option Addr) (cap hp : Nat), Im.szs ps ≤ 1048576 → (ps = [] ∨ ∃ b o, a = some ⟨b, o, none⟩ ∧ R b ∧ InRow R w b o ps) → (∀ (i : Nat) (hi : i < ps.length), upI ps[i]) → (∀ b, R b → b < w.heap.size) → Caps w sc hp →
  Calls Tryz.prog 132 #[.slice a ps.length cap, clo fn hp] w fun e w' => ∃ a' c', e = .returned (.slice a' ps.length c') ∧ (ps = [] ∨ ∃ b o, a' = some ⟨b, o, none⟩ ∧ Reg R w w' b ∧ InRow (Reg R w w') w' b o (ps.map (chI g))) ∧ Below w.heap.size w w'

theorem Im.szs_len : ∀ ps : List Im, ps.length ≤ Im.szs ps
  | [] => Nat.zero_le _
  | p :: r => by rw [Im.szs_cons, List.length_cons]; have := Im.szs_len r; have := Im.sz_pos p; omega
theorem reg_trans {R : Nat → Prop} {w w1 w2 : World} (h1 : w.heap.size ≤ w1.heap.size) {b : Nat} (h : Reg R w1 w2 b) : Reg R w w2 b := by
  rcases h with h | h
  · exact Or.inl h
  · exact Or.inr ⟨by omega, h.2⟩

set_option maxRecDepth 20000 in
set_option maxHeartbeats 2000000 in
theorem chIms_of {fn : Nat} {sc : Int} {g : List Int → List Int} (n : Nat) (ih : ChIm fn sc g n) : ChIms fn sc g n := by
  intro ps hps R w a cap hp hm ha hup hR hc
  have hpl := Im.szs_len ps
  have HI := hid ih
  have HR := hid hR
  have HU := hid hup
  have HC := hid hc
  have hh := hc.f.lt
  obtain ⟨i0, hi, hz0, hz1, hz2⟩ := info_parts Tryz.infoIface
  have Hi := hid hi
  have Hz0 := hid hz0
  have Hz1 := hid hz1
  have Hz2 := hid hz2
  clear hi hz0 hz1 hz2 ih hR hup hc
  go_enter Tryz.func132, Tryz.ntmps132
  go_wp2_with fail
  go_loopw [5, 10] (fun v i wr => ∃ k : Nat, k ≤ ps.length ∧ i = .int .i64 k ∧ Hid (∃ S, Ins R S wr w.heap.size v ((ps.take k).map (chI g))) ∧ Hid (Below w.heap.size w wr)) (fun _ i _ => ps.length - (intOf i).toNat)
  case atStart => exact ⟨0, Nat.zero_le _, rfl, ⟨_, ins_no⟩, Below.refl _ _⟩
  case round =>
    obtain ⟨k, hk, rfl, HK, HW⟩ := hrel
    obtain ⟨S, hK⟩ := HK.out
    have HK := hid hK
    clear hK
    have hsz := HW.out.size
    by_cases hlt : k < ps.length
    · rcases ha with ha | ⟨ba, oa, rfl, hb, ha⟩
      · subst ha; simp at hlt
      obtain ⟨v, hv, hin⟩ := InRow.get ps (InRow.keep (HW.out.on HR.out) hb ps ha) k hlt
      have hcont : ∀ (t : TypeId) (x : Value), v = .iface t x → Calls Tryz.prog (chFn t) #[x, clo fn hp] wr fun e w' => ∃ y, e = .returned y ∧ InAt (Reg R wr w') w' (chI g ps[k]) y ∧ Below wr.heap.size wr w' := by
        intro t x hv1
        subst hv1
        exact HI.out ps[k] (Nat.le_trans (Im.szs_get ps k hlt) hps) (Nat.le_trans (Im.szs_get ps k hlt) hm) R wr t x hp hin (HU.out k hlt) (fun b hb => by have := HR.out b hb; omega) (HC.out.below HW.out hh)
      have HCN := hid hcont
      have HN := hid (congrArg (List.map (chI g)) (List.take_succ_eq_append_getElem hlt))
      have hbb : ba < wr.heap.size := by have := HR.out ba hb; omega
      have m1 := mch_id
      have m2 := mch_atom
      have m3 := mch_list
      have m4 := mch_dots
      simp [chName] at m1 m2 m3 m4
      rcases InAt.sorts hin with ⟨x, rfl⟩ | ⟨x, rfl⟩ | ⟨x, rfl⟩ | ⟨x, rfl⟩
      all_goals
        clear ha hin hcont
        have hq := HCN.out _ x rfl
        simp only [chFn_id, chFn_atom, chFn_list, chFn_dots] at hq
        have HQ := hid hq
        clear hq
        go_wp2_with fail
        refine HQ.out.mono ?_
        rintro e w1 ⟨y, rfl, hy, hw1⟩
        obtain ⟨yt, yx, rfl⟩ := hy.iface
        have HY := hid (InAt.mono (R' := fun b => S b ∨ Reg R wr w1 b) (fun b hb => Or.inr hb) _ hy)
        have HB1 := hid hw1
        have hs1 := hw1.size
        have HK1 := hid ((HK.out.keep hw1).more (S' := fun b => S b ∨ Reg R wr w1 b) (fun i hi => Or.inl hi) (fun i hi => by
          rcases hi with hi | hi | hi
          · have := HK.out.low i hi; exact ⟨this.1, by omega⟩
          · exact ⟨Or.inl hi, by have := HR.out i hi; omega⟩
          · exact ⟨Or.inr (by omega), hi.2⟩) (fun g e hS => by
          rcases hS with hS | hS | hS
          · exact HK.out.off g e hS
          · have := (HK.out.lt e).1; have := HR.out g hS; omega
          · have := (HK.out.lt e).2; omega))
        obtain ⟨cs, r1, r2⟩ := HK1.out.row
        rw [List.length_map, List.length_take, Nat.min_eq_left hk] at r1
        have R1 := hid r1
        have R2 := hid r2
        clear hy hw1 r1 r2
        go_wp2_with (at_builtin; refine wpList_append_own_at _ rfl _ _ 91 rfl w.heap.size 43 i0 .nilIface 1 16 Tryz.underlying91 Hi.out Hz0.out Hz1.out Hz2.out rfl (by decide) _ k cs rfl (R1.out.alloc _) ⟨w1.heap.size, 0, none⟩ 1 1 [.iface yt yx] rfl rfl (one_cell _ _ _) (by intro u hu; simp at hu; subst hu; rfl) (by unfold maxLen; omega) (by omega) (by simp; omega) ?_; intro v' w2 hown' hg hnil hb')
        have hall := (World.grownBy_alloc w1 _ _).trans hg
        refine ⟨⟨k + 1, by omega, by go_num, ⟨fun b => S b ∨ Reg R wr w1 b, ?_⟩, ?_⟩, by simp [intOf]; omega⟩
        · rw [HN.out, List.map_append]
          refine HK1.out.snoc (by rw [List.length_map, List.length_take, Nat.min_eq_left hk]; exact R1.out) R2.out HY.out hall (by rw [List.length_map, List.length_take, Nat.min_eq_left hk]; exact hown') ?_
          rcases hb' with h | h
          · exact Or.inl h
          · exact Or.inr ⟨_, h, by simp⟩
        · refine (HW.out.trans (HB1.out.mono hsz)).trans ⟨hall.os, hall.tape, hall.output, hall.size, fun i hi => hall.block i (by omega) fun e => ?_⟩
          have := (R1.out.lt i e.symm).1
          omega
    · have hkk : k = ps.length := by omega
      rw [hkk, List.take_length] at HK
      obtain ⟨va, vc, rfl⟩ := HK.out.shape
      rw [List.length_map] at HK ⊢
      have HE := hid (HK.out.parts (B := Reg R w wr) fun i h1 h2 => by
        rcases h1 with h1 | h1
        · exact Or.inl h1
        · exact Or.inr ⟨h1, h2⟩)
      go_wp2_with fail
      go_ret
      refine ⟨_, _, rfl, ?_, HW.out⟩
      rcases HE.out with h | h
      · exact Or.inl (by simpa using h)
      · exact Or.inr h

end Go.Proofs.YtjbejnibiebjgaaGreat
