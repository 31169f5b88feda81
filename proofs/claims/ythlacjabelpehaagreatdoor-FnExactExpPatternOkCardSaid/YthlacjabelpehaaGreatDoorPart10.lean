/-
  The program's find, and placesOf: at each key the first place. Condition: the identifiers lie in memory.
  A form inside the program (values behind the interface 'form'), as it lies in memory; what an ok form comes to there.
  The program's isWord and isDots. Condition: the form lies in memory.
  The program's wordPattern and atomPattern. Condition: the identifier lies in memory, the literals' keys in a map.
  The program's ids of a pattern. Condition: its names lie in memory.
  The program's singlePart and repeatedPart. Condition: the pattern's names lie in memory.
-/
import Derived.Test.YthlacjabelpehaaGreatDoorPart5
import Derived.Test.YthlacjabelpehaaGreatDoorPart9
import Derived.Test.YthlacjabelpehaaGreatDoorProg
import Derived.Test.YthlacjabelpehaaGreatDoorPart1
import Derived.Laws.EntriesVeiled
import Derived.Deep.AppendLies
import Derived.Deep.RegionHeld3
namespace Go.Proofs.YthlacjabelpehaaGreatDoor
open Go.RowKit Go.Siskin

def keyF (f : Fm) : List UInt8 := keyL f.text f.scopes
/-- What is asked so that a key can be made. -/
structure GoodI (f : Fm) : Prop where
  text : f.text.size ≤ 1000
  many : f.scopes.length ≤ 1048576
  fits : ∀ s ∈ f.scopes, 0 ≤ s ∧ s ≤ 9223372036854775807
theorem GoodI.len {f : Fm} (h : GoodI f) : (keyF f).length ≤ 24000000 := by
  unfold keyF keyL
  have h1 := keyTail_length f.scopes h.fits
  have h2 := h.many
  have h3 := h.text
  have h4 : f.text.data.toList.length = f.text.size := by rw [Array.length_toList]; rfl
  rw [List.length_append]
  omega
theorem GoodI.size {f : Fm} (h : GoodI f) : (⟨(keyF f).toArray⟩ : ByteArray).size ≤ maxLen := by
  show (keyF f).toArray.size ≤ maxLen
  rw [List.size_toArray]
  have := h.len
  unfold maxLen
  omega

/-- Identifiers in a row, somewhere. -/
def IdsAt (B : Nat → Prop) (w : World) (v : Value) (ks : List Fm) : Prop :=
  ∃ a cap, v = .slice a ks.length cap ∧ ks.length ≤ cap ∧ (ks = [] ∨ ∃ g o, a = some ⟨g, o, none⟩ ∧ g < w.heap.size ∧ ∀ i (hi : i < ks.length), ∃ c2, w.cell? ⟨g, o + i * 3, none⟩ = some (.string ks[i].text) ∧ w.cell? ⟨g, o + i * 3 + 1, none⟩ = some c2 ∧ w.cell? ⟨g, o + i * 3 + 2, none⟩ = some (.int .i64 ks[i].frm) ∧ IntsAt B w c2 ks[i].scopes)
theorem IdsAt.keep {B : Nat → Prop} {w w' : World} {v : Value} {ks : List Fm} (h : IdsAt B w v ks) (hb : Below w.heap.size w w') (hB : ∀ b, B b → b < w.heap.size) : IdsAt B w' v ks := by
  obtain ⟨a, cap, e, hc, h⟩ := h
  refine ⟨a, cap, e, hc, ?_⟩
  rcases h with h | ⟨g, o, e1, e2, h⟩
  · exact Or.inl h
  · refine Or.inr ⟨g, o, e1, Nat.lt_of_lt_of_le e2 hb.size, fun i hi => ?_⟩
    obtain ⟨c2, h0, h1, h2, h3⟩ := h i hi
    refine ⟨c2, ?_, ?_, ?_, h3.keep (hb.on hB)⟩
    · rw [hb.cell (p := ⟨g, o + i * 3, none⟩) e2]; exact h0
    · rw [hb.cell (p := ⟨g, o + i * 3 + 1, none⟩) e2]; exact h1
    · rw [hb.cell (p := ⟨g, o + i * 3 + 2, none⟩) e2]; exact h2
theorem IRow.ids {B : Nat → Prop} {w : World} {base : Nat} {v : Value} {ks : List Fm} (h : IRow B w base v ks) : IdsAt B w v ks := by
  obtain ⟨cs, h1, h2⟩ := h
  have hl := h1.1
  rcases h1.2 with ⟨rfl, h0⟩ | ⟨g, cap, cur, rfl, hb, hg, hc, -⟩
  · have e : ks = [] := List.eq_nil_of_length_eq_zero h0
    subst e
    exact ⟨none, 0, rfl, Nat.le_refl _, Or.inl rfl⟩
  · refine ⟨_, cap, rfl, hc, Or.inr ⟨g, 0, rfl, (Array.getElem?_eq_some_iff.1 hg).1, fun i hi => ?_⟩⟩
    obtain ⟨c2, e0, e1, e2, e3⟩ := h2 i hi
    refine ⟨c2, ?_, ?_, ?_, e3⟩
    · rw [Nat.zero_add, h1.cellAt _ (by omega)]; exact e0
    · rw [Nat.zero_add, h1.cellAt _ (by omega)]; exact e1
    · rw [Nat.zero_add, h1.cellAt _ (by omega)]; exact e2

theorem keyF_any (f : Fm) (c2 : Value) (B : Nat → Prop) (w : World) (h2 : IntsAt B w c2 f.scopes) (hB : ∀ b, B b → b < w.heap.size) (hg : GoodI f) (hT : TabY w) :
    Calls Tryz.prog 41 #[.agg #[.string f.text, c2, .int .i64 f.frm]] w fun e w' => e = .returned (.string ⟨(keyF f).toArray⟩) ∧ Below w.heap.size w w' :=
  key_any f.text f.scopes f.frm c2 B w h2 hB hg.text hg.many hg.fits hT
abbrev PlY (w : World) (b : Nat) (K : List (List UInt8)) : Prop := PlacesAt Tryz.prog 9 w b K

set_option maxRecDepth 20000 in
set_option maxHeartbeats 1000000 in
theorem find_any (f : Fm) (c2 : Value) (B : Nat → Prop) (w : World) (b : Nat) (K : List (List UInt8)) (hP : PlY w b K) (h2 : IntsAt B w c2 f.scopes) (hB : ∀ b, B b → b < w.heap.size) (hg : GoodI f) (hT : TabY w) :
    Calls Tryz.prog 64 #[.map (some b), .agg #[.string f.text, c2, .int .i64 f.frm]] w fun e w' => e = .returned (.tuple #[.int .i64 (plc K (keyF f) : Nat), .bool (hasK K (keyF f))]) ∧ Below w.heap.size w w' := by
  have HP := hid hP
  have HS := hid hg.size
  have HK := hid (fun o : Obj => keyF_any f c2 B (w.alloc o) (h2.keep ((SameOn.refl _ _).alloc hB _)) (fun b hb => by have := hB b hb; simp; omega) hg (hT.below ((Below.refl _ _).alloc (Nat.le_refl _) _) rfl))
  obtain ⟨a, ca, rfl, -⟩ := h2
  clear hP hB hg hT
  go_enter Tryz.func64, Tryz.ntmps64
  go_wp2_with (go_at_call 41; refine (HK.out _).mono ?_; rintro e w1 ⟨rfl, hw⟩; have hB1 : Below w.heap.size w w1 := (((Below.refl _ _).alloc (Nat.le_refl _) _).trans (hw.mono (by simp))); have HB1 := hid hB1; have hL := (HP.out.below hB1).look Tryz.underlying9 Tryz.underlying62 (Tryz.zeroValue3 _) HS.out; clear hw hB1)
  go_ret2
  exact ⟨rfl, HB1.out⟩

set_option maxRecDepth 20000 in
set_option maxHeartbeats 1000000 in
theorem placesOf_any (ls : List Fm) (B : Nat → Prop) (w : World) (v : Value) (hv : IdsAt B w v ls) (hB : ∀ b, B b → b < w.heap.size) (hn : ls.length ≤ 1048576) (hg : ∀ f ∈ ls, GoodI f) (hT : TabY w) :
    Calls Tryz.prog 30 #[v] w fun e w' => ∃ b, e = .returned (.map (some b)) ∧ PlY w' b (ls.map keyF) ∧ Below w.heap.size w w' := by
  have HV := hid hv
  obtain ⟨a, ca, rfl, hca, ha⟩ := hv
  have HR := hid hB
  have HT := hid hT
  have HG := hid hg
  have HGet : Hid (∀ w', Below w.heap.size w w' → ∀ i (hi : i < ls.length), ∃ g o c2, a = some ⟨g, o, none⟩ ∧ w'.cell? ⟨g, o + i * 3, none⟩ = some (.string ls[i].text) ∧ w'.cell? ⟨g, o + i * 3 + 1, none⟩ = some c2 ∧ w'.cell? ⟨g, o + i * 3 + 2, none⟩ = some (.int .i64 ls[i].frm) ∧ IntsAt B w' c2 ls[i].scopes) := fun w' hb i hi => by
    obtain ⟨a', ca', e, -, h⟩ := HV.out.keep hb HR.out
    cases e
    rcases h with h | ⟨g, o, e1, -, h⟩
    · rw [h] at hi; simp at hi
    · obtain ⟨c2, h0, h1, h2, h3⟩ := h i hi
      exact ⟨g, o, c2, e1, h0, h1, h2, h3⟩
  clear hB ha hT hg
  go_enter Tryz.func30, Tryz.ntmps30
  have hmm := @run_makeMap Tryz.prog
  go_wp2_with fail
  clear hmm
  go_loopw [11] (fun i wr => ∃ k : Nat, k ≤ ls.length ∧ i = .int .i64 k ∧ Hid (PlY wr w.heap.size ((ls.take k).map keyF)) ∧ Hid (Below w.heap.size w wr) ∧ w.heap.size + 1 ≤ wr.heap.size) (fun i _ => ls.length - (intOf i).toNat)
  case atStart => exact ⟨0, Nat.zero_le _, rfl, placesAt_made w _ _, (Below.refl _ _).alloc (Nat.le_refl _) _, by simp⟩
  case round =>
    obtain ⟨k, hk, rfl, HQ, HB, hsz⟩ := hrel
    by_cases hlt : k < ls.length
    · obtain ⟨g', o', c2, hab, g0, g1, g2, h2⟩ := HGet.out _ HB.out k hlt
      subst hab
      have hgk := HG.out ls[k] (List.getElem_mem hlt)
      have HS := hid hgk.size
      have HBw : Hid (∀ b, B b → b < wr.heap.size) := fun b h => by have := HR.out b h; have := HB.out.size; omega
      have HK : Hid (∀ w', Below wr.heap.size wr w' → Calls Tryz.prog 41 #[.agg #[.string ls[k].text, c2, .int .i64 ls[k].frm]] w' fun e w'' => e = .returned (.string ⟨(keyF ls[k]).toArray⟩) ∧ Below w'.heap.size w' w'') := fun w' hb =>
        keyF_any ls[k] c2 B w' (h2.keep (hb.on HBw.out)) (fun b h => by have := HBw.out b h; have := hb.size; omega) hgk ((HT.out.below HB.out rfl).below hb rfl)
      have HM : Hid ((ls.take (k + 1)).map keyF = (ls.take k).map keyF ++ [keyF ls[k]]) := by
        show _ = _
        rw [List.take_succ_eq_append_getElem hlt, List.map_append]; rfl
      obtain ⟨a2, k2, rfl, -⟩ := h2
      have HL := hid (fun w' (hb : Below wr.heap.size wr w') => (HQ.out.below hb).look Tryz.underlying9 Tryz.underlying62 (Tryz.zeroValue3 _) HS.out)
      have HA := hid ((Below.refl wr.heap.size wr).alloc (Nat.le_refl _) (.cells #[.string ls[k].text, .slice a2 ls[k].scopes.length k2, .int .i64 ls[k].frm] 73))
      clear hgk
      cases hc : hasK ((ls.take k).map keyF) (keyF ls[k]) with
      | true =>
        rw [show (({ data := (keyF ls[k]).toArray } : ByteArray).data.toList) = keyF ls[k] by simp] at HL
        rw [hc] at HL
        have HC := hid hc
        clear hc
        go_wp2_with (go_at_call 41; refine (HK.out _ HA.out).mono ?_; rintro e w1 ⟨rfl, hw⟩; have HB1 := hid (HA.out.trans (hw.mono (by simp))); have hL := HL.out w1 HB1.out; clear hw)
        have hs1 := HB1.out.size
        refine ⟨⟨k + 1, by omega, by go_num, ?_, HB.out.trans (HB1.out.mono (by omega)), by omega⟩, by simp [intOf]; omega⟩
        rw [HM.out]
        exact (HQ.out.below HB1.out).again HC.out
      | false =>
        rw [show (({ data := (keyF ls[k]).toArray } : ByteArray).data.toList) = keyF ls[k] by simp] at HL
        rw [hc] at HL
        have HC := hid hc
        have HKL : Hid (((ls.take k).map keyF).length = k) := by show _ = _; rw [List.length_map, List.length_take]; omega
        have HO := hid (own_new wr #[.string ls[k].text, .slice a2 ls[k].scopes.length k2, .int .i64 ls[k].frm] 73)
        clear hc
        go_wp2_with (first
          | (go_at_call 41; refine (HK.out _ HA.out).mono ?_; rintro e w1 ⟨rfl, hw⟩; have hs0 := HA.out.size; have HO := hid (HO.out.keep hw (by first | omega | simp)); obtain ⟨m0, m1, m2⟩ := yown3 HO.out; have HA := hid (HA.out.trans (hw.mono hs0)); have hL := HL.out w1 HA.out; have hs1 := hw.size; first | rw [World.size_alloc] at hs1 | skip; clear hw hs0)
          | (at_mapUpdate; refine wpList_place _ rfl _ _ _ 62 rfl 9 3 Tryz.underlying9 Tryz.underlying62 w.heap.size ((ls.take k).map keyF) rfl (HQ.out.below HA.out) (by rw [HKL.out]; unfold maxLen; omega) ⟨(keyF ls[k]).toArray⟩ rfl (by rw [HKL.out]; rfl) HS.out HC.out ?_; intro w5 hp5 hg5))
        have hsA := HA.out.size
        have hs5 := hg5.size
        refine ⟨⟨k + 1, by omega, by go_num, ?_, (HB.out.trans (HA.out.mono (by omega))).grown hg5 (by omega) (fun i e => by cases e; exact Nat.le_refl _), by omega⟩, by simp [intOf]; omega⟩
        rw [HM.out]
        exact hp5
    · have hkk : k = ls.length := by omega
      subst hkk
      rw [List.take_length] at HQ
      go_wp2_with fail
      go_ret
      exact ⟨_, rfl, HQ.out, HB.out⟩
end Go.Proofs.YthlacjabelpehaaGreatDoor

namespace Go.Proofs.YthlacjabelpehaaGreatDoor
open Go.RowKit Go.Siskin

/-- A form inside the program: its kind (1 an identifier, 2 an atom, 3 a list, 4 a list with an end), and what it has. -/
structure Im where
  kind : Nat
  text : ByteArray
  scopes : List Int
  frm : Int
  parts : List Im
  ends : List Im

def Im.id (t : ByteArray) (sc : List Int) (fr : Int) : Im := ⟨1, t, sc, fr, [], []⟩
def Im.atom (t : ByteArray) : Im := ⟨2, t, [], 0, [], []⟩
def Im.list (ps : List Im) : Im := ⟨3, ⟨#[]⟩, [], 0, ps, []⟩
def Im.dots (ps : List Im) (l : Im) : Im := ⟨4, ⟨#[]⟩, [], 0, ps, [l]⟩
def Im.no : Im := Im.list []

def Im.sz : Im → Nat
  | ⟨_, _, _, _, ps, es⟩ => 1 + (ps.map fun p => p.sz).sum + (es.map fun p => p.sz).sum
def Im.szs (ps : List Im) : Nat := (ps.map Im.sz).sum
theorem Im.sz_eq (p : Im) : p.sz = 1 + Im.szs p.parts + Im.szs p.ends := by
  obtain ⟨k, t, sc, fr, ps, es⟩ := p
  rw [Im.sz]; rfl
theorem Im.szs_cons (p : Im) (r : List Im) : Im.szs (p :: r) = p.sz + Im.szs r := by simp [Im.szs]
theorem Im.szs_get : ∀ (ps : List Im) (i : Nat) (hi : i < ps.length), ps[i].sz ≤ Im.szs ps
  | [], _, hi => absurd hi (Nat.not_lt_zero _)
  | p :: r, 0, _ => by rw [Im.szs_cons]; simp
  | p :: r, i + 1, hi => by
    have := Im.szs_get r i (by simpa using hi)
    simp only [List.getElem_cons_succ, Im.szs_cons]; omega

def InAt (R : Nat → Prop) (w : World) : Im → Value → Prop
  | ⟨k, t, sc, fr, ps, es⟩, v =>
    (k = 1 ∧ ps = [] ∧ es = [] ∧ ∃ c2, v = .iface 73 (.agg #[.string t, c2, .int .i64 fr]) ∧ t.size ≤ maxLen ∧ IntsAt R w c2 sc) ∨
    (k = 2 ∧ sc = [] ∧ fr = 0 ∧ ps = [] ∧ es = [] ∧ v = .iface 85 (.agg #[.string t]) ∧ t.size ≤ maxLen) ∨
    (∃ a cap, (ps.length ≤ maxLen ∧ ps.length ≤ cap) ∧ t = ⟨#[]⟩ ∧ sc = [] ∧ fr = 0 ∧
      (ps = [] ∨ ∃ b o, a = some ⟨b, o, none⟩ ∧ R b ∧ ∀ (i : Nat) (hi : i < ps.length), ∃ x, w.cell? ⟨b, o + i, none⟩ = some x ∧ (have := List.sizeOf_lt_of_mem (List.getElem_mem hi); InAt R w ps[i] x)) ∧
      ((k = 3 ∧ es = [] ∧ v = .iface 102 (.agg #[.slice a ps.length cap])) ∨
       (k = 4 ∧ ∃ e, v = .iface 104 (.agg #[.slice a ps.length cap, e]) ∧ es.length = 1 ∧ ∀ (i : Nat) (hi : i < es.length), (have := List.sizeOf_lt_of_mem (List.getElem_mem hi); InAt R w es[i] e))))
def InRow (R : Nat → Prop) (w : World) (b o : Nat) (ps : List Im) : Prop := ∀ (i : Nat) (hi : i < ps.length), ∃ x, w.cell? ⟨b, o + i, none⟩ = some x ∧ InAt R w ps[i] x

/-- The four kinds, one by one. -/
theorem InAt_kinds (R : Nat → Prop) (w : World) (p : Im) (v : Value) : InAt R w p v ↔
    (∃ t sc fr, p = .id t sc fr ∧ ∃ c2, v = .iface 73 (.agg #[.string t, c2, .int .i64 fr]) ∧ t.size ≤ maxLen ∧ IntsAt R w c2 sc) ∨
    (∃ t, p = .atom t ∧ v = .iface 85 (.agg #[.string t]) ∧ t.size ≤ maxLen) ∨
    (∃ ps, p = .list ps ∧ ∃ a cap, v = .iface 102 (.agg #[.slice a ps.length cap]) ∧ (ps.length ≤ maxLen ∧ ps.length ≤ cap) ∧ (ps = [] ∨ ∃ b o, a = some ⟨b, o, none⟩ ∧ R b ∧ InRow R w b o ps)) ∨
    (∃ ps l, p = .dots ps l ∧ ∃ a cap e, v = .iface 104 (.agg #[.slice a ps.length cap, e]) ∧ (ps.length ≤ maxLen ∧ ps.length ≤ cap) ∧ (ps = [] ∨ ∃ b o, a = some ⟨b, o, none⟩ ∧ R b ∧ InRow R w b o ps) ∧ InAt R w l e) := by
  obtain ⟨k, t, sc, fr, ps, es⟩ := p
  rw [InAt]
  constructor
  · rintro (⟨rfl, rfl, rfl, h⟩ | ⟨rfl, rfl, rfl, rfl, rfl, h⟩ | ⟨a, cap, h1, rfl, rfl, rfl, h2, ⟨rfl, rfl, h3⟩ | ⟨rfl, e, h3, h4, h5⟩⟩)
    · exact Or.inl ⟨t, sc, fr, rfl, h⟩
    · exact Or.inr (Or.inl ⟨t, rfl, h⟩)
    · exact Or.inr (Or.inr (Or.inl ⟨ps, rfl, a, cap, h3, h1, h2⟩))
    · match es, h4, h5 with
      | [l], _, h5 => exact Or.inr (Or.inr (Or.inr ⟨ps, l, rfl, a, cap, e, h3, h1, h2, h5 0 (by simp)⟩))
  · rintro (⟨t', sc', fr', e, h⟩ | ⟨t', e, h⟩ | ⟨ps', e, a, cap, h1, h2, h3⟩ | ⟨ps', l, e, a, cap, e', h1, h2, h3, h4⟩)
    · simp only [Im.id, Im.mk.injEq] at e
      obtain ⟨rfl, rfl, rfl, rfl, rfl, rfl⟩ := e
      exact Or.inl ⟨rfl, rfl, rfl, h⟩
    · simp only [Im.atom, Im.mk.injEq] at e
      obtain ⟨rfl, rfl, rfl, rfl, rfl, rfl⟩ := e
      exact Or.inr (Or.inl ⟨rfl, rfl, rfl, rfl, rfl, h⟩)
    · simp only [Im.list, Im.mk.injEq] at e
      obtain ⟨rfl, rfl, rfl, rfl, rfl, rfl⟩ := e
      exact Or.inr (Or.inr ⟨a, cap, h2, rfl, rfl, rfl, h3, Or.inl ⟨rfl, rfl, h1⟩⟩)
    · simp only [Im.dots, Im.mk.injEq] at e
      obtain ⟨rfl, rfl, rfl, rfl, rfl, rfl⟩ := e
      refine Or.inr (Or.inr ⟨a, cap, h2, rfl, rfl, rfl, h3, Or.inr ⟨rfl, e', h1, rfl, fun i hi => ?_⟩⟩)
      match i, hi with
      | 0, _ => exact h4

theorem InAt_id {R : Nat → Prop} {w : World} {t : ByteArray} {sc : List Int} {fr : Int} {v : Value} : InAt R w (.id t sc fr) v ↔ ∃ c2, v = .iface 73 (.agg #[.string t, c2, .int .i64 fr]) ∧ t.size ≤ maxLen ∧ IntsAt R w c2 sc := by
  rw [InAt_kinds]
  constructor
  · rintro (⟨t', sc', fr', e, h⟩ | ⟨t', e, h⟩ | ⟨ps', e, h⟩ | ⟨ps', l, e, h⟩)
    · simp only [Im.id, Im.mk.injEq] at e
      obtain ⟨-, rfl, rfl, rfl, -, -⟩ := e
      exact h
    · simp [Im.id, Im.atom] at e
    · simp [Im.id, Im.list] at e
    · simp [Im.id, Im.dots] at e
  · intro h; exact Or.inl ⟨t, sc, fr, rfl, h⟩
theorem InAt_atom {R : Nat → Prop} {w : World} {t : ByteArray} {v : Value} : InAt R w (.atom t) v ↔ v = .iface 85 (.agg #[.string t]) ∧ t.size ≤ maxLen := by
  rw [InAt_kinds]
  constructor
  · rintro (⟨t', sc', fr', e, h⟩ | ⟨t', e, h⟩ | ⟨ps', e, h⟩ | ⟨ps', l, e, h⟩)
    · simp [Im.id, Im.atom] at e
    · simp only [Im.atom, Im.mk.injEq] at e
      obtain ⟨-, rfl, -⟩ := e
      exact h
    · simp [Im.atom, Im.list] at e
    · simp [Im.atom, Im.dots] at e
  · intro h; exact Or.inr (Or.inl ⟨t, rfl, h⟩)
theorem InAt_list {R : Nat → Prop} {w : World} {ps : List Im} {v : Value} : InAt R w (.list ps) v ↔ ∃ a cap, v = .iface 102 (.agg #[.slice a ps.length cap]) ∧ (ps.length ≤ maxLen ∧ ps.length ≤ cap) ∧ (ps = [] ∨ ∃ b o, a = some ⟨b, o, none⟩ ∧ R b ∧ InRow R w b o ps) := by
  rw [InAt_kinds]
  constructor
  · rintro (⟨t', sc', fr', e, h⟩ | ⟨t', e, h⟩ | ⟨ps', e, h⟩ | ⟨ps', l, e, h⟩)
    · simp [Im.id, Im.list] at e
    · simp [Im.atom, Im.list] at e
    · simp only [Im.list, Im.mk.injEq] at e
      obtain ⟨-, -, -, -, rfl, -⟩ := e
      exact h
    · simp [Im.list, Im.dots] at e
  · intro h; exact Or.inr (Or.inr (Or.inl ⟨ps, rfl, h⟩))
theorem InAt_dots {R : Nat → Prop} {w : World} {ps : List Im} {l : Im} {v : Value} : InAt R w (.dots ps l) v ↔ ∃ a cap e, v = .iface 104 (.agg #[.slice a ps.length cap, e]) ∧ (ps.length ≤ maxLen ∧ ps.length ≤ cap) ∧ (ps = [] ∨ ∃ b o, a = some ⟨b, o, none⟩ ∧ R b ∧ InRow R w b o ps) ∧ InAt R w l e := by
  rw [InAt_kinds]
  constructor
  · rintro (⟨t', sc', fr', e, h⟩ | ⟨t', e, h⟩ | ⟨ps', e, h⟩ | ⟨ps', l', e, h⟩)
    · simp [Im.id, Im.dots] at e
    · simp [Im.atom, Im.dots] at e
    · simp [Im.list, Im.dots] at e
    · simp only [Im.dots, Im.mk.injEq, List.cons.injEq, and_true] at e
      obtain ⟨-, -, -, -, rfl, rfl⟩ := e
      exact h
  · intro h; exact Or.inr (Or.inr (Or.inr ⟨ps, l, rfl, h⟩))

theorem Im.sz_list (ps : List Im) : (Im.list ps).sz = 1 + Im.szs ps := by rw [Im.sz_eq]; simp [Im.list, Im.szs]
theorem Im.sz_dots (ps : List Im) (l : Im) : (Im.dots ps l).sz = 1 + Im.szs ps + l.sz := by rw [Im.sz_eq]; simp [Im.dots, Im.szs]
theorem Im.sz_pos (p : Im) : 0 < p.sz := by have := Im.sz_eq p; omega

theorem in_keep {R : Nat → Prop} {w w' : World} (hb : SameOn R w w') : ∀ (n : Nat) (p : Im), p.sz ≤ n → ∀ {v : Value}, InAt R w p v → InAt R w' p v
  | 0, p, hn, _, _ => by have := Im.sz_pos p; omega
  | n + 1, p, hn, v, h => by
    have row : ∀ (ps : List Im) (b o : Nat), Im.szs ps ≤ n → R b → InRow R w b o ps → InRow R w' b o ps := fun ps b o hs hB h i hi => by
      obtain ⟨x, h1, h2⟩ := h i hi
      exact ⟨x, (hb.cell hB _).trans h1, in_keep hb n _ (by have := Im.szs_get ps i hi; omega) h2⟩
    rw [InAt_kinds] at h ⊢
    rcases h with ⟨t, sc, fr, rfl, c2, h1, h2, h3⟩ | h | ⟨ps, rfl, a, cap, h1, h2, h3⟩ | ⟨ps, l, rfl, a, cap, e, h1, h2, h3, h4⟩
    · exact Or.inl ⟨t, sc, fr, rfl, c2, h1, h2, h3.keep hb⟩
    · exact Or.inr (Or.inl h)
    · refine Or.inr (Or.inr (Or.inl ⟨ps, rfl, a, cap, h1, h2, ?_⟩))
      rw [Im.sz_list] at hn
      rcases h3 with h3 | ⟨b, o, h3, h4, h5⟩
      · exact Or.inl h3
      · exact Or.inr ⟨b, o, h3, h4, row ps b o (by omega) h4 h5⟩
    · rw [Im.sz_dots] at hn
      refine Or.inr (Or.inr (Or.inr ⟨ps, l, rfl, a, cap, e, h1, h2, ?_, in_keep hb n l (by omega) h4⟩))
      rcases h3 with h3 | ⟨b, o, h3, h4, h5⟩
      · exact Or.inl h3
      · exact Or.inr ⟨b, o, h3, h4, row ps b o (by omega) h4 h5⟩
theorem in_mono {R R' : Nat → Prop} {w : World} (hb : ∀ b, R b → R' b) : ∀ (n : Nat) (p : Im), p.sz ≤ n → ∀ {v : Value}, InAt R w p v → InAt R' w p v
  | 0, p, hn, _, _ => by have := Im.sz_pos p; omega
  | n + 1, p, hn, v, h => by
    have row : ∀ (ps : List Im) (b o : Nat), Im.szs ps ≤ n → InRow R w b o ps → InRow R' w b o ps := fun ps b o hs h i hi => by
      obtain ⟨x, h1, h2⟩ := h i hi
      exact ⟨x, h1, in_mono hb n _ (by have := Im.szs_get ps i hi; omega) h2⟩
    rw [InAt_kinds] at h ⊢
    rcases h with ⟨t, sc, fr, rfl, c2, h1, h2, h3⟩ | h | ⟨ps, rfl, a, cap, h1, h2, h3⟩ | ⟨ps, l, rfl, a, cap, e, h1, h2, h3, h4⟩
    · exact Or.inl ⟨t, sc, fr, rfl, c2, h1, h2, h3.mono hb⟩
    · exact Or.inr (Or.inl h)
    · refine Or.inr (Or.inr (Or.inl ⟨ps, rfl, a, cap, h1, h2, ?_⟩))
      rw [Im.sz_list] at hn
      rcases h3 with h3 | ⟨b, o, h3, h4, h5⟩
      · exact Or.inl h3
      · exact Or.inr ⟨b, o, h3, hb b h4, row ps b o (by omega) h5⟩
    · rw [Im.sz_dots] at hn
      refine Or.inr (Or.inr (Or.inr ⟨ps, l, rfl, a, cap, e, h1, h2, ?_, in_mono hb n l (by omega) h4⟩))
      rcases h3 with h3 | ⟨b, o, h3, h4, h5⟩
      · exact Or.inl h3
      · exact Or.inr ⟨b, o, h3, hb b h4, row ps b o (by omega) h5⟩

theorem InAt.keep {R : Nat → Prop} {w w' : World} (hb : SameOn R w w') (p : Im) {v : Value} (h : InAt R w p v) : InAt R w' p v := in_keep hb p.sz p (Nat.le_refl _) h
theorem InAt.mono {R R' : Nat → Prop} {w : World} (hb : ∀ b, R b → R' b) (p : Im) {v : Value} (h : InAt R w p v) : InAt R' w p v := in_mono hb p.sz p (Nat.le_refl _) h
theorem InRow.keep {R : Nat → Prop} {w w' : World} (hb : SameOn R w w') {b : Nat} (hB : R b) (ps : List Im) {o : Nat} (h : InRow R w b o ps) : InRow R w' b o ps := fun i hi => by
  obtain ⟨x, h1, h2⟩ := h i hi
  exact ⟨x, (hb.cell hB _).trans h1, InAt.keep hb _ h2⟩
theorem InRow.mono {R R' : Nat → Prop} {w : World} (hb : ∀ b, R b → R' b) {b : Nat} (ps : List Im) {o : Nat} (h : InRow R w b o ps) : InRow R' w b o ps := fun i hi => by
  obtain ⟨x, h1, h2⟩ := h i hi
  exact ⟨x, h1, InAt.mono hb _ h2⟩
theorem InRow.get {R : Nat → Prop} {w : World} {b : Nat} (ps : List Im) {o : Nat} (h : InRow R w b o ps) (i : Nat) (hi : i < ps.length) : ∃ v, w.cell? ⟨b, o + i, none⟩ = some v ∧ InAt R w ps[i] v := h i hi
theorem InRow.mk {R : Nat → Prop} {w : World} {b : Nat} (ps : List Im) {o : Nat} (h : ∀ (i : Nat) (hi : i < ps.length), ∃ v, w.cell? ⟨b, o + i, none⟩ = some v ∧ InAt R w ps[i] v) : InRow R w b o ps := h
/-- A value behind the interface is one cell. -/
theorem InAt.iface {R : Nat → Prop} {w : World} {p : Im} {v : Value} (h : InAt R w p v) : ∃ t x, v = .iface t x := by
  rw [InAt_kinds] at h
  rcases h with ⟨t, sc, fr, rfl, c2, h1, h2, h3⟩ | ⟨t, rfl, h1, h2⟩ | ⟨ps, rfl, a, cap, h1, h2, h3⟩ | ⟨ps, l, rfl, a, cap, e, h1, h2, h3, h4⟩ <;> exact ⟨_, _, h1⟩

/-- What an ok form comes to inside the program. -/
def toIm : Fm → Im
  | ⟨s, t, sc, fr, ks⟩ => if s = 1 then .id t sc fr else if s = 2 then .atom t else if s = 3 then .list (ks.map fun k => toIm k) else .dots (ks.map fun k => toIm k).dropLast ((ks.map fun k => toIm k).getD ((ks.map fun k => toIm k).length - 1) Im.no)
def toIms (ks : List Fm) : List Im := ks.map toIm

theorem toIms_length (ks : List Fm) : (toIms ks).length = ks.length := by simp [toIms]
theorem toIms_get (ks : List Fm) (i : Nat) (hi : i < ks.length) : (toIms ks)[i]'(by rw [toIms_length]; exact hi) = toIm ks[i] := by simp [toIms]
theorem toIm_id (f : Fm) (h : f.sort = 1) : toIm f = .id f.text f.scopes f.frm := by obtain ⟨s, t, sc, fr, ks⟩ := f; rw [toIm, if_pos h]
theorem toIm_atom (f : Fm) (h : f.sort = 2) : toIm f = .atom f.text := by
  obtain ⟨s, t, sc, fr, ks⟩ := f
  have h1 : s = 2 := h
  rw [toIm, if_neg (by omega), if_pos h]
theorem toIm_list (f : Fm) (h : f.sort = 3) : toIm f = .list (toIms f.kids) := by
  obtain ⟨s, t, sc, fr, ks⟩ := f
  have h1 : s = 3 := h
  rw [toIm, if_neg (by omega), if_neg (by omega), if_pos h]; rfl
theorem toIm_dots (f : Fm) (h : f.sort = 4) : toIm f = .dots (toIms f.kids).dropLast ((toIms f.kids).getD ((toIms f.kids).length - 1) Im.no) := by
  obtain ⟨s, t, sc, fr, ks⟩ := f
  have h1 : s = 4 := h
  rw [toIm, if_neg (by omega), if_neg (by omega), if_neg (by omega)]; rfl

end Go.Proofs.YthlacjabelpehaaGreatDoor

namespace Go.Proofs.YthlacjabelpehaaGreatDoor
open Go.RowKit Go.Siskin

/-- An identifier of that text. -/
def wordI : Im → List UInt8 → Bool
  | ⟨k, t, _, _, _, _⟩, x => (k == 1) && (t.toList == x)
theorem wordI_id (t : ByteArray) (sc : List Int) (fr : Int) (x : List UInt8) : wordI (.id t sc fr) x = (t.toList == x) := by simp [wordI, Im.id]
theorem wordI_atom (t : ByteArray) (x : List UInt8) : wordI (.atom t) x = false := by simp [wordI, Im.atom]
theorem wordI_list (ps : List Im) (x : List UInt8) : wordI (.list ps) x = false := by simp [wordI, Im.list]
theorem wordI_dots (ps : List Im) (l : Im) (x : List UInt8) : wordI (.dots ps l) x = false := by simp [wordI, Im.dots]

@[go_sem] theorem asY_id (v : Value) (w : World) : (Instr.typeAssert (.iface 73 v) 54 73 true).run Tryz.prog w = .ok (.tuple #[v, .bool true]) w := by kernel_rfl
@[go_sem] theorem asY_atom (v : Value) (w : World) : (Instr.typeAssert (.iface 85 v) 54 73 true).run Tryz.prog w = .ok (.tuple #[.agg #[.string ⟨#[]⟩, .slice none 0 0, .int .i64 0], .bool false]) w := by kernel_rfl
@[go_sem] theorem asY_list (v : Value) (w : World) : (Instr.typeAssert (.iface 102 v) 54 73 true).run Tryz.prog w = .ok (.tuple #[.agg #[.string ⟨#[]⟩, .slice none 0 0, .int .i64 0], .bool false]) w := by kernel_rfl
@[go_sem] theorem asY_dots (v : Value) (w : World) : (Instr.typeAssert (.iface 104 v) 54 73 true).run Tryz.prog w = .ok (.tuple #[.agg #[.string ⟨#[]⟩, .slice none 0 0, .int .i64 0], .bool false]) w := by kernel_rfl

set_option maxRecDepth 20000 in
set_option maxHeartbeats 1000000 in
theorem isWord_any (p : Im) (x : ByteArray) (R : Nat → Prop) (w : World) (v : Value) (hA : InAt R w p v) :
    Calls Tryz.prog 67 #[v, .string x] w fun e w' => e = .returned (.bool (wordI p x.toList)) ∧ Below w.heap.size w w' := by
  rcases (InAt_kinds _ _ _ _).1 hA with ⟨t, sc, fr, rfl, c2, rfl, ht, h2⟩ | ⟨t, rfl, rfl, ht⟩ | ⟨ps, rfl, a, cap, rfl, -⟩ | ⟨ps, l, rfl, a, cap, e, rfl, -, -, he⟩
  · obtain ⟨a2, k2, rfl, -⟩ := h2
    rw [wordI_id]
    clear hA
    cases h : (t.toList == x.toList)
    all_goals
      go_enter Tryz.func67, Tryz.ntmps67
      go_wp2_with fail
      go_ret
      exact ⟨rfl, (Below.refl _ _).alloc (Nat.le_refl _) _⟩
  · rw [wordI_atom]
    clear hA
    go_enter Tryz.func67, Tryz.ntmps67
    go_wp2_with fail
    go_ret
    exact ⟨rfl, (Below.refl _ _).alloc (Nat.le_refl _) _⟩
  · rw [wordI_list]
    clear hA
    go_enter Tryz.func67, Tryz.ntmps67
    go_wp2_with fail
    go_ret
    exact ⟨rfl, (Below.refl _ _).alloc (Nat.le_refl _) _⟩
  · rw [wordI_dots]
    clear hA he
    go_enter Tryz.func67, Tryz.ntmps67
    go_wp2_with fail
    go_ret
    exact ⟨rfl, (Below.refl _ _).alloc (Nat.le_refl _) _⟩

set_option maxRecDepth 20000 in
set_option maxHeartbeats 1000000 in
theorem isDots_any (p : Im) (R : Nat → Prop) (w : World) (v : Value) (hA : InAt R w p v) :
    Calls Tryz.prog 50 #[v] w fun e w' => e = .returned (.bool (wordI p [46, 46, 46])) ∧ Below w.heap.size w w' := by
  have HC := hid (isWord_any p ⟨#[46, 46, 46]⟩ R w v hA)
  have e : (⟨#[46, 46, 46]⟩ : ByteArray).toList = [46, 46, 46] := by kernel_rfl
  rw [e] at HC
  obtain ⟨yt, yx, rfl⟩ := hA.iface
  clear hA e
  go_enter Tryz.func50, Tryz.ntmps50
  go_wp2_with fail
  refine HC.out.mono ?_
  rintro e w1 ⟨rfl, hw⟩
  have HW := hid hw
  clear hw
  go_wp2_with fail
  go_ret
  exact ⟨rfl, HW.out⟩
end Go.Proofs.YthlacjabelpehaaGreatDoor

namespace Go.Proofs.YthlacjabelpehaaGreatDoor
open Go.RowKit Go.Siskin

/-- Names of a pattern, four cells each, in a block of G; their scopes in B. -/
def PnY (B G : Nat → Prop) (w : World) (v : Value) (ns : List Fm) : Prop :=
  ∃ a cap, v = .slice a ns.length cap ∧ ns.length ≤ cap ∧ ((ns = [] ∧ a = none ∧ cap = 0) ∨ ∃ g o, a = some ⟨g, o, none⟩ ∧ G g ∧ ∀ i (hi : i < ns.length), ∃ c2 d, w.cell? ⟨g, o + i * 4, none⟩ = some (.string ns[i].text) ∧ w.cell? ⟨g, o + i * 4 + 1, none⟩ = some c2 ∧ w.cell? ⟨g, o + i * 4 + 2, none⟩ = some (.int .i64 ns[i].frm) ∧ w.cell? ⟨g, o + i * 4 + 3, none⟩ = some (.int .i64 d) ∧ IntsAt B w c2 ns[i].scopes)
theorem PnY.keep {B G : Nat → Prop} {w w' : World} {v : Value} {ns : List Fm} (h : PnY B G w v ns) (hG : SameOn G w w') (hB : SameOn B w w') : PnY B G w' v ns := by
  obtain ⟨a, cap, e, hc, h⟩ := h
  refine ⟨a, cap, e, hc, ?_⟩
  rcases h with h | ⟨g, o, e1, e2, h⟩
  · exact Or.inl h
  · refine Or.inr ⟨g, o, e1, e2, fun i hi => ?_⟩
    obtain ⟨c2, d, h0, h1, h2, h3, h4⟩ := h i hi
    refine ⟨c2, d, ?_, ?_, ?_, ?_, h4.keep hB⟩
    · rw [hG.cell e2]; exact h0
    · rw [hG.cell e2]; exact h1
    · rw [hG.cell e2]; exact h2
    · rw [hG.cell e2]; exact h3
theorem PnY.mono {B G G' : Nat → Prop} {w : World} {v : Value} {ns : List Fm} (h : PnY B G w v ns) (hG : ∀ g, G g → G' g) : PnY B G' w v ns := by
  obtain ⟨a, cap, e, hc, h⟩ := h
  refine ⟨a, cap, e, hc, ?_⟩
  rcases h with h | ⟨g, o, e1, e2, h⟩
  · exact Or.inl h
  · exact Or.inr ⟨g, o, e1, hG g e2, h⟩
theorem pnY_none (B G : Nat → Prop) (w : World) : PnY B G w (.slice none 0 0) [] := ⟨_, _, rfl, Nat.le_refl _, Or.inl ⟨rfl, rfl, rfl⟩⟩

theorem yown2 {w : World} {g : Nat} {e : TypeId} {c0 c1 : Value} (h : Own w g e #[c0, c1]) :
    w.cell? ⟨g, 0, none⟩ = some c0 ∧ w.cell? ⟨g, 1, none⟩ = some c1 ∧ w.frozen? ⟨g, 0, none⟩ = false ∧ w.frozen? ⟨g, 1, none⟩ = false :=
  ⟨(h.cell 0).trans (by simp), (h.cell 1).trans (by simp), h.frozen 0, h.frozen 1⟩
theorem ownAlloc {w : World} {g : Nat} {e : TypeId} {cs : Array Value} (h : Own w g e cs) (o : Obj) : Own (w.alloc o) g e cs := h.keep ((Below.refl _ _).alloc (Nat.le_refl _) o) h.lt
theorem ownSet {w : World} {g : Nat} {e : TypeId} {cs : Array Value} (h : Own w g e cs) {p : Addr} (hp : g ≠ p.block) (u : Value) : Own (w.setCell p u) g e cs := (Below.heap_setCell _ _ _ _ hp).trans h
theorem yown4 {w : World} {g : Nat} {e : TypeId} {c0 c1 c2 c3 : Value} (h : Own w g e #[c0, c1, c2, c3]) :
    w.cell? ⟨g, 0, none⟩ = some c0 ∧ w.cell? ⟨g, 1, none⟩ = some c1 ∧ w.cell? ⟨g, 2, none⟩ = some c2 ∧ w.cell? ⟨g, 3, none⟩ = some c3 :=
  ⟨(h.cell 0).trans (by simp), (h.cell 1).trans (by simp), (h.cell 2).trans (by simp), (h.cell 3).trans (by simp)⟩

/-- The names of a word. -/
def wnF (K : List (List UInt8)) (f : Fm) : List Fm := if (f.text.toList == [95]) = true then [] else if hasK K (keyF f) = true then [] else [f]

set_option maxRecDepth 20000 in
set_option maxHeartbeats 1000000 in
theorem wordPattern_any (f : Fm) (c2 : Value) (B : Nat → Prop) (w : World) (b : Nat) (K : List (List UInt8)) (hP : PlY w b K) (h2 : IntsAt B w c2 f.scopes) (hB : ∀ b, B b → b < w.heap.size) (hg : GoodI f) (hT : TabY w) :
    Calls Tryz.prog 49 #[.agg #[.string f.text, c2, .int .i64 f.frm], .map (some b)] w fun e w' => ∃ v fn p q, e = .returned (.agg #[v, .func fn p q]) ∧ PnY B (Fresh w w') w' v (wnF K f) ∧ Below w.heap.size w w' := by
  have H2 := hid h2
  have HR := hid hB
  have HF := hid (fun w' (hb : Below w.heap.size w w') => find_any f c2 B w' b K (hP.below hb) (h2.keep (hb.on hB)) (fun b h => by have := hB b h; have := hb.size; omega) hg (hT.below hb rfl))
  have hmf : ∀ (fn : Fn) (first cap : Array Value) (w : World), (Instr.makeFunc fn first cap).run Tryz.prog w = .ok (.func fn first cap) w := fun _ _ _ _ => rfl
  unfold wnF
  obtain ⟨a2, k2, rfl, -⟩ := h2
  clear hP hB hg hT
  cases hb : (f.text.toList == [95]) with
  | true =>
    go_enter Tryz.func49, Tryz.ntmps49
    go_wp2_with fail
    refine bodyPost_ret (v := .agg #[.slice none 0 0, .func (.func 63) #[] #[]]) (by simp [results, Tryz.results49, go_sem]) rfl ?_
    refine ⟨_, ⟨_, _, _, rfl⟩, pnY_none _ _ _, ?_⟩
    exact ((Below.refl _ _).alloc (Nat.le_refl _) _).alloc (by simp) _
  | false =>
    have HO0 := hid ((own_new w #[.string f.text, .slice a2 f.scopes.length k2, .int .i64 f.frm] 73).keep ((Below.refl _ _).alloc (Nat.le_refl _) (.cells #[.slice none 0 0, .nilFunc] 47)) (by simp))
    have HO1 := hid (own_new (w.alloc (.cells #[.string f.text, .slice a2 f.scopes.length k2, .int .i64 f.frm] 73)) #[.slice none 0 0, .nilFunc] 47)
    rw [World.size_alloc] at HO1
    have HA := hid (((Below.refl w.heap.size w).alloc (Nat.le_refl _) (.cells #[.string f.text, .slice a2 f.scopes.length k2, .int .i64 f.frm] 73)).alloc (by simp) (.cells #[.slice none 0 0, .nilFunc] 47))
    cases hk : hasK K (keyF f) with
    | true =>
      rw [hk] at HF
      go_enter Tryz.func49, Tryz.ntmps49
      go_wp2_with (go_at_call 64; refine (HF.out _ HA.out).mono ?_; rintro e w1 ⟨rfl, hw⟩; have HW := hid hw; obtain ⟨m0, m1, m2, m3⟩ := yown2 (HO1.out.keep hw (by simp)); have hs1 := hw.size; simp only [World.size_alloc] at hs1; clear hw)
      refine bodyPost_ret (v := .agg #[.slice none 0 0, .func (.func 65) #[] #[.pointer (some ⟨w.heap.size, 0, none⟩)]]) (by simp [results, Tryz.results49, go_sem, m0, m1]) rfl ?_
      refine ⟨_, ⟨_, _, _, rfl⟩, pnY_none _ _ _, ?_⟩
      exact ((HA.out.trans (HW.out.mono (by simp; omega))).setCell (p := ⟨w.heap.size + 1, 0, none⟩) (by simp) _).setCell (p := ⟨w.heap.size + 1, 1, none⟩) (by simp) _
    | false =>
      rw [hk] at HF
      go_enter Tryz.func49, Tryz.ntmps49
      go_wp2_with (go_at_call 64; (refine (HF.out _ HA.out).mono ?_; rintro e w1 ⟨rfl, hw⟩; have HW := hid hw; obtain ⟨m0, m1, m2, m3⟩ := yown2 (HO1.out.keep hw (by simp)); obtain ⟨n0, n1, n2⟩ := yown3 (HO0.out.keep hw (by simp; omega)); have ma := fun o : Obj => yown2 (ownAlloc (HO1.out.keep hw (by simp)) o); obtain ⟨ma0, ma1, ma2, ma3⟩ : (∀ o, (w1.alloc o).cell? ⟨w.heap.size + 1, 0, none⟩ = some (.slice none 0 0)) ∧ (∀ o, (w1.alloc o).cell? ⟨w.heap.size + 1, 1, none⟩ = some .nilFunc) ∧ (∀ o, (w1.alloc o).frozen? ⟨w.heap.size + 1, 0, none⟩ = false) ∧ (∀ o, (w1.alloc o).frozen? ⟨w.heap.size + 1, 1, none⟩ = false) := ⟨fun o => (ma o).1, fun o => (ma o).2.1, fun o => (ma o).2.2.1, fun o => (ma o).2.2.2⟩; clear ma; have hs1 := hw.size; simp only [World.size_alloc] at hs1; clear hw))
      refine bodyPost_ret (v := .agg #[.slice (some ⟨w1.heap.size, 0, none⟩) 1 1, .func (.func 66) #[] #[]]) (by simp [results, Tryz.results49, go_sem, ma0, ma1]) rfl ?_
      have hBW := (((HA.out.trans (HW.out.mono (by simp; omega))).alloc (by omega) (.cells #[.string f.text, .slice a2 f.scopes.length k2, .int .i64 f.frm, .int .i64 0] 88)).setCell (p := ⟨w.heap.size + 1, 0, none⟩) (by simp) (.slice (some ⟨w1.heap.size, 0, none⟩) 1 1)).setCell (p := ⟨w.heap.size + 1, 1, none⟩) (by simp) (.func (.func 66) #[] #[])
      have hO := ownSet (ownSet (own_new w1 #[.string f.text, .slice a2 f.scopes.length k2, .int .i64 f.frm, .int .i64 0] 88) (p := ⟨w.heap.size + 1, 0, none⟩) (by show w1.heap.size ≠ w.heap.size + 1; omega) (.slice (some ⟨w1.heap.size, 0, none⟩) 1 1)) (p := ⟨w.heap.size + 1, 1, none⟩) (by show w1.heap.size ≠ w.heap.size + 1; omega) (.func (.func 66) #[] #[])
      obtain ⟨q0, q1, q2, q3⟩ := yown4 hO
      refine ⟨_, ⟨_, _, _, rfl⟩, ⟨_, 1, rfl, Nat.le_refl _, Or.inr ⟨w1.heap.size, 0, rfl, ⟨by omega, hO.lt⟩, fun i hi => ?_⟩⟩, hBW⟩
      have hi0 : i = 0 := by simp at hi; omega
      subst hi0
      exact ⟨_, 0, q0, q1, q2, q3, H2.out.keep (hBW.on HR.out)⟩

set_option maxRecDepth 20000 in
set_option maxHeartbeats 1000000 in
theorem atomPattern_any (t : ByteArray) (w : World) :
    Calls Tryz.prog 51 #[.agg #[.string t]] w fun e w' => ∃ fn p q, e = .returned (.agg #[.slice none 0 0, .func fn p q]) ∧ Below w.heap.size w w' := by
  have hmf : ∀ (fn : Fn) (first cap : Array Value) (w : World), (Instr.makeFunc fn first cap).run Tryz.prog w = .ok (.func fn first cap) w := fun _ _ _ _ => rfl
  go_enter Tryz.func51, Tryz.ntmps51
  go_wp2_with fail
  refine bodyPost_ret (v := .agg #[.slice none 0 0, .func (.func 68) #[] #[.pointer (some ⟨w.heap.size, 0, none⟩)]]) (by simp [results, Tryz.results51, go_sem]) rfl ?_
  refine ⟨_, _, _, rfl, ?_⟩
  exact ((Below.refl _ _).alloc (Nat.le_refl _) _).alloc (by simp) _
end Go.Proofs.YthlacjabelpehaaGreatDoor

namespace Go.Proofs.YthlacjabelpehaaGreatDoor
open Go.RowKit Go.Siskin

/-- A function, or none. -/
def FnV (m : Value) : Prop := m = .nilFunc ∨ ∃ fn p q, m = .func fn p q

theorem PnY.get {B G : Nat → Prop} {w : World} {a : Option Addr} {cap n : Nat} {ns : List Fm} (h : PnY B G w (.slice a n cap) ns) : n = ns.length ∧ ∀ i (hi : i < ns.length), ∃ g o c2 d, a = some ⟨g, o, none⟩ ∧ G g ∧ w.cell? ⟨g, o + i * 4, none⟩ = some (.string ns[i].text) ∧ w.cell? ⟨g, o + i * 4 + 1, none⟩ = some c2 ∧ w.cell? ⟨g, o + i * 4 + 2, none⟩ = some (.int .i64 ns[i].frm) ∧ w.cell? ⟨g, o + i * 4 + 3, none⟩ = some (.int .i64 d) ∧ IntsAt B w c2 ns[i].scopes := by
  obtain ⟨a', cap', e, -, h⟩ := h
  cases e
  refine ⟨rfl, fun i hi => ?_⟩
  rcases h with h | ⟨g, o, e1, e2, h⟩
  · rw [h.1] at hi; simp at hi
  · obtain ⟨c2, d, h0, h1, h2, h3, h4⟩ := h i hi
    exact ⟨g, o, c2, d, e1, e2, h0, h1, h2, h3, h4⟩

set_option maxRecDepth 20000 in
set_option maxHeartbeats 1000000 in
theorem ids_any (ns : List Fm) (B G : Nat → Prop) (w : World) (v m : Value) (hv : PnY B G w v ns) (hG : ∀ g, G g → g < w.heap.size) (hB : ∀ b, B b → b < w.heap.size) (hn : ns.length ≤ 1048576) (hm : FnV m) :
    Calls Tryz.prog 40 #[.agg #[v, m]] w fun e w' => ∃ u, e = .returned u ∧ IRow B w' w.heap.size u ns ∧ Below w.heap.size w w' := by
  have HV := hid hv
  obtain ⟨a, ca, rfl, hca, -⟩ := hv
  have HR := hid hB
  have HGet : Hid (∀ w', Below w.heap.size w w' → ∀ i (hi : i < ns.length), ∃ g o c2 d, a = some ⟨g, o, none⟩ ∧ w'.cell? ⟨g, o + i * 4, none⟩ = some (.string ns[i].text) ∧ w'.cell? ⟨g, o + i * 4 + 1, none⟩ = some c2 ∧ w'.cell? ⟨g, o + i * 4 + 2, none⟩ = some (.int .i64 ns[i].frm) ∧ w'.cell? ⟨g, o + i * 4 + 3, none⟩ = some (.int .i64 d) ∧ IntsAt B w' c2 ns[i].scopes) := fun w' hb i hi => by
    obtain ⟨g, o, c2, d, h1, -, h2⟩ := (HV.out.keep (hb.on hG) (hb.on HR.out)).get.2 i hi
    exact ⟨g, o, c2, d, h1, h2⟩
  obtain ⟨i0, hi, hz0, hz1, hz2⟩ := info_parts Tryz.infoIdY
  have Hi := hid hi
  have Hz0 := hid hz0
  have Hz1 := hid hz1
  have Hz2 := hid hz2
  clear hB hG hi hz0 hz1 hz2
  rcases hm with rfl | ⟨fn, p, q, rfl⟩
  all_goals
    go_enter Tryz.func40, Tryz.ntmps40
    go_wp2_with fail
    go_loopw [3, 9] (fun u i wr => ∃ k : Nat, k ≤ ns.length ∧ i = .int .i64 k ∧ Hid (IRow B wr w.heap.size u (ns.take k)) ∧ Hid (Below w.heap.size w wr)) (fun _ i _ => ns.length - (intOf i).toNat)
    case atStart => exact ⟨0, Nat.zero_le _, rfl, ⟨[], World.ownsRow_nil _ _ _ _, fun i hi => absurd hi (by simp)⟩, (Below.refl _ _).alloc (Nat.le_refl _) _⟩
    case round =>
      obtain ⟨k, hk, rfl, HQ, HB⟩ := hrel
      by_cases hlt : k < ns.length
      · obtain ⟨g', o', c2, d, hab, g0, g1, g2, g3, h2⟩ := HGet.out _ HB.out k hlt
        subst hab
        have hsz := HB.out.size
        have HBs : Hid (∀ b, B b → b < wr.heap.size) := fun b h => by have h1 := HR.out b h; omega
        have HI := hid h2
        obtain ⟨a2, k2, rfl, -⟩ := h2
        have HT := hid (List.take_succ_eq_append_getElem hlt)
        have htl : (ns.take k).length = k := by rw [List.length_take]; omega
        have HTL := hid htl
        obtain ⟨cs, r1, r2⟩ := HQ.out
        rw [HTL.out] at r1
        have R1 := hid r1
        have R2 := hid r2
        clear htl r1 r2
        go_wp2_with (at_builtin; refine wpList_append_own_at _ rfl _ _ 57 rfl w.heap.size 73 i0 _ 3 48 Tryz.underlying57 Hi.out Hz0.out Hz1.out Hz2.out rfl (by decide) _ k cs rfl ((R1.out.alloc _).alloc _) ⟨wr.heap.size + 1, 0, none⟩ 1 1 [.string ns[k].text, .slice a2 ns[k].scopes.length k2, .int .i64 ns[k].frm] rfl rfl (by have h := World.news_of_block (cs := #[.string ns[k].text, .slice a2 ns[k].scopes.length k2, .int .i64 ns[k].frm]) (heap_alloc_new (wr.alloc (.cells #[.string ns[k].text, .slice a2 ns[k].scopes.length k2, .int .i64 ns[k].frm, .int .i64 d] 88)) (.cells #[.string ns[k].text, .slice a2 ns[k].scopes.length k2, .int .i64 ns[k].frm] 73)); rw [World.size_alloc] at h; exact h) (by simp [Value.oneCell']) (by unfold maxLen; omega) (by omega) (by simp; omega) ?_; intro v' w4 hown' hg hnil hb')
        have HS2 := hid (fun o1 o2 : Obj => ((SameOn.refl B wr).alloc HBs.out o1).alloc (fun b hb => by have := HBs.out b hb; simp; omega) o2)
        have hj := IRow.snoc (B := B) (ks := ns.take k) (f := ns[k]) HR.out (by simp; omega) (by rw [HTL.out]; exact (R1.out.alloc _).alloc _) (R2.out.keep (HS2.out _ _)) (HI.out.keep (HS2.out _ _)) hg (by rw [HTL.out]; exact hown')
        rw [← HT.out] at hj
        refine ⟨⟨k + 1, by omega, by go_num, hj.1, ((HB.out.alloc (by omega) _).alloc (by simp; omega) _).trans hj.2⟩, by simp [intOf]; omega⟩
      · have hkk : k = ns.length := by omega
        rw [hkk, List.take_length] at HQ
        obtain ⟨cs, hr, -⟩ := HQ.out
        rcases hr.2 with ⟨rfl, -⟩ | ⟨gg, cap, cur, rfl, -⟩
        all_goals
          clear hr
          go_wp2_with fail
          go_ret
          exact ⟨_, rfl, HQ.out, HB.out⟩
end Go.Proofs.YthlacjabelpehaaGreatDoor

namespace Go.Proofs.YthlacjabelpehaaGreatDoor
open Go.RowKit Go.Siskin

/-- Cells, four for each name. -/
def NCY (B : Nat → Prop) (w : World) (cs : List Value) (ks : List Fm) : Prop := ∀ (i : Nat) (hi : i < ks.length),
  ∃ c2 d, cs[i * 4]? = some (.string ks[i].text) ∧ cs[i * 4 + 1]? = some c2 ∧ cs[i * 4 + 2]? = some (.int .i64 ks[i].frm) ∧ cs[i * 4 + 3]? = some (.int .i64 d) ∧ IntsAt B w c2 ks[i].scopes
theorem NCY.keep {B : Nat → Prop} {w w' : World} {cs : List Value} {ks : List Fm} (h : NCY B w cs ks) (hb : SameOn B w w') : NCY B w' cs ks := fun i hi => by
  obtain ⟨c2, d, e0, e1, e2, e3, e4⟩ := h i hi
  exact ⟨c2, d, e0, e1, e2, e3, e4.keep hb⟩
def NRow (B : Nat → Prop) (w : World) (base : Nat) (v : Value) (ks : List Fm) : Prop :=
  ∃ cs, w.ownsRow base 88 4 v ks.length cs ∧ NCY B w cs ks
theorem NRow.nil (B : Nat → Prop) (w : World) (base : Nat) : NRow B w base (.slice Option.none 0 0) [] := ⟨[], World.ownsRow_nil _ _ _ _, fun i hi => absurd hi (by simp)⟩
theorem NRow.keep {B : Nat → Prop} {w w' : World} {base : Nat} {v : Value} {ks : List Fm} (h : NRow B w base v ks) (hb : Below w.heap.size w w') (hB : ∀ b, B b → b < w.heap.size) : NRow B w' base v ks := by
  obtain ⟨cs, h1, h2⟩ := h
  have hg : w.grownBy w' none := ⟨hb.os, hb.tape, hb.output, hb.size, fun i hi _ => hb.block i hi⟩
  exact ⟨cs, h1.kept hg (by cases v.ownBlock <;> simp), h2.keep (hb.on hB)⟩
theorem NRow.pn {B : Nat → Prop} {w : World} {base : Nat} {v : Value} {ks : List Fm} (h : NRow B w base v ks) : PnY B (fun g => base ≤ g ∧ g < w.heap.size) w v ks := by
  obtain ⟨cs, h1, h2⟩ := h
  have hl := h1.1
  rcases h1.2 with ⟨rfl, h0⟩ | ⟨g, cap, cur, rfl, hb, hg, hc, -⟩
  · have e : ks = [] := List.eq_nil_of_length_eq_zero h0
    subst e
    exact pnY_none _ _ _
  · refine ⟨_, cap, rfl, hc, Or.inr ⟨g, 0, rfl, ⟨hb, (Array.getElem?_eq_some_iff.1 hg).1⟩, fun i hi => ?_⟩⟩
    obtain ⟨c2, d, e0, e1, e2, e3, e4⟩ := h2 i hi
    refine ⟨c2, d, ?_, ?_, ?_, ?_, e4⟩
    · rw [Nat.zero_add, h1.cellAt _ (by omega)]; exact e0
    · rw [Nat.zero_add, h1.cellAt _ (by omega)]; exact e1
    · rw [Nat.zero_add, h1.cellAt _ (by omega)]; exact e2
    · rw [Nat.zero_add, h1.cellAt _ (by omega)]; exact e3
theorem NRow.snoc {B : Nat → Prop} {w w' : World} {base : Nat} {v v' : Value} {ks : List Fm} {f : Fm} {cs : List Value} {c2 : Value} {d : Int} (hB : ∀ b, B b → b < base) (hs : base ≤ w.heap.size)
    (r1 : w.ownsRow base 88 4 v ks.length cs) (q1 : NCY B w cs ks) (h2 : IntsAt B w c2 f.scopes) (hg : w.grownBy w' v.ownBlock)
    (hown : w'.ownsRow base 88 4 v' (ks.length + 1) (cs ++ [.string f.text, c2, .int .i64 f.frm, .int .i64 d])) : NRow B w' base v' (ks ++ [f]) ∧ Below base w w' := by
  have hbl : Below base w w' := ⟨hg.os, hg.tape, hg.output, hg.size, fun i hi => hg.block i (by omega) fun e => by
    have := (r1.lt i e.symm).1
    omega⟩
  refine ⟨⟨_, by rw [List.length_append]; exact hown, fun i hi => ?_⟩, hbl⟩
  have hl := r1.1
  rw [List.length_append, List.length_singleton] at hi
  by_cases e : i < ks.length
  · obtain ⟨c, d, e0, e1, e2, e3, e4⟩ := q1 i e
    rw [List.getElem_append_left e]
    refine ⟨c, d, ?_, ?_, ?_, ?_, e4.keep (hbl.on hB)⟩
    all_goals (rw [List.getElem?_append_left (by omega)]; assumption)
  · have ei : i = ks.length := by omega
    subst ei
    rw [List.getElem_append_right (by omega)]
    refine ⟨c2, d, ?_, ?_, ?_, ?_, by simpa using h2.keep (hbl.on hB)⟩
    · rw [List.getElem?_append_right (by omega), hl]; simp
    · rw [List.getElem?_append_right (by omega), hl, show ks.length * 4 + 1 - ks.length * 4 = 1 by omega]; rfl
    · rw [List.getElem?_append_right (by omega), hl, show ks.length * 4 + 2 - ks.length * 4 = 2 by omega]; simp
    · rw [List.getElem?_append_right (by omega), hl, show ks.length * 4 + 3 - ks.length * 4 = 3 by omega]; rfl

set_option maxRecDepth 20000 in
set_option maxHeartbeats 1000000 in
theorem singlePart_any (a : Option Addr) (n c : Nat) (m : Value) (hm : FnV m) (w : World) :
    Calls Tryz.prog 80 #[.agg #[.slice a n c, m]] w fun e w' => ∃ fn p q, e = .returned (.agg #[.slice a n c, .bool false, .func fn p q]) ∧ Below w.heap.size w w' := by
  have hmf : ∀ (fn : Fn) (first cap : Array Value) (w : World), (Instr.makeFunc fn first cap).run Tryz.prog w = .ok (.func fn first cap) w := fun _ _ _ _ => rfl
  rcases hm with rfl | ⟨fn, p, q, rfl⟩
  all_goals
    go_enter Tryz.func80, Tryz.ntmps80
    go_wp2_with fail
    refine bodyPost_ret (v := .agg #[.slice a n c, .bool false, .func (.func 93) #[] #[.pointer (some ⟨w.heap.size, 0, none⟩)]]) (by simp [results, Tryz.results80, go_sem]) rfl ?_
    refine ⟨_, _, _, rfl, ?_⟩
    exact ((Below.refl _ _).alloc (Nat.le_refl _) _).alloc (by simp) _

theorem Tryz.infoNameY : (Tryz.prog.info? 88).map (fun i => (i.zero, i.size, i.bytes)) = some (some (.agg #[.string ⟨#[]⟩, .slice none 0 0, .int .i64 0, .int .i64 0]), 4, 56) := by kernel_rfl

theorem own_new2 (w : World) (o1 : Obj) (cs : Array Value) (e : TypeId) : Own ((w.alloc o1).alloc (.cells cs e)) (w.heap.size + 1) e cs := by
  have h := own_new (w.alloc o1) cs e
  rw [World.size_alloc] at h
  exact h
theorem own_new3 (w : World) (o1 o2 : Obj) (cs : Array Value) (e : TypeId) : Own (((w.alloc o1).alloc o2).alloc (.cells cs e)) (w.heap.size + 1 + 1) e cs := by
  have h := own_new ((w.alloc o1).alloc o2) cs e
  rw [World.size_alloc, World.size_alloc] at h
  exact h
theorem yown1 {w : World} {g : Nat} {e : TypeId} {c0 : Value} (h : Own w g e #[c0]) : w.cell? ⟨g, 0, none⟩ = some c0 ∧ w.frozen? ⟨g, 0, none⟩ = false :=
  ⟨(h.cell 0).trans (by simp), h.frozen 0⟩

set_option maxRecDepth 20000 in
set_option maxHeartbeats 1000000 in
theorem repeatedPart_any (ns : List Fm) (B G : Nat → Prop) (w : World) (v m : Value) (hv : PnY B G w v ns) (hG : ∀ g, G g → g < w.heap.size) (hB : ∀ b, B b → b < w.heap.size) (hn : ns.length ≤ 1048576) (hm : FnV m) :
    Calls Tryz.prog 79 #[.agg #[v, m]] w fun e w' => ∃ u fn p q, e = .returned (.agg #[u, .bool true, .func fn p q]) ∧ PnY B (Fresh w w') w' u ns ∧ Below w.heap.size w w' := by
  have hmf : ∀ (fn : Fn) (first cap : Array Value) (w : World), (Instr.makeFunc fn first cap).run Tryz.prog w = .ok (.func fn first cap) w := fun _ _ _ _ => rfl
  have HV := hid hv
  obtain ⟨a, ca, rfl, hca, -⟩ := hv
  have HR := hid hB
  have HGet : Hid (∀ w', Below w.heap.size w w' → ∀ i (hi : i < ns.length), ∃ g o c2 d, a = some ⟨g, o, none⟩ ∧ w'.cell? ⟨g, o + i * 4, none⟩ = some (.string ns[i].text) ∧ w'.cell? ⟨g, o + i * 4 + 1, none⟩ = some c2 ∧ w'.cell? ⟨g, o + i * 4 + 2, none⟩ = some (.int .i64 ns[i].frm) ∧ w'.cell? ⟨g, o + i * 4 + 3, none⟩ = some (.int .i64 d) ∧ IntsAt B w' c2 ns[i].scopes) := fun w' hb i hi => by
    obtain ⟨g, o, c2, d, h1, -, h2⟩ := (HV.out.keep (hb.on hG) (hb.on HR.out)).get.2 i hi
    exact ⟨g, o, c2, d, h1, h2⟩
  obtain ⟨i0, hi, hz0, hz1, hz2⟩ := info_parts Tryz.infoNameY
  have Hi := hid hi
  have Hz0 := hid hz0
  have Hz1 := hid hz1
  have Hz2 := hid hz2
  clear hB hG hi hz0 hz1 hz2
  rcases hm with rfl | ⟨fn, p, q, rfl⟩
  all_goals
    go_enter Tryz.func79, Tryz.ntmps79
    go_wp2_with fail
    go_loopw [9] (fun i wr => ∃ k : Nat, k ≤ ns.length ∧ i = .int .i64 k ∧ Hid (∃ u, NRow B wr (w.heap.size + 1 + 1 + 1) u (ns.take k) ∧ Own wr (w.heap.size + 1 + 1) 43 #[u]) ∧ Hid (Own wr (w.heap.size + 1) 129 #[.slice none 0 0, .bool false, .nilFunc]) ∧ Hid (Below w.heap.size w wr)) (fun i _ => ns.length - (intOf i).toNat)
    case atStart =>
      refine ⟨0, Nat.zero_le _, rfl, ⟨_, NRow.nil _ _ _, ?_⟩, ?_, ((((Below.refl _ _).alloc (Nat.le_refl _) _).alloc (by simp) _).alloc (by simp; omega) _)⟩
      · exact own_new3 w _ _ _ _
      · exact ownAlloc (own_new2 w _ _ _) _
    case round =>
      obtain ⟨k, hk, rfl, HQ, HO1, HB⟩ := hrel
      by_cases hlt : k < ns.length
      · obtain ⟨g', o', c2, d, hab, g0, g1, g2, g3, h2⟩ := HGet.out _ HB.out k hlt
        subst hab
        have hsz := HB.out.size
        have HBs : Hid (∀ b, B b → b < wr.heap.size) := fun b h => by have h1 := HR.out b h; omega
        have HI := hid h2
        obtain ⟨a2, k2, rfl, -⟩ := h2
        have HT := hid (List.take_succ_eq_append_getElem hlt)
        have htl : (ns.take k).length = k := by rw [List.length_take]; omega
        have HTL := hid htl
        obtain ⟨u, ⟨cs, r1, r2⟩, hO2⟩ := HQ.out
        rw [HTL.out] at r1
        have R1 := hid r1
        have R2 := hid r2
        have HO2 := hid hO2
        obtain ⟨m0, m1⟩ := yown1 hO2
        have hlt2 := hO2.lt
        have ma := fun o : Obj => (yown1 (ownAlloc hO2 o)).1
        clear htl r1 r2 hO2
        go_wp2_with (at_builtin; go_loud (refine wpList_append_lies _ rfl _ _ 43 rfl (w.heap.size + 1 + 1 + 1) 88 i0 _ 4 56 Tryz.underlying43 Hi.out Hz0.out Hz1.out Hz2.out rfl (by decide) _ k cs rfl ((R1.out.alloc _).alloc _) ⟨wr.heap.size + 1, 0, none⟩ 1 1 [.string ns[k].text, .slice a2 ns[k].scopes.length k2, .int .i64 ns[k].frm, .int .i64 (wrap64 (d + 1))] rfl rfl (by have h := World.news_of_block (heap_alloc_new (wr.alloc (.cells #[.string ns[k].text, .slice a2 ns[k].scopes.length k2, .int .i64 ns[k].frm, .int .i64 d] 88)) (.cells #[.string ns[k].text, .slice a2 ns[k].scopes.length k2, .int .i64 ns[k].frm, .int .i64 (wrap64 (d + 1))] 88)); rw [World.size_alloc] at h; exact h) (by simp [Value.oneCell']) (by omega) (by unfold maxLen; omega) (by omega) (by simp; omega) (wr.heap.size + 1 + 1) (by simp) ?_; intro gg cc w4 hown' hg hat hgl; have hO4 := ((hg.block (w.heap.size + 1 + 1) (by simp; omega) (fun e => by have := (R1.out.lt _ e.symm).1; omega)).trans (ownAlloc (ownAlloc HO2.out _) _)); have HO4 := hid hO4; obtain ⟨q40, q41⟩ := yown1 hO4; clear hO4))
        have hs4 := hg.size
        simp only [World.size_alloc] at hs4
        have HS2 := hid (fun o1 o2 : Obj => ((SameOn.refl B wr).alloc HBs.out o1).alloc (fun b hb => by have := HBs.out b hb; simp; omega) o2)
        have hj := NRow.snoc (B := B) (base := w.heap.size + 1 + 1 + 1) (ks := ns.take k) (f := ns[k]) (fun b hb => by have := HR.out b hb; omega) (by simp; omega) (by rw [HTL.out]; exact (R1.out.alloc _).alloc _) (R2.out.keep (HS2.out _ _)) (HI.out.keep (HS2.out _ _)) hg (by rw [HTL.out]; exact hown')
        rw [← HT.out] at hj
        obtain ⟨⟨cs', j1, j2⟩, j3⟩ := hj
        have hO1' : Own w4 (w.heap.size + 1) 129 #[.slice none 0 0, .bool false, .nilFunc] := (hg.block (w.heap.size + 1) (by simp; omega) (fun e => by have := (R1.out.lt _ e.symm).1; omega)).trans (ownAlloc (ownAlloc HO1.out _) _)
        refine ⟨⟨k + 1, by omega, by go_num, ⟨_, ⟨cs', ownsRow_setCell_below j1 (by show w.heap.size + 1 + 1 < _; omega) _, j2.keep ((SameOn.refl _ _).setCell (fun hb => by have := HR.out _ hb; simp at this; omega) _)⟩, ?_⟩, ownSet hO1' (by show w.heap.size + 1 ≠ w.heap.size + 1 + 1; omega) _, (((HB.out.alloc (by omega) _).alloc (by simp; omega) _).trans (j3.mono (by omega))).setCell (p := ⟨w.heap.size + 1 + 1, 0, none⟩) (by show w.heap.size ≤ w.heap.size + 1 + 1; omega) _⟩, by simp [intOf]; omega⟩
        have h := Own.set (w := w4) (g := w.heap.size + 1 + 1) (e := 43) (cs := #[u]) HO4.out 0 (.slice (some ⟨gg, 0, none⟩) (k + 1) cc)
        simpa using h
      · have hkk : k = ns.length := by omega
        rw [hkk, List.take_length] at HQ
        obtain ⟨u, hN, hO2⟩ := HQ.out
        have HN := hid hN
        obtain ⟨m0, m1⟩ := yown1 hO2
        obtain ⟨x0, x1, x2⟩ := yown3 HO1.out
        have y0 := HO1.out.frozen 0
        have y1 := HO1.out.frozen 1
        have y2 := HO1.out.frozen 2
        have hlt1 := HO1.out.lt
        obtain ⟨ua, uc, rfl, -⟩ := hN.pn
        clear hN hO2
        go_wp2_with fail
        refine bodyPost_ret (v := .agg #[.slice ua ns.length uc, .bool true, .func (.func 90) #[] #[.pointer (some ⟨w.heap.size + 1 + 1, 0, none⟩), .pointer (some ⟨w.heap.size, 0, none⟩)]]) (by simp [results, Tryz.results79, go_sem, x0, x1, x2]) rfl ?_
        refine ⟨_, _, _, _, rfl, ?_, ?_⟩
        · refine (HN.out.pn.keep (fun b hb => ?_) (fun b hb => ?_)).mono (fun g hg => ⟨by omega, by simpa [World.setCell] using hg.2⟩)
          · have h1 := hb.1
            rw [Below.heap_setCell _ _ _ _ (by show b ≠ w.heap.size + 1; omega), Below.heap_setCell _ _ _ _ (by show b ≠ w.heap.size + 1; omega), Below.heap_setCell _ _ _ _ (by show b ≠ w.heap.size + 1; omega)]
          · have h1 := HR.out b hb
            rw [Below.heap_setCell _ _ _ _ (by show b ≠ w.heap.size + 1; omega), Below.heap_setCell _ _ _ _ (by show b ≠ w.heap.size + 1; omega), Below.heap_setCell _ _ _ _ (by show b ≠ w.heap.size + 1; omega)]
        · exact ((HB.out.setCell (p := ⟨w.heap.size + 1, 0, none⟩) (by show w.heap.size ≤ w.heap.size + 1; omega) _).setCell (p := ⟨w.heap.size + 1, 1, none⟩) (by show w.heap.size ≤ w.heap.size + 1; omega) _).setCell (p := ⟨w.heap.size + 1, 2, none⟩) (by show w.heap.size ≤ w.heap.size + 1; omega) _
end Go.Proofs.YthlacjabelpehaaGreatDoor
