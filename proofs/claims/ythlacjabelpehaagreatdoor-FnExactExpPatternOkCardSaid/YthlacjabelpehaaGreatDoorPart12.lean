/-
  The program's listPatternOf, if partOf does as it should of what is within. Condition: the form lies in memory.
  The program's partOf, of whatever is within. Condition: the form lies in memory.
  That the program's way and the model's find the same names, plainly. No program's step is walked here.
-/
import Derived.Test.YthlacjabelpehaaGreatDoorPart11
namespace Go.Proofs.YthlacjabelpehaaGreatDoor
open Go.RowKit Go.Siskin

/-- What partOf answers. -/
def Parted (K : List (List UInt8)) (p : Im) (R : Nat → Prop) (w : World) (e : Ending) (w' : World) : Prop :=
  ∃ na nn nc m ns, e = .returned (.tuple #[.agg #[.slice na nn nc, m], .bool (pnI K p).isSome]) ∧ FnV m ∧ (∀ ns0, pnI K p = some ns0 → ns = ns0) ∧ ns.length ≤ p.sz ∧ PnY R (Fresh w w') w' (.slice na nn nc) ns ∧ Below w.heap.size w w'
def PartY (K : List (List UInt8)) (n : Nat) : Prop := ∀ p : Im, p.sz ≤ n → p.sz ≤ 1048576 → GoodP p → ∀ (R : Nat → Prop) (w : World) (b : Nat) (v : Value), InAt R w p v → (∀ c, R c → c < w.heap.size) → PlY w b K → TabY w → Calls Tryz.prog 39 #[v, .map (some b)] w (Parted K p R w)

theorem szs_drop (ps : List Im) (k : Nat) (h : k < ps.length) : Im.szs (ps.drop k) = ps[k].sz + Im.szs (ps.drop (k + 1)) := by
  rw [List.drop_eq_getElem_cons h, Im.szs_cons]
theorem szs_le (ps : List Im) (k : Nat) : Im.szs (ps.drop k) ≤ Im.szs ps := by
  have h : Im.szs ps = Im.szs (ps.take k) + Im.szs (ps.drop k) := by
    unfold Im.szs
    rw [← List.sum_append, ← List.map_append, List.take_append_drop]
  omega
theorem ims_len : ∀ ps : List Im, ps.length ≤ Im.szs ps
  | [] => Nat.le_refl _
  | p :: r => by
    have h1 := ims_len r
    have h2 := Im.sz_eq p
    rw [Im.szs_cons, List.length_cons]; omega
theorem goP_none (K : List (List UInt8)) (ps : List Im) (k : Nat) (h : k < ps.length) (rep : Bool) (hp : pnI K ps[k] = none) : goP ((ps.drop k).map (dI K)) rep = none := by
  rw [List.drop_eq_getElem_cons h, List.map_cons]
  unfold dI
  rw [hp, goP]
theorem goP_last (K : List (List UInt8)) (ps : List Im) (k : Nat) (h : k < ps.length) (h1 : ps.length = k + 1) (rep : Bool) {ns : List Fm} (hp : pnI K ps[k] = some ns) : goP ((ps.drop k).map (dI K)) rep = (goP ((ps.drop (k + 1)).map (dI K)) rep).map (ns ++ ·) := by
  rw [List.drop_eq_getElem_cons h, List.map_cons, List.drop_eq_nil_of_le (by omega)]
  unfold dI
  rw [hp, List.map_nil, goP, goP]; simp
theorem goP_one (K : List (List UInt8)) (ps : List Im) (k : Nat) (h : k < ps.length) (h1 : k + 1 < ps.length) (rep : Bool) {ns : List Fm} (hp : pnI K ps[k] = some ns) (hd : wordI ps[k + 1] [46, 46, 46] = false) : goP ((ps.drop k).map (dI K)) rep = (goP ((ps.drop (k + 1)).map (dI K)) rep).map (ns ++ ·) := by
  rw [List.drop_eq_getElem_cons h, List.map_cons, List.drop_eq_getElem_cons h1, List.map_cons]
  unfold dI
  rw [hp, hd, goP]
theorem goP_rep (K : List (List UInt8)) (ps : List Im) (k : Nat) (h : k < ps.length) (h1 : k + 1 < ps.length) (rep : Bool) {ns : List Fm} (hp : pnI K ps[k] = some ns) (hd : wordI ps[k + 1] [46, 46, 46] = true) : goP ((ps.drop k).map (dI K)) rep = if rep = true then none else (goP ((ps.drop (k + 1 + 1)).map (dI K)) true).map (ns ++ ·) := by
  rw [List.drop_eq_getElem_cons h, List.map_cons, List.drop_eq_getElem_cons h1, List.map_cons]
  unfold dI
  rw [hp, hd, goP]

/-- Forms that are still ahead. -/
def Ahead (R : Nat → Prop) (w : World) (a : Option Addr) (ps : List Im) : Prop := ps = [] ∨ ∃ b o, a = some ⟨b, o, none⟩ ∧ R b ∧ InRow R w b o ps
theorem Ahead.get {R : Nat → Prop} {w : World} {a : Option Addr} {ps : List Im} (h : Ahead R w a ps) (i : Nat) (hi : i < ps.length) : ∃ b o x, a = some ⟨b, o, none⟩ ∧ w.cell? ⟨b, o + i, none⟩ = some x ∧ InAt R w ps[i] x := by
  rcases h with h | ⟨b, o, h1, -, h3⟩
  · rw [h] at hi; simp at hi
  · obtain ⟨x, h4, h5⟩ := h3 i hi
    exact ⟨b, o, x, h1, h4, h5⟩
theorem Ahead.keep {R : Nat → Prop} {w w' : World} {a : Option Addr} {ps : List Im} (h : Ahead R w a ps) (hb : SameOn R w w') : Ahead R w' a ps := by
  rcases h with h | ⟨b, o, h1, h2, h3⟩
  · exact Or.inl h
  · exact Or.inr ⟨b, o, h1, h2, InRow.keep hb h2 ps h3⟩

/-- The state of the list at work. -/
structure LoopY (K : List (List UInt8)) (R : Nat → Prop) (w : World) (ps : List Im) (k : Nat) (qs : List (List Fm)) (rep : Bool) (va : Value) (oth : Int) (wr : World) : Prop where
  list : Own wr (w.heap.size + 1) 118 #[va, .int .i64 oth, .bool rep, .pointer none]
  res : Own wr w.heap.size 47 #[.slice none 0 0, .nilFunc]
  parts : LstY R wr (w.heap.size + 1 + 1) va qs
  below : Below w.heap.size w wr
  says : goP (ps.map (dI K)) false = (goP ((ps.drop k).map (dI K)) rep).map (qs.flatten ++ ·)
  many : qs.length ≤ k
  long : qs.flatten.length + Im.szs (ps.drop k) ≤ Im.szs ps

theorem LoopY.step {K : List (List UInt8)} {R : Nat → Prop} {w : World} {ps : List Im} {k k' : Nat} {qs : List (List Fm)} {ns : List Fm} {rep r : Bool} {va v' : Value} {oth oth' : Int} {wr W w3 : World} (h : LoopY K R w ps k qs rep va oth wr) (hW : Below wr.heap.size wr W) (hw3 : Below (w.heap.size + 1) W w3)
    (hO : Own w3 (w.heap.size + 1) 118 #[v', .int .i64 oth', .bool (rep || r), .pointer none]) (hL : LstY R w3 (w.heap.size + 1 + 1) v' (qs ++ [ns])) (hk : k < k')
    (hsay : goP ((ps.drop k).map (dI K)) rep = (goP ((ps.drop k').map (dI K)) (rep || r)).map (ns ++ ·)) (hlen : ns.length + Im.szs (ps.drop k') ≤ Im.szs (ps.drop k)) : LoopY K R w ps k' (qs ++ [ns]) (rep || r) v' oth' w3 where
  list := hO
  res := (h.res.keep hW h.res.lt).keep hw3 (by omega)
  parts := hL
  below := (h.below.trans (hW.mono h.below.size)).trans (hw3.mono (by omega))
  says := by
    rw [h.says, hsay, Option.map_map]
    congr 1
    funext x
    simp [List.append_assoc]
  many := by have := h.many; rw [List.length_append, List.length_singleton]; omega
  long := by
    have := h.long
    rw [List.flatten_append, List.length_append]
    simp only [List.flatten_cons, List.flatten_nil, List.append_nil]
    omega
theorem Ahead.tail {R : Nat → Prop} {w w' : World} {b o k m fc : Nat} {ps : List Im} (h : Ahead R w (some ⟨b, o, none⟩) (ps.drop k)) (hk : k < ps.length) (hm : m + k = ps.length) (hc : m ≤ fc) (hb : SameOn R w w') : Ahead R w' (if fc = 1 then some ⟨b, o, none⟩ else some ⟨b, o + 1, none⟩) (ps.drop (k + 1)) := by
  by_cases h1 : fc = 1
  · exact Or.inl (List.drop_eq_nil_of_le (by omega))
  · rw [if_neg h1]
    rcases h with h | ⟨b', o', e, h2, h3⟩
    · have h4 := congrArg List.length h
      rw [List.length_drop, List.length_nil] at h4
      omega
    · cases e
      refine Or.inr ⟨b, o + 1, rfl, h2, fun i hi => ?_⟩
      rw [List.length_drop] at hi
      obtain ⟨x, h5, h6⟩ := h3 (i + 1) (by rw [List.length_drop]; omega)
      refine ⟨x, ?_, ?_⟩
      · rw [hb.cell h2, show o + 1 + i = o + (i + 1) by omega]; exact h5
      · have e : (ps.drop (k + 1))[i]'(by rw [List.length_drop]; omega) = (ps.drop k)[i + 1]'(by rw [List.length_drop]; omega) := by
          rw [List.getElem_drop, List.getElem_drop]; congr 1; omega
        rw [e]
        exact InAt.keep hb _ h6
theorem partedSome {K : List (List UInt8)} {p : Im} {R G : Nat → Prop} {w w2 : World} {ns : List Fm} {ua : Option Addr} {ul uc : Nat} {fn : Fn} {x y : Array Value} (h : pnI K p = some ns) (hl : ns.length ≤ p.sz) (hR : ∀ c, R c → c < w.heap.size) (hpn : PnY R G w2 (.slice ua ul uc) ns) (hG : ∀ g, G g → w.heap.size < g ∧ g < w2.heap.size) (hb : Below w.heap.size w w2) :
    Parted K p R w (.returned (.tuple #[.agg #[.slice ua ul uc, .func fn x y], .bool true])) ((w2.setCell ⟨w.heap.size, 0, none⟩ (.slice ua ul uc)).setCell ⟨w.heap.size, 1, none⟩ (.func fn x y)) := by
  refine ⟨ua, ul, uc, _, ns, by rw [h]; rfl, Or.inr ⟨_, _, _, rfl⟩, fun ns0 e => Option.some.inj (h.symm.trans e), hl, (hpn.keep (fun g hg => ?_) (fun c hc => ?_)).mono (fun g hg => ⟨by have := (hG g hg).1; omega, by simpa [World.setCell] using (hG g hg).2⟩), (hb.setCell (p := ⟨w.heap.size, 0, none⟩) (Nat.le_refl _) _).setCell (p := ⟨w.heap.size, 1, none⟩) (Nat.le_refl _) _⟩
  · have := (hG g hg).1
    rw [Below.heap_setCell _ _ _ _ (by show g ≠ w.heap.size; omega), Below.heap_setCell _ _ _ _ (by show g ≠ w.heap.size; omega)]
  · have := hR c hc
    rw [Below.heap_setCell _ _ _ _ (by show c ≠ w.heap.size; omega), Below.heap_setCell _ _ _ _ (by show c ≠ w.heap.size; omega)]
theorem partedNone {K : List (List UInt8)} {p : Im} {R : Nat → Prop} {w W : World} (h : pnI K p = none) (hb : Below w.heap.size w W) : Parted K p R w (.returned (.tuple #[.agg #[.slice none 0 0, .nilFunc], .bool false])) W :=
  ⟨none, 0, 0, .nilFunc, [], (by rw [h]; rfl), Or.inl rfl, (fun ns0 e => by rw [h] at e; exact absurd e (by simp)), Nat.zero_le _, pnY_none _ _ _, hb⟩

set_option maxRecDepth 20000 in
set_option maxHeartbeats 2000000 in
theorem listPatternOf_any (K : List (List UInt8)) (n : Nat) (ih : PartY K n) (p : Im) (hk : p.kind = 3 ∨ p.kind = 4) (hp : p.sz ≤ n + 1) (hp2 : p.sz ≤ 1048576) (hgood : GoodP p) (R : Nat → Prop) (w : World) (b : Nat) (v : Value) (hA : InAt R w p v) (hR : ∀ c, R c → c < w.heap.size) (hP : PlY w b K) (hT : TabY w) :
    Calls Tryz.prog 52 #[v, .map (some b)] w (Parted K p R w) := by
  have HR := hid hR
  have HIH := hid ih
  have hmf : ∀ (fn : Fn) (first cap : Array Value) (w : World), (Instr.makeFunc fn first cap).run Tryz.prog w = .ok (.func fn first cap) w := fun _ _ _ _ => rfl
  have HC : Hid (∀ (q : Im) W u, q.sz ≤ n → q.sz ≤ 1048576 → GoodP q → Below w.heap.size w W → InAt R W q u → Calls Tryz.prog 39 #[u, .map (some b)] W (Parted K q R W)) := fun q W u h1 h2 h3 h4 h5 => ih q h1 h2 h3 R W b u h5 (fun c h => by have := hR c h; have := h4.size; omega) (hP.below h4) (hT.below h4 rfl)
  clear ih hP hT
  obtain ⟨ps, last, lt, lx, a, cap, T, x, hv, hsay, hps, hl1, hl2, hpl, hah, hlast, hgps, hglast, hsel⟩ : ∃ ps last lt lx a cap T x, v = .iface T x ∧ pnI K p = listP (ps.map (dI K)) [eI K last] ∧ Im.szs ps ≤ n ∧ (emptyI last = false → last.sz ≤ n) ∧ Im.szs ps + last.sz ≤ p.sz ∧ (ps.length ≤ maxLen ∧ ps.length ≤ cap) ∧ Ahead R w a ps ∧ InAt R w last (.iface lt lx) ∧ (∀ q ∈ ps, GoodP q) ∧ (emptyI last = false → GoodP last) ∧
      ((T = 102 ∧ x = .agg #[.slice a ps.length cap] ∧ lt = 102 ∧ lx = .agg #[.slice none 0 0]) ∨ (T = 104 ∧ x = .agg #[.slice a ps.length cap, .iface lt lx])) := by
    rcases (InAt_kinds _ _ _ _).1 hA with ⟨t, sc, fr, rfl, -⟩ | ⟨t, rfl, -⟩ | ⟨ps, rfl, a, cap, rfl, hpl, hrow⟩ | ⟨ps, l, rfl, a, cap, e, rfl, hpl, hrow, he⟩
    · simp [Im.id] at hk
    · simp [Im.atom] at hk
    · have hz : (Im.list ps).sz = 1 + Im.szs ps := Im.sz_list ps
      refine ⟨ps, .list [], 102, .agg #[.slice none 0 0], a, cap, _, _, rfl, ?_, by omega, fun h => by simp [emptyI, Im.list] at h, ?_, hpl, hrow, ?_, goodP_list _ hgood, fun h => by simp [emptyI, Im.list] at h, Or.inl ⟨rfl, rfl, rfl, rfl⟩⟩
      · rw [pnI_list]
        unfold listP
        cases goP (ps.map (dI K)) false with
        | none => rfl
        | some ns => simp [endP, eI, emptyI, Im.list]
      · rw [hz, show (Im.list []).sz = 1 from by rw [Im.sz_list]; rfl]; omega
      · exact InAt_list.2 ⟨none, 0, rfl, ⟨Nat.zero_le _, Nat.le_refl _⟩, Or.inl rfl⟩
    · have hz : (Im.dots ps l).sz = 1 + Im.szs ps + l.sz := Im.sz_dots ps l
      obtain ⟨lt, lx, rfl⟩ := he.iface
      exact ⟨ps, l, lt, lx, a, cap, _, _, rfl, pnI_dots K ps l, by omega, fun _ => by omega, by omega, hpl, hrow, he, (goodP_dots _ _ hgood).1, fun _ => (goodP_dots _ _ hgood).2, Or.inr ⟨rfl, rfl⟩⟩
  subst hv
  have HLA := hid hlast
  have HAH := hid hah
  have HSY := hid hsay
  have HGP := hid hgps
  have HGL := hid hglast
  have HL1 := hid hl1
  obtain ⟨hpl, hcap⟩ := hpl
  unfold maxLen at hpl
  clear hA hlast hah hsay hgps hglast hR hgood hk hl1
  have m1 := mop_list
  have m2 := mop_dots
  simp [opName] at m1 m2
  have HOL := hid (fun w' => openedL_any a ps.length cap w')
  have HOD := hid (fun w' => openedD_any a ps.length cap lt lx w')
  rcases hsel with ⟨rfl, rfl, rfl, rfl⟩ | ⟨rfl, rfl⟩
  all_goals
    go_enter Tryz.func52, Tryz.ntmps52
    go_wp2_with (first
      | (go_at_call 155; refine (HOL.out _).mono ?_; rintro e w0 ⟨rfl, hw⟩; have HW0 := hid hw; clear hw)
      | (go_at_call 165; refine (HOD.out _).mono ?_; rintro e w0 ⟨rfl, hw⟩; have HW0 := hid hw; clear hw))
    go_loopw [7] (fun fv wr => ∃ (k m : Nat) (qs : List (List Fm)) (rep : Bool) (va : Value) (oth : Int) (fa : Option Addr) (fc : Nat), m + k = ps.length ∧ m ≤ fc ∧ fv = .slice fa m fc ∧ Hid (LoopY K R w ps k qs rep va oth wr) ∧ Hid (Ahead R wr fa (ps.drop k))) (fun fv _ => match fv with | .slice _ m _ => m | _ => 0)
    case atStart =>
      have hs0 := HW0.out.size
      simp only [World.size_alloc] at hs0
      have hbw : Below w.heap.size w w0 := (((Below.refl _ _).alloc (Nat.le_refl _) _).alloc (by simp) _).trans (HW0.out.mono (by simp; omega))
      refine ⟨0, ps.length, [], false, .slice none 0 0, 0, _, _, rfl, hcap, rfl, ?_, ?_⟩
      · refine ⟨(own_new2 w _ _ _).keep HW0.out (by simp), (ownAlloc (own_new w _ _) _).keep HW0.out (by simp; omega), LstY.nil _ _ _, hbw, ?_, Nat.le_refl _, ?_⟩
        · rw [List.drop_zero]
          cases goP (ps.map (dI K)) false <;> simp
        · rw [List.drop_zero]; simp
      · rw [List.drop_zero]; exact HAH.out.keep (hbw.on HR.out)
    case round =>
      obtain ⟨k, m, qs, rep, va, oth, fa, fc, hmk, hmc, rfl, HQ, HF⟩ := hrel
      by_cases hm0 : m = 0
      · subst hm0
        have hkk : k = ps.length := by omega
        have HSY2 : Hid (pnI K p = endP qs.flatten [eI K last]) := by
          show _ = _
          rw [HSY.out]
          unfold listP
          rw [HQ.out.says, hkk, List.drop_length, List.map_nil, goP]
          simp
        have hlong := HQ.out.long
        rw [hkk, List.drop_length] at hlong
        have hszr := HQ.out.below.size
        have hlt1 := HQ.out.list.lt
        have hqs : qs.length ≤ 1048576 := by have := HQ.out.many; have := ims_len ps; omega
        have HBR : Hid (∀ c, R c → c < wr.heap.size) := fun c h => by have := HR.out c h; omega
        have HIE := hid (isEmptyList_any last R wr _ (InAt.keep (HQ.out.below.on HR.out) _ HLA.out))
        have HO2 : Hid (∀ W, Below wr.heap.size wr W → Own W (w.heap.size + 1) 118 #[va, .int .i64 oth, .bool rep, .pointer none]) := fun W hW => HQ.out.list.keep hW HQ.out.list.lt
        have HO1 : Hid (∀ W, Below wr.heap.size wr W → Own W w.heap.size 47 #[.slice none 0 0, .nilFunc]) := fun W hW => HQ.out.res.keep hW HQ.out.res.lt
        cases hem : emptyI last with
        | true =>
          rw [hem] at HIE
          have HNM := hid (fun W (hW : Below wr.heap.size wr W) => names_any (w.heap.size + 1) (w.heap.size + 1 + 1) qs [] R (fun _ => False) W va (.pointer none) oth rep (HO2.out W hW) (HQ.out.parts.keep hW HBR.out) (Or.inl ⟨rfl, rfl⟩) (fun _ h => h.elim) (fun c h => by have := HBR.out c h; have := hW.size; omega) hqs (by rw [List.append_nil]; omega))
          go_wp2_with (first
            | (go_at_call 70; refine HIE.out.mono ?_; rintro e w1 ⟨rfl, hw⟩; have HW1 := hid hw; clear hw)
            | (go_at_call 71; refine (HNM.out _ HW1.out).mono ?_; rintro e w9 ⟨u, rfl, hpn, hw⟩; have HPN := hid hpn; have HW9 := hid hw; obtain ⟨ua, ul, uc, rfl⟩ : ∃ ua ul uc, u = .slice ua ul uc := (by obtain ⟨a, c, h, -⟩ := hpn; exact ⟨_, _, _, h⟩); have HW2 := hid (HW1.out.trans (hw.mono HW1.out.size)); obtain ⟨ka0, ka1, ka2, ka3⟩ := yown2 (HO1.out _ HW2.out); clear hw hpn))
          refine bodyPost_ret (v := .tuple #[.agg #[.slice ua ul uc, .func (.func 72) #[.pointer (some ⟨w.heap.size + 1, 0, none⟩)] #[]], .bool true]) (by simp [results, Tryz.results52, go_sem, ka0, ka1]) rfl ?_
          have hs1 := HW1.out.size
          have hpn := HPN.out
          rw [List.append_nil] at hpn
          refine partedSome (by rw [HSY2.out]; unfold eI; rw [hem]; rfl) (by omega) HR.out hpn (fun g hg => ⟨by have := hg.1; omega, hg.2⟩) (HQ.out.below.trans (HW2.out.mono hszr))
        | false =>
          rw [hem] at HIE
          have HPC := hid (fun W (hW : Below wr.heap.size wr W) => HC.out last W _ (HL1.out hem) (by omega) (HGL.out hem) (HQ.out.below.trans (hW.mono hszr)) (InAt.keep ((HQ.out.below.trans (hW.mono hszr)).on HR.out) _ HLA.out))
          cases hpk : pnI K last with
          | none =>
            have HNO : Hid (pnI K p = none) := by
              show _ = _
              rw [HSY2.out]
              unfold eI
              rw [hem, hpk]; rfl
            unfold Parted at HPC
            rw [hpk] at HPC
            simp only [Option.isSome_none] at HPC
            clear hpk
            go_wp2_with (go_at_call 70; refine HIE.out.mono ?_; rintro e w1 ⟨rfl, hw⟩; have HW1 := hid hw; clear hw)
            refine (HPC.out _ HW1.out).mono ?_
            rintro e w2 ⟨na, nn, nc, mf, ns, rfl, hfn, -, -, -, hw⟩
            have HA := hid (fun o : Obj => ((HW1.out.trans (hw.mono HW1.out.size)).alloc (by have := HW1.out.size; have := hw.size; omega) o))
            have ha1 := fun o : Obj => yown2 (HO1.out _ (HA.out o))
            obtain ⟨ka0, ka1, ka2, ka3⟩ : (∀ o, (w2.alloc o).cell? ⟨w.heap.size, 0, none⟩ = some (.slice none 0 0)) ∧ (∀ o, (w2.alloc o).cell? ⟨w.heap.size, 1, none⟩ = some .nilFunc) ∧ (∀ o, (w2.alloc o).frozen? ⟨w.heap.size, 0, none⟩ = false) ∧ (∀ o, (w2.alloc o).frozen? ⟨w.heap.size, 1, none⟩ = false) := ⟨fun o => (ha1 o).1, fun o => (ha1 o).2.1, fun o => (ha1 o).2.2.1, fun o => (ha1 o).2.2.2⟩
            clear ha1 hw
            rcases hfn with rfl | ⟨fn, pp, qq, rfl⟩
            all_goals
              go_wp2_with fail
              refine bodyPost_ret (v := .tuple #[.agg #[.slice none 0 0, .nilFunc], .bool false]) (by simp [results, Tryz.results52, go_sem, ka0, ka1]) rfl ?_
              exact partedNone HNO.out (((HQ.out.below.trans ((HA.out _).mono hszr)).setCell (p := ⟨w.heap.size, 0, none⟩) (Nat.le_refl _) _).setCell (p := ⟨w.heap.size, 1, none⟩) (Nat.le_refl _) _)
          | some es =>
            have HPK := hid hpk
            unfold Parted at HPC
            rw [hpk] at HPC
            simp only [Option.isSome_some] at HPC
            clear hpk
            go_wp2_with (go_at_call 70; refine HIE.out.mono ?_; rintro e w1 ⟨rfl, hw⟩; have HW1 := hid hw; clear hw)
            refine (HPC.out _ HW1.out).mono ?_
            rintro e w2 ⟨na, nn, nc, mf, ns, rfl, hfn, hns, hnl, hpn, hw⟩
            have hns' : ns = es := hns es rfl
            subst hns'
            have hs1 := HW1.out.size
            have hs2 := hw.size
            have HW2 := hid (HW1.out.trans (hw.mono hs1))
            have HA := hid (fun o : Obj => (HW2.out.alloc (by omega) o))
            have HPE := hid hpn
            have hl4 := fun o : Obj => yown4f (HO2.out _ (HA.out o))
            obtain ⟨la3, lf3⟩ : (∀ o, (w2.alloc o).cell? ⟨w.heap.size + 1, 3, none⟩ = some (.pointer none)) ∧ (∀ o, (w2.alloc o).frozen? ⟨w.heap.size + 1, 3, none⟩ = false) := ⟨fun o => (hl4 o).1.2.2.2, fun o => (hl4 o).2.2.2.2⟩
            clear hl4 hpn hns
            have HNM : Hid (∀ (cs : Array Value) (hcs : cs = #[.slice na nn nc, mf]), Calls Tryz.prog 71 #[.pointer (some ⟨w.heap.size + 1, 0, none⟩)] ((w2.alloc (.cells cs 47)).setCell ⟨w.heap.size + 1, 3, none⟩ (.pointer (some ⟨w2.heap.size, 0, none⟩))) fun e w' => ∃ u, e = .returned u ∧ PnY R (Fresh ((w2.alloc (.cells cs 47)).setCell ⟨w.heap.size + 1, 3, none⟩ (.pointer (some ⟨w2.heap.size, 0, none⟩))) w') w' u (qs.flatten ++ ns) ∧ Below ((w2.alloc (.cells cs 47)).setCell ⟨w.heap.size + 1, 3, none⟩ (.pointer (some ⟨w2.heap.size, 0, none⟩))).heap.size ((w2.alloc (.cells cs 47)).setCell ⟨w.heap.size + 1, 3, none⟩ (.pointer (some ⟨w2.heap.size, 0, none⟩))) w') := fun cs hcs => by
              subst hcs
              have hsz : ((w2.alloc (.cells #[.slice na nn nc, mf] 47)).setCell ⟨w.heap.size + 1, 3, none⟩ (.pointer (some ⟨w2.heap.size, 0, none⟩))).heap.size = w2.heap.size + 1 := by simp [World.setCell]
              have hO := Own.set (HO2.out _ (HA.out (.cells #[.slice na nn nc, mf] 47))) 3 (.pointer (some ⟨w2.heap.size, 0, none⟩))
              refine names_any (w.heap.size + 1) (w.heap.size + 1 + 1) qs ns R (Fresh w1 w2) _ va (.pointer (some ⟨w2.heap.size, 0, none⟩)) oth rep (by simpa using hO) ((HQ.out.parts.keep (HA.out _) HBR.out).set (by show w.heap.size + 1 < _; omega) (fun h => by have h1 : w.heap.size + 1 < w.heap.size := HR.out _ h; omega) _) (Or.inr ⟨w2.heap.size, _, mf, rfl, ownSet (own_new w2 _ _) (by show w2.heap.size ≠ w.heap.size + 1; omega) _, (HPE.out.keep (fun g hg => ?_) (fun c hc => ?_))⟩) (fun g hg => by rw [hsz]; have := hg.2; omega) (fun c hc => by rw [hsz]; have := HBR.out c hc; omega) hqs (by rw [List.length_append]; omega)
              · have h1 := hg.1
                have h2 := hg.2
                rw [Below.heap_setCell _ _ _ _ (by show g ≠ w.heap.size + 1; omega), Below.heap_alloc _ _ _ h2]
              · have h1 := HBR.out c hc
                have h2 := HR.out c hc
                rw [Below.heap_setCell _ _ _ _ (by show c ≠ w.heap.size + 1; omega), Below.heap_alloc _ _ _ (by omega)]
            rcases hfn with rfl | ⟨fn, pp, qq, rfl⟩
            all_goals
              go_wp2_with (go_at_call 71; (refine (HNM.out _ rfl).mono ?_; rintro e w9 ⟨u, rfl, hpn, hw⟩; have HPN := hid hpn; have HW9 := hid hw; obtain ⟨ua, ul, uc, rfl⟩ : ∃ ua ul uc, u = .slice ua ul uc := (by obtain ⟨a, c, h, -⟩ := hpn; exact ⟨_, _, _, h⟩); have hO9 := (ownSet (HO1.out _ (HA.out _)) (p := ⟨w.heap.size + 1, 3, none⟩) (by show w.heap.size ≠ w.heap.size + 1; omega) _).keep hw (by simp [World.setCell]; omega); obtain ⟨ka0, ka1, ka2, ka3⟩ := yown2 hO9; clear hw hpn hO9))
              refine bodyPost_ret (v := .tuple #[.agg #[.slice ua ul uc, .func (.func 72) #[.pointer (some ⟨w.heap.size + 1, 0, none⟩)] #[]], .bool true]) (by simp [results, Tryz.results52, go_sem, ka0, ka1]) rfl ?_
              refine partedSome (by rw [HSY2.out]; unfold eI; rw [hem, HPK.out]; rfl) (by rw [List.length_append]; omega) HR.out HPN.out (fun g hg => ⟨by have h := hg.1; simp [World.setCell] at h; omega, hg.2⟩) (((HQ.out.below.trans ((HA.out _).mono hszr)).setCell (p := ⟨w.heap.size + 1, 3, none⟩) (by show w.heap.size ≤ w.heap.size + 1; omega) _).trans (HW9.out.mono (by simp [World.setCell]; omega)))
      · have hlt : k < ps.length := by omega
        have hdl : (ps.drop k).length = m := by rw [List.length_drop]; omega
        obtain ⟨b', o', x0, hab, g0, hx0⟩ := HF.out.get 0 (by omega)
        subst hab
        rw [List.getElem_drop] at hx0
        simp only [Nat.add_zero] at hx0 g0
        have hszr := HQ.out.below.size
        have hmp : 0 < m := by omega
        have hsd := szs_drop ps k hlt
        have hsl := szs_le ps k
        have HPC := hid (HC.out ps[k] wr x0 (by omega) (by omega) (HGP.out _ (List.getElem_mem hlt)) HQ.out.below hx0)
        obtain ⟨xt, xx, rfl⟩ := hx0.iface
        have HBR : Hid (∀ c, R c → c < wr.heap.size) := fun c h => by have := HR.out c h; omega
        clear hsl
        have HGetY : Hid (1 < m → ∃ yt yx d, (∀ h : k + 1 < ps.length, wordI ps[k + 1] [46, 46, 46] = d) ∧ (∀ W, Below wr.heap.size wr W → W.cell? ⟨b', o' + 1, none⟩ = some (.iface yt yx)) ∧ ∀ W, Below wr.heap.size wr W → Calls Tryz.prog 50 #[.iface yt yx] W fun e w' => e = .returned (.bool d) ∧ Below W.heap.size W w') := fun h1 => by
          obtain ⟨b2, o2, y0, e2, g2, hy0⟩ := HF.out.get 1 (by omega)
          cases e2
          rw [List.getElem_drop] at hy0
          obtain ⟨yt, yx, rfl⟩ := hy0.iface
          have hb2 : R b' := by
            rcases HF.out with h | ⟨_, _, h, h', -⟩
            · rw [h] at hdl; simp at hdl; omega
            · cases h; exact h'
          refine ⟨yt, yx, wordI ps[k + 1] [46, 46, 46], fun _ => rfl, fun W hW => (hW.cell (p := ⟨b', o' + 1, none⟩) (HBR.out _ hb2)).trans g2, fun W hW => ?_⟩
          exact isDots_any ps[k + 1] R W (.iface yt yx) (InAt.keep (hW.on HBR.out) _ hy0)
        have HO2 : Hid (∀ W, Below wr.heap.size wr W → Own W (w.heap.size + 1) 118 #[va, .int .i64 oth, .bool rep, .pointer none]) := fun W hW => HQ.out.list.keep hW HQ.out.list.lt
        have HO1 : Hid (∀ W, Below wr.heap.size wr W → Own W w.heap.size 47 #[.slice none 0 0, .nilFunc]) := fun W hW => HQ.out.res.keep hW HQ.out.res.lt
        cases hpk : pnI K ps[k] with
        | none =>
          have HNO : Hid (pnI K p = none) := by
            show _ = _
            rw [HSY.out]
            unfold listP
            rw [HQ.out.says, goP_none K ps k hlt rep hpk]; rfl
          unfold Parted at HPC
          rw [hpk] at HPC
          simp only [Option.isSome_none] at HPC
          clear hpk
          by_cases hm1 : m = 1
          · subst hm1
            go_wp2_with fail
            refine HPC.out.mono ?_
            rintro e w1 ⟨na, nn, nc, mf, ns, rfl, hfn, -, -, -, hw⟩
            have HA := hid (fun o : Obj => (hw.alloc hw.size o))
            have ha1 := fun o : Obj => yown2 (HO1.out _ (HA.out o))
            obtain ⟨ka0, ka1, ka2, ka3⟩ : (∀ o, (w1.alloc o).cell? ⟨w.heap.size, 0, none⟩ = some (.slice none 0 0)) ∧ (∀ o, (w1.alloc o).cell? ⟨w.heap.size, 1, none⟩ = some .nilFunc) ∧ (∀ o, (w1.alloc o).frozen? ⟨w.heap.size, 0, none⟩ = false) ∧ (∀ o, (w1.alloc o).frozen? ⟨w.heap.size, 1, none⟩ = false) := ⟨fun o => (ha1 o).1, fun o => (ha1 o).2.1, fun o => (ha1 o).2.2.1, fun o => (ha1 o).2.2.2⟩
            clear ha1 hw
            rcases hfn with rfl | ⟨fn, pp, qq, rfl⟩
            all_goals
              go_wp2_with fail
              refine bodyPost_ret (v := .tuple #[.agg #[.slice none 0 0, .nilFunc], .bool false]) (by simp [results, Tryz.results52, go_sem, ka0, ka1]) rfl ?_
              exact partedNone HNO.out (((HQ.out.below.trans ((HA.out _).mono hszr)).setCell (p := ⟨w.heap.size, 0, none⟩) (Nat.le_refl _) _).setCell (p := ⟨w.heap.size, 1, none⟩) (Nat.le_refl _) _)
          · have hm2 : 1 < m := by omega
            obtain ⟨yt, yx, d, -, hy1, hy2⟩ := HGetY.out hm2
            have HY1 := hid hy1
            have HY2 := hid hy2
            clear hy1 hy2
            go_wp2_with fail
            refine HPC.out.mono ?_
            rintro e w1 ⟨na, nn, nc, mf, ns, rfl, hfn, -, -, -, hw⟩
            have HA := hid (fun o : Obj => (hw.alloc hw.size o))
            have y1 := fun o : Obj => HY1.out _ (HA.out o)
            clear hw
            rcases hfn with rfl | ⟨fn, pp, qq, rfl⟩
            all_goals
              go_wp2_with (go_at_call 50; refine (HY2.out _ (HA.out _)).mono ?_; rintro e w2 ⟨rfl, hw2⟩; have HA := hid (fun _ : Obj => (HA.out _).trans (hw2.mono (HA.out _).size)); obtain ⟨ka0, ka1, ka2, ka3⟩ := yown2 (HO1.out _ (HA.out (.cells #[] 0))); clear hw2)
              refine bodyPost_ret (v := .tuple #[.agg #[.slice none 0 0, .nilFunc], .bool false]) (by simp [results, Tryz.results52, go_sem, ka0, ka1]) rfl ?_
              exact partedNone HNO.out (((HQ.out.below.trans ((HA.out (.cells #[] 0)).mono hszr)).setCell (p := ⟨w.heap.size, 0, none⟩) (Nat.le_refl _) _).setCell (p := ⟨w.heap.size, 1, none⟩) (Nat.le_refl _) _)
        | some ns0 =>
          have HPK := hid hpk
          unfold Parted at HPC
          rw [hpk] at HPC
          simp only [Option.isSome_some] at HPC
          clear hpk
          have hkl : ps.length ≤ 1048576 := by have := ims_len ps; omega
          by_cases hm1 : m = 1
          · subst hm1
            go_wp2_with fail
            refine HPC.out.mono ?_
            rintro e w1 ⟨na, nn, nc, mf, ns, rfl, hfn, hns, hnl, hpn, hw⟩
            have hns' : ns = ns0 := hns ns0 rfl
            subst hns'
            have hsl1 := hw.size
            have HA := hid (fun o : Obj => (hw.alloc hw.size o))
            have HPut : Hid (∀ W (hb : Below w1.heap.size w1 W) (r : Bool), Calls Tryz.prog 69 #[.pointer (some ⟨w.heap.size + 1, 0, none⟩), .agg #[.slice na nn nc, mf], .bool r] W fun e w' => e = .returned (.tuple #[]) ∧ (∃ v' oth', Own w' (w.heap.size + 1) 118 #[v', .int .i64 oth', .bool (rep || r), .pointer none] ∧ LstY R w' (w.heap.size + 1 + 1) v' (qs ++ [ns])) ∧ Below (w.heap.size + 1) W w') := fun W hb r => by
              have hwW := hw.trans (hb.mono hsl1)
              have h1 := HQ.out.list.lt
              have h2 := hwW.size
              have h3 := hb.size
              refine put_any (w.heap.size + 1) (w.heap.size + 1 + 1) qs ns R W va _ mf (.pointer none) oth rep r (HO2.out W hwW) (HQ.out.parts.keep hwW HBR.out) (by omega) (by omega) ((hpn.keep (fun g hg => hb.block g hg.2) (hb.on (fun c h => by have := HBR.out c h; omega))).mono (fun g hg => ⟨by have := hg.1; omega, by have := hg.2; omega, fun e => ?_⟩)) (fun c h => by have := HR.out c h; omega) (by have := HQ.out.many; omega) (by have := HQ.out.long; omega) hfn
              obtain ⟨cs, r1, -⟩ := HQ.out.parts
              have h4 := (r1.lt g e).2
              have h5 := hg.1
              omega
            have HBW := hid hw
            clear hpn hns hw
            have la2 := fun o : Obj => (yown4f (HO2.out _ (HA.out o))).1.2.2.1
            rcases hfn with rfl | ⟨fn, pp, qq, rfl⟩
            all_goals
              go_wp2_with (go_at_call 69; refine (HPut.out _ ((Below.refl _ _).alloc (Nat.le_refl _) _) _).mono ?_; rintro e w3 ⟨rfl, ⟨v', oth', hO3, hL3⟩, hw3⟩; have HO3 := hid hO3; have HL3 := hid hL3; have HW3 := hid hw3; clear hO3 hL3 hw3)
              refine ⟨⟨k + 1, 0, qs ++ [ns], rep || false, v', oth', _, _, by omega, Nat.zero_le _, rfl, HQ.out.step (HA.out _) HW3.out HO3.out HL3.out (Nat.lt_succ_self k) (by rw [Bool.or_false]; exact goP_last K ps k hlt (by omega) rep HPK.out) (by omega), ?_⟩, by show (0 : Nat) < 1; decide⟩
              exact HF.out.tail hlt hmk hmc (((HA.out _).on HBR.out).trans (HW3.out.on (fun c h => by have := HR.out c h; omega)))
          · have hm2 : 1 < m := by omega
            have hk1 : k + 1 < ps.length := by omega
            have hfc1 : ¬ fc = 1 := by omega
            obtain ⟨yt, yx, d, hd, hy1, hy2⟩ := HGetY.out hm2
            have HD := hid (hd hk1)
            have HY1 := hid hy1
            have HY2 := hid hy2
            clear hy1 hy2 hd
            go_wp2_with fail
            refine HPC.out.mono ?_
            rintro e w1 ⟨na, nn, nc, mf, ns, rfl, hfn, hns, hnl, hpn, hw⟩
            have hns' : ns = ns0 := hns ns0 rfl
            subst hns'
            have hsl1 := hw.size
            have HA := hid (fun o : Obj => (hw.alloc hw.size o))
            have HPut : Hid (∀ W (hb : Below w1.heap.size w1 W) (r : Bool), Calls Tryz.prog 69 #[.pointer (some ⟨w.heap.size + 1, 0, none⟩), .agg #[.slice na nn nc, mf], .bool r] W fun e w' => e = .returned (.tuple #[]) ∧ (∃ v' oth', Own w' (w.heap.size + 1) 118 #[v', .int .i64 oth', .bool (rep || r), .pointer none] ∧ LstY R w' (w.heap.size + 1 + 1) v' (qs ++ [ns])) ∧ Below (w.heap.size + 1) W w') := fun W hb r => by
              have hwW := hw.trans (hb.mono hsl1)
              have h1 := HQ.out.list.lt
              have h2 := hwW.size
              have h3 := hb.size
              refine put_any (w.heap.size + 1) (w.heap.size + 1 + 1) qs ns R W va _ mf (.pointer none) oth rep r (HO2.out W hwW) (HQ.out.parts.keep hwW HBR.out) (by omega) (by omega) ((hpn.keep (fun g hg => hb.block g hg.2) (hb.on (fun c h => by have := HBR.out c h; omega))).mono (fun g hg => ⟨by have := hg.1; omega, by have := hg.2; omega, fun e => ?_⟩)) (fun c h => by have := HR.out c h; omega) (by have := HQ.out.many; omega) (by have := HQ.out.long; omega) hfn
              obtain ⟨cs, r1, -⟩ := HQ.out.parts
              have h4 := (r1.lt g e).2
              have h5 := hg.1
              omega
            have HBW := hid hw
            clear hpn hns hw
            have y1 := fun o : Obj => HY1.out _ (HA.out o)
            cases d with
            | false =>
              have hsd2 := szs_drop ps k hlt
              rcases hfn with rfl | ⟨fn, pp, qq, rfl⟩
              all_goals
                go_wp2_with (first
                  | (go_at_call 50; refine (HY2.out _ (HA.out _)).mono ?_; rintro e w2 ⟨rfl, hw2⟩; obtain ⟨q0, q1, -⟩ := yown2 ((own_new w1 _ 47).keep hw2 (by simp)); have HB2 := hid (((Below.refl w1.heap.size w1).alloc (Nat.le_refl _) _).trans (hw2.mono (by simp))); have HA2 := hid (HBW.out.trans (HB2.out.mono hsl1)); clear hw2)
                  | (go_at_call 69; refine (HPut.out _ HB2.out _).mono ?_; rintro e w3 ⟨rfl, ⟨v', oth', hO3, hL3⟩, hw3⟩; have HO3 := hid hO3; have HL3 := hid hL3; have HW3 := hid hw3; clear hO3 hL3 hw3))
                refine ⟨⟨k + 1, m - 1, qs ++ [ns], rep || false, v', oth', _, _, by omega, by omega, rfl, HQ.out.step HA2.out HW3.out HO3.out HL3.out (Nat.lt_succ_self k) (by rw [Bool.or_false]; exact goP_one K ps k hlt hk1 rep HPK.out HD.out) (by omega), ?_⟩, by show m - 1 < m; omega⟩
                have h := HF.out.tail hlt hmk hmc ((HA2.out.on HBR.out).trans (HW3.out.on (fun c h => by have := HR.out c h; omega)))
                rw [if_neg hfc1] at h
                exact h
            | true =>
              have hsd2 := szs_drop ps k hlt
              have hsd3 := szs_drop ps (k + 1) hk1
              cases hr : rep with
              | true =>
                subst hr
                have HNO : Hid (pnI K p = none) := by
                  show _ = _
                  rw [HSY.out]
                  unfold listP
                  rw [HQ.out.says, goP_rep K ps k hlt hk1 true HPK.out HD.out]; rfl
                rcases hfn with rfl | ⟨fn, pp, qq, rfl⟩
                all_goals
                  go_wp2_with (go_at_call 50; refine (HY2.out _ (HA.out _)).mono ?_; rintro e w2 ⟨rfl, hw2⟩; obtain ⟨q0, q1, -⟩ := yown2 ((own_new w1 _ 47).keep hw2 (by simp)); have HB2 := hid (((Below.refl w1.heap.size w1).alloc (Nat.le_refl _) _).trans (hw2.mono (by simp))); have HA2 := hid (HBW.out.trans (HB2.out.mono hsl1)); obtain ⟨⟨-, -, l2, -⟩, -⟩ := yown4f (HO2.out _ HA2.out); obtain ⟨ka0, ka1, ka2, ka3⟩ := yown2 (HO1.out _ HA2.out); clear hw2)
                  refine bodyPost_ret (v := .tuple #[.agg #[.slice none 0 0, .nilFunc], .bool false]) (by simp [results, Tryz.results52, go_sem, ka0, ka1]) rfl ?_
                  exact partedNone HNO.out (((HQ.out.below.trans (HA2.out.mono hszr)).setCell (p := ⟨w.heap.size, 0, none⟩) (Nat.le_refl _) _).setCell (p := ⟨w.heap.size, 1, none⟩) (Nat.le_refl _) _)
              | false =>
                subst hr
                rcases hfn with rfl | ⟨fn, pp, qq, rfl⟩
                all_goals
                  go_wp2_with (first
                    | (go_at_call 50; refine (HY2.out _ (HA.out _)).mono ?_; rintro e w2 ⟨rfl, hw2⟩; obtain ⟨q0, q1, -⟩ := yown2 ((own_new w1 _ 47).keep hw2 (by simp)); have HB2 := hid (((Below.refl w1.heap.size w1).alloc (Nat.le_refl _) _).trans (hw2.mono (by simp))); have HA2 := hid (HBW.out.trans (HB2.out.mono hsl1)); obtain ⟨⟨-, -, l2, -⟩, -⟩ := yown4f (HO2.out _ HA2.out); obtain ⟨ka0, ka1, ka2, ka3⟩ := yown2 (HO1.out _ HA2.out); clear hw2)
                    | (go_at_call 69; refine (HPut.out _ HB2.out _).mono ?_; rintro e w3 ⟨rfl, ⟨v', oth', hO3, hL3⟩, hw3⟩; have HO3 := hid hO3; have HL3 := hid hL3; have HW3 := hid hw3; clear hO3 hL3 hw3))
                  refine ⟨⟨k + 1 + 1, m - 1 - 1, qs ++ [ns], false || true, v', oth', _, _, by omega, by omega, rfl, HQ.out.step HA2.out HW3.out HO3.out HL3.out (by omega) (by rw [goP_rep K ps k hlt hk1 false HPK.out HD.out]; rfl) (by omega), ?_⟩, by show m - 1 - 1 < m; omega⟩
                  have h1 := HF.out.tail hlt hmk hmc (SameOn.refl _ _)
                  rw [if_neg hfc1] at h1
                  have h2 := h1.tail (m := m - 1) (fc := fc - 1) hk1 (by omega) (by omega) ((HA2.out.on HBR.out).trans (HW3.out.on (fun c h => by have := HR.out c h; omega)))
                  by_cases h3 : fc = 2
                  · rw [if_pos h3]; rw [if_pos (by omega)] at h2; exact h2
                  · rw [if_neg h3]; rw [if_neg (by omega)] at h2; exact h2
end Go.Proofs.YthlacjabelpehaaGreatDoor

namespace Go.Proofs.YthlacjabelpehaaGreatDoor
open Go.RowKit Go.Siskin

theorem partedAny {K : List (List UInt8)} {p : Im} {R G : Nat → Prop} {w w2 : World} {ns : List Fm} {ua : Option Addr} {ul uc : Nat} {m : Value} {z : Bool} (hm : FnV m) (h : (pnI K p).isSome = z) (hns : ∀ ns0, pnI K p = some ns0 → ns = ns0) (hl : ns.length ≤ p.sz) (hR : ∀ c, R c → c < w.heap.size) (hpn : PnY R G w2 (.slice ua ul uc) ns) (hG : ∀ g, G g → w.heap.size < g ∧ g < w2.heap.size) (hb : Below w.heap.size w w2) :
    Parted K p R w (.returned (.tuple #[.agg #[.slice ua ul uc, m], .bool z])) ((w2.setCell ⟨w.heap.size, 0, none⟩ (.slice ua ul uc)).setCell ⟨w.heap.size, 1, none⟩ (m)) := by
  refine ⟨ua, ul, uc, _, ns, by rw [h], hm, hns, hl, (hpn.keep (fun g hg => ?_) (fun c hc => ?_)).mono (fun g hg => ⟨by have := (hG g hg).1; omega, by simpa [World.setCell] using (hG g hg).2⟩), (hb.setCell (p := ⟨w.heap.size, 0, none⟩) (Nat.le_refl _) _).setCell (p := ⟨w.heap.size, 1, none⟩) (Nat.le_refl _) _⟩
  · have := (hG g hg).1
    rw [Below.heap_setCell _ _ _ _ (by show g ≠ w.heap.size; omega), Below.heap_setCell _ _ _ _ (by show g ≠ w.heap.size; omega)]
  · have := hR c hc
    rw [Below.heap_setCell _ _ _ _ (by show c ≠ w.heap.size; omega), Below.heap_setCell _ _ _ _ (by show c ≠ w.heap.size; omega)]
theorem wordI_dots_id (f : Fm) : wordI (.id f.text f.scopes f.frm) [46, 46, 46] = (f.text.toList == [46, 46, 46]) := wordI_id _ _ _ _

set_option maxRecDepth 20000 in
set_option maxHeartbeats 2000000 in
theorem partOf_id (K : List (List UInt8)) (t : ByteArray) (sc : List Int) (fr : Int) (R : Nat → Prop) (w : World) (b : Nat) (v : Value) (hA : InAt R w (.id t sc fr) v) (hgood : GoodP (.id t sc fr)) (hR : ∀ c, R c → c < w.heap.size) (hP : PlY w b K) (hT : TabY w) :
    Calls Tryz.prog 39 #[v, .map (some b)] w (Parted K (.id t sc fr) R w) := by
  obtain ⟨c2, rfl, ht, h2⟩ := InAt_id.1 hA
  have HR := hid hR
  have hg := goodP_id _ _ _ hgood
  have HWP := hid (fun W (hW : Below w.heap.size w W) => wordPattern_any ⟨1, t, sc, fr, []⟩ c2 R W b K (hP.below hW) (h2.keep (hW.on hR)) (fun c h => by have := hR c h; have := hW.size; omega) hg (hT.below hW rfl))
  have HDT := hid (fun W (hW : Below w.heap.size w W) => isDots_any (.id t sc fr) R W _ (InAt.keep (hW.on hR) _ hA))
  simp only [wordI_id] at HDT
  have HSAY : Hid (pnI K (.id t sc fr) = if (t.toList == [46, 46, 46]) = true then none else some (wnF K ⟨1, t, sc, fr, []⟩)) := pnI_id K t sc fr
  obtain ⟨a2, k2, rfl, -⟩ := h2
  obtain ⟨d, hd⟩ : ∃ d, d = (t.toList == [46, 46, 46]) := ⟨_, rfl⟩
  rw [← hd] at HDT HSAY
  have HO1 : Hid (Own (((w.alloc (.cells #[.slice none 0 0, .nilFunc] 47)).alloc (.cells #[.string t, .slice a2 sc.length k2, .int .i64 fr] 73)).drew) w.heap.size 47 #[.slice none 0 0, .nilFunc]) := (ownAlloc (own_new w #[.slice none 0 0, .nilFunc] 47) (.cells #[.string t, .slice a2 sc.length k2, .int .i64 fr] 73))
  have HO2 : Hid (Own (((w.alloc (.cells #[.slice none 0 0, .nilFunc] 47)).alloc (.cells #[.string t, .slice a2 sc.length k2, .int .i64 fr] 73)).drew) (w.heap.size + 1) 73 #[.string t, .slice a2 sc.length k2, .int .i64 fr]) := (own_new2 w (.cells #[.slice none 0 0, .nilFunc] 47) #[.string t, .slice a2 sc.length k2, .int .i64 fr] 73)
  obtain ⟨s0, s1, s2⟩ := yown3 HO2.out
  have HA : Hid (Below w.heap.size w (((w.alloc (.cells #[.slice none 0 0, .nilFunc] 47)).alloc (.cells #[.string t, .slice a2 sc.length k2, .int .i64 fr] 73)).drew)) := (((Below.refl _ _).alloc (Nat.le_refl _) _).alloc (by simp) _).drew
  clear hA hR hP hT hg hgood hd
  go_enter Tryz.func39, Tryz.ntmps39
  go_wp2_with fail
  go_region_law (first
    | (go_simp
       go_at_call 49
       (refine (HWP.out _ HA.out).mono ?_; rintro e w1 ⟨u, fn, p, q, rfl, hpn, hw⟩; have hs1 : w.heap.size + 1 + 1 ≤ w1.heap.size := (by have h := hw.size; change (World.alloc (World.alloc w _) _).heap.size ≤ _ at h; simp only [World.size_alloc] at h; exact h); have HPN := hid (hpn.mono (G' := fun g => w.heap.size + 1 + 1 ≤ g ∧ g < w1.heap.size) (fun g hg => ⟨by have h := hg.1; change (World.alloc (World.alloc w _) _).heap.size ≤ _ at h; simp only [World.size_alloc] at h; exact h, hg.2⟩)); obtain ⟨ua, ul, uc, rfl⟩ : ∃ ua ul uc, u = .slice ua ul uc := (by obtain ⟨a, c, h, -⟩ := hpn; exact ⟨_, _, _, h⟩); have HT := hid (Below.refl w1.heap.size w1); have HO1 := hid (HO1.out.keep hw (by show w.heap.size < (World.alloc (World.alloc w _) _).heap.size; simp; omega)); have HO2 := hid (HO2.out.keep hw (by show w.heap.size + 1 < (World.alloc (World.alloc w _) _).heap.size; simp)); obtain ⟨s0, s1, s2⟩ := yown3 HO2.out; obtain ⟨z0, z1, z2, z3⟩ := yown2 HO1.out; have HA := hid (HA.out.trans (hw.mono (by have h := HA.out.size; exact h))); clear hw hpn))
    | (go_simp
       go_at_call 50
       (refine (HDT.out _ HA.out).mono ?_; rintro e w5 ⟨rfl, hw⟩; have hs5 : w.heap.size + 1 + 1 ≤ w5.heap.size := (by have h := hw.size; first | (change (World.alloc (World.alloc w _) _).heap.size ≤ _ at h; simp only [World.size_alloc] at h; exact h) | omega); (first | have HT := hid (HT.out.trans (hw.mono (by have h := HT.out.size; exact h))) | skip); have HO1 := hid (HO1.out.keep hw (by first | omega | (show w.heap.size < (World.alloc (World.alloc w _) _).heap.size; simp; omega))); have HO2 := hid (HO2.out.keep hw (by first | omega | (show w.heap.size + 1 < (World.alloc (World.alloc w _) _).heap.size; simp))); obtain ⟨s0, s1, s2⟩ := yown3 HO2.out; obtain ⟨z0, z1, z2, z3⟩ := yown2 HO1.out; have HA := hid (HA.out.trans (hw.mono (by have h := HA.out.size; exact h))); clear hw)))
  all_goals go_wp2_with fail
  all_goals
    refine bodyPost_ret (v := .tuple #[.agg #[.slice ua ul uc, .func fn p q], .bool (!d)]) (by simp [results, Tryz.results39, go_sem, z0, z1]) rfl ?_
    have hst := HT.out.size
    refine partedAny (Or.inr ⟨_, _, _, rfl⟩) (G := fun g => w.heap.size + 1 + 1 ≤ g ∧ g < w1.heap.size) (by rw [HSAY.out]; cases d <;> rfl) (fun ns0 e => ?_) ?_ HR.out (HPN.out.keep (fun g hg => HT.out.block g hg.2) (HT.out.on (fun c hc => by have := HR.out c hc; omega))) (fun g hg => ⟨by have := hg.1; omega, by have := hg.2; omega⟩) HA.out
    · rw [HSAY.out] at e
      cases d with
      | true => simp at e
      | false => exact Option.some.inj e
    · rw [show (Im.id t sc fr).sz = 1 from by rw [Im.sz_eq]; simp [Im.id, Im.szs]]
      unfold wnF
      split
      · simp
      · split <;> simp

set_option maxRecDepth 20000 in
set_option maxHeartbeats 2000000 in
theorem partOf_atom (K : List (List UInt8)) (t : ByteArray) (R : Nat → Prop) (w : World) (b : Nat) (v : Value) (hA : InAt R w (.atom t) v) (hR : ∀ c, R c → c < w.heap.size) :
    Calls Tryz.prog 39 #[v, .map (some b)] w (Parted K (.atom t) R w) := by
  obtain ⟨rfl, ht⟩ := InAt_atom.1 hA
  have HR := hid hR
  have HAP := hid (fun W => atomPattern_any t W)
  clear hA hR ht
  go_enter Tryz.func39, Tryz.ntmps39
  go_wp2_with (go_at_call 51; refine (HAP.out _).mono ?_; rintro e w1 ⟨fn, p, q, rfl, hw⟩; have HW := hid hw; obtain ⟨z0, z1, z2, z3⟩ := yown2 ((ownAlloc (own_new w #[.slice none 0 0, .nilFunc] 47) _).keep hw (by simp; omega)); have hs1 := hw.size; simp only [World.size_alloc] at hs1; clear hw)
  refine bodyPost_ret (v := .tuple #[.agg #[.slice none 0 0, .func fn p q], .bool true]) (by simp [results, Tryz.results39, go_sem, z0, z1]) rfl ?_
  refine partedAny (Or.inr ⟨_, _, _, rfl⟩) (G := fun _ => False) (ns := []) (by rw [pnI_atom]; rfl) (fun ns0 e => by rw [pnI_atom] at e; exact Option.some.inj e) (Nat.zero_le _) HR.out (pnY_none _ _ _) (fun g hg => hg.elim) ((((Below.refl _ _).alloc (Nat.le_refl _) _).alloc (by simp) _).trans (HW.out.mono (by simp; omega)))

set_option maxRecDepth 20000 in
set_option maxHeartbeats 2000000 in
theorem partOf_list (K : List (List UInt8)) (n : Nat) (ih : PartY K n) (p : Im) (hk : p.kind = 3 ∨ p.kind = 4) (hp : p.sz ≤ n + 1) (hp2 : p.sz ≤ 1048576) (hgood : GoodP p) (R : Nat → Prop) (w : World) (b : Nat) (v : Value) (hA : InAt R w p v) (hR : ∀ c, R c → c < w.heap.size) (hP : PlY w b K) (hT : TabY w) :
    Calls Tryz.prog 39 #[v, .map (some b)] w (Parted K p R w) := by
  have HR := hid hR
  have HL := hid (fun W (hW : Below w.heap.size w W) => listPatternOf_any K n ih p hk hp hp2 hgood R W b v (InAt.keep (hW.on hR) _ hA) (fun c h => by have := hR c h; have := hW.size; omega) (hP.below hW) (hT.below hW rfl))
  obtain ⟨T, x, rfl, hsel⟩ : ∃ T x, v = .iface T x ∧ (T = 102 ∨ T = 104) := by
    rcases (InAt_kinds _ _ _ _).1 hA with ⟨t, sc, fr, rfl, -⟩ | ⟨t, rfl, -⟩ | ⟨ps, rfl, a, cap, rfl, -⟩ | ⟨ps, l, rfl, a, cap, e, rfl, -⟩
    · simp [Im.id] at hk
    · simp [Im.atom] at hk
    · exact ⟨_, _, rfl, Or.inl rfl⟩
    · exact ⟨_, _, rfl, Or.inr rfl⟩
  clear hA hR hP hT ih hgood hk
  rcases hsel with rfl | rfl
  all_goals
    go_enter Tryz.func39, Tryz.ntmps39
    go_wp2_with fail
    refine (HL.out _ ((Below.refl _ _).alloc (Nat.le_refl _) _)).mono ?_
    rintro e w1 ⟨na, nn, nc, mf, ns, rfl, hfn, hns, hnl, hpn, hw⟩
    have HW := hid hw
    have HPN := hid hpn
    obtain ⟨z0, z1, z2, z3⟩ := yown2 ((own_new w #[.slice none 0 0, .nilFunc] 47).keep hw (by simp))
    have hs1 := hw.size
    simp only [World.size_alloc] at hs1
    have HNS := hid hns
    clear hw hpn hns
    rcases hfn with rfl | ⟨fn, pp, qq, rfl⟩
    · go_wp2_with fail
      refine bodyPost_ret (v := .tuple #[.agg #[.slice na nn nc, .nilFunc], .bool (pnI K p).isSome]) (by simp [results, Tryz.results39, go_sem, z0, z1]) rfl ?_
      exact partedAny (Or.inl rfl) rfl HNS.out hnl HR.out HPN.out (fun g hg => ⟨by have h := hg.1; simp only [World.size_alloc] at h; omega, hg.2⟩) (((Below.refl _ _).alloc (Nat.le_refl _) _).trans (HW.out.mono (by simp)))
    · go_wp2_with fail
      refine bodyPost_ret (v := .tuple #[.agg #[.slice na nn nc, .func fn pp qq], .bool (pnI K p).isSome]) (by simp [results, Tryz.results39, go_sem, z0, z1]) rfl ?_
      exact partedAny (Or.inr ⟨_, _, _, rfl⟩) rfl HNS.out hnl HR.out HPN.out (fun g hg => ⟨by have h := hg.1; simp only [World.size_alloc] at h; omega, hg.2⟩) (((Below.refl _ _).alloc (Nat.le_refl _) _).trans (HW.out.mono (by simp)))

theorem partY_all (K : List (List UInt8)) : ∀ n, PartY K n
  | 0 => fun p hp => by
    have := Im.sz_eq p
    omega
  | n + 1 => fun p hp hp2 hgood R w b v hA hR hP hT => by
    have h := hA
    rw [InAt_kinds] at h
    rcases h with ⟨t, sc, fr, rfl, -⟩ | ⟨t, rfl, -⟩ | ⟨ps, rfl, -⟩ | ⟨ps, l, rfl, -⟩
    · exact partOf_id K t sc fr R w b v hA hgood hR hP hT
    · exact partOf_atom K t R w b v hA hR
    · exact partOf_list K n (partY_all K n) _ (Or.inl rfl) hp hp2 hgood R w b v hA hR hP hT
    · exact partOf_list K n (partY_all K n) _ (Or.inr rfl) hp hp2 hgood R w b v hA hR hP hT
end Go.Proofs.YthlacjabelpehaaGreatDoor

namespace Go.Proofs.YthlacjabelpehaaGreatDoor
open Go.RowKit Go.Siskin

theorem sz_memY : ∀ (ks : List Fm) (k : Fm), k ∈ ks → k.sz ≤ Fm.szs ks
  | [], k, hk => absurd hk (by simp)
  | a :: r, k, hk => by
    rw [Fm.szs_cons]
    rcases List.mem_cons.1 hk with rfl | hk
    · omega
    · have := sz_memY r k hk; omega
theorem oksB_memY : ∀ (ks : List Fm) (d : Nat), oksB ks d = true → ∀ k ∈ ks, okB k d = true
  | [], _, _, k, hk => absurd hk (by simp)
  | a :: r, d, h, k, hk => by
    rw [oksB_cons, Bool.and_eq_true] at h
    rcases List.mem_cons.1 hk with rfl | hk
    · exact h.1
    · exact oksB_memY r d h.2 k hk
theorem toIms_appendY (l : List Fm) (k : Fm) : toIms (l ++ [k]) = toIms l ++ [toIm k] := by simp [toIms]

/-- All scopes within are numbers of the machine. -/
def FitF : Fm → Prop
  | ⟨_, _, sc, _, ks⟩ => (∀ x ∈ sc, x ≤ 9223372036854775807) ∧ ∀ (i : Nat) (hi : i < ks.length), (have := List.sizeOf_lt_of_mem (List.getElem_mem hi); FitF ks[i])
theorem fitF_iff (f : Fm) : FitF f ↔ (∀ x ∈ f.scopes, x ≤ 9223372036854775807) ∧ ∀ k ∈ f.kids, FitF k := by
  obtain ⟨s, t, sc, fr, ks⟩ := f
  rw [FitF]
  constructor
  · rintro ⟨h1, h2⟩
    refine ⟨h1, fun k hk => ?_⟩
    obtain ⟨i, hi, rfl⟩ := List.getElem_of_mem hk
    exact h2 i hi
  · rintro ⟨h1, h2⟩
    exact ⟨h1, fun i hi => h2 _ (List.getElem_mem hi)⟩

/-- An identifier that is ok, and fits. -/
structure IdOk (f : Fm) : Prop where
  sort : f.sort = 1
  form : idFormB f = true
  fit : ∀ x ∈ f.scopes, x ≤ 9223372036854775807
  many : f.scopes.length ≤ 1048576
theorem IdOk.kids {f : Fm} (h : IdOk f) : f.kids = [] := by
  have := h.form
  unfold idFormB at this
  simp only [Bool.and_eq_true, decide_eq_true_eq] at this
  exact List.eq_nil_of_length_eq_zero this.2
theorem IdOk.eq {f : Fm} (h : IdOk f) : f = ⟨1, f.text, f.scopes, f.frm, []⟩ := by
  have h1 := h.sort
  have h2 := h.kids
  obtain ⟨s, t, sc, fr, ks⟩ := f
  simp only at h1 h2
  subst h1 h2
  rfl
theorem IdOk.nonneg {f : Fm} (h : IdOk f) : ∀ x ∈ f.scopes, 0 ≤ x := by
  have := h.form
  unfold idFormB scopesB at this
  simp only [Bool.and_eq_true, decide_eq_true_eq, List.all_eq_true] at this
  exact fun x hx => this.1.2.2 x hx
theorem IdOk.good {f : Fm} (h : IdOk f) : GoodI f where
  text := by
    have := h.form
    unfold idFormB at this
    simp only [Bool.and_eq_true, decide_eq_true_eq] at this
    have := this.1.1.1.2
    omega
  many := h.many
  fits := fun s hs => ⟨h.nonneg s hs, h.fit s hs⟩
theorem IdOk.nosp {f : Fm} (h : IdOk f) : ∀ c ∈ f.text.data.toList, c ≠ 32 := by
  have := h.form
  unfold idFormB Siskin.idB at this
  simp only [Bool.and_eq_true, decide_eq_true_eq, List.all_eq_true] at this
  intro c hc e
  have h1 := this.1.1.1.1.2 c hc
  subst e
  revert h1; decide
theorem key_same {f g : Fm} (hf : IdOk f) (hg : IdOk g) : (keyF f == keyF g) = sameF f g := by
  unfold sameF
  rw [hf.sort, hg.sort, Go.ByteArray.toList_eq, Go.ByteArray.toList_eq]
  by_cases h : keyF f = keyF g
  · obtain ⟨h1, h2⟩ := keyL_inj hf.nosp hg.nosp hf.nonneg hg.nonneg h
    rw [h, h1, h2]; simp
  · have h3 : (keyF f == keyF g) = false := by simpa using h
    rw [h3]
    symm
    by_cases h1 : f.text.data.toList = g.text.data.toList
    · by_cases h2 : f.scopes = g.scopes
      · exact absurd (show keyF f = keyF g from by unfold keyF keyL; rw [h1, h2]) h
      · have h5 : (f.scopes == g.scopes) = false := beq_eq_false_iff_ne.2 h2
        rw [h5]; simp
    · have h4 : (f.text.data.toList == g.text.data.toList) = false := beq_eq_false_iff_ne.2 h1
      rw [h4]; simp
theorem among_has {ls : List Fm} (hl : ∀ g ∈ ls, IdOk g) {f : Fm} (hf : IdOk f) : hasK (ls.map keyF) (keyF f) = amongF ls f := by
  unfold hasK amongF
  induction ls with
  | nil => rfl
  | cons g r ih =>
    rw [List.map_cons, List.contains_cons, List.any_cons, ih fun x hx => hl x (List.mem_cons_of_mem _ hx), ← key_same (hl g (List.mem_cons_self ..)) hf]
    congr 1
    rw [Bool.beq_comm]
end Go.Proofs.YthlacjabelpehaaGreatDoor
