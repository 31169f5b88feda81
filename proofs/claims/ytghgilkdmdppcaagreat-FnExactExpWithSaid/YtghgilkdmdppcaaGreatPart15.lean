/-
  The law's markExpFormS: what it writes into a row of forms of its own. Condition: each list of the forms lies in a block of its own.
  The law's heldExpFormS says of forms that were marked how far the numbers go. Condition: the forms lie in rows of their own, and are marked from a number on.
  The law's markExpForm and heldExpForm. Condition: each list of the form lies in a block of its own.
  How much the answers of ExpWith and ExpFlip cost, and how far their marks go. No program's step is walked here.
-/
import Derived.Test.YtghgilkdmdppcaaGreatPart14
import Derived.Deep.RegionHeld3
import Derived.Deep.RegionWith
import Derived.Test.YtghgilkdmdppcaaGreatPart13
namespace Go.Proofs.YtghgilkdmdppcaaGreat
open Go.RowKit Go.Siskin

/-- How many numbers marking a form takes. -/
def cntF : Fm → Nat
  | ⟨_, _, sc, _, ks⟩ => 3 + sc.length + (ks.map fun k => cntF k).sum
def cnts (ks : List Fm) : Nat := (ks.map cntF).sum
theorem cntF_eq (f : Fm) : cntF f = 3 + f.scopes.length + cnts f.kids := by
  obtain ⟨s, t, sc, fr, ks⟩ := f
  rw [cntF]; rfl
theorem cnts_take (ks : List Fm) (k : Nat) (h : k < ks.length) : cnts (ks.take (k + 1)) = cnts (ks.take k) + cntF ks[k] := by
  rw [List.take_succ_eq_append_getElem h]; unfold cnts
  simp only [List.map_append, List.sum_append, List.map_cons, List.map_nil, List.sum_cons, List.sum_nil, Nat.add_zero]
theorem cnts_cons (f : Fm) (r : List Fm) : cnts (f :: r) = cntF f + cnts r := by simp [cnts]
theorem cnts_take_le : ∀ (ks : List Fm) (k : Nat), cnts (ks.take k) ≤ cnts ks
  | [], k => by simp
  | a :: r, 0 => by simp [cnts]
  | a :: r, k + 1 => by have := cnts_take_le r k; simp only [List.take_succ_cons, cnts_cons]; omega
theorem cnts_same : ∀ (a b : List Fm) (k : Nat), a.length = b.length → (∀ i (h1 : i < a.length) (h2 : i < b.length), i < k → cntF a[i] = cntF b[i]) → cnts (a.take k) = cnts (b.take k)
  | [], [], k, _, _ => by simp
  | [], _ :: _, _, h, _ => by simp at h
  | _ :: _, [], _, h, _ => by simp at h
  | x :: r, y :: t, 0, _, _ => by simp [cnts]
  | x :: r, y :: t, k + 1, hl, h => by
    simp only [List.take_succ_cons, cnts_cons]
    have h0 := h 0 (by simp) (by simp) (by omega)
    simp only [List.getElem_cons_zero] at h0
    have ih := cnts_same r t k (by simpa using hl) (fun i h1 h2 hk => by
      have := h (i + 1) (by simpa using h1) (by simpa using h2) (by omega)
      simpa using this)
    omega

/-- A form that is marked from a number on. -/
def Marked : Fm → Nat → Prop
  | ⟨s, t, sc, fr, ks⟩, k => s = (k : Int) ∧ t = mtx (k + 1) ∧ sc = seqI (k + 2) sc.length ∧ fr = ((k + 2 + sc.length : Nat) : Int) ∧ ∀ (i : Nat) (hi : i < ks.length), (have := List.sizeOf_lt_of_mem (List.getElem_mem hi); Marked ks[i] (k + 3 + sc.length + cnts (ks.take i)))
def MarkedS (ks : List Fm) (k : Nat) : Prop := ∀ (i : Nat) (hi : i < ks.length), Marked ks[i] (k + cnts (ks.take i))
theorem marked_eq (f : Fm) (k : Nat) : Marked f k ↔ f.sort = (k : Int) ∧ f.text = mtx (k + 1) ∧ f.scopes = seqI (k + 2) f.scopes.length ∧ f.frm = ((k + 2 + f.scopes.length : Nat) : Int) ∧ MarkedS f.kids (k + 3 + f.scopes.length) := by
  obtain ⟨s, t, sc, fr, ks⟩ := f
  rw [Marked]; rfl

/-- Nothing but the blocks of S, and new ones, was written. -/
structure Only (S : Nat → Prop) (w w' : World) : Prop where
  os : w'.os = w.os
  tape : w'.tape = w.tape
  output : w'.output = w.output
  size : w.heap.size ≤ w'.heap.size
  block : ∀ b, b < w.heap.size → ¬ S b → w'.heap[b]? = w.heap[b]?
theorem Only.refl (S : Nat → Prop) (w : World) : Only S w w := ⟨rfl, rfl, rfl, Nat.le_refl _, fun _ _ _ => rfl⟩
theorem Only.trans {S : Nat → Prop} {a b c : World} (h : Only S a b) (k : Only S b c) : Only S a c :=
  ⟨k.os.trans h.os, k.tape.trans h.tape, k.output.trans h.output, Nat.le_trans h.size k.size, fun i h1 h2 => (k.block i (Nat.lt_of_lt_of_le h1 h.size) h2).trans (h.block i h1 h2)⟩
theorem Only.mono {S S' : Nat → Prop} {a b : World} (h : Only S a b) (hs : ∀ b, S b → S' b) : Only S' a b := ⟨h.os, h.tape, h.output, h.size, fun i h1 h2 => h.block i h1 fun e => h2 (hs i e)⟩
theorem only_below {S : Nat → Prop} {a b : World} (h : Below a.heap.size a b) : Only S a b := ⟨h.os, h.tape, h.output, h.size, fun i h1 _ => h.block i h1⟩
theorem only_grown {S : Nat → Prop} {a b : World} {row : Option Nat} (h : a.grownBy b row) (hr : ∀ g, row = some g → S g) : Only S a b := ⟨h.os, h.tape, h.output, h.size, fun i h1 h2 => h.block i h1 fun e => h2 (hr i e.symm)⟩
theorem Only.on {S T : Nat → Prop} {a b : World} (h : Only S a b) (hT : ∀ i, T i → i < a.heap.size ∧ ¬ S i) : SameOn T a b := fun i hi => h.block i (hT i hi).1 (hT i hi).2

theorem trow_len {w : World} {S : Nat → Prop} {a : Option Addr} {n c : Nat} {ks : List Fm} (h : TRow w S (.slice a n c) ks) : ks.length = n := by
  obtain ⟨cs, F, h⟩ := h
  obtain ⟨a', c', e⟩ := row_shape h.row
  cases e; rfl
/-- One form of a row is another now. -/
theorem TParts.put {w w' : World} {S : Nat → Prop} {v : Value} {ks : List Fm} {cs cs' : List Value} {F : Nat → Nat → Prop} (h : TParts w S v ks cs F) {j : Nat} (hj : j < ks.length) (hS : ∀ b, S b → b < w.heap.size) (ho : Only (fun b => F j b ∨ v.ownBlock = some b) w w')
    (hr : w'.ownsRow 0 29 5 v ks.length cs') {f : Fm} (hcs : ∀ i, (i < j * 5 ∨ j * 5 + 5 ≤ i) → cs'[i]? = cs[i]?) {k2 k4 : Value} (hf : cs'[j * 5]? = some (.int .i64 f.sort) ∧ cs'[j * 5 + 1]? = some (.string f.text) ∧ cs'[j * 5 + 2]? = some k2 ∧ cs'[j * 5 + 3]? = some (.int .i64 f.frm) ∧ cs'[j * 5 + 4]? = some k4) (ht : Tree w' f (F j) k2 k4) : TParts w' S v (ks.set j f) cs' F := by
  refine ⟨by rw [List.length_set]; exact hr, h.own, h.sub, h.apart, fun i hi => ?_⟩
  rw [List.length_set] at hi
  by_cases e : i = j
  · subst e
    rw [List.getElem_set_self]
    exact ⟨k2, k4, hf.1, hf.2.1, hf.2.2.1, hf.2.2.2.1, hf.2.2.2.2, ht⟩
  · obtain ⟨q2, q4, e0, e1, e2, e3, e4, e5⟩ := h.kid i hi
    rw [List.getElem_set_ne (by omega)]
    refine ⟨q2, q4, ?_, ?_, ?_, ?_, ?_, e5.keep (ho.on fun b hb => ⟨hS b (h.sub i b hb).1, fun hb2 => ?_⟩)⟩
    · rw [hcs _ (by omega)]; exact e0
    · rw [hcs _ (by omega)]; exact e1
    · rw [hcs _ (by omega)]; exact e2
    · rw [hcs _ (by omega)]; exact e3
    · rw [hcs _ (by omega)]; exact e4
    · rcases hb2 with hb2 | hb2
      · exact h.apart i j b e hb hb2
      · exact (h.sub i b hb).2 hb2

/-- Three cells of a form are others now. -/
theorem set3_out {cs : List Value} {o : Nat} (d0 d1 d3 : Value) {i : Nat} (h : i ≠ o ∧ i ≠ o + 1 ∧ i ≠ o + 3) : (((cs.set o d0).set (o + 1) d1).set (o + 3) d3)[i]? = cs[i]? := by
  rw [List.getElem?_set_ne (by omega), List.getElem?_set_ne (by omega), List.getElem?_set_ne (by omega)]
theorem set3_in {cs : List Value} {o : Nat} (d0 d1 d3 : Value) (h : o + 5 ≤ cs.length) :
    (((cs.set o d0).set (o + 1) d1).set (o + 3) d3)[o]? = some d0 ∧ (((cs.set o d0).set (o + 1) d1).set (o + 3) d3)[o + 1]? = some d1 ∧ (((cs.set o d0).set (o + 1) d1).set (o + 3) d3)[o + 3]? = some d3 := by
  refine ⟨?_, ?_, ?_⟩
  · rw [List.getElem?_set_ne (by omega), List.getElem?_set_ne (by omega), List.getElem?_set_self (by omega)]
  · rw [List.getElem?_set_ne (by omega), List.getElem?_set_self (by simp; omega)]
  · rw [List.getElem?_set_self (by simp; omega)]

theorem len_cnts : ∀ ks : List Fm, ks.length ≤ cnts ks
  | [] => Nat.zero_le _
  | a :: r => by have := len_cnts r; rw [cnts_cons, cntF_eq, List.length_cons]; omega
def MarkRow (n : Nat) : Prop := ∀ ks : List Fm, Fm.szs ks ≤ n → ∀ (S : Nat → Prop) (w : World) (v : Value) (k : Nat), TRow w S v ks → (∀ b, S b → b < w.heap.size) → 0 < k → k + cnts ks ≤ 100000000 →
  Calls Tryz.prog 25 #[v, .int .i64 k] w fun e w' => ∃ ks', e = .returned (.int .i64 ((k + cnts ks : Nat) : Int)) ∧ TRow w' S v ks' ∧ cnts ks' = cnts ks ∧ MarkedS ks' k ∧ Only S w w'

set_option maxRecDepth 20000 in
set_option maxHeartbeats 4000000 in
theorem markRow_of (n : Nat) (ih : ∀ m, m < n → MarkRow m) : MarkRow n := by
  intro ks hks S w v k hv hS hk0 hk
  have HI := hid ih
  have HS := hid hS
  have hkl : ks.length ≤ 100000000 := by have := len_cnts ks; omega
  have hsh := hv
  obtain ⟨cs0, F, hP⟩ := hv
  have HP0 := hid hP
  obtain ⟨a, c, rfl⟩ := row_shape hP.row
  have HSW : Hid (∀ (j : Nat) (hj : j < ks.length), cntF ks[j] = 3 + ks[j].scopes.length + cnts ks[j].kids) := fun j hj => cntF_eq _
  clear ih hS hP hsh
  go_enter Tryz.func25, Tryz.ntmps25
  go_wp2_with fail
  go_loopw [1, 5] (fun q i wr => ∃ j K : Nat, j ≤ ks.length ∧ i = .int .i64 j ∧ q = .int .i64 (K : Int) ∧ Hid (K = k + cnts (ks.take j)) ∧ Hid (∃ cur cs, TParts wr S (.slice a ks.length c) cur cs F ∧ cur.length = ks.length ∧ (∀ i (h1 : i < cur.length) (h2 : i < ks.length), i < j → cntF cur[i] = cntF ks[i] ∧ Marked cur[i] (k + cnts (ks.take i))) ∧ (∀ i (h1 : i < cur.length) (h2 : i < ks.length), j ≤ i → cur[i] = ks[i])) ∧ Hid (Only S w wr)) (fun _ i _ => ks.length - (intOf i).toNat)
  case atStart => exact ⟨0, k, Nat.zero_le _, rfl, rfl, by show _ = _; simp [cnts], ⟨ks, cs0, HP0.out, rfl, fun i _ _ h => absurd h (by omega), fun i _ _ _ => rfl⟩, Only.refl _ _⟩
  case round =>
    obtain ⟨j, K, hj, rfl, rfl, HK, HC, HOn⟩ := hrel
    obtain ⟨cur, cs, hP, hcl, hdone, htodo⟩ := HC.out
    have HP := hid hP
    have HDone := hid hdone
    have HTodo := hid htodo
    have hcle := cnts_take_le ks j
    have hKb : K ≤ 100000000 := by have := HK.out; omega
    have hK0 : 0 < K := by have := HK.out; omega
    clear HC hP hdone htodo
    by_cases hlt : j < ks.length
    · have hrow9 := HP.out.row
      rw [hcl] at hrow9
      obtain ⟨g, rfl⟩ : ∃ g, a = some ⟨g, 0, none⟩ := by
        rcases hrow9.2 with ⟨e, h0⟩ | ⟨g, cap, cur, e, -⟩
        · omega
        · cases e; exact ⟨g, rfl⟩
      have hnxt := cnts_take ks j hlt
      have hnle := cnts_take_le ks (j + 1)
      have hcj := HSW.out j hlt
      have hlt' : j < cur.length := by omega
      have hfj := HTodo.out j hlt' hlt (Nat.le_refl _)
      obtain ⟨k2, k4, e0, e1, e2, e3, e4, hT⟩ := HP.out.kid j hlt'
      rw [hfj] at e0 e1 e3 hT
      obtain ⟨f, hf⟩ : ∃ f, f = ks[j] := ⟨_, rfl⟩
      rw [← hf] at e0 e1 e3 hT hcj hnxt
      have hsz : f.sz ≤ Fm.szs ks := by rw [hf]; exact Fm.szs_get ks j hlt
      have hszk := Fm.sz_kids f
      obtain ⟨⟨x2, y2, rfl⟩, x4, y4, rfl⟩ : (∃ a c, k2 = .slice a f.scopes.length c) ∧ ∃ a c, k4 = .slice a f.kids.length c := by
        rw [tree_iff] at hT
        obtain ⟨h1, -, cs', F', h2⟩ := hT
        exact ⟨row_shape h1, row_shape h2.row⟩
      have hrow := HP.out.row
      rw [hcl] at hrow
      have hcsl := hrow.1
      have R0 := hid hrow
      have T0 := hid hT
      have hgS := HP.out.own g rfl
      have hgw : g < wr.heap.size := (hrow.lt g rfl).2
      have q0 := (hrow.cellAt (j * 5) (by omega)).trans e0
      have q1 := (hrow.cellAt (j * 5 + 1) (by omega)).trans e1
      have q2 := (hrow.cellAt (j * 5 + 2) (by omega)).trans e2
      have q3 := (hrow.cellAt (j * 5 + 3) (by omega)).trans e3
      have q4 := (hrow.cellAt (j * 5 + 4) (by omega)).trans e4
      have z0 := hrow.frozenAt (j * 5)
      have hK1 : K + 3 + f.scopes.length + cnts f.kids ≤ 100000000 := by have := HK.out; omega
      have HN := hid (show k + cnts (ks.take (j + 1)) = K + 3 + f.scopes.length + cnts f.kids by have := HK.out; omega)
      have E2 := hid e2
      have E4 := hid e4
      have HFJ := hid hf
      have Hcj := hid hcj
      have hS1 := (tree_iff _ _ _ _ _).1 T0.out
      obtain ⟨hsc, hscS, hkr⟩ := hS1
      have HSc := hid hsc
      have HScS := hid hscS
      have HKr := hid hkr
      have HFsub := hid (HP.out.sub j)
      have HLT : Hid (Fm.szs f.kids < n) := by show _ < _; omega
      clear hrow hrow9 hT e0 e1 e2 e3 e4 hf hfj hnxt hnle hcj hsc hscS hkr hks hsz
      have R1 := hid (R0.out.stored (j * 5) (.int .i64 (K : Int)))
      obtain ⟨W1, hW1⟩ : ∃ W1, W1 = wr.setCell ⟨g, j * 5, none⟩ (.int .i64 (K : Int)) := ⟨_, rfl⟩
      rw [← hW1] at R1
      have hs1 := R1.out.2.size
      have HM : Hid (Calls Tryz.prog 37 #[.int .i64 ((K : Int) + 1)] W1 fun e w' => e = .returned (.string (mtx (K + 1))) ∧ Below W1.heap.size W1 w') := by
        have h := markText_any (K + 1) W1 (by omega) (by omega)
        rw [show ((K + 1 : Nat) : Int) = (K : Int) + 1 by omega] at h
        exact h
      go_wp2_with fail
      rw [← hW1]
      refine HM.out.mono ?_
      rintro e w2 ⟨rfl, hw2⟩
      have hs2 := hw2.size
      have R2 := hid (R1.out.1.kept (row := none) (w' := w2) ⟨hw2.os, hw2.tape, hw2.output, hw2.size, fun i hi _ => hw2.block i hi⟩ (Or.inr (by simp [Value.ownBlock])))
      have HB2 := hid hw2
      have n1 := R2.out.cellAt (j * 5 + 1) (by omega)
      have n2 := R2.out.cellAt (j * 5 + 2) (by omega)
      rw [List.getElem?_set_ne (by omega)] at n1 n2
      have p1 := (R0.out.cellAt (j * 5 + 1) (by omega)).symm.trans q1
      rw [p1] at n1
      rw [E2.out] at n2
      have o1 := R2.out.frozenAt (j * 5 + 1)
      have R3 := hid (R2.out.stored (j * 5 + 1) (.string (mtx (K + 1))))
      obtain ⟨W3, hW3⟩ : ∃ W3, W3 = w2.setCell ⟨g, j * 5 + 1, none⟩ (.string (mtx (K + 1))) := ⟨_, rfl⟩
      rw [← hW3] at R3
      have hs3 := R3.out.2.size
      have hne2 : ∀ b, Value.ownBlock (.slice x2 f.scopes.length y2) = some b → F j b ∧ b ≠ g := fun b e => ⟨HScS.out b e, fun e2 => (HFsub.out b (HScS.out b e)).2 (by rw [e2]; rfl)⟩
      have HNE2 := hid hne2
      have hlow : ∀ b, F j b → b < wr.heap.size := fun b hb => by
        have h1 := (HFsub.out b hb).1
        have h2 := HS.out b h1
        have h3 := HOn.out.size
        omega
      have HLow := hid hlow
      have same3 : Hid (∀ b, b < wr.heap.size → b ≠ g → W3.heap[b]? = wr.heap[b]?) := fun b hb hbg =>
        ((R3.out.2.block b (by omega) (by simp; omega)).trans (HB2.out.block b (by omega))).trans (R1.out.2.block b hb (by simp; omega))
      have Sc3 := hid (row_same HSc.out fun b e => same3.out b (HLow.out b (HNE2.out b e).1) (HNE2.out b e).2)
      obtain ⟨M, hM0⟩ : ∃ M, M = K + 2 + f.scopes.length := ⟨_, rfl⟩
      have HM0 := hid hM0
      have hMb : M ≤ 100000000 := by omega
      obtain ⟨Z, hZ0⟩ : ∃ Z, Z = K + 3 + f.scopes.length + cnts f.kids := ⟨_, rfl⟩
      have HZ0 := hid hZ0
      have HI3 : Hid (Calls Tryz.prog 24 #[.slice x2 f.scopes.length y2, .int .i64 ((K : Int) + 1 + 1)] W3 fun e w' => e = .returned (.int .i64 (M : Int)) ∧ w'.ownsRow 0 3 1 (.slice x2 f.scopes.length y2) f.scopes.length ((seqI (K + 2) f.scopes.length).map (Value.int .i64)) ∧ W3.grownBy w' (Value.slice x2 f.scopes.length y2).ownBlock) := by
        have h := markIntS_any (.slice x2 f.scopes.length y2) f.scopes (K + 2) W3 Sc3.out (by omega) (by omega)
        rw [show ((K + 2 : Nat) : Int) = (K : Int) + 1 + 1 by omega, ← hM0] at h
        exact h
      clear hw2 hM0 q0 q1 q2 q3 q4 z0 p1 hne2 hlow hW1
      go_wp2_with fail
      rw [← hW3]
      refine HI3.out.mono ?_
      rintro e w4 ⟨rfl, hr4, hg4⟩
      have hs4 := hg4.size
      have Sc4 := hid hr4
      have G4 := hid hg4
      have R4 := hid (R3.out.1.kept hg4 (Or.inr fun e => (HNE2.out g e.symm).2 rfl))
      have m3 := R4.out.cellAt (j * 5 + 3) (by omega)
      have m4 := R4.out.cellAt (j * 5 + 4) (by omega)
      have l3 : j * 5 + 3 < cs.length := by omega
      rw [List.getElem?_set_ne (by omega), List.getElem?_set_ne (by omega)] at m3 m4
      rw [List.getElem?_eq_getElem l3] at m3
      rw [E4.out] at m4
      have o3 := R4.out.frozenAt (j * 5 + 3)
      have R5 := hid (R4.out.stored (j * 5 + 3) (.int .i64 (M : Int)))
      obtain ⟨W5, hW5⟩ : ∃ W5, W5 = w4.setCell ⟨g, j * 5 + 3, none⟩ (.int .i64 (M : Int)) := ⟨_, rfl⟩
      rw [← hW5] at R5
      have hs5 := R5.out.2.size
      have same5 : Hid (∀ b, b < wr.heap.size → b ≠ g → (Value.slice x2 f.scopes.length y2).ownBlock ≠ some b → W5.heap[b]? = wr.heap[b]?) := fun b hb hbg hb2 =>
        ((R5.out.2.block b (by omega) (by simp; omega)).trans (G4.out.block b (by omega) fun e => hb2 e.symm)).trans (same3.out b hb hbg)
      have HKr5 := hid (HKr.out.keep (w' := W5) fun b hb => same5.out b (HLow.out b hb.1) (fun e => (HFsub.out b hb.1).2 (by rw [e]; rfl)) hb.2)
      have HI5 : Hid (Calls Tryz.prog 25 #[.slice x4 f.kids.length y4, .int .i64 ((M : Int) + 1)] W5 fun e w' => ∃ ks', e = .returned (.int .i64 (Z : Int)) ∧ TRow w' (fun b => F j b ∧ (Value.slice x2 f.scopes.length y2).ownBlock ≠ some b) (.slice x4 f.kids.length y4) ks' ∧ cnts ks' = cnts f.kids ∧ MarkedS ks' (K + 3 + f.scopes.length) ∧ Only (fun b => F j b ∧ (Value.slice x2 f.scopes.length y2).ownBlock ≠ some b) W5 w') := by
        have h := HI.out (Fm.szs f.kids) HLT.out f.kids (Nat.le_refl _) _ W5 _ (K + 3 + f.scopes.length) HKr5.out (fun b hb => by have := HLow.out b hb.1; omega) (by omega) hK1
        rw [show ((K + 3 + f.scopes.length : Nat) : Int) = (M : Int) + 1 by have := HM0.out; omega, ← HZ0.out] at h
        exact h
      clear hr4 hg4 n1 n2 o1 hW3 hZ0
      go_wp2_with fail
      rw [← hW5]
      refine HI5.out.mono ?_
      rintro e w6 ⟨ks', rfl, ht6, hc6, hm6, ho6⟩
      have HT6 := hid ht6
      have HC6 := hid hc6
      have HM6 := hid hm6
      have HO6 := hid ho6
      clear ht6 hc6 hm6 ho6 hW5 m3 m4 o3
      go_wp2_with fail
      have hs6 := HO6.out.size
      have hv6 := (trow_len HT6.out).symm
      have R6 := row_same (w' := w6) R5.out.1 fun b e => HO6.out.block b (by cases e; show g < W5.heap.size; omega) fun hb => by cases e; exact (HFsub.out g hb.1).2 rfl
      have hon : Only (fun b => F j b ∨ (Value.slice (some ⟨g, 0, none⟩) ks.length c).ownBlock = some b) wr w6 :=
        ⟨by rw [HO6.out.os, R5.out.2.os, G4.out.os, R3.out.2.os, HB2.out.os, R1.out.2.os], by rw [HO6.out.tape, R5.out.2.tape, G4.out.tape, R3.out.2.tape, HB2.out.tape, R1.out.2.tape], by rw [HO6.out.output, R5.out.2.output, G4.out.output, R3.out.2.output, HB2.out.output, R1.out.2.output], by omega, fun b hb hnb =>
          (HO6.out.block b (by omega) fun e => hnb (Or.inl e.1)).trans (same5.out b hb (fun e => hnb (Or.inr (by rw [e]; rfl))) fun e => hnb (Or.inl (HNE2.out b e).1))⟩
      obtain ⟨i0, i1, i3⟩ := set3_in (cs := cs) (o := j * 5) (.int .i64 (K : Int)) (.string (mtx (K + 1))) (.int .i64 (M : Int)) (by omega)
      have hput := HP.out.put (j := j) hlt' (fun b hb => by have := HS.out b hb; have := HOn.out.size; omega) hon (by rw [hcl]; exact R6) (f := ⟨(K : Int), mtx (K + 1), seqI (K + 2) f.scopes.length, (M : Int), ks'⟩) (fun i hi => set3_out _ _ _ ⟨by omega, by omega, by omega⟩) (k2 := .slice x2 f.scopes.length y2) (k4 := .slice x4 f.kids.length y4) ⟨i0, i1, by rw [set3_out _ _ _ ⟨by omega, by omega, by omega⟩]; exact E2.out, i3, by rw [set3_out _ _ _ ⟨by omega, by omega, by omega⟩]; exact E4.out⟩ (by
        rw [tree_iff]
        refine ⟨?_, HScS.out, HT6.out⟩
        show w6.ownsRow 0 3 1 _ (seqI (K + 2) f.scopes.length).length _
        rw [seqI_length]
        exact row_same (row_same Sc4.out fun b e => R5.out.2.block b (by have := HLow.out b (HNE2.out b e).1; omega) fun e2 => (HNE2.out b e).2 (by simpa [Value.ownBlock] using e2)) fun b e => HO6.out.block b (by have := HLow.out b (HNE2.out b e).1; omega) fun hb => hb.2 e)
      refine ⟨⟨j + 1, Z, by omega, by go_num, rfl, ?_, ⟨_, _, hput, by rw [List.length_set]; exact hcl, fun i h1 h2 hi => ?_, fun i h1 h2 hi => ?_⟩, ?_⟩, by simp [intOf]; omega⟩
      · show _ = _
        rw [HN.out]; exact HZ0.out
      · by_cases e : i = j
        · subst e
          rw [List.getElem_set_self, ← HFJ.out]
          refine ⟨?_, ?_⟩
          · rw [cntF_eq, Hcj.out]
            show 3 + (seqI (K + 2) f.scopes.length).length + cnts ks' = _
            rw [seqI_length, HC6.out]
          · rw [marked_eq, ← HK.out]
            refine ⟨rfl, rfl, ?_, ?_, ?_⟩
            · show seqI (K + 2) f.scopes.length = seqI (K + 2) (seqI (K + 2) f.scopes.length).length
              rw [seqI_length]
            · show (M : Int) = ((K + 2 + (seqI (K + 2) f.scopes.length).length : Nat) : Int)
              rw [seqI_length, HM0.out]
            · show MarkedS ks' (K + 3 + (seqI (K + 2) f.scopes.length).length)
              rw [seqI_length]; exact HM6.out
        · rw [List.getElem_set_ne (by omega)]
          exact HDone.out i (by rw [List.length_set] at h1; exact h1) h2 (by omega)
      · rw [List.getElem_set_ne (by omega)]
        exact HTodo.out i (by rw [List.length_set] at h1; exact h1) h2 (by omega)
      · refine HOn.out.trans (hon.mono fun b hb => ?_)
        rcases hb with hb | hb
        · exact (HFsub.out b hb).1
        · cases hb; exact hgS
    · have hjl : j = ks.length := by omega
      have hKk : K = k + cnts ks := by have := HK.out; rw [this, hjl, List.take_length]
      go_wp2_with fail
      go_ret
      have hall : ∀ i, cnts (cur.take i) = cnts (ks.take i) := fun i => cnts_same cur ks i hcl fun i' h1 h2 _ => (HDone.out i' h1 h2 (by omega)).1
      refine ⟨cur, by show Ending.returned (.int .i64 (K : Int)) = _; rw [hKk], ⟨cs, F, HP.out⟩, ?_, fun i hi => ?_, HOn.out⟩
      · have h := hall ks.length
        rw [List.take_length, ← hcl, List.take_length] at h
        exact h
      · rw [hall i]
        exact (HDone.out i hi (by omega) (by omega)).2

theorem mark_all : ∀ n, MarkRow n := fun n => by
  induction n using Nat.strongRecOn with
  | _ n ih => exact markRow_of n ih

end Go.Proofs.YtghgilkdmdppcaaGreat

namespace Go.Proofs.YtghgilkdmdppcaaGreat
open Go.RowKit Go.Siskin

theorem trow_ints {B : Nat → Prop} {w : World} {v : Value} {xs : List Int} (h1 : w.ownsRow 0 3 1 v xs.length (xs.map (Value.int .i64))) (h2 : ∀ g, v.ownBlock = some g → B g) : IntsAt B w v xs := by
  rcases h1.2 with ⟨rfl, h0⟩ | ⟨g, cap, cur, rfl, hb, hg, hcap, hm, -, -⟩
  · have : xs = [] := List.length_eq_zero_iff.1 h0
    rw [this]
    exact ⟨none, 0, rfl, ⟨Nat.zero_le _, Nat.le_refl _⟩, Or.inl rfl⟩
  · refine ⟨some ⟨g, 0, none⟩, cap, rfl, ⟨by omega, by omega⟩, Or.inr ⟨g, 0, rfl, h2 g rfl, fun i hi => ?_⟩⟩
    have k := h1.cells (g := g) rfl i (.int .i64 (xs.getD i 0)) (by rw [List.getElem?_map, List.getElem?_eq_getElem hi, List.getD_eq_getElem?_getD, List.getElem?_eq_getElem hi]; rfl)
    rw [Go.WideShapes.add_plain] at k
    exact k

def HeldRow (n : Nat) : Prop := ∀ ks : List Fm, Fm.szs ks ≤ n → ∀ (S : Nat → Prop) (w : World) (v : Value) (k : Nat), TRow w S v ks → (∀ b, S b → b < w.heap.size) → MarkedS ks k → 0 < k → k + cnts ks ≤ 100000000 →
  Calls Tryz.prog 27 #[v, .int .i64 k] w fun e w' => e = .returned (.int .i64 ((k + cnts ks : Nat) : Int)) ∧ Below w.heap.size w w'

set_option maxRecDepth 20000 in
set_option maxHeartbeats 4000000 in
theorem heldRow_of (n : Nat) (ih : ∀ m, m < n → HeldRow m) : HeldRow n := by
  intro ks hks S w v k hv hS hm hk0 hk
  have hkl : ks.length ≤ 100000000 := by have := len_cnts ks; omega
  have HI := hid ih
  have HS := hid hS
  have HM := hid hm
  have HV := hid hv
  obtain ⟨cs0, F0, hP0⟩ := hv
  obtain ⟨a, ca, rfl⟩ := row_shape hP0.row
  clear ih hS hm hP0
  go_enter Tryz.func27, Tryz.ntmps27
  go_wp2_with fail
  go_loopw [1, 5] (fun q i wr => ∃ j K : Nat, j ≤ ks.length ∧ i = .int .i64 j ∧ q = .int .i64 (K : Int) ∧ Hid (K = k + cnts (ks.take j)) ∧ Hid (Below w.heap.size w wr)) (fun _ i _ => ks.length - (intOf i).toNat)
  case atStart => exact ⟨0, k, Nat.zero_le _, rfl, rfl, by show _ = _; simp [cnts], Below.refl _ _⟩
  case round =>
    obtain ⟨j, K, hj, rfl, rfl, HK, HB⟩ := hrel
    have hcle := cnts_take_le ks j
    have hKb : K ≤ 100000000 := by have := HK.out; omega
    have hK0 : 0 < K := by have := HK.out; omega
    by_cases hlt : j < ks.length
    · obtain ⟨cs, F, hP⟩ := HV.out.keep (HB.out.on HS.out)
      have hrow := hP.row
      obtain ⟨g, rfl⟩ : ∃ g, a = some ⟨g, 0, none⟩ := by
        rcases hrow.2 with ⟨e, h0⟩ | ⟨g, cap, cur, e, -⟩
        · omega
        · cases e; exact ⟨g, rfl⟩
      have hmk := HM.out j hlt
      rw [← HK.out] at hmk
      have hnxt := cnts_take ks j hlt
      have hnle := cnts_take_le ks (j + 1)
      have hsz : ks[j].sz ≤ Fm.szs ks := Fm.szs_get ks j hlt
      obtain ⟨k2, k4, e0, e1, e2, e3, e4, hT⟩ := hP.kid j hlt
      obtain ⟨f, hfe⟩ : ∃ f, f = ks[j] := ⟨_, rfl⟩
      rw [← hfe] at hT hmk hnxt hsz e0 e1 e3
      have hszk := Fm.sz_kids f
      have hcj := cntF_eq f
      obtain ⟨m0, m1, m2, m3, m4⟩ := (marked_eq _ _).1 hmk
      have hcsl := hrow.1
      have g0 := (hrow.cellAt (j * 5) (by omega)).trans e0
      have g1 := (hrow.cellAt (j * 5 + 1) (by omega)).trans e1
      have g2 := (hrow.cellAt (j * 5 + 2) (by omega)).trans e2
      have g3 := (hrow.cellAt (j * 5 + 3) (by omega)).trans e3
      have g4 := (hrow.cellAt (j * 5 + 4) (by omega)).trans e4
      rw [m0] at g0
      rw [m1] at g1
      rw [m3] at g3
      have hK1 : K + 3 + f.scopes.length + cnts f.kids ≤ 100000000 := by have := HK.out; omega
      have HN := hid (show k + cnts (ks.take (j + 1)) = K + 3 + f.scopes.length + cnts f.kids by have := HK.out; omega)
      obtain ⟨M, hM0⟩ : ∃ M, M = K + 2 + f.scopes.length := ⟨_, rfl⟩
      rw [← hM0] at g3
      have HM0 := hid hM0
      have hMb : M ≤ 100000000 := by omega
      obtain ⟨Z, hZ0⟩ : ∃ Z, Z = K + 3 + f.scopes.length + cnts f.kids := ⟨_, rfl⟩
      have HZ0 := hid hZ0
      have hZb : Z ≤ 100000000 := by omega
      have HLT : Hid (Fm.szs f.kids < n) := by show _ < _; omega
      obtain ⟨h1, h2, h3⟩ := (tree_iff _ _ _ _ _).1 hT
      have hsub := hP.sub j
      have hin := trow_ints (B := F j) h1 h2
      rw [m2] at hin
      have HIn := hid hin
      have HKr := hid h3
      have Hm4 := hid m4
      have hs0 := HB.out.size
      have hgw : g < wr.heap.size := (hrow.lt g rfl).2
      have hlow : ∀ b, F j b → b < wr.heap.size := fun b hb => by have := HS.out b (hsub b hb).1; omega
      have HLow := hid hlow
      obtain ⟨⟨x2, y2, rfl⟩, x4, y4, rfl⟩ : (∃ a c, k2 = .slice a f.scopes.length c) ∧ ∃ a c, k4 = .slice a f.kids.length c := by
        obtain ⟨cs', F', h3⟩ := h3
        exact ⟨row_shape h1, row_shape h3.row⟩
      have HQ : Hid (Calls Tryz.prog 37 #[.int .i64 ((K : Int) + 1)] wr.drew fun e w' => e = .returned (.string (mtx (K + 1))) ∧ Below wr.drew.heap.size wr.drew w') := by
        have h := markText_any (K + 1) wr.drew (by omega) (by omega)
        rw [show ((K + 1 : Nat) : Int) = (K : Int) + 1 by omega] at h
        exact h
      clear hP hrow hmk hnxt hnle hcj m0 m1 m2 m3 m4 hM0 hZ0 hks hsz hfe h1 h2 h3 hin hT hlow hsub e0 e1 e2 e3 e4 hcsl
      have K0 := hid (show wr.drew.cell? ⟨g, j * 5 + 1, none⟩ = some (.string (mtx (K + 1))) from g1)
      go_wp2_with fail
      go_region_held3 (fun w' => w'.cell? ⟨g, j * 5 + 1, none⟩ = some (.string (mtx (K + 1))))
        (first | exact K1.out | exact K0.out)
        (first
          | (go_at_call 37
             refine HQ.out.mono ?_
             rintro e w2 ⟨rfl, hw2⟩
             have K1 := hid ((hw2.cell (p := ⟨g, j * 5 + 1, none⟩) hgw).trans K0.out)
             have HB2 := hid hw2
             clear hw2))
      have hs2 : wr.heap.size ≤ w2.heap.size := HB2.out.size
      have q2 := (HB2.out.cell (p := ⟨g, j * 5 + 2, none⟩) hgw).trans g2
      have q3 := (HB2.out.cell (p := ⟨g, j * 5 + 3, none⟩) hgw).trans g3
      have q4 := (HB2.out.cell (p := ⟨g, j * 5 + 4, none⟩) hgw).trans g4
      have HI3 : Hid (Calls Tryz.prog 26 #[.slice x2 f.scopes.length y2, .int .i64 ((K : Int) + 1 + 1)] w2 fun e w' => e = .returned (.int .i64 (M : Int)) ∧ w' = w2) := by
        have h := heldIntS_any (F j) (.slice x2 f.scopes.length y2) f.scopes.length (K + 2) w2 (HIn.out.keep (HB2.out.on HLow.out)) (by omega) (by omega)
        rw [show ((K + 2 : Nat) : Int) = (K : Int) + 1 + 1 by omega, ← HM0.out] at h
        exact h
      have HI5 : Hid (Calls Tryz.prog 27 #[.slice x4 f.kids.length y4, .int .i64 ((M : Int) + 1)] w2 fun e w' => e = .returned (.int .i64 (Z : Int)) ∧ Below w2.heap.size w2 w') := by
        have h := HI.out (Fm.szs f.kids) HLT.out f.kids (Nat.le_refl _) _ w2 _ (K + 3 + f.scopes.length) (HKr.out.keep (HB2.out.on fun b hb => HLow.out b hb.1)) (fun b hb => by have := HLow.out b hb.1; omega) Hm4.out (by omega) hK1
        rw [show ((K + 3 + f.scopes.length : Nat) : Int) = (M : Int) + 1 by have := HM0.out; omega, ← HZ0.out] at h
        exact h
      clear g0 g1 g2 g3 g4 K0 K1 HQ
      go_wp2_with fail
      refine HI3.out.mono ?_
      rintro e w3 ⟨rfl, hw3⟩
      rw [hw3]
      go_wp2_with fail
      refine HI5.out.mono ?_
      rintro e w4 ⟨rfl, hw4⟩
      have HB4 := hid hw4
      clear hw4
      go_wp2_with fail
      refine ⟨⟨j + 1, Z, by omega, by go_num, rfl, ?_, ?_⟩, by simp [intOf]; omega⟩
      · show _ = _
        rw [HN.out]; exact HZ0.out
      · exact (HB.out.drew.trans (HB2.out.mono hs0)).trans (HB4.out.mono (by omega))
    · have hjl : j = ks.length := by omega
      have hKk : K = k + cnts ks := by have := HK.out; rw [this, hjl, List.take_length]
      go_wp2_with fail
      go_ret
      exact ⟨by show Ending.returned (.int .i64 (K : Int)) = _; rw [hKk], HB.out⟩

end Go.Proofs.YtghgilkdmdppcaaGreat

namespace Go.Proofs.YtghgilkdmdppcaaGreat
open Go.RowKit Go.Siskin

theorem held_all : ∀ n, HeldRow n := fun n => by
  induction n using Nat.strongRecOn with
  | _ n ih => exact heldRow_of n ih

theorem tshape {w : World} {f : Fm} {S : Nat → Prop} {c2 c4 : Value} (h : Tree w f S c2 c4) : (∃ a c, c2 = .slice a f.scopes.length c) ∧ ∃ a c, c4 = .slice a f.kids.length c := by
  rw [tree_iff] at h
  obtain ⟨h1, -, cs, F, h3⟩ := h
  exact ⟨row_shape h1, row_shape h3.row⟩

theorem Only.low {S : Nat → Prop} {a b : World} {N : Nat} (h : Only S a b) (hS : ∀ i, S i → N ≤ i) (hN : N ≤ a.heap.size) : Below N a b := ⟨h.os, h.tape, h.output, h.size, fun i hi => h.block i (by omega) fun hs => by have := hS i hs; omega⟩

/-- Marked, apart from its own sort, text and From. -/
structure Marks (f' f : Fm) (k : Nat) : Prop where
  sc : f'.scopes = seqI k f.scopes.length
  ks : MarkedS f'.kids (k + f.scopes.length)
  ct : cnts f'.kids = cnts f.kids

set_option maxRecDepth 20000 in
set_option maxHeartbeats 600000 in
theorem markExpForm_any (f : Fm) (S : Nat → Prop) (w : World) (c2 c4 : Value) (k : Nat) (hT : Tree w f S c2 c4) (hS : ∀ b, S b → b < w.heap.size) (hk0 : 0 < k) (hk : k + f.scopes.length + cnts f.kids ≤ 100000000) :
    Calls Tryz.prog 10 #[.agg #[.int .i64 f.sort, .string f.text, c2, .int .i64 f.frm, c4], .int .i64 k] w fun e w' => ∃ f', e = .returned (.int .i64 ((k + f.scopes.length + cnts f.kids : Nat) : Int)) ∧ Tree w' f' S c2 c4 ∧ Marks f' f k ∧ Only S w w' := by
  obtain ⟨h1, h2, h3⟩ := (tree_iff _ _ _ _ _).1 hT
  have HS := hid hS
  have H1 := hid h1
  have H2 := hid h2
  have H3 := hid h3
  obtain ⟨⟨x2, y2, rfl⟩, x4, y4, rfl⟩ := tshape hT
  clear h1 h2 h3 hT hS
  go_enter Tryz.func10, Tryz.ntmps10
  go_wp2_with fail
  refine (markIntS_any (.slice x2 f.scopes.length y2) f.scopes k (w.alloc (.cells #[.int .i64 f.sort, .string f.text, .slice x2 f.scopes.length y2, .int .i64 f.frm, .slice x4 f.kids.length y4] 29)) (row_same H1.out fun b e => Below.heap_alloc w _ b (HS.out b (H2.out b e))) (by omega) (by omega)).mono ?_
  rintro e w1 ⟨rfl, hr1, hg1⟩
  have hs1 := hg1.size
  rw [World.size_alloc] at hs1
  have HR1 := hid hr1
  have HG1 := hid hg1
  have hne : ∀ b, (Value.slice x2 f.scopes.length y2).ownBlock = some b → b < w.heap.size := fun b e => HS.out b (H2.out b e)
  have HNE := hid hne
  have hbox : w1.heap[w.heap.size]? = (w.alloc (.cells #[.int .i64 f.sort, .string f.text, .slice x2 f.scopes.length y2, .int .i64 f.frm, .slice x4 f.kids.length y4] 29)).heap[w.heap.size]? := HG1.out.block _ (by simp) (fun e => by have := HNE.out _ e.symm; omega)
  have p4 : w1.cell? ⟨w.heap.size, 4, none⟩ = some (.slice x4 f.kids.length y4) := (World.cell?_of_block hbox).trans (by simp)
  obtain ⟨M, hM0⟩ : ∃ M, M = k + f.scopes.length := ⟨_, rfl⟩
  have HM0 := hid hM0
  have hMb : M ≤ 100000000 := by omega
  rw [← hM0]
  have same1 : Hid (∀ b, b < w.heap.size → (Value.slice x2 f.scopes.length y2).ownBlock ≠ some b → w1.heap[b]? = w.heap[b]?) := fun b hb hb2 =>
    (HG1.out.block b (by simp; omega) fun e => hb2 e.symm).trans (Below.heap_alloc w _ b hb)
  obtain ⟨Z, hZ0⟩ : ∃ Z, Z = M + cnts f.kids := ⟨_, rfl⟩
  have HZ0 : Hid (Z = k + f.scopes.length + cnts f.kids) := by show _ = _; omega
  have HQ : Hid (Calls Tryz.prog 25 #[.slice x4 f.kids.length y4, .int .i64 (M : Int)] w1 fun e w' => ∃ ks', e = .returned (.int .i64 (Z : Int)) ∧ TRow w' (fun b => S b ∧ (Value.slice x2 f.scopes.length y2).ownBlock ≠ some b) (.slice x4 f.kids.length y4) ks' ∧ cnts ks' = cnts f.kids ∧ MarkedS ks' M ∧ Only (fun b => S b ∧ (Value.slice x2 f.scopes.length y2).ownBlock ≠ some b) w1 w') := by
    rw [hZ0]
    exact mark_all _ f.kids (Nat.le_refl _) _ w1 _ M (H3.out.keep fun b hb => same1.out b (HS.out b hb.1) hb.2) (fun b hb => by have := HS.out b hb.1; omega) (by omega) (by omega)
  clear hr1 hg1 hne hbox hM0 hZ0
  go_wp2_with fail
  refine HQ.out.mono ?_
  rintro e w2 ⟨ks', rfl, ht2, hc2, hm2, ho2⟩
  have HT2 := hid ht2
  have HC2 := hid hc2
  have HM2 := hid hm2
  have HO2 := hid ho2
  clear ht2 hc2 hm2 ho2 HQ
  go_wp2_with fail
  go_ret
  refine ⟨⟨f.sort, f.text, seqI k f.scopes.length, f.frm, ks'⟩, by show Ending.returned (.int .i64 (Z : Int)) = _; rw [HZ0.out], ?_, ⟨rfl, by rw [← HM0.out]; exact HM2.out, HC2.out⟩, ?_⟩
  · rw [tree_iff]
    refine ⟨?_, H2.out, HT2.out⟩
    show w2.ownsRow 0 3 1 _ (seqI k f.scopes.length).length _
    rw [seqI_length]
    exact row_same HR1.out fun b e => HO2.out.block b (by have := HNE.out b e; omega) fun hb => hb.2 e
  · have hs2 := HO2.out.size
    exact ⟨by rw [HO2.out.os, HG1.out.os]; rfl, by rw [HO2.out.tape, HG1.out.tape]; rfl, by rw [HO2.out.output, HG1.out.output]; rfl, by omega, fun b hb hnb =>
      (HO2.out.block b (by omega) fun e => hnb e.1).trans (same1.out b hb fun e => hnb (H2.out b e))⟩

set_option maxRecDepth 20000 in
set_option maxHeartbeats 2000000 in
theorem heldExpForm_any (f' f : Fm) (S : Nat → Prop) (w : World) (c0 c1 c2 c3 c4 : Value) (k : Nat) (hT : Tree w f' S c2 c4) (hm : Marks f' f k) (hS : ∀ b, S b → b < w.heap.size) (hk0 : 0 < k) (hk : k + f.scopes.length + cnts f.kids ≤ 100000000) (h0 : ∃ x, c0 = .int .i64 x) (h1 : ∃ x, c1 = .string x) (h3 : ∃ x, c3 = .int .i64 x) :
    Calls Tryz.prog 11 #[.agg #[c0, c1, c2, c3, c4], .int .i64 k] w fun e w' => e = .returned (.int .i64 ((k + f.scopes.length + cnts f.kids : Nat) : Int)) ∧ Below w.heap.size w w' := by
  obtain ⟨x0, rfl⟩ := h0
  obtain ⟨x1, rfl⟩ := h1
  obtain ⟨x3, rfl⟩ := h3
  obtain ⟨t1, t2, t3⟩ := (tree_iff _ _ _ _ _).1 hT
  have HS := hid hS
  have HMk := hid hm
  have hin := trow_ints (B := S) t1 t2
  rw [hm.sc] at hin
  have HIn := hid hin
  have H3 := hid t3
  obtain ⟨⟨x2, y2, rfl⟩, x4, y4, rfl⟩ := tshape hT
  rw [hm.sc, seqI_length] at HIn H3 ⊢
  clear t1 t2 t3 hT hS hin hm
  have HQ1 := hid (heldIntS_any S _ f.scopes.length k (w.alloc (.cells #[.int .i64 x0, .string x1, .slice x2 f.scopes.length y2, .int .i64 x3, .slice x4 f'.kids.length y4] 29)) (HIn.out.keep ((SameOn.refl _ _).alloc HS.out _)) (by omega) (by omega))
  obtain ⟨M, hM0⟩ : ∃ M, M = k + f.scopes.length := ⟨_, rfl⟩
  have HM0 := hid hM0
  have hMb : M ≤ 100000000 := by omega
  have HQ2 : Hid (Calls Tryz.prog 27 #[.slice x4 f'.kids.length y4, .int .i64 (M : Int)] (w.alloc (.cells #[.int .i64 x0, .string x1, .slice x2 f.scopes.length y2, .int .i64 x3, .slice x4 f'.kids.length y4] 29)) fun e w' => e = .returned (.int .i64 ((M + cnts f.kids : Nat) : Int)) ∧ Below (w.heap.size + 1) (w.alloc (.cells #[.int .i64 x0, .string x1, .slice x2 f.scopes.length y2, .int .i64 x3, .slice x4 f'.kids.length y4] 29)) w') := by
    have h := held_all _ f'.kids (Nat.le_refl _) _ (w.alloc (.cells #[.int .i64 x0, .string x1, .slice x2 f.scopes.length y2, .int .i64 x3, .slice x4 f'.kids.length y4] 29)) (.slice x4 f'.kids.length y4) M (H3.out.keep ((SameOn.refl _ _).alloc (fun b hb => HS.out b hb.1) _)) (fun b hb => by have := HS.out b hb.1; simp; omega) (by rw [hM0]; exact HMk.out.ks) (by omega) (by rw [HMk.out.ct]; omega)
    rw [HMk.out.ct, World.size_alloc] at h
    exact h
  have hnn : ¬ ((M : Int) < 0) := by omega
  obtain ⟨Z, hZ0⟩ : ∃ Z, Z = M + cnts f.kids := ⟨_, rfl⟩
  have hnz : ¬ ((Z : Int) < 0) := by omega
  have HZ0 := hid hZ0
  rw [← hM0] at HQ1 ⊢
  rw [← hZ0] at HQ2 ⊢
  have hZb : Z ≤ 100000000 := by omega
  clear hM0 hZ0
  go_enter Tryz.func11, Tryz.ntmps11
  go_wp2_with fail
  refine HQ1.out.mono ?_
  rintro e w1 ⟨rfl, hw1⟩
  rw [hw1]
  go_wp2_with fail
  refine HQ2.out.mono ?_
  rintro e w2 ⟨rfl, hw2⟩
  have HW2 := hid hw2
  clear hw2
  go_wp2_with fail
  go_ret
  exact ⟨rfl, ((Below.refl _ _).alloc (Nat.le_refl _) _).trans (HW2.out.mono (by omega))⟩

end Go.Proofs.YtghgilkdmdppcaaGreat

namespace Go.Proofs.YtghgilkdmdppcaaGreat
open Go.RowKit Go.Siskin

theorem cnt_upto : ∀ (n : Nat) (f : Fm), f.sz ≤ n → cntF f ≤ 3 * f.sz + f.cost
  | 0, f, hn => by have := Fm.sz_kids f; omega
  | n + 1, f, hn => by
    have h1 := Fm.sz_kids f
    have h2 := Fm.cost_eq f
    have h3 := cntF_eq f
    have h4 : ∀ ks : List Fm, Fm.szs ks ≤ n → cnts ks ≤ 3 * Fm.szs ks + Fm.costs ks := by
      intro ks
      induction ks with
      | nil => intro _; simp [cnts]
      | cons k r ih =>
        intro hk
        rw [Fm.szs_cons] at hk ⊢
        rw [Fm.costs_cons, cnts_cons]
        have := cnt_upto n k (by omega)
        have := ih (by omega)
        omega
    have := h4 f.kids (by omega)
    omega
theorem cntF_le (f : Fm) : cntF f ≤ 3 * f.sz + f.cost := cnt_upto f.sz f (Nat.le_refl _)

theorem ch_upto (g : List Int → List Int) (hg : ∀ xs, (g xs).length ≤ xs.length + 1) : ∀ (n : Nat) (f : Fm), f.sz ≤ n → (chF g f).sz = f.sz ∧ (chF g f).cost ≤ f.cost + f.sz
  | 0, f, hn => by have := Fm.sz_kids f; omega
  | n + 1, f, hn => by
    have h1 := Fm.sz_kids f
    have h2 := Fm.cost_eq f
    have h4 : ∀ ks : List Fm, Fm.szs ks ≤ n → Fm.szs (ks.map (chF g)) = Fm.szs ks ∧ Fm.costs (ks.map (chF g)) ≤ Fm.costs ks + Fm.szs ks := by
      intro ks
      induction ks with
      | nil => intro _; simp [Fm.szs, Fm.costs]
      | cons k r ih =>
        intro hk
        rw [Fm.szs_cons] at hk
        rw [List.map_cons, Fm.szs_cons, Fm.szs_cons, Fm.costs_cons, Fm.costs_cons]
        have := ch_upto g hg n k (by omega)
        have := ih (by omega)
        omega
    have h5 := h4 f.kids (by omega)
    have h6 : (if f.sort = 1 then g f.scopes else f.scopes).length ≤ f.scopes.length + 1 := by
      split
      · exact hg _
      · omega
    rw [chF_eq]
    constructor
    · rw [Fm.sz_kids]
      show 1 + Fm.szs (f.kids.map (chF g)) = _
      omega
    · rw [Fm.cost_eq]
      show f.text.size + (if f.sort = 1 then g f.scopes else f.scopes).length + (f.kids.map (chF g)).length + Fm.costs (f.kids.map (chF g)) ≤ _
      rw [List.length_map]
      omega

/-- What the answer costs, and how far its marks go. -/
theorem res_small (g : List Int → List Int) (hg : ∀ xs, (g xs).length ≤ xs.length + 1) (n : Int) (f : Fm) (hc : f.cost ≤ 1048576) : (resF g n f).cost ≤ 2097153 ∧ (resF g n f).scopes.length + cnts (resF g n f).kids ≤ 10000000 := by
  have h1 := Fm.sz_le f
  have h2 := ch_upto g hg f.sz f (Nat.le_refl _)
  have h3 : (resF g n f).cost ≤ 2097153 ∧ (resF g n f).sz ≤ 1048577 := by
    unfold resF
    split
    · omega
    · rw [Fm.cost_eq, Fm.sz_kids]
      simp [Fm.no, Fm.costs, Fm.szs]
      show (0 : Nat) ≤ 2097153
      omega
  have h4 := cntF_le (resF g n f)
  have h5 := cntF_eq (resF g n f)
  omega

end Go.Proofs.YtghgilkdmdppcaaGreat
