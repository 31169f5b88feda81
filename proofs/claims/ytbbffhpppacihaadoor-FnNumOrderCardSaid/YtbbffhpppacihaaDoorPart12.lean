/-
  (*strings.Builder).WriteString appends to what a builder of the call's own holds. Condition: the builder is one of the call's own, and what it holds then is not too long.
  (*strings.Builder).WriteByte appends one byte to what a builder of the call's own holds; writing and reading a builder plainly. Condition: the builder is one of the call's own, and what it holds then is not too long.
  The program's decimals of a natural: its numeral. Condition: the groups lie in memory as NatA says, and the table of powers stands.
  The program's plain: a fraction in lowest terms as it is handed out. Condition: what is above and below lies in memory, and the table of powers stands.
  The model's l11Small: the numeral of a number of the machine.
  NumInt: the model's and the program's, and the law's eqNum. Condition: the table of powers stands.
-/
import Derived.Test.YtbbffhpppacihaaDoorProg
import Derived.Test.YtbbffhpppacihaaDoorShelf2
import Derived.Lib.Builder
import Derived.Lib.AppendStr
import Derived.WalkKit
import Derived.Laws.Externs
import Derived.Test.YtbbffhpppacihaaDoorPart1
import Derived.Test.YtbbffhpppacihaaDoorZF
import Derived.Test.YtbbffhpppacihaaDoorPart3
import Derived.Deep.RegionHeld3
import Derived.Test.YtbbffhpppacihaaDoorZ2
import Derived.Test.YtbbffhpppacihaaDoorPart7
namespace Go.Proofs.YtbbffhpppacihaaDoor
open Go.RowKit

theorem Tryd.sizeBuilder : (Tryd.prog.info? 138).map (·.size) = some 2 := by kernel_rfl
theorem Tryd.liesBuilder : liesAt Tryd.prog Tryd.prog.depth 138 (2 / Tryd.prog.cellsOf 138) 0 138 1 = true := by kernel_rfl
theorem Tryd.infoByte : (Tryd.prog.info? 5).map (fun i => (i.zero, i.size, i.bytes)) = some (some (.int .u8 0), 1, 1) := by kernel_rfl

/- A pointer to a builder turned to the type that knows no kind, and back. -/
theorem raw_to (b : Nat) (w : World) (hsh : w.shape? b = some (138, 2)) : (convert 136 115 (.pointer (some ⟨b, 0, none⟩))).run Tryd.prog w = .ok (.pointer (some ⟨b, 0, none⟩)) w := by
  obtain ⟨j, hj, hjs⟩ := Option.map_eq_some_iff.1 Tryd.sizeBuilder
  exact Lib.run_to_unsafe w ⟨b, 0, none⟩ Tryd.underlying136 Tryd.underlying115 hj (by omega) hsh (show 0 < 2 by decide)
theorem raw_from (b : Nat) (w : World) (hsh : w.shape? b = some (138, 2)) : (convert 115 136 (.pointer (some ⟨b, 0, none⟩))).run Tryd.prog w = .ok (.pointer (some ⟨b, 0, none⟩)) w := by
  obtain ⟨j, hj, hjs⟩ := Option.map_eq_some_iff.1 Tryd.sizeBuilder
  exact Lib.run_from_unsafe w ⟨b, 0, none⟩ Tryd.underlying115 Tryd.underlying136 hj hsh Tryd.liesBuilder

set_option maxHeartbeats 1000000 in
set_option maxRecDepth 100000 in
theorem copyCheck_used (b : Nat) (w : World) (h0 : w.cell? ⟨b, 0, none⟩ = some (.pointer (some ⟨b, 0, none⟩))) :
    Calls Tryd.prog 113 #[.pointer (some ⟨b, 0, none⟩)] w fun e w' => e = .returned (.tuple #[]) ∧ w' = w := by
  obtain ⟨j, hj, _⟩ := Option.map_eq_some_iff.1 Tryd.sizeBuilder
  go_enter Tryd.func113, Tryd.ntmps113
  go_wp2_with fail
  rw [Lib.run_neq_ptr_same w _ Tryd.underlying136 hj]
  go_wp2_with fail
  go_end0
  exact ⟨rfl, rfl⟩

set_option maxHeartbeats 1000000 in
set_option maxRecDepth 100000 in
theorem copyCheck_fresh (b : Nat) (w : World) (h0 : w.cell? ⟨b, 0, none⟩ = some (.pointer none)) (hsh : w.shape? b = some (138, 2)) (hfz : w.frozen? ⟨b, 0, none⟩ = false) :
    Calls Tryd.prog 113 #[.pointer (some ⟨b, 0, none⟩)] w fun e w' => e = .returned (.tuple #[]) ∧ w' = w.setCell ⟨b, 0, none⟩ (.pointer (some ⟨b, 0, none⟩)) := by
  obtain ⟨j, hj, hjs⟩ := Option.map_eq_some_iff.1 Tryd.sizeBuilder
  go_enter Tryd.func113, Tryd.ntmps113
  go_wp2_with fail
  rw [raw_to b w hsh]
  simp only [Result.andThen]
  rw [Oper.upon_value]
  go_wp2_with fail
  rw [run_callFunc_extern Tryd.func119 (by kernel_rfl) (by kernel_rfl) (by kernel_rfl) (e := Extern.AbiNoEscape.same) (by kernel_rfl)]
  rw [Lib.run_noEscape]
  simp only [Result.andThen]
  rw [Oper.upon_value]
  go_wp2_with fail
  rw [raw_from b w hsh]
  simp only [Result.andThen]
  rw [Oper.upon_value]
  go_wp2_with fail
  go_end0
  exact ⟨rfl, rfl⟩

/-- What a write into the builder in block b leaves: all below B, and every block that is neither b nor a row of bytes. -/
def Wrote (B b : Nat) (w w' : World) : Prop := Below B w w' ∧ ∀ k c e z, k ≠ b → e ≠ 5 → w.heap[k]? = some (.cells c e z) → w'.heap[k]? = some (.cells c e z)
theorem Wrote.refl (B b : Nat) (w : World) : Wrote B b w w := ⟨Below.refl _ _, fun _ _ _ _ _ _ h => h⟩
theorem Wrote.trans {B b : Nat} {w w1 w2 : World} (h : Wrote B b w w1) (k : Wrote B b w1 w2) : Wrote B b w w2 := ⟨h.1.trans k.1, fun i c e z h1 h2 h3 => k.2 i c e z h1 h2 (h.2 i c e z h1 h2 h3)⟩
theorem Wrote.alloc {B b : Nat} {w w1 : World} (h : Wrote B b w w1) (hB : B ≤ w1.heap.size) (o : Obj) : Wrote B b w (w1.alloc o) :=
  ⟨h.1.alloc hB o, fun i c e z h1 h2 h3 => (Below.heap_alloc _ _ _ (Array.getElem?_eq_some_iff.1 (h.2 i c e z h1 h2 h3)).1).trans (h.2 i c e z h1 h2 h3)⟩
/-- A box that the call laid stands as it stood. -/
theorem Wrote.box {B b : Nat} {w w' : World} {cs : Array Value} {e : TypeId} (h : Wrote B b (w.alloc (.cells cs e)) w') (hb : b < w.heap.size) (he : e ≠ 5) : ∀ j, w'.cell? ⟨w.heap.size, j, none⟩ = (w.alloc (.cells cs e)).cell? ⟨w.heap.size, j, none⟩ := by
  intro j
  have h0 : (w.alloc (.cells cs e)).heap[w.heap.size]? = some (.cells cs e (0, 0)) := by
    show (w.heap.push (.cells cs e))[w.heap.size]? = _
    simp
  exact World.cell?_of_block (a := ⟨w.heap.size, j, none⟩) ((h.2 _ _ _ _ (by omega) he h0).trans h0.symm)

theorem copyCheck_any (B b : Nat) (bs : List Value) (w : World) (h : Lib.IsBuilder 138 5 B b bs w) :
    Calls Tryd.prog 113 #[.pointer (some ⟨b, 0, none⟩)] w fun e w' => e = .returned (.tuple #[]) ∧ (Lib.BuilderAt 138 5 B b (.pointer (some ⟨b, 0, none⟩)) bs w' ∧ Below B w w' ∧ ∀ k, k ≠ b → w'.heap[k]? = w.heap[k]?) := by
  rcases h with h | h
  · refine (copyCheck_fresh b w h.cell0 h.shape h.frozen0).mono ?_
    rintro e w' ⟨rfl, rfl⟩
    exact ⟨rfl, h.used _, (Below.refl B w).setCell (p := ⟨b, 0, none⟩) h.1 _, fun k hk => Below.heap_setCell _ _ _ _ hk⟩
  · refine (copyCheck_used b w h.cell0).mono ?_
    rintro e w' ⟨rfl, rfl⟩
    exact ⟨rfl, h, Below.refl B _, fun _ _ => rfl⟩

end Go.Proofs.YtbbffhpppacihaaDoor

namespace Go.Proofs.YtbbffhpppacihaaDoor
open Go.RowKit Go.Siskin

set_option maxHeartbeats 2000000 in
set_option maxRecDepth 100000 in
theorem writeByte_any (B b : Nat) (bs : List Value) (c : Int) (w : World) (h : Lib.IsBuilder 138 5 B b bs w) (hlen : bs.length + 1 ≤ 140737488355328) (hBw : B ≤ w.heap.size) :
    Calls Tryd.prog 100 #[.pointer (some ⟨b, 0, none⟩), .int .u8 c] w fun e w' => e = .returned .nilIface ∧ (Lib.BuilderAt 138 5 B b (.pointer (some ⟨b, 0, none⟩)) (bs ++ [.int .u8 c]) w' ∧ Below B w w') := by
  obtain ⟨i0, hi, hz0, hz1, hz2⟩ := info_parts Tryd.infoByte
  have Hi := hid hi
  have Hz0 := hid hz0
  have Hz1 := hid hz1
  have Hz2 := hid hz2
  clear hi hz0 hz1 hz2
  go_enter Tryd.func100, Tryd.ntmps100
  go_wp2_with (go_at_call 113; refine (copyCheck_any B b bs _ h).mono ?_)
  rintro e w1 ⟨rfl, h1, hb1, hk1⟩
  clear hk1
  obtain ⟨hB, v, hbk, hown, hne⟩ := h1
  have c0 : w1.cell? ⟨b, 0, none⟩ = some (.pointer (some ⟨b, 0, none⟩)) := by rw [Lib.cell_of_heap hbk]; rfl
  have c1 : w1.cell? ⟨b, 1, none⟩ = some v := by rw [Lib.cell_of_heap hbk]; rfl
  have hsz1 := hb1.size
  have hlt : b < w1.heap.size := by
    rcases Nat.lt_or_ge b w1.heap.size with h' | h'
    · exact h'
    · simp [Array.getElem?_eq_none h'] at hbk
  have HBK := hid hbk
  have HOW := hid hown
  have HNE := hid hne
  clear hbk hown hne
  go_wp2_with (at_builtin; go_loud (refine wpList_append_lies _ rfl _ _ 34 rfl B 5 i0 (.int .u8 0) 1 1 Tryd.underlying34 Hi.out Hz0.out Hz1.out Hz2.out rfl (by decide) _ bs.length bs rfl (HOW.out.alloc _) ⟨w1.heap.size, 0, none⟩ 1 1 [.int .u8 c] rfl rfl (cell_one_newZ _ _ _) (by simp [Value.oneCell']) (by decide) (by unfold maxLen; omega) (by omega) (by simp; omega) (w1.heap.size + 1) (by simp) ?_; intro gg cc w2 hown' hgrow hat hgl; have hall := (World.grownBy_alloc w1 (.cells #[.int .u8 c] 5) _).trans hgrow; have hb2 : w2.heap[b]? = some (.cells #[.pointer (some ⟨b, 0, none⟩), v] 138 (0, 0)) := (hall.block b hlt (fun e => HNE.out e.symm)).trans HBK.out; have d0 : w2.cell? ⟨b, 0, none⟩ = some (.pointer (some ⟨b, 0, none⟩)) := (Lib.cell_of_heap hb2 0).trans rfl; have d1 : w2.cell? ⟨b, 1, none⟩ = some v := (Lib.cell_of_heap hb2 1).trans rfl; have f1 : w2.frozen? ⟨b, 1, none⟩ = false := Lib.frozen_of_heap hb2 1; have HB2 := hid hb2; have HOWN := hid hown'; have HALL := hid hall; clear hb2 hown' hall hgrow))
  go_ret
  refine ⟨rfl, ?_, ?_⟩
  · exact Lib.BuilderAt.put (T := 138) (e := 5) hB HB2.out (bs' := bs ++ [.int .u8 c]) (by simpa using HOWN.out) (by decide)
  · exact (hb1.grown HALL.out (by omega) (fun k hk => (HOW.out.lt k hk).1)).setCell (p := ⟨b, 1, none⟩) hB _

/-- A builder that holds just these bytes. -/
abbrev isZ (B b : Nat) (l : List UInt8) (w : World) : Prop := Lib.IsBuilder 138 5 B b (Lib.byteCells l) w
theorem isZ_keep {B b : Nat} {l : List UInt8} {w w' : World} (h : isZ B b l w) (hb : Below w.heap.size w w') : isZ B b l w' := by
  have key : ∀ p, Lib.BuilderAt 138 5 B b p (Lib.byteCells l) w → Lib.BuilderAt 138 5 B b p (Lib.byteCells l) w' := by
    rintro p ⟨h1, v, h2, h3, h4⟩
    have hg : w.grownBy w' none := ⟨hb.os, hb.tape, hb.output, hb.size, fun i hi _ => hb.block i hi⟩
    exact ⟨h1, v, (hb.block _ (Array.getElem?_eq_some_iff.1 h2).1).trans h2, h3.kept hg (by cases v.ownBlock <;> simp), h4⟩
  rcases h with h | h
  · exact Or.inl (key _ h)
  · exact Or.inr (key _ h)
theorem writeByteZ (B b : Nat) (l : List UInt8) (c : UInt8) (w : World) (h : isZ B b l w) (hlen : l.length + 1 ≤ 140737488355328) (hBw : B ≤ w.heap.size) :
    Calls Tryd.prog 100 #[.pointer (some ⟨b, 0, none⟩), .int .u8 (c.toNat : Int)] w fun e w' => e = .returned .nilIface ∧ isZ B b (l ++ [c]) w' ∧ Below B w w' := by
  refine (writeByte_any B b (Lib.byteCells l) c.toNat w h (by simpa [Lib.byteCells] using hlen) hBw).mono ?_
  rintro e w' ⟨he, h1, h2⟩
  refine ⟨he, Or.inr ?_, h2⟩
  have e1 : Lib.byteCells (l ++ [c]) = Lib.byteCells l ++ [.int .u8 (c.toNat : Int)] := by simp [Lib.byteCells]
  rw [e1]; exact h1
end Go.Proofs.YtbbffhpppacihaaDoor

namespace Go.Proofs.YtbbffhpppacihaaDoor
open Go.RowKit Go.Siskin

theorem digL_head (m j v : Nat) (h : j < m) : (digL m v).take (j + 1) = (digL m v).take j ++ [Lib.dg v (m - 1 - j)] := by
  rw [List.take_succ_eq_append_getElem (by rw [digL_length]; exact h)]
  congr 2
  simp [digL]

theorem below_drewN {B : Nat} {a w : World} (h : Below B a w) (n : Nat) : Below B a (w.drewN n) := ⟨h.os, h.tape, h.output, h.size, h.block⟩
theorem dg_eq (v k d : Nat) (h : v / 10 ^ k % 10 = d) : ((Lib.dg v k).toNat : Int) = 48 + (d : Int) := by
  rw [dg_nat, h]; omega

set_option maxRecDepth 20000 in
set_option maxHeartbeats 2000000 in
theorem decimals_any (x : Nat) (v : Value) (w : World) (h : NatA w v (grp x)) (hn : nG x ≤ 100000) (hP : Pow9 w) :
    Calls Tryd.prog 83 #[v] w fun e w' => e = .returned (.string (dec x)) ∧ Below w.heap.size w w' := by
  have HN := hid h
  have HC := hid (isNought_any x v w h)
  have HDg := hid (fun (o : Obj) => digits_any x v (w.alloc o) (h.alloc o) (by omega) (hP.alloc o))
  have HP := hid hP
  have HNG := hid (@nG_pos x)
  have HNT := hid (@nDigits_top x)
  obtain ⟨a, cap, rfl, h1, h2, h3⟩ := h
  rw [grp_length] at *
  unfold maxLen at h2
  clear h3 hP
  rcases Nat.eq_zero_or_pos x with h0 | h0
  · subst h0
    have HZ : Hid ((⟨#[48]⟩ : ByteArray) = dec 0) := by show _ = _; rw [dec_small (by decide)]; rfl
    clear HNG HNT
    go_enter Tryd.func83, Tryd.ntmps83
    go_wp2_with (go_at_call 81; refine HC.out.mono ?_; rintro e w' ⟨rfl, hw⟩; obtain rfl := hw.symm)
    go_ret
    exact ⟨ret_strz HZ.out, Below.refl _ _⟩
  · have hx0 : (x == 0) = false := by rw [beq_eq_false_iff_ne]; omega
    rw [hx0] at HC
    clear hx0
    obtain ⟨M, HM⟩ : ∃ M : Nat, Hid (Lib.nDigits x = M) := ⟨_, rfl⟩
    have hM0 : 0 < M := by rw [← HM.out]; exact Lib.nDigits_pos x
    have hMg : M ≤ 9 * nG x := by
      have a1 := HNT.out h0
      have a2 := HNG.out h0
      have a3 := top_pos h0
      have a4 := nDigits_le (v := x / 1000000000 ^ (nG x - 1)) (m := 9) (by rw [← p9]; exact a3.2) (by decide)
      rw [← HM.out]; omega
    have hMg2 : 9 * nG x ≤ M + 8 := by
      have a1 := HNT.out h0
      have a2 := HNG.out h0
      have a4 := Lib.nDigits_pos (x / 1000000000 ^ (nG x - 1))
      rw [← HM.out]; omega
    rw [HM.out] at HDg
    obtain ⟨G, HG⟩ : ∃ G : Nat, Hid (nG x = G) := ⟨_, rfl⟩
    rw [HG.out] at hMg hMg2 h1 hn HC HDg ⊢
    clear HNG HNT
    go_enter Tryd.func83, Tryd.ntmps83
    go_wp2_with (first
      | (go_at_call 81; refine HC.out.mono ?_; rintro e w' ⟨rfl, hw⟩; obtain rfl := hw.symm)
      | (go_at_call 96; refine (HDg.out _).mono ?_; rintro e w' ⟨rfl, rfl⟩))
    go_loopw [4] (fun i wr => ∃ j : Nat, j ≤ M ∧ i = .int .i64 ((M : Int) - 1 - j) ∧ Hid (isZ w.heap.size w.heap.size ((digL M x).take j) wr) ∧ Hid (Below w.heap.size w wr) ∧ w.heap.size + 1 ≤ wr.heap.size) (fun i _ => ((intOf i) + 1).toNat)
    case atStart =>
      refine ⟨0, Nat.zero_le _, by congr 1; omega, ?_, (Below.refl _ _).alloc (Nat.le_refl _) _, by simp⟩
      show isZ _ _ _ _
      have h := Lib.fresh_isBuilder 138 5 w
      exact h
    case round =>
      obtain ⟨j, hj, rfl, HQ, HB, hsz⟩ := hrel
      by_cases hlt : j < M
      · obtain ⟨p, HPp⟩ : ∃ p : Nat, Hid (M - 1 - j = p) := ⟨_, rfl⟩
        have hpi : (M : Int) - 1 - j = (p : Int) := by have := HPp.out; omega
        have hpM : p < M := by have := HPp.out; omega
        rw [hpi]
        have HNr := hid (NatA.below HN.out HB.out (Nat.le_refl _))
        obtain ⟨a', cap', e', -, -, h3⟩ := HNr.out
        rcases h3 with h3 | ⟨b, o, e2, -, h3⟩
        · exfalso
          have := congrArg List.length h3; rw [grp_length, HG.out] at this; simp at this; omega
        rw [grp_length, HG.out] at e'
        simp only [Value.slice.injEq, true_and] at e'
        obtain ⟨e3, -⟩ := e'
        rw [e2] at e3
        subst e3
        have hpg : p / 9 < G := by omega
        have g : wr.cell? ⟨b, o + p / 9, none⟩ = some (.int .u64 ((x / 1000000000 ^ (p / 9) % 1000000000 : Nat) : Int)) := by
          rw [h3 (p / 9) (by rw [grp_length, HG.out]; exact hpg)]
          unfold grp; rw [grpN_get]
        have gP := (HP.out.below HB.out (Nat.le_refl _)).2 (p % 9) (by omega)
        obtain ⟨z, HZ⟩ : ∃ z : Nat, Hid (x / 1000000000 ^ (p / 9) % 1000000000 = z) := ⟨_, rfl⟩
        obtain ⟨t, HT⟩ : ∃ t : Nat, Hid (10 ^ (p % 9) = t) := ⟨_, rfl⟩
        have hzl : z < 1000000000 := by rw [← HZ.out]; exact Nat.mod_lt _ (by decide)
        have ht0 : 0 < t := by rw [← HT.out]; exact Nat.pow_pos (by decide)
        have ht1 : t ≤ 1000000000 := by rw [← HT.out]; exact Nat.le_trans (Nat.pow_le_pow_right (by decide) (show p % 9 ≤ 9 by omega)) (by decide)
        have HD : Hid (z / t % 10 = x / 10 ^ p % 10) := by show _ = _; rw [← HZ.out, ← HT.out]; exact digit_group x p
        rw [HZ.out] at g
        rw [HT.out] at gP
        obtain ⟨q, HQq⟩ : ∃ q : Nat, Hid (p / 9 = q) := ⟨_, rfl⟩
        obtain ⟨r, HR⟩ : ∃ r : Nat, Hid (p % 9 = r) := ⟨_, rfl⟩
        have hq1 : ((p : Int)).tdiv 9 = (q : Int) := by rw [Int.tdiv_eq_ediv_of_nonneg (by omega), ← HQq.out]; omega
        have hr1 : ((p : Int)).tmod 9 = (r : Int) := by rw [Int.tmod_eq_emod_of_nonneg (by omega), ← HR.out]; omega
        rw [HQq.out] at g hpg
        rw [HR.out] at gP
        have hr9 : r < 9 := by have := HR.out; omega
        clear h3 e2
        go_wp2_with fail
        have htn : ((t : Int) == 0) = false := by rw [beq_eq_false_iff_ne]; omega
        go_quiet (fail)
        have harg : (48 + (IntKind.u64.wrap ((z : Int) / (t : Int))).tmod 10) % 256 = ((Lib.dg x p).toNat : Int) := by
          rw [dg_eq x p _ HD.out.symm]
          have hle : z / t ≤ z := Nat.div_le_self _ _
          have e : (z : Int) / (t : Int) = ((z / t : Nat) : Int) := by rw [Int.natCast_ediv]
          rw [e]
          generalize z / t = u at *
          have e2 : IntKind.u64.wrap (u : Int) = (u : Int) := by simp [IntKind.wrap, IntKind.bits, IntKind.signed]; omega
          rw [e2, Int.tmod_eq_emod_of_nonneg (by omega)]
          omega
        go_wp2_with fail
        refine (writeByteZ w.heap.size w.heap.size ((digL M x).take j) (Lib.dg x p) _ (isZ_keep HQ.out (below_drewN (Below.refl _ _) nq)) (by rw [List.length_take, digL_length]; omega) (by simp; omega)).mono ?_
        rintro e w' ⟨rfl, hb2, hw2⟩
        have HB2 := hid hb2
        have HW2 := hid hw2
        have hs2 := hw2.size
        clear hb2 hw2
        go_wp2_with fail
        refine ⟨⟨j + 1, by omega, by congr 1; omega, ?_, (below_drewN HB.out nq).trans HW2.out, by simp at hs2 <;> omega⟩, by simp [intOf] <;> omega⟩
        show isZ _ _ _ _
        rw [digL_head M j x hlt, HPp.out]
        exact HB2.out
      · obtain rfl : j = M := by omega
        rw [List.take_of_length_le (by rw [digL_length]; omega)] at HQ
        have HST := hid (Tryd.Builder_String_any w.heap.size w.heap.size _ wr HQ.out (by omega))
        have HV : Hid ((⟨(digL j x).toArray⟩ : ByteArray) = dec x) := by show _ = _; unfold dec; rw [HM.out]; rfl
        have e1 : (j : Int) - 1 - j = -1 := by omega
        rw [e1]
        go_wp2_with fail
        refine HST.out.mono ?_
        rintro e w2 ⟨rfl, hw⟩
        have HW2 := hid hw
        clear hw
        go_wp2_with fail
        go_ret
        exact ⟨ret_strz HV.out, HB.out.trans (HW2.out.mono (by omega))⟩
end Go.Proofs.YtbbffhpppacihaaDoor

namespace Go.Proofs.YtbbffhpppacihaaDoor
open Go.RowKit Go.Siskin

theorem natA_form {w : World} {v : Value} {gs : List Nat} (h : NatA w v gs) : ∃ a cap, v = .slice a gs.length cap := by
  obtain ⟨a, cap, e, -⟩ := h
  exact ⟨a, cap, e⟩
theorem own3 {w : World} {g : Nat} {e : TypeId} {a b c : Value} (h : Own w g e #[a, b, c]) : w.cell? ⟨g, 0, none⟩ = some a ∧ w.cell? ⟨g, 1, none⟩ = some b ∧ w.cell? ⟨g, 2, none⟩ = some c := ⟨h.cell 0, h.cell 1, h.cell 2⟩

set_option maxRecDepth 20000 in
set_option maxHeartbeats 2000000 in
theorem plain_any (neg : Bool) (u d : Nat) (vu vd : Value) (w : World) (hu : NatA w vu (grp u)) (hd : NatA w vd (grp d)) (hnu : nG u ≤ 100000) (hnd : nG d ≤ 100000) (hP : Pow9 w) :
    Calls Tryd.prog 57 #[.agg #[.bool neg, vu, vd]] w fun e w' => e = .returned (.agg #[.bool neg, .string (dec u), .string (dec d)]) ∧ Below w.heap.size w w' := by
  have CU : Hid (∀ w', Below w.heap.size w w' → Calls Tryd.prog 83 #[vu] w' fun e w'' => e = .returned (.string (dec u)) ∧ Below w'.heap.size w' w'') := fun w' hb => decimals_any u vu w' (hu.below hb (Nat.le_refl _)) hnu (hP.below hb (Nat.le_refl _))
  have CD : Hid (∀ w', Below w.heap.size w w' → Calls Tryd.prog 83 #[vd] w' fun e w'' => e = .returned (.string (dec d)) ∧ Below w'.heap.size w' w'') := fun w' hb => decimals_any d vd w' (hd.below hb (Nat.le_refl _)) hnd (hP.below hb (Nat.le_refl _))
  obtain ⟨ua, uc, rfl⟩ := natA_form hu
  obtain ⟨da, dc, rfl⟩ := natA_form hd
  simp only [grp_length] at *
  clear hu hd hP
  have HW : Hid (∀ W3, Below (w.heap.size + 2) ((w.alloc (.cells #[.bool neg, .slice ua (nG u) uc, .slice da (nG d) dc] 71)).alloc (.cells #[.bool false, .string ⟨#[]⟩, .string ⟨#[]⟩] 25)) W3 → (W3.cell? ⟨w.heap.size, 0, none⟩ = some (.bool neg) ∧ W3.cell? ⟨w.heap.size, 1, none⟩ = some (.slice ua (nG u) uc) ∧ W3.cell? ⟨w.heap.size, 2, none⟩ = some (.slice da (nG d) dc)) ∧ (W3.frozen? ⟨w.heap.size + 1, 0, none⟩ = false ∧ W3.frozen? ⟨w.heap.size + 1, 1, none⟩ = false ∧ W3.frozen? ⟨w.heap.size + 1, 2, none⟩ = false) ∧ W3.cell? ⟨w.heap.size + 1, 0, none⟩ = some (.bool false) ∧ W3.cell? ⟨w.heap.size + 1, 1, none⟩ = some (.string ⟨#[]⟩) ∧ W3.cell? ⟨w.heap.size + 1, 2, none⟩ = some (.string ⟨#[]⟩)) := by
    intro W3 hb
    have h1 : Own ((w.alloc (.cells #[.bool neg, .slice ua (nG u) uc, .slice da (nG d) dc] 71)).alloc (.cells #[.bool false, .string ⟨#[]⟩, .string ⟨#[]⟩] 25)) w.heap.size 71 #[.bool neg, .slice ua (nG u) uc, .slice da (nG d) dc] := (Below.heap_alloc _ _ _ (by simp)).trans (own_new w _ _)
    have h2 := own_new (w.alloc (.cells #[.bool neg, .slice ua (nG u) uc, .slice da (nG d) dc] 71)) #[.bool false, .string ⟨#[]⟩, .string ⟨#[]⟩] 25
    rw [World.size_alloc] at h2
    have k1 := h1.keep hb (by omega)
    have k2 := h2.keep hb (by omega)
    exact ⟨own3 k1, ⟨k2.frozen 0, k2.frozen 1, k2.frozen 2⟩, own3 k2⟩
  have HS : Hid (∀ W3, Below (w.heap.size + 2) ((w.alloc (.cells #[.bool neg, .slice ua (nG u) uc, .slice da (nG d) dc] 71)).alloc (.cells #[.bool false, .string ⟨#[]⟩, .string ⟨#[]⟩] 25)) W3 → ∀ x y z, (((W3.setCell ⟨w.heap.size + 1, 0, none⟩ x).setCell ⟨w.heap.size + 1, 1, none⟩ y).setCell ⟨w.heap.size + 1, 2, none⟩ z).cell? ⟨w.heap.size, 0, none⟩ = some (.bool neg) ∧ (((W3.setCell ⟨w.heap.size + 1, 0, none⟩ x).setCell ⟨w.heap.size + 1, 1, none⟩ y).setCell ⟨w.heap.size + 1, 2, none⟩ z).cell? ⟨w.heap.size, 1, none⟩ = some (.slice ua (nG u) uc) ∧ (((W3.setCell ⟨w.heap.size + 1, 0, none⟩ x).setCell ⟨w.heap.size + 1, 1, none⟩ y).setCell ⟨w.heap.size + 1, 2, none⟩ z).cell? ⟨w.heap.size, 2, none⟩ = some (.slice da (nG d) dc)) := by
    intro W3 hb x y z
    have k1 := (HW.out W3 hb).1
    have b := (((Below.refl (w.heap.size + 1) W3).setCell (p := ⟨w.heap.size + 1, 0, none⟩) (Nat.le_refl _) x).setCell (p := ⟨w.heap.size + 1, 1, none⟩) (Nat.le_refl _) y).setCell (p := ⟨w.heap.size + 1, 2, none⟩) (Nat.le_refl _) z
    exact ⟨(b.cell (p := ⟨w.heap.size, 0, none⟩) (Nat.lt_succ_self _)).trans k1.1, (b.cell (p := ⟨w.heap.size, 1, none⟩) (Nat.lt_succ_self _)).trans k1.2.1, (b.cell (p := ⟨w.heap.size, 2, none⟩) (Nat.lt_succ_self _)).trans k1.2.2⟩
  have HDone : Hid (∀ W3, Below (w.heap.size + 2) ((w.alloc (.cells #[.bool neg, .slice ua (nG u) uc, .slice da (nG d) dc] 71)).alloc (.cells #[.bool false, .string ⟨#[]⟩, .string ⟨#[]⟩] 25)) W3 → Below w.heap.size w W3) := fun W3 hb => (((Below.refl _ _).alloc (Nat.le_refl _) _).alloc (by simp) _).trans (hb.mono (by omega))
  go_enter Tryd.func57, Tryd.ntmps57
  go_wp2_with fail
  have HB : Hid (Below (w.heap.size + 2) ((w.alloc (.cells #[.bool neg, .slice ua (nG u) uc, .slice da (nG d) dc] 71)).alloc (.cells #[.bool false, .string ⟨#[]⟩, .string ⟨#[]⟩] 25)) ((w.alloc (.cells #[.bool neg, .slice ua (nG u) uc, .slice da (nG d) dc] 71)).alloc (.cells #[.bool false, .string ⟨#[]⟩, .string ⟨#[]⟩] 25)).drew) := (Below.refl _ _).drew
  have K0 := HW.out _ HB.out
  obtain ⟨-, ⟨f0, f1, f2⟩, r0, r1, r2⟩ := K0
  have HC := CU
  go_region_held3 (fun w' => w'.cell? ⟨w.heap.size, 0, none⟩ = some (.bool neg) ∧ w'.cell? ⟨w.heap.size, 1, none⟩ = some (.slice ua (nG u) uc) ∧ w'.cell? ⟨w.heap.size, 2, none⟩ = some (.slice da (nG d) dc))
    (first | exact (HW.out _ HB.out).1 | exact HS.out _ HB.out _ _ _)
    (first
      | (go_at_call 83
         go_loud (
         refine (HC.out _ (HDone.out _ HB.out)).mono ?_
         rintro e w3 ⟨rfl, hw3⟩
         have HB := hid (HB.out.trans (hw3.mono (Nat.le_trans (by simp) HB.out.size)))
         clear hw3 HC f0 f1 f2 r0 r1 r2
         obtain ⟨-, ⟨f0, f1, f2⟩, r0, r1, r2⟩ := HW.out _ HB.out
         have HC := CD)))
  go_wp2_with fail
  refine bodyPost_ret (v := .agg #[.bool neg, .string (dec u), .string (dec d)]) (by simp [results, Tryd.results57, go_sem, r0, r1, r2]) rfl ⟨rfl, ?_⟩
  exact (((HDone.out _ HB.out).setCell (p := ⟨w.heap.size + 1, 0, none⟩) (Nat.le_succ _) _).setCell (p := ⟨w.heap.size + 1, 1, none⟩) (Nat.le_succ _) _).setCell (p := ⟨w.heap.size + 1, 2, none⟩) (Nat.le_succ _) _
end Go.Proofs.YtbbffhpppacihaaDoor

namespace Go.Proofs.YtbbffhpppacihaaDoor
open Go.RowKit Go.Siskin

theorem conv_one (W : World) (b : Nat) (x : Int) (c : UInt8) (hc : (c.toNat : Int) = x) (hg : W.cell? ⟨b, 0, none⟩ = some (.int .u8 x)) :
    (convert 34 9 (.slice (some ⟨b, 0, none⟩) 1 1)).run Tryd.prog W = .ok (.string ⟨#[c]⟩) W :=
  run_convert_bytes_back (P := Tryd.prog) W 34 9 5 ⟨b, 0, none⟩ 1 [c] Tryd.underlying34 Tryd.underlying5 Tryd.underlying9 (fun j hj => by
    simp at hj; subst hj
    rw [show (⟨b, 0, none⟩ : Addr).add 0 = ⟨b, 0, none⟩ by simp [Addr.add], hg]
    simp [hc])
theorem cell_newz (w : World) (v : Value) (e : TypeId) : (w.alloc (.cells #[v] e)).cell? ⟨w.heap.size, 0, none⟩ = some v := (own_new w #[v] e).cell 0

set_option maxRecDepth 20000 in
set_option maxHeartbeats 1000000 in
theorem l11Small_any (n : Nat) : ∀ (w : World) (_ : n ≤ 9223372036854775807),
    Calls Tryd.prog 114 #[.int .i64 n] w fun e w' => e = .returned (.string (dec n)) ∧ Below w.heap.size w w' := by
  induction n using Nat.strongRecOn with
  | _ n ih =>
    intro w hn
    by_cases h : n < 10
    · obtain ⟨c, hc⟩ : ∃ c : UInt8, c = UInt8.ofNat (48 + n) := ⟨_, rfl⟩
      have hcn : (c.toNat : Int) = 48 + (n : Int) := by rw [hc]; simp; omega
      have hcv := conv_one (w.alloc (.cells #[.int .u8 (48 + (n : Int))] 5)) w.heap.size (48 + n) c hcn (cell_newz w _ _)
      have HD : Hid ((⟨#[c]⟩ : ByteArray) = dec n) := by show _ = _; rw [hc, dec_small h]
      clear hc hcn
      go_enter Tryd.func114, Tryd.ntmps114
      go_wp2_with fail
      go_ret
      exact ⟨ret_strz HD.out, (Below.refl _ _).alloc (Nat.le_refl _) _⟩
    · have HI : Hid (∀ w, Calls Tryd.prog 114 #[.int .i64 ((n : Int) / 10)] w fun e w' => e = .returned (.string (dec (n / 10))) ∧ Below w.heap.size w w') := by
        show ∀ w, _
        intro w
        rw [show (n : Int) / 10 = ((n / 10 : Nat) : Int) by omega]
        exact ih (n / 10) (by omega) w (by omega)
      obtain ⟨c, hc⟩ : ∃ c : UInt8, c = UInt8.ofNat (48 + n % 10) := ⟨_, rfl⟩
      have HD : Hid (dec (n / 10) ++ (⟨#[c]⟩ : ByteArray) = dec n) := by show _ = _; rw [hc, dec_big h]
      have HC : Hid ((c.toNat : Int) = 48 + ((n % 10 : Nat) : Int)) := by show _ = _; rw [hc]; simp; omega
      have hwr : IntKind.i64.wrap ((n : Int) / 10) = (n : Int) / 10 := by simp [IntKind.wrap, IntKind.bits, IntKind.signed]; omega
      clear ih hc
      go_enter Tryd.func114, Tryd.ntmps114
      go_wp2_with fail
      have hcv : ∀ (W : World) (b : Nat), W.cell? ⟨b, 0, none⟩ = some (.int .u8 (48 + (n : Int) % 10)) → (convert 34 9 (.slice (some ⟨b, 0, none⟩) 1 1)).run Tryd.prog W = .ok (.string ⟨#[c]⟩) W := fun W b h => conv_one W b _ c (by rw [HC.out]; omega) h
      have hx : IntKind.u8.wrap (IntKind.i64.wrap (48 + (n : Int).tmod 10)) = 48 + (n : Int) % 10 := by
        rw [Int.tmod_eq_emod_of_nonneg (by omega)]
        simp [IntKind.wrap, IntKind.bits, IntKind.signed]; omega
      have hds : (dec (n / 10)).size ≤ 20 := by rw [dec_size]; exact nDigits_le (by omega) (by omega)
      go_region_with (first
        | (go_at_call 114
           go_loud (
            refine (HI.out _).mono ?_
            rintro e w1 ⟨rfl, hb⟩
            have q := bcell hb
            have s1 := hb.size
            have HB := hid hb
            clear hb)))
      all_goals go_wp2_with fail
      all_goals go_ret
      · exact ⟨ret_strz HD.out, ((Below.refl w.heap.size w).drew.trans HB.out).alloc (by have : w.heap.size ≤ w1.heap.size := s1; omega) _⟩
      all_goals exact ⟨ret_strz HD.out, (((Below.refl w.heap.size w).alloc (Nat.le_refl _) _).drew.trans (HB.out.mono (by simp)))⟩
end Go.Proofs.YtbbffhpppacihaaDoor

namespace Go.Proofs.YtbbffhpppacihaaDoor
open Go.RowKit Go.Siskin

def oneT : ByteArray := ⟨#[49]⟩
theorem dec_one : dec 1 = ⟨#[49]⟩ := by rw [dec_small (by decide)]; rfl
theorem nDigits_int {n : Nat} (h : n ≤ 18446744073709551615) : Lib.nDigits n ≤ 20 := nDigits_le (by omega) (by omega)
theorem nG_int {n : Nat} (h : n ≤ 18446744073709551615) : nG n ≤ 3 := nG_le (by omega)

theorem below3 {B : Nat} {w W : World} (h : Below B w W) (x y z : Value) : Below B w (((W.setCell ⟨B, 0, none⟩ x).setCell ⟨B, 1, none⟩ y).setCell ⟨B, 2, none⟩ z) :=
  ((h.setCell (p := ⟨B, 0, none⟩) (Nat.le_refl _) _).setCell (p := ⟨B, 1, none⟩) (Nat.le_refl _) _).setCell (p := ⟨B, 2, none⟩) (Nat.le_refl _) _

/-- A result's three cells, behind calls. -/
theorem res3 {w W : World} {a b c : Value} {t : TypeId} (h : Below (w.heap.size + 1) (w.alloc (.cells #[a, b, c] t)) W) : W.cell? ⟨w.heap.size, 0, none⟩ = some a ∧ W.cell? ⟨w.heap.size, 1, none⟩ = some b ∧ W.cell? ⟨w.heap.size, 2, none⟩ = some c :=
  own3 ((own_new w #[a, b, c] t).keep h (Nat.lt_succ_self _))
theorem res3f {w W : World} {a b c : Value} {t : TypeId} (h : Below (w.heap.size + 1) (w.alloc (.cells #[a, b, c] t)) W) : W.frozen? ⟨w.heap.size, 0, none⟩ = false ∧ W.frozen? ⟨w.heap.size, 1, none⟩ = false ∧ W.frozen? ⟨w.heap.size, 2, none⟩ = false := by
  have k := (own_new w #[a, b, c] t).keep h (Nat.lt_succ_self _)
  exact ⟨k.frozen 0, k.frozen 1, k.frozen 2⟩
theorem res_done {w W : World} {o : Obj} (h : Below (w.heap.size + 1) (w.alloc o) W) : Below w.heap.size w W := ((Below.refl _ _).alloc (Nat.le_refl _) _).trans (h.mono (Nat.le_succ _))
theorem res_step {w W W2 : World} {o : Obj} (h : Below (w.heap.size + 1) (w.alloc o) W) (h2 : Below W.heap.size W W2) : Below (w.heap.size + 1) (w.alloc o) W2 := h.trans (h2.mono (by have := h.size; simpa using this))

set_option maxRecDepth 20000 in
set_option maxHeartbeats 1000000 in
theorem sizeOf_any (i : Int) (w : World) (h1 : -9223372036854775808 ≤ i) (h2 : i ≤ 9223372036854775807) :
    Calls Tryd.prog 55 #[.int .i64 i] w fun e w' => ∃ u, e = .returned u ∧ NatA w' u (grp i.natAbs) ∧ Below w.heap.size w w' := by
  obtain ⟨n, hn⟩ : ∃ n : Nat, i.natAbs = n := ⟨_, rfl⟩
  rw [hn]
  have HNl : Hid (n ≤ 18446744073709551615) := by show _ ≤ _; omega
  have HO := hid (fun w => naturalOf_any n w HNl.out)
  have c1 : 0 ≤ i → IntKind.u64.wrap i = (n : Int) := by intro h; simp [IntKind.wrap, IntKind.bits, IntKind.signed]; omega
  have c2 : i < 0 → IntKind.u64.wrap (-IntKind.u64.wrap i) = (n : Int) := by intro h; simp [IntKind.wrap, IntKind.bits, IntKind.signed]; omega
  by_cases h : 0 ≤ i
  · have hc := c1 h
    clear c1 c2 hn
    go_enter Tryd.func55, Tryd.ntmps55
    go_wp2_with fail
    refine (HO.out _).mono ?_
    rintro e w1 ⟨vu, rfl, hu, hw⟩
    have HU := hid hu
    have HW := hid hw
    clear hw hu
    go_wp2_with fail
    go_ret
    exact ⟨_, rfl, HU.out, HW.out⟩
  · have hlt : i < 0 := by omega
    have hc := c2 hlt
    clear c1 c2 hn
    go_enter Tryd.func55, Tryd.ntmps55
    go_wp2_with fail
    refine (HO.out _).mono ?_
    rintro e w1 ⟨vu, rfl, hu, hw⟩
    have HU := hid hu
    have HW := hid hw
    clear hw hu
    go_wp2_with fail
    go_ret
    exact ⟨_, rfl, HU.out, HW.out⟩

set_option maxRecDepth 20000 in
set_option maxHeartbeats 1000000 in
theorem implNumInt_any (i : Int) (w : World) (h1 : -9223372036854775808 ≤ i) (h2 : i ≤ 9223372036854775807) (hP : Pow9 w) :
    Calls Tryd.prog 25 #[.int .i64 i] w fun e w' => e = .returned (.agg #[.bool (decide (i < 0)), .string (dec i.natAbs), .string (dec 1)]) ∧ Below w.heap.size w w' := by
  obtain ⟨n, hn⟩ : ∃ n : Nat, i.natAbs = n := ⟨_, rfl⟩
  have HO := hid (fun w => sizeOf_any i w h1 h2)
  rw [hn] at HO
  rw [hn]
  have HNl : Hid (n ≤ 18446744073709551615) := by show _ ≤ _; omega
  have HO1 := hid (fun w => naturalOf_any 1 w (by decide))
  have HP := hid hP
  have HPl := hid (fun neg vu vd w => plain_any neg n 1 vu vd w)
  have HG := hid (nG_int HNl.out)
  obtain ⟨b, hb⟩ : ∃ b : Bool, decide (i < 0) = b := ⟨_, rfl⟩
  rw [hb]
  clear hP hn
  go_enter Tryd.func25, Tryd.ntmps25
  go_wp2_with fail
  refine (HO.out _).mono ?_
  rintro e w1 ⟨vu, rfl, hu, hw⟩
  rw [World.size_alloc] at hw
  have HU := hid hu
  have HW := hid hw
  obtain ⟨ua, uc, rfl⟩ := natA_form hu
  clear hw hu
  go_wp2_with fail
  refine (HO1.out _).mono ?_
  rintro e w2 ⟨vd, rfl, hd1, hw2⟩
  have HD := hid hd1
  have HW2 := hid (res_step HW.out hw2)
  have HU2 := hid (HU.out.below hw2 (Nat.le_refl _))
  obtain ⟨da, dc, rfl⟩ := natA_form hd1
  clear hw2 hd1
  have HP2 := hid (HP.out.below (res_done HW2.out) (Nat.le_refl _))
  go_wp2_with fail
  refine (HPl.out _ _ _ _ HU2.out HD.out (Nat.le_trans HG.out (by decide)) (Nat.le_trans (nG_int (n := 1) (by decide)) (by decide)) HP2.out).mono ?_
  rintro e w3 ⟨rfl, hw3⟩
  have hw4 := res_step HW2.out hw3
  obtain ⟨r0, r1, r2⟩ := res3 hw4
  obtain ⟨f0, f1, f2⟩ := res3f hw4
  have HW4 := hid hw4
  clear hw3 hw4
  go_wp2_with fail
  refine bodyPost_ret (v := .agg #[.bool b, .string (dec n), .string (dec 1)]) ?_ rfl ⟨rfl, below3 (res_done HW4.out) _ _ _⟩
  simp [results, Tryd.results25, go_sem, r0, r1, r2]

/-- The law's eqNum. -/
def eqN (n1 : Bool) (u1 d1 : ByteArray) (n2 : Bool) (u2 d2 : ByteArray) : Bool := n1 == n2 && u1 == u2 && d1 == d2

set_option maxRecDepth 20000 in
set_option maxHeartbeats 2000000 in
theorem eqNum_same (n : Bool) (u d : ByteArray) (w : World) :
    Calls Tryd.prog 12 #[.agg #[.bool n, .string u, .string d], .agg #[.bool n, .string u, .string d]] w fun e w' => e = .returned (.bool true) ∧ Below w.heap.size w w' := by
  have h1 : (n != n) = false := by simp
  go_enter Tryd.func12, Tryd.ntmps12
  go_wp2_with fail
  go_ret
  exact ⟨rfl, ((Below.refl _ _).alloc (Nat.le_refl _) _).alloc (by simp) _⟩

end Go.Proofs.YtbbffhpppacihaaDoor
