/-
  The model's l11Text and l11Small: digits from the right as a numeral, and the numeral of a small number. Condition: the digits lie in memory as IntsAt says.
-/
import Derived.Test.YtbbffhpppacihaaDoorPart1
import Derived.Deep.RegionHeld3
import Derived.Deep.RegionLaw
import Derived.Deep.AppendLies
namespace Go.Proofs.YtbbffhpppacihaaDoor
open Go.RowKit Go.Siskin

theorem Tryd.infoByteZ : (Tryd.prog.info? 5).map (fun i => (i.zero, i.size, i.bytes)) = some (some (.int .u8 0), 1, 1) := by kernel_rfl
theorem info_partsZ {P : Program} {t : TypeId} {z : Option Value} {s b : Nat} (h : (P.info? t).map (fun i => (i.zero, i.size, i.bytes)) = some (z, s, b)) : ∃ i, P.info? t = some i ∧ i.zero = z ∧ i.size = s ∧ i.bytes = b := by
  obtain ⟨i, hi, he⟩ := Option.map_eq_some_iff.1 h
  simp only [Prod.mk.injEq] at he
  exact ⟨i, hi, he.1, he.2.1, he.2.2⟩

/-- Digits from the right. -/
def lowD : List Nat → Nat
  | [] => 0
  | d :: r => d + 10 * lowD r
def OkD (ds : List Nat) : Prop := ∀ d ∈ ds, d < 10
theorem lowD_lt : ∀ ds : List Nat, OkD ds → lowD ds < 10 ^ ds.length
  | [], _ => by simp [lowD]
  | d :: r, h => by
    have h1 := lowD_lt r (fun x hx => h x (List.mem_cons_of_mem _ hx))
    have h2 := h d (List.mem_cons_self ..)
    rw [lowD, List.length_cons, Nat.pow_succ]; omega
theorem lowD_append : ∀ (ds : List Nat) (x : Nat), lowD (ds ++ [x]) = lowD ds + x * 10 ^ ds.length
  | [], x => by simp [lowD]
  | d :: r, x => by
    rw [List.cons_append, lowD, lowD_append r x, lowD, List.length_cons, Nat.pow_succ, Nat.mul_add, Nat.mul_comm (10 ^ r.length) 10, ← Nat.mul_assoc, ← Nat.mul_assoc, Nat.mul_comm 10 x]; omega
theorem lowD_get : ∀ (ds : List Nat) (k : Nat) (h : k < ds.length), OkD ds → lowD ds / 10 ^ k % 10 = ds[k]
  | d :: r, 0, _, h => by
    have := h d (List.mem_cons_self ..)
    simp [lowD]; omega
  | d :: r, k + 1, hk, h => by
    have h0 := h d (List.mem_cons_self ..)
    have h1 := lowD_get r k (by simpa using hk) (fun x hx => h x (List.mem_cons_of_mem _ hx))
    rw [lowD, Nat.pow_succ, Nat.mul_comm (10 ^ k) 10, ← Nat.div_div_eq_div_mul, show (d + 10 * lowD r) / 10 = lowD r by omega, h1]; rfl

theorem conv_dig (W : World) (g cap : Nat) (l : List UInt8) (cs : Array Value) (e : TypeId) (ho : Own W g e cs) (hl : ∀ j (h : j < l.length), cs[j]? = some (.int .u8 (l[j].toNat : Int))) :
    (convert 34 9 (.slice (some ⟨g, 0, none⟩) l.length cap)).run Tryd.prog W = .ok (.string ⟨l.toArray⟩) W :=
  run_convert_bytes_back (P := Tryd.prog) W 34 9 5 ⟨g, 0, none⟩ cap l Tryd.underlying34 Tryd.underlying5 Tryd.underlying9 (fun j hj => by
    have h := ho.cell j
    rw [show (⟨g, 0, none⟩ : Addr).add j = ⟨g, j, none⟩ by unfold Addr.add; split <;> simp_all]
    exact h.trans (hl j hj))

set_option maxRecDepth 20000 in
set_option maxHeartbeats 1000000 in
theorem l11Text_any (ds : List Nat) (B : Nat → Prop) (va : Value) (w : World) (ha : IntsAt B w va (ds.map fun d : Nat => (d : Int))) (hB : ∀ b, B b → b < w.heap.size) (hn : ds.length ≤ 1048576) (hd : OkD ds) :
    Calls Tryd.prog 87 #[va] w fun e w' => e = .returned (.string (dec (lowD ds))) ∧ Below w.heap.size w w' := by
  obtain ⟨a, ca, rfl, hla, ha⟩ := ha
  rw [List.length_map] at *
  obtain ⟨i, hi, hz0, hz1, hz2⟩ := info_partsZ Tryd.infoByteZ
  have Hi := hid hi
  have Hz0 := hid hz0
  have Hz1 := hid hz1
  have Hz2 := hid hz2
  have HD := hid hd
  have HBB := hid hB
  clear hi hz0 hz1 hz2 hla hd hB
  generalize hL : ds.length = L at *
  go_enter Tryd.func87, Tryd.ntmps87
  go_wp2_with (at_make; refine wpList_make_new _ rfl _ _ 34 rfl 5 i (.int .u8 0) 1 Tryd.underlying34 Hi.out Hz0.out Hz1.out .i64 .i64 L rfl rfl (by rw [Hz2.out]; omega) (by unfold maxLen; omega) ?_)
  go_loopw [4] (fun i wr => ∃ k : Nat, k ≤ L ∧ i = .int .i64 k ∧ Hid (∃ cs : Array Value, Own wr w.heap.size 5 cs ∧ cs.size = L ∧ (∀ j, L - k ≤ j → j < L → cs[j]? = some (.int .u8 ((Lib.dg (lowD ds) (L - 1 - j)).toNat : Int))) ∧ Below w.heap.size w wr)) (fun i _ => L - (intOf i).toNat)
  case atStart => exact ⟨0, Nat.zero_le _, rfl, _, own_new _ _ _, by simp [size_madeCells], fun j h1 h2 => absurd h2 (by omega), (Below.refl _ _).alloc (Nat.le_refl _) _⟩
  case round =>
    obtain ⟨k, hk, rfl, HA⟩ := hrel
    obtain ⟨cs, ho, hcs, hgot, hbel⟩ := HA.out
    have HO := hid ho
    have HG := hid hgot
    have HB := hid hbel
    have HCS := hid hcs
    by_cases hlt : k < L
    · rcases ha with ha | ⟨ba, oa, rfl, hb, ha⟩
      · have := List.map_eq_nil_iff.1 ha; subst this; simp at hL; omega
      have hk' : k < ds.length := by omega
      have ga := (hbel.cell (p := ⟨ba, oa + k, none⟩) (HBB.out ba hb)).trans (ha k hlt)
      rw [show (ds.map fun d : Nat => (d : Int)).getD k 0 = (ds[k] : Int) by simp [List.getD_eq_getElem?_getD, hk']] at ga
      have gc := ho.cell (L - 1 - k)
      rw [Array.getElem?_eq_getElem (by omega)] at gc
      have gf := ho.frozen (L - 1 - k)
      have hdk : ds[k] < 10 := HD.out _ (List.getElem_mem hk')
      have HX : Hid (lowD ds / 10 ^ k % 10 = ds[k]) := lowD_get ds k hk' HD.out
      generalize ds[k] = x at *
      generalize hgd : cs[L - 1 - k] = old at gc
      clear ha HA ho hgot hbel hcs hgd
      go_wp2_with fail
      refine ⟨⟨k + 1, by omega, by go_num, _, HO.out.set (L - 1 - k) _, by simp [HCS.out], ?_, HB.out.setCell (Nat.le_refl _) _⟩, by simp [intOf]; omega⟩
      intro j h1 h2
      by_cases e : j = L - 1 - k
      · subst e
        rw [Array.getElem?_setIfInBounds, if_pos rfl, if_pos (by rw [HCS.out]; omega), show L - 1 - (L - 1 - k) = k by omega, dg_nat, HX.out]
        congr 2 <;> omega
      · rw [Array.getElem?_setIfInBounds, if_neg (by omega)]; exact HG.out j (by omega) h2
    · clear HA ho hgot hbel hcs
      obtain rfl : k = L := by omega
      by_cases h0 : k = 0
      · subst h0
        have : ds = [] := List.length_eq_zero_iff.1 hL
        subst this
        have HZ : Hid ((⟨#[48]⟩ : ByteArray) = dec (lowD [])) := by show _ = _; rw [dec_small (by simp [lowD])]; rfl
        go_wp2_with fail
        go_ret
        exact ⟨ret_strz HZ.out, HB.out⟩
      · have h0' : ((k : Int) == 0) = false := by rw [beq_eq_false_iff_ne]; omega
        have hcv := conv_dig wr w.heap.size k (digL k (lowD ds)) cs 5 HO.out (fun j h => by
          rw [digL_length] at h
          rw [HG.out j (by omega) h]
          simp [digL])
        rw [digL_length] at hcv
        have HT := hid (l11Trim_any k (lowD ds) wr (by unfold maxLen; omega) (by omega) (by rw [← hL]; exact lowD_lt ds HD.out))
        have hcv' : (convert 34 9 (.slice (some ⟨w.heap.size, 0, none⟩) k k)).run Tryd.prog wr = .ok (.string (digT k (lowD ds))) wr := hcv
        clear hcv
        go_wp2_with (go_at_call 62; refine HT.out.mono ?_; rintro e w' ⟨rfl, rfl⟩)
        go_ret
        exact ⟨rfl, HB.out⟩
end Go.Proofs.YtbbffhpppacihaaDoor
