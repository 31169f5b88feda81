/-
  The program's closed: the number of a fraction. Condition: what is below is not nought; the table of powers stands.
  The model's l11Div: what comes of dividing numerals, and what is left. Condition: numerals of at most 10,000 digits, the second above nought.
  NumOk: the model's and the program's, and the law's szNum and toNum. Condition: the table of powers stands.
-/
import Derived.Test.YtbbffhpppacihaaDoorPart10
import Derived.Test.YtbbffhpppacihaaDoorPart7
import Derived.Test.YtbbffhpppacihaaDoorPart8
namespace Go.Proofs.YtbbffhpppacihaaDoor
open Go.RowKit Go.Siskin

/-- A fraction's box is no row of groups. -/
theorem natA_box2 {w : World} {v : Value} {gs : List Nat} {fb : Nat} {e : TypeId} {n : Bool} {a1 a2 : Option Addr} {l1 l2 c1 c2 : Nat} (h : NatA w v gs) (ho : Own w fb e #[.bool n, .slice a1 l1 c1, .slice a2 l2 c2]) (x y z : Value) :
    NatA (((w.setCell ⟨fb, 0, none⟩ x).setCell ⟨fb, 1, none⟩ y).setCell ⟨fb, 2, none⟩ z) v gs := by
  obtain ⟨a, cap, e1, h1, h2, h3⟩ := h
  refine ⟨a, cap, e1, h1, h2, ?_⟩
  rcases h3 with h3 | ⟨b, o, e2, hb, hc⟩
  · exact Or.inl h3
  · by_cases hg : gs = []
    · exact Or.inl hg
    · have hne : b ≠ fb := by
        rintro rfl
        have hl : 0 < gs.length := List.length_pos_iff.2 hg
        have h := hc 0 hl
        rw [Own.cell ho (o + 0)] at h
        rcases o with _ | _ | _ | o
        · simp at h
        · simp at h
        · simp at h
        · simp at h
      refine Or.inr ⟨b, o, e2, by simpa [World.setCell] using hb, fun i hi => ?_⟩
      rw [← hc i hi]
      refine World.cell?_of_block (w := w) ?_
      rw [Below.heap_setCell _ _ _ _ hne, Below.heap_setCell _ _ _ _ hne, Below.heap_setCell _ _ _ _ hne]
theorem own_other {w : World} {g b : Nat} {e : TypeId} {cs : Array Value} (h : Own w g e cs) (hne : g ≠ b) (x y z : Value) : Own (((w.setCell ⟨b, 0, none⟩ x).setCell ⟨b, 1, none⟩ y).setCell ⟨b, 2, none⟩ z) g e cs :=
  (Below.heap_setCell _ ⟨b, 2, none⟩ z g hne).trans ((Below.heap_setCell _ ⟨b, 1, none⟩ y g hne).trans ((Below.heap_setCell _ ⟨b, 0, none⟩ x g hne).trans h))

/-- The number of a fraction in lowest terms. -/
def closedV (neg : Bool) (a b : Nat) : Value :=
  if Lib.nDigits a ≤ 60 ∧ Lib.nDigits b ≤ 60 then .tuple #[.agg #[.bool (neg && !(a == 0)), .string (dec a), .string (dec b)], .bool true] else .tuple #[.agg #[.bool false, .string ⟨#[]⟩, .string ⟨#[]⟩], .bool false]

set_option maxRecDepth 20000 in
set_option maxHeartbeats 1000000 in
theorem isTooLong_any (x : Nat) (v : Value) (w : World) (h : NatA w v (grp x)) (hn : nG x ≤ 100000) (hP : Pow9 w) (b : Bool) (hb : decide (60 < Lib.nDigits x) = b) :
    Calls Tryd.prog 73 #[v] w fun e w' => e = .returned (.bool b) ∧ w' = w := by
  obtain ⟨l, HL⟩ : ∃ l : Nat, Hid (Lib.nDigits x = l) := ⟨_, rfl⟩
  have HD := hid (digits_any x v w h (by omega) hP)
  rw [HL.out] at HD hb
  have hl : l ≤ 1000000 := by
    rw [← HL.out]
    rcases Nat.eq_zero_or_pos x with h0 | h0
    · rw [h0, Lib.nDigits_small (by decide)]; decide
    · have h1 := nDigits_top h0
      have h2 := top_pos h0
      have h3 : Lib.nDigits (x / 1000000000 ^ (nG x - 1)) ≤ 9 := nDigits_le h2.2 (by decide)
      omega
  have hli : (l : Int) ≤ 1000000 := by omega
  obtain ⟨a, c, rfl⟩ := natA_form h
  have HB : Hid (decide ((60 : Int) < (l : Int)) = b) := by
    show _ = b
    rw [← hb]
    exact decide_eq_decide.2 (by omega)
  clear h hP hn hb
  go_enter Tryd.func73, Tryd.ntmps73
  go_wp2_with fail
  refine HD.out.mono ?_
  rintro e w' ⟨rfl, hw⟩
  obtain rfl := hw.symm
  go_wp2_with fail
  go_ret
  exact ⟨by first | rfl | (rw [HB.out]; rfl), rfl⟩


set_option maxRecDepth 20000 in
set_option maxHeartbeats 800000 in
theorem closed_any (neg : Bool) (u d : Nat) (vu vd : Value) (w : World) (hu : NatA w vu (grp u)) (hd : NatA w vd (grp d)) (hnu : nG u ≤ 1000) (hnd : nG d ≤ 1000) (hd0 : 0 < d) (hP : Pow9 w) :
    Calls Tryd.prog 70 #[.agg #[.bool neg, vu, vd]] w fun e w' => e = .returned (closedV neg (u / Nat.gcd u d) (d / Nat.gcd u d)) ∧ Below w.heap.size w w' := by
  obtain ⟨ua, uc, rfl⟩ := natA_form hu
  obtain ⟨va, vc, rfl⟩ := natA_form hd
  have HLo := hid (fun W h1 h2 => lowest_any neg u d (.slice ua (grp u).length uc) (.slice va (grp d).length vc) W h1 h2 hnu hnd hd0)
  have hnA : nG (u / Nat.gcd u d) ≤ 1000 := Nat.le_trans (nG_mono (Nat.div_le_self _ _)) hnu
  have hnB : nG (d / Nat.gcd u d) ≤ 1000 := Nat.le_trans (nG_mono (Nat.div_le_self _ _)) hnd
  generalize u / Nat.gcd u d = A at *
  generalize d / Nat.gcd u d = B at *
  have HDg := hid (fun W v b (hb : decide (60 < Lib.nDigits A) = b) (h : NatA W v (grp A)) (hp : Pow9 W) => isTooLong_any A v W h (by omega) hp b hb)
  have HDh := hid (fun W v b (hb : decide (60 < Lib.nDigits B) = b) (h : NatA W v (grp B)) (hp : Pow9 W) => isTooLong_any B v W h (by omega) hp b hb)
  have HPl := hid (fun W n va vb (h1 : NatA W va (grp A)) (h2 : NatA W vb (grp B)) (hp : Pow9 W) => plain_any n A B va vb W h1 h2 (by omega) (by omega) hp)
  obtain ⟨la, HLa⟩ : ∃ l : Nat, Hid (Lib.nDigits A = l) := ⟨_, rfl⟩
  obtain ⟨lb, HLb⟩ : ∃ l : Nat, Hid (Lib.nDigits B = l) := ⟨_, rfl⟩
  have HCV := hid (show closedV neg A B = if la ≤ 60 ∧ lb ≤ 60 then _ else _ by unfold closedV; rw [HLa.out, HLb.out])
  rw [HCV.out]
  rw [HLa.out] at HDg
  rw [HLb.out] at HDh
  have hll : la ≤ 1000000 := by
    rw [← HLa.out]
    rcases Nat.eq_zero_or_pos A with h0 | h0
    · rw [h0, Lib.nDigits_small (by decide)]; decide
    · have h1 := nDigits_top h0
      have h2 := top_pos h0
      have h3 : Lib.nDigits (A / 1000000000 ^ (nG A - 1)) ≤ 9 := nDigits_le h2.2 (by decide)
      omega
  have hlb : lb ≤ 1000000 := by
    rw [← HLb.out]
    rcases Nat.eq_zero_or_pos B with h0 | h0
    · rw [h0, Lib.nDigits_small (by decide)]; decide
    · have h1 := nDigits_top h0
      have h2 := top_pos h0
      have h3 : Lib.nDigits (B / 1000000000 ^ (nG B - 1)) ≤ 9 := nDigits_le h2.2 (by decide)
      omega
  obtain ⟨ng, HNg⟩ : ∃ b : Bool, Hid ((neg && !(A == 0)) = b) := ⟨_, rfl⟩
  rw [HNg.out] at HLo ⊢
  obtain ⟨da, HDa⟩ : ∃ x, Hid (dec A = x) := ⟨_, rfl⟩
  obtain ⟨db, HDb⟩ : ∃ x, Hid (dec B = x) := ⟨_, rfl⟩
  rw [HDa.out, HDb.out] at HPl ⊢
  obtain ⟨gA, HGA⟩ : ∃ g, Hid (grp A = g) := ⟨_, rfl⟩
  obtain ⟨gB, HGB⟩ : ∃ g, Hid (grp B = g) := ⟨_, rfl⟩
  rw [HGA.out] at HDg
  rw [HGB.out] at HDh
  rw [HGA.out, HGB.out] at HLo HPl
  have HX : Hid (∀ W, Below (w.heap.size + 2) ((w.alloc (.cells #[.bool neg, .slice ua (grp u).length uc, .slice va (grp d).length vc] 71)).alloc (.cells #[.bool false, .string ⟨#[]⟩, .string ⟨#[]⟩] 25)) W → Own W w.heap.size 71 #[.bool neg, .slice ua (grp u).length uc, .slice va (grp d).length vc] ∧ Own W (w.heap.size + 1) 25 #[.bool false, .string ⟨#[]⟩, .string ⟨#[]⟩] ∧ NatA W (.slice ua (grp u).length uc) (grp u) ∧ NatA W (.slice va (grp d).length vc) (grp d) ∧ Below w.heap.size w W ∧ Pow9 W) := fun W h => by
    have h1 : Own ((w.alloc (.cells #[.bool neg, .slice ua (grp u).length uc, .slice va (grp d).length vc] 71)).alloc (.cells #[.bool false, .string ⟨#[]⟩, .string ⟨#[]⟩] 25)) w.heap.size 71 #[.bool neg, .slice ua (grp u).length uc, .slice va (grp d).length vc] := (Below.heap_alloc _ _ _ (by simp)).trans (own_new w _ _)
    have h2 := own_new (w.alloc (.cells #[.bool neg, .slice ua (grp u).length uc, .slice va (grp d).length vc] 71)) #[.bool false, .string ⟨#[]⟩, .string ⟨#[]⟩] 25
    rw [World.size_alloc] at h2
    have hb := (((Below.refl w.heap.size w).alloc (Nat.le_refl _) (.cells #[.bool neg, .slice ua (grp u).length uc, .slice va (grp d).length vc] 71)).alloc (by simp) (.cells #[.bool false, .string ⟨#[]⟩, .string ⟨#[]⟩] 25)).trans (h.mono (by omega))
    exact ⟨h1.keep h (by omega), h2.keep h (by omega), ((hu.alloc _).alloc _).below h (by simp), ((hd.alloc _).alloc _).below h (by simp), hb, hP.below hb (Nat.le_refl _)⟩
  have HB : Hid (Below (w.heap.size + 2) ((w.alloc (.cells #[.bool neg, .slice ua (grp u).length uc, .slice va (grp d).length vc] 71)).alloc (.cells #[.bool false, .string ⟨#[]⟩, .string ⟨#[]⟩] 25)) ((w.alloc (.cells #[.bool neg, .slice ua (grp u).length uc, .slice va (grp d).length vc] 71)).alloc (.cells #[.bool false, .string ⟨#[]⟩, .string ⟨#[]⟩] 25))) := Below.refl _ _
  obtain ⟨⟨n0, n1, n2⟩, -⟩ := own3V (HX.out _ HB.out).1
  have hy : w.heap.size + 2 ≤ ((w.alloc (.cells #[.bool neg, .slice ua (grp u).length uc, .slice va (grp d).length vc] 71)).alloc (.cells #[.bool false, .string ⟨#[]⟩, .string ⟨#[]⟩] 25)).heap.size := by simp
  have HP0 := hid hP
  clear hu hd hnu hnd hd0 hP hnA hnB
  go_enter Tryd.func70, Tryd.ntmps70
  go_wp2_with fail
  refine (HLo.out _ (HX.out _ HB.out).2.2.1 (HX.out _ HB.out).2.2.2.1).mono ?_
  rintro e w1 ⟨qu, qd, rfl, hq, hp, hw1⟩
  have HB1 := hid (HB.out.trans (hw1.mono hy))
  obtain ⟨qa, qc, rfl⟩ := natA_formR hq
  obtain ⟨pa, pc, rfl⟩ := natA_formR hp
  have hOb := (HX.out _ HB1.out).1
  have hOr := (HX.out _ HB1.out).2.1
  have hbw := (HX.out _ HB1.out).2.2.2.2.1
  have hpw := (HX.out _ HB1.out).2.2.2.2.2
  clear n0 n1 n2
  obtain ⟨⟨n0, n1, n2⟩, f0, f1, f2⟩ := own3V hOb
  obtain ⟨W4, HW4⟩ : ∃ W, Hid ((((w1.setCell ⟨w.heap.size, 0, none⟩ (.bool ng)).setCell ⟨w.heap.size, 1, none⟩ (.slice qa gA.length qc)).setCell ⟨w.heap.size, 2, none⟩ (.slice pa gB.length pc)) = W) := ⟨_, rfl⟩
  have hB4 : Below w.heap.size w W4 := by
    rw [← HW4.out]
    exact ((hbw.setCell (p := ⟨w.heap.size, 0, none⟩) (Nat.le_refl _) _).setCell (p := ⟨w.heap.size, 1, none⟩) (Nat.le_refl _) _).setCell (p := ⟨w.heap.size, 2, none⟩) (Nat.le_refl _) _
  have HQ4 : Hid (NatA W4 (.slice qa gA.length qc) gA) := by rw [← HW4.out]; exact natA_box2 hq hOb _ _ _
  have HP4 : Hid (NatA W4 (.slice pa gB.length pc) gB) := by rw [← HW4.out]; exact natA_box2 hp hOb _ _ _
  have HOr : Hid (Own W4 (w.heap.size + 1) 25 #[.bool false, .string ⟨#[]⟩, .string ⟨#[]⟩]) := by rw [← HW4.out]; exact own_other hOr (by omega) _ _ _
  have hOb4 : Own W4 w.heap.size 71 #[.bool ng, .slice qa gA.length qc, .slice pa gB.length pc] := by rw [← HW4.out]; exact ((hOb.set 0 _).set 1 _).set 2 _
  have HPw : Hid (Pow9 W4) := HP0.out.below hB4 (Nat.le_refl _)
  have HB4 := hid hB4
  have hz4 : w.heap.size + 2 ≤ W4.heap.size := by
    rw [← HW4.out]
    have := HB1.out.size
    rw [World.size_alloc, World.size_alloc] at this
    simpa [World.setCell] using this
  clear hq hp hw1 hOb hbw hpw hB4
  go_wp2_with fail
  rw [HW4.out]
  clear n0 n1 n2 f0 f1 f2
  obtain ⟨⟨n0, n1, n2⟩, -⟩ := own3V hOb4
  obtain ⟨⟨r0, r1, r2⟩, q0, q1, q2⟩ := own3V HOr.out
  have hl1 : (la : Int) ≤ 1000000 := by omega
  have hl2 : (lb : Int) ≤ 1000000 := by omega
  by_cases h1 : 60 < la
  · have HV : Hid ((if la ≤ 60 ∧ lb ≤ 60 then Value.tuple #[.agg #[.bool ng, .string da, .string db], .bool true] else .tuple #[.agg #[.bool false, .string ⟨#[]⟩, .string ⟨#[]⟩], .bool false]) = .tuple #[.agg #[.bool false, .string ⟨#[]⟩, .string ⟨#[]⟩], .bool false]) := if_neg (by omega)
    refine (HDg.out _ _ true (decide_eq_true h1) HQ4.out HPw.out).mono ?_
    rintro e w' ⟨rfl, hw⟩
    obtain rfl := hw.symm
    go_wp2_with fail
    refine bodyPost_ret (v := .tuple #[.agg #[.bool false, .string ⟨#[]⟩, .string ⟨#[]⟩], .bool false]) (by simp [results, Tryd.results70, go_sem, r0, r1, r2]) rfl ⟨by first | rw [HV.out] | rfl, ?_⟩
    exact ((HB4.out.setCell (p := ⟨w.heap.size + 1, 0, none⟩) (Nat.le_succ _) _).setCell (p := ⟨w.heap.size + 1, 1, none⟩) (Nat.le_succ _) _).setCell (p := ⟨w.heap.size + 1, 2, none⟩) (Nat.le_succ _) _
  · refine (HDg.out _ _ false (decide_eq_false h1) HQ4.out HPw.out).mono ?_
    rintro e w' ⟨rfl, hw⟩
    obtain rfl := hw.symm
    go_wp2_with fail
    by_cases h2 : 60 < lb
    · have HV : Hid ((if la ≤ 60 ∧ lb ≤ 60 then Value.tuple #[.agg #[.bool ng, .string da, .string db], .bool true] else .tuple #[.agg #[.bool false, .string ⟨#[]⟩, .string ⟨#[]⟩], .bool false]) = .tuple #[.agg #[.bool false, .string ⟨#[]⟩, .string ⟨#[]⟩], .bool false]) := if_neg (by omega)
      refine (HDh.out _ _ true (decide_eq_true h2) HP4.out HPw.out).mono ?_
      rintro e w' ⟨rfl, hw⟩
      obtain rfl := hw.symm
      go_wp2_with fail
      refine bodyPost_ret (v := .tuple #[.agg #[.bool false, .string ⟨#[]⟩, .string ⟨#[]⟩], .bool false]) (by simp [results, Tryd.results70, go_sem, r0, r1, r2]) rfl ⟨by first | rw [HV.out] | rfl, ?_⟩
      exact ((HB4.out.setCell (p := ⟨w.heap.size + 1, 0, none⟩) (Nat.le_succ _) _).setCell (p := ⟨w.heap.size + 1, 1, none⟩) (Nat.le_succ _) _).setCell (p := ⟨w.heap.size + 1, 2, none⟩) (Nat.le_succ _) _
    · have HV : Hid ((if la ≤ 60 ∧ lb ≤ 60 then Value.tuple #[.agg #[.bool ng, .string da, .string db], .bool true] else .tuple #[.agg #[.bool false, .string ⟨#[]⟩, .string ⟨#[]⟩], .bool false]) = .tuple #[.agg #[.bool ng, .string da, .string db], .bool true]) := if_pos (by omega)
      refine (HDh.out _ _ false (decide_eq_false h2) HP4.out HPw.out).mono ?_
      rintro e w' ⟨rfl, hw⟩
      obtain rfl := hw.symm
      go_wp2_with fail
      refine (HPl.out _ _ _ _ HQ4.out HP4.out HPw.out).mono ?_
      rintro e w5 ⟨rfl, hw5⟩
      have HB5 := hid (HB4.out.trans (hw5.mono (by omega)))
      have hO5 : Own w5 (w.heap.size + 1) 25 #[.bool false, .string ⟨#[]⟩, .string ⟨#[]⟩] := HOr.out.keep hw5 (by omega)
      clear r0 r1 r2 q0 q1 q2 hw5
      obtain ⟨⟨r0, r1, r2⟩, q0, q1, q2⟩ := own3V hO5
      clear hO5
      go_wp2_with fail
      refine bodyPost_ret (v := .tuple #[.agg #[.bool ng, .string da, .string db], .bool true]) (by simp [results, Tryd.results70, go_sem, r0, r1, r2]) rfl ⟨by first | rw [HV.out] | rfl, ?_⟩
      exact ((HB5.out.setCell (p := ⟨w.heap.size + 1, 0, none⟩) (Nat.le_succ _) _).setCell (p := ⟨w.heap.size + 1, 1, none⟩) (Nat.le_succ _) _).setCell (p := ⟨w.heap.size + 1, 2, none⟩) (Nat.le_succ _) _
end Go.Proofs.YtbbffhpppacihaaDoor

namespace Go.Proofs.YtbbffhpppacihaaDoor
open Go.RowKit Go.Siskin

theorem cut_one (m v i : Nat) (h : i < m) : (digT m v).extract i (i + 1) = ⟨#[UInt8.ofNat (48 + v / 10 ^ (m - 1 - i) % 10)]⟩ := by
  apply ba_ext
  rw [ByteArray.data_extract, Array.toList_extract]
  show ((digL m v).toArray.toList.drop i).take (i + 1 - i) = _
  rw [List.toList_toArray, Nat.add_sub_cancel_left]
  apply List.ext_getElem
  · simp [digL]; omega
  · intro j h1 h2
    simp at h2
    subst h2
    simp [digL, Lib.dg]

set_option maxRecDepth 20000 in
set_option maxHeartbeats 2000000 in
theorem l11Div_of (a b n : Nat) (w : World) (HNa : Hid (Lib.nDigits a = n)) (hn : n ≤ 10000) (hbn : Lib.nDigits b ≤ 10000) (hb : 0 < b) :
    Calls Tryd.prog 33 #[.string (dec a), .string (dec b)] w fun e w' => e = .returned (.tuple #[.string (dec (a / b)), .string (dec (a % b))]) ∧ Below w.heap.size w w' := by
  have hla : ((dec a).size : Int) = (n : Int) := by rw [dec_size, HNa.out]
  have HCut : Hid (∀ i, i < n → (dec a).extract i (i + 1) = ⟨#[UInt8.ofNat (48 + a / 10 ^ (n - 1 - i) % 10)]⟩) := fun i hi => by unfold dec; rw [HNa.out]; exact cut_one n a i hi
  have HBp := hid hb
  have HBn := hid hbn
  obtain ⟨i0, hi, hz0, hz1, hz2⟩ := info_partsZ Tryd.infoByteZ2
  have Hi := hid hi
  have Hz0 := hid hz0
  have Hz1 := hid hz1
  have Hz2 := hid hz2
  clear hi hz0 hz1 hz2 hb hbn
  go_enter Tryd.func33, Tryd.ntmps33
  go_wp2_with fail
  go_loopw [6, 7, 8] (fun q r i wr => ∃ (k g cap : Nat), q = .slice (some ⟨g, 0, none⟩) k cap ∧ r = .string (dec (a / 10 ^ (n - k) % b)) ∧ i = .int .i64 k ∧ k ≤ n ∧ Hid (wr.ownsRow w.heap.size 5 1 (.slice (some ⟨g, 0, none⟩) k cap) k (byteL (digT k (a / 10 ^ (n - k) / b)))) ∧ Hid (Below w.heap.size w wr)) (fun _ _ i _ => n - (intOf i).toNat)
  case atStart =>
    have h0 : a / 10 ^ (n - 0) = 0 := by rw [Nat.sub_zero, ← HNa.out]; exact Nat.div_eq_of_lt (Lib.lt_pow_nDigits a)
    refine ⟨0, _, 0, rfl, ?_, rfl, Nat.zero_le _, ?_, (Below.refl _ _).alloc (Nat.le_refl _) _⟩
    · rw [h0, Nat.zero_mod, dec_small (by decide)]; rfl
    · show World.ownsRow _ _ _ _ _ _ _
      rw [h0, Nat.zero_div]
      exact World.ownsRow_made w #[] 0 (Nat.le_refl _) (Nat.zero_le _) (by simp)
  case round =>
    obtain ⟨k, g, cap, rfl, rfl, rfl, hk, HU, HB⟩ := hrel
    have hsz := HB.out.size
    by_cases hlt : k < n
    · have hst := div_step (a := a) (n := n) HBp.out hlt
      obtain ⟨r, HR⟩ : ∃ r : Nat, Hid (a / 10 ^ (n - k) % b = r) := ⟨_, rfl⟩
      obtain ⟨q, HQ⟩ : ∃ q : Nat, Hid (a / 10 ^ (n - k) / b = q) := ⟨_, rfl⟩
      obtain ⟨d, HD⟩ : ∃ d : Nat, Hid (a / 10 ^ (n - 1 - k) % 10 = d) := ⟨_, rfl⟩
      have hd10 : d < 10 := by rw [← HD.out]; exact Nat.mod_lt _ (by decide)
      have hcut := HCut.out k hlt
      rw [HD.out] at hcut
      rw [HR.out, HQ.out, HD.out] at hst
      rw [HQ.out] at HU
      rw [HR.out]
      have hrb : r < b := by rw [← HR.out]; exact Nat.mod_lt _ HBp.out
      have HST := hid hst
      have hrs : (dec r).size ≤ 10000 := by rw [dec_size]; exact Nat.le_trans (nDigits_mono (Nat.le_of_lt hrb)) HBn.out
      have HCat := hid (digT_snoc (Lib.nDigits r) r d hd10)
      obtain ⟨c, HCc⟩ : ∃ c : UInt8, Hid (UInt8.ofNat (48 + d) = c) := ⟨_, rfl⟩
      rw [HCc.out] at hcut HCat
      have HTr := hid (fun w => l11Trim_any (Lib.nDigits r + 1) (r * 10 + d) w (by rw [dec_size] at hrs; unfold maxLen; omega) (by omega) (by rw [Nat.pow_succ]; have := Lib.lt_pow_nDigits r; omega))
      rw [← HCat.out] at HTr
      clear hst
      go_wp2_with fail
      refine (HTr.out _).mono ?_
      rintro e w' ⟨rfl, hw⟩
      obtain rfl := hw.symm
      obtain ⟨R, HRR⟩ : ∃ R : Nat, Hid (r * 10 + d = R) := ⟨_, rfl⟩
      rw [HRR.out] at HST ⊢
      clear HTr HCat hcut
      go_wp2_with fail
      rename World => w1
      go_loopw [7, 9] (fun rr nn wr => ∃ j : Nat, rr = .string (dec (R - j * b)) ∧ nn = .int .u8 ((48 + j : Nat) : Int) ∧ Hid (j * b ≤ R) ∧ j ≤ 9 ∧ Hid (Below w1.heap.size w1 wr)) (fun _ nn _ => (60 - intOf nn).toNat)
      case atStart => exact ⟨0, by rw [Nat.zero_mul]; rfl, rfl, by show _ ≤ _; omega, by omega, Below.refl _ _⟩
      case round =>
        obtain ⟨j, rfl, rfl, HJ, hj, HB2⟩ := hrel
        have hs2 := HB2.out.size
        have HCm := hid (l11Cmp_any (R - j * b) b)
        by_cases hge : b ≤ R - j * b
        · have HV : Hid (0 ≤ cmpI (R - j * b) b) := by
            show _ ≤ _; unfold cmpI; rw [if_neg (by omega)]; split <;> omega
          have hj9 : j < 9 := by
            rcases Nat.lt_or_ge j 9 with h | h
            · exact h
            · exfalso
              have e : j = 9 := by omega
              subst e
              have := HST.out.2.2; omega
          have HSb := hid (fun w => l11Sub_any (R - j * b) b w (by
            have h1 : Lib.nDigits (R - j * b) ≤ Lib.nDigits b + 1 := nDigits_le (by rw [Nat.pow_succ]; have := Lib.lt_pow_nDigits b; have := HST.out.2.2; omega) (by omega)
            have := HBn.out; omega) hge)
          have HE : Hid (R - j * b - b = R - (j + 1) * b) := by show _ = _; rw [Nat.succ_mul]; omega
          rw [HE.out] at HSb
          have HJ2 : Hid ((j + 1) * b ≤ R) := by
            have h := HJ.out
            show _ ≤ _; rw [Nat.succ_mul]; omega
          obtain ⟨cv, HCV⟩ : ∃ cv : Int, Hid (cmpI (R - j * b) b = cv) := ⟨_, rfl⟩
          rw [HCV.out] at HCm
          have hcv : 0 ≤ cv := by rw [← HCV.out]; exact HV.out
          clear hge HV
          go_wp2_with fail
          refine (HCm.out _).mono ?_
          rintro e w' ⟨rfl, hw⟩
          obtain rfl := hw.symm
          go_wp2_with fail
          refine (HSb.out _).mono ?_
          rintro e w3 ⟨rfl, hw3⟩
          have HW3 := hid hw3
          clear hw3
          go_wp2_with fail
          refine ⟨⟨j + 1, rfl, by congr 1, HJ2, by omega, HB2.out.trans (HW3.out.mono hs2)⟩, by simp [intOf]; omega⟩
        · have HV : Hid (cmpI (R - j * b) b < 0) := by
            show _ < _; unfold cmpI; rw [if_pos (by omega)]; omega
          obtain ⟨cv, HCV⟩ : ∃ cv : Int, Hid (cmpI (R - j * b) b = cv) := ⟨_, rfl⟩
          rw [HCV.out] at HCm
          have hcv : cv < 0 := by rw [← HCV.out]; exact HV.out
          have HJq : Hid (R / b = j ∧ R % b = R - j * b) := by
            have h := HJ.out
            have hb := HBp.out
            have e : R = b * j + (R - j * b) := by rw [Nat.mul_comm b j]; omega
            generalize R - j * b = z at *
            constructor
            · rw [e, Nat.mul_add_div hb, Nat.div_eq_of_lt (by omega), Nat.add_zero]
            · rw [e, Nat.mul_add_mod, Nat.mod_eq_of_lt (by omega)]
          have HU2 : Hid (wr.ownsRow w.heap.size 5 1 (.slice (some ⟨g, 0, none⟩) k cap) k (byteL (digT k q))) := World.ownsRow.kept (row := none) HU.out ⟨HB2.out.os, HB2.out.tape, HB2.out.output, HB2.out.size, fun i hi _ => HB2.out.block i hi⟩ (Or.inr (by simp [Value.ownBlock]))
          have hsz2 : w.heap.size ≤ wr.heap.size := by omega
          clear hge HV
          go_wp2_with fail
          refine (HCm.out _).mono ?_
          rintro e w' ⟨rfl, hw⟩
          obtain rfl := hw.symm
          go_wp2_with (at_builtin; go_loud (refine wpList_append_lies _ rfl _ _ _ rfl w.heap.size 5 i0 (.int .u8 0) 1 1 Tryd.underlying34 Hi.out Hz0.out Hz1.out Hz2.out rfl (by decide) _ k (byteL (digT k q)) rfl (HU2.out.alloc _) ⟨wr.heap.size, 0, none⟩ 1 1 [.int .u8 ((48 + j : Nat) : Int)] rfl rfl (cell_one_newZ _ _ _) (by simp [Value.oneCell']) (by omega) (by unfold maxLen; omega) (by omega) (by simp; omega) (wr.heap.size + 1) (by simp) ?_; intro gg cc w4 hown' hg hat hgl; have hall := (World.grownBy_alloc wr _ _).trans hg))
          have hlow : ∀ g', (Value.slice (some ⟨g, 0, none⟩) k cap).ownBlock = some g' → w.heap.size ≤ g' := fun g' e => (HU2.out.lt g' e).1
          refine ⟨⟨k + 1, gg, cc, rfl, ?_, by go_num, by omega, ?_, (HB.out.trans (HB2.out.mono hsz)).grown hall hsz2 hlow⟩, by simp [intOf]; omega⟩
          · rw [HST.out.2.1, HJq.out.2]
          · show World.ownsRow _ _ _ _ _ _ _
            rw [HST.out.1, HJq.out.1, byteL_snoc k q j (by omega)]
            exact hown'
    · have hkn : k = n := by omega
      subst hkn
      have he : a / 10 ^ (k - k) = a := by rw [Nat.sub_self, Nat.pow_zero, Nat.div_one]
      rw [he] at HU ⊢
      have HCv := hid (conv_back wr w.heap.size k g cap _ HU.out)
      have HTr := hid (fun w => l11Trim_any k (a / b) w (by unfold maxLen; omega) (by have := Lib.nDigits_pos a; have := HNa.out; omega) (Nat.lt_of_le_of_lt (Nat.div_le_self _ _) (by rw [← HNa.out]; exact Lib.lt_pow_nDigits a)))
      have hcv := HCv.out
      clear he
      go_wp2_with fail
      refine (HTr.out _).mono ?_
      rintro e w' ⟨rfl, hw⟩
      obtain rfl := hw.symm
      go_wp2_with fail
      go_ret2
      exact ⟨rfl, HB.out⟩
theorem l11Div_any (a b : Nat) (w : World) (hn : Lib.nDigits a ≤ 10000) (hbn : Lib.nDigits b ≤ 10000) (hb : 0 < b) :
    Calls Tryd.prog 33 #[.string (dec a), .string (dec b)] w fun e w' => e = .returned (.tuple #[.string (dec (a / b)), .string (dec (a % b))]) ∧ Below w.heap.size w w' := l11Div_of a b _ w rfl hn hbn hb

/-- The greatest number that divides both. -/
theorem gcd_step (a b : Nat) : Nat.gcd a b = Nat.gcd b (a % b) := by rw [Nat.gcd_comm a b, Nat.gcd_rec b a, Nat.gcd_comm]

set_option maxRecDepth 20000 in
set_option maxHeartbeats 2000000 in
theorem l11Gcd_any (a b : Nat) (w : World) (hn : Lib.nDigits a ≤ 10000) (hbn : Lib.nDigits b ≤ 10000) :
    Calls Tryd.prog 51 #[.string (dec a), .string (dec b)] w fun e w' => e = .returned (.string (dec (Nat.gcd a b))) ∧ Below w.heap.size w w' := by
  obtain ⟨G, HG⟩ : ∃ G : Nat, Hid (Nat.gcd a b = G) := ⟨_, rfl⟩
  rw [HG.out]
  have HN := hid hn
  have HBn := hid hbn
  have hz : dec 0 = ⟨#[48]⟩ := by rw [dec_small (by decide)]; rfl
  have HZ := hid hz
  clear hn hbn hz
  go_enter Tryd.func51, Tryd.ntmps51
  go_wp2_with fail
  go_loopw [0, 1] (fun x y wr => ∃ (u v : Nat), x = .string (dec u) ∧ y = .string (dec v) ∧ Hid (Nat.gcd u v = G) ∧ Hid (Lib.nDigits u ≤ 10000) ∧ Hid (Lib.nDigits v ≤ 10000) ∧ Hid (Below w.heap.size w wr)) (fun _ y _ => match y with | .string t => valT t | _ => 0)
  case atStart => exact ⟨a, b, rfl, rfl, HG.out, HN.out, HBn.out, Below.refl _ _⟩
  case round =>
    obtain ⟨u, v, rfl, rfl, HGu, HNu, HNv, HB⟩ := hrel
    have hsz := HB.out.size
    by_cases hv : v = 0
    · subst hv
      have hne : ((dec 0).toList == [48]) = true := by rw [HZ.out, Go.ByteArray.toList_eq]; rfl
      have HU : Hid (u = G) := by rw [← HGu.out]; exact (Nat.gcd_zero_right u).symm
      go_wp2_with fail
      go_ret
      exact ⟨ret_strz (by rw [HU.out]), HB.out⟩
    · have hne : ((dec v).toList == [48]) = false := by
        rw [beq_eq_false_iff_ne]
        intro e
        rw [Go.ByteArray.toList_eq] at e
        have h2 : dec v = dec 0 := by rw [HZ.out]; exact ba_ext e
        exact hv (dec_inj h2)
      have HD := hid (fun w => l11Div_any u v w HNu.out HNv.out (by omega))
      have HM : Hid (valT (dec (u % v)) < valT (dec v)) := by
        show _ < _
        rw [valT_dec, valT_dec]
        exact Nat.mod_lt _ (by omega)
      have HGs : Hid (Nat.gcd v (u % v) = G) := by show _ = _; rw [← gcd_step]; exact HGu.out
      have HN2 : Hid (Lib.nDigits (u % v) ≤ 10000) := by
        show _ ≤ _
        exact Nat.le_trans (nDigits_mono (Nat.le_of_lt (Nat.mod_lt _ (by omega)))) HNv.out
      clear hv
      go_wp2_with fail
      refine (HD.out _).mono ?_
      rintro e w2 ⟨rfl, hw⟩
      have HW := hid hw
      clear hw
      go_wp2_with fail
      refine ⟨⟨v, u % v, rfl, rfl, HGs, HNv, HN2, HB.out.trans (HW.out.mono hsz)⟩, ?_⟩
      exact HM.out
end Go.Proofs.YtbbffhpppacihaaDoor

namespace Go.Proofs.YtbbffhpppacihaaDoor
open Go.RowKit Go.Siskin

/-- What the law's own count leaves. -/
def szN (a b : Nat) (left : Int) : Int := if left - a < 0 then -1 else if left - a - b < 0 then -1 else left - a - b

set_option maxRecDepth 20000 in
set_option maxHeartbeats 1000000 in
theorem szNum_any (neg : Bool) (up down : ByteArray) (left : Int) (w : World) (h0 : 0 ≤ left) (h1 : left ≤ 1048576) (hu : up.size ≤ maxLen) (hd : down.size ≤ maxLen) :
    Calls Tryd.prog 8 #[.agg #[.bool neg, .string up, .string down], .int .i64 left] w fun e w' => e = .returned (.int .i64 (szN up.size down.size left)) ∧ Below w.heap.size w w' := by
  unfold maxLen at hu hd
  obtain ⟨a, HA⟩ : ∃ a : Nat, Hid (up.size = a) := ⟨_, rfl⟩
  obtain ⟨b, HB⟩ : ∃ b : Nat, Hid (down.size = b) := ⟨_, rfl⟩
  have ha : (up.size : Int) = (a : Int) := by rw [HA.out]
  have hb : (down.size : Int) = (b : Int) := by rw [HB.out]
  rw [HA.out] at hu ⊢
  rw [HB.out] at hd ⊢
  have HBw : Hid (Below w.heap.size w (w.alloc (.cells #[.bool neg, .string up, .string down] 23))) := (Below.refl _ _).alloc (Nat.le_refl _) _
  by_cases h2 : left - a < 0
  · have HV : Hid (szN a b left = -1) := by show _ = _; unfold szN; rw [if_pos h2]
    rw [HV.out]
    go_enter Tryd.func8, Tryd.ntmps8
    go_wp2_with fail
    go_ret
    exact ⟨rfl, HBw.out⟩
  · by_cases h3 : left - a - b < 0
    · have HV : Hid (szN a b left = -1) := by show _ = _; unfold szN; rw [if_neg h2, if_pos h3]
      rw [HV.out]
      go_enter Tryd.func8, Tryd.ntmps8
      go_wp2_with fail
      go_ret
      exact ⟨rfl, HBw.out⟩
    · have HV : Hid (szN a b left = left - a - b) := by show _ = _; unfold szN; rw [if_neg h2, if_neg h3]
      rw [HV.out]
      go_enter Tryd.func8, Tryd.ntmps8
      go_wp2_with fail
      go_ret
      exact ⟨rfl, HBw.out⟩

set_option maxRecDepth 20000 in
set_option maxHeartbeats 1000000 in
theorem toNum_any (neg : Bool) (up down : ByteArray) (w : World) :
    Calls Tryd.prog 10 #[.agg #[.bool neg, .string up, .string down]] w fun e w' => e = .returned (.agg #[.bool neg, .string up, .string down]) ∧ Below w.heap.size w w' := by
  go_enter Tryd.func10, Tryd.ntmps10
  go_wp2_with fail
  refine bodyPost_ret (v := .agg #[.bool neg, .string up, .string down]) ?_ rfl ⟨rfl, ?_⟩
  · simp [results, Tryd.results10, go_sem]
  · exact (((Below.refl _ _).alloc (Nat.le_refl _) _).alloc (by simp) _).alloc (by simp <;> omega) _

/-- What is a number. -/
def NumP (neg : Bool) (up down : ByteArray) : Prop := ∃ u d, up = dec u ∧ down = dec d ∧ up.size ≤ 60 ∧ down.size ≤ 60 ∧ OkUD neg u d

set_option maxRecDepth 20000 in
set_option maxHeartbeats 2000000 in
theorem implNumOk_any (neg : Bool) (up down : ByteArray) (w : World) (hu : up.size ≤ maxLen) (hd : down.size ≤ maxLen) (hP : Pow9 w) (b : Bool) (hb : b = true ↔ NumP neg up down) :
    Calls Tryd.prog 20 #[.agg #[.bool neg, .string up, .string down]] w fun e w' => e = .returned (.bool b) ∧ Below w.heap.size w w' := by
  have HBw : Hid (Below (w.heap.size + 1) (w.alloc (.cells #[.bool neg, .string up, .string down] 25)) (w.alloc (.cells #[.bool neg, .string up, .string down] 25))) := Below.refl _ _
  obtain ⟨n0, n1, n2⟩ := res3 HBw.out
  by_cases ht : (DecP up ∧ up.size ≤ 60) ∧ (DecP down ∧ down.size ≤ 60)
  · obtain ⟨⟨du, su⟩, ⟨dd, sd⟩⟩ := ht
    obtain ⟨u, rfl⟩ := (decP_iff up).1 du
    obtain ⟨d, rfl⟩ := (decP_iff down).1 dd
    have su' := su
    have sd' := sd
    rw [dec_size] at su' sd'
    have hOK : OkUD neg u d ↔ NumP neg (dec u) (dec d) := ⟨fun h => ⟨u, d, rfl, rfl, su, sd, h⟩, fun ⟨u', d', e1, e2, _, _, h⟩ => by rw [dec_inj e1, dec_inj e2]; exact h⟩
    have HO := hid (fun w (h : Pow9 w) => openNum_dec neg u d w su' sd' h)
    have HP := hid hP
    have HOK := hid hOK
    have HBb := hid hb
    clear hOK hb du dd su sd su' sd' hP
    generalize dec u = up at *
    generalize dec d = down at *
    go_enter Tryd.func20, Tryd.ntmps20
    go_wp2_with fail
    refine (HO.out _ (HP.out.alloc _)).mono ?_
    rintro e w1 ⟨F, bb, rfl, hw, hcase⟩
    have HW := hid (((Below.refl w.heap.size w).alloc (Nat.le_refl _) _).trans (hw.mono (by simp)))
    have hs1 : w.heap.size ≤ w1.heap.size := HW.out.size
    rcases hcase with ⟨rfl, hok, vu, vd, rfl, hvu, hvd⟩ | ⟨rfl, hno, rfl⟩
    · have HV : Hid (true = b) := (HBb.out.2 (HOK.out.1 hok)).symm
      obtain ⟨ua, uc, rfl⟩ := natA_form hvu
      obtain ⟨da, dc, rfl⟩ := natA_form hvd
      clear hvu hvd hw hok
      go_wp2_with fail
      go_ret
      exact ⟨ret_boolz HV.out, HW.out.alloc hs1 _⟩
    · have HV : Hid (false = b) := by
        show _ = _
        cases hbb : b with
        | false => rfl
        | true => exact absurd (HOK.out.2 (HBb.out.1 hbb)) hno
      clear hw hno
      go_wp2_with fail
      go_ret
      exact ⟨ret_boolz HV.out, HW.out.alloc hs1 _⟩
  · have HV : Hid (false = b) := by
      show _ = _
      cases hbb : b with
      | false => rfl
      | true =>
        obtain ⟨u, d, e1, e2, h1, h2, -⟩ := hb.1 hbb
        exact absurd ⟨⟨(decP_iff up).2 ⟨u, e1⟩, h1⟩, ⟨(decP_iff down).2 ⟨d, e2⟩, h2⟩⟩ ht
    have HO := hid (fun w => openNum_text neg up down w hu hd ht)
    clear ht hb
    go_enter Tryd.func20, Tryd.ntmps20
    go_wp2_with fail
    refine (HO.out _).mono ?_
    rintro e w1 ⟨rfl, hw⟩
    have HW := hid (((Below.refl w.heap.size w).alloc (Nat.le_refl _) _).trans (hw.mono (by simp)))
    have hs1 : w.heap.size ≤ w1.heap.size := HW.out.size
    clear hw
    go_wp2_with fail
    go_ret
    exact ⟨ret_boolz HV.out, HW.out.alloc hs1 _⟩
theorem nought_text (v : Nat) : ((dec v).toList == [48]) = decide (v = 0) := by
  rw [Bool.eq_iff_iff, decide_eq_true_eq, beq_iff_eq, Go.ByteArray.toList_eq]
  have hz : dec 0 = ⟨#[48]⟩ := by rw [dec_small (by decide)]; rfl
  constructor
  · intro e
    have h2 : dec v = dec 0 := by rw [hz]; exact ba_ext e
    exact dec_inj h2
  · rintro rfl; rw [hz]
theorem one_text (v : Nat) : ((dec v).toList == [49]) = decide (v = 1) := by
  rw [Bool.eq_iff_iff, decide_eq_true_eq, beq_iff_eq, Go.ByteArray.toList_eq]
  have hz : dec 1 = ⟨#[49]⟩ := dec_one
  constructor
  · intro e
    have h2 : dec v = dec 1 := by rw [hz]; exact ba_ext e
    exact dec_inj h2
  · rintro rfl; rw [hz]

set_option maxRecDepth 20000 in
set_option maxHeartbeats 4000000 in
theorem specNumOk_any (neg : Bool) (up down : ByteArray) (w : World) (hu : up.size ≤ maxLen) (hd : down.size ≤ maxLen) (b : Bool) (hb : b = true ↔ NumP neg up down) :
    Calls Tryd.prog 21 #[.agg #[.bool neg, .string up, .string down]] w fun e w' => e = .returned (.bool b) ∧ Below w.heap.size w w' := by
  have HBw : Hid (Below (w.heap.size + 1) (w.alloc (.cells #[.bool neg, .string up, .string down] 25)) (w.alloc (.cells #[.bool neg, .string up, .string down] 25))) := Below.refl _ _
  have HBd : Hid (Below w.heap.size w (w.alloc (.cells #[.bool neg, .string up, .string down] 25))) := (Below.refl _ _).alloc (Nat.le_refl _) _
  obtain ⟨n0, n1, n2⟩ := res3 HBw.out
  have HBb := hid hb
  have HUl := hid hu
  have HDl := hid hd
  unfold maxLen at hu hd
  clear hb
  by_cases h1 : 60 < up.size
  · have HV : Hid (false = b) := by
      show _ = _
      cases hbb : b with
      | false => rfl
      | true =>
        obtain ⟨u', d', e1, e2, s1, s2, ok⟩ := HBb.out.1 hbb
        omega
    go_enter Tryd.func21, Tryd.ntmps21
    go_wp2_with fail
    go_ret
    exact ⟨ret_boolz HV.out, HBd.out⟩
  by_cases h2 : 60 < down.size
  · have HV : Hid (false = b) := by
      show _ = _
      cases hbb : b with
      | false => rfl
      | true =>
        obtain ⟨u', d', e1, e2, s1, s2, ok⟩ := HBb.out.1 hbb
        omega
    go_enter Tryd.func21, Tryd.ntmps21
    go_wp2_with fail
    go_ret
    exact ⟨ret_boolz HV.out, HBd.out⟩
  by_cases h3 : DecP up
  rotate_left
  · have HV : Hid (false = b) := by
      show _ = _
      cases hbb : b with
      | false => rfl
      | true =>
        obtain ⟨u', d', e1, e2, s1, s2, ok⟩ := HBb.out.1 hbb
        exact absurd ((decP_iff up).2 ⟨u', e1⟩) h3
    have HU := hid (fun w => l11DigitsOk_any up w HUl.out false ⟨fun h => (by cases h), fun h => absurd h h3⟩)
    clear h3
    go_enter Tryd.func21, Tryd.ntmps21
    go_wp2_with fail
    refine (HU.out _).mono ?_
    rintro e w' ⟨rfl, hw⟩
    subst hw
    go_wp2_with fail
    go_ret
    exact ⟨ret_boolz HV.out, HBd.out⟩
  have HU := hid (fun w => l11DigitsOk_any up w HUl.out true ⟨fun _ => h3, fun _ => rfl⟩)
  by_cases h4 : DecP down
  rotate_left
  · have HV : Hid (false = b) := by
      show _ = _
      cases hbb : b with
      | false => rfl
      | true =>
        obtain ⟨u', d', e1, e2, s1, s2, ok⟩ := HBb.out.1 hbb
        exact absurd ((decP_iff down).2 ⟨d', e2⟩) h4
    have HD := hid (fun w => l11DigitsOk_any down w HDl.out false ⟨fun h => (by cases h), fun h => absurd h h4⟩)
    clear h3 h4
    go_enter Tryd.func21, Tryd.ntmps21
    go_wp2_with fail
    refine (HU.out _).mono ?_
    rintro e w' ⟨rfl, hw⟩
    subst hw
    go_wp2_with fail
    refine (HD.out _).mono ?_
    rintro e w' ⟨rfl, hw⟩
    subst hw
    go_wp2_with fail
    go_ret
    exact ⟨ret_boolz HV.out, HBd.out⟩
  have HD := hid (fun w => l11DigitsOk_any down w HDl.out true ⟨fun _ => h4, fun _ => rfl⟩)
  obtain ⟨u, rfl⟩ := (decP_iff up).1 h3
  obtain ⟨d, rfl⟩ := (decP_iff down).1 h4
  have HSu : Hid ((dec u).size ≤ 60) := by show _ ≤ _; omega
  have HSd : Hid ((dec d).size ≤ 60) := by show _ ≤ _; omega
  have hzd := nought_text d
  have hzu := nought_text u
  have HGc := hid (fun w => l11Gcd_any u d w (by have := HSu.out; rw [dec_size] at this; omega) (by have := HSd.out; rw [dec_size] at this; omega))
  have hno : ¬ OkUD neg u d → Hid (false = b) := fun h => by
    show _ = _
    cases hbb : b with
    | false => rfl
    | true =>
      obtain ⟨u', d', e1, e2, s1, s2, ok⟩ := HBb.out.1 hbb
      rw [← dec_inj e1, ← dec_inj e2] at ok
      exact absurd ok h
  have HNo := hid hno
  clear hno h3 h4
  by_cases hd0 : d = 0
  · rw [decide_eq_true hd0] at hzd
    have HV := HNo.out (fun h => h.1 hd0)
    clear hd0 hzu HNo
    generalize dec u = up at *
    generalize dec d = down at *
    go_enter Tryd.func21, Tryd.ntmps21
    go_wp2_with fail
    refine (HU.out _).mono ?_
    rintro e w' ⟨rfl, hw⟩
    subst hw
    go_wp2_with fail
    refine (HD.out _).mono ?_
    rintro e w' ⟨rfl, hw⟩
    subst hw
    go_wp2_with fail
    go_ret
    exact ⟨ret_boolz HV.out, HBd.out⟩
  · rw [decide_eq_false hd0] at hzd
    by_cases hnu : neg = true ∧ u = 0
    · rw [decide_eq_true hnu.2] at hzu
      have HV := HNo.out (fun h => h.2.1 hnu)
      obtain ⟨rfl, -⟩ := hnu
      clear hd0 HNo
      generalize dec u = up at *
      generalize dec d = down at *
      go_enter Tryd.func21, Tryd.ntmps21
      go_wp2_with fail
      refine (HU.out _).mono ?_
      rintro e w' ⟨rfl, hw⟩
      subst hw
      go_wp2_with fail
      refine (HD.out _).mono ?_
      rintro e w' ⟨rfl, hw⟩
      subst hw
      go_wp2_with fail
      go_ret
      exact ⟨ret_boolz HV.out, HBd.out⟩
    · obtain ⟨G, HG⟩ : ∃ G : Nat, Hid (Nat.gcd u d = G) := ⟨_, rfl⟩
      have HV : Hid (decide (G = 1) = b) := by
        show _ = _
        by_cases h1 : G = 1
        · rw [decide_eq_true h1]
          exact (HBb.out.2 ⟨u, d, rfl, rfl, HSu.out, HSd.out, hd0, hnu, by rw [HG.out, h1]⟩).symm
        · rw [decide_eq_false h1]
          exact HNo.out (fun h => h1 (by rw [← HG.out]; exact h.2.2))
      have hzg := one_text G
      rw [HG.out] at HGc
      clear HNo hd0
      cases neg with
      | false =>
        clear hnu hzu
        generalize dec u = up at *
        generalize dec d = down at *
        generalize dec G = gt at *
        go_enter Tryd.func21, Tryd.ntmps21
        go_wp2_with fail
        refine (HU.out _).mono ?_
        rintro e w' ⟨rfl, hw⟩
        subst hw
        go_wp2_with fail
        refine (HD.out _).mono ?_
        rintro e w' ⟨rfl, hw⟩
        subst hw
        go_wp2_with fail
        refine (HGc.out _).mono ?_
        rintro e w2 ⟨rfl, hw2⟩
        have HW2 := hid (HBd.out.trans (hw2.mono (by simp)))
        clear hw2
        go_wp2_with fail
        go_ret
        exact ⟨ret_boolz HV.out, HW2.out⟩
      | true =>
        have hu0 : ¬ u = 0 := fun h => hnu ⟨rfl, h⟩
        rw [decide_eq_false hu0] at hzu
        clear hnu hu0
        generalize dec u = up at *
        generalize dec d = down at *
        generalize dec G = gt at *
        go_enter Tryd.func21, Tryd.ntmps21
        go_wp2_with fail
        refine (HU.out _).mono ?_
        rintro e w' ⟨rfl, hw⟩
        subst hw
        go_wp2_with fail
        refine (HD.out _).mono ?_
        rintro e w' ⟨rfl, hw⟩
        subst hw
        go_wp2_with fail
        refine (HGc.out _).mono ?_
        rintro e w2 ⟨rfl, hw2⟩
        have HW2 := hid (HBd.out.trans (hw2.mono (by simp)))
        clear hw2
        go_wp2_with fail
        go_ret
        exact ⟨ret_boolz HV.out, HW2.out⟩

end Go.Proofs.YtbbffhpppacihaaDoor
