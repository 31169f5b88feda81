/-
  The model's NumPower. Condition: none.
  NumPower: the model's and the program's answer the same. Condition: the table of powers and errors.errorType stand.
  The law FnExactNumPower. Condition: the table of powers and errors.errorType stand. LR in other words.
  The table of powers of ten as the card lists it, and as the walks read it.
  The table of powers of ten and errors.errorType as the card lists them, and as the walks read them.
-/
import Derived.Test.YtbbffhpppacihaaDoorPart23
import Derived.Test.YtbbffhpppacihaaDoorPart21
import Derived.Test.YtbbffhpppacihaaDoorPart20
import Derived.Test.YtbbffhpppacihaaDoorPK
import Derived.Test.YtbbffhpppacihaaDoorPart12
import Derived.Test.YtbbffhpppacihaaDoorRows
import Derived.Test.YtbbffhpppacihaaDoorPart1
import Derived.ProofKit
import Derived.OpenShut
import Derived.ShutString
import Derived.ChangeOld
import Derived.ChangeVars
import Derived.Below
import Derived.Carry
import Derived.LaidMore
import Derived.Stop.Joined
import Derived.Stop.LaidErr
import Derived.Lib.LaidTab
import Derived.LaidSub
namespace Go.Proofs.YtbbffhpppacihaaDoor
open Go.RowKit Go.Siskin

abbrev pwA (n : Bool) (T R : ByteArray) (k : Int) : Array Value := #[.agg #[.bool n, .string T, .string R], .int .i64 k]
theorem specNumOk_P (n : Bool) (T R : ByteArray) (b : Bool) (h1 : T.size ≤ maxLen) (h2 : R.size ≤ maxLen) (hb : b = true ↔ NumP n T R) : ∀ w, Calls Tryd.prog 21 #[.agg #[.bool n, .string T, .string R]] w fun e w' => e = .returned (.bool b) ∧ Below w.heap.size w w' := fun w => specNumOk_any n T R w h1 h2 b hb

set_option maxRecDepth 20000 in
set_option maxHeartbeats 1000000 in
theorem specNumPower_one (n : Bool) (T R : ByteArray) (k : Int) (w : World) (h1 : T.size ≤ maxLen) (h2 : R.size ≤ maxLen) (hno : ¬ NumP n T R ∨ ¬ (-1000 ≤ k ∧ k ≤ 1000)) :
    Calls Tryd.prog 13 (pwA n T R k) w fun e w' => e = .returned (noAns 1) ∧ Below w.heap.size w w' := by
  obtain ⟨b, hb⟩ : ∃ b : Bool, b = true ↔ NumP n T R := by
    by_cases h : NumP n T R
    · exact ⟨true, ⟨fun _ => h, fun _ => rfl⟩⟩
    · exact ⟨false, ⟨fun h' => Bool.noConfusion h', fun h' => absurd h' h⟩⟩
  obtain ⟨c, hc⟩ : ∃ c : Bool, decide (-1000 ≤ k ∧ k ≤ 1000) = c := ⟨_, rfl⟩
  have HO := hid (specNumOk_P n T R b h1 h2 hb)
  have HI := hid (fun w => l11In_any k (-1000) 1000 w c hc)
  have hcase : b = false ∨ (b = true ∧ c = false) := by
    rcases hno with h | h
    · cases b
      · exact Or.inl rfl
      · exact absurd (hb.1 rfl) h
    · cases b
      · exact Or.inl rfl
      · refine Or.inr ⟨rfl, ?_⟩; rw [← hc]; exact decide_eq_false h
  clear h1 h2 hno hb hc
  have HX : Hid (∀ W, Below (w.heap.size + 2) ((w.alloc (boxN n T R)).alloc box0) W → Siskin.Own W w.heap.size 25 #[.bool n, .string T, .string R] ∧ Siskin.Own W (w.heap.size + 1) 25 #[.bool false, .string ⟨#[]⟩, .string ⟨#[]⟩] ∧ Below w.heap.size w W) := fun W h => boxes2 w _ _ _ _ h
  have HB0 : Hid (Below (w.heap.size + 2) ((w.alloc (boxN n T R)).alloc box0) ((w.alloc (boxN n T R)).alloc box0)) := Below.refl _ _
  rcases hcase with rfl | ⟨rfl, rfl⟩
  all_goals
    go_enter Tryd.func13, Tryd.ntmps13
    go_wp2_with fail
    refine (HO.out _).mono ?_
    rintro e wa ⟨rfl, hwa⟩
    have HBa : Hid (Below (w.heap.size + 2) ((w.alloc (boxN n T R)).alloc box0) wa) := HB0.out.trans (hwa.mono (show w.heap.size + 2 ≤ _ by simp))
    clear hwa
    obtain ⟨⟨r0, r1, r2⟩, q0, q1, q2⟩ := own3V (HX.out _ HBa.out).2.1
    go_wp2_with fail
    try
      refine (HI.out _).mono ?_
      rintro e wb ⟨rfl, hwb⟩
      obtain rfl := hwb.symm
      clear hwb
      go_wp2_with fail
    refine bodyPost_ret (v := noAns 1) (by simp [results, Tryd.results13, go_sem, r0, r1, r2]) rfl ⟨rfl, ?_⟩
    exact below_set3 (HX.out _ HBa.out).2.2 (Nat.le_succ _) _ _ _

set_option maxRecDepth 20000 in
set_option maxHeartbeats 1000000 in
theorem specNumPower_two (n : Bool) (D : Nat) (k : Int) (w : World) (h2 : (dec D).size ≤ maxLen) (hp : NumP n (dec 0) (dec D)) (h0 : k < 0) (hk : -1000 ≤ k) :
    Calls Tryd.prog 13 (pwA n (dec 0) (dec D) k) w fun e w' => e = .returned (noAns 2) ∧ Below w.heap.size w w' := by
  have h1 : (dec 0).size ≤ maxLen := by rw [dec_size, Lib.nDigits_small (by decide)]; decide
  have HO := hid (specNumOk_P n (dec 0) (dec D) true h1 h2 ⟨fun _ => hp, fun _ => rfl⟩)
  have HI := hid (fun w => l11In_any k (-1000) 1000 w true (decide_eq_true ⟨hk, by omega⟩))
  have t1 := nought_text 0
  change _ = true at t1
  generalize dec D = R at *
  generalize dec 0 = T at *
  clear h1 h2 hp hk
  have HX : Hid (∀ W, Below (w.heap.size + 2) ((w.alloc (boxN n T R)).alloc box0) W → Siskin.Own W w.heap.size 25 #[.bool n, .string T, .string R] ∧ Siskin.Own W (w.heap.size + 1) 25 #[.bool false, .string ⟨#[]⟩, .string ⟨#[]⟩] ∧ Below w.heap.size w W) := fun W h => boxes2 w _ _ _ _ h
  have HB0 : Hid (Below (w.heap.size + 2) ((w.alloc (boxN n T R)).alloc box0) ((w.alloc (boxN n T R)).alloc box0)) := Below.refl _ _
  have HSz : Hid (w.heap.size + 2 ≤ ((w.alloc (boxN n T R)).alloc box0).heap.size) := by show _ ≤ _; simp
  go_enter Tryd.func13, Tryd.ntmps13
  go_wp2_with fail
  refine (HO.out _).mono ?_
  rintro e wa ⟨rfl, hwa⟩
  have HBa : Hid (Below (w.heap.size + 2) ((w.alloc (boxN n T R)).alloc box0) wa) := HB0.out.trans (hwa.mono HSz.out)
  have hsa := Nat.le_trans HSz.out HBa.out.size
  clear hwa
  obtain ⟨⟨r0, r1, r2⟩, q0, q1, q2⟩ := own3V (HX.out _ HBa.out).2.1
  obtain ⟨⟨x0, x1, x2⟩, -⟩ := own3V (HX.out _ HBa.out).1
  go_wp2_with fail
  refine (HI.out _).mono ?_
  rintro e wb ⟨rfl, hwb⟩
  obtain rfl := hwb.symm
  clear hwb
  have HBb : Hid (Below (w.heap.size + 2) ((w.alloc (boxN n T R)).alloc box0) (wa.alloc (boxN n T R))) := HBa.out.alloc hsa _
  clear r0 r1 r2 q0 q1 q2
  obtain ⟨⟨r0, r1, r2⟩, q0, q1, q2⟩ := own3V (HX.out _ HBb.out).2.1
  obtain ⟨⟨y0, y1, y2⟩, -⟩ := own3V (HX.out _ HBb.out).1
  go_wp2_with fail
  refine bodyPost_ret (v := noAns 2) (by simp [results, Tryd.results13, go_sem, r0, r1, r2]) rfl ⟨rfl, ?_⟩
  first
    | exact (below_set3 (HX.out _ HBa.out).2.2 (Nat.le_succ _) _ _ _).alloc (by rw [size_set3]; omega) _
    | exact below_set3 (HX.out _ HBb.out).2.2 (Nat.le_succ _) _ _ _
/-- What holds between two rounds. -/
def SpI (w : World) (s : Bool) (U D b4 b6 b7 i : Nat) (W : World) : Prop :=
  Siskin.Own W b7 25 #[.bool (pwN s i), .string (dec (U ^ i)), .string (dec (D ^ i))] ∧ Siskin.Own W b6 25 #[.bool s, .string (dec U), .string (dec D)] ∧ Siskin.Own W b4 25 #[.bool false, .string ⟨#[]⟩, .string ⟨#[]⟩] ∧ Below w.heap.size w W

set_option maxRecDepth 20000 in
set_option maxHeartbeats 2000000 in
theorem specNumPower_yes (n : Bool) (T R : ByteArray) (k : Int) (K : Nat) (U D : Nat) (w : World) (hp : NumP n T R) (h1 : T.size ≤ maxLen) (h2 : R.size ≤ maxLen) (hK : K ≤ 1000) (hok : OkUD n U D) (hu60 : (dec U).size ≤ 60) (hd60 : (dec D).size ≤ 60)
    (hk : (k = (K : Int) ∧ T = dec U ∧ R = dec D) ∨ (k = -(K : Int) ∧ 0 < K ∧ T = dec D ∧ R = dec U ∧ D ≠ 0)) :
    Calls Tryd.prog 13 (pwA n T R k) w fun e w' => e = .returned (powV n U D K) ∧ Below w.heap.size w w' := by
  have HO := hid (specNumOk_P n T R true h1 h2 ⟨fun _ => hp, fun _ => rfl⟩)
  have HI := hid (fun w => l11In_any k (-1000) 1000 w true (decide_eq_true (by omega)))
  have HMu : Hid (∀ i W, Lib.nDigits (U ^ i) ≤ 60 ∧ Lib.nDigits (D ^ i) ≤ 60 → Calls Tryd.prog 39 #[.agg #[.bool (pwN n i), .string (dec (U ^ i)), .string (dec (D ^ i))], .agg #[.bool n, .string (dec U), .string (dec D)]] W fun e w' => e = .returned (powV n U D (i + 1)) ∧ Below W.heap.size W w') := fun i W hi => by
    have h := specNumMul_yes (pwN n i) n (U ^ i) (D ^ i) U D W (by rw [dec_size]; exact hi.1) (by rw [dec_size]; exact hi.2) hu60 hd60 (okUD_pow hok i) hok
    rw [pwN_succ, ← Nat.pow_succ, ← Nat.pow_succ, powV_ansQ hok] at h
    exact h
  have HX : Hid (∀ W, Below (w.heap.size + 2) ((w.alloc (boxN n T R)).alloc box0) W → Siskin.Own W w.heap.size 25 #[.bool n, .string T, .string R] ∧ Siskin.Own W (w.heap.size + 1) 25 #[.bool false, .string ⟨#[]⟩, .string ⟨#[]⟩] ∧ Below w.heap.size w W) := fun W h => boxes2 w _ _ _ _ h
  have HB0 : Hid (Below (w.heap.size + 2) ((w.alloc (boxN n T R)).alloc box0) ((w.alloc (boxN n T R)).alloc box0)) := Below.refl _ _
  have HSz : Hid (w.heap.size + 2 ≤ ((w.alloc (boxN n T R)).alloc box0).heap.size) := by show _ ≤ _; simp
  have hone : ∀ x : Nat, dec (x ^ 0) = ⟨#[49]⟩ := fun x => by rw [Nat.pow_zero]; exact dec_one
  have HOne := hid hone
  have hKi : (K : Int) ≤ 1000 := by omega
  have hcase : (k = (K : Int) ∧ Hid (T = dec U ∧ R = dec D)) ∨ (k = -(K : Int) ∧ 0 < K ∧ (T.toList == [48]) = false ∧ Hid (T = dec D ∧ R = dec U)) := by
    rcases hk with ⟨h, h'⟩ | ⟨h, h', e1, e2, e3⟩
    · exact Or.inl ⟨h, h'⟩
    · refine Or.inr ⟨h, h', ?_, e1, e2⟩
      rw [e1, nought_text]; simpa using e3
  clear hk hp h1 h2 hok hu60 hd60 hone
  rcases hcase with ⟨rfl, HT⟩ | ⟨rfl, h0, htx, HT⟩
  all_goals
    go_enter Tryd.func13, Tryd.ntmps13
    go_wp2_with fail
    refine (HO.out _).mono ?_
    rintro e wa ⟨rfl, hwa⟩
    have HBa : Hid (Below (w.heap.size + 2) ((w.alloc (boxN n T R)).alloc box0) wa) := HB0.out.trans (hwa.mono HSz.out)
    have hsa := Nat.le_trans HSz.out HBa.out.size
    clear hwa
    obtain ⟨⟨x0, x1, x2⟩, -⟩ := own3V (HX.out _ HBa.out).1
    go_wp2_with fail
    refine (HI.out _).mono ?_
    rintro e wb ⟨rfl, hwb⟩
    obtain rfl := hwb.symm
    clear hwb
    have HBb : Hid (Below (w.heap.size + 2) ((w.alloc (boxN n T R)).alloc box0) (wa.alloc (boxN n T R))) := HBa.out.alloc hsa _
    obtain ⟨⟨y0, y1, y2⟩, -⟩ := own3V (HX.out _ HBb.out).1
    obtain ⟨rfl, rfl⟩ := HT.out
    go_wp2_with fail
    have HW : Hid (∀ W, Below (wa.heap.size + 2) ((wa.alloc (.cells #[.bool n, .string (dec U), .string (dec D)] 25)).alloc (.cells #[.bool false, .string ⟨#[49]⟩, .string ⟨#[49]⟩] 25)) W → Siskin.Own W wa.heap.size 25 #[.bool n, .string (dec U), .string (dec D)] ∧ Siskin.Own W (wa.heap.size + 1) 25 #[.bool false, .string ⟨#[49]⟩, .string ⟨#[49]⟩] ∧ Below wa.heap.size wa W) := fun W h => boxes2 wa _ _ _ _ h
    have HC0 : Hid (Below (wa.heap.size + 2) ((wa.alloc (.cells #[.bool n, .string (dec U), .string (dec D)] 25)).alloc (.cells #[.bool false, .string ⟨#[49]⟩, .string ⟨#[49]⟩] 25)) ((wa.alloc (.cells #[.bool n, .string (dec U), .string (dec D)] 25)).alloc (.cells #[.bool false, .string ⟨#[49]⟩, .string ⟨#[49]⟩] 25))) := Below.refl _ _
    have HXc := HX.out _ (HBa.out.trans ((HW.out _ HC0.out).2.2.mono hsa))
    have HI0 : Hid (SpI w n U D (w.heap.size + 1) wa.heap.size (wa.heap.size + 1) 0 ((wa.alloc (.cells #[.bool n, .string (dec U), .string (dec D)] 25)).alloc (.cells #[.bool false, .string ⟨#[49]⟩, .string ⟨#[49]⟩] 25))) := by
      refine ⟨?_, (HW.out _ HC0.out).1, HXc.2.1, HXc.2.2⟩
      rw [pwN_zero, HOne.out, HOne.out]
      exact (HW.out _ HC0.out).2.1
    clear HXc x0 x1 x2 y0 y1 y2
    go_loopw [8] (fun p wr => ∃ i : Nat, p = .int .i64 (i : Int) ∧ i ≤ K ∧ Hid (Lib.nDigits (U ^ i) ≤ 60 ∧ Lib.nDigits (D ^ i) ≤ 60) ∧ Hid (SpI w n U D (w.heap.size + 1) wa.heap.size (wa.heap.size + 1) i wr)) (fun p _ => K - (intOf p).toNat)
    case atStart =>
      exact ⟨0, rfl, Nat.zero_le _, by show _ ∧ _; rw [Nat.pow_zero, Nat.pow_zero, Lib.nDigits_small (by decide)]; exact ⟨by decide, by decide⟩, HI0⟩
    case round =>
      rename World => w4
      obtain ⟨i, rfl, hi, HS, HR⟩ := hrel
      obtain ⟨⟨z0, z1, z2⟩, c0, c1, c2⟩ := own3V HR.out.1
      obtain ⟨⟨y0, y1, y2⟩, -⟩ := own3V HR.out.2.1
      by_cases hlast : i = K
      · subst hlast
        obtain ⟨⟨r0, r1, r2⟩, q0, q1, q2⟩ := own3V HR.out.2.2.1
        have hv : powV n U D i = .tuple #[.agg #[.bool (pwN n i), .string (dec (U ^ i)), .string (dec (D ^ i))], .int .i64 0] := if_pos HS.out
        have HV := hid hv
        clear hv
        go_wp2_with fail
        refine bodyPost_ret (v := .tuple #[.agg #[.bool (pwN n i), .string (dec (U ^ i)), .string (dec (D ^ i))], .int .i64 0]) (by simp [results, Tryd.results13, go_sem, r0, r1, r2]) rfl ⟨by rw [HV.out], ?_⟩
        exact below_set3 HR.out.2.2.2 (Nat.le_succ _) _ _ _
      · have hilt : (i : Int) < (K : Int) := by omega
        go_wp2_with fail
        by_cases hS2 : Lib.nDigits (U ^ (i + 1)) ≤ 60 ∧ Lib.nDigits (D ^ (i + 1)) ≤ 60
        · have hv : powV n U D (i + 1) = .tuple #[.agg #[.bool (pwN n (i + 1)), .string (dec (U ^ (i + 1))), .string (dec (D ^ (i + 1)))], .int .i64 0] := if_pos hS2
          have HV := hid hv
          have HS2 := hid hS2
          clear hv hS2
          refine (HMu.out i _ HS.out).mono ?_
          rw [HV.out]
          rintro e w5 ⟨rfl, hw5⟩
          have hs5 := hw5.size
          have hb7 := HR.out.1.lt
          have q7 := HR.out.1.keep hw5 HR.out.1.lt
          have q6 := HR.out.2.1.keep hw5 HR.out.2.1.lt
          have q4 := HR.out.2.2.1.keep hw5 HR.out.2.2.1.lt
          have hbl := HR.out.2.2.2.trans (hw5.mono HR.out.2.2.2.size)
          clear hw5 z0 z1 z2 c0 c1 c2 y0 y1 y2
          have hn := hbl.alloc hbl.size (.cells #[.bool (pwN n (i + 1)), .string (dec (U ^ (i + 1))), .string (dec (D ^ (i + 1)))] 25)
          have k5 := (Below.refl w5.heap.size w5).alloc (Nat.le_refl _) (.cells #[.bool (pwN n (i + 1)), .string (dec (U ^ (i + 1))), .string (dec (D ^ (i + 1)))] 25)
          have p7 := q7.keep k5 q7.lt
          have p6 := q6.keep k5 q6.lt
          have p4 := q4.keep k5 q4.lt
          obtain ⟨⟨z0, z1, z2⟩, c0, c1, c2⟩ := own3V p7
          have HP := hid (And.intro p7 (And.intro p6 p4))
          have HN := hid hn
          clear q7 q6 q4 p7 p6 p4 hn k5 hbl
          go_wp2_with fail
          go_roundw
          case rel =>
            exact ⟨i + 1, congrArg (Value.int IntKind.i64) (by omega), by omega, HS2, ⟨((HP.out.1.set 0 _).set 1 _).set 2 _, own_set3 HP.out.2.1 (by omega) _ _ _, own_set3 HP.out.2.2 (by omega) _ _ _, below_set3 HN.out (by omega) _ _ _⟩⟩
          case measure => simp [intOf]; omega
        · have hv : powV n U D (i + 1) = noAns 3 := if_neg hS2
          have HV := hid hv
          have HVK := hid (powV_big (n := n) (show i + 1 ≤ K by omega) hS2)
          clear hv hS2
          refine (HMu.out i _ HS.out).mono ?_
          rw [HV.out]
          rintro e w5 ⟨rfl, hw5⟩
          have hs5 := hw5.size
          have q4 := HR.out.2.2.1.keep hw5 HR.out.2.2.1.lt
          have hbl := HR.out.2.2.2.trans (hw5.mono HR.out.2.2.2.size)
          have hn := hbl.alloc hbl.size (.cells #[.bool false, .string ⟨#[]⟩, .string ⟨#[]⟩] 25)
          have k5 := (Below.refl w5.heap.size w5).alloc (Nat.le_refl _) (.cells #[.bool false, .string ⟨#[]⟩, .string ⟨#[]⟩] 25)
          have p4 := q4.keep k5 q4.lt
          obtain ⟨⟨r0, r1, r2⟩, q0, q1, q2⟩ := own3V p4
          have HN := hid hn
          clear hw5 z0 z1 z2 c0 c1 c2 y0 y1 y2 q4 p4 hn k5 hbl
          go_wp2_with fail
          refine bodyPost_ret (v := noAns 3) (by simp [results, Tryd.results13, go_sem, r0, r1, r2]) rfl ⟨by rw [HVK.out], ?_⟩
          exact below_set3 HN.out (Nat.le_succ _) _ _ _
end Go.Proofs.YtbbffhpppacihaaDoor

namespace Go.Proofs.YtbbffhpppacihaaDoor
open Go.RowKit Go.Siskin

theorem numPower_both (n : Bool) (T R : ByteArray) (k : Int) (h1 : T.size ≤ maxLen) (h2 : R.size ≤ maxLen) : ∃ (m : Bool) (x y : ByteArray) (c : Int),
    (∀ w, Calls Tryd.prog 13 #[.agg #[.bool n, .string T, .string R], .int .i64 k] w fun e w' => e = .returned (.tuple #[.agg #[.bool m, .string x, .string y], .int .i64 c]) ∧ Below w.heap.size w w') ∧
    (∀ w, PowE w → Calls Tryd.prog 14 #[.agg #[.bool n, .string T, .string R], .int .i64 k] w fun e w' => e = .returned (.tuple #[.agg #[.bool m, .string x, .string y], .int .i64 c]) ∧ Below w.heap.size w w') := by
  obtain ⟨b, p, U, D, o, hO⟩ := openNum_all n T R h1 h2
  have hg := o.small
  by_cases hr : -1000 ≤ k ∧ k ≤ 1000
  · rcases o with ⟨rfl, rfl, rfl, rfl, s1, s2, hok⟩ | ⟨rfl, hno, -, -, -⟩
    · have hp : NumP p (dec U) (dec D) := ⟨U, D, rfl, rfl, s1, s2, hok⟩
      have s1' := s1
      have s2' := s2
      rw [dec_size] at s1' s2'
      by_cases h0 : 0 ≤ k
      · obtain ⟨K, rfl⟩ := Int.eq_ofNat_of_zero_le h0
        obtain ⟨m, x, y, c, hf⟩ := powV_form p U D K
        refine ⟨m, x, y, c, fun w => ?_, fun w hP => ?_⟩
        · have h := specNumPower_yes p (dec U) (dec D) (K : Int) K U D w hp h1 h2 (by omega) hok s1 s2 (Or.inl ⟨rfl, rfl, rfl⟩)
          rw [hf] at h
          exact h
        · have h := implNumPower_ok p (dec U) (dec D) (K : Int) K p false p U D w hP.1 (Or.inl rfl) (by omega) (fun j => by rw [pwN_false]; cases pwN p j <;> rfl) hok (nG_60 s1') (nG_60 s2') (fun w hP => baseOf_pos p (dec U) (dec D) p U D (K : Int) w hP (by omega) (by omega) hO)
          rw [hf] at h
          exact h
      · by_cases hu : U = 0
        · subst hu
          exact ⟨false, ⟨#[]⟩, ⟨#[]⟩, 2, fun w => specNumPower_two p D k w h2 hp (by omega) hr.1,
            fun w hP => implNumPower_err p (dec 0) (dec D) k 2 w hP.1 hP.2 (fun w hP => baseOf_nought p (dec 0) (dec D) p 0 D k w hP (by omega) hr.1 rfl hO)⟩
        · obtain ⟨K, hK⟩ : ∃ K : Nat, k = -(K : Int) := ⟨k.natAbs, by omega⟩
          subst hK
          have hok2 : OkUD p D U := ⟨hu, fun h => hok.1 h.2, by rw [Nat.gcd_comm]; exact hok.2.2⟩
          obtain ⟨m, x, y, c, hf⟩ := powV_form p D U K
          refine ⟨m, x, y, c, fun w => ?_, fun w hP => ?_⟩
          · have h := specNumPower_yes p (dec U) (dec D) (-(K : Int)) K D U w hp h1 h2 (by omega) hok2 s2 s1 (Or.inr ⟨rfl, by omega, rfl, rfl, hu⟩)
            rw [hf] at h
            exact h
          · have h := implNumPower_ok p (dec U) (dec D) (-(K : Int)) K false p p D U w hP.1 (Or.inr rfl) (by omega) (fun j => by rw [pwN_false]; cases pwN p j <;> rfl) hok2 (nG_60 s2') (nG_60 s1') (fun w hP => (baseOf_neg p (dec U) (dec D) p U D (-(K : Int)) w hP (by omega) hr.1 hu hO).mono fun e w' ⟨ua, uc, da, dc, h1, h2, h3, h4⟩ => ⟨da, dc, ua, uc, h1, h3, h2, h4⟩)
            rw [hf] at h
            exact h
    · exact ⟨false, ⟨#[]⟩, ⟨#[]⟩, 1, fun w => specNumPower_one n T R k w h1 h2 (Or.inl hno),
        fun w hP => implNumPower_err n T R k 1 w hP.1 hP.2 (fun w hP => baseOf_one n T R p false U D k w hP (Or.inl rfl) hO)⟩
  · exact ⟨false, ⟨#[]⟩, ⟨#[]⟩, 1, fun w => specNumPower_one n T R k w h1 h2 (Or.inr hr),
      fun w hP => implNumPower_err n T R k 1 w hP.1 hP.2 (fun w hP => baseOf_one n T R p b U D k w hP (by omega) hO)⟩
end Go.Proofs.YtbbffhpppacihaaDoor

namespace Go.Proofs.YtbbffhpppacihaaDoor
open Go.RowKit Go.Siskin

set_option maxRecDepth 20000 in
set_option maxHeartbeats 4000000 in
theorem lawNumPower_of (n1 : Bool) (T1 R1 : ByteArray) (k : Int) (w : World) (h1 : T1.size ≤ maxLen) (h2 : R1.size ≤ maxLen) (hP : PowE w) (n : Bool) (x y : ByteArray) (c : Int)
    (hS : ∀ w, Calls Tryd.prog 13 #[.agg #[.bool n1, .string T1, .string R1], .int .i64 k] w fun e w' => e = .returned (.tuple #[.agg #[.bool n, .string x, .string y], .int .i64 c]) ∧ Below w.heap.size w w')
    (hI : ∀ w, PowE w → Calls Tryd.prog 14 #[.agg #[.bool n1, .string T1, .string R1], .int .i64 k] w fun e w' => e = .returned (.tuple #[.agg #[.bool n, .string x, .string y], .int .i64 c]) ∧ Below w.heap.size w w') :
    Calls Tryd.prog 4 #[.agg #[.bool n1, .string T1, .string R1], .int .i64 k] w fun e w' => e = .returned (.bool true) ∧ Below w.heap.size w w' := by
  have HZ1 := hid (fun w => szNum_any n1 T1 R1 1048576 w (by decide) (by decide) h1 h2)
  obtain ⟨z1, hz1⟩ : ∃ z, szN T1.size R1.size 1048576 = z := ⟨_, rfl⟩
  rw [hz1] at HZ1
  have HT1 := hid (fun w => toNum_any n1 T1 R1 w)
  have HS := hid hS
  have HI := hid hI
  have HPw := hid hP
  have HE := hid (eqNum_same n x y)
  have hcc : (c != c) = false := by simp
  clear h1 h2 hP hS hI hz1
  have HX : Hid (∀ W, Below (w.heap.size + 1) (w.alloc (.cells #[.bool n1, .string T1, .string R1] 23)) W → Siskin.Own W w.heap.size 23 #[.bool n1, .string T1, .string R1] ∧ Below w.heap.size w W) := fun W h => ⟨(own_new w #[.bool n1, .string T1, .string R1] 23).keep h (Nat.lt_succ_self _), res_done h⟩
  have HS0 : Hid (w.heap.size + 1 ≤ (w.alloc (.cells #[.bool n1, .string T1, .string R1] 23)).heap.size) := by show _ ≤ _; simp
  have HB0 : Hid (Below (w.heap.size + 1) (w.alloc (.cells #[.bool n1, .string T1, .string R1] 23)) (w.alloc (.cells #[.bool n1, .string T1, .string R1] 23))) := Below.refl _ _
  go_enter Tryd.func4, Tryd.ntmps4
  go_wp2_with fail
  refine (HZ1.out _).mono ?_
  rintro e wb ⟨rfl, hwb⟩
  have HBb := hid (HB0.out.trans (hwb.mono (by first | exact HS0.out | simp)))
  clear hwb
  by_cases hn1 : z1 < 0
  · go_wp2_with fail
    go_ret
    exact ⟨rfl, (HX.out _ HBb.out).2⟩
  obtain ⟨⟨x0, x1, x2⟩, -⟩ := own3V (HX.out _ HBb.out).1
  go_wp2_with fail
  refine (HT1.out _).mono ?_
  rintro e w2 ⟨rfl, hw2⟩
  have HB2 := hid (HBb.out.trans (hw2.mono (Nat.le_trans HS0.out HBb.out.size)))
  clear hw2 x0 x1 x2
  go_wp2_with fail
  refine (HS.out _).mono ?_
  rintro e w3 ⟨rfl, hw3⟩
  have HB3 := hid (HB2.out.trans (hw3.mono (Nat.le_trans HS0.out HB2.out.size)))
  have HS3 := hid (Nat.le_trans HS0.out HB3.out.size)
  have HY : Hid (∀ W, Below (w3.heap.size + 1) (w3.alloc (.cells #[.bool n, .string x, .string y] 25)) W → Siskin.Own W w3.heap.size 25 #[.bool n, .string x, .string y] ∧ Below w3.heap.size w3 W) := fun W h => ⟨(own_new w3 #[.bool n, .string x, .string y] 25).keep h (Nat.lt_succ_self _), res_done h⟩
  have HC0 : Hid (Below (w3.heap.size + 1) (w3.alloc (.cells #[.bool n, .string x, .string y] 25)) (w3.alloc (.cells #[.bool n, .string x, .string y] 25))) := Below.refl _ _
  have HSz3 : Hid (w3.heap.size + 1 ≤ (w3.alloc (.cells #[.bool n, .string x, .string y] 25)).heap.size) := by show _ ≤ _; simp
  have HXa : Hid (∀ W, Below (w3.heap.size + 1) (w3.alloc (.cells #[.bool n, .string x, .string y] 25)) W → Siskin.Own W w.heap.size 23 #[.bool n1, .string T1, .string R1] ∧ Below w.heap.size w W) := fun W h => HX.out W (HB3.out.trans ((HY.out W h).2.mono HS3.out))
  obtain ⟨⟨x0, x1, x2⟩, -⟩ := own3V (HXa.out _ HC0.out).1
  clear hw3
  go_wp2_with fail
  refine (HT1.out _).mono ?_
  rintro e w4 ⟨rfl, hw4⟩
  have HC4 := hid (HC0.out.trans (hw4.mono (by first | exact HSz3.out | simp)))
  clear hw4 x0 x1 x2
  go_wp2_with fail
  refine (HI.out _ (HPw.out.below (HXa.out _ HC4.out).2 (Nat.le_refl _))).mono ?_
  rintro e w5 ⟨rfl, hw5⟩
  have HC5 := hid (HC4.out.trans (hw5.mono (Nat.le_trans HSz3.out HC4.out.size)))
  have HS5 := hid (Nat.le_trans HSz3.out HC5.out.size)
  have HC6 : Hid (Below (w3.heap.size + 1) (w3.alloc (.cells #[.bool n, .string x, .string y] 25)) (w5.alloc (.cells #[.bool n, .string x, .string y] 25))) := HC5.out.alloc HS5.out _
  obtain ⟨⟨x0, x1, x2⟩, -⟩ := own3V (HY.out _ HC6.out).1
  clear hw5
  go_wp2_with fail
  refine (HE.out _).mono ?_
  rintro e w9 ⟨rfl, hw9⟩
  have HC9 := hid (HC6.out.trans (hw9.mono (by first | exact Nat.le_trans HS5.out (by simp) | (have := HS5.out; simp; omega))))
  clear hw9 x0 x1 x2
  go_wp2_with fail
  go_ret
  exact ⟨rfl, (HXa.out _ HC9.out).2⟩
theorem lawNumPower_any (n1 : Bool) (T1 R1 : ByteArray) (k : Int) (w : World) (h1 : T1.size ≤ maxLen) (h2 : R1.size ≤ maxLen) (hP : PowE w) :
    Calls Tryd.prog 4 #[.agg #[.bool n1, .string T1, .string R1], .int .i64 k] w fun e w' => e = .returned (.bool true) ∧ Below w.heap.size w w' := by
  obtain ⟨n, x, y, c, hS, hI⟩ := numPower_both n1 T1 R1 k h1 h2
  exact lawNumPower_of n1 T1 R1 k w h1 h2 hP n x y c hS hI
end Go.Proofs.YtbbffhpppacihaaDoor

namespace Go.Proofs.YtbbffhpppacihaaDoor
open Go.ChangeShapes Go.WideShapes Go.ChangeAt Go.RowKit Go.Siskin

theorem ownZ : ownKnob Tryd.prog.godebug = none := by kernel_rfl
theorem laidOutZ : laidOutB Tryd.prog = true := by kernel_rfl

/-- What is listed. -/
abbrev laidZ : List (String × DataW Unit) := [("loop.example/siskin/impl.powersOfTen", Rows.laid_loop_example_siskin_impl_powersOfTen)]
def tabZ : List Int := [1, 10, 100, 1000, 10000, 100000, 1000000, 10000000, 100000000]

theorem door_metZ (os : Os) (args : Array Value) : laidMetH Tryd.prog laidZ ((World.doorLaid Tryd.prog 400 os).forCall (fun _ _ => 0) ⟨#[], args, []⟩).memory :=
  laidMetH_of_parts3 (fuel := 8) (laidMet_of_run' 8 (by kernel_rfl) (by kernel_rfl)) (by kernel_rfl) (by kernel_rfl)

theorem tab_dataZ : (Rows.laid_loop_example_siskin_impl_powersOfTen : DataW Unit) = Lib.tabData .u64 tabZ := by kernel_rfl
theorem tab_ofZ {W : World} (h : laidMetH Tryd.prog laidZ W) : Pow9 W := by
  rw [MakeChecks.laidMetH_plain _ _ _ (by kernel_rfl)] at h
  rw [laidZ, tab_dataZ] at h
  have hT : Lib.TabIs Tryd.prog W "loop.example/siskin/impl.powersOfTen" .u64 tabZ :=
    Lib.tabIs_of_head (g := 1) (t := 134) (e := 80) (n := 9) (by kernel_rfl) (by kernel_rfl) (by kernel_rfl) (by kernel_rfl) (by kernel_rfl) (by kernel_rfl) h
  have hc : ∀ i, i < 9 → W.cell? ⟨1, i, none⟩ = some (.int .u64 ((10 ^ i : Nat) : Int)) := by
    intro i hi
    rw [hT.cell (g := 1) (by kernel_rfl) i (by simpa [tabZ] using hi)]
    have hcase : i = 0 ∨ i = 1 ∨ i = 2 ∨ i = 3 ∨ i = 4 ∨ i = 5 ∨ i = 6 ∨ i = 7 ∨ i = 8 := by omega
    rcases hcase with rfl | rfl | rfl | rfl | rfl | rfl | rfl | rfl | rfl <;> rfl
  refine ⟨?_, hc⟩
  have h0 := hc 0 (by omega)
  unfold World.cell? at h0
  cases e : W.heap[1]? with
  | none => rw [e] at h0; simp at h0
  | some o => exact (Array.getElem?_eq_some_iff.1 e).1

theorem var_belowZ {P : Program} {B g : Nat} {W W' : World} {n : String} {cs : Array Value} (h : Below B W W') (hg : P.globalNamed n = some g) (hgB : g < B) (hv : W.var? P n = some cs) : W'.var? P n = some cs := by
  unfold World.var? at hv ⊢
  simp only [hg, Option.bind_some] at hv ⊢
  rw [h.block g hgB]
  exact hv

/-- The listed variable reads behind the call as it did. -/
theorem vars_keptZ {H : Type} {enc : TypeId × Value → H} {W W' : World} {gs : List (DataW H)} {q : List MemPlace} (hV : DataW.TrodVars enc Tryd.prog W (fun _ => true) ["loop.example/siskin/impl.powersOfTen"] gs q) (hb : Below W.heap.size W W') (hP : Pow9 W) :
    ∃ pv, DataW.TrodVars enc Tryd.prog W' (fun b => decide (b < W.heap.size)) ["loop.example/siskin/impl.powersOfTen"] gs pv := by
  obtain ⟨g, t, cs, fuel, d, p, rfl, hg, ht, hvar, hd, rfl⟩ := trodVars_one hV
  have hg0 : Tryd.prog.globalNamed "loop.example/siskin/impl.powersOfTen" = some 1 := by kernel_rfl
  obtain rfl := Option.some.inj (hg0.symm.trans hg)
  have ht0 : (Tryd.prog.globals[1]?).map (·.type) = some 134 := by kernel_rfl
  obtain rfl := Option.some.inj (ht0.symm.trans ht)
  have lt0 : ∀ x ∈ p, x.block < W.heap.size := DataW.trod_lt fuel _ _ _ hd
  obtain ⟨f2, hd2⟩ := Below.trod laidOutZ (by kernel_rfl) (of_decide_eq_true (by kernel_rfl)) (v := .agg cs) (⟨fuel, by simpa [Value.cells] using hd⟩ : DataW.Trod enc Tryd.prog W 0 (fun _ => true) true 134 (.agg cs) d p) hb lt0
  exact ⟨_, trodVars_mk1 (enc := enc) (spare := fun b => decide (b < W.heap.size)) hg ht (var_belowZ hb hg hP.1 hvar) (by simpa [Value.cells] using hd2)⟩
end Go.Proofs.YtbbffhpppacihaaDoor

namespace Go.Proofs.YtbbffhpppacihaaDoor
open Go.ChangeShapes Go.WideShapes Go.ChangeAt Go.RowKit Go.Siskin

/-- What is listed. -/
abbrev laidE : List (String × DataW Unit) := [("errors.errorType", Rows.laid_errors_errorType), ("loop.example/siskin/impl.powersOfTen", Rows.laid_loop_example_siskin_impl_powersOfTen)]

theorem door_metE (os : Os) (args : Array Value) : laidMetH Tryd.prog laidE ((World.doorLaid Tryd.prog 400 os).forCall (fun _ _ => 0) ⟨#[], args, []⟩).memory :=
  laidMetH_of_parts3 (fuel := 8) (laidMet_of_run' 8 (by kernel_rfl) (by kernel_rfl)) (by kernel_rfl) (by kernel_rfl)

theorem errT_named : Tryd.prog.globalNamed "errors.errorType" = some 0 := by kernel_rfl
theorem errT_rt : (Tryd.prog.cutTypes.find? (·.1 == "internal/reflectlite.rtype")).map (·.2) = some 145 := by kernel_rfl
theorem errT_row : ((List.range 202).filter fun t => Tryd.prog.rowNamed t [101, 114, 114, 111, 114]) = [54] := by kernel_rfl
theorem errT_size : Tryd.prog.types.size = 202 := by kernel_rfl
theorem listed_data : (laidE.filter fun x => x.2.handleName?.isNone) = laidZ := by rfl
theorem listed_handle : (laidE.filter fun x => x.2.handleName?.isSome) = [("errors.errorType", Rows.laid_errors_errorType)] := by rfl

theorem powE_of {W : World} (h : laidMetH Tryd.prog laidE W) : PowE W := by
  obtain ⟨h1, h2⟩ := laidMetH_iff.1 h
  rw [listed_data] at h1
  rw [listed_handle] at h2
  refine ⟨tab_ofZ (by rw [MakeChecks.laidMetH_plain _ _ _ (by kernel_rfl)]; exact h1), ?_⟩
  obtain ⟨name, u, ty, e1, e2, e3, e4, e5⟩ := h2 _ (List.mem_singleton.2 rfl)
  have en : name = [101, 114, 114, 111, 114] := (Option.some.inj e1).symm
  subst en
  obtain rfl := Option.some.inj (errT_rt.symm.trans e2)
  have hm : ty ∈ (List.range 202).filter fun t => Tryd.prog.rowNamed t [101, 114, 114, 111, 114] := List.mem_filter.2 ⟨List.mem_range.2 (by rw [← errT_size]; exact e3), e4⟩
  rw [errT_row] at hm
  obtain rfl := List.mem_singleton.1 hm
  have hh : typeHandle Tryd.prog 54 = .pointer (some ⟨2, 54, none⟩) := by kernel_rfl
  rw [hh] at e5
  unfold ErrT
  simpa using World.var?_cell errT_named e5 0
end Go.Proofs.YtbbffhpppacihaaDoor
