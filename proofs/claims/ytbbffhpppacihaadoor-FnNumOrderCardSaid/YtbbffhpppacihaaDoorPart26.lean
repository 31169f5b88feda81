/-
  The draws of numbers: l16Spoil. Condition: the reader lies apart, the number's texts are numerals of at most 60 digits.
  The draws of numbers: l16Any, two numbers. Condition: the code is bytes that lie in memory.
-/
import Derived.Test.YtbbffhpppacihaaDoorPart25
import Derived.Test.YtbbffhpppacihaaDoorPart21
namespace Go.Proofs.YtbbffhpppacihaaDoor
open Go.RowKit Go.Siskin

abbrev splU : List ByteArray := [⟨#[]⟩, ⟨#[48, 48]⟩, ⟨#[48]⟩, ⟨#[120]⟩, ⟨#[45, 49]⟩, ⟨#[48, 55]⟩]
abbrev splD : List ByteArray := [⟨#[]⟩, ⟨#[48]⟩, ⟨#[48, 48]⟩, ⟨#[120]⟩, ⟨#[48, 49]⟩, ⟨#[49]⟩]
theorem splU_size {s : ByteArray} (h : s ∈ splU) : s.size ≤ 2000 := by
  simp only [List.mem_cons, List.not_mem_nil, or_false] at h
  rcases h with rfl | rfl | rfl | rfl | rfl | rfl <;> decide
theorem splD_size {s : ByteArray} (h : s ∈ splD) : s.size ≤ 2000 := by
  simp only [List.mem_cons, List.not_mem_nil, or_false] at h
  rcases h with rfl | rfl | rfl | rfl | rfl | rfl <;> decide
/-- What a number that is drawn is: a sign and two texts that are not long. -/
def AnyN (e : Ending) : Prop := ∃ (m : Bool) (T S : ByteArray), T.size ≤ 2000 ∧ S.size ≤ 2000 ∧ e = .returned (.agg #[.bool m, .string T, .string S])

/-- The number that is spoilt, the answer's box, the reader: behind some steps. -/
structure SplAt (R : Nat → Prop) (w W : World) (rb n q : Nat) (v : Value) (m : Bool) (T S : ByteArray) : Prop where
  rd : RdAt R W rb n q v
  pk : Picked rb v w W q
  one : Own W w.heap.size 25 #[.bool m, .string T, .string S]
  res : Own W (w.heap.size + 1) 25 #[.bool false, .string ⟨#[]⟩, .string ⟨#[]⟩]
  lt : rb < w.heap.size
theorem SplAt.picked {R : Nat → Prop} {w W W' : World} {rb n q q' : Nat} {v : Value} {m : Bool} {T S : ByteArray} (h : SplAt R w W rb n q v m T S) (hp : Picked rb v W W' q') (hq : q' ≤ 1000000) : SplAt R w W' rb n q' v m T S :=
  ⟨h.rd.picked hp hq, h.pk.trans hp, h.one.picked hp (by have := h.lt; omega), h.res.picked hp (by have := h.lt; omega), h.lt⟩
theorem SplAt.below {R : Nat → Prop} {w W W' : World} {rb n q : Nat} {v : Value} {m : Bool} {T S : ByteArray} (h : SplAt R w W rb n q v m T S) (hb : Below W.heap.size W W') : SplAt R w W' rb n q v m T S :=
  ⟨h.rd.below hb, h.pk.below hb h.pk.1.size h.lt, h.one.keep hb h.one.lt, h.res.keep hb h.res.lt, h.lt⟩
theorem SplAt.set {R : Nat → Prop} {w W : World} {rb n q : Nat} {v : Value} {m m' : Bool} {T S T' S' : ByteArray} {i : Nat} {x : Value} (h : SplAt R w W rb n q v m T S) (hlow : ∀ b, R b → b < w.heap.size) (e : #[Value.bool m, .string T, .string S].setIfInBounds i x = #[.bool m', .string T', .string S']) : SplAt R w (W.setCell ⟨w.heap.size, i, none⟩ x) rb n q v m' T' S' := by
  refine ⟨h.rd.far (grown_set W w.heap.size i x) (fun g e => by cases e; exact ⟨fun hr => by have := hlow _ hr; omega, by have := h.lt; omega⟩), h.pk.far (grown_set W w.heap.size i x) (fun g e => by cases e; exact Nat.le_refl _) h.lt, ?_, h.res.far (grown_set W w.heap.size i x) (fun e => by injection e with e; omega), h.lt⟩
  have := h.one.set i x
  rw [e] at this
  exact this
theorem SplAt.done {R : Nat → Prop} {w W : World} {rb n q : Nat} {v : Value} {m : Bool} {T S : ByteArray} (h : SplAt R w W rb n q v m T S) (x y z : Value) : Picked rb v w (((W.setCell ⟨w.heap.size + 1, 0, none⟩ x).setCell ⟨w.heap.size + 1, 1, none⟩ y).setCell ⟨w.heap.size + 1, 2, none⟩ z) q :=
  h.pk.far (row := some (w.heap.size + 1)) (((grown_set W _ 0 x).trans (grown_set _ _ 1 y)).trans (grown_set _ _ 2 z)) (fun g e => by cases e; exact Nat.le_succ _) h.lt
theorem SplAt.start {R : Nat → Prop} {w : World} {rb n p : Nat} {v : Value} (h : RdAt R w rb n p v) (m : Bool) (T S : ByteArray) : SplAt R w ((w.alloc (boxN m T S)).alloc box0) rb n p v m T S := by
  have hb := boxes2 w #[.bool m, .string T, .string S] #[.bool false, .string ⟨#[]⟩, .string ⟨#[]⟩] 25 25 (Below.refl _ _)
  exact ⟨h.below hb.2.2, h.now.below hb.2.2 (Nat.le_refl _) h.own.lt, hb.1, hb.2.1, h.own.lt⟩

set_option maxRecDepth 20000 in
set_option maxHeartbeats 2000000 in
theorem l16Spoil_rd {R : Nat → Prop} {w : World} {rb n p : Nat} {v : Value} (h : RdAt R w rb n p v) (hp : p ≤ 900000) (neg : Bool) (A B : Nat) (hA : Lib.nDigits A ≤ 60) (hB : Lib.nDigits B ≤ 60) :
    Calls Tryd.prog 98 #[.pointer (some ⟨rb, 0, none⟩), .agg #[.bool neg, .string (dec A), .string (dec B)]] w fun e w' => ∃ q, q ≤ p + 3 ∧ Picked rb v w w' q ∧ AnyN e := by
  have HL := hid h.low
  have h2 : dec 2 = ⟨#[50]⟩ := dec_small (by decide)
  have n2 : Lib.nDigits 2 = 1 := Lib.nDigits_small (by decide)
  have HMA := hid (fun w => l11Mul_any A 2 w (by omega) (by omega))
  have HMB := hid (fun w => l11Mul_any B 2 w (by omega) (by omega))
  rw [h2] at HMA HMB
  have H0 := hid (SplAt.start h neg (dec A) (dec B))
  have HTA : Hid ((dec A).size ≤ 2000) := by show _ ≤ _; rw [dec_size]; omega
  have HTB : Hid ((dec B).size ≤ 2000) := by show _ ≤ _; rw [dec_size]; omega
  have HTA2 : Hid ((dec (A * 2)).size ≤ 2000) := by
    show _ ≤ _; rw [dec_size]
    exact Nat.le_trans (nDigits_mul (m := 60) (k := 1) hA (by omega) (by decide)) (by decide)
  have HTB2 : Hid ((dec (B * 2)).size ≤ 2000) := by
    show _ ≤ _; rw [dec_size]
    exact Nat.le_trans (nDigits_mul (m := 60) (k := 1) hB (by omega) (by decide)) (by decide)
  generalize dec (A * 2) = TA2 at *
  generalize dec (B * 2) = TB2 at *
  generalize dec A = TA at *
  generalize dec B = TB at *
  clear h hA hB h2 n2
  go_enter Tryd.func98, Tryd.ntmps98
  go_wp2_with fail
  refine (pick_rd H0.out.rd 7 (by omega) (by omega)).mono ?_
  rintro e w1 ⟨k, hk, rfl, hp1, -⟩
  have H1 := hid (H0.out.picked hp1 (by omega))
  clear hp1
  have hcase : k = 0 ∨ k = 1 ∨ k = 2 ∨ k = 3 ∨ k = 4 ∨ k = 5 ∨ k = 6 := by omega
  clear hk
  rcases hcase with rfl | rfl | rfl | rfl | rfl | rfl | rfl
  · go_wp2_with fail
    have HA := hid (H1.out.below ((Below.refl w1.heap.size w1).alloc (Nat.le_refl _) (.cells #[.string ⟨#[]⟩, .string ⟨#[48, 48]⟩, .string ⟨#[48]⟩, .string ⟨#[120]⟩, .string ⟨#[45, 49]⟩, .string ⟨#[48, 55]⟩] 9)))
    refine (of_rd HA.out.rd w1.heap.size splU (by simp) (by simp) (by have := H1.out.rd.own.lt; omega) (by simp) (fun i hi => by rcases i with _ | _ | _ | _ | _ | _ | i <;> first | (simp; done) | (simp at hi; omega))).mono ?_
    rintro e w3 ⟨s, hs, rfl, hp3, -⟩
    have H3 := hid (HA.out.picked hp3 (by omega))
    have hsz := splU_size hs
    clear hs hp3
    obtain ⟨⟨x0, x1, x2⟩, f0, f1, f2⟩ := own3V H3.out.one
    obtain ⟨⟨r0, r1, r2⟩, q0, q1, q2⟩ := own3V H3.out.res
    have H4 := hid (H3.out.set (i := 1) (x := .string s) (m' := neg) (T' := s) (S' := TB) HL.out rfl)
    go_wp2_with fail
    refine bodyPost_ret (v := .agg #[.bool neg, .string s, .string TB]) (by simp [results, Tryd.results98, go_sem, r0, r1, r2]) rfl ⟨p + 1 + 1, by omega, H4.out.done _ _ _, neg, s, TB, by omega, HTB.out, rfl⟩
  · go_wp2_with fail
    have HA := hid (H1.out.below ((Below.refl w1.heap.size w1).alloc (Nat.le_refl _) (.cells #[.string ⟨#[]⟩, .string ⟨#[48]⟩, .string ⟨#[48, 48]⟩, .string ⟨#[120]⟩, .string ⟨#[48, 49]⟩, .string ⟨#[49]⟩] 9)))
    refine (of_rd HA.out.rd w1.heap.size splD (by simp) (by simp) (by have := H1.out.rd.own.lt; omega) (by simp) (fun i hi => by rcases i with _ | _ | _ | _ | _ | _ | i <;> first | (simp; done) | (simp at hi; omega))).mono ?_
    rintro e w3 ⟨s, hs, rfl, hp3, -⟩
    have H3 := hid (HA.out.picked hp3 (by omega))
    have hsz := splD_size hs
    clear hs hp3
    obtain ⟨⟨x0, x1, x2⟩, f0, f1, f2⟩ := own3V H3.out.one
    obtain ⟨⟨r0, r1, r2⟩, q0, q1, q2⟩ := own3V H3.out.res
    have H4 := hid (H3.out.set (i := 2) (x := .string s) (m' := neg) (T' := TA) (S' := s) HL.out rfl)
    go_wp2_with fail
    refine bodyPost_ret (v := .agg #[.bool neg, .string TA, .string s]) (by simp [results, Tryd.results98, go_sem, r0, r1, r2]) rfl ⟨p + 1 + 1, by omega, H4.out.done _ _ _, neg, TA, s, HTA.out, by omega, rfl⟩
  · obtain ⟨⟨x0, x1, x2⟩, f0, f1, f2⟩ := own3V H1.out.one
    obtain ⟨⟨r0, r1, r2⟩, q0, q1, q2⟩ := own3V H1.out.res
    have H4 := hid (H1.out.set (i := 0) (x := .bool (!neg)) (m' := !neg) (T' := TA) (S' := TB) HL.out rfl)
    go_wp2_with fail
    refine bodyPost_ret (v := .agg #[.bool !neg, .string TA, .string TB]) (by simp [results, Tryd.results98, go_sem, r0, r1, r2]) rfl ⟨p + 1, by omega, H4.out.done _ _ _, !neg, TA, TB, HTA.out, HTB.out, rfl⟩
  · obtain ⟨⟨x0, x1, x2⟩, f0, f1, f2⟩ := own3V H1.out.one
    obtain ⟨⟨r0, r1, r2⟩, q0, q1, q2⟩ := own3V H1.out.res
    go_wp2_with fail
    refine (HMA.out _).mono ?_
    rintro e w3 ⟨rfl, hw3⟩
    have H3 := hid (H1.out.below hw3)
    clear hw3 x0 x1 x2 f0 f1 f2 r0 r1 r2 q0 q1 q2
    have H4 := hid (H3.out.set (i := 1) (x := .string TA2) (m' := neg) (T' := TA2) (S' := TB) HL.out rfl)
    obtain ⟨⟨x0, x1, x2⟩, f0, f1, f2⟩ := own3V H3.out.one
    obtain ⟨⟨r0, r1, r2⟩, q0, q1, q2⟩ := own3V H3.out.res
    obtain ⟨⟨y0, y1, y2⟩, g0, g1, g2⟩ := own3V H4.out.one
    go_wp2_with fail
    refine (HMB.out _).mono ?_
    rintro e w5 ⟨rfl, hw5⟩
    have H5 := hid (H4.out.below hw5)
    clear hw5 x0 x1 x2 f0 f1 f2 r0 r1 r2 q0 q1 q2 y0 y1 y2 g0 g1 g2
    have H6 := hid (H5.out.set (i := 2) (x := .string TB2) (m' := neg) (T' := TA2) (S' := TB2) HL.out rfl)
    obtain ⟨⟨x0, x1, x2⟩, f0, f1, f2⟩ := own3V H5.out.one
    obtain ⟨⟨r0, r1, r2⟩, q0, q1, q2⟩ := own3V H5.out.res
    go_wp2_with fail
    refine bodyPost_ret (v := .agg #[.bool neg, .string TA2, .string TB2]) (by simp [results, Tryd.results98, go_sem, r0, r1, r2]) rfl ⟨p + 1, by omega, H6.out.done _ _ _, neg, TA2, TB2, HTA2.out, HTB2.out, rfl⟩
  · go_wp2_with fail
    refine (pick_rd H1.out.rd 2 (by omega) (by omega)).mono ?_
    rintro e w3 ⟨m, hm, rfl, hp3, -⟩
    have H3 := hid (H1.out.picked hp3 (by omega))
    clear hp3
    obtain ⟨N, hN, hN2⟩ : ∃ N : Nat, (60 : Int) + (m : Int) = (N : Int) ∧ N ≤ 100 := ⟨60 + m, by omega, by omega⟩
    go_wp2_with fail
    refine (l11Many_any ⟨#[57]⟩ N w3 (by decide) hN2).mono ?_
    rintro e w4 ⟨t, rfl, ht, hw⟩
    obtain rfl := hw.symm
    clear hw
    obtain ⟨⟨x0, x1, x2⟩, f0, f1, f2⟩ := own3V H3.out.one
    obtain ⟨⟨r0, r1, r2⟩, q0, q1, q2⟩ := own3V H3.out.res
    have H4 := hid (H3.out.set (i := 1) (x := .string (t)) (m' := neg) (T' := t) (S' := TB) HL.out rfl)
    go_wp2_with fail
    refine bodyPost_ret (v := .agg #[.bool neg, .string t, .string TB]) (by simp [results, Tryd.results98, go_sem, r0, r1, r2]) rfl ⟨p + 1 + 1, by omega, H4.out.done _ _ _, neg, t, TB, by omega, HTB.out, rfl⟩
  · go_wp2_with fail
    refine (pick_rd H1.out.rd 2 (by omega) (by omega)).mono ?_
    rintro e w3 ⟨m, hm, rfl, hp3, -⟩
    have H3 := hid (H1.out.picked hp3 (by omega))
    clear hp3
    obtain ⟨N, hN, hN2⟩ : ∃ N : Nat, (59 : Int) + (m : Int) = (N : Int) ∧ N ≤ 100 := ⟨59 + m, by omega, by omega⟩
    go_wp2_with fail
    refine (l11Many_any ⟨#[48]⟩ N w3 (by decide) hN2).mono ?_
    rintro e w4 ⟨t, rfl, ht, hw⟩
    obtain rfl := hw.symm
    clear hw
    obtain ⟨⟨x0, x1, x2⟩, f0, f1, f2⟩ := own3V H3.out.one
    obtain ⟨⟨r0, r1, r2⟩, q0, q1, q2⟩ := own3V H3.out.res
    have hcat : ¬ ((9223372036854775807 : Nat) < (⟨#[49]⟩ : ByteArray).size + t.size) := by have : (⟨#[49]⟩ : ByteArray).size = 1 := rfl; omega
    have hcs : ((⟨#[49]⟩ : ByteArray) ++ t).size ≤ 2000 := by rw [ByteArray.size_append]; have : (⟨#[49]⟩ : ByteArray).size = 1 := rfl; omega
    have H4 := hid (H3.out.set (i := 2) (x := .string (⟨#[49]⟩ ++ t)) (m' := neg) (T' := TA) (S' := ⟨#[49]⟩ ++ t) HL.out rfl)
    go_wp2_with fail
    refine bodyPost_ret (v := .agg #[.bool neg, .string TA, .string (⟨#[49]⟩ ++ t)]) (by simp [results, Tryd.results98, go_sem, r0, r1, r2]) rfl ⟨p + 1 + 1, by omega, H4.out.done _ _ _, neg, TA, (⟨#[49]⟩ ++ t), HTA.out, hcs, rfl⟩
  · obtain ⟨⟨x0, x1, x2⟩, f0, f1, f2⟩ := own3V H1.out.one
    obtain ⟨⟨r0, r1, r2⟩, q0, q1, q2⟩ := own3V H1.out.res
    go_wp2_with fail
    refine bodyPost_ret (v := .agg #[.bool false, .string ⟨#[]⟩, .string ⟨#[]⟩]) (by simp [results, Tryd.results98, go_sem, r0, r1, r2]) rfl ⟨p + 1, by omega, H1.out.done _ _ _, false, ⟨#[]⟩, ⟨#[]⟩, by decide, by decide, rfl⟩
end Go.Proofs.YtbbffhpppacihaaDoor

namespace Go.Proofs.YtbbffhpppacihaaDoor
open Go.RowKit Go.Siskin

theorem picked_below {rb q m : Nat} {v : Value} {a b : World} (h : Picked rb v a b q) (hr : m ≤ rb) (hs : m ≤ a.heap.size) : Below m a b :=
  ⟨h.1.os, h.1.tape, h.1.output, h.1.size, fun g hg => h.1.block g (by omega) (fun e => by cases e; omega)⟩

set_option maxRecDepth 20000 in
set_option maxHeartbeats 2000000 in
theorem l16Any_rd {R : Nat → Prop} {w : World} {rb n p : Nat} {v : Value} (h : RdAt R w rb n p v) (hp : p ≤ 700000) :
    Calls Tryd.prog 75 #[.pointer (some ⟨rb, 0, none⟩)] w fun e w' => ∃ q, q ≤ p + 160 ∧ Picked rb v w w' q ∧ AnyN e := by
  have hrb := h.own.lt
  have hne : w.heap.size ≠ rb := by omega
  have HR0 := hid (h.alloc box0)
  have HP0 := hid (h.now.below ((Below.refl w.heap.size w).alloc (Nat.le_refl _) box0) (Nat.le_refl _) hrb)
  have HO0 := hid (own_new w #[.bool false, .string ⟨#[]⟩, .string ⟨#[]⟩] 25)
  clear h
  go_enter Tryd.func75, Tryd.ntmps75
  go_wp2_with fail
  refine (l16Num_rd HR0.out (by omega)).mono ?_
  rintro e w1 ⟨neg, A, B, q, hA, hB, rfl, hq, hp1⟩
  have HR1 := hid (HR0.out.picked hp1 (by omega))
  have HP1 := hid (HP0.out.trans hp1)
  have HO1 := hid (HO0.out.picked hp1 hne)
  have HTA : Hid ((dec A).size ≤ 2000) := by show _ ≤ _; rw [dec_size]; omega
  have HTB : Hid ((dec B).size ≤ 2000) := by show _ ≤ _; rw [dec_size]; omega
  have HSp := hid (fun w p (h : RdAt R w rb n p v) (hp : p ≤ 900000) => l16Spoil_rd h hp neg A B hA hB)
  generalize dec A = TA at *
  generalize dec B = TB at *
  clear hp1 hA hB
  have k1 := (Below.refl w1.heap.size w1).alloc (Nat.le_refl _) (boxN neg TA TB)
  have HR2 := hid (HR1.out.below k1)
  have HP2 := hid (HP1.out.below k1 HP1.out.1.size hrb)
  have HO2 := hid (HO1.out.keep k1 HO1.out.lt)
  have HN2 := hid (own_new w1 #[.bool neg, .string TA, .string TB] 25)
  have hn1 : w1.heap.size ≠ rb := by have := HR1.out.own.lt; omega
  clear k1
  go_wp2_with fail
  refine (pick_rd HR2.out 24 (by omega) (by omega)).mono ?_
  rintro e w3 ⟨k, hk, rfl, hp3, -⟩
  have HR3 := hid (HR2.out.picked hp3 (by omega))
  have HP3 := hid (HP2.out.trans hp3)
  have HO3 := hid (HO2.out.picked hp3 hne)
  have HN3 := hid (HN2.out.picked hp3 hn1)
  obtain ⟨⟨x0, x1, x2⟩, -⟩ := own3V HN3.out
  obtain ⟨⟨r0, r1, r2⟩, q0, q1, q2⟩ := own3V HO3.out
  clear hp3 hk
  rcases Nat.eq_zero_or_pos k with rfl | hk0
  · go_wp2_with fail
    refine (HSp.out _ _ HR3.out (by omega)).mono ?_
    rintro e w4 ⟨q4, hq4, hp4, m, T, S, hT, hS, rfl⟩
    have HP4 := hid (HP3.out.trans hp4)
    have HO4 := hid (HO3.out.picked hp4 hne)
    clear hp4 x0 x1 x2 r0 r1 r2 q0 q1 q2
    obtain ⟨⟨r0, r1, r2⟩, q0, q1, q2⟩ := own3V HO4.out
    go_wp2_with fail
    refine bodyPost_ret (v := .agg #[.bool m, .string T, .string S]) (by simp [results, Tryd.results75, go_sem, r0, r1, r2]) rfl ⟨q4, by omega, ?_, m, T, S, hT, hS, rfl⟩
    exact HP4.out.far (row := some w.heap.size) (((grown_set w4 w.heap.size 0 _).trans (grown_set _ w.heap.size 1 _)).trans (grown_set _ w.heap.size 2 _)) (fun g e => by cases e; exact Nat.le_refl _) hrb
  · have hk1 : ((k : Int) == 0) = false := by simp; omega
    go_wp2_with fail
    refine bodyPost_ret (v := .agg #[.bool neg, .string TA, .string TB]) (by simp [results, Tryd.results75, go_sem, r0, r1, r2]) rfl ⟨q + 1, by omega, ?_, neg, TA, TB, HTA.out, HTB.out, rfl⟩
    exact HP3.out.far (row := some w.heap.size) (((grown_set w3 w.heap.size 0 _).trans (grown_set _ w.heap.size 1 _)).trans (grown_set _ w.heap.size 2 _)) (fun g e => by cases e; exact Nat.le_refl _) hrb

set_option maxRecDepth 20000 in
set_option maxHeartbeats 1000000 in
theorem l13Neg_text (m : Bool) (T S : ByteArray) (w : World) :
    Calls Tryd.prog 77 #[.agg #[.bool m, .string T, .string S]] w fun e w' => ∃ b : Bool, e = .returned (.agg #[.bool b, .string T, .string S]) ∧ Below w.heap.size w w' := by
  have hb := boxes2 w #[.bool m, .string T, .string S] #[.bool false, .string ⟨#[]⟩, .string ⟨#[]⟩] 25 25 (Below.refl _ _)
  obtain ⟨⟨x0, x1, x2⟩, -⟩ := own3V hb.1
  obtain ⟨⟨r0, r1, r2⟩, q0, q1, q2⟩ := own3V hb.2.1
  clear hb
  obtain ⟨z, hz⟩ : ∃ z, (T.toList == [48]) = z := ⟨_, rfl⟩
  have HB : Hid (∀ o o' : Obj, Below w.heap.size w ((w.alloc o).alloc o')) := fun o o' => ((Below.refl _ _).alloc (Nat.le_refl _) _).alloc (by simp) _
  have h3 : ∀ b : Bool, _ := fun b => (own3V (boxes2 w #[.bool m, .string T, .string S] #[.bool b, .string T, .string S] 25 25 (Below.refl _ _)).2.1).1
  cases m
  · cases z
    · obtain ⟨s0, s1, s2⟩ := h3 true
      go_enter Tryd.func77, Tryd.ntmps77
      go_wp2_with fail
      refine bodyPost_ret (v := .agg #[.bool true, .string T, .string S]) (by simp [results, Tryd.results77, go_sem, s0, s1, s2]) rfl ⟨_, rfl, HB.out _ _⟩
    · obtain ⟨s0, s1, s2⟩ := h3 false
      go_enter Tryd.func77, Tryd.ntmps77
      go_wp2_with fail
      refine bodyPost_ret (v := .agg #[.bool false, .string T, .string S]) (by simp [results, Tryd.results77, go_sem, s0, s1, s2]) rfl ⟨_, rfl, HB.out _ _⟩
  · obtain ⟨s0, s1, s2⟩ := h3 false
    go_enter Tryd.func77, Tryd.ntmps77
    go_wp2_with fail
    refine bodyPost_ret (v := .agg #[.bool false, .string T, .string S]) (by simp [results, Tryd.results77, go_sem, s0, s1, s2]) rfl ⟨false, rfl, HB.out _ _⟩
end Go.Proofs.YtbbffhpppacihaaDoor
