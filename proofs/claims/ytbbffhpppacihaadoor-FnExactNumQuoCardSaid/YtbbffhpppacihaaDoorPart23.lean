/-
  NumQuo, NumMod, NumGcd: the model's and the program's answer the same. Condition: the table of powers and errors.errorType stand.
  The law FnExactNumQuo. Condition: the table of powers and errors.errorType stand. Made by wip/tools/genlq.py.
  The table of powers of ten as the card lists it, and as the walks read it.
  The table of powers of ten and errors.errorType as the card lists them, and as the walks read them.
-/
import Derived.Test.YtbbffhpppacihaaDoorPart22
import Derived.Test.YtbbffhpppacihaaDoorUN
import Derived.Test.YtbbffhpppacihaaDoorPart19
import Derived.Test.YtbbffhpppacihaaDoorRows
import Derived.Test.YtbbffhpppacihaaDoorPart1
import Derived.ProofKit
import Derived.OpenShut
import Derived.ShutString
import Derived.ChangeOld
import Derived.ChangeVars
import Derived.Below
import Derived.Carry
import Derived.LaidMore
import Derived.Stop.Joined
import Derived.Stop.LaidErr
import Derived.Lib.LaidTab
import Derived.LaidSub
namespace Go.Proofs.YtbbffhpppacihaaDoor
open Go.RowKit Go.Siskin

/-- Both variables stand. -/
def PowE (w : World) : Prop := Pow9 w ∧ ErrT w
theorem PowE.below {w w' : World} {n : Nat} (h : PowE w) (hb : Below n w w') (hn : w.heap.size ≤ n) : PowE w' := ⟨h.1.below hb hn, h.2.below hb hn⟩

/-- What integersOf tells of any two numbers. -/
theorem integersOf_all (n1 n2 : Bool) (T1 R1 T2 R2 : ByteArray) (h1 : T1.size ≤ maxLen) (h2 : R1.size ≤ maxLen) (h3 : T2.size ≤ maxLen) (h4 : R2.size ≤ maxLen) :
    (¬ (NumP n1 T1 R1 ∧ NumP n2 T2 R2) ∧ ∀ w, Pow9 w → Calls Tryd.prog 60 #[.agg #[.bool n1, .string T1, .string R1], .agg #[.bool n2, .string T2, .string R2]] w fun e w' => e = .returned (.tuple #[int0, int0, whyV 1]) ∧ Below w.heap.size w w') ∨
    (∃ U1 D1 U2 D2, T1 = dec U1 ∧ R1 = dec D1 ∧ T2 = dec U2 ∧ R2 = dec D2 ∧ T1.size ≤ 60 ∧ R1.size ≤ 60 ∧ T2.size ≤ 60 ∧ R2.size ≤ 60 ∧ OkUD n1 U1 D1 ∧ OkUD n2 U2 D2 ∧ nG U1 ≤ 60 ∧ nG U2 ≤ 60 ∧
      ((¬ (D1 = 1 ∧ D2 = 1) ∧ ∀ w, Pow9 w → Calls Tryd.prog 60 #[.agg #[.bool n1, .string T1, .string R1], .agg #[.bool n2, .string T2, .string R2]] w fun e w' => e = .returned (.tuple #[int0, int0, whyV 4]) ∧ Below w.heap.size w w') ∨
       ((D1 = 1 ∧ D2 = 1) ∧ ∀ w, Pow9 w → Calls Tryd.prog 60 #[.agg #[.bool n1, .string T1, .string R1], .agg #[.bool n2, .string T2, .string R2]] w (IntPost n1 n2 U1 U2 w)))) := by
  obtain ⟨b1, p1, U1, D1, o1, c1⟩ := openNum_all n1 T1 R1 h1 h2
  obtain ⟨b2, p2, U2, D2, o2, c2⟩ := openNum_all n2 T2 R2 h3 h4
  have g1 := o1.small
  have g2 := o2.small
  have hR := fun w hP => ratiosOf_any n1 n2 T1 R1 T2 R2 b1 b2 p1 p2 U1 D1 U2 D2 w c1 c2 hP
  rcases both_parts o1 o2 with ⟨rfl, rfl, rfl, rfl, e1, e2, e3, e4, s1, s2, s3, s4, k1, k2⟩ | ⟨hb, hno⟩
  · refine Or.inr ⟨U1, D1, U2, D2, e1, e2, e3, e4, s1, s2, s3, s4, k1, k2, g1.1, g2.1, ?_⟩
    by_cases hd : D1 = 1 ∧ D2 = 1
    · exact Or.inr ⟨hd, fun w hP => integersOf_ok n1 n2 T1 R1 T2 R2 n1 n2 U1 D1 U2 D2 w hP hd hR⟩
    · exact Or.inl ⟨hd, fun w hP => integersOf_part n1 n2 T1 R1 T2 R2 n1 n2 U1 D1 U2 D2 w hP hd hR⟩
  · rw [hb] at hR
    exact Or.inl ⟨hno, fun w hP => integersOf_no n1 n2 T1 R1 T2 R2 p1 p2 U1 D1 U2 D2 w hP hR⟩

abbrev numV (n : Bool) (x y : ByteArray) : Value := .agg #[.bool n, .string x, .string y]
theorem whole_four {D1 D2 U2 : Nat} (h : ¬ (D1 = 1 ∧ D2 = 1)) : wholeC D1 D2 U2 = 4 := by
  unfold wholeC
  rw [if_pos]
  by_cases h1 : D1 = 1
  · exact Or.inr fun h2 => h ⟨h1, h2⟩
  · exact Or.inl h1
theorem whole_two {D1 D2 U2 : Nat} (h : D1 = 1 ∧ D2 = 1) (hu : U2 = 0) : wholeC D1 D2 U2 = 2 := by
  unfold wholeC
  rw [if_neg (by rintro (h1 | h1); exact h1 h.1; exact h1 h.2), if_pos hu]
theorem whole_none {D1 D2 U2 : Nat} (h : D1 = 1 ∧ D2 = 1) (hu : U2 ≠ 0) : wholeC D1 D2 U2 = 0 := by
  unfold wholeC
  rw [if_neg (by rintro (h1 | h1); exact h1 h.1; exact h1 h.2), if_neg hu]

theorem numGcd_both (n1 n2 : Bool) (T1 R1 T2 R2 : ByteArray) (h1 : T1.size ≤ maxLen) (h2 : R1.size ≤ maxLen) (h3 : T2.size ≤ maxLen) (h4 : R2.size ≤ maxLen) : ∃ (n : Bool) (x y : ByteArray) (c : Int),
    (∀ w, Calls Tryd.prog 31 #[.agg #[.bool n1, .string T1, .string R1], .agg #[.bool n2, .string T2, .string R2]] w fun e w' => e = .returned (.tuple #[.agg #[.bool n, .string x, .string y], .int .i64 c]) ∧ Below w.heap.size w w') ∧
    (∀ w, PowE w → Calls Tryd.prog 30 #[.agg #[.bool n1, .string T1, .string R1], .agg #[.bool n2, .string T2, .string R2]] w fun e w' => e = .returned (.tuple #[.agg #[.bool n, .string x, .string y], .int .i64 c]) ∧ Below w.heap.size w w') := by
  rcases integersOf_all n1 n2 T1 R1 T2 R2 h1 h2 h3 h4 with ⟨hno, hI⟩ | ⟨U1, D1, U2, D2, rfl, rfl, rfl, rfl, s1, s2, s3, s4, k1, k2, g1, g2, ⟨hd, hI⟩ | ⟨hd, hI⟩⟩
  · exact ⟨false, ⟨#[]⟩, ⟨#[]⟩, 1, fun w => specNumGcd_code n1 n2 _ _ _ _ w 1 (Or.inl rfl) (fun w => l14Whole_no n1 n2 _ _ _ _ w h1 h2 h3 h4 hno),
      fun w hP => implNumGcd_err n1 n2 _ _ _ _ 1 w hP.1 hP.2 hI⟩
  · exact ⟨false, ⟨#[]⟩, ⟨#[]⟩, 4, fun w => specNumGcd_code n1 n2 _ _ _ _ w 4 (Or.inr rfl) (fun w => l14Whole_yes n1 n2 _ _ _ _ w s1 s2 s3 s4 k1 k2 4 (whole_four hd)),
      fun w hP => implNumGcd_err n1 n2 _ _ _ _ 4 w hP.1 hP.2 hI⟩
  · obtain ⟨c, hc, hcw⟩ : ∃ c : Int, (c = 0 ∨ c = 2) ∧ wholeC D1 D2 U2 = c := by
      by_cases hu : U2 = 0
      · exact ⟨2, Or.inr rfl, whole_two hd hu⟩
      · exact ⟨0, Or.inl rfl, whole_none hd hu⟩
    exact ⟨_, _, _, 0, fun w => specNumGcd_yes n1 n2 U1 D1 U2 D2 w s1 s3 c hc (fun w => l14Whole_yes n1 n2 _ _ _ _ w s1 s2 s3 s4 k1 k2 c hcw),
      fun w hP => implNumGcd_ok n1 n2 n1 n2 _ _ _ _ U1 U2 w (by omega) (by omega) hP.1 hI⟩

theorem numQuo_both (n1 n2 : Bool) (T1 R1 T2 R2 : ByteArray) (h1 : T1.size ≤ maxLen) (h2 : R1.size ≤ maxLen) (h3 : T2.size ≤ maxLen) (h4 : R2.size ≤ maxLen) : ∃ (n : Bool) (x y : ByteArray) (m : Bool) (z t : ByteArray) (c : Int),
    (∀ w, Calls Tryd.prog 9 #[.agg #[.bool n1, .string T1, .string R1], .agg #[.bool n2, .string T2, .string R2]] w fun e w' => e = .returned (.tuple #[.agg #[.bool n, .string x, .string y], .agg #[.bool m, .string z, .string t], .int .i64 c]) ∧ Below w.heap.size w w') ∧
    (∀ w, PowE w → Calls Tryd.prog 11 #[.agg #[.bool n1, .string T1, .string R1], .agg #[.bool n2, .string T2, .string R2]] w fun e w' => e = .returned (.tuple #[.agg #[.bool n, .string x, .string y], .agg #[.bool m, .string z, .string t], .int .i64 c]) ∧ Below w.heap.size w w') := by
  rcases integersOf_all n1 n2 T1 R1 T2 R2 h1 h2 h3 h4 with ⟨hno, hI⟩ | ⟨U1, D1, U2, D2, rfl, rfl, rfl, rfl, s1, s2, s3, s4, k1, k2, g1, g2, ⟨hd, hI⟩ | ⟨hd, hI⟩⟩
  · exact ⟨false, ⟨#[]⟩, ⟨#[]⟩, false, ⟨#[]⟩, ⟨#[]⟩, 1, fun w => specNumQuo_code n1 n2 _ _ _ _ w 1 (by decide) (fun w => l14Whole_no n1 n2 _ _ _ _ w h1 h2 h3 h4 hno),
      fun w hP => implNumQuo_err n1 n2 _ _ _ _ 1 w hP.1 hP.2 (fun w hP => dividedOf_err n1 n2 _ _ _ _ 1 w hP hI)⟩
  · exact ⟨false, ⟨#[]⟩, ⟨#[]⟩, false, ⟨#[]⟩, ⟨#[]⟩, 4, fun w => specNumQuo_code n1 n2 _ _ _ _ w 4 (by decide) (fun w => l14Whole_yes n1 n2 _ _ _ _ w s1 s2 s3 s4 k1 k2 4 (whole_four hd)),
      fun w hP => implNumQuo_err n1 n2 _ _ _ _ 4 w hP.1 hP.2 (fun w hP => dividedOf_err n1 n2 _ _ _ _ 4 w hP hI)⟩
  · by_cases hu : U2 = 0
    · subst hu
      exact ⟨false, ⟨#[]⟩, ⟨#[]⟩, false, ⟨#[]⟩, ⟨#[]⟩, 2, fun w => specNumQuo_code n1 n2 _ _ _ _ w 2 (by decide) (fun w => l14Whole_yes n1 n2 _ _ _ _ w s1 s2 s3 s4 k1 k2 2 (whole_two hd rfl)),
        fun w hP => implNumQuo_err n1 n2 _ _ _ _ 2 w hP.1 hP.2 (fun w hP => dividedOf_nought n1 n2 n1 n2 _ _ _ _ U1 w hP hI)⟩
    · exact ⟨_, _, _, _, _, _, 0, fun w => specNumQuo_yes n1 n2 U1 D1 U2 D2 w s1 s3 hu (fun w => l14Whole_yes n1 n2 _ _ _ _ w s1 s2 s3 s4 k1 k2 0 (whole_none hd hu)),
        fun w hP => implNumQuo_ok n1 n2 n1 n2 _ _ _ _ _ U1 U2 w rfl (by omega) (by omega) hu hP.1 (fun w hP => dividedOf_ok n1 n2 n1 n2 _ _ _ _ _ U1 U2 w rfl hu (by omega) hP hI)⟩
end Go.Proofs.YtbbffhpppacihaaDoor

namespace Go.Proofs.YtbbffhpppacihaaDoor
open Go.RowKit Go.Siskin

/-- The boxes that were made, each with nothing in it yet. -/
def KBs (w0 W : World) (bs : List Nat) : Prop := Below w0.heap.size w0 W ∧ bs.Nodup ∧ ∀ b ∈ bs, Own W b 25 #[.bool false, .string ⟨#[]⟩, .string ⟨#[]⟩] ∧ w0.heap.size ≤ b
theorem belAl {w W : World} (h : Below w.heap.size w W) (o : Obj) : Below w.heap.size w (W.alloc o) := h.alloc h.size o
theorem belDr {w W : World} (h : Below w.heap.size w W) : Below w.heap.size w W.drew := h.drew
theorem belS3 {w W : World} {b : Nat} (h : Below w.heap.size w W) (hb : w.heap.size ≤ b) (x y z : Value) : Below w.heap.size w (((W.setCell ⟨b, 0, none⟩ x).setCell ⟨b, 1, none⟩ y).setCell ⟨b, 2, none⟩ z) := below_set3 h hb x y z
theorem KBs.bel {w0 W : World} {bs : List Nat} (h : KBs w0 W bs) : Below w0.heap.size w0 W := h.1
theorem KBs.start (w : World) : KBs w w [] := ⟨Below.refl _ _, List.nodup_nil, fun b h => by cases h⟩
theorem KBs.below {w0 W W' : World} {bs : List Nat} (h : KBs w0 W bs) (hb : Below W.heap.size W W') : KBs w0 W' bs :=
  ⟨h.1.trans (hb.mono h.1.size), h.2.1, fun b hm => ⟨(h.2.2 b hm).1.keep hb (h.2.2 b hm).1.lt, (h.2.2 b hm).2⟩⟩
theorem KBs.new {w0 W : World} {bs : List Nat} (h : KBs w0 W bs) : KBs w0 (W.alloc (.cells #[.bool false, .string ⟨#[]⟩, .string ⟨#[]⟩] 25)) (W.heap.size :: bs) := by
  have h1 := h.below ((Below.refl W.heap.size W).alloc (Nat.le_refl _) (.cells #[.bool false, .string ⟨#[]⟩, .string ⟨#[]⟩] 25))
  refine ⟨h1.1, List.nodup_cons.2 ⟨fun hm => Nat.lt_irrefl _ (h.2.2 _ hm).1.lt, h.2.1⟩, fun b hb => ?_⟩
  rcases List.mem_cons.1 hb with rfl | hb
  · exact ⟨own_new _ _ _, h.1.size⟩
  · exact h1.2.2 b hb
theorem KBs.step0 {w0 W W' : World} {bs : List Nat} (h : KBs w0 W bs) (hb : Below W.heap.size W W') : KBs w0 W' bs := h.below hb
theorem KBs.step0d {w0 W W' : World} {bs : List Nat} (h : KBs w0 W bs) (hb : Below W.drew.heap.size W.drew W') : KBs w0 W' bs := (h.below ((Below.refl W.heap.size W).drew)).below hb
theorem KBs.step1 {w0 W W' : World} {bs : List Nat} (h : KBs w0 W bs) (hb : Below (W.alloc (.cells #[.bool false, .string ⟨#[]⟩, .string ⟨#[]⟩] 25)).heap.size (W.alloc (.cells #[.bool false, .string ⟨#[]⟩, .string ⟨#[]⟩] 25)) W') : KBs w0 W' (W.heap.size :: bs) := h.new.below hb
theorem KBs.step1d {w0 W W' : World} {bs : List Nat} (h : KBs w0 W bs) (hb : Below (W.alloc (.cells #[.bool false, .string ⟨#[]⟩, .string ⟨#[]⟩] 25)).drew.heap.size (W.alloc (.cells #[.bool false, .string ⟨#[]⟩, .string ⟨#[]⟩] 25)).drew W') : KBs w0 W' (W.heap.size :: bs) := h.new.step0d hb
theorem KBs.step2 {w0 W W' : World} {bs : List Nat} (h : KBs w0 W bs) (hb : Below ((W.alloc (.cells #[.bool false, .string ⟨#[]⟩, .string ⟨#[]⟩] 25)).alloc (.cells #[.bool false, .string ⟨#[]⟩, .string ⟨#[]⟩] 25)).heap.size ((W.alloc (.cells #[.bool false, .string ⟨#[]⟩, .string ⟨#[]⟩] 25)).alloc (.cells #[.bool false, .string ⟨#[]⟩, .string ⟨#[]⟩] 25)) W') : KBs w0 W' ((W.heap.size + 1) :: W.heap.size :: bs) := by
  have h2 := h.new.new
  rw [World.size_alloc] at h2
  exact h2.below hb
theorem KBs.step2d {w0 W W' : World} {bs : List Nat} (h : KBs w0 W bs) (hb : Below ((W.alloc (.cells #[.bool false, .string ⟨#[]⟩, .string ⟨#[]⟩] 25)).alloc (.cells #[.bool false, .string ⟨#[]⟩, .string ⟨#[]⟩] 25)).drew.heap.size ((W.alloc (.cells #[.bool false, .string ⟨#[]⟩, .string ⟨#[]⟩] 25)).alloc (.cells #[.bool false, .string ⟨#[]⟩, .string ⟨#[]⟩] 25)).drew W') : KBs w0 W' ((W.heap.size + 1) :: W.heap.size :: bs) := by
  have h2 := h.new.new
  rw [World.size_alloc] at h2
  exact h2.step0d hb
theorem KBs.one {w0 W : World} {b : Nat} {bs : List Nat} (h : KBs w0 W (b :: bs)) : Own W b 25 #[.bool false, .string ⟨#[]⟩, .string ⟨#[]⟩] ∧ w0.heap.size ≤ b ∧ b < W.heap.size := ⟨(h.2.2 b (List.mem_cons_self ..)).1, (h.2.2 b (List.mem_cons_self ..)).2, (h.2.2 b (List.mem_cons_self ..)).1.lt⟩
theorem KBs.two {w0 W : World} {a b : Nat} (h : KBs w0 W [a, b]) : Own W b 25 #[.bool false, .string ⟨#[]⟩, .string ⟨#[]⟩] ∧ w0.heap.size ≤ b ∧ b < W.heap.size ∧ a ≠ b ∧ b ≠ a := by
  have hb := h.2.2 b (by simp)
  have hn : a ≠ b := by have := h.2.1; simp at this; exact this
  exact ⟨hb.1, hb.2, hb.1.lt, hn, hn.symm⟩
/-- What the region leaves: two boxes with what the call told. -/
def Two (w0 W : World) (f g : Nat) (n : Bool) (x y : ByteArray) (m : Bool) (z t : ByteArray) : Prop :=
  Own W f 25 #[.bool n, .string x, .string y] ∧ Own W g 25 #[.bool m, .string z, .string t] ∧ Below w0.heap.size w0 W
theorem own_set3new {w : World} {f : Nat} {e : TypeId} {n : Bool} {x y : ByteArray} (h : Own w f e #[.bool false, .string ⟨#[]⟩, .string ⟨#[]⟩]) : Own (((w.setCell ⟨f, 0, none⟩ (.bool n)).setCell ⟨f, 1, none⟩ (.string x)).setCell ⟨f, 2, none⟩ (.string y)) f e #[.bool n, .string x, .string y] := ((h.set 0 _).set 1 _).set 2 _
section
variable {w0 W : World} {n m : Bool} {x y z t : ByteArray}
theorem two_nn {bs : List Nat} (h : KBs w0 W bs) : Two w0 ((W.alloc (.cells #[.bool n, .string x, .string y] 25)).alloc (.cells #[.bool m, .string z, .string t] 25)) W.heap.size (W.heap.size + 1) n x y m z t := by
  have h2 := own_new (W.alloc (.cells #[.bool n, .string x, .string y] 25)) #[.bool m, .string z, .string t] 25
  rw [World.size_alloc] at h2
  exact ⟨(own_new W #[.bool n, .string x, .string y] 25).keep ((Below.refl (W.heap.size + 1) _).alloc (by simp) _) (Nat.lt_succ_self _), h2, belAl (belAl h.1 _) _⟩
theorem two_mm {bs : List Nat} (h : KBs w0 W bs) : Two w0 ((W.alloc (.cells #[.bool m, .string z, .string t] 25)).alloc (.cells #[.bool n, .string x, .string y] 25)) (W.heap.size + 1) W.heap.size n x y m z t := ⟨(two_nn h).2.1, (two_nn h).1, (two_nn h).2.2⟩
theorem two_on {b : Nat} {bs : List Nat} (h : KBs w0 W (b :: bs)) : Two w0 ((((W.setCell ⟨b, 0, none⟩ (.bool n)).setCell ⟨b, 1, none⟩ (.string x)).setCell ⟨b, 2, none⟩ (.string y)).alloc (.cells #[.bool m, .string z, .string t] 25)) b W.heap.size n x y m z t := by
  have h2 := own_new (((W.setCell ⟨b, 0, none⟩ (.bool n)).setCell ⟨b, 1, none⟩ (.string x)).setCell ⟨b, 2, none⟩ (.string y)) #[.bool m, .string z, .string t] 25
  rw [size_set3] at h2
  exact ⟨(own_set3new h.one.1).keep ((Below.refl W.heap.size _).alloc (by rw [size_set3]; exact Nat.le_refl _) _) h.one.2.2, h2, belAl (belS3 h.1 h.one.2.1 _ _ _) _⟩
theorem two_no {b : Nat} {bs : List Nat} (h : KBs w0 W (b :: bs)) : Two w0 ((((W.setCell ⟨b, 0, none⟩ (.bool m)).setCell ⟨b, 1, none⟩ (.string z)).setCell ⟨b, 2, none⟩ (.string t)).alloc (.cells #[.bool n, .string x, .string y] 25)) W.heap.size b n x y m z t := ⟨(two_on h).2.1, (two_on h).1, (two_on h).2.2⟩
theorem two_ab {a b : Nat} (h : KBs w0 W [a, b]) : Two w0 ((((((W.setCell ⟨a, 0, none⟩ (.bool n)).setCell ⟨a, 1, none⟩ (.string x)).setCell ⟨a, 2, none⟩ (.string y)).setCell ⟨b, 0, none⟩ (.bool m)).setCell ⟨b, 1, none⟩ (.string z)).setCell ⟨b, 2, none⟩ (.string t)) a b n x y m z t :=
  ⟨own_set3 (own_set3new h.one.1) h.two.2.2.2.1 _ _ _, own_set3new (own_set3 h.two.1 h.two.2.2.2.2 _ _ _), belS3 (belS3 h.1 h.one.2.1 _ _ _) h.two.2.1 _ _ _⟩
theorem two_ba {a b : Nat} (h : KBs w0 W [a, b]) : Two w0 ((((((W.setCell ⟨b, 0, none⟩ (.bool n)).setCell ⟨b, 1, none⟩ (.string x)).setCell ⟨b, 2, none⟩ (.string y)).setCell ⟨a, 0, none⟩ (.bool m)).setCell ⟨a, 1, none⟩ (.string z)).setCell ⟨a, 2, none⟩ (.string t)) b a n x y m z t :=
  ⟨own_set3 (own_set3new h.two.1) h.two.2.2.2.2 _ _ _, own_set3new (own_set3 h.one.1 h.two.2.2.2.1 _ _ _), belS3 (belS3 h.1 h.two.2.1 _ _ _) h.one.2.1 _ _ _⟩
end

set_option maxRecDepth 20000 in
set_option maxHeartbeats 8000000 in
theorem lawNumQuo_of (n1 n2 : Bool) (T1 R1 T2 R2 : ByteArray) (w : World) (h1 : T1.size ≤ maxLen) (h2 : R1.size ≤ maxLen) (h3 : T2.size ≤ maxLen) (h4 : R2.size ≤ maxLen) (hP : PowE w) (n : Bool) (x y : ByteArray) (m : Bool) (z t : ByteArray) (c : Int)
    (hS : ∀ w, Calls Tryd.prog 9 #[.agg #[.bool n1, .string T1, .string R1], .agg #[.bool n2, .string T2, .string R2]] w fun e w' => e = .returned (.tuple #[.agg #[.bool n, .string x, .string y], .agg #[.bool m, .string z, .string t], .int .i64 c]) ∧ Below w.heap.size w w')
    (hI : ∀ w, PowE w → Calls Tryd.prog 11 #[.agg #[.bool n1, .string T1, .string R1], .agg #[.bool n2, .string T2, .string R2]] w fun e w' => e = .returned (.tuple #[.agg #[.bool n, .string x, .string y], .agg #[.bool m, .string z, .string t], .int .i64 c]) ∧ Below w.heap.size w w') :
    Calls Tryd.prog 3 #[.agg #[.bool n1, .string T1, .string R1], .agg #[.bool n2, .string T2, .string R2]] w fun e w' => e = .returned (.bool true) ∧ Below w.heap.size w w' := by
  have HZ1 := hid (fun w => szNum_any n1 T1 R1 1048576 w (by decide) (by decide) h1 h2)
  obtain ⟨z1, hz1⟩ : ∃ z, szN T1.size R1.size 1048576 = z := ⟨_, rfl⟩
  have hz1l : z1 ≤ 1048576 := by rw [← hz1]; exact szN_le _ _ _ (by decide)
  rw [hz1] at HZ1
  have HZ2 : Hid (0 ≤ z1 → ∃ z2 : Int, ∀ w, Calls Tryd.prog 8 #[.agg #[.bool n2, .string T2, .string R2], .int .i64 z1] w fun e w' => e = .returned (.int .i64 z2) ∧ Below w.heap.size w w') := fun h0 => ⟨_, fun w => szNum_any n2 T2 R2 z1 w h0 hz1l h3 h4⟩
  have HT1 := hid (fun w => toNum_any n1 T1 R1 w)
  have HT2 := hid (fun w => toNum_any n2 T2 R2 w)
  have HS := hid hS
  have HI := hid hI
  have HPw := hid hP
  have HE := hid (eqNum_same n x y)
  have HE2 := hid (eqNum_same m z t)
  have hcc : (c != c) = false := by simp
  clear h1 h2 h3 h4 hP hS hI hz1 hz1l
  obtain ⟨W0, HW0⟩ : ∃ W, Hid ((w.alloc (.cells #[.bool n1, .string T1, .string R1] 23)).alloc (.cells #[.bool n2, .string T2, .string R2] 23) = W) := ⟨_, rfl⟩
  have HX : Hid (∀ W, Below (w.heap.size + 2) W0 W → Own W w.heap.size 23 #[.bool n1, .string T1, .string R1] ∧ Own W (w.heap.size + 1) 23 #[.bool n2, .string T2, .string R2] ∧ Below w.heap.size w W) := fun W h => by
    rw [← HW0.out] at h
    exact boxes2 w _ _ _ _ h
  have HS0 : Hid (w.heap.size + 2 ≤ W0.heap.size) := by show _ ≤ _; rw [← HW0.out]; simp
  have HB0 : Hid (Below (w.heap.size + 2) W0 W0) := Below.refl _ _
  obtain ⟨⟨x0, x1, x2⟩, -⟩ := own3V (HX.out _ HB0.out).1
  go_enter Tryd.func3, Tryd.ntmps3
  go_wp2_with fail
  rw [HW0.out]
  go_wp2_with fail
  refine (HZ1.out _).mono ?_
  rintro e wa ⟨rfl, hwa⟩
  have HBa := hid (HB0.out.trans (hwa.mono HS0.out))
  clear hwa x0 x1 x2
  obtain ⟨⟨x0, x1, x2⟩, -⟩ := own3V (HX.out _ HBa.out).2.1
  by_cases hn1 : z1 < 0
  · go_wp2_with fail
    go_ret
    exact ⟨rfl, (HX.out _ HBa.out).2.2⟩
  obtain ⟨z2, hz2⟩ := HZ2.out (by omega)
  have HZ2b := hid hz2
  clear hz2
  go_wp2_with fail
  refine (HZ2b.out _).mono ?_
  rintro e wb ⟨rfl, hwb⟩
  have HBb := hid (HBa.out.trans (hwb.mono (Nat.le_trans HS0.out HBa.out.size)))
  clear hwb x0 x1 x2
  by_cases hn2 : z2 < 0
  · go_wp2_with fail
    go_ret
    exact ⟨rfl, (HX.out _ HBb.out).2.2⟩
  have HLb : Hid (∀ W, Below wb.heap.size wb W → (W.cell? ⟨w.heap.size, 0, none⟩ = some (.bool n1) ∧ W.cell? ⟨w.heap.size, 1, none⟩ = some (.string T1) ∧ W.cell? ⟨w.heap.size, 2, none⟩ = some (.string R1)) ∧ W.cell? ⟨w.heap.size + 1, 0, none⟩ = some (.bool n2) ∧ W.cell? ⟨w.heap.size + 1, 1, none⟩ = some (.string T2) ∧ W.cell? ⟨w.heap.size + 1, 2, none⟩ = some (.string R2)) := fun W h => by
    have h0 := HX.out W (HBb.out.trans (h.mono (Nat.le_trans HS0.out HBb.out.size)))
    exact ⟨(own3V h0.1).1, (own3V h0.2.1).1⟩
  go_wp2_with fail
  go_cut [6, 7, 8] (fun f g v wc => ∃ fb gb : Nat, f = .pointer (some ⟨fb, 0, none⟩) ∧ g = .pointer (some ⟨gb, 0, none⟩) ∧ v = .int .i64 c ∧ Hid (Two wb wc fb gb n x y m z t))
  case first =>
    have HK := hid (KBs.start wb)
    go_region_held3 (fun W => (W.cell? ⟨w.heap.size, 0, none⟩ = some (.bool n1) ∧ W.cell? ⟨w.heap.size, 1, none⟩ = some (.string T1) ∧ W.cell? ⟨w.heap.size, 2, none⟩ = some (.string R1)) ∧ W.cell? ⟨w.heap.size + 1, 0, none⟩ = some (.bool n2) ∧ W.cell? ⟨w.heap.size + 1, 1, none⟩ = some (.string T2) ∧ W.cell? ⟨w.heap.size + 1, 2, none⟩ = some (.string R2))
      (exact HLb.out _ (by repeat (with_reducible first | exact KBs.bel HK.out | (refine belS3 ?_ (by first | assumption | omega) _ _ _) | (refine belAl ?_ _) | (refine belDr ?_))))
      (first
        | (go_at_call_of 10 (Value.string T1)
           go_loud (
             refine (HT1.out _).mono ?_
             rintro e w3 ⟨rfl, hw3⟩
             have HK := hid (show KBs wb w3 _ by with_reducible (first | exact HK.out.step0 hw3 | exact HK.out.step0d hw3 | exact HK.out.step1 hw3 | exact HK.out.step1d hw3 | exact HK.out.step2 hw3 | exact HK.out.step2d hw3))
             clear hw3
             try clear c0 c1 c2 p0 p1 p2 hb1 hb2
             try clear d0 d1 d2 q0 q1 q2 hd1 hd2 hd3 hd4
             first
               | (obtain ⟨o1, hb1, hb2⟩ := HK.out.one
                  obtain ⟨⟨c0, c1, c2⟩, p0, p1, p2⟩ := own3V o1
                  clear o1)
               | skip
             first
               | (obtain ⟨o2, hd1, hd2, hd3, hd4⟩ := HK.out.two
                  obtain ⟨⟨d0, d1, d2⟩, q0, q1, q2⟩ := own3V o2
                  clear o2)
               | skip))
        | (go_at_call_of 10 (Value.string T2)
           go_loud (
             refine (HT2.out _).mono ?_
             rintro e w3 ⟨rfl, hw3⟩
             have HK := hid (show KBs wb w3 _ by with_reducible (first | exact HK.out.step0 hw3 | exact HK.out.step0d hw3 | exact HK.out.step1 hw3 | exact HK.out.step1d hw3 | exact HK.out.step2 hw3 | exact HK.out.step2d hw3))
             clear hw3
             try clear c0 c1 c2 p0 p1 p2 hb1 hb2
             try clear d0 d1 d2 q0 q1 q2 hd1 hd2 hd3 hd4
             first
               | (obtain ⟨o1, hb1, hb2⟩ := HK.out.one
                  obtain ⟨⟨c0, c1, c2⟩, p0, p1, p2⟩ := own3V o1
                  clear o1)
               | skip
             first
               | (obtain ⟨o2, hd1, hd2, hd3, hd4⟩ := HK.out.two
                  obtain ⟨⟨d0, d1, d2⟩, q0, q1, q2⟩ := own3V o2
                  clear o2)
               | skip))
        | (go_at_call 9
           go_loud (
             refine (HS.out _).mono ?_
             rintro e w3 ⟨rfl, hw3⟩
             have HK := hid (show KBs wb w3 _ by with_reducible (first | exact HK.out.step0 hw3 | exact HK.out.step0d hw3 | exact HK.out.step1 hw3 | exact HK.out.step1d hw3 | exact HK.out.step2 hw3 | exact HK.out.step2d hw3))
             clear hw3
             try clear c0 c1 c2 p0 p1 p2 hb1 hb2
             try clear d0 d1 d2 q0 q1 q2 hd1 hd2 hd3 hd4
             first
               | (obtain ⟨o1, hb1, hb2⟩ := HK.out.one
                  obtain ⟨⟨c0, c1, c2⟩, p0, p1, p2⟩ := own3V o1
                  clear o1)
               | skip
             first
               | (obtain ⟨o2, hd1, hd2, hd3, hd4⟩ := HK.out.two
                  obtain ⟨⟨d0, d1, d2⟩, q0, q1, q2⟩ := own3V o2
                  clear o2)
               | skip)))
    all_goals go_wp2_with fail
    all_goals go_meet
    all_goals refine ⟨_, _, rfl, rfl, rfl, ?_⟩
    all_goals with_reducible first
      | exact hid (two_nn HK.out)
      | exact hid (two_mm HK.out)
      | exact hid (two_on HK.out)
      | exact hid (two_no HK.out)
      | exact hid (two_ab HK.out)
      | exact hid (two_ba HK.out)
  case rest =>
    obtain ⟨f1, g1, rfl, rfl, rfl, HT⟩ := hcut
    rename World => wA
    have HLc : Hid (∀ W, Below wA.heap.size wA W → (W.cell? ⟨w.heap.size, 0, none⟩ = some (.bool n1) ∧ W.cell? ⟨w.heap.size, 1, none⟩ = some (.string T1) ∧ W.cell? ⟨w.heap.size, 2, none⟩ = some (.string R1)) ∧ W.cell? ⟨w.heap.size + 1, 0, none⟩ = some (.bool n2) ∧ W.cell? ⟨w.heap.size + 1, 1, none⟩ = some (.string T2) ∧ W.cell? ⟨w.heap.size + 1, 2, none⟩ = some (.string R2)) := fun W h => HLb.out W (HT.out.2.2.trans (h.mono HT.out.2.2.size))
    have HPc : Hid (∀ W, Below wA.heap.size wA W → PowE W) := fun W h => HPw.out.below (HX.out W ((HBb.out.trans (HT.out.2.2.mono (Nat.le_trans HS0.out HBb.out.size))).trans (h.mono (Nat.le_trans HS0.out (Nat.le_trans HBb.out.size HT.out.2.2.size))))).2.2 (Nat.le_refl _)
    go_wp2_with fail
    go_cut [9, 10, 11] (fun f g v wc => ∃ fb gb : Nat, f = .pointer (some ⟨fb, 0, none⟩) ∧ g = .pointer (some ⟨gb, 0, none⟩) ∧ v = .int .i64 c ∧ Hid (Two wA wc fb gb n x y m z t))
    case first =>
      have HK := hid (KBs.start wA)
      go_region_held3 (fun W => (W.cell? ⟨w.heap.size, 0, none⟩ = some (.bool n1) ∧ W.cell? ⟨w.heap.size, 1, none⟩ = some (.string T1) ∧ W.cell? ⟨w.heap.size, 2, none⟩ = some (.string R1)) ∧ W.cell? ⟨w.heap.size + 1, 0, none⟩ = some (.bool n2) ∧ W.cell? ⟨w.heap.size + 1, 1, none⟩ = some (.string T2) ∧ W.cell? ⟨w.heap.size + 1, 2, none⟩ = some (.string R2))
        (exact HLc.out _ (by repeat (with_reducible first | exact KBs.bel HK.out | (refine belS3 ?_ (by first | assumption | omega) _ _ _) | (refine belAl ?_ _) | (refine belDr ?_))))
        (first
          | (go_at_call_of 10 (Value.string T1)
             go_loud (
               refine (HT1.out _).mono ?_
               rintro e w3 ⟨rfl, hw3⟩
               have HK := hid (show KBs wA w3 _ by with_reducible (first | exact HK.out.step0 hw3 | exact HK.out.step0d hw3 | exact HK.out.step1 hw3 | exact HK.out.step1d hw3 | exact HK.out.step2 hw3 | exact HK.out.step2d hw3))
               clear hw3
               try clear c0 c1 c2 p0 p1 p2 hb1 hb2
               try clear d0 d1 d2 q0 q1 q2 hd1 hd2 hd3 hd4
               first
                 | (obtain ⟨o1, hb1, hb2⟩ := HK.out.one
                    obtain ⟨⟨c0, c1, c2⟩, p0, p1, p2⟩ := own3V o1
                    clear o1)
                 | skip
               first
                 | (obtain ⟨o2, hd1, hd2, hd3, hd4⟩ := HK.out.two
                    obtain ⟨⟨d0, d1, d2⟩, q0, q1, q2⟩ := own3V o2
                    clear o2)
                 | skip))
          | (go_at_call_of 10 (Value.string T2)
             go_loud (
               refine (HT2.out _).mono ?_
               rintro e w3 ⟨rfl, hw3⟩
               have HK := hid (show KBs wA w3 _ by with_reducible (first | exact HK.out.step0 hw3 | exact HK.out.step0d hw3 | exact HK.out.step1 hw3 | exact HK.out.step1d hw3 | exact HK.out.step2 hw3 | exact HK.out.step2d hw3))
               clear hw3
               try clear c0 c1 c2 p0 p1 p2 hb1 hb2
               try clear d0 d1 d2 q0 q1 q2 hd1 hd2 hd3 hd4
               first
                 | (obtain ⟨o1, hb1, hb2⟩ := HK.out.one
                    obtain ⟨⟨c0, c1, c2⟩, p0, p1, p2⟩ := own3V o1
                    clear o1)
                 | skip
               first
                 | (obtain ⟨o2, hd1, hd2, hd3, hd4⟩ := HK.out.two
                    obtain ⟨⟨d0, d1, d2⟩, q0, q1, q2⟩ := own3V o2
                    clear o2)
                 | skip))
          | (go_at_call 11
             go_loud (
               refine (HI.out _ (HPc.out _ (by repeat (with_reducible first | exact KBs.bel HK.out | (refine belAl ?_ _) | (refine belDr ?_))))).mono ?_
               rintro e w3 ⟨rfl, hw3⟩
               have HK := hid (show KBs wA w3 _ by with_reducible (first | exact HK.out.step0 hw3 | exact HK.out.step0d hw3 | exact HK.out.step1 hw3 | exact HK.out.step1d hw3 | exact HK.out.step2 hw3 | exact HK.out.step2d hw3))
               clear hw3
               try clear c0 c1 c2 p0 p1 p2 hb1 hb2
               try clear d0 d1 d2 q0 q1 q2 hd1 hd2 hd3 hd4
               first
                 | (obtain ⟨o1, hb1, hb2⟩ := HK.out.one
                    obtain ⟨⟨c0, c1, c2⟩, p0, p1, p2⟩ := own3V o1
                    clear o1)
                 | skip
               first
                 | (obtain ⟨o2, hd1, hd2, hd3, hd4⟩ := HK.out.two
                    obtain ⟨⟨d0, d1, d2⟩, q0, q1, q2⟩ := own3V o2
                    clear o2)
                 | skip)))
      all_goals go_wp2_with fail
      all_goals go_meet
      all_goals refine ⟨_, _, rfl, rfl, rfl, ?_⟩
      all_goals with_reducible first
        | exact hid (two_nn HK.out)
        | exact hid (two_mm HK.out)
        | exact hid (two_on HK.out)
        | exact hid (two_no HK.out)
        | exact hid (two_ab HK.out)
        | exact hid (two_ba HK.out)
    case rest =>
      obtain ⟨f2, g2, rfl, rfl, rfl, HU⟩ := hcut
      have o1 := HT.out.1.keep HU.out.2.2 HT.out.1.lt
      obtain ⟨⟨x0, x1, x2⟩, -⟩ := own3V o1
      obtain ⟨⟨y0, y1, y2⟩, -⟩ := own3V HU.out.1
      have HBe := hid (HX.out wc ((HBb.out.trans (HT.out.2.2.mono (Nat.le_trans HS0.out HBb.out.size))).trans (HU.out.2.2.mono (Nat.le_trans HS0.out (Nat.le_trans HBb.out.size HT.out.2.2.size))))).2.2
      clear o1
      go_wp2_with fail
      refine (HE.out _).mono ?_
      rintro e w9 ⟨rfl, hw9⟩
      have HB9 := hid (HBe.out.trans (hw9.mono HBe.out.size))
      have o2 := (HT.out.2.1.keep HU.out.2.2 HT.out.2.1.lt)
      have o3 := o2.keep hw9 o2.lt
      have o4 := HU.out.2.1.keep hw9 HU.out.2.1.lt
      clear hw9 x0 x1 x2 y0 y1 y2 o2
      obtain ⟨⟨x0, x1, x2⟩, -⟩ := own3V o3
      obtain ⟨⟨y0, y1, y2⟩, -⟩ := own3V o4
      clear o3 o4
      go_wp2_with fail
      refine (HE2.out _).mono ?_
      rintro e w10 ⟨rfl, hw10⟩
      have HB10 := hid (HB9.out.trans (hw10.mono HB9.out.size))
      clear hw10 x0 x1 x2 y0 y1 y2
      go_wp2_with fail
      go_ret
      exact ⟨rfl, HB10.out⟩

theorem lawNumQuo_any (n1 n2 : Bool) (T1 R1 T2 R2 : ByteArray) (w : World) (h1 : T1.size ≤ maxLen) (h2 : R1.size ≤ maxLen) (h3 : T2.size ≤ maxLen) (h4 : R2.size ≤ maxLen) (hP : PowE w) :
    Calls Tryd.prog 3 #[.agg #[.bool n1, .string T1, .string R1], .agg #[.bool n2, .string T2, .string R2]] w fun e w' => e = .returned (.bool true) ∧ Below w.heap.size w w' := by
  obtain ⟨n, x, y, m, z, t, c, hS, hI⟩ := numQuo_both n1 n2 T1 R1 T2 R2 h1 h2 h3 h4
  exact lawNumQuo_of n1 n2 T1 R1 T2 R2 w h1 h2 h3 h4 hP n x y m z t c hS hI
end Go.Proofs.YtbbffhpppacihaaDoor

namespace Go.Proofs.YtbbffhpppacihaaDoor
open Go.ChangeShapes Go.WideShapes Go.ChangeAt Go.RowKit Go.Siskin

theorem ownZ : ownKnob Tryd.prog.godebug = none := by kernel_rfl
theorem laidOutZ : laidOutB Tryd.prog = true := by kernel_rfl

/-- What is listed. -/
abbrev laidZ : List (String × DataW Unit) := [("loop.example/siskin/impl.powersOfTen", Rows.laid_loop_example_siskin_impl_powersOfTen)]
def tabZ : List Int := [1, 10, 100, 1000, 10000, 100000, 1000000, 10000000, 100000000]

theorem door_metZ (os : Os) (args : Array Value) : laidMetH Tryd.prog laidZ ((World.doorLaid Tryd.prog 400 os).forCall (fun _ _ => 0) ⟨#[], args, []⟩).memory :=
  laidMetH_of_parts3 (fuel := 8) (laidMet_of_run' 8 (by kernel_rfl) (by kernel_rfl)) (by kernel_rfl) (by kernel_rfl)

theorem tab_dataZ : (Rows.laid_loop_example_siskin_impl_powersOfTen : DataW Unit) = Lib.tabData .u64 tabZ := by kernel_rfl
theorem tab_ofZ {W : World} (h : laidMetH Tryd.prog laidZ W) : Pow9 W := by
  rw [MakeChecks.laidMetH_plain _ _ _ (by kernel_rfl)] at h
  rw [laidZ, tab_dataZ] at h
  have hT : Lib.TabIs Tryd.prog W "loop.example/siskin/impl.powersOfTen" .u64 tabZ :=
    Lib.tabIs_of_head (g := 1) (t := 134) (e := 80) (n := 9) (by kernel_rfl) (by kernel_rfl) (by kernel_rfl) (by kernel_rfl) (by kernel_rfl) (by kernel_rfl) h
  have hc : ∀ i, i < 9 → W.cell? ⟨1, i, none⟩ = some (.int .u64 ((10 ^ i : Nat) : Int)) := by
    intro i hi
    rw [hT.cell (g := 1) (by kernel_rfl) i (by simpa [tabZ] using hi)]
    have hcase : i = 0 ∨ i = 1 ∨ i = 2 ∨ i = 3 ∨ i = 4 ∨ i = 5 ∨ i = 6 ∨ i = 7 ∨ i = 8 := by omega
    rcases hcase with rfl | rfl | rfl | rfl | rfl | rfl | rfl | rfl | rfl <;> rfl
  refine ⟨?_, hc⟩
  have h0 := hc 0 (by omega)
  unfold World.cell? at h0
  cases e : W.heap[1]? with
  | none => rw [e] at h0; simp at h0
  | some o => exact (Array.getElem?_eq_some_iff.1 e).1

theorem var_belowZ {P : Program} {B g : Nat} {W W' : World} {n : String} {cs : Array Value} (h : Below B W W') (hg : P.globalNamed n = some g) (hgB : g < B) (hv : W.var? P n = some cs) : W'.var? P n = some cs := by
  unfold World.var? at hv ⊢
  simp only [hg, Option.bind_some] at hv ⊢
  rw [h.block g hgB]
  exact hv

/-- The listed variable reads behind the call as it did. -/
theorem vars_keptZ {H : Type} {enc : TypeId × Value → H} {W W' : World} {gs : List (DataW H)} {q : List MemPlace} (hV : DataW.TrodVars enc Tryd.prog W (fun _ => true) ["loop.example/siskin/impl.powersOfTen"] gs q) (hb : Below W.heap.size W W') (hP : Pow9 W) :
    ∃ pv, DataW.TrodVars enc Tryd.prog W' (fun b => decide (b < W.heap.size)) ["loop.example/siskin/impl.powersOfTen"] gs pv := by
  obtain ⟨g, t, cs, fuel, d, p, rfl, hg, ht, hvar, hd, rfl⟩ := trodVars_one hV
  have hg0 : Tryd.prog.globalNamed "loop.example/siskin/impl.powersOfTen" = some 1 := by kernel_rfl
  obtain rfl := Option.some.inj (hg0.symm.trans hg)
  have ht0 : (Tryd.prog.globals[1]?).map (·.type) = some 134 := by kernel_rfl
  obtain rfl := Option.some.inj (ht0.symm.trans ht)
  have lt0 : ∀ x ∈ p, x.block < W.heap.size := DataW.trod_lt fuel _ _ _ hd
  obtain ⟨f2, hd2⟩ := Below.trod laidOutZ (by kernel_rfl) (of_decide_eq_true (by kernel_rfl)) (v := .agg cs) (⟨fuel, by simpa [Value.cells] using hd⟩ : DataW.Trod enc Tryd.prog W 0 (fun _ => true) true 134 (.agg cs) d p) hb lt0
  exact ⟨_, trodVars_mk1 (enc := enc) (spare := fun b => decide (b < W.heap.size)) hg ht (var_belowZ hb hg hP.1 hvar) (by simpa [Value.cells] using hd2)⟩
end Go.Proofs.YtbbffhpppacihaaDoor

namespace Go.Proofs.YtbbffhpppacihaaDoor
open Go.ChangeShapes Go.WideShapes Go.ChangeAt Go.RowKit Go.Siskin

/-- What is listed. -/
abbrev laidE : List (String × DataW Unit) := [("errors.errorType", Rows.laid_errors_errorType), ("loop.example/siskin/impl.powersOfTen", Rows.laid_loop_example_siskin_impl_powersOfTen)]

theorem door_metE (os : Os) (args : Array Value) : laidMetH Tryd.prog laidE ((World.doorLaid Tryd.prog 400 os).forCall (fun _ _ => 0) ⟨#[], args, []⟩).memory :=
  laidMetH_of_parts3 (fuel := 8) (laidMet_of_run' 8 (by kernel_rfl) (by kernel_rfl)) (by kernel_rfl) (by kernel_rfl)

theorem errT_named : Tryd.prog.globalNamed "errors.errorType" = some 0 := by kernel_rfl
theorem errT_rt : (Tryd.prog.cutTypes.find? (·.1 == "internal/reflectlite.rtype")).map (·.2) = some 145 := by kernel_rfl
theorem errT_row : ((List.range 202).filter fun t => Tryd.prog.rowNamed t [101, 114, 114, 111, 114]) = [54] := by kernel_rfl
theorem errT_size : Tryd.prog.types.size = 202 := by kernel_rfl
theorem listed_data : (laidE.filter fun x => x.2.handleName?.isNone) = laidZ := by rfl
theorem listed_handle : (laidE.filter fun x => x.2.handleName?.isSome) = [("errors.errorType", Rows.laid_errors_errorType)] := by rfl

theorem powE_of {W : World} (h : laidMetH Tryd.prog laidE W) : PowE W := by
  obtain ⟨h1, h2⟩ := laidMetH_iff.1 h
  rw [listed_data] at h1
  rw [listed_handle] at h2
  refine ⟨tab_ofZ (by rw [MakeChecks.laidMetH_plain _ _ _ (by kernel_rfl)]; exact h1), ?_⟩
  obtain ⟨name, u, ty, e1, e2, e3, e4, e5⟩ := h2 _ (List.mem_singleton.2 rfl)
  have en : name = [101, 114, 114, 111, 114] := (Option.some.inj e1).symm
  subst en
  obtain rfl := Option.some.inj (errT_rt.symm.trans e2)
  have hm : ty ∈ (List.range 202).filter fun t => Tryd.prog.rowNamed t [101, 114, 114, 111, 114] := List.mem_filter.2 ⟨List.mem_range.2 (by rw [← errT_size]; exact e3), e4⟩
  rw [errT_row] at hm
  obtain rfl := List.mem_singleton.1 hm
  have hh : typeHandle Tryd.prog 54 = .pointer (some ⟨2, 54, none⟩) := by kernel_rfl
  rw [hh] at e5
  unfold ErrT
  simpa using World.var?_cell errT_named e5 0
end Go.Proofs.YtbbffhpppacihaaDoor
