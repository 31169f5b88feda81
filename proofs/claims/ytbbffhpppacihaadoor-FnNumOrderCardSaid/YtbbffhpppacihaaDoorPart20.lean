/-
  Stage 8, the program: a whole number as it is handed out. Condition: the table of powers stands.
  errors.As of a reason at a variable of that type: Go's own text walked; then codeOf. Condition: errors.errorType stands as start-up lays it. (After the guide's worked example of errors.As at a pointer.)
  Stage 8, the program: two whole numbers. Condition: the table of powers stands.
-/
import Derived.Test.YtbbffhpppacihaaDoorPart19
import Derived.Test.YtbbffhpppacihaaDoorUO
import Derived.Test.YtbbffhpppacihaaDoorPart1
import Derived.Test.YtbbffhpppacihaaDoorPart9
import Derived.WalkKit
import Derived.LaidEql
import Derived.Stop.Asserts
import Derived.RowKitTokens
namespace Go.Proofs.YtbbffhpppacihaaDoor
open Go.RowKit Go.Siskin

theorem sign_neg (n : Bool) (x : Nat) : decide (signI n x < 0) = (n && !decide (x = 0)) := by
  unfold signI
  by_cases h : x = 0
  · simp [h]
  · cases n <;> simp [h]

set_option maxRecDepth 20000 in
set_option maxHeartbeats 2000000 in
theorem intPlain_any (n : Bool) (x : Nat) (v : Value) (w : World) (h : NatA w v (grp x)) (hn : nG x ≤ 1000) (hP : Pow9 w) :
    Calls Tryd.prog 37 #[.agg #[.bool n, v]] w fun e w' => e = .returned (.agg #[.bool (n && !decide (x = 0)), .string (dec x), .string (dec 1)]) ∧ Below w.heap.size w w' := by
  obtain ⟨a, c, rfl⟩ := natA_formR h
  have HSg : Hid (∀ W, Below w.heap.size w W → Calls Tryd.prog 53 #[.agg #[.bool n, .slice a (grp x).length c]] W fun e w' => e = .returned (.int .i64 (signI n x)) ∧ Below W.heap.size W w') := fun W hb => intSign_any n x _ W (h.below hb (Nat.le_refl _))
  have HO1 := hid (fun w => naturalOf_any 1 w (by decide))
  have HPl : Hid (∀ W b vd, Below w.heap.size w W → NatA W vd (grp 1) → Calls Tryd.prog 57 #[.agg #[.bool b, .slice a (grp x).length c, vd]] W fun e w' => e = .returned (.agg #[.bool b, .string (dec x), .string (dec 1)]) ∧ Below W.heap.size W w') := fun W b vd hb hd => plain_any b x 1 _ _ W (h.below hb (Nat.le_refl _)) hd (by omega) (Nat.le_trans (nG_int (n := 1) (by decide)) (by decide)) (hP.below hb (Nat.le_refl _))
  have hs := sign_neg n x
  generalize (n && !decide (x = 0)) = b at *
  generalize signI n x = sg at *
  generalize (grp x).length = l at *
  clear h hP hn
  have HX : Hid (∀ W, Below (w.heap.size + 2) ((w.alloc (boxI n (.slice a l c))).alloc (.cells #[.bool false, .string ⟨#[]⟩, .string ⟨#[]⟩] 25)) W → Own W w.heap.size 50 #[.bool n, .slice a l c] ∧ Own W (w.heap.size + 1) 25 #[.bool false, .string ⟨#[]⟩, .string ⟨#[]⟩] ∧ Below w.heap.size w W) := fun W h => boxes2 w _ _ _ _ h
  have HB0 : Hid (Below (w.heap.size + 2) ((w.alloc (boxI n (.slice a l c))).alloc (.cells #[.bool false, .string ⟨#[]⟩, .string ⟨#[]⟩] 25)) ((w.alloc (boxI n (.slice a l c))).alloc (.cells #[.bool false, .string ⟨#[]⟩, .string ⟨#[]⟩] 25))) := Below.refl _ _
  have HSz : Hid (w.heap.size + 2 ≤ ((w.alloc (boxI n (.slice a l c))).alloc (.cells #[.bool false, .string ⟨#[]⟩, .string ⟨#[]⟩] 25)).heap.size) := by show _ ≤ _; simp
  have HSt : Hid (∀ W, Below (w.heap.size + 2) ((w.alloc (boxI n (.slice a l c))).alloc (.cells #[.bool false, .string ⟨#[]⟩, .string ⟨#[]⟩] 25)) W → ∀ x y z : Value, (((W.setCell ⟨w.heap.size + 1, 0, none⟩ x).setCell ⟨w.heap.size + 1, 1, none⟩ y).setCell ⟨w.heap.size + 1, 2, none⟩ z).cell? ⟨w.heap.size, 0, none⟩ = some (.bool n) ∧ (((W.setCell ⟨w.heap.size + 1, 0, none⟩ x).setCell ⟨w.heap.size + 1, 1, none⟩ y).setCell ⟨w.heap.size + 1, 2, none⟩ z).cell? ⟨w.heap.size, 1, none⟩ = some (.slice a l c)) := fun W h x y z => (own2V (own_set3 (HX.out W h).1 (by omega) x y z)).1
  go_enter Tryd.func37, Tryd.ntmps37
  go_wp2_with fail
  have HB := hid HB0.out.drew
  obtain ⟨⟨r0, r1, r2⟩, q0, q1, q2⟩ := own3V (HX.out _ HB.out).2.1
  go_region_held3 (fun W => W.cell? ⟨w.heap.size, 0, none⟩ = some (.bool n) ∧ W.cell? ⟨w.heap.size, 1, none⟩ = some (.slice a l c))
    (first
      | exact (own2V (HX.out _ HB.out).1).1
      | exact HSt.out _ HB.out _ _ _)
    (first
      | (go_at_call 53
         go_loud (
           refine (HSg.out _ (HX.out _ HB.out).2.2).mono ?_
           rintro e w5 ⟨rfl, hw5⟩
           have HB := hid (HB.out.trans (hw5.mono (Nat.le_trans HSz.out HB.out.size)))
           clear hw5 r0 r1 r2 q0 q1 q2
           obtain ⟨⟨r0, r1, r2⟩, q0, q1, q2⟩ := own3V (HX.out _ HB.out).2.1))
      | (go_at_call 56
         go_loud (
           refine (HO1.out _).mono ?_
           rintro e w5 ⟨vd, rfl, hvd, hw5⟩
           obtain ⟨da, dc, rfl⟩ := natA_formR hvd
           have HVD := hid hvd
           have HB := hid (HB.out.trans (hw5.mono (Nat.le_trans HSz.out HB.out.size)))
           clear hw5 r0 r1 r2 q0 q1 q2 hvd
           obtain ⟨⟨r0, r1, r2⟩, q0, q1, q2⟩ := own3V (HX.out _ HB.out).2.1))
      | (go_at_call 57
         go_loud (
           refine (HPl.out _ _ _ (HX.out _ HB.out).2.2 HVD.out).mono ?_
           rintro e w5 ⟨rfl, hw5⟩
           have HB := hid (HB.out.trans (hw5.mono (Nat.le_trans HSz.out HB.out.size)))
           clear hw5 r0 r1 r2 q0 q1 q2
           obtain ⟨⟨r0, r1, r2⟩, q0, q1, q2⟩ := own3V (HX.out _ HB.out).2.1)))
  all_goals
    go_wp2_with fail
    refine bodyPost_ret (v := .agg #[.bool b, .string (dec x), .string (dec 1)]) (by simp [results, Tryd.results37, go_sem, r0, r1, r2]) rfl ⟨rfl, ?_⟩
    exact below_set3 (HX.out _ HB.out).2.2 (by omega) _ _ _
end Go.Proofs.YtbbffhpppacihaaDoor

namespace Go.Proofs.YtbbffhpppacihaaDoor
open Go.RowKit Go.Siskin Go.Extern.Stop Go.Stop Go.Extern

/-- A reason as an error, and the variable that it is asked into. -/
abbrev whyV (c : Int) : Value := .iface 87 (.agg #[.int .i64 c])
abbrev hdlT (k : Nat) : Value := .pointer (some ⟨2, k, none⟩)
/-- The handle of the type error stands in its variable. -/
def ErrT (w : World) : Prop := w.cell? ⟨0, 0, none⟩ = some (.iface 145 (.agg #[hdlT 54]))

theorem asValueOf (t : Addr) (w : World) : (ReflectliteValue.unpack (.iface 90 (.pointer (some t)))).run Tryd.prog w
    = .ok (.agg #[hdlT 90, .pointer (some ⟨w.heap.size, 0, none⟩), .int .u64 150]) (w.alloc (.cells #[.pointer (some t)] 90)) := by kernel_rfl
theorem asType (a : Addr) (w : World) : (ReflectliteValue.methodAny (ReflectliteValue.valueError "reflectlite.Value.Type" 0) (fun t _ _ _ => ReflectliteType.toType t) #[.agg #[hdlT 90, .pointer (some a), .int .u64 150]]).run Tryd.prog w
    = .ok (.iface 145 (.agg #[hdlT 90])) w := by kernel_rfl
theorem asMKind (h : Value) (w : World) : (Go.method 302 145 (.agg #[h]) "Kind").run Tryd.prog w = .ok (134, h) w := by kernel_rfl
theorem asKindP (w : World) : ((ReflectliteType.abiMethod fun t => (fun a : Nat => Value.int IntKind.u8 (a : Int)) <$> Rtype.kind t) #[hdlT 90]).run Tryd.prog w = .ok (.int .u8 22) w := by kernel_rfl
theorem asKindE (w : World) : ((ReflectliteType.abiMethod fun t => (fun a : Nat => Value.int IntKind.u8 (a : Int)) <$> Rtype.kind t) #[hdlT 87]).run Tryd.prog w = .ok (.int .u8 25) w := by kernel_rfl
theorem asRlm (z : Sem Value) (f : TypeId → Addr → Nat → Nat → Sem Value) (v : Value) :
    ReflectliteValue.method z f #[v] = (do match ← ReflectliteValue.parts v with | none => z | some (t, a, fl) => f t a fl (fl % 32)) := rfl
theorem asPartsP (a : Addr) (w : World) : (ReflectliteValue.parts (.agg #[hdlT 90, .pointer (some a), .int .u64 150])).run Tryd.prog w = .ok (some (90, a, 150)) w := by kernel_rfl
theorem asIsNil (a p : Addr) (W : World) (ha : W.cell? a = some (.pointer (some p))) :
    (ReflectliteValue.method (ReflectliteValue.valueError "reflectlite.Value.IsNil" 0) ReflectliteValue.isNil #[.agg #[hdlT 90, .pointer (some a), .int .u64 150]]).run Tryd.prog W = .ok (.bool false) W := by
  rw [asRlm]
  simp only [Sem.run_bind, asPartsP, Result.andThen]
  simp [ReflectliteValue.isNil, loadVar, isAgg, underlying, Tryd.underlying90, ha, Result.andThen]
theorem asMElem (h : Value) (w : World) : (Go.method 302 145 (.agg #[h]) "Elem").run Tryd.prog w = .ok (158, .agg #[h]) w := by kernel_rfl
theorem asMImpl (h : Value) (w : World) : (Go.method 302 145 (.agg #[h]) "Implements").run Tryd.prog w = .ok (159, .agg #[h]) w := by kernel_rfl
theorem asMAssign (h : Value) (w : World) : (Go.method 302 145 (.agg #[h]) "AssignableTo").run Tryd.prog w = .ok (156, .agg #[h]) w := by kernel_rfl
theorem asElem (w : World) : (ReflectliteType.method ReflectliteType.elem #[.agg #[hdlT 90]]).run Tryd.prog w = .ok (.iface 145 (.agg #[hdlT 87])) w := by kernel_rfl
theorem asImpl (w : World) : (ReflectliteType.relation "Implements" ReflectliteType.implements_ #[.agg #[hdlT 87], .iface 145 (.agg #[hdlT 54])]).run Tryd.prog w = .ok (.bool true) w := by kernel_rfl
theorem asTypeOf (v : Value) (w : World) : (ReflectliteType.typeOf #[.iface 87 v]).run Tryd.prog w = .ok (.iface 145 (.agg #[hdlT 87])) w := by kernel_rfl
theorem asAssign (w : World) : (ReflectliteType.relation "AssignableTo" ReflectliteType.assignableTo #[.agg #[hdlT 87], .iface 145 (.agg #[hdlT 87])]).run Tryd.prog w = .ok (.bool true) w := by kernel_rfl
theorem asValueOfE (c : Int) (w : World) : (ReflectliteValue.unpack (whyV c)).run Tryd.prog w
    = .ok (.agg #[hdlT 87, .pointer (some ⟨w.heap.size, 0, none⟩), .int .u64 153]) (w.alloc (.cells #[.int .i64 c] 87)) := by kernel_rfl
theorem asElemOf (w : World) : (Rtype.elem? 90).run Tryd.prog w = .ok (some 87) w := by kernel_rfl
theorem asMk (p : Addr) (w : World) : (ReflectliteValue.mk 87 p ReflectliteValue.flagAddr).run Tryd.prog w = .ok (.agg #[hdlT 87, .pointer (some p), .int .u64 409]) w := by kernel_rfl
theorem asElemV (a p : Addr) (W : World) (ha : W.cell? a = some (.pointer (some p))) :
    (ReflectliteValue.method (ReflectliteValue.valueError "reflectlite.Value.Elem" 0) ReflectliteValue.elem #[.agg #[hdlT 90, .pointer (some a), .int .u64 150]]).run Tryd.prog W
      = .ok (.agg #[hdlT 87, .pointer (some p), .int .u64 409]) W := by
  rw [asRlm]
  simp only [Sem.run_bind, asPartsP, Result.andThen]
  simp [ReflectliteValue.elem, loadVar, isAgg, underlying, Tryd.underlying90, ha, Result.andThen, asElemOf, asMk]
theorem asRls (v x : Value) : ReflectliteValue.set #[v, x] = (do
    let (some (dst, a, fl), some (src, b, _)) := (← ReflectliteValue.parts v, ← ReflectliteValue.parts x)
      | unsupported (.noEntry "extern/(internal/reflectlite.Value).Set.zeroValue")
    if fl / ReflectliteValue.flagAddr % 2 == 0 then unsupported (.noEntry "extern/(internal/reflectlite.Value).Set.unaddressable")
    let val ← loadVar src b
    if ← Rtype.directlyAssignable dst src then storeVar dst a val
    else if ← Rtype.implements dst src then
      if (← Rtype.kind src) == 20 then
        match val with
        | .nilIface => unsupported (.noEntry "extern/reflectlite: a nil value of one interface type handed on as a value of another")
        | _ => storeVar dst a val
      else storeVar dst a (.iface src val)
    else panicString ("reflectlite.Set: value of type " ++ (← Rtype.spelt src) ++ " is not assignable to type " ++ (← Rtype.spelt dst))
    pure (.tuple #[])) := rfl
theorem asPartsA (a : Addr) (w : World) : (ReflectliteValue.parts (.agg #[hdlT 87, .pointer (some a), .int .u64 409])).run Tryd.prog w = .ok (some (87, a, 409)) w := by kernel_rfl
theorem asPartsE (a : Addr) (w : World) : (ReflectliteValue.parts (.agg #[hdlT 87, .pointer (some a), .int .u64 153])).run Tryd.prog w = .ok (some (87, a, 153)) w := by kernel_rfl
theorem asDirect (w : World) : (Rtype.directlyAssignable 87 87).run Tryd.prog w = .ok true w := by kernel_rfl
theorem asSize (w : World) : (sizeOf 87).run Tryd.prog w = .ok 1 w := by kernel_rfl
theorem asAddr (b : Addr) : b.add 0 = b := by cases b; simp [Addr.add]
theorem asLoad (b : Addr) (c : Int) (W : World) (hb : W.cell? b = some (.int .i64 c)) : (loadVar 87 b).run Tryd.prog W = .ok (.agg #[.int .i64 c]) W := by
  simp [loadVar, isAgg, underlying, Tryd.underlying87, Result.andThen, loadCells, loadCellsFrom, asAddr, hb]
theorem asSet (ta b : Addr) (c : Int) (old : Value) (W : World) (hb : W.cell? b = some (.int .i64 c)) (ht : W.cell? ta = some old) (hf : W.frozen? ta = false) :
    (ReflectliteValue.set #[.agg #[hdlT 87, .pointer (some ta), .int .u64 409], .agg #[hdlT 87, .pointer (some b), .int .u64 153]]).run Tryd.prog W
      = .ok (.tuple #[]) (W.setCell ta (.int .i64 c)) := by
  rw [asRls]
  simp only [Sem.run_bind, asPartsA, asPartsE, Result.andThen]
  simp [ReflectliteValue.flagAddr, asLoad b c W hb, Result.andThen, asDirect, storeVar, Value.cells, storeCells, asAddr]
  rw [run_store Tryd.prog W ta _ _ (by rfl)]
  simp [ht, hf]

set_option maxHeartbeats 4000000 in
theorem as_hit (c : Int) (t : Addr) (old : Value) (w : World) (hg : ErrT w) (ht0 : w.cell? t = some old) (hf0 : w.frozen? t = false) :
    Calls Tryd.prog 66 #[whyV c, .iface 90 (.pointer (some t))] w fun ev w' => ev = .returned (.bool true) ∧ w' = ((((w.alloc (.cells #[.pointer (some t)] 90)).alloc (.cells #[hdlT 90, .pointer (some ⟨w.heap.size, 0, none⟩), .int .u64 150] 118)).alloc (.cells #[hdlT 90, .pointer (some ⟨w.heap.size, 0, none⟩), .int .u64 150] 118)).alloc (.cells #[.int .i64 c] 87)).setCell t (.int .i64 c) := by
  unfold ErrT at hg
  have h6 := @run_callFunc_extern Tryd.prog 88 _ (fun args => ReflectliteValue.unpack (args.getD 0 (.tuple #[]))) Tryd.func88 (by kernel_rfl) (by kernel_rfl) (by kernel_rfl) (by kernel_rfl)
  have h7 := @run_callFunc_extern Tryd.prog 89 _ (ReflectliteValue.methodAny (ReflectliteValue.valueError "reflectlite.Value.Type" 0) (fun t _ _ _ => ReflectliteType.toType t)) Tryd.func89 (by kernel_rfl) (by kernel_rfl) (by kernel_rfl) (by kernel_rfl)
  have h8 := @run_callFunc_extern Tryd.prog 90 _ (ReflectliteValue.method (ReflectliteValue.valueError "reflectlite.Value.IsNil" 0) ReflectliteValue.isNil) Tryd.func90 (by kernel_rfl) (by kernel_rfl) (by kernel_rfl) (by kernel_rfl)
  have h27 := @run_callFunc_extern Tryd.prog 134 _ (ReflectliteType.abiMethod fun t => do pure (.int .u8 (← Rtype.kind t))) Tryd.func134 (by kernel_rfl) (by kernel_rfl) (by kernel_rfl) (by kernel_rfl)
  have h37 := @run_callFunc_extern Tryd.prog 158 _ (ReflectliteType.method ReflectliteType.elem) Tryd.func158 (by kernel_rfl) (by kernel_rfl) (by kernel_rfl) (by kernel_rfl)
  have h38 := @run_callFunc_extern Tryd.prog 159 _ (ReflectliteType.relation "Implements" ReflectliteType.implements_) Tryd.func159 (by kernel_rfl) (by kernel_rfl) (by kernel_rfl) (by kernel_rfl)
  have h10 := @run_callFunc_extern Tryd.prog 106 _ ReflectliteType.typeOf Tryd.func106 (by kernel_rfl) (by kernel_rfl) (by kernel_rfl) (by kernel_rfl)
  have h35 := @run_callFunc_extern Tryd.prog 156 _ (ReflectliteType.relation "AssignableTo" ReflectliteType.assignableTo) Tryd.func156 (by kernel_rfl) (by kernel_rfl) (by kernel_rfl) (by kernel_rfl)
  have h11 := @run_callFunc_extern Tryd.prog 107 _ (ReflectliteValue.method (ReflectliteValue.valueError "reflectlite.Value.Elem" 0) ReflectliteValue.elem) Tryd.func107 (by kernel_rfl) (by kernel_rfl) (by kernel_rfl) (by kernel_rfl)
  have h12 := @run_callFunc_extern Tryd.prog 108 _ ReflectliteValue.set Tryd.func108 (by kernel_rfl) (by kernel_rfl) (by kernel_rfl) (by kernel_rfl)
  have tO := asTypeOf
  have mA := asMAssign
  have a25 := asAssign
  have v25 := asValueOfE
  have f6 := asValueOf
  have f7 := asType
  have mK := asMKind
  have mE := asMElem
  have mI := asMImpl
  have k27 := asKindP
  have k25 := asKindE
  have e27 := asElem
  have i25 := asImpl
  have n8 := asIsNil ⟨w.heap.size, 0, none⟩ t ((w.alloc (.cells #[.pointer (some t)] 90)).alloc (.cells #[hdlT 90, .pointer (some ⟨w.heap.size, 0, none⟩), .int .u64 150] 118)) (by simp)
  have hlt : 0 < w.heap.size := by
    rcases Nat.lt_or_ge 0 w.heap.size with h | h
    · exact h
    · simp [World.cell?, Array.getElem?_eq_none h] at hg
  have hg2 : ((w.alloc (.cells #[.pointer (some t)] 90)).alloc (.cells #[hdlT 90, .pointer (some ⟨w.heap.size, 0, none⟩), .int .u64 150] 118)).cell? ⟨0, 0, none⟩ = some (.iface 145 (.agg #[hdlT 54])) := by
    rw [World.cell?_alloc_lt _ _ ⟨0, 0, none⟩ (by simp), World.cell?_alloc_lt _ _ ⟨0, 0, none⟩ hlt]; exact hg
  have htl : t.block < w.heap.size := by
    rcases Nat.lt_or_ge t.block w.heap.size with h | h
    · exact h
    · simp [World.cell?, Array.getElem?_eq_none h] at ht0
  have el := asElemV ⟨w.heap.size, 0, none⟩ t (((w.alloc (.cells #[.pointer (some t)] 90)).alloc (.cells #[hdlT 90, .pointer (some ⟨w.heap.size, 0, none⟩), .int .u64 150] 118)).alloc (.cells #[hdlT 90, .pointer (some ⟨w.heap.size, 0, none⟩), .int .u64 150] 118)) (by rw [World.cell?_alloc_lt _ _ ⟨w.heap.size, 0, none⟩ (by simp; omega)]; simp)
  have st := asSet t ⟨w.heap.size + 1 + 1 + 1, 0, none⟩ c old ((((w.alloc (.cells #[.pointer (some t)] 90)).alloc (.cells #[hdlT 90, .pointer (some ⟨w.heap.size, 0, none⟩), .int .u64 150] 118)).alloc (.cells #[hdlT 90, .pointer (some ⟨w.heap.size, 0, none⟩), .int .u64 150] 118)).alloc (.cells #[.int .i64 c] 87))
    (by rw [World.cell?_alloc_at _ _ _ _ (by simp)]; rfl)
    (by rw [World.cell?_alloc_lt _ _ t (by simp; omega), World.cell?_alloc_lt _ _ t (by simp; omega), World.cell?_alloc_lt _ _ t (by simp; omega), World.cell?_alloc_lt _ _ t htl]; exact ht0)
    (by rw [World.frozen?_alloc_old _ _ t (by simp; omega), World.frozen?_alloc_old _ _ t (by simp; omega), World.frozen?_alloc_old _ _ t (by simp; omega), World.frozen?_alloc_old _ _ t (Nat.ne_of_lt htl)]; exact hf0)
  go_enter Tryd.func66, Tryd.ntmps66
  go_wp2
  refine wp_loop_rounds 1 ?_
  rw [rounds_succ]
  go_wp2
  go_ret
  exact ⟨rfl, rfl⟩

/-- The code of a reason. -/
theorem codeOf_any (c : Int) (w : World) (hg : ErrT w) :
    Calls Tryd.prog 36 #[whyV c] w fun e w' => e = .returned (.int .i64 c) ∧ Below w.heap.size w w' := by
  have hlt : 0 < w.heap.size := by
    rcases Nat.lt_or_ge 0 w.heap.size with h | h
    · exact h
    · unfold ErrT at hg; simp [World.cell?, Array.getElem?_eq_none h] at hg
  have hgA : ErrT (w.alloc (.cells #[.int .i64 0] 87)) := by
    unfold ErrT
    rw [World.cell?_alloc_lt _ _ ⟨0, 0, none⟩ hlt]; exact hg
  have HAs := hid (as_hit c ⟨w.heap.size, 0, none⟩ (.int .i64 0) _ hgA (by simp) (by simp))
  clear hg hgA
  go_enter Tryd.func36, Tryd.ntmps36
  go_wp2_with fail
  refine HAs.out.mono ?_
  rintro e w' ⟨rfl, rfl⟩
  go_wp2_with fail
  go_ret
  refine ⟨rfl, ?_⟩
  have hb := (((((Below.refl w.heap.size w).alloc (Nat.le_refl _) (.cells #[.int .i64 c] 87)).alloc (by simp) (.cells #[.pointer (some ⟨w.heap.size, 0, none⟩)] 90)).alloc (by simp; omega) (.cells #[hdlT 90, .pointer (some ⟨w.heap.size + 1, 0, none⟩), .int .u64 150] 118)).alloc (by simp; omega) (.cells #[hdlT 90, .pointer (some ⟨w.heap.size + 1, 0, none⟩), .int .u64 150] 118)).alloc (by simp; omega) (.cells #[.int .i64 c] 87)
  exact hb
end Go.Proofs.YtbbffhpppacihaaDoor

namespace Go.Proofs.YtbbffhpppacihaaDoor
open Go.RowKit Go.Siskin

/-- What ratiosOf tells. -/
def RatPost (p1 p2 : Bool) (U1 D1 U2 D2 : Nat) (b : Bool) (w : World) (e : Ending) (w' : World) : Prop :=
  ∃ a1 c1 e1 d1 a2 c2 e2 d2, e = .returned (.tuple #[.agg #[.bool p1, .slice a1 (grp U1).length c1, .bool false, .slice e1 (grp D1).length d1], .agg #[.bool p2, .slice a2 (grp U2).length c2, .bool false, .slice e2 (grp D2).length d2], .bool b]) ∧
      NatA w' (.slice a1 (grp U1).length c1) (grp U1) ∧ NatA w' (.slice e1 (grp D1).length d1) (grp D1) ∧ NatA w' (.slice a2 (grp U2).length c2) (grp U2) ∧ NatA w' (.slice e2 (grp D2).length d2) (grp D2) ∧ Below w.heap.size w w'
abbrev int0 : Value := .agg #[.bool false, .slice none 0 0]
abbrev boxI0 : Obj := .cells #[.bool false, .slice none 0 0] 50

set_option maxRecDepth 20000 in
set_option maxHeartbeats 4000000 in
theorem integersOf_no (n1 n2 : Bool) (T1 R1 T2 R2 : ByteArray) (p1 p2 : Bool) (U1 D1 U2 D2 : Nat) (w : World) (hP : Pow9 w) 
    (hR : ∀ w, Pow9 w → Calls Tryd.prog 44 #[.agg #[.bool n1, .string T1, .string R1], .agg #[.bool n2, .string T2, .string R2]] w (RatPost p1 p2 U1 D1 U2 D2 false w)) :
    Calls Tryd.prog 60 #[.agg #[.bool n1, .string T1, .string R1], .agg #[.bool n2, .string T2, .string R2]] w fun e w' => e = .returned (.tuple #[int0, int0, whyV 1]) ∧ Below w.heap.size w w' := by
  have HR := hid hR
  have HPw := hid hP
  clear hR hP
  have HX : Hid (∀ W, Below (w.heap.size + 4) ((((w.alloc (boxN n1 T1 R1)).alloc (boxN n2 T2 R2)).alloc boxI0).alloc boxI0) W → (Own W w.heap.size 25 #[.bool n1, .string T1, .string R1] ∧ Own W (w.heap.size + 1) 25 #[.bool n2, .string T2, .string R2]) ∧ Own W (w.heap.size + 1 + 1) 50 #[.bool false, .slice none 0 0] ∧ Own W (w.heap.size + 1 + 1 + 1) 50 #[.bool false, .slice none 0 0] ∧ Below w.heap.size w W) := fun W h => boxes4 w _ _ _ _ _ _ _ _ h
  have HB0 : Hid (Below (w.heap.size + 4) ((((w.alloc (boxN n1 T1 R1)).alloc (boxN n2 T2 R2)).alloc boxI0).alloc boxI0) ((((w.alloc (boxN n1 T1 R1)).alloc (boxN n2 T2 R2)).alloc boxI0).alloc boxI0)) := Below.refl _ _
  have HSz : Hid (w.heap.size + 4 ≤ ((((w.alloc (boxN n1 T1 R1)).alloc (boxN n2 T2 R2)).alloc boxI0).alloc boxI0).heap.size) := by show _ ≤ _; simp
  have HP0 := hid (HPw.out.below (HX.out _ HB0.out).2.2.2 (Nat.le_refl _))
  go_enter Tryd.func60, Tryd.ntmps60
  go_wp2_with fail
  refine (HR.out _ HP0.out).mono ?_
  rintro e w1 ⟨a1, c1, e1, d1, a2, c2, e2, d2, rfl, hu1, hd1, hu2, hd2, hw1⟩
  have HU1 := hid hu1
  have HD1 := hid hd1
  have HU2 := hid hu2
  have HD2 := hid hd2
  have HB1 := hid (HB0.out.trans (hw1.mono (by first | exact HSz.out | simp)))
  have HSz1 := hid (Nat.le_trans HSz.out HB1.out.size)
  have HY : Hid (∀ W, Below (w1.heap.size + 2) ((w1.alloc (boxR p1 (.slice a1 (grp U1).length c1) false (.slice e1 (grp D1).length d1))).alloc (boxR p2 (.slice a2 (grp U2).length c2) false (.slice e2 (grp D2).length d2))) W → Own W w1.heap.size 61 #[.bool p1, .slice a1 (grp U1).length c1, .bool false, .slice e1 (grp D1).length d1] ∧ Own W (w1.heap.size + 1) 61 #[.bool p2, .slice a2 (grp U2).length c2, .bool false, .slice e2 (grp D2).length d2] ∧ Below w1.heap.size w1 W) := fun W h => boxes2 w1 _ _ _ _ h
  have HC0 : Hid (Below (w1.heap.size + 2) ((w1.alloc (boxR p1 (.slice a1 (grp U1).length c1) false (.slice e1 (grp D1).length d1))).alloc (boxR p2 (.slice a2 (grp U2).length c2) false (.slice e2 (grp D2).length d2))) ((w1.alloc (boxR p1 (.slice a1 (grp U1).length c1) false (.slice e1 (grp D1).length d1))).alloc (boxR p2 (.slice a2 (grp U2).length c2) false (.slice e2 (grp D2).length d2)))) := Below.refl _ _
  have HD := hid (HX.out _ (HB1.out.trans ((HY.out _ HC0.out).2.2.mono HSz1.out)))
  obtain ⟨⟨r0, r1⟩, q0, q1⟩ := own2V HD.out.2.1
  obtain ⟨⟨s0, s1⟩, p0', p1'⟩ := own2V HD.out.2.2.1
  obtain ⟨⟨x0, x1, x2, x3⟩, -⟩ := own4V (HY.out _ HC0.out).1
  obtain ⟨⟨y0, y1, y2, y3⟩, -⟩ := own4V (HY.out _ HC0.out).2.1
  clear hu1 hd1 hu2 hd2 hw1
  go_wp2_with fail
  refine bodyPost_ret (v := .tuple #[int0, int0, whyV 1]) (by simp [results, Tryd.results60, go_sem, r0, r1, s0, s1]) rfl ⟨rfl, ?_⟩
  exact below_set2 (below_set2 HD.out.2.2.2 (by omega) _ _) (by omega) _ _

set_option maxRecDepth 20000 in
set_option maxHeartbeats 4000000 in
theorem integersOf_part (n1 n2 : Bool) (T1 R1 T2 R2 : ByteArray) (p1 p2 : Bool) (U1 D1 U2 D2 : Nat) (w : World) (hP : Pow9 w) (hd : ¬ (D1 = 1 ∧ D2 = 1))
    (hR : ∀ w, Pow9 w → Calls Tryd.prog 44 #[.agg #[.bool n1, .string T1, .string R1], .agg #[.bool n2, .string T2, .string R2]] w (RatPost p1 p2 U1 D1 U2 D2 true w)) :
    Calls Tryd.prog 60 #[.agg #[.bool n1, .string T1, .string R1], .agg #[.bool n2, .string T2, .string R2]] w fun e w' => e = .returned (.tuple #[int0, int0, whyV 4]) ∧ Below w.heap.size w w' := by
  have HI1 : Hid (∀ v W, NatA W v (grp D1) → Calls Tryd.prog 82 #[v] W fun e w' => e = .returned (.bool (D1 == 1)) ∧ w' = W) := fun v W h => isOne_any D1 v W h
  have HI2 : Hid (∀ v W, NatA W v (grp D2) → Calls Tryd.prog 82 #[v] W fun e w' => e = .returned (.bool (D2 == 1)) ∧ w' = W) := fun v W h => isOne_any D2 v W h
  have hcase : (D1 == 1) = false ∨ ((D1 == 1) = true ∧ (D2 == 1) = false) := by
    by_cases h1 : D1 = 1
    · exact Or.inr ⟨by simp [h1], by simp; exact fun h => hd ⟨h1, h⟩⟩
    · exact Or.inl (by simp [h1])
  generalize (D1 == 1) = z1 at *
  generalize (D2 == 1) = z2 at *
  clear hd
  have HR := hid hR
  have HPw := hid hP
  clear hR hP
  have HX : Hid (∀ W, Below (w.heap.size + 4) ((((w.alloc (boxN n1 T1 R1)).alloc (boxN n2 T2 R2)).alloc boxI0).alloc boxI0) W → (Own W w.heap.size 25 #[.bool n1, .string T1, .string R1] ∧ Own W (w.heap.size + 1) 25 #[.bool n2, .string T2, .string R2]) ∧ Own W (w.heap.size + 1 + 1) 50 #[.bool false, .slice none 0 0] ∧ Own W (w.heap.size + 1 + 1 + 1) 50 #[.bool false, .slice none 0 0] ∧ Below w.heap.size w W) := fun W h => boxes4 w _ _ _ _ _ _ _ _ h
  have HB0 : Hid (Below (w.heap.size + 4) ((((w.alloc (boxN n1 T1 R1)).alloc (boxN n2 T2 R2)).alloc boxI0).alloc boxI0) ((((w.alloc (boxN n1 T1 R1)).alloc (boxN n2 T2 R2)).alloc boxI0).alloc boxI0)) := Below.refl _ _
  have HSz : Hid (w.heap.size + 4 ≤ ((((w.alloc (boxN n1 T1 R1)).alloc (boxN n2 T2 R2)).alloc boxI0).alloc boxI0).heap.size) := by show _ ≤ _; simp
  have HP0 := hid (HPw.out.below (HX.out _ HB0.out).2.2.2 (Nat.le_refl _))
  go_enter Tryd.func60, Tryd.ntmps60
  go_wp2_with fail
  refine (HR.out _ HP0.out).mono ?_
  rintro e w1 ⟨a1, c1, e1, d1, a2, c2, e2, d2, rfl, hu1, hd1, hu2, hd2, hw1⟩
  have HU1 := hid hu1
  have HD1 := hid hd1
  have HU2 := hid hu2
  have HD2 := hid hd2
  have HB1 := hid (HB0.out.trans (hw1.mono (by first | exact HSz.out | simp)))
  have HSz1 := hid (Nat.le_trans HSz.out HB1.out.size)
  have HY : Hid (∀ W, Below (w1.heap.size + 2) ((w1.alloc (boxR p1 (.slice a1 (grp U1).length c1) false (.slice e1 (grp D1).length d1))).alloc (boxR p2 (.slice a2 (grp U2).length c2) false (.slice e2 (grp D2).length d2))) W → Own W w1.heap.size 61 #[.bool p1, .slice a1 (grp U1).length c1, .bool false, .slice e1 (grp D1).length d1] ∧ Own W (w1.heap.size + 1) 61 #[.bool p2, .slice a2 (grp U2).length c2, .bool false, .slice e2 (grp D2).length d2] ∧ Below w1.heap.size w1 W) := fun W h => boxes2 w1 _ _ _ _ h
  have HC0 : Hid (Below (w1.heap.size + 2) ((w1.alloc (boxR p1 (.slice a1 (grp U1).length c1) false (.slice e1 (grp D1).length d1))).alloc (boxR p2 (.slice a2 (grp U2).length c2) false (.slice e2 (grp D2).length d2))) ((w1.alloc (boxR p1 (.slice a1 (grp U1).length c1) false (.slice e1 (grp D1).length d1))).alloc (boxR p2 (.slice a2 (grp U2).length c2) false (.slice e2 (grp D2).length d2)))) := Below.refl _ _
  have HD := hid (HX.out _ (HB1.out.trans ((HY.out _ HC0.out).2.2.mono HSz1.out)))
  obtain ⟨⟨r0, r1⟩, q0, q1⟩ := own2V HD.out.2.1
  obtain ⟨⟨s0, s1⟩, p0', p1'⟩ := own2V HD.out.2.2.1
  obtain ⟨⟨x0, x1, x2, x3⟩, -⟩ := own4V (HY.out _ HC0.out).1
  obtain ⟨⟨y0, y1, y2, y3⟩, -⟩ := own4V (HY.out _ HC0.out).2.1
  clear hu1 hd1 hu2 hd2 hw1
  rcases hcase with rfl | ⟨rfl, rfl⟩
  · go_wp2_with fail
    refine (HI1.out _ _ (HD1.out.below (HY.out _ HC0.out).2.2 (Nat.le_refl _))).mono ?_
    rintro e w' ⟨rfl, hw⟩
    obtain rfl := hw.symm
    go_wp2_with fail
    refine bodyPost_ret (v := .tuple #[int0, int0, whyV 4]) (by simp [results, Tryd.results60, go_sem, r0, r1, s0, s1]) rfl ⟨rfl, ?_⟩
    exact below_set2 (below_set2 HD.out.2.2.2 (by omega) _ _) (by omega) _ _
  · go_wp2_with fail
    refine (HI1.out _ _ (HD1.out.below (HY.out _ HC0.out).2.2 (Nat.le_refl _))).mono ?_
    rintro e w' ⟨rfl, hw⟩
    obtain rfl := hw.symm
    go_wp2_with fail
    refine (HI2.out _ _ (HD2.out.below (HY.out _ HC0.out).2.2 (Nat.le_refl _))).mono ?_
    rintro e w' ⟨rfl, hw⟩
    obtain rfl := hw.symm
    go_wp2_with fail
    refine bodyPost_ret (v := .tuple #[int0, int0, whyV 4]) (by simp [results, Tryd.results60, go_sem, r0, r1, s0, s1]) rfl ⟨rfl, ?_⟩
    exact below_set2 (below_set2 HD.out.2.2.2 (by omega) _ _) (by omega) _ _

set_option maxRecDepth 20000 in
set_option maxHeartbeats 4000000 in
theorem integersOf_ok (n1 n2 : Bool) (T1 R1 T2 R2 : ByteArray) (p1 p2 : Bool) (U1 D1 U2 D2 : Nat) (w : World) (hP : Pow9 w) (hd : D1 = 1 ∧ D2 = 1)
    (hR : ∀ w, Pow9 w → Calls Tryd.prog 44 #[.agg #[.bool n1, .string T1, .string R1], .agg #[.bool n2, .string T2, .string R2]] w (RatPost p1 p2 U1 D1 U2 D2 true w)) :
    Calls Tryd.prog 60 #[.agg #[.bool n1, .string T1, .string R1], .agg #[.bool n2, .string T2, .string R2]] w fun e w' => ∃ a1 c1 a2 c2, e = .returned (.tuple #[.agg #[.bool p1, .slice a1 (grp U1).length c1], .agg #[.bool p2, .slice a2 (grp U2).length c2], .nilIface]) ∧ NatA w' (.slice a1 (grp U1).length c1) (grp U1) ∧ NatA w' (.slice a2 (grp U2).length c2) (grp U2) ∧ Below w.heap.size w w' := by
  have HI1 : Hid (∀ v W, NatA W v (grp D1) → Calls Tryd.prog 82 #[v] W fun e w' => e = .returned (.bool true) ∧ w' = W) := fun v W h => by
    have := isOne_any D1 v W h
    rw [hd.1] at this
    exact this
  have HI2 : Hid (∀ v W, NatA W v (grp D2) → Calls Tryd.prog 82 #[v] W fun e w' => e = .returned (.bool true) ∧ w' = W) := fun v W h => by
    have := isOne_any D2 v W h
    rw [hd.2] at this
    exact this
  clear hd
  have HR := hid hR
  have HPw := hid hP
  clear hR hP
  have HX : Hid (∀ W, Below (w.heap.size + 4) ((((w.alloc (boxN n1 T1 R1)).alloc (boxN n2 T2 R2)).alloc boxI0).alloc boxI0) W → (Own W w.heap.size 25 #[.bool n1, .string T1, .string R1] ∧ Own W (w.heap.size + 1) 25 #[.bool n2, .string T2, .string R2]) ∧ Own W (w.heap.size + 1 + 1) 50 #[.bool false, .slice none 0 0] ∧ Own W (w.heap.size + 1 + 1 + 1) 50 #[.bool false, .slice none 0 0] ∧ Below w.heap.size w W) := fun W h => boxes4 w _ _ _ _ _ _ _ _ h
  have HB0 : Hid (Below (w.heap.size + 4) ((((w.alloc (boxN n1 T1 R1)).alloc (boxN n2 T2 R2)).alloc boxI0).alloc boxI0) ((((w.alloc (boxN n1 T1 R1)).alloc (boxN n2 T2 R2)).alloc boxI0).alloc boxI0)) := Below.refl _ _
  have HSz : Hid (w.heap.size + 4 ≤ ((((w.alloc (boxN n1 T1 R1)).alloc (boxN n2 T2 R2)).alloc boxI0).alloc boxI0).heap.size) := by show _ ≤ _; simp
  have HP0 := hid (HPw.out.below (HX.out _ HB0.out).2.2.2 (Nat.le_refl _))
  go_enter Tryd.func60, Tryd.ntmps60
  go_wp2_with fail
  refine (HR.out _ HP0.out).mono ?_
  rintro e w1 ⟨a1, c1, e1, d1, a2, c2, e2, d2, rfl, hu1, hd1, hu2, hd2, hw1⟩
  have HU1 := hid hu1
  have HD1 := hid hd1
  have HU2 := hid hu2
  have HD2 := hid hd2
  have HB1 := hid (HB0.out.trans (hw1.mono (by first | exact HSz.out | simp)))
  have HSz1 := hid (Nat.le_trans HSz.out HB1.out.size)
  have HY : Hid (∀ W, Below (w1.heap.size + 2) ((w1.alloc (boxR p1 (.slice a1 (grp U1).length c1) false (.slice e1 (grp D1).length d1))).alloc (boxR p2 (.slice a2 (grp U2).length c2) false (.slice e2 (grp D2).length d2))) W → Own W w1.heap.size 61 #[.bool p1, .slice a1 (grp U1).length c1, .bool false, .slice e1 (grp D1).length d1] ∧ Own W (w1.heap.size + 1) 61 #[.bool p2, .slice a2 (grp U2).length c2, .bool false, .slice e2 (grp D2).length d2] ∧ Below w1.heap.size w1 W) := fun W h => boxes2 w1 _ _ _ _ h
  have HC0 : Hid (Below (w1.heap.size + 2) ((w1.alloc (boxR p1 (.slice a1 (grp U1).length c1) false (.slice e1 (grp D1).length d1))).alloc (boxR p2 (.slice a2 (grp U2).length c2) false (.slice e2 (grp D2).length d2))) ((w1.alloc (boxR p1 (.slice a1 (grp U1).length c1) false (.slice e1 (grp D1).length d1))).alloc (boxR p2 (.slice a2 (grp U2).length c2) false (.slice e2 (grp D2).length d2)))) := Below.refl _ _
  have HD := hid (HX.out _ (HB1.out.trans ((HY.out _ HC0.out).2.2.mono HSz1.out)))
  obtain ⟨⟨r0, r1⟩, q0, q1⟩ := own2V HD.out.2.1
  obtain ⟨⟨s0, s1⟩, p0', p1'⟩ := own2V HD.out.2.2.1
  obtain ⟨⟨x0, x1, x2, x3⟩, -⟩ := own4V (HY.out _ HC0.out).1
  obtain ⟨⟨y0, y1, y2, y3⟩, -⟩ := own4V (HY.out _ HC0.out).2.1
  clear hu1 hd1 hu2 hd2 hw1
  go_wp2_with fail
  obtain ⟨W2, HW2⟩ : ∃ W, Hid (((w1.alloc (boxR p1 (.slice a1 (grp U1).length c1) false (.slice e1 (grp D1).length d1))).alloc (boxR p2 (.slice a2 (grp U2).length c2) false (.slice e2 (grp D2).length d2))) = W) := ⟨_, rfl⟩
  have HZ : Hid (∀ W, Below (w1.heap.size + 2) W2 W → Own W w1.heap.size 61 #[.bool p1, .slice a1 (grp U1).length c1, .bool false, .slice e1 (grp D1).length d1] ∧ Own W (w1.heap.size + 1) 61 #[.bool p2, .slice a2 (grp U2).length c2, .bool false, .slice e2 (grp D2).length d2] ∧ Below w1.heap.size w1 W) := by rw [← HW2.out]; exact HY
  have HZ0 : Hid (Below (w1.heap.size + 2) W2 W2) := Below.refl _ _
  rw [HW2.out]
  clear r0 r1 q0 q1 s0 s1 p0' p1' x0 x1 x2 x3 y0 y1 y2 y3
  obtain ⟨⟨x0, x1, x2, x3⟩, -⟩ := own4V (HZ.out _ HZ0.out).1
  obtain ⟨⟨y0, y1, y2, y3⟩, -⟩ := own4V (HZ.out _ HZ0.out).2.1
  refine (HI1.out _ _ (HD1.out.below (HZ.out _ HZ0.out).2.2 (Nat.le_refl _))).mono ?_
  rintro e w' ⟨rfl, hw⟩
  obtain rfl := hw.symm
  go_wp2_with fail
  refine (HI2.out _ _ (HD2.out.below (HZ.out _ HZ0.out).2.2 (Nat.le_refl _))).mono ?_
  rintro e w' ⟨rfl, hw⟩
  obtain rfl := hw.symm
  clear x0 x1 x2 x3 y0 y1 y2 y3
  go_wp2_with fail
  have HB := hid HZ0.out.drew
  have HDd := hid (HX.out _ (HB1.out.trans ((HZ.out _ HB.out).2.2.mono HSz1.out)))
  have HO := hid (HZ.out _ HB.out)
  have hlt := HSz1.out
  obtain ⟨W3, HW3⟩ : ∃ W, Hid (W2.drew = W) := ⟨_, rfl⟩
  have Ld' := hid (HZ.out _ HB.out)
  rw [HW3.out] at HDd HO HB
  obtain ⟨⟨r0, r1⟩, q0, q1⟩ := own2V HDd.out.2.1
  obtain ⟨⟨s0, s1⟩, z0, z1⟩ := own2V HDd.out.2.2.1
  have HL : Hid (∀ W, (Own W w1.heap.size 61 #[.bool p1, .slice a1 (grp U1).length c1, .bool false, .slice e1 (grp D1).length d1] ∧ Own W (w1.heap.size + 1) 61 #[.bool p2, .slice a2 (grp U2).length c2, .bool false, .slice e2 (grp D2).length d2]) → (W.cell? ⟨w1.heap.size, 0, none⟩ = some (.bool p1) ∧ W.cell? ⟨w1.heap.size, 1, none⟩ = some (.slice a1 (grp U1).length c1)) ∧ W.cell? ⟨w1.heap.size + 1, 0, none⟩ = some (.bool p2) ∧ W.cell? ⟨w1.heap.size + 1, 1, none⟩ = some (.slice a2 (grp U2).length c2)) := fun W h => ⟨⟨(own4V h.1).1.1, (own4V h.1).1.2.1⟩, (own4V h.2).1.1, (own4V h.2).1.2.1⟩
  have L0 := hid (HL.out _ ⟨HO.out.1, HO.out.2.1⟩)
  have Ld := hid (HL.out _ ⟨Ld'.out.1, Ld'.out.2.1⟩)
  have L3 := hid (HL.out _ ⟨own_set2 HO.out.1 (r := w.heap.size + 1 + 1) (by omega) (.bool p1) (.slice a1 (grp U1).length c1), own_set2 HO.out.2.1 (r := w.heap.size + 1 + 1) (by omega) (.bool p1) (.slice a1 (grp U1).length c1)⟩)
  have L4 := hid (HL.out _ ⟨own_set2 (own_set2 HO.out.1 (r := w.heap.size + 1 + 1) (by omega) (.bool p1) (.slice a1 (grp U1).length c1)) (r := w.heap.size + 1 + 1 + 1) (by omega) (.bool p2) (.slice a2 (grp U2).length c2), own_set2 (own_set2 HO.out.2.1 (r := w.heap.size + 1 + 1) (by omega) (.bool p1) (.slice a1 (grp U1).length c1)) (r := w.heap.size + 1 + 1 + 1) (by omega) (.bool p2) (.slice a2 (grp U2).length c2)⟩)
  refine wp_region_held_drew (S := fun W => (W.cell? ⟨w1.heap.size, 0, none⟩ = some (.bool p1) ∧ W.cell? ⟨w1.heap.size, 1, none⟩ = some (.slice a1 (grp U1).length c1)) ∧ W.cell? ⟨w1.heap.size + 1, 0, none⟩ = some (.bool p2) ∧ W.cell? ⟨w1.heap.size + 1, 1, none⟩ = some (.slice a2 (grp U2).length c2)) rfl Ld.out (fun _ => ?_)
  rw [HW3.out]
  refine wpAnyH_take (i := 0) (oi := ({ dst := some 39, op := _, type := _, pos := _, after := _, guard := _ } : Oper)) (v := (.pointer (some ⟨w1.heap.size, 0, none⟩))) rfl (by kernel_rfl) (by kernel_rfl) (by kernel_rfl) (fun _ _ _ h => h) (Or.inl ⟨by rfl, ?_⟩) L0.out ?_
  · intro w hSw; (try dsimp only at hSw); go_simp
  try simp only [Act.put, List.setIfInBounds_toArray, List.set_cons_zero, List.set_cons_succ]
  refine wpAnyH_take (i := 1) (oi := ({ dst := some 40, op := _, type := _, pos := _, after := _, guard := _ } : Oper)) (v := (.agg #[.bool p1, .slice a1 (grp U1).length c1])) rfl (by kernel_rfl) (by kernel_rfl) (by kernel_rfl) (fun _ _ _ h => h) (Or.inl ⟨by rfl, ?_⟩) L0.out ?_
  · intro w hSw; (try dsimp only at hSw); go_simp
  try simp only [Act.put, List.setIfInBounds_toArray, List.set_cons_zero, List.set_cons_succ]
  refine wpAnyH_take (i := 2) (oi := ({ dst := some 41, op := _, type := _, pos := _, after := _, guard := _ } : Oper)) (v := (.pointer (some ⟨w1.heap.size + 1, 0, none⟩))) rfl (by kernel_rfl) (by kernel_rfl) (by kernel_rfl) (fun _ _ _ h => h) (Or.inl ⟨by rfl, ?_⟩) L0.out ?_
  · intro w hSw; (try dsimp only at hSw); go_simp
  try simp only [Act.put, List.setIfInBounds_toArray, List.set_cons_zero, List.set_cons_succ]
  refine wpAnyH_take (i := 3) (oi := ({ dst := some 42, op := _, type := _, pos := _, after := _, guard := _ } : Oper)) (v := (.agg #[.bool p2, .slice a2 (grp U2).length c2])) rfl (by kernel_rfl) (by kernel_rfl) (by kernel_rfl) (fun _ _ _ h => h) (Or.inl ⟨by rfl, ?_⟩) L0.out ?_
  · intro w hSw; (try dsimp only at hSw); go_simp
  try simp only [Act.put, List.setIfInBounds_toArray, List.set_cons_zero, List.set_cons_succ]
  refine wpAnyH_ready (rs := [4]) (by kernel_rfl) (by simp) ?_
  refine AllReadyH.cons (o := ({ dst := none, op := _, type := _, pos := _, after := _, guard := _ } : Oper)) rfl (fun K hK => ?_) AllReadyH.nil
  go_simp
  refine hK.out _ _ L3.out (fun _ => ?_)
  clear hK K
  try simp only [Act.put, List.setIfInBounds_toArray, List.set_cons_zero, List.set_cons_succ]
  refine wpAnyH_ready (rs := [5]) (by kernel_rfl) (by simp) ?_
  refine AllReadyH.cons (o := ({ dst := none, op := _, type := _, pos := _, after := _, guard := _ } : Oper)) rfl (fun K hK => ?_) AllReadyH.nil
  go_simp
  refine hK.out _ _ L4.out (fun _ => ?_)
  clear hK K
  try simp only [Act.put, List.setIfInBounds_toArray, List.set_cons_zero, List.set_cons_succ]
  refine wpAnyH_take (i := 6) (oi := ({ dst := some 6, op := _, type := _, pos := _, after := _, guard := _ } : Oper)) (v := Value.nilIface) rfl (by kernel_rfl) (by kernel_rfl) (by kernel_rfl) (fun _ _ _ h => h) (Or.inl ⟨by rfl, ?_⟩) L4.out ?_
  · intro w hSw; (try dsimp only at hSw); go_simp
  try simp only [Act.put, List.setIfInBounds_toArray, List.set_cons_zero, List.set_cons_succ]
  refine wpAnyH_done (by kernel_rfl) ?_ _
  go_wp2_with fail
  refine bodyPost_ret (v := .tuple #[.agg #[.bool p1, .slice a1 (grp U1).length c1], .agg #[.bool p2, .slice a2 (grp U2).length c2], .nilIface]) (by simp [results, Tryd.results60, go_sem, r0, r1, s0, s1]) rfl ⟨a1, c1, a2, c2, rfl, ?_, ?_, ?_⟩
  · exact natA_set2 (natA_set2 (HU1.out.below (HZ.out _ HB.out).2.2 (Nat.le_refl _)) HDd.out.2.1 _ _) (own_set2 HDd.out.2.2.1 (by omega) _ _) _ _
  · exact natA_set2 (natA_set2 (HU2.out.below (HZ.out _ HB.out).2.2 (Nat.le_refl _)) HDd.out.2.1 _ _) (own_set2 HDd.out.2.2.1 (by omega) _ _) _ _
  · exact below_set2 (below_set2 HDd.out.2.2.2 (by omega) _ _) (by omega) _ _
end Go.Proofs.YtbbffhpppacihaaDoor
