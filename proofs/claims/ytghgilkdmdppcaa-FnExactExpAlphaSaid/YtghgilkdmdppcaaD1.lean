/-
  A map from texts to values, as it lies in memory: what it holds at each text. No program is named.
-/
import Derived.Test.YtghgilkdmdppcaaB0
import Derived.Maps.OwnOps
import Derived.Maps.AppendAt
import Derived.Maps.Views
import Derived.StringKeys
namespace Go.Siskin
open Go.RowKit Go.Maps Go.WideMaps

/-- An element is read as itself. -/
def asIs (v : Value) : Option (DataW Value × List MemPlace) := some (.held v, [])
def keyLit (s : ByteArray) : Lit := .string s.data.toList

theorem keyLit_inj {s t : ByteArray} (h : keyLit s = keyLit t) : s = t := by
  unfold keyLit at h
  simp only [Lit.string.injEq] at h
  have h2 : s.data = t.data := Array.ext' h
  cases s; cases t; simp_all

/-- What is read at a text: what G has there, or z. -/
def atIs (G : ByteArray → Option Value) (s : ByteArray) (z : DataW Value) : DataW Value :=
  match G s with
  | some v => .held v
  | none => z

/-- Block b is a map from texts of at most n entries; at a text it holds what G says, or nothing. -/
def MapAt (P : Program) (k : TypeId) (w : World) (b n : Nat) (G : ByteArray → Option Value) : Prop :=
  ∃ D : DataW Value, w.ownsMap P k asIs b n D ∧ IsMap D ∧ ∀ s z, D.atKey (keyLit s) z = atIs G s z

/-- With one more. -/
def putG (G : ByteArray → Option Value) (s : ByteArray) (v : Value) : ByteArray → Option Value := fun t => if t.data.toList = s.data.toList then some v else G t

theorem putG_same (G : ByteArray → Option Value) (s : ByteArray) (v : Value) : putG G s v s = some v := if_pos rfl
theorem putG_other {G : ByteArray → Option Value} {s t : ByteArray} (h : t ≠ s) (v : Value) : putG G s v t = G t := if_neg fun e => h (keyLit_inj (by unfold keyLit; rw [e]))

section
variable {P : Program} {k : TypeId} {w w' : World} {b n : Nat} {G : ByteArray → Option Value}

theorem mapAt_made (w : World) (P : Program) (k : TypeId) : MapAt P k (w.alloc (.map #[] 0)) w.heap.size 0 (fun _ => none) :=
  ⟨.map [], World.ownsMap_made w P k asIs, isMap_empty, fun _ _ => rfl⟩

theorem MapAt.lt (h : MapAt P k w b n G) : b < w.heap.size := by
  obtain ⟨D, h, -⟩ := h
  exact h.lt

theorem MapAt.keep (h : MapAt P k w b n G) (hb : SameOn (fun i => i = b) w w') : MapAt P k w' b n G := by
  obtain ⟨D, ⟨es, clock, h1, h2⟩, h3⟩ := h
  exact ⟨D, ⟨es, clock, (hb b rfl).trans h1, h2⟩, h3⟩

theorem MapAt.look {t e : TypeId} (h : MapAt P k w b n G) (hk : P.underlying k = some .string) (ht : P.underlying t = some (.map k e)) {z : Value} (hz : (zeroValue e).run P w = .ok z w) {s : ByteArray} (hs : s.size ≤ maxLen) :
    (Instr.lookup t (.map (some b)) (.string s) false).run P w = .ok ((G s).getD z) w := by
  obtain ⟨D, h1, h2, h3⟩ := h
  obtain ⟨v, ps, hr, hv⟩ := h1.lookup (string_keyed hk) ht hz (zd := .held z) (zp := []) rfl (keyOf_string_mk hk hs)
  have h4 := h3 s (.held z)
  unfold keyLit at h4
  rw [h4] at hv
  have h5 : DataW.held v = atIs G s (.held z) := congrArg Prod.fst (Option.some.inj hv)
  rw [hr]
  unfold atIs at h5
  cases hG : G s with
  | none => rw [hG] at h5; cases h5; rfl
  | some u => rw [hG] at h5; cases h5; rfl

theorem MapAt.put {t e : TypeId} (h : MapAt P k w b n G) (hk : P.underlying k = some .string) (ht : P.underlying t = some (.map k e)) (hn : n < maxLen) {s : ByteArray} (hs : s.size ≤ maxLen) (v : Value) :
    ∃ w', (Instr.mapUpdate t (.map (some b)) (.string s) v).run P w = .ok () w' ∧ MapAt P k w' b (n + 1) (putG G s v) ∧ w.grownBy w' (some b) := by
  obtain ⟨D, h1, h2, h3⟩ := h
  have hkey := keyOf_string_mk (P := P) (k := k) hk hs
  obtain ⟨w', hr, h4, h5⟩ := h1.update (string_keyed hk) ht hn (val := v) (d := .held v) (ps := []) hkey rfl
  refine ⟨w', hr, ⟨_, h4, h2.put _ _, fun t z => ?_⟩, h5⟩
  by_cases e : t = s
  · subst e
    unfold keyLit atIs
    rw [putG_same, atKey_put_same h2 ((string_keyed hk).key hkey)]
  · unfold atIs
    rw [putG_other e]
    have hne : keyLit t ≠ .string s.data.toList := fun h => e (keyLit_inj h)
    rw [atKey_put_other hne, h3 t z]; rfl

/-- At the operation: a look-up. -/
theorem wpList_look (w : World) {ops : Array Oper} {rest : List Oper} {o : Oper} {a : Act} {Q : Exit → Act → World → Prop}
    (hg : o.guard = none) (m x : Operand) (t : TypeId) (hop : o.op = Op.lookup t m x false)
    (k e : TypeId) (hk : P.underlying k = some .string) (ht : P.underlying t = some (.map k e)) (z : Value) (hz : (zeroValue e).run P w = .ok z w) (b n : Nat) (G : ByteArray → Option Value)
    (hm : a.eval m = .map (some b)) (h : MapAt P k w b n G) (s : ByteArray) (hx : a.eval x = .string s) (hs : s.size ≤ maxLen)
    (hK : wpList P ops Q rest (a.put o.dst ((G s).getD z)) w) :
    wpList P ops Q (o :: rest) a w := by
  refine wpList_plain hg fun K' hK' => ?_
  have hr := h.look hk ht hz hs
  unfold Oper.wp
  simp [execOp, hop, hm, hx, hr, Result.andThen]
  exact hK' _ _ hK

/-- At the operation: a store. -/
theorem wpList_store (w : World) {ops : Array Oper} {rest : List Oper} {o : Oper} {a : Act} {Q : Exit → Act → World → Prop}
    (hg : o.guard = none) (m x y : Operand) (t : TypeId) (hop : o.op = Op.mapUpdate t m x y)
    (k e : TypeId) (hk : P.underlying k = some .string) (ht : P.underlying t = some (.map k e)) (b n : Nat) (G : ByteArray → Option Value)
    (hm : a.eval m = .map (some b)) (h : MapAt P k w b n G) (hn : n < maxLen) (s : ByteArray) (v : Value) (hx : a.eval x = .string s) (hy : a.eval y = v) (hs : s.size ≤ maxLen)
    (hK : ∀ w', MapAt P k w' b (n + 1) (putG G s v) → w.grownBy w' (some b) → wpList P ops Q rest (a.put o.dst undef) w') :
    wpList P ops Q (o :: rest) a w := by
  refine wpList_plain hg fun K' hK' => ?_
  obtain ⟨w', hr, h1, h2⟩ := h.put hk ht hn hs v
  unfold Oper.wp
  simp [execOp, hop, hm, hx, hy, hr, Result.andThen]
  exact hK' _ _ (hK w' h1 h2)
end

end Go.Siskin
