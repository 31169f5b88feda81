/- The program's find tells what an identifier of a text and a set of scopes stands for, as findP says. Condition: the map lies in memory as GroupsAt says, and nothing is too long. -/
import Derived.Test.YtbloafjkejkjcaaD3
namespace Go.Proofs.Ytbloafjkejkjcaa
open Go.RowKit Go.Siskin

/-- What fits, of the names that are bound to a text. -/
def fitP (sc : List Int) (d : Bd) : Bool := withinB (setL d.scopes) (setL sc)
/-- As the program finds, of the names that are bound to a text. -/
def findP (fs : List Bd) : ByteArray × Int :=
  match fs with
  | [] => (⟨#[]⟩, 0)
  | n :: l => if (n :: l).all (fun d => withinB (setL d.scopes) (setL (nearB setD n (n :: l)).scopes)) then ((nearB setD n (n :: l)).name, 1) else (⟨#[]⟩, 2)

theorem within_set (a b : List Int) : withinB (setL a) (setL b) = withinB a b := by
  rw [Bool.eq_iff_iff, within_iff, within_iff]
  exact ⟨fun h x hx => (setL_mem b x).1 (h x ((setL_mem a x).2 hx)), fun h x hx => (setL_mem b x).2 (h x ((setL_mem a x).1 hx))⟩

theorem findP_eq (ks : List Bd) (t : ByteArray) (sc : List Int) : findP ((ofT t ks).filter (fitP sc)) = findI setD ks t sc := by
  have e : (ofT t ks).filter (fitP sc) = ks.filter (fitsB t sc) := by
    unfold ofT
    rw [List.filter_filter]
    congr 1
    funext d
    unfold fitsB fitP
    rw [within_set, Bool.and_comm]
  unfold findI
  rw [e]
  unfold findP
  cases ks.filter (fitsB t sc) with
  | nil => rfl
  | cons n l => simp only [within_set]

theorem filt_take_yes {p : Bd → Bool} {ks : List Bd} {k : Nat} (h : k < ks.length) (hp : p ks[k] = true) : (ks.take (k + 1)).filter p = (ks.take k).filter p ++ [ks[k]] := by
  rw [List.take_succ_eq_append_getElem h, List.filter_append]; simp [hp]
theorem filt_take_no {p : Bd → Bool} {ks : List Bd} {k : Nat} (h : k < ks.length) (hp : p ks[k] = false) : (ks.take (k + 1)).filter p = (ks.take k).filter p := by
  rw [List.take_succ_eq_append_getElem h, List.filter_append]; simp [hp]

theorem NRowAt.mono {R R' : Nat → Prop} (hb : ∀ i, R i → R' i) {w : World} {b o : Nat} {ks : List Bd} (h : NRowAt R w b o ks) : NRowAt R' w b o ks := fun i hi => by
  obtain ⟨c0, e0, e1, e2⟩ := h i hi
  exact ⟨c0, e0, e1, e2.mono hb⟩

theorem below_grown {N : Nat} {a w w' : World} (h : Below N a w) {row : Option Nat} (hg : w.grownBy w' row) (hN : N ≤ w.heap.size) (hr : ∀ g, row = some g → N ≤ g) : Below N a w' :=
  h.trans ⟨hg.os, hg.tape, hg.output, hg.size, fun i hi => hg.block i (by omega) fun e => by have := hr i e.symm; omega⟩

theorem GrpAt.below {S : Nat → Prop} {w w' : World} {base : Nat} {v : Value} {ks : List Bd} (h : GrpAt S w base v ks) (hb : Below w.heap.size w w') (hS : ∀ i, S i → i < w.heap.size) : GrpAt S w' base v ks := by
  obtain ⟨cs, r1, r2⟩ := h
  have hg : w.grownBy w' none := ⟨hb.os, hb.tape, hb.output, hb.size, fun i hi _ => hb.block i hi⟩
  refine ⟨cs, r1.kept hg ?_, r2.keep (hb.on hS)⟩
  cases v.ownBlock <;> simp

/-- Behind an append. -/
theorem grp_snoc {S : Nat → Prop} {w w' : World} {base : Nat} {v v' : Value} {fs : List Bd} {cs : List Value} (r1 : w.ownsRow base 59 2 v fs.length cs) (r2 : NCells S w cs fs) {c : Value} {d : Bd} (hc : IntsAt S w c (setL d.scopes)) (hS : ∀ i, S i → i < base) (hb : base ≤ w.heap.size)
    (hg : w.grownBy w' v.ownBlock) (hr : w'.ownsRow base 59 2 v' (fs.length + 1) (cs ++ [c, .string d.name])) : GrpAt S w' base v' (fs ++ [d]) := by
  have hs : SameOn S w w' := fun i hi => hg.block i (by have := hS i hi; omega) fun e => by
    have := (r1.lt i e.symm).1
    have := hS i hi
    omega
  refine ⟨_, by rw [List.length_append, List.length_singleton]; exact hr, (r2.snoc (by have := r1.1; omega) hc).keep hs⟩

theorem GroupsAt.at {S : Nat → Prop} {w : World} {base b n : Nat} {ks : List Bd} {G : ByteArray → Option Value} (h : GroupsAt S w base b n ks G) (t : ByteArray) :
    ∃ a cap, atG G t = .slice a (ofT t ks).length cap ∧ (ofT t ks).length ≤ maxLen ∧ (ofT t ks = [] ∨ ∃ g, a = some ⟨g, 0, none⟩ ∧ g < w.heap.size ∧ NRowAt S w g 0 (ofT t ks)) := by
  rcases (h.grp t).nrow with ⟨e1, e2⟩ | ⟨g, cap, e1, -, e3, e4, e5⟩
  · exact ⟨none, 0, by rw [e1, e2]; rfl, by rw [e2]; exact Nat.zero_le _, Or.inl e2⟩
  · exact ⟨_, _, e1, e4, Or.inr ⟨g, rfl, e3, e5⟩⟩

theorem fs_cases (fs : List Bd) : fs = [] ∨ ∃ n l, fs = n :: l := by
  cases fs with
  | nil => exact Or.inl rfl
  | cons n l => exact Or.inr ⟨n, l, rfl⟩
theorem ret_find {f : ByteArray × Int} {s : ByteArray} {i : Int} (h : f = (s, i)) : Ending.returned (.tuple #[.string s, .int .i64 i]) = .returned (.tuple #[.string f.1, .int .i64 f.2]) := by rw [h]
theorem findP_no {n : Bd} {l : List Bd} (h : false = (n :: l).all fun d => withinB (setL d.scopes) (setL (nearB setD n (n :: l)).scopes)) : findP (n :: l) = (⟨#[]⟩, 2) := by
  unfold findP; simp only []; rw [← h]; rfl
theorem findP_yes {n : Bd} {l : List Bd} (h : true = (n :: l).all fun d => withinB (setL d.scopes) (setL (nearB setD n (n :: l)).scopes)) : findP (n :: l) = ((nearB setD n (n :: l)).name, 1) := by
  unfold findP; simp only []; rw [← h]; rfl

set_option maxRecDepth 20000 in
set_option maxHeartbeats 8000000 in
theorem find_any (S : Nat → Prop) (w : World) (base b n : Nat) (ks : List Bd) (G : ByteArray → Option Value) (h : GroupsAt S w base b n ks G) (t : ByteArray) (ht : t.size ≤ maxLen) (u : Value) (sc : List Int) (hu : IntsAt S w u (setL sc)) (hsc : (setL sc).length ≤ 1048576)
    (hl : ∀ d ∈ ks, (setL d.scopes).length ≤ 1048576) (hn : ks.length ≤ 1048576) :
    Calls Try.prog 15 #[.map (some b), .string t, .agg #[u]] w fun e w' => e = .returned (.tuple #[.string (findP ((ofT t ks).filter (fitP sc))).1, .int .i64 (findP ((ofT t ks).filter (fitP sc))).2]) ∧ Below w.heap.size w w' := by
  obtain ⟨i0, hi, hz0, hz1, hz2⟩ := info_parts Try.infoBound
  have Hi := hid hi
  have Hz0 := hid hz0
  have Hz1 := hid hz1
  have Hz2 := hid hz2
  clear hi hz0 hz1 hz2
  obtain ⟨a, cap, hv, hgl, hrow⟩ := h.at t
  have hL := fun o : Obj => (h.map.keep ((SameOn.refl _ _).alloc (fun i e => by rw [e]; exact h.map.lt) o)).look (w := w.alloc o) Try.underlying9 Try.underlying43 (Try.zeroBounds _) ht
  have hv' : (G t).getD (.slice none 0 0) = .slice a (ofT t ks).length cap := hv
  rw [hv'] at hL
  have hgn : (ofT t ks).length ≤ 1048576 := Nat.le_trans (ofT_len _ _) hn
  have HL : Hid (∀ d ∈ ofT t ks, (setL d.scopes).length ≤ 1048576) := fun d hd => hl d (List.mem_filter.1 hd).1
  have HS := hid h.low
  clear hl hv hv' ht h hn
  generalize ofT t ks = gs at *
  have HU := hid hu
  obtain ⟨ua, uc, rfl, -, -⟩ := hu
  unfold maxLen at hgl
  obtain ⟨fs, hF⟩ : ∃ fs, gs.filter (fitP sc) = fs := ⟨_, rfl⟩
  rw [hF]
  have HFF := hid hF
  clear hF
  go_enter Try.func15, Try.ntmps15
  go_wp2_with fail
  go_loopw [8, 18] (fun v i wr => ∃ k : Nat, k ≤ gs.length ∧ i = .int .i64 k ∧ Hid (GrpAt S wr (w.heap.size + 1) v ((gs.take k).filter (fitP sc))) ∧ Hid (Below (w.heap.size + 1) (w.alloc (.cells #[.slice ua (setL sc).length uc] 47)) wr)) (fun _ i _ => gs.length - (intOf i).toNat)
  case atStart => exact ⟨0, Nat.zero_le _, rfl, ⟨[], World.ownsRow_nil _ _ _ _, fun i hi => absurd hi (by simp)⟩, Below.refl _ _⟩
  case round =>
    obtain ⟨k, hk, rfl, HF, HW⟩ := hrel
    have q : wr.cell? ⟨w.heap.size, 0, none⟩ = some (.slice ua (setL sc).length uc) := (bx_q HW.out 0).trans (by simp)
    have hsz := HW.out.size
    simp only [World.size_alloc] at hsz
    have hsz1 : w.heap.size < wr.heap.size := hsz
    by_cases hlt : k < gs.length
    · rcases hrow with hrow | ⟨g, rfl, hg, hrow⟩
      · subst hrow; simp at hlt
      have HLn := hid (show ((gs.take k).filter (fitP sc)).length ≤ 1048576 from Nat.le_trans (List.length_filter_le _ _) (by rw [List.length_take]; omega))
      have HD := hid (HL.out gs[k] (List.getElem_mem hlt))
      obtain ⟨c0, e0, e1, hc⟩ := hrow k hlt
      have g0 := ((bx_on (R := fun b => b = g) HW.out (fun b hb => by omega)).cell rfl _).trans e0
      have g1 := ((bx_on (R := fun b => b = g) HW.out (fun b hb => by omega)).cell rfl _).trans e1
      have HC := hid (hc.keep (bx_on HW.out HS.out))
      obtain ⟨xa, xc, rfl, -, -⟩ := hc
      rw [Nat.zero_add] at g0 g1
      have hgr : g < wr.heap.size := by omega
      have HSr := hid (fun b (hb : S b) => show b < wr.heap.size by have := HS.out b hb; omega)
      have HQ := hid (fun o : Obj => within_any S (.slice xa (setL gs[k].scopes).length xc) (.slice ua (setL sc).length uc) (setL gs[k].scopes) (setL sc) (wr.alloc o) (HC.out.keep ((SameOn.refl _ _).alloc HSr.out _)) ((HU.out.keep (bx_on HW.out HS.out)).keep ((SameOn.refl _ _).alloc HSr.out _)) (setL_asc sc) hsc (fun b hb => by have := HSr.out b hb; simp; omega))
      clear e0 e1
      cases hx : fitP sc gs[k] with
      | false =>
        have HN := hid (filt_take_no hlt hx)
        have hx' : withinB (setL gs[k].scopes) (setL sc) = false := hx
        have hq := HQ.out
        rw [hx'] at hq
        have HQ := hid hq
        clear hq hx' hx
        go_wp2_with (go_at_call 23; refine (HQ.out _).mono ?_; rintro e w1 ⟨rfl, hw⟩; have HW1 := hid hw; clear hw)
        refine ⟨⟨k + 1, by omega, by go_num, ?_, ?_⟩, by simp [intOf]; omega⟩
        · rw [HN.out]
          exact HF.out.below (((Below.refl _ _).alloc (Nat.le_refl _) _).trans (HW1.out.mono (by simp))) HSr.out
        · exact HW.out.trans ((((Below.refl _ _).alloc (Nat.le_refl _) _).trans (HW1.out.mono (by simp))).mono hsz)
      | true =>
        have HN := hid (filt_take_yes hlt hx)
        have hx' : withinB (setL gs[k].scopes) (setL sc) = true := hx
        have hq := HQ.out
        rw [hx'] at hq
        have HQ := hid hq
        clear hq hx' hx
        go_wp2_with (first
          | (go_at_call 23; refine (HQ.out _).mono ?_; rintro e w1 ⟨rfl, hw⟩; have HW1 := hid hw; have q1 := bx_q (hw.mono (by simp)); have hs1 := hw.size; simp only [World.size_alloc] at hs1; have hs2 : wr.heap.size < w1.heap.size := hs1; obtain ⟨cs, r1, r2⟩ := HF.out.below (((Below.refl _ _).alloc (Nat.le_refl _) _).trans (hw.mono (by simp))) HSr.out; have R1 := hid r1; have R2 := hid r2; clear hw r1 r2)
          | (at_builtin; refine wpList_append_own_at _ rfl _ _ 57 rfl (w.heap.size + 1) 59 i0 _ 2 40 Try.underlying57 Hi.out Hz0.out Hz1.out Hz2.out rfl (by decide) _ ((gs.take k).filter (fitP sc)).length cs rfl (R1.out.alloc _) ⟨w1.heap.size, 0, none⟩ 1 1 [.slice xa (setL gs[k].scopes).length xc, .string gs[k].name] rfl rfl (World.news_of_block (cs := #[.slice xa (setL gs[k].scopes).length xc, .string gs[k].name]) (heap_alloc_new _ _)) (by simp [Value.oneCell']) (by have := HLn.out; unfold maxLen; omega) (by have := HLn.out; omega) (by simp; omega) ?_; intro v' w2 hown' hgw hnil hb'))
        have hall := (World.grownBy_alloc w1 _ _).trans hgw
        have hB1 := HW.out.trans ((((Below.refl wr.heap.size wr).alloc (Nat.le_refl _) _).trans (HW1.out.mono (by simp))).mono hsz)
        refine ⟨⟨k + 1, by omega, by go_num, ?_, ?_⟩, by simp [intOf]; omega⟩
        · rw [HN.out]
          exact grp_snoc R1.out R2.out (HC.out.keep (bx_on (HW1.out.mono (by simp)) HSr.out)) (fun i hi => by have := HS.out i hi; omega) (by omega) hall hown'
        · exact below_grown hB1 hall (by omega) fun g' hg' => (R1.out.lt g' hg').1
    · have hkk : k = gs.length := by omega
      rw [hkk, List.take_length] at HF
      have hfl : fs.length ≤ 1048576 := by rw [← HFF.out]; exact Nat.le_trans (List.length_filter_le _ _) hgn
      have HLf : Hid (∀ d ∈ fs, (setL d.scopes).length ≤ 1048576) := fun d hd => HL.out d (by rw [← HFF.out] at hd; exact (List.mem_filter.1 hd).1)
      rw [HFF.out] at HF
      have hfor : ∃ a2 cap2, u8 = .slice a2 fs.length cap2 ∧ (fs = [] ∨ ∃ g2, a2 = some ⟨g2, 0, none⟩ ∧ g2 < wr.heap.size ∧ NRowAt S wr g2 0 fs) := by
        rcases HF.out.nrow with ⟨e1, e2⟩ | ⟨g, cap, e1, -, e3, e4, e5⟩
        · exact ⟨none, 0, by rw [e1, e2]; rfl, Or.inl e2⟩
        · exact ⟨_, _, e1, Or.inr ⟨g, rfl, e3, e5⟩⟩
      obtain ⟨a2, cap2, rfl, hf2⟩ := hfor
      have HB0 := hid (bx_done HW.out)
      have HSw := hid (fun b (hb : S b) => show b < wr.heap.size by have := HS.out b hb; omega)
      clear HF HL hrow
      rcases fs_cases fs with h0 | ⟨n, l, h0⟩
      · have hz : ((fs.length : Int) == 0) = true := by rw [h0]; rfl
        have HX : Hid (findP fs = (⟨#[]⟩, 0)) := by show _ = _; rw [h0]; rfl
        clear h0
        go_wp2_with fail
        go_ret2
        exact ⟨ret_find HX.out, HB0.out⟩
      · rcases hf2 with hf2 | ⟨g2, rfl, hg2, hf2⟩
        · rw [h0] at hf2; cases hf2
        have hpos : ((fs.length : Int) == 0) = false := by rw [h0]; simp; omega
        have HFS := hid h0
        have HR := hid (fun b (hb : S b ∨ b = g2) => show b < wr.heap.size by rcases hb with hb | hb; exact HSw.out b hb; omega)
        have HN := hid (nearestOf_any (fun b => S b ∨ b = g2) wr g2 0 cap2 fs n l h0 (by unfold maxLen; omega) (hf2.mono fun i hi => Or.inl hi) (Or.inr rfl) HR.out)
        have H2 := hid (hf2.mono (R' := fun b => S b ∨ b = g2) fun i hi => Or.inl hi)
        clear hf2 h0
        go_wp2_with (go_at_call 24; refine HN.out.mono ?_; rintro e w1 ⟨c1, rfl, hi1, hw1⟩; have HI1 := hid hi1; have HW1 := hid hw1; obtain ⟨ya, yc, rfl, -, -⟩ := hi1; have hs1 := hw1.size; clear hw1)
        have HR1 := hid (fun b (hb : S b ∨ b = g2) => show b < w1.heap.size by have := HR.out b hb; omega)
        have hNl : (setL (nearB setD n fs).scopes).length ≤ 1048576 := by
          obtain ⟨p, q, e, -, -⟩ := near_in setD (n :: l) n
          have hm : nearB setD n (n :: l) ∈ n :: n :: l := by rw [e]; simp
          rw [HFS.out] at HLf ⊢
          rcases List.mem_cons.1 hm with h | h
          · rw [h]; exact HLf.out n List.mem_cons_self
          · exact HLf.out _ h
        have HYes : Hid (true = fs.all (fun d => withinB (setL d.scopes) (setL (nearB setD n fs).scopes)) → findP fs = ((nearB setD n fs).name, 1)) := by
          show _ → _
          rw [HFS.out]; exact findP_yes
        have HNo : Hid (false = fs.all (fun d => withinB (setL d.scopes) (setL (nearB setD n fs).scopes)) → findP fs = (⟨#[]⟩, 2)) := by
          show _ → _
          rw [HFS.out]; exact findP_no
        have HI2 := hid (HI1.out.keep (w' := w1) (SameOn.refl _ _))
        have H3 := hid (H2.out.keep (HW1.out.on HR.out) (Or.inr rfl))
        have HB1 := hid (HB0.out.trans (HW1.out.mono (by omega)))
        have hg3 : g2 < w1.heap.size := by omega
        have hws : w.heap.size ≤ w1.heap.size := by omega
        clear HFS HI1 HN H2 HLf
        generalize nearB setD n fs = N at *
        go_loopw [38] (fun i wr2 => ∃ k : Nat, k ≤ fs.length ∧ i = .int .i64 k ∧ Hid (∀ j (hj : j < fs.length), j < k → withinB (setL fs[j].scopes) (setL N.scopes) = true) ∧ Hid (Below (w1.heap.size + 1) (w1.alloc (.cells #[.slice ya (setL N.scopes).length yc, .string N.name] 59)) wr2)) (fun i _ => fs.length - (intOf i).toNat)
        case atStart => exact ⟨0, Nat.zero_le _, rfl, fun j _ hj => absurd hj (by omega), Below.refl _ _⟩
        case round =>
          obtain ⟨k2, hk2, rfl, HP, HV⟩ := hrel
          have p0 : wr.cell? ⟨w1.heap.size, 0, none⟩ = some (.slice ya (setL N.scopes).length yc) := (bx_q HV.out 0).trans (by simp)
          have p1 : wr.cell? ⟨w1.heap.size, 1, none⟩ = some (.string N.name) := (bx_q HV.out 1).trans (by simp)
          have hv1 : w1.heap.size < wr.heap.size := by have := HV.out.size; simp at this; omega
          by_cases hlt2 : k2 < fs.length
          · obtain ⟨c2, y0, y1, hc2⟩ := (H3.out.keep (bx_on HV.out HR1.out) (Or.inr rfl)) k2 hlt2
            have HC2 := hid hc2
            obtain ⟨xa, xc, rfl, -, -⟩ := hc2
            rw [Nat.zero_add] at y0 y1
            have hgr : g2 < wr.heap.size := by omega
            have HRr := hid (fun b (hb : S b ∨ b = g2) => show b < wr.heap.size by have := HR1.out b hb; omega)
            have HQ := hid (fun o : Obj => within_any (fun b => S b ∨ b = g2) (.slice xa (setL fs[k2].scopes).length xc) (.slice ya (setL N.scopes).length yc) (setL fs[k2].scopes) (setL N.scopes) (wr.alloc o) (HC2.out.keep ((SameOn.refl _ _).alloc HRr.out _)) ((HI2.out.keep (bx_on HV.out HR1.out)).keep ((SameOn.refl _ _).alloc HRr.out _)) (setL_asc _) hNl (fun b hb => by have := HRr.out b hb; simp; omega))
            cases hx : withinB (setL fs[k2].scopes) (setL N.scopes) with
            | false =>
              have HX := hid (HNo.out (allb_no (p := fun d => withinB (setL d.scopes) (setL N.scopes)) hlt2 hx))
              have hq := HQ.out
              rw [hx] at hq
              have HQ := hid hq
              clear hq hx
              go_wp2_with (go_at_call 23; refine (HQ.out _).mono ?_; rintro e w2 ⟨rfl, hw⟩; have HW2 := hid hw; clear hw)
              go_ret2
              refine ⟨ret_find HX.out, ?_⟩
              exact HB1.out.trans ((bx_done HV.out).mono hws |>.trans ((((Below.refl wr.heap.size wr).alloc (Nat.le_refl _) _).trans (HW2.out.mono (by simp))).mono (by omega)))
            | true =>
              have HX := hid (allb_step (p := fun d => withinB (setL d.scopes) (setL N.scopes)) hlt2 hx HP.out)
              have hq := HQ.out
              rw [hx] at hq
              have HQ := hid hq
              clear hq hx
              go_wp2_with (go_at_call 23; refine (HQ.out _).mono ?_; rintro e w2 ⟨rfl, hw⟩; have HW2 := hid hw; clear hw)
              exact ⟨⟨k2 + 1, by omega, by go_num, HX, HV.out.trans ((((Below.refl wr.heap.size wr).alloc (Nat.le_refl _) _).trans (HW2.out.mono (by simp))).mono (by omega))⟩, by simp [intOf]; omega⟩
          · have HX := hid (HYes.out (allb_yes (p := fun d => withinB (setL d.scopes) (setL N.scopes)) hlt2 HP.out))
            go_wp2_with fail
            go_ret2
            exact ⟨ret_find HX.out, HB1.out.trans ((bx_done HV.out).mono hws)⟩

end Go.Proofs.Ytbloafjkejkjcaa
