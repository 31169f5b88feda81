/- What an identifier stands for, found as the program does it, is what the model finds: of those that fit the last with the most scopes, if it has all scopes of all others. No program's step is walked here. -/
import Derived.Test.YtbloafjkejkjcaaB5
namespace Go.Proofs.Ytbloafjkejkjcaa
open Go.RowKit Go.Siskin

abbrev Asc (xs : List Int) : Prop := xs.Pairwise (· < ·)

theorem asc_sub : ∀ (b a : List Int), Asc a → Asc b → (∀ x ∈ a, x ∈ b) → List.Sublist a b
  | [], a, _, _, h => by
    cases a with
    | nil => exact List.Sublist.refl _
    | cons x r => exact absurd (h x List.mem_cons_self) (by simp)
  | y :: b, a, ha, hb, h => by
    cases a with
    | nil => exact List.nil_sublist _
    | cons x r =>
      obtain ⟨hb1, hb2⟩ := List.pairwise_cons.1 hb
      obtain ⟨ha1, ha2⟩ := List.pairwise_cons.1 ha
      by_cases e : x = y
      · subst e
        refine List.Sublist.cons_cons _ (asc_sub b r ha2 hb2 fun z hz => ?_)
        rcases List.mem_cons.1 (h z (List.mem_cons_of_mem _ hz)) with e | e
        · have := ha1 z hz; omega
        · exact e
      · have hx : x ∈ b := by
          rcases List.mem_cons.1 (h x List.mem_cons_self) with e' | e'
          · exact absurd e' e
          · exact e'
        have hy := hb1 x hx
        refine List.Sublist.cons _ (asc_sub b (x :: r) ha hb2 fun z hz => ?_)
        rcases List.mem_cons.1 (h z hz) with e' | e'
        · rcases List.mem_cons.1 hz with e2 | e2
          · omega
          · have := ha1 z e2; omega
        · exact e'
theorem asc_len {a b : List Int} (ha : Asc a) (hb : Asc b) (h : ∀ x ∈ a, x ∈ b) : a.length ≤ b.length := (asc_sub b a ha hb h).length_le
theorem asc_same {a b : List Int} (ha : Asc a) (hb : Asc b) (h : ∀ x ∈ a, x ∈ b) (hl : b.length ≤ a.length) : a = b := (asc_sub b a ha hb h).eq_of_length_le hl

theorem within_iff {a b : List Int} : withinB a b = true ↔ ∀ x ∈ a, x ∈ b := by
  unfold withinB
  rw [List.all_eq_true]
  exact ⟨fun h x hx => List.contains_iff_mem.1 (h x hx), fun h x hx => List.contains_iff_mem.2 (h x hx)⟩

/-- The last of those with the most scopes. -/
def nearB (S : Bd → List Int) (n : Bd) : List Bd → Bd
  | [] => n
  | d :: r => nearB S (if (S n).length ≤ (S d).length then d else n) r

/-- It is one of them; none has more; behind it none has as many. -/
theorem near_in (S : Bd → List Int) : ∀ (l : List Bd) (n : Bd), ∃ p q, n :: l = p ++ nearB S n l :: q ∧ (∀ d ∈ p, (S d).length ≤ (S (nearB S n l)).length) ∧ ∀ d ∈ q, (S d).length < (S (nearB S n l)).length
  | [], n => ⟨[], [], rfl, fun _ h => by simp at h, fun _ h => by simp at h⟩
  | d :: r, n => by
    unfold nearB
    by_cases e : (S n).length ≤ (S d).length
    · rw [if_pos e]
      obtain ⟨p, q, h1, h2, h3⟩ := near_in S r d
      refine ⟨n :: p, q, by rw [h1]; rfl, fun x hx => ?_, h3⟩
      rcases List.mem_cons.1 hx with rfl | hx
      · cases p with
        | nil =>
          have := List.cons.inj h1
          rw [← this.1]; exact e
        | cons y p' =>
          have := List.cons.inj h1
          have h4 := h2 d (by rw [this.1]; exact List.mem_cons_self)
          omega
      · exact h2 x hx
    · rw [if_neg e]
      obtain ⟨p, q, h1, h2, h3⟩ := near_in S r n
      cases p with
      | nil =>
        have h4 := List.cons.inj h1
        refine ⟨[], d :: r, by rw [← h4.1]; rfl, fun _ h => by simp at h, fun x hx => ?_⟩
        rcases List.mem_cons.1 hx with rfl | hx
        · rw [← h4.1]; omega
        · exact h3 x (by rw [← h4.2]; exact hx)
      | cons y p' =>
        have h4 := List.cons.inj h1
        refine ⟨n :: d :: p', q, by show n :: d :: r = n :: d :: (p' ++ nearB S n r :: q); exact congrArg (fun z => n :: d :: z) h4.2, fun x hx => ?_, h3⟩
        have h5 := h2 n (by rw [h4.1]; exact List.mem_cons_self)
        rcases List.mem_cons.1 hx with rfl | hx
        · exact h5
        · rcases List.mem_cons.1 hx with rfl | hx
          · omega
          · exact h2 x (List.mem_cons_of_mem _ hx)

/-- As the program finds. -/
def findI (S : Bd → List Int) (ks : List Bd) (t : ByteArray) (sc : List Int) : ByteArray × Int :=
  match ks.filter (fitsB t sc) with
  | [] => (⟨#[]⟩, 0)
  | n :: l => if (n :: l).all (fun d => withinB d.scopes (nearB S n (n :: l)).scopes) then ((nearB S n (n :: l)).name, 1) else (⟨#[]⟩, 2)

theorem near_first (S : Bd → List Int) (n : Bd) (l : List Bd) : nearB S n (n :: l) = nearB S n l := by
  rw [nearB, if_pos (Nat.le_refl _)]

theorem find_filter (F A : Bd → Bool) : ∀ l : List Bd, (l.filter F).find? A = l.find? fun d => F d && A d
  | [] => rfl
  | d :: r => by
    rw [List.filter_cons, List.find?_cons]
    cases hF : F d with
    | false => simp only [Bool.false_and]; exact find_filter F A r
    | true =>
      simp only [Bool.true_and, if_true]
      rw [List.find?_cons, find_filter F A r]

theorem all_iff (ks : List Bd) (t : ByteArray) (sc s : List Int) : allB ks t sc s = true ↔ ∀ e ∈ ks.filter (fitsB t sc), withinB e.scopes s = true := by
  unfold allB
  rw [List.all_eq_true]
  constructor
  · intro h e he
    obtain ⟨h1, h2⟩ := List.mem_filter.1 he
    have := h e h1
    unfold coverB at this
    rw [h2] at this; simpa using this
  · intro h e he
    unfold coverB
    cases hF : fitsB t sc e with
    | false => rfl
    | true => rw [h e (List.mem_filter.2 ⟨he, hF⟩)]; rfl

/-- The program's way and the model's come to one. -/
theorem find_same (S : Bd → List Int) (hS : ∀ d, Asc (S d)) (hm : ∀ d x, x ∈ S d ↔ x ∈ d.scopes) (ks : List Bd) (t : ByteArray) (sc : List Int) : findI S ks t sc = findAns ks t sc := by
  have key : ks.reverse.find? (bestB ks t sc) = (ks.filter (fitsB t sc)).reverse.find? fun d => allB ks t sc d.scopes := by
    rw [← List.filter_reverse, find_filter]; rfl
  have hall := all_iff ks t sc
  have hany : ks.any (fitsB t sc) = !(ks.filter (fitsB t sc)).isEmpty := by
    rw [Bool.eq_iff_iff, List.any_eq_true]
    constructor
    · rintro ⟨d, h1, h2⟩
      have := List.mem_filter.2 ⟨h1, h2⟩
      cases hf : ks.filter (fitsB t sc) with
      | nil => rw [hf] at this; simp at this
      | cons _ _ => rfl
    · intro h
      cases hf : ks.filter (fitsB t sc) with
      | nil => rw [hf] at h; simp at h
      | cons d r =>
        have : d ∈ ks.filter (fitsB t sc) := by rw [hf]; exact List.mem_cons_self
        obtain ⟨h1, h2⟩ := List.mem_filter.1 this
        exact ⟨d, h1, h2⟩
  unfold findI findAns
  rw [key, hany]
  cases hf : ks.filter (fitsB t sc) with
  | nil => rfl
  | cons n l =>
    rw [hf] at hall
    simp only []
    rw [near_first]
    obtain ⟨p, q, h1, h2, h3⟩ := near_in S l n
    generalize nearB S n l = N at h1 h2 h3
    have hN : N ∈ n :: l := by rw [h1]; simp
    by_cases hw : ((n :: l).all fun d => withinB d.scopes N.scopes) = true
    · rw [if_pos hw]
      have hA : allB ks t sc N.scopes = true := (hall _).2 (List.all_eq_true.1 hw)
      have hq : ∀ d ∈ q.reverse, ¬ allB ks t sc d.scopes = true := by
        intro d hd ha
        have hd' := List.mem_reverse.1 hd
        have h4 := within_iff.1 ((hall _).1 ha N hN)
        have h5 := asc_len (hS N) (hS d) (fun x hx => (hm d x).2 (h4 x ((hm N x).1 hx)))
        have := h3 d hd'
        omega
      rw [h1, List.reverse_append, List.reverse_cons, List.append_assoc, List.find?_append, List.find?_eq_none.2 hq, Option.none_or, List.singleton_append, List.find?_cons_of_pos (p := fun d : Bd => allB ks t sc d.scopes) hA]
    · rw [if_neg hw]
      have hno : ∀ d ∈ (n :: l).reverse, ¬ allB ks t sc d.scopes = true := by
        intro d hd ha
        have hd' := List.mem_reverse.1 hd
        have h4 := (hall _).1 ha
        have h5 := within_iff.1 (h4 N hN)
        have hle : (S d).length ≤ (S N).length := by
          rw [h1] at hd'
          rcases List.mem_append.1 hd' with h | h
          · exact h2 d h
          · rcases List.mem_cons.1 h with h | h
            · rw [h]; exact Nat.le_refl _
            · exact Nat.le_of_lt (h3 d h)
        have h6 := asc_same (hS N) (hS d) (fun x hx => (hm d x).2 (h5 x ((hm N x).1 hx))) hle
        refine hw (List.all_eq_true.2 fun e he => within_iff.2 fun x hx => ?_)
        have h7 := within_iff.1 (h4 e he) x hx
        rw [← hm N, h6, hm d]; exact h7
      rw [List.find?_eq_none.2 hno]; rfl

end Go.Proofs.Ytbloafjkejkjcaa
