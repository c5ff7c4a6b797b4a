/- Entries behind changes: plain lists. No condition. -/
import Derived.Test.YtmfodnbhhfegeaaDelM
namespace Go.Proofs.Ytmfodnbhhfegeaa.delta
open Go.RowKit
set_option linter.unusedVariables false

/-- an entry -/
structure En where
  k : ByteArray
  v : ByteArray
def En.c (x : En) : List Value := [.string x.k, .string x.v]
theorem En.c_len (x : En) : x.c.length = 2 := rfl
def enC (l : List En) : List Value := l.flatMap En.c
theorem enC_snoc (M : List En) (x : En) : enC (M ++ [x]) = enC M ++ [.string x.k, .string x.v] := by simp [enC, En.c]
theorem enC_snoc2 (M : List En) (y x : En) : enC (M ++ [y, x]) = enC M ++ [.string y.k, .string y.v] ++ [.string x.k, .string x.v] := by simp [enC, En.c]
def SrtE (l : List En) : Prop := l.Pairwise (fun x y => lt x.k y.k = true)
/-- the law's With -/
def withE (key val : ByteArray) : List En → Bool → List En
  | [], true => []
  | [], false => [⟨key, val⟩]
  | x :: t, b => ((if !b && !(lt x.k key) then [⟨key, val⟩] else []) ++ (if eqB x.k key then [] else [x])) ++ withE key val t (b || !(lt x.k key))
theorem withE_true (key val : ByteArray) : ∀ t, withE key val t true = t.filter (fun x => !(eqB x.k key))
  | [] => rfl
  | x :: t => by
    have ih := withE_true key val t
    cases e : eqB x.k key <;> simp [withE, e, ih, List.filter_cons]
theorem eq_false_of_lt {a b : ByteArray} (h : lt a b = true) : eqB a b = false := eqB_no (lt_ne h)
theorem eq_false_of_gt {a b : ByteArray} (h : lt b a = true) : eqB a b = false := eqB_no (lt_ne h).symm
theorem tri (a b : ByteArray) : lt a b = true ∨ a = b ∨ lt b a = true := by
  cases h : lt a b with
  | true => exact .inl rfl
  | false =>
    cases k : lt b a with
    | true => exact .inr (.inr rfl)
    | false => exact .inr (.inl (lt_total h k))
theorem withE_false (key val : ByteArray) : ∀ t, SrtE t → withE key val t false = t.filter (fun x => lt x.k key) ++ ⟨key, val⟩ :: t.filter (fun x => lt key x.k)
  | [], _ => rfl
  | x :: t, hs => by
    have h1 := List.pairwise_cons.1 hs
    rcases tri x.k key with h | h | h
    · have ih := withE_false key val t h1.2
      have e := eq_false_of_lt h
      simp [withE, h, e, ih, List.filter_cons, lt_asymm h]
    · subst h
      have hf : t.filter (fun y => lt y.k x.k) = [] := List.filter_eq_nil_iff.2 fun y hy => by simp [lt_asymm (h1.1 y hy)]
      have hg : t.filter (fun y => lt x.k y.k) = t := List.filter_eq_self.2 fun y hy => h1.1 y hy
      have hn : t.filter (fun y => !(eqB y.k x.k)) = t := List.filter_eq_self.2 fun y hy => by simp [eq_false_of_gt (h1.1 y hy)]
      simp [withE, lt_irrefl, eqB_self, withE_true, List.filter_cons, hf, hg, hn]
    · have hx := lt_asymm h
      have hf : t.filter (fun y => lt y.k key) = [] := List.filter_eq_nil_iff.2 fun y hy => by simp [lt_asymm (lt_trans h (h1.1 y hy))]
      have hg : t.filter (fun y => lt key y.k) = t := List.filter_eq_self.2 fun y hy => lt_trans h (h1.1 y hy)
      have hn : t.filter (fun y => !(eqB y.k key)) = t := List.filter_eq_self.2 fun y hy => by simp [eq_false_of_gt (lt_trans h (h1.1 y hy))]
      simp [withE, hx, h, eq_false_of_gt h, withE_true, List.filter_cons, hf, hg, hn]
theorem withE_mem (key val : ByteArray) (g : Bool) (t : List En) (hs : SrtE t) (e : En) : e ∈ withE key val t g ↔ (e = ⟨key, val⟩ ∧ g = false) ∨ (e ∈ t ∧ e.k ≠ key) := by
  cases g with
  | true =>
    rw [withE_true, List.mem_filter]
    constructor
    · rintro ⟨h1, h2⟩
      exact .inr ⟨h1, fun h => by rw [h, eqB_self] at h2; cases h2⟩
    · rintro (⟨_, h⟩ | ⟨h1, h2⟩)
      · cases h
      · exact ⟨h1, by rw [eqB_no h2]; rfl⟩
  | false =>
    rw [withE_false key val t hs, List.mem_append, List.mem_cons, List.mem_filter, List.mem_filter]
    constructor
    · rintro (⟨h1, h2⟩ | h | ⟨h1, h2⟩)
      · exact .inr ⟨h1, lt_ne h2⟩
      · exact .inl ⟨h, rfl⟩
      · exact .inr ⟨h1, (lt_ne h2).symm⟩
    · rintro (⟨h, _⟩ | ⟨h1, h2⟩)
      · exact .inr (.inl h)
      · rcases tri e.k key with h | h | h
        · exact .inl ⟨h1, h⟩
        · exact absurd h h2
        · exact .inr (.inr ⟨h1, h⟩)
theorem withE_srt (key val : ByteArray) (g : Bool) (t : List En) (hs : SrtE t) : SrtE (withE key val t g) := by
  cases g with
  | true => rw [withE_true]; exact List.Pairwise.filter _ hs
  | false =>
    rw [withE_false key val t hs]
    refine List.pairwise_append.2 ⟨List.Pairwise.filter _ hs, List.pairwise_cons.2 ⟨fun y hy => (List.mem_filter.1 hy).2, List.Pairwise.filter _ hs⟩, fun x hx y hy => ?_⟩
    have h1 := (List.mem_filter.1 hx).2
    rcases List.mem_cons.1 hy with rfl | hy
    · exact h1
    · exact lt_trans h1 (List.mem_filter.1 hy).2
theorem withE_len (key val : ByteArray) (g : Bool) (t : List En) (hs : SrtE t) : (withE key val t g).length ≤ t.length + 1 := by
  cases g with
  | true => rw [withE_true]; have := List.length_filter_le (fun x : En => !(eqB x.k key)) t; omega
  | false =>
    rw [withE_false key val t hs]
    have : (t.filter (fun x => lt x.k key)).length + (t.filter (fun x => lt key x.k)).length ≤ t.length := by
      clear hs
      induction t with
      | nil => simp
      | cons x t ih =>
        simp only [List.filter_cons]
        cases h : lt x.k key with
        | true => simp [lt_asymm h]; omega
        | false => cases k : lt key x.k <;> simp <;> omega
    simp; omega
theorem srtE_ext : ∀ (X Y : List En), SrtE X → SrtE Y → (∀ e, e ∈ X ↔ e ∈ Y) → X = Y
  | [], [], _, _, _ => rfl
  | [], y :: Y, _, _, h => by have := (h y).2 (by simp); simp at this
  | x :: X, [], _, _, h => by have := (h x).1 (by simp); simp at this
  | x :: X, y :: Y, hx, hy, h => by
    have h1 := List.pairwise_cons.1 hx
    have h2 := List.pairwise_cons.1 hy
    have hxy : x = y := by
      rcases List.mem_cons.1 ((h x).1 (by simp)) with e | e
      · exact e
      · rcases List.mem_cons.1 ((h y).2 (by simp)) with e2 | e2
        · exact e2.symm
        · have a := h2.1 x e
          have b := h1.1 y e2
          rw [lt_asymm a] at b; cases b
    subst hxy
    congr 1
    refine srtE_ext X Y h1.2 h2.2 fun e => ?_
    constructor
    · intro he
      rcases List.mem_cons.1 ((h e).1 (by simp [he])) with e2 | e2
      · subst e2; have := h1.1 e he; rw [lt_irrefl] at this; cases this
      · exact e2
    · intro he
      rcases List.mem_cons.1 ((h e).2 (by simp [he])) with e2 | e2
      · subst e2; have := h2.1 e he; rw [lt_irrefl] at this; cases this
      · exact e2
/-- what a change leaves -/
def emit (c : Ch) : List En := if !c.g && !(eqB c.k ⟨#[]⟩) then [⟨c.k, c.v⟩] else []
/-- Over, as the code goes -/
def over : List Ch → List En → List En
  | [], A => A
  | c :: D, A => A.takeWhile (fun a => lt a.k c.k) ++ (emit c ++ over D (match A.dropWhile (fun a => lt a.k c.k) with | [] => [] | a :: t => if eqB a.k c.k then t else a :: t))
theorem over_less (c : Ch) (D : List Ch) (a : En) (A : List En) (h : lt a.k c.k = true) : over (c :: D) (a :: A) = a :: over (c :: D) A := by
  simp [over, h]
theorem over_same (c : Ch) (D : List Ch) (a : En) (A : List En) (h : lt a.k c.k = false) (e : eqB a.k c.k = true) : over (c :: D) (a :: A) = emit c ++ over D A := by
  simp [over, h, e]
theorem over_more (c : Ch) (D : List Ch) (a : En) (A : List En) (h : lt a.k c.k = false) (e : eqB a.k c.k = false) : over (c :: D) (a :: A) = emit c ++ over D (a :: A) := by
  simp [over, h, e]
theorem over_end (c : Ch) (D : List Ch) : over (c :: D) [] = emit c ++ over D [] := by
  simp [over]
theorem over_srtd (c : Ch) (D : List Ch) (A : List En) (hs : SrtE A) : over (c :: D) A = A.filter (fun a => lt a.k c.k) ++ (emit c ++ over D (A.filter (fun a => lt c.k a.k))) := by
  induction A with
  | nil => simp [over]
  | cons a A ih =>
    have h1 := List.pairwise_cons.1 hs
    rcases tri a.k c.k with h | h | h
    · rw [over_less c D a A h, ih h1.2]
      simp [List.filter_cons, h, lt_asymm h]
    · have hf : A.filter (fun y => lt y.k c.k) = [] := List.filter_eq_nil_iff.2 fun y hy => by rw [← h]; simp [lt_asymm (h1.1 y hy)]
      have hg : A.filter (fun y => lt c.k y.k) = A := List.filter_eq_self.2 fun y hy => by rw [← h]; exact h1.1 y hy
      have e1 : lt a.k c.k = false := by rw [h]; exact lt_irrefl _
      have e2 : lt c.k a.k = false := by rw [h]; exact lt_irrefl _
      rw [over_same c D a A e1 (by rw [h]; exact eqB_self _)]
      simp [List.filter_cons, e1, e2, hf, hg]
    · have hf : A.filter (fun y => lt y.k c.k) = [] := List.filter_eq_nil_iff.2 fun y hy => by simp [lt_asymm (lt_trans h (h1.1 y hy))]
      have hg : A.filter (fun y => lt c.k y.k) = A := List.filter_eq_self.2 fun y hy => lt_trans h (h1.1 y hy)
      rw [over_more c D a A (lt_asymm h) (eq_false_of_gt h)]
      simp [List.filter_cons, lt_asymm h, h, hf, hg]
theorem emit_mem (c : Ch) (e : En) : e ∈ emit c ↔ e = ⟨c.k, c.v⟩ ∧ c.g = false ∧ eqB c.k ⟨#[]⟩ = false := by
  unfold emit
  cases c.g <;> cases eqB c.k ⟨#[]⟩ <;> simp
theorem over_mem : ∀ (D : List Ch), Srt D → ∀ (A : List En), SrtE A → ∀ e, e ∈ over D A ↔ (∃ c ∈ D, e = ⟨c.k, c.v⟩ ∧ c.g = false ∧ eqB c.k ⟨#[]⟩ = false) ∨ (e ∈ A ∧ ∀ c ∈ D, c.k ≠ e.k)
  | [], _, A, _, e => by simp [over]
  | c :: D, hD, A, hA, e => by
    have h1 := List.pairwise_cons.1 hD
    have ih := over_mem D h1.2 (A.filter (fun a => lt c.k a.k)) (List.Pairwise.filter _ hA) e
    rw [over_srtd c D A hA, List.mem_append, List.mem_append, List.mem_filter, emit_mem, ih, List.mem_filter]
    constructor
    · rintro (⟨h2, h3⟩ | h2 | ⟨c', h2, h3⟩ | ⟨⟨h2, h3⟩, h4⟩)
      · refine .inr ⟨h2, fun c' hc' => ?_⟩
        rcases List.mem_cons.1 hc' with rfl | hc'
        · exact (lt_ne h3).symm
        · exact (lt_ne (lt_trans h3 (h1.1 c' hc'))).symm
      · exact .inl ⟨c, by simp, h2⟩
      · exact .inl ⟨c', by simp [h2], h3⟩
      · refine .inr ⟨h2, fun c' hc' => ?_⟩
        rcases List.mem_cons.1 hc' with rfl | hc'
        · exact lt_ne h3
        · exact h4 c' hc'
    · rintro (⟨c', h2, h3⟩ | ⟨h2, h3⟩)
      · rcases List.mem_cons.1 h2 with rfl | h2
        · exact .inr (.inl h3)
        · exact .inr (.inr (.inl ⟨c', h2, h3⟩))
      · rcases tri e.k c.k with h | h | h
        · exact .inl ⟨h2, h⟩
        · exact absurd h.symm (h3 c (by simp))
        · exact .inr (.inr (.inr ⟨⟨h2, h⟩, fun c' hc' => h3 c' (by simp [hc'])⟩))
theorem over_srt : ∀ (D : List Ch), Srt D → ∀ (A : List En), SrtE A → SrtE (over D A)
  | [], _, A, hA => hA
  | c :: D, hD, A, hA => by
    have h1 := List.pairwise_cons.1 hD
    have hA2 : SrtE (A.filter (fun a => lt c.k a.k)) := List.Pairwise.filter _ hA
    have ih := over_srt D h1.2 _ hA2
    have hgt : ∀ y ∈ over D (A.filter (fun a => lt c.k a.k)), lt c.k y.k = true := fun y hy => by
      rcases (over_mem D h1.2 _ hA2 y).1 hy with ⟨c', h2, rfl, _⟩ | ⟨h2, _⟩
      · exact h1.1 c' h2
      · exact (List.mem_filter.1 h2).2
    rw [over_srtd c D A hA]
    refine List.pairwise_append.2 ⟨List.Pairwise.filter _ hA, List.pairwise_append.2 ⟨?_, ih, fun x hx y hy => ?_⟩, fun x hx y hy => ?_⟩
    · unfold emit; split <;> simp
    · rw [((emit_mem c x).1 hx).1]; exact hgt y hy
    · have h3 := (List.mem_filter.1 hx).2
      rcases List.mem_append.1 hy with hy | hy
      · rw [((emit_mem c y).1 hy).1]; exact h3
      · exact lt_trans h3 (hgt y hy)
theorem put_mem_iff (c : Ch) : ∀ (D : List Ch), Srt D → ∀ x, x ∈ putL c D ↔ x = c ∨ (x ∈ D ∧ x.k ≠ c.k)
  | [], _, x => by simp [putL]
  | y :: D, hs, x => by
    have h1 := List.pairwise_cons.1 hs
    have ih := put_mem_iff c D h1.2 x
    unfold putL
    rcases tri y.k c.k with h | h | h
    · rw [if_pos h, List.mem_cons, ih, List.mem_cons]
      constructor
      · rintro (rfl | h2 | ⟨h2, h3⟩)
        · exact .inr ⟨.inl rfl, lt_ne h⟩
        · exact .inl h2
        · exact .inr ⟨.inr h2, h3⟩
      · rintro (h2 | ⟨rfl | h2, h3⟩)
        · exact .inr (.inl h2)
        · exact .inl rfl
        · exact .inr (.inr ⟨h2, h3⟩)
    · rw [if_neg (by rw [h, lt_irrefl]; decide), if_pos (by rw [h]; exact eqB_self _), List.mem_cons, List.mem_cons]
      constructor
      · rintro (h2 | h2)
        · exact .inl h2
        · exact .inr ⟨.inr h2, fun e => by have := lt_ne (h1.1 x h2); rw [e, h] at this; exact this rfl⟩
      · rintro (h2 | ⟨rfl | h2, h3⟩)
        · exact .inl h2
        · exact absurd h h3
        · exact .inr h2
    · rw [if_neg (by rw [lt_asymm h]; decide), if_neg (by rw [eq_false_of_gt h]; decide), List.mem_cons, List.mem_cons]
      constructor
      · rintro (h2 | rfl | h2)
        · exact .inl h2
        · exact .inr ⟨.inl rfl, (lt_ne h).symm⟩
        · exact .inr ⟨.inr h2, (lt_ne (lt_trans h (h1.1 x h2))).symm⟩
      · rintro (h2 | ⟨rfl | h2, h3⟩)
        · exact .inl h2
        · exact .inr (.inl rfl)
        · exact .inr (.inr h2)
/-- one more change -/
theorem over_put (c : Ch) (D : List Ch) (A : List En) (hD : Srt D) (hA : SrtE A) (hk : eqB c.k ⟨#[]⟩ = false) : over (putL c D) A = withE c.k c.v (over D A) c.g := by
  have hD2 := put_srt c D hD
  have ho := over_srt D hD A hA
  refine srtE_ext _ _ (over_srt _ hD2 A hA) (withE_srt _ _ _ _ ho) fun e => ?_
  rw [over_mem _ hD2 A hA, withE_mem _ _ _ _ ho, over_mem _ hD A hA]
  constructor
  · rintro (⟨c', h1, h2, h3, h4⟩ | ⟨h1, h2⟩)
    · rcases (put_mem_iff c D hD c').1 h1 with rfl | ⟨h5, h6⟩
      · exact .inl ⟨h2, h3⟩
      · exact .inr ⟨.inl ⟨c', h5, h2, h3, h4⟩, by rw [h2]; exact h6⟩
    · refine .inr ⟨.inr ⟨h1, fun c' hc' => ?_⟩, fun h => h2 c ((put_mem_iff c D hD c).2 (.inl rfl)) h.symm⟩
      intro h
      by_cases h7 : c'.k = c.k
      · exact h2 c ((put_mem_iff c D hD c).2 (.inl rfl)) (h7.symm.trans h)
      · exact h2 c' ((put_mem_iff c D hD c').2 (.inr ⟨hc', h7⟩)) h
  · rintro (⟨h1, h2⟩ | ⟨⟨c', h1, h2, h3, h4⟩ | ⟨h1, h2⟩, h5⟩)
    · exact .inl ⟨c, (put_mem_iff c D hD c).2 (.inl rfl), h1, h2, hk⟩
    · exact .inl ⟨c', (put_mem_iff c D hD c').2 (.inr ⟨h1, by rw [h2] at h5; exact h5⟩), h2, h3, h4⟩
    · refine .inr ⟨h1, fun c' hc' => ?_⟩
      rcases (put_mem_iff c D hD c').1 hc' with rfl | ⟨h6, _⟩
      · exact fun h => h5 h.symm
      · exact h2 c' h6
end Go.Proofs.Ytmfodnbhhfegeaa.delta
