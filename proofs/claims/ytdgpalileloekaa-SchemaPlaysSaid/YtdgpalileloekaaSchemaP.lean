/- Indexes in their order: plain lists. No condition. -/
import Derived.Test.YtdgpalileloekaaSchemaG
namespace Go.Proofs.Ytdgpalileloekaa.schema
open Go.RowKit
set_option linter.unusedVariables false

def SI (L : List Ix) : Prop := L.Pairwise (fun a b => lessB a b = true)
theorem lessB_iff (a b : Ix) : lessB a b = true ↔ a.l < b.l ∨ (a.l = b.l ∧ a.k < b.k) := by
  unfold lessB
  simp only [Bool.or_eq_true, decide_eq_true_eq, Bool.and_eq_true]
theorem lessB_no (a b : Ix) : lessB a b = false ↔ ¬ (a.l < b.l ∨ (a.l = b.l ∧ a.k < b.k)) := by
  rw [← lessB_iff]; simp
theorem less_tri (a b : Ix) : lessB a b = true ∨ (a.l = b.l ∧ a.k = b.k) ∨ lessB b a = true := by
  rw [lessB_iff, lessB_iff]; omega
theorem less_tr {a b c : Ix} (h : lessB a b = true) (k : lessB b c = true) : lessB a c = true := by
  rw [lessB_iff] at *; omega
theorem less_as {a b : Ix} (h : lessB a b = true) : lessB b a = false := by
  rw [lessB_no]; rw [lessB_iff] at h; omega
theorem same_iff (x y : Ix) : same x.l x.k y = true ↔ y.l = x.l ∧ y.k = x.k := by unfold same; simp
theorem same_no_of_less {x y : Ix} (h : lessB y x = true) : same x.l x.k y = false := by
  cases q : same x.l x.k y with
  | false => rfl
  | true => rw [same_iff] at q; rw [lessB_iff] at h; omega
theorem same_no_of_more {x y : Ix} (h : lessB x y = true) : same x.l x.k y = false := by
  cases q : same x.l x.k y with
  | false => rfl
  | true => rw [same_iff] at q; rw [lessB_iff] at h; omega
theorem less_no_of_same {x y : Ix} (h : same x.l x.k y = true) : lessB y x = false ∧ lessB x y = false := by
  rw [same_iff] at h
  rw [lessB_no, lessB_no]; omega
/-- how many are below x -/
def posI (x : Ix) : List Ix → Nat
  | [] => 0
  | y :: t => if lessB y x then posI x t + 1 else 0
theorem posI_le (x : Ix) : ∀ L, posI x L ≤ L.length
  | [] => Nat.le_refl _
  | y :: t => by
    unfold posI
    split
    · have := posI_le x t; simp; omega
    · exact Nat.zero_le _
theorem posI_less (x : Ix) : ∀ (L : List Ix) (i : Nat) (y : Ix), i < posI x L → L[i]? = some y → lessB y x = true
  | [], i, y, h, _ => by simp [posI] at h
  | z :: t, 0, y, h, hy => by
    simp at hy; subst hy
    unfold posI at h
    split at h
    · assumption
    · omega
  | z :: t, i + 1, y, h, hy => by
    unfold posI at h
    split at h
    · exact posI_less x t i y (by omega) (by simpa using hy)
    · omega
theorem posI_at (x : Ix) : ∀ (L : List Ix) (y : Ix), L[posI x L]? = some y → lessB y x = false
  | [], y, h => by simp [posI] at h
  | z :: t, y, h => by
    unfold posI at h
    cases q : lessB z x with
    | true =>
      rw [q] at h
      exact posI_at x t y (by simpa using h)
    | false =>
      rw [q] at h
      simp at h; subst h; exact q
/-- is one of x's label and key there? -/
def inI (x : Ix) (L : List Ix) : Bool := match L[posI x L]? with | some y => same x.l x.k y | none => false
theorem parts (x : Ix) : ∀ L, SI L → L.filter (fun y => lessB y x) = L.take (posI x L) ∧ L.filter (fun y => lessB x y) = L.drop (posI x L + if inI x L then 1 else 0) ∧ (L.filter (same x.l x.k) = [] ↔ inI x L = false)
  | [], _ => by simp [inI]
  | y :: t, hs => by
    have h1 := List.pairwise_cons.1 hs
    have ih := parts x t h1.2
    rcases less_tri y x with h | h | h
    · have hin : inI x (y :: t) = inI x t := by simp [inI, posI, h]
      rw [hin]
      have hp : posI x (y :: t) = posI x t + 1 := by simp [posI, h]
      rw [hp]
      refine ⟨by simp [List.filter_cons, h, ih.1], ?_, ?_⟩
      · rw [List.filter_cons, if_neg (by simp [less_as h]), ih.2.1]
        have e : posI x t + 1 + (if inI x t then 1 else 0) = (posI x t + (if inI x t then 1 else 0)) + 1 := by omega
        rw [e, List.drop_succ_cons]
      · rw [List.filter_cons, if_neg (by simp [same_no_of_less h])]; exact ih.2.2
    · have hsm : same x.l x.k y = true := (same_iff x y).2 h
      obtain ⟨a1, a2⟩ := less_no_of_same hsm
      have hgt : ∀ z ∈ t, lessB x z = true := fun z hz => by
        have := h1.1 z hz
        rw [lessB_iff] at this ⊢; omega
      have hp : posI x (y :: t) = 0 := by simp [posI, a1]
      have hin : inI x (y :: t) = true := by simp [inI, hp, hsm]
      rw [hp, hin]
      refine ⟨?_, ?_, ?_⟩
      · rw [List.filter_cons, if_neg (by simp [a1])]
        simp only [List.take_zero]
        exact List.filter_eq_nil_iff.2 fun z hz => by simp [less_as (hgt z hz)]
      · rw [List.filter_cons, if_neg (by simp [a2])]
        simp only [if_true, Nat.zero_add, List.drop_succ_cons, List.drop_zero]
        exact List.filter_eq_self.2 hgt
      · rw [List.filter_cons, if_pos hsm]; simp
    · have hno := less_as h
      have hgt : ∀ z ∈ t, lessB x z = true := fun z hz => less_tr h (h1.1 z hz)
      have hp : posI x (y :: t) = 0 := by simp [posI, hno]
      have hin : inI x (y :: t) = false := by simp [inI, hp, same_no_of_more h]
      rw [hp, hin]
      refine ⟨?_, ?_, ?_⟩
      · rw [List.filter_cons, if_neg (by simp [hno])]
        simp only [List.take_zero]
        exact List.filter_eq_nil_iff.2 fun z hz => by simp [less_as (hgt z hz)]
      · rw [List.filter_cons, if_pos h]
        simp only [Bool.false_eq_true, if_false, Nat.add_zero, List.drop_zero]
        rw [List.filter_eq_self.2 hgt]
      · rw [List.filter_cons, if_neg (by simp [same_no_of_more h])]
        simp only [iff_true]
        exact List.filter_eq_nil_iff.2 fun z hz => by simp [same_no_of_more (hgt z hz)]
/-- one goes -/
theorem drop_eq (x : Ix) : ∀ L, SI L → L.filter (fun y => !(same x.l x.k y)) = if inI x L then L.take (posI x L) ++ L.drop (posI x L + 1) else L
  | [], _ => by simp [inI]
  | y :: t, hs => by
    have h1 := List.pairwise_cons.1 hs
    have ih := drop_eq x t h1.2
    rcases less_tri y x with h | h | h
    · have hin : inI x (y :: t) = inI x t := by simp [inI, posI, h]
      have hp : posI x (y :: t) = posI x t + 1 := by simp [posI, h]
      rw [hin, hp, List.filter_cons, if_pos (by simp [same_no_of_less h]), ih]
      cases inI x t <;> simp
    · have hsm : same x.l x.k y = true := (same_iff x y).2 h
      obtain ⟨a1, a2⟩ := less_no_of_same hsm
      have hp : posI x (y :: t) = 0 := by simp [posI, a1]
      have hin : inI x (y :: t) = true := by simp [inI, hp, hsm]
      rw [hp, hin, List.filter_cons, if_neg (by simp [hsm])]
      simp only [if_true, List.take_zero, List.nil_append, Nat.zero_add, List.drop_succ_cons, List.drop_zero]
      exact List.filter_eq_self.2 fun z hz => by
        have := h1.1 z hz
        have hz2 : lessB x z = true := by rw [lessB_iff] at this ⊢; omega
        simp [same_no_of_more hz2]
    · have hp : posI x (y :: t) = 0 := by simp [posI, less_as h]
      have hin : inI x (y :: t) = false := by simp [inI, hp, same_no_of_more h]
      rw [hin]
      simp only [Bool.false_eq_true, if_false]
      exact List.filter_eq_self.2 fun z hz => by
        rcases List.mem_cons.1 hz with rfl | hz
        · simp [same_no_of_more h]
        · simp [same_no_of_more (less_tr h (h1.1 z hz))]
theorem drop_len (x : Ix) (L : List Ix) (hs : SI L) : decide ((L.filter (fun y => !(same x.l x.k y))).length < L.length) = inI x L := by
  rw [drop_eq x L hs]
  cases h : inI x L with
  | false => simp
  | true =>
    have : posI x L < L.length := by
      unfold inI at h
      cases q : L[posI x L]? with
      | none => rw [q] at h; cases h
      | some y => exact (List.getElem?_eq_some_iff.1 q).1
    simp; omega
theorem drop_SI (x : Ix) (L : List Ix) (hs : SI L) : SI (L.filter (fun y => !(same x.l x.k y))) := List.Pairwise.filter _ hs
theorem ord_lt (y x : Ix) : decide (ordI y x < 0) = lessB y x := by
  unfold ordI cmpI lessB
  by_cases h1 : y.l < x.l
  · simp [h1]
  · by_cases h2 : x.l < y.l
    · have : ¬ y.l = x.l := by omega
      simp [h1, h2, this]
    · have : y.l = x.l := by omega
      by_cases h3 : y.k < x.k
      · simp [this, h3]
      · by_cases h4 : x.k < y.k <;> simp [this, h3, h4]
theorem ord_gt (y x : Ix) : decide (ordI y x > 0) = lessB x y := by
  unfold ordI cmpI lessB
  by_cases h1 : y.l < x.l
  · have : ¬ x.l < y.l := by omega
    have h2 : ¬ x.l = y.l := by omega
    simp [h1, this, h2]
  · by_cases h2 : x.l < y.l
    · simp [h1, h2]
    · have : y.l = x.l := by omega
      by_cases h3 : y.k < x.k
      · have : ¬ x.k < y.k := by omega
        simp [*]
      · by_cases h4 : x.k < y.k <;> simp [this, h3, h4]
theorem add_SI (x : Ix) (L : List Ix) (hs : SI L) : SI (L.filter (fun y => lessB y x) ++ [x] ++ L.filter (fun y => lessB x y)) := by
  rw [List.append_assoc]
  refine List.pairwise_append.2 ⟨List.Pairwise.filter _ hs, List.pairwise_cons.2 ⟨fun y hy => (List.mem_filter.1 hy).2, List.Pairwise.filter _ hs⟩, fun a ha b hb => ?_⟩
  have h1 := (List.mem_filter.1 ha).2
  rcases List.mem_cons.1 hb with rfl | hb
  · exact h1
  · exact less_tr h1 (List.mem_filter.1 hb).2
theorem SI_ok : ∀ (L : List Ix) (p : Option Ix), SI L → (∀ x ∈ L, mayB x = true) → (∀ y, p = some y → ∀ x ∈ L, lessB y x = true) → okFrom p L = true
  | [], p, _, _, _ => by unfold okFrom; rfl
  | x :: t, p, hs, hm, hp => by
    have h1 := List.pairwise_cons.1 hs
    unfold okFrom
    rw [hm x (by simp), SI_ok t (some x) h1.2 (fun y hy => hm y (by simp [hy])) (fun y hy z hz => by injection hy with hy; subst hy; exact h1.1 z hz)]
    cases p with
    | none => rfl
    | some y => simp [hp y rfl x (by simp)]
/-- what Get makes of what Put makes -/
theorem get_put (L : List Ix) (hs : SI L) (hm : ∀ x ∈ L, mayB x = true) (hwf : ∀ x ∈ L, x.wf) (hn : L.length ≤ 32) : getL (putB L) = (L, 0) := by
  have hok := SI_ok L none hs hm (fun y hy => by cases hy)
  rw [put_raw L hok]
  have hmm : code.numE 32 (code.numL L.length ++ L.flatMap rawB) 0 = (L.length, L.flatMap rawB, 0) := code.numE_put _ _ _ (by omega) (by omega)
  have hg := getLoop_raw L [] [] hwf
  simp only [List.getLast?_nil, List.nil_append, List.append_nil] at hg
  unfold getL
  simp only [hmm, ne_eq, not_true_eq_false, if_false]
  rw [hg.1 hok]
  simp [code.endE]
/-- how an index's label and key are found: the one that is there -/
theorem found_at (L : List Ix) (hs : SI L) (y : Ix) (hy : y ∈ L) : L.filter (same y.l y.k) = [y] := by
  induction L with
  | nil => simp at hy
  | cons z t ih =>
    have h1 := List.pairwise_cons.1 hs
    rcases List.mem_cons.1 hy with rfl | hy
    · have hz : t.filter (same y.l y.k) = [] := List.filter_eq_nil_iff.2 fun a ha => by simp [same_no_of_more (h1.1 a ha)]
      rw [List.filter_cons, if_pos ((same_iff y y).2 ⟨rfl, rfl⟩), hz]
    · rw [List.filter_cons, if_neg (by simp [same_no_of_less (h1.1 y hy)]), ih h1.2 hy]
end Go.Proofs.Ytdgpalileloekaa.schema
