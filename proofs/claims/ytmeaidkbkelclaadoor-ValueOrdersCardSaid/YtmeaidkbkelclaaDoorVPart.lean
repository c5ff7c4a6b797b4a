/- Values as parts of keys: their bytes are in order as they are. Plain mathematics. No condition. -/
import Derived.Test.YtmeaidkbkelclaaDoorRise
import Derived.Test.YtmeaidkbkelclaaDoorVOrder2
namespace Go.Proofs.YtmeaidkbkelclaaDoor.vorder
open Go.RowKit
open Go.Proofs.YtmeaidkbkelclaaDoor.order (numP textP beL less_cons less_text less_int less_same)
set_option linter.unusedVariables false
set_option maxRecDepth 100000

/-- a value's part of a key: its kind, and its text, or its number with the sign's bit turned -/
def partV (k m : Nat) (S : List UInt8) : List UInt8 := numP k ++ (if k = 3 then textP S else 32 :: beL 8 m)
theorem numP_0 : numP 0 = [16] := by decide +kernel
theorem numP_1 : numP 1 = [17, 1] := by decide +kernel
theorem numP_2 : numP 2 = [17, 2] := by decide +kernel
theorem numP_3 : numP 3 = [17, 3] := by decide +kernel
theorem less_app (x y : List UInt8) : ∀ A : List UInt8, Op.bytesLess (A ++ x) (A ++ y) = Op.bytesLess x y
  | [] => rfl
  | a :: A => by rw [List.cons_append, List.cons_append, less_cons, less_app x y A]; simp
theorem less_kind (x y : List UInt8) (i j : Nat) (hi : i < 4) (hj : j < 4) : Op.bytesLess (numP i ++ x) (numP j ++ y) = if i = j then Op.bytesLess x y else decide (i < j) := by
  have h1 : i = 0 ∨ i = 1 ∨ i = 2 ∨ i = 3 := by omega
  have h2 : j = 0 ∨ j = 1 ∨ j = 2 ∨ j = 3 := by omega
  rcases h1 with rfl | rfl | rfl | rfl <;> rcases h2 with rfl | rfl | rfl | rfl <;>
    first
    | (rw [less_app]; simp)
    | (simp [numP_0, numP_1, numP_2, numP_3, less_cons])
/-- a value that may be, and its part -/
def IsV (k n : Int) (s : ByteArray) (P : List UInt8) : Prop :=
  (∃ kk : Nat, kk < 3 ∧ k = (kk : Int) ∧ -9223372036854775808 ≤ n ∧ n < 9223372036854775808 ∧ s = ⟨#[]⟩ ∧ P = partV kk (n + 9223372036854775808).toNat []) ∨
  (k = 3 ∧ n = 0 ∧ ∃ l : List UInt8, s = str l ∧ l.length ≤ 60 ∧ P = partV 3 0 l)
theorem less_part {k n : Int} {s : ByteArray} {P : List UInt8} {k' n' : Int} {s' : ByteArray} {P' : List UInt8} (h : IsV k n s P) (h' : IsV k' n' s' P') : Op.bytesLess P P' = lessV k n s k' n' s' := by
  rcases h with ⟨i, hi, rfl, a1, a2, rfl, rfl⟩ | ⟨rfl, rfl, l, rfl, hl, rfl⟩ <;> rcases h' with ⟨j, hj, rfl, b1, b2, rfl, rfl⟩ | ⟨rfl, rfl, l', rfl, hl', rfl⟩
  · have e1 : ¬ i = 3 := by omega
    have e2 : ¬ j = 3 := by omega
    simp only [partV, if_neg e1, if_neg e2]
    rw [less_kind _ _ i j (by omega) (by omega)]
    unfold lessV
    by_cases hij : i = j
    · subst hij
      rw [if_pos rfl, less_int _ _ (by omega) (by omega)]
      by_cases hn : n = n'
      · subst hn; simp; decide
      · simp only [ne_eq, not_true_eq_false, if_false, hn, not_false_eq_true, if_true]
        apply decide_eq_decide.mpr; omega
    · rw [if_neg hij]
      have : ¬ ((i : Nat) : Int) = (j : Int) := by omega
      simp only [ne_eq, this, not_false_eq_true, if_true]
      apply decide_eq_decide.mpr; omega
  · have e1 : ¬ i = 3 := by omega
    simp only [partV, if_neg e1, if_true]
    rw [less_kind _ _ i 3 (by omega) (by omega), if_neg e1]
    unfold lessV
    have h3 : ¬ ((i : Nat) : Int) = 3 := by omega
    simp only [ne_eq, h3, not_false_eq_true, if_true]
    apply decide_eq_decide.mpr; omega
  · have e2 : ¬ j = 3 := by omega
    simp only [partV, if_neg e2, if_true]
    rw [less_kind _ _ 3 j (by omega) (by omega), if_neg (by omega : ¬ 3 = j)]
    unfold lessV
    have h3 : ¬ (3 : Int) = (j : Int) := by omega
    simp only [ne_eq, h3, not_false_eq_true, if_true]
    apply decide_eq_decide.mpr; omega
  · simp only [partV, if_true]
    rw [less_kind _ _ 3 3 (by omega) (by omega), if_pos rfl, less_text]
    unfold lessV
    simp [str_bl]
/-- two parts are one just if the values are -/
theorem same_part {k n : Int} {s : ByteArray} {P : List UInt8} {k' n' : Int} {s' : ByteArray} {P' : List UInt8} (h : IsV k n s P) (h' : IsV k' n' s' P') : P = P' ↔ (k = k' ∧ n = n' ∧ s.toList = s'.toList) := by
  have l1 := less_part h h'
  have l2 := less_part h' h
  rcases way k n s k' n' s' with ⟨c, d, l, m, q⟩ | ⟨c, d, l, m, q⟩ | ⟨c, d, l, m, q⟩
  · refine ⟨fun e => ?_, fun e => absurd e q⟩
    rw [e, less_irrefl, l] at l1; cases l1
  · refine ⟨fun _ => q, fun _ => ?_⟩
    rw [l] at l1; rw [m] at l2
    exact less_total _ _ l1 l2
  · refine ⟨fun e => ?_, fun e => absurd e q⟩
    rw [e, less_irrefl, m] at l2; cases l2
end Go.Proofs.YtmeaidkbkelclaaDoor.vorder
