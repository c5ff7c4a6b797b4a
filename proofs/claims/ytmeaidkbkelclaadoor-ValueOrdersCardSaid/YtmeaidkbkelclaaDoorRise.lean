/- Parts rise as what they say, and none begins another one: the law. That a variable of the library holds a number is a premise. No other condition. -/
import Derived.Test.YtmeaidkbkelclaaDoorOrderPuts
namespace Go.Proofs.YtmeaidkbkelclaaDoor.order
open Go.RowKit
attribute [local go_sem ↓] Go.wp_at_zero Go.wp_at_succ
attribute [local go_sem] str_bl str_size str_append
set_option linter.unusedVariables false
set_option maxRecDepth 100000

theorem beL_cons (k n : Nat) : beL (k + 1) n = UInt8.ofNat (n / 256 ^ k % 256) :: beL k n := by
  unfold beL
  rw [List.range_succ_eq_map, List.map_cons, List.map_map]
  congr 1
  apply List.map_congr_left
  intro i hi
  simp only [Function.comp, Nat.succ_eq_add_one]
  rw [show k + 1 - 1 - (i + 1) = k - 1 - i by omega]
theorem less_cons (a b : UInt8) (r s : List UInt8) : Op.bytesLess (a :: r) (b :: s) = (decide (a < b) || (a == b && Op.bytesLess r s)) := rfl
theorem less_same : ∀ l : List UInt8, Op.bytesLess l l = false
  | [] => rfl
  | a :: l => by rw [less_cons, less_same l]; simp
theorem ofNat_lt (a b : Nat) (ha : a < 256) (hb : b < 256) : decide (UInt8.ofNat a < UInt8.ofNat b) = decide (a < b) := by
  apply decide_eq_decide.mpr
  rw [UInt8.lt_iff_toNat_lt, UInt8.toNat_ofNat', UInt8.toNat_ofNat', Nat.mod_eq_of_lt ha, Nat.mod_eq_of_lt hb]
theorem ofNat_beq (a b : Nat) (ha : a < 256) (hb : b < 256) : (UInt8.ofNat a == UInt8.ofNat b) = decide (a = b) := by
  by_cases h : a = b
  · subst h; simp
  · have : UInt8.ofNat a ≠ UInt8.ofNat b := by
      intro e
      have := congrArg UInt8.toNat e
      rw [UInt8.toNat_ofNat', UInt8.toNat_ofNat', Nat.mod_eq_of_lt ha, Nat.mod_eq_of_lt hb] at this
      exact h this
    rw [decide_eq_false h]; exact beq_eq_false_iff_ne.mpr this
theorem less_beL (a b : Nat) : ∀ k, Op.bytesLess (beL k a) (beL k b) = decide (a % 256 ^ k < b % 256 ^ k)
  | 0 => by simp [beL, Op.bytesLess, Nat.mod_one]
  | k + 1 => by
    rw [beL_cons, beL_cons, less_cons, less_beL a b k, ofNat_lt _ _ (Nat.mod_lt _ (by decide)) (Nat.mod_lt _ (by decide)), ofNat_beq _ _ (Nat.mod_lt _ (by decide)) (Nat.mod_lt _ (by decide)), Nat.mod_pow_succ, Nat.mod_pow_succ]
    have hP : 0 < 256 ^ k := Nat.pow_pos (by decide)
    have ha := Nat.mod_lt a hP
    have hb := Nat.mod_lt b hP
    generalize 256 ^ k = P at *
    generalize a / P % 256 = x
    generalize b / P % 256 = y
    generalize a % P = r at *
    generalize b % P = s at *
    rcases Nat.lt_trichotomy x y with h | h | h
    · have h2 : P * (x + 1) ≤ P * y := Nat.mul_le_mul_left P h
      rw [Nat.mul_add] at h2
      rw [decide_eq_true h]; simp; omega
    · subst h; simp
    · have h2 : P * (y + 1) ≤ P * x := Nat.mul_le_mul_left P h
      rw [Nat.mul_add] at h2
      have h3 : ¬ x < y := by omega
      have h4 : ¬ x = y := by omega
      have h5 : ¬ r + P * x < s + P * y := by omega
      rw [decide_eq_false h3, decide_eq_false h4, decide_eq_false h5]; rfl
theorem beL_inj {a b k : Nat} (ha : a < 256 ^ k) (hb : b < 256 ^ k) (h : beL k a = beL k b) : a = b := by
  have h1 := less_beL a b k
  have h2 := less_beL b a k
  rw [h, less_same, Nat.mod_eq_of_lt ha, Nat.mod_eq_of_lt hb] at h1
  rw [h, less_same, Nat.mod_eq_of_lt ha, Nat.mod_eq_of_lt hb] at h2
  have h3 := of_decide_eq_false h1.symm
  have h4 := of_decide_eq_false h2.symm
  omega
theorem drop_form (n : Nat) : ∀ k, n < 256 ^ k → ∃ j, j ≤ k ∧ (beL k n).dropWhile (· == 0) = beL j n ∧ n < 256 ^ j ∧ (j = 0 ∨ 256 ^ (j - 1) ≤ n)
  | 0, h => ⟨0, Nat.le_refl _, rfl, h, Or.inl rfl⟩
  | k + 1, h => by
    have hP : 0 < 256 ^ k := Nat.pow_pos (by decide)
    by_cases h0 : n < 256 ^ k
    · obtain ⟨j, h1, h2, h3, h4⟩ := drop_form n k h0
      refine ⟨j, by omega, ?_, h3, h4⟩
      rw [beL_cons, Nat.div_eq_of_lt h0, ← h2]; rfl
    · refine ⟨k + 1, Nat.le_refl _, ?_, h, Or.inr (by rw [Nat.add_sub_cancel]; omega)⟩
      have hq : n / 256 ^ k < 256 := by rw [Nat.div_lt_iff_lt_mul hP, Nat.mul_comm, ← Nat.pow_succ]; exact h
      have hq1 : 0 < n / 256 ^ k := Nat.div_pos (by omega) hP
      have hne : (UInt8.ofNat (n / 256 ^ k % 256) == 0) = false := by
        have := ofNat_beq (n / 256 ^ k % 256) 0 (Nat.mod_lt _ (by decide)) (by decide)
        rw [Nat.mod_eq_of_lt hq] at this ⊢
        have e : UInt8.ofNat 0 = (0 : UInt8) := rfl
        rw [e] at this
        rw [this]; simp; omega
      rw [beL_cons, List.dropWhile_cons, hne]; simp
theorem numP_form (n : Nat) (hn : n < 18446744073709551616) : ∃ k, k ≤ 8 ∧ numP n = UInt8.ofNat (16 + k) :: beL k n ∧ n < 256 ^ k ∧ (k = 0 ∨ 256 ^ (k - 1) ≤ n) := by
  have h8 : (256 : Nat) ^ 8 = 18446744073709551616 := by decide
  obtain ⟨k, h1, h2, h3, h4⟩ := drop_form n 8 (by omega)
  exact ⟨k, h1, by unfold numP; rw [h2, beL_length], h3, h4⟩
theorem less_num (a b : Nat) (ha : a < 18446744073709551616) (hb : b < 18446744073709551616) : Op.bytesLess (numP a) (numP b) = decide (a < b) := by
  obtain ⟨j, j1, j2, j3, j4⟩ := numP_form a ha
  obtain ⟨k, k1, k2, k3, k4⟩ := numP_form b hb
  rw [j2, k2, less_cons, ofNat_lt _ _ (by omega) (by omega), ofNat_beq _ _ (by omega) (by omega)]
  rcases Nat.lt_trichotomy j k with h | h | h
  · have : 256 ^ j ≤ 256 ^ (k - 1) := Nat.pow_le_pow_right (by decide) (by omega)
    rw [decide_eq_true (show 16 + j < 16 + k by omega), decide_eq_true (show a < b by omega)]; rfl
  · subst h
    rw [less_beL, Nat.mod_eq_of_lt j3, Nat.mod_eq_of_lt k3]; simp
  · have : 256 ^ k ≤ 256 ^ (j - 1) := Nat.pow_le_pow_right (by decide) (by omega)
    rw [decide_eq_false (show ¬ 16 + j < 16 + k by omega), decide_eq_false (show ¬ 16 + j = 16 + k by omega), decide_eq_false (show ¬ a < b by omega)]; rfl
theorem front_num (a b : Nat) (ha : a < 18446744073709551616) (hb : b < 18446744073709551616) (h : (numP a).isPrefixOf (numP b) = true) : a = b := by
  obtain ⟨j, j1, j2, j3, j4⟩ := numP_form a ha
  obtain ⟨k, k1, k2, k3, k4⟩ := numP_form b hb
  rw [j2, k2, List.isPrefixOf_cons_cons, ofNat_beq _ _ (by omega) (by omega), Bool.and_eq_true, decide_eq_true_eq, List.isPrefixOf_iff_prefix] at h
  obtain rfl : j = k := by omega
  exact beL_inj j3 k3 (h.2.eq_of_length (by rw [beL_length, beL_length]))
theorem less_int (a b : Nat) (ha : a < 18446744073709551616) (hb : b < 18446744073709551616) : Op.bytesLess (32 :: beL 8 a) (32 :: beL 8 b) = decide (a < b) := by
  have h8 : (256 : Nat) ^ 8 = 18446744073709551616 := by decide
  rw [less_cons, less_beL, h8, Nat.mod_eq_of_lt ha, Nat.mod_eq_of_lt hb]; simp
theorem esc_cons (b : UInt8) (l : List UInt8) : esc (b :: l) = (if b = 0 then [0, 255] else [b]) ++ esc l := rfl
theorem pos_u8 (b : UInt8) (h : b ≠ 0) : (0 : UInt8) < b := by
  rw [UInt8.lt_iff_toNat_lt]
  have : b.toNat ≠ 0 := fun e => h (UInt8.toNat_inj.1 e)
  show 0 < b.toNat
  omega
theorem less_esc : ∀ x y : List UInt8, Op.bytesLess (esc x ++ [0, 1]) (esc y ++ [0, 1]) = Op.bytesLess x y
  | [], [] => by decide
  | [], b :: y => by
    rw [esc_cons]
    by_cases h : b = 0
    · subst h; simp [esc, Op.bytesLess]
    · rw [if_neg h]; simp [esc, Op.bytesLess, pos_u8 b h]
  | b :: x, [] => by
    rw [esc_cons]
    by_cases h : b = 0
    · subst h; simp [esc, Op.bytesLess]
    · rw [if_neg h]
      simp [esc, Op.bytesLess, h]
  | a :: x, b :: y => by
    have ih := less_esc x y
    rw [esc_cons, esc_cons, less_cons]
    by_cases ha : a = 0 <;> by_cases hb : b = 0
    · subst ha; subst hb
      simp only [if_true, List.cons_append, List.nil_append, less_cons, ih]; simp
    · subst ha
      simp only [if_true, if_neg hb, List.cons_append, List.nil_append, less_cons]
      simp [pos_u8 b hb]
    · subst hb
      have e : (a == 0) = false := beq_eq_false_iff_ne.mpr ha
      simp only [if_true, if_neg ha, List.cons_append, List.nil_append, less_cons, e, Bool.false_and]
    · simp only [if_neg ha, if_neg hb, List.cons_append, List.nil_append, less_cons, ih]
theorem less_text (x y : List UInt8) : Op.bytesLess (textP x) (textP y) = Op.bytesLess x y := by
  show Op.bytesLess (48 :: (esc x ++ [0, 1])) (48 :: (esc y ++ [0, 1])) = _
  rw [less_cons, less_esc]; simp
theorem front_esc : ∀ x y : List UInt8, (esc x ++ [0, 1]).isPrefixOf (esc y ++ [0, 1]) = true → x = y
  | [], [] => fun _ => rfl
  | [], b :: y => by
    rw [esc_cons]
    by_cases h : b = 0
    · subst h; intro h; simp [esc, List.isPrefixOf] at h
    · rw [if_neg h]; intro h2; simp [esc, List.isPrefixOf] at h2; exact absurd h2.1.symm h
  | b :: x, [] => by
    rw [esc_cons]
    by_cases h : b = 0
    · subst h; intro h; simp [esc, List.isPrefixOf] at h
    · rw [if_neg h]; intro h2; simp [esc, List.isPrefixOf] at h2; exact absurd h2.1 h
  | a :: x, b :: y => by
    have ih := front_esc x y
    rw [esc_cons, esc_cons]
    by_cases ha : a = 0 <;> by_cases hb : b = 0
    · subst ha; subst hb
      intro h
      simp only [if_true, List.cons_append, List.nil_append, List.isPrefixOf_cons_cons, beq_self_eq_true, Bool.true_and] at h
      rw [ih h]
    · subst ha
      simp only [if_true, if_neg hb, List.cons_append, List.nil_append, List.isPrefixOf_cons_cons]
      intro h; rw [Bool.and_eq_true] at h; exact absurd (beq_iff_eq.mp h.1).symm hb
    · subst hb
      simp only [if_true, if_neg ha, List.cons_append, List.nil_append, List.isPrefixOf_cons_cons]
      intro h; rw [Bool.and_eq_true] at h; exact absurd (beq_iff_eq.mp h.1) ha
    · simp only [if_neg ha, if_neg hb, List.cons_append, List.nil_append, List.isPrefixOf_cons_cons]
      intro h; rw [Bool.and_eq_true] at h
      rw [beq_iff_eq.mp h.1, ih h.2]
theorem front_text (x y : List UInt8) (h : (textP x).isPrefixOf (textP y) = true) : x = y := by
  have h2 : (48 :: (esc x ++ [0, 1])).isPrefixOf (48 :: (esc y ++ [0, 1])) = true := h
  rw [List.isPrefixOf_cons_cons, Bool.and_eq_true] at h2
  exact front_esc x y h2.2
theorem prefix_take (a b : List UInt8) : a.isPrefixOf b = (decide (a.length ≤ b.length) && (b.take a.length == a)) := by
  rw [Bool.eq_iff_iff, List.isPrefixOf_iff_prefix, Bool.and_eq_true, decide_eq_true_eq, beq_iff_eq, List.prefix_iff_eq_take]
  constructor
  · intro h
    exact ⟨by rw [h, List.length_take]; exact Nat.min_le_right _ _, h.symm⟩
  · intro h; exact h.2.symm
end Go.Proofs.YtmeaidkbkelclaaDoor.order
