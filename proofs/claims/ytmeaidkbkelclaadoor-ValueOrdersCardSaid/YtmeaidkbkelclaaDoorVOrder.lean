/- Values in order: cmp.Compare of numbers and of texts, the document's Less. No condition. -/
import Derived.Test.YtmeaidkbkelclaaDoorBox
import Derived.Test.YtmeaidkbkelclaaDoorBytes2
import Derived.Deep.RegionHeld3
namespace Go.Proofs.YtmeaidkbkelclaaDoor.vorder
open Go.RowKit
attribute [local go_sem ↓] Go.wp_at_zero Go.wp_at_succ
set_option linter.unusedVariables false
set_option maxRecDepth 100000

theorem nan_i (a : Int) (w : World) : Calls Tryd.prog 112 #[.int .i64 a] w fun e w' => e = .returned (.bool false) ∧ w' = w := by
  go_enter Tryd.func112, Tryd.ntmps112
  go_wp2
  go_ret
  exact ⟨rfl, rfl⟩
theorem nan_l (a : Int) (w : World) : Calls Tryd.prog 113 #[.int .i64 a] w fun e w' => e = .returned (.bool false) ∧ w' = w := by
  go_enter Tryd.func113, Tryd.ntmps113
  go_wp2
  go_ret
  exact ⟨rfl, rfl⟩
theorem nan_s (a : ByteArray) (w : World) : Calls Tryd.prog 114 #[.string a] w fun e w' => e = .returned (.bool false) ∧ w' = w := by
  have h : (a.toList == a.toList) = true := by simp
  go_enter Tryd.func114, Tryd.ntmps114
  go_wp2
  go_ret
  exact ⟨rfl, rfl⟩
/-- -1, 0 or 1 -/
def ci (a b : Int) : Int := if a < b then -1 else if b < a then 1 else 0
def cs (a b : ByteArray) : Int := if Op.bytesLess a.toList b.toList then -1 else if a.toList == b.toList then 0 else 1
theorem cmp_i (a b : Int) (w : World) : Calls Tryd.prog 72 #[.int .i64 a, .int .i64 b] w fun e w' => e = .returned (.int .i64 (ci a b)) ∧ w' = w := by
  unfold ci
  by_cases h : a < b
  · rw [if_pos h]
    go_enter Tryd.func72, Tryd.ntmps72
    go_wp2_with (go_at_call 112; (with_reducible refine (nan_i _ _).mono ?_); rintro e w1 ⟨rfl, rfl⟩)
    go_ret
    exact ⟨rfl, rfl⟩
  · rw [if_neg h]
    by_cases h2 : b < a
    · rw [if_pos h2]
      go_enter Tryd.func72, Tryd.ntmps72
      go_wp2_with (go_at_call 112; (with_reducible refine (nan_i _ _).mono ?_); rintro e w1 ⟨rfl, rfl⟩)
      go_ret
      exact ⟨rfl, rfl⟩
    · rw [if_neg h2]
      go_enter Tryd.func72, Tryd.ntmps72
      go_wp2_with (go_at_call 112; (with_reducible refine (nan_i _ _).mono ?_); rintro e w1 ⟨rfl, rfl⟩)
      go_ret
      exact ⟨rfl, rfl⟩
theorem cmp_l (a b : Int) (w : World) : Calls Tryd.prog 73 #[.int .i64 a, .int .i64 b] w fun e w' => e = .returned (.int .i64 (ci a b)) ∧ w' = w := by
  unfold ci
  by_cases h : a < b
  · rw [if_pos h]
    go_enter Tryd.func73, Tryd.ntmps73
    go_wp2_with (go_at_call 113; (with_reducible refine (nan_l _ _).mono ?_); rintro e w1 ⟨rfl, rfl⟩)
    go_ret
    exact ⟨rfl, rfl⟩
  · rw [if_neg h]
    by_cases h2 : b < a
    · rw [if_pos h2]
      go_enter Tryd.func73, Tryd.ntmps73
      go_wp2_with (go_at_call 113; (with_reducible refine (nan_l _ _).mono ?_); rintro e w1 ⟨rfl, rfl⟩)
      go_ret
      exact ⟨rfl, rfl⟩
    · rw [if_neg h2]
      go_enter Tryd.func73, Tryd.ntmps73
      go_wp2_with (go_at_call 113; (with_reducible refine (nan_l _ _).mono ?_); rintro e w1 ⟨rfl, rfl⟩)
      go_ret
      exact ⟨rfl, rfl⟩
theorem cmp_s (a b : ByteArray) (w : World) : Calls Tryd.prog 74 #[.string a, .string b] w fun e w' => e = .returned (.int .i64 (cs a b)) ∧ w' = w := by
  unfold cs
  cases h : Op.bytesLess a.toList b.toList
  · cases h2 : (a.toList == b.toList)
    · go_enter Tryd.func74, Tryd.ntmps74
      go_wp2_with (go_at_call 114; (with_reducible refine (nan_s _ _).mono ?_); rintro e w1 ⟨rfl, rfl⟩)
      go_ret
      exact ⟨rfl, rfl⟩
    · go_enter Tryd.func74, Tryd.ntmps74
      go_wp2_with (go_at_call 114; (with_reducible refine (nan_s _ _).mono ?_); rintro e w1 ⟨rfl, rfl⟩)
      go_ret
      exact ⟨rfl, rfl⟩
  · go_enter Tryd.func74, Tryd.ntmps74
    go_wp2_with (go_at_call 114; (with_reducible refine (nan_s _ _).mono ?_); rintro e w1 ⟨rfl, rfl⟩)
    go_ret
    exact ⟨rfl, rfl⟩
/-- the document's Less -/
def lessV (k n : Int) (s : ByteArray) (k' n' : Int) (s' : ByteArray) : Bool := if k ≠ k' then decide (k < k') else if n ≠ n' then decide (n < n') else Op.bytesLess s.toList s'.toList
theorem less_any (k n : Int) (s : ByteArray) (k' n' : Int) (s' : ByteArray) (w : World) : Calls Tryd.prog 28 #[.agg #[.int .i64 k, .int .i64 n, .string s], .agg #[.int .i64 k', .int .i64 n', .string s']] w fun e w' => e = .returned (.bool (lessV k n s k' n' s')) ∧ Below w.heap.size w w' := by
  have hb : Below w.heap.size w ((w.alloc (.cells #[.int .i64 k, .int .i64 n, .string s] 37)).alloc (.cells #[.int .i64 k', .int .i64 n', .string s'] 37)) := ((Below.refl _ _).alloc (Nat.le_refl _) _).alloc (by simp) _
  unfold lessV
  by_cases h : k = k'
  · subst h
    by_cases h2 : n = n'
    · subst h2
      obtain ⟨b, hbb⟩ : ∃ b, Op.bytesLess s.toList s'.toList = b := ⟨_, rfl⟩
      simp only [ne_eq, not_true_eq_false, if_false, hbb]
      go_enter Tryd.func28, Tryd.ntmps28
      go_wp2
      go_ret
      exact ⟨rfl, hb⟩
    · simp only [ne_eq, not_true_eq_false, if_false, h2, not_false_eq_true, if_true]
      go_enter Tryd.func28, Tryd.ntmps28
      go_wp2
      go_ret
      exact ⟨rfl, hb⟩
  · simp only [ne_eq, h, not_false_eq_true, if_true]
    go_enter Tryd.func28, Tryd.ntmps28
    go_wp2
    go_ret
    exact ⟨rfl, hb⟩
end Go.Proofs.YtmeaidkbkelclaaDoor.vorder
