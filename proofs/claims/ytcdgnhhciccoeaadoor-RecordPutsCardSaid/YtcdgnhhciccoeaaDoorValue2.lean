/- What values may be, and how they are put, value by value (package value, and the document's: lodestoneref23). No condition. -/
import Derived.Test.YtcdgnhhciccoeaaDoorValue
import Derived.Test.YtcdgnhhciccoeaaDoorCodePuts
import Derived.Test.YtcdgnhhciccoeaaDoorBox
import Derived.Laws.StructEq
namespace Go.Proofs.YtcdgnhhciccoeaaDoor.value
open Go.RowKit
attribute [local go_sem ↓] Go.wp_at_zero Go.wp_at_succ
attribute [local go_sem] str_size str_append conv_one conv_one_drew
set_option linter.unusedVariables false
set_option maxRecDepth 100000

/-! ### which may be -/
theorem may_none (w : World) : Calls Tryd.prog 77 #[.agg #[.int .i64 0, .int .i64 0, .string ⟨#[]⟩]] w fun e w' => e = .returned (.bool true) ∧ Below w.heap.size w w' := by
  go_enter Tryd.func77, Tryd.ntmps77
  go_wp2
  go_ret
  exact ⟨rfl, by go_grown⟩
theorem rmay_none (w : World) : Calls Tryd.prog 49 #[.agg #[.int .i64 0, .int .i64 0, .string ⟨#[]⟩]] w fun e w' => e = .returned (.bool true) ∧ Below w.heap.size w w' := by
  go_enter Tryd.func49, Tryd.ntmps49
  go_wp2
  go_ret
  exact ⟨rfl, by go_grown⟩
theorem may_0 (w : World) : Calls Tryd.prog 77 #[.agg #[.int .i64 1, .int .i64 0, .string ⟨#[]⟩]] w fun e w' => e = .returned (.bool true) ∧ Below w.heap.size w w' := by
  go_enter Tryd.func77, Tryd.ntmps77
  go_wp2
  go_ret
  exact ⟨rfl, by go_grown⟩
theorem rmay_0 (w : World) : Calls Tryd.prog 49 #[.agg #[.int .i64 1, .int .i64 0, .string ⟨#[]⟩]] w fun e w' => e = .returned (.bool true) ∧ Below w.heap.size w w' := by
  go_enter Tryd.func49, Tryd.ntmps49
  go_wp2
  go_ret
  exact ⟨rfl, by go_grown⟩
theorem may_1 (w : World) : Calls Tryd.prog 77 #[.agg #[.int .i64 1, .int .i64 1, .string ⟨#[]⟩]] w fun e w' => e = .returned (.bool true) ∧ Below w.heap.size w w' := by
  go_enter Tryd.func77, Tryd.ntmps77
  go_wp2
  go_ret
  exact ⟨rfl, by go_grown⟩
theorem rmay_1 (w : World) : Calls Tryd.prog 49 #[.agg #[.int .i64 1, .int .i64 1, .string ⟨#[]⟩]] w fun e w' => e = .returned (.bool true) ∧ Below w.heap.size w w' := by
  go_enter Tryd.func49, Tryd.ntmps49
  go_wp2
  go_ret
  exact ⟨rfl, by go_grown⟩
theorem may_int (n : Int) (w : World) : Calls Tryd.prog 77 #[.agg #[.int .i64 2, .int .i64 n, .string ⟨#[]⟩]] w fun e w' => e = .returned (.bool true) ∧ Below w.heap.size w w' := by
  go_enter Tryd.func77, Tryd.ntmps77
  go_wp2
  go_ret
  exact ⟨rfl, by go_grown⟩
theorem rmay_int (n : Int) (w : World) : Calls Tryd.prog 49 #[.agg #[.int .i64 2, .int .i64 n, .string ⟨#[]⟩]] w fun e w' => e = .returned (.bool true) ∧ Below w.heap.size w w' := by
  go_enter Tryd.func49, Tryd.ntmps49
  go_wp2
  go_ret
  exact ⟨rfl, by go_grown⟩
theorem may_txt (s : ByteArray) (b : Bool) (hb : decide ((s.size : Int) ≤ 2000) = b) (w : World) : Calls Tryd.prog 77 #[.agg #[.int .i64 3, .int .i64 0, .string s]] w fun e w' => e = .returned (.bool b) ∧ Below w.heap.size w w' := by
  have hb2 : decide (s.size ≤ 2000) = b := by rw [← hb]; congr 1; apply propext; omega
  go_enter Tryd.func77, Tryd.ntmps77
  go_wp2
  go_ret
  exact ⟨by first | rfl | (rw [← hb]; rfl) | (rw [← hb2]; rfl), by go_grown⟩
theorem rmay_txt (s : ByteArray) (b : Bool) (hb : decide ((s.size : Int) ≤ 2000) = b) (w : World) : Calls Tryd.prog 49 #[.agg #[.int .i64 3, .int .i64 0, .string s]] w fun e w' => e = .returned (.bool b) ∧ Below w.heap.size w w' := by
  have hb2 : decide (s.size ≤ 2000) = b := by rw [← hb]; congr 1; apply propext; omega
  go_enter Tryd.func49, Tryd.ntmps49
  go_wp2
  go_ret
  exact ⟨by first | rfl | (rw [← hb]; rfl) | (rw [← hb2]; rfl), by go_grown⟩
/-- a kind that is none -/
structure Odd (k : Int) : Prop where
  e0 : (k == 0) = false
  e1 : (k == 1) = false
  e2 : (k == 2) = false
  e3 : (k == 3) = false
theorem may_odd (k n : Int) (s : ByteArray) (h : Odd k) (w : World) : Calls Tryd.prog 77 #[.agg #[.int .i64 k, .int .i64 n, .string s]] w fun e w' => e = .returned (.bool false) ∧ Below w.heap.size w w' := by
  obtain ⟨h0, h1, h2, h3⟩ := h
  go_enter Tryd.func77, Tryd.ntmps77
  go_wp2
  go_ret
  exact ⟨rfl, by go_grown⟩
theorem rmay_odd (k n : Int) (s : ByteArray) (h : Odd k) (w : World) : Calls Tryd.prog 49 #[.agg #[.int .i64 k, .int .i64 n, .string s]] w fun e w' => e = .returned (.bool false) ∧ Below w.heap.size w w' := by
  obtain ⟨h0, h1, h2, h3⟩ := h
  go_enter Tryd.func49, Tryd.ntmps49
  go_wp2
  go_ret
  exact ⟨rfl, by go_grown⟩

/-- the box of a value -/
theorem box3 {w w1 : World} {a b c : Value} {t : TypeId} (hb : Below (w.alloc (.cells #[a, b, c] t)).heap.size (w.alloc (.cells #[a, b, c] t)) w1) :
    w1.cell? ⟨w.heap.size, 0, none⟩ = some a ∧ w1.cell? ⟨w.heap.size, 1, none⟩ = some b ∧ w1.cell? ⟨w.heap.size, 2, none⟩ = some c ∧ Below w.heap.size w w1 := by
  obtain ⟨h1, h2, _, h4⟩ := boxRow hb
  exact ⟨h2 0, h2 1, h2 2, h4⟩
def wordsB (m : Bool) (k : Int) (z : Nat) : Bool := m && (k != 0) && decide ((z : Int) ≤ 32)
end Go.Proofs.YtcdgnhhciccoeaaDoor.value
