/- What properties are (package value): truths, numbers, texts, and what may be. No condition. -/
import Derived.Test.YtcdgnhhciccoeaaDoorBase
import Derived.BigRegion
import Derived.Deep.DeepCutAuto
namespace Go.Proofs.YtcdgnhhciccoeaaDoor.value
open Go.RowKit
attribute [local go_sem ↓] Go.wp_at_zero Go.wp_at_succ
set_option linter.unusedVariables false
set_option maxRecDepth 100000

theorem bool_any (b : Bool) (w : World) : Calls Tryd.prog 82 #[.bool b] w fun e w' => e = .returned (.agg #[.int .i64 1, .int .i64 (if b then 1 else 0), .string ByteArray.empty]) ∧ Below w.heap.size w w' := by
  cases b
  all_goals
    go_enter Tryd.func82, Tryd.ntmps82
    go_wp2
    exact bodyPost_ret (by simp [results, Tryd.results82, go_sem]; rfl) rfl ⟨rfl, by go_grown⟩
theorem int_any (n : Int) (w : World) : Calls Tryd.prog 159 #[.int .i64 n] w fun e w' => e = .returned (.agg #[.int .i64 2, .int .i64 n, .string ByteArray.empty]) ∧ Below w.heap.size w w' := by
  go_enter Tryd.func159, Tryd.ntmps159
  go_wp2
  exact bodyPost_ret (v := .agg #[.int .i64 2, .int .i64 n, .string ByteArray.empty]) (by simp [results, Tryd.results159, go_sem]; try rfl) rfl ⟨rfl, by go_grown⟩
theorem text_any (s : ByteArray) (w : World) : Calls Tryd.prog 160 #[.string s] w fun e w' => e = .returned (.agg #[.int .i64 3, .int .i64 0, .string s]) ∧ Below w.heap.size w w' := by
  go_enter Tryd.func160, Tryd.ntmps160
  go_wp2
  exact bodyPost_ret (v := .agg #[.int .i64 3, .int .i64 0, .string s]) (by simp [results, Tryd.results160, go_sem]; try rfl) rfl ⟨rfl, by go_grown⟩
theorem may_true (w : World) : Calls Tryd.prog 77 #[.agg #[.int .i64 1, .int .i64 1, .string ByteArray.empty]] w fun e w' => e = .returned (.bool true) ∧ Below w.heap.size w w' := by
  go_enter Tryd.func77, Tryd.ntmps77
  go_wp2
  all_goals
    go_ret
    exact ⟨rfl, by go_grown⟩
theorem may_text (s : ByteArray) (w : World) : Calls Tryd.prog 77 #[.agg #[.int .i64 3, .int .i64 0, .string s]] w fun e w' => e = .returned (.bool (decide ((s.size : Int) ≤ 2000))) ∧ Below w.heap.size w w' := by
  go_enter Tryd.func77, Tryd.ntmps77
  go_wp2
  all_goals
    go_ret
    exact ⟨rfl, by go_grown⟩
theorem cell3 (w : World) (o1 o2 : Obj) (cs : Array Value) (t : TypeId) (i : Nat) : (((w.alloc o1).alloc o2).alloc (.cells cs t)).cell? ⟨w.heap.size + 1 + 1, i, none⟩ = cs[i]? := by
  have := newCell ((w.alloc o1).alloc o2) cs t i
  simpa using this
end Go.Proofs.YtcdgnhhciccoeaaDoor.value
