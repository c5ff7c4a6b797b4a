/- The law RecordKeys, given its awake (one theorem a Bool; written by wip/tools/genrec.py). Condition: awake answers true. -/
import Derived.Test.YtcdgnhhciccoeaaDoorRecord
import Derived.Deep.RegionHeld3
import Derived.Deep.Cut
import Derived.BigRegion
namespace Go.Proofs.YtcdgnhhciccoeaaDoor.order
open Go.RowKit
attribute [local go_sem ↓] Go.wp_at_zero Go.wp_at_succ
attribute [local go_sem] str_size
set_option linter.unusedVariables false
set_option maxRecDepth 100000

def Fits (a b : ByteArray) : Prop := a.size + b.size ≤ 9223372036854775807
theorem run_add_fits {P : Program} (w : World) (a b : ByteArray) (h : Fits a b) : (Op.stringOp .add a b).run P w = .ok (.string (a ++ b)) w := run_string_add_sum w a b h
attribute [local go_sem high] run_add_fits
theorem and_63r (x : Int) : bits .and .i64 x 63 = x % 64 := and_mask x 6 63 (by decide) (by decide)
theorem or_one (n : Nat) (hn : n < 18446744073709551616) : ∃ E : Nat, bits .or .u64 (n : Int) 1 = (E : Int) ∧ E ≠ 0 ∧ E < 18446744073709551616 := by
  refine ⟨n ||| 1, ?_, ?_, ?_⟩
  · exact u64_or_nat n 1 hn (by decide)
  · have := @Nat.right_le_or n 1; omega
  · exact Nat.or_lt_two_pow (n := 64) hn (by decide)
end Go.Proofs.YtcdgnhhciccoeaaDoor.order
