/- The first thing that each law of package code asks: 300 and a text, put and read again. No condition. -/
import Derived.Test.YtcdgnhhciccoeaaCode
namespace Go.Proofs.Ytcdgnhhciccoeaa.code
open Go.RowKit
attribute [local go_sem ↓] Go.wp_at_zero Go.wp_at_succ
attribute [local go_sem] str_bl str_size str_get0
set_option linter.unusedVariables false
set_option maxRecDepth 100000

theorem numL_300 : numL 300 = [172, 2] := by rw [numL_big 300 (by decide), numL_small _ (by decide)]; rfl
theorem numL_2 : numL 2 = [2] := by rw [numL_small _ (by decide)]; rfl
end Go.Proofs.Ytcdgnhhciccoeaa.code
