/- The tag of any bytes under any key is the document's. The table of salts is a premise. No other condition. -/
import Derived.Test.YtplfbpihhcnnmaaDoorHmac3
namespace Go.Proofs.YtplfbpihhcnnmaaDoor.sha
open Go.RowKit
attribute [local go_sem ↓] Go.wp_at_zero Go.wp_at_succ
set_option linter.unusedVariables false
set_option maxRecDepth 100000

set_option maxRecDepth 100000 in
theorem known_tag : tagL [] [] = [182, 19, 103, 154, 8, 20, 217, 236, 119, 47, 149, 215, 120, 195, 95, 197, 255, 22, 151, 196, 147, 113, 86, 83, 198, 199, 18, 20, 66, 146, 197, 173] := by decide +kernel
theorem cut_min (s : ByteArray) (k : Nat) : s.extract 0 (min (s.size : Int) k).toNat = str (s.data.toList.take k) := by
  by_cases h : s.size ≤ k
  · rw [show (min (s.size : Int) k).toNat = s.size by omega]; exact cut_whole s k h
  · rw [show (min (s.size : Int) k).toNat = k by omega]; exact cut_text s k
end Go.Proofs.YtplfbpihhcnnmaaDoor.sha
