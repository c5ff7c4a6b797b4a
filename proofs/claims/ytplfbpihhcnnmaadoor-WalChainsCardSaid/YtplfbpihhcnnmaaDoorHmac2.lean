/- The document's own tags of bytes under a key. No condition. -/
import Derived.Test.YtplfbpihhcnnmaaDoorHmac
namespace Go.Proofs.YtplfbpihhcnnmaaDoor.sha
open Go.RowKit
attribute [local go_sem ↓] Go.wp_at_zero Go.wp_at_succ
attribute [local go_sem] str_size str_append conv_one conv_one_drew
set_option linter.unusedVariables false
set_option maxRecDepth 100000

def preL (P : List UInt8) (m : UInt8) (i : Nat) : List UInt8 := (P.take i).map (· ^^^ m)
theorem preL_step (P : List UInt8) (m : UInt8) (i : Nat) (h : i < P.length) : preL P m (i + 1) = preL P m i ++ [P.getD i 0 ^^^ m] := by
  unfold preL
  rw [List.take_add_one, List.getElem?_eq_getElem h, List.map_append]
  congr 1
  simp [List.getD, List.getElem?_eq_getElem h]
theorem preL_len (P : List UInt8) (m : UInt8) (i : Nat) (h : i ≤ P.length) : (preL P m i).length = i := by simp [preL]; omega
theorem preL_all (P : List UInt8) (m : UInt8) (h : P.length = 64) : preL P m 64 = xorL P m 64 := by
  apply List.ext_getElem
  · simp [preL, xorL, h]
  · intro i h1 h2
    have hi : i < 64 := by rw [xorL_len, h] at h2; exact h2
    simp [preL, xorL, hi]
theorem str_getD (l : List UInt8) (i : Nat) (h : i < (str l).size) : (str l)[i]'h = l.getD i 0 := by
  have h2 : i < l.length := by rwa [str_size] at h
  simp [List.getD, List.getElem?_eq_getElem h2]
  rfl
end Go.Proofs.YtplfbpihhcnnmaaDoor.sha
