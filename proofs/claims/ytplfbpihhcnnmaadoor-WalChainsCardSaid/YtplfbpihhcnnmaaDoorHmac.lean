/- Tags of bytes under a key (package hmac) and the document's own. The table of salts is a premise. No other condition. -/
import Derived.Test.YtplfbpihhcnnmaaDoorShaLaws
namespace Go.Proofs.YtplfbpihhcnnmaaDoor.sha
open Go.RowKit
attribute [local go_sem ↓] Go.wp_at_zero Go.wp_at_succ
attribute [local go_sem] str_size str_append conv_one conv_one_drew
set_option linter.unusedVariables false
set_option maxRecDepth 100000

/-- a key of at most a block -/
def keyL (k : List UInt8) : List UInt8 := if 64 < k.length then shaB salts k else k
theorem keyL_len (k : List UInt8) : (keyL k).length ≤ 64 := by
  unfold keyL; split
  · rw [shaB_len]; decide
  · omega
/-- a key as a block -/
def padK (k : List UInt8) : List UInt8 := keyL k ++ List.replicate (64 - (keyL k).length) 0
theorem padK_len (k : List UInt8) : (padK k).length = 64 := by have := keyL_len k; simp [padK]; omega
/-- bytes of which the first n are changed by a mark -/
def xorL (l : List UInt8) (m : UInt8) (n : Nat) : List UInt8 := l.mapIdx fun j b => if j < n then b ^^^ m else b
theorem xorL_len (l : List UInt8) (m : UInt8) (n : Nat) : (xorL l m n).length = l.length := by simp [xorL]
theorem xorL_zero (l : List UInt8) (m : UInt8) : xorL l m 0 = l := by
  apply List.ext_getElem
  · simp [xorL]
  · intro i h1 h2; simp [xorL]
theorem xorL_at (l : List UInt8) (m : UInt8) (n : Nat) (h : n < l.length) : (xorL l m n).getD n 0 = l.getD n 0 := by
  simp [xorL, List.getD, List.getElem?_eq_getElem h]
theorem xorL_step (l : List UInt8) (m : UInt8) (n : Nat) (h : n < l.length) : (xorL l m n).set n (l.getD n 0 ^^^ m) = xorL l m (n + 1) := by
  apply List.ext_getElem
  · simp [xorL]
  · intro i h1 h2
    simp only [xorL, List.getElem_set, List.getElem_mapIdx]
    by_cases e : n = i
    · subst e; simp [List.getD, List.getElem?_eq_getElem h]
    · rw [if_neg e]
      have : (i < n) ↔ (i < n + 1) := by omega
      simp [this]
/-- a key as a block, each byte changed by a mark -/
def markL (k : List UInt8) (m : UInt8) : List UInt8 := xorL (padK k) m 64
theorem markL_len (k : List UInt8) (m : UInt8) : (markL k m).length = 64 := by rw [markL, xorL_len, padK_len]
/-- the tag of bytes under a key -/
def tagL (k s : List UInt8) : List UInt8 := shaB salts (markL k 92 ++ shaB salts (markL k 54 ++ s))
theorem tagL_len (k s : List UInt8) : (tagL k s).length = 32 := shaB_len _ _
theorem xor_u8 (a b : UInt8) : bits .xor .u8 (a.toNat : Int) (b.toNat : Int) = (((a ^^^ b).toNat : Nat) : Int) := by
  rw [Go.u8_xor_nat _ _ (UInt8.toNat_lt _) (UInt8.toNat_lt _), UInt8.toNat_xor]
theorem drop_zeros (l : List UInt8) : (List.replicate 64 (0 : UInt8)).drop l.length = List.replicate (64 - l.length) 0 := by rw [List.drop_replicate]

end Go.Proofs.YtplfbpihhcnnmaaDoor.sha
