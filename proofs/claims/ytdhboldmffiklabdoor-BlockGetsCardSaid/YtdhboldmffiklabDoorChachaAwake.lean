/- The first thing that each law of package chacha asks: a known block; keys and nonces of right lengths; what a key or nonce of another length gives. No condition. -/
import Derived.Test.YtdhboldmffiklabDoorChacha7
namespace Go.Proofs.YtdhboldmffiklabDoor.chacha
open Go.RowKit
attribute [local go_sem ↓] Go.wp_at_zero Go.wp_at_succ
set_option linter.unusedVariables false
set_option maxRecDepth 100000

set_option maxRecDepth 100000 in
theorem known8 : (blockL (stAt ⟨#[0, 1, 2, 3, 4, 5, 6, 7, 8, 9, 10, 11, 12, 13, 14, 15, 16, 17, 18, 19, 20, 21, 22, 23, 24, 25, 26, 27, 28, 29, 30, 31]⟩ ⟨#[0, 0, 0, 9, 0, 0, 0, 74, 0, 0, 0, 0]⟩ 1)).take 8 = [16, 241, 231, 228, 209, 59, 89, 21] := by decide +kernel
theorem may_not (k n : ByteArray) (h : ¬ (k.size = 32 ∧ n.size = 12)) (w : World) : Calls Tryd.prog 123 #[.string k, .string n] w fun e w' => e = .returned (.bool false) ∧ Below w.heap.size w w' := by
  have := may_any k n w
  have e : (decide (k.size = 32) && decide (n.size = 12)) = false := by
    rw [← Bool.decide_and]; exact decide_eq_false h
  rwa [e] at this
theorem turn_none (k n s : ByteArray) (h : ¬ (k.size = 32 ∧ n.size = 12)) (w : World) : Calls Tryd.prog 124 #[.string k, .string n, .string s] w fun e w' => e = .returned (.string ⟨#[]⟩) ∧ Below w.heap.size w w' := by
  have hm := fun w' => may_not k n h w'
  clear h
  replace hm := Lib.hid hm
  go_enter Tryd.func124, Tryd.ntmps124
  go_wp2_with (go_at_call 123; (with_reducible refine (hm.out _).mono ?_); rintro e w1 ⟨rfl, b1⟩; replace b1 := Lib.hid b1)
  go_ret
  exact ⟨rfl, b1.out⟩
end Go.Proofs.YtdhboldmffiklabDoor.chacha
