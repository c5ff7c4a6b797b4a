/- Where things stand, and edges beside nodes (package record: Key, Beside), and the document's (lodestoneref26.Key). No other condition. -/
import Derived.Test.YtcdgnhhciccoeaaDoorOrderNum
namespace Go.Proofs.YtcdgnhhciccoeaaDoor.order
open Go.RowKit
attribute [local go_sem ↓] Go.wp_at_zero Go.wp_at_succ
attribute [local go_sem] str_size
set_option linter.unusedVariables false
set_option maxRecDepth 100000

/-- a number's part of a key, as a text -/
def numB (n : Nat) : ByteArray := str (numP n)
theorem numB_size (n : Nat) : (numB n).size ≤ 9 := by
  unfold numB; rw [str_size]; unfold numP
  have := dropWhile_len (beL 8 n)
  rw [beL_length] at this
  simp only [List.length_cons, List.length_append]; omega
theorem onumB (n : Nat) (w : World) : Calls Tryd.prog 87 #[.int .u64 (n : Int)] w fun e w' => e = .returned (.string (numB n)) ∧ Below w.heap.size w w' := onum_any n w
def markE (e : Bool) : ByteArray := if e then ⟨#[101]⟩ else ⟨#[110]⟩
def markO (o : Bool) : ByteArray := if o then ⟨#[111]⟩ else ⟨#[105]⟩
theorem key_any (e : Bool) (n : Nat) (w : World) : Calls Tryd.prog 42 #[.bool e, .int .u64 (n : Int)] w fun r w' => r = .returned (.string (markE e ++ numB n)) ∧ Below w.heap.size w w' := by
  have c := fun w' => onumB n w'
  have hs := numB_size n
  obtain ⟨B, hB⟩ : ∃ B, B = numB n := ⟨_, rfl⟩
  rw [← hB] at hs ⊢
  simp only [← hB] at c
  clear hB
  replace c := Lib.hid c
  cases e
  all_goals (
    go_enter Tryd.func42, Tryd.ntmps42
    go_wp2_with (go_at_call 87; (with_reducible refine (c.out _).mono ?_); rintro r w1 ⟨rfl, b1⟩; replace b1 := Lib.hid b1)
    go_ret
    exact ⟨rfl, b1.out⟩)
end Go.Proofs.YtcdgnhhciccoeaaDoor.order
