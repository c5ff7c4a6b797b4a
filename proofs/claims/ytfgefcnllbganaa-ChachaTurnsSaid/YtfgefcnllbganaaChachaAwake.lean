/- The first thing that each law of package chacha asks: a known block; keys and nonces of right lengths; what a key or nonce of another length gives. No condition. -/
import Derived.Test.YtfgefcnllbganaaChacha7
namespace Go.Proofs.Ytfgefcnllbganaa.chacha
open Go.RowKit
attribute [local go_sem ↓] Go.wp_at_zero Go.wp_at_succ
set_option linter.unusedVariables false

set_option maxRecDepth 100000 in
theorem known8 : (blockL (stAt ⟨#[0, 1, 2, 3, 4, 5, 6, 7, 8, 9, 10, 11, 12, 13, 14, 15, 16, 17, 18, 19, 20, 21, 22, 23, 24, 25, 26, 27, 28, 29, 30, 31]⟩ ⟨#[0, 0, 0, 9, 0, 0, 0, 74, 0, 0, 0, 0]⟩ 1)).take 8 = [16, 241, 231, 228, 209, 59, 89, 21] := by decide +kernel
theorem awake_any (w : World) : Calls Try.prog 8 #[] w fun e w' => e = .returned (.bool true) ∧ Below w.heap.size w w' := by
  have hb : ∀ w', Calls Try.prog 9 #[.string ⟨#[0, 1, 2, 3, 4, 5, 6, 7, 8, 9, 10, 11, 12, 13, 14, 15, 16, 17, 18, 19, 20, 21, 22, 23, 24, 25, 26, 27, 28, 29, 30, 31]⟩, .string ⟨#[0, 0, 0, 9, 0, 0, 0, 74, 0, 0, 0, 0]⟩, .int .u32 1] w' fun e w2 => e = .returned (.string (str (blockU (stAt ⟨#[0, 1, 2, 3, 4, 5, 6, 7, 8, 9, 10, 11, 12, 13, 14, 15, 16, 17, 18, 19, 20, 21, 22, 23, 24, 25, 26, 27, 28, 29, 30, 31]⟩ ⟨#[0, 0, 0, 9, 0, 0, 0, 74, 0, 0, 0, 0]⟩ 1)))) ∧ Below w'.heap.size w' w2 := fun w' => block_any _ _ 1 (by decide) (by decide) (by decide) w'
  obtain ⟨T, hT⟩ : ∃ T, T = str (blockU (stAt ⟨#[0, 1, 2, 3, 4, 5, 6, 7, 8, 9, 10, 11, 12, 13, 14, 15, 16, 17, 18, 19, 20, 21, 22, 23, 24, 25, 26, 27, 28, 29, 30, 31]⟩ ⟨#[0, 0, 0, 9, 0, 0, 0, 74, 0, 0, 0, 0]⟩ 1)) := ⟨_, rfl⟩
  have h1 : T.size = 64 := by rw [hT, str_size, blockU_len]
  have h2 : T.extract 0 8 = ⟨#[16, 241, 231, 228, 209, 59, 89, 21]⟩ := by
    rw [hT, cut_extract, blockU, List.drop_zero, ← List.map_take, known8]
    rfl
  rw [← hT] at hb
  clear hT
  replace hb := Lib.hid hb
  go_enter Try.func8, Try.ntmps8
  go_wp2_with (go_at_call 9; (with_reducible refine (hb.out _).mono ?_); rintro e w1 ⟨rfl, b1⟩; replace b1 := Lib.hid b1)
  go_ret
  exact ⟨rfl, b1.out⟩
theorem may_not (k n : ByteArray) (h : ¬ (k.size = 32 ∧ n.size = 12)) (w : World) : Calls Try.prog 15 #[.string k, .string n] w fun e w' => e = .returned (.bool false) ∧ Below w.heap.size w w' := by
  have := may_any k n w
  have e : (decide (k.size = 32) && decide (n.size = 12)) = false := by
    rw [← Bool.decide_and]; exact decide_eq_false h
  rwa [e] at this
theorem block_none (k n : ByteArray) (a : Int) (h : ¬ (k.size = 32 ∧ n.size = 12)) (w : World) : Calls Try.prog 9 #[.string k, .string n, .int .u32 a] w fun e w' => e = .returned (.string ⟨#[]⟩) ∧ Below w.heap.size w w' := by
  have hm := fun w' => may_not k n h w'
  clear h
  replace hm := Lib.hid hm
  go_enter Try.func9, Try.ntmps9
  go_wp2_with (go_at_call 15; (with_reducible refine (hm.out _).mono ?_); rintro e w1 ⟨rfl, b1⟩; replace b1 := Lib.hid b1)
  go_ret
  exact ⟨rfl, b1.out⟩
theorem turn_none (k n s : ByteArray) (h : ¬ (k.size = 32 ∧ n.size = 12)) (w : World) : Calls Try.prog 13 #[.string k, .string n, .string s] w fun e w' => e = .returned (.string ⟨#[]⟩) ∧ Below w.heap.size w w' := by
  have hm := fun w' => may_not k n h w'
  clear h
  replace hm := Lib.hid hm
  go_enter Try.func13, Try.ntmps13
  go_wp2_with (go_at_call 15; (with_reducible refine (hm.out _).mono ?_); rintro e w1 ⟨rfl, b1⟩; replace b1 := Lib.hid b1)
  go_ret
  exact ⟨rfl, b1.out⟩
end Go.Proofs.Ytfgefcnllbganaa.chacha
