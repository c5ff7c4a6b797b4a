/- An anchor and the next one stand in two blocks: the law AnchorSlots. No condition. -/
import Derived.Test.YtaldakkbfbpnkabAnchor5
import Derived.Test.YtaldakkbfbpnkabCodePuts
namespace Go.Proofs.Ytaldakkbfbpnkab.anchor
open Go.RowKit
open Go.Proofs.Ytaldakkbfbpnkab.code
attribute [local go_sem ↓] Go.wp_at_zero Go.wp_at_succ
attribute [local go_sem] str_size
set_option linter.unusedVariables false
set_option maxRecDepth 100000
attribute [local go_sem ↓] yielded_undef
theorem numL_ne (n : Nat) : numL n ≠ [] := by
  by_cases h : n < 128
  · rw [numL_small n h]; simp
  · rw [numL_big n h]; simp
theorem anchorSlots_walk (a0 : Int) (w : World) (w0 : (Lit.int .u64 a0).wf = true) :
    Calls Try.prog 10 #[.int .u64 a0] w fun e w' => e = .returned (.bool true) ∧ Below w.heap.size w w' := by
  have hr : 0 ≤ a0 ∧ a0 ≤ 18446744073709551615 := by simpa [Lit.wf, IntKind.min, IntKind.max, IntKind.signed, IntKind.bits] using w0
  clear w0
  obtain ⟨n, hn⟩ : ∃ n : Nat, (n : Int) = a0 / 2 := ⟨(a0 / 2).toNat, by omega⟩
  have hs : IntKind.u64.wrap ((n : Int) + 1) = (n : Int) + 1 := IntWalk.u64_in _ (by omega)
  have c1 : ∀ w' x, 0 ≤ x ∧ x < 18446744073709551616 → Calls Try.prog 45 #[.agg #[.int .u64 x, .int .u32 0, .bool false, .string ⟨#[]⟩, .int .i64 0, .string ⟨#[]⟩, .int .i64 0, .int .i64 0, .string ⟨#[]⟩]] w' fun e w2 => e = .returned (.int .i64 (x % 2)) ∧ Below w'.heap.size w' w2 := fun w' x h => slot_mod x 0 false ⟨#[]⟩ 0 ⟨#[]⟩ 0 0 ⟨#[]⟩ w' h
  have hn64 : 0 ≤ (n : Int) ∧ (n : Int) < 18446744073709551616 := by omega
  have hn65 : 0 ≤ (n : Int) + 1 ∧ (n : Int) + 1 < 18446744073709551616 := by omega
  have c2 : ∀ w', Calls Try.prog 47 #[.int .u64 (n : Int)] w' fun e w2 => e = .returned (.string (str (numL n))) ∧ Below w'.heap.size w' w2 := fun w' => refNum_any n (by omega) w'
  obtain ⟨T, hT⟩ : ∃ t, t = str (numL n) := ⟨_, rfl⟩
  have hT1 : ¬ T.toList = [] := by rw [hT, ByteArray.toList_eq, str_toList]; exact numL_ne n
  have hT2 : (T.toList == []) = false := by simpa using hT1
  rw [← hT] at c2
  have hbb := Below.refl w.heap.size w
  obtain ⟨p, q, hp, hq, hpq⟩ : ∃ p q : Int, (n : Int) % 2 = p ∧ ((n : Int) + 1) % 2 = q ∧ ((p = 0 ∧ q = 1) ∨ (p = 1 ∧ q = 0)) := ⟨_, _, rfl, rfl, by omega⟩
  have c3 : ∀ w', Calls Try.prog 45 #[.agg #[.int .u64 (n : Int), .int .u32 0, .bool false, .string ⟨#[]⟩, .int .i64 0, .string ⟨#[]⟩, .int .i64 0, .int .i64 0, .string ⟨#[]⟩]] w' fun e w2 => e = .returned (.int .i64 p) ∧ Below w'.heap.size w' w2 := fun w' => by rw [← hp]; exact c1 w' _ hn64
  have c4 : ∀ w', Calls Try.prog 45 #[.agg #[.int .u64 ((n : Int) + 1), .int .u32 0, .bool false, .string ⟨#[]⟩, .int .i64 0, .string ⟨#[]⟩, .int .i64 0, .int .i64 0, .string ⟨#[]⟩]] w' fun e w2 => e = .returned (.int .i64 q) ∧ Below w'.heap.size w' w2 := fun w' => by rw [← hq]; exact c1 w' _ hn65
  have hw1 : IntKind.i64.wrap p = p := by rcases hpq with ⟨rfl, rfl⟩ | ⟨rfl, rfl⟩ <;> rfl
  have hn' := hn.symm
  clear hT hn c1 hn64 hn65 hr
  replace c2 := Lib.hid c2; replace c3 := Lib.hid c3; replace c4 := Lib.hid c4; replace hbb := Lib.hid hbb
  rcases hpq with ⟨rfl, rfl⟩ | ⟨rfl, rfl⟩
  all_goals (
    go_enter Try.func10, Try.ntmps10
    go_wp2_with (first
      | (go_at_call 45; (with_reducible refine (c3.out _).mono ?_); rintro e w1 ⟨rfl, b1⟩; replace hbb := Lib.hid (belowCont hbb.out b1); clear b1)
      | (go_at_call 45; (with_reducible refine (c4.out _).mono ?_); rintro e w1 ⟨rfl, b1⟩; replace hbb := Lib.hid (belowCont hbb.out b1); clear b1)
      | (go_at_call 46; (with_reducible refine (aawake_any _).mono ?_); rintro e w1 ⟨rfl, b1⟩; replace hbb := Lib.hid (belowCont hbb.out b1); clear b1)
      | (go_at_call 47; (with_reducible refine (c2.out _).mono ?_); rintro e w1 ⟨rfl, b1⟩; replace hbb := Lib.hid (belowCont hbb.out b1); clear b1)))

  all_goals go_ret
  all_goals exact ⟨rfl, hbb.out⟩
end Go.Proofs.Ytaldakkbfbpnkab.anchor
