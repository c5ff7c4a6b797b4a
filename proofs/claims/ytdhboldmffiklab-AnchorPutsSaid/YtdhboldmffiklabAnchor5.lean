/- An anchor and the next one stand in two blocks: the law AnchorSlots. No condition. -/
import Derived.Test.YtdhboldmffiklabAnchor4
namespace Go.Proofs.Ytdhboldmffiklab.anchor
open Go.RowKit
open Go.Proofs.Ytdhboldmffiklab.code
attribute [local go_sem ↓] Go.wp_at_zero Go.wp_at_succ
attribute [local go_sem] str_size
set_option linter.unusedVariables false
set_option maxRecDepth 100000
attribute [local go_sem ↓] yielded_undef
set_option maxHeartbeats 1000000 in
theorem aawake_any (w : World) : Calls Try.prog 11 #[] w fun e w' => e = .returned (.bool true) ∧ Below w.heap.size w w' := by
  have c1 := first_any
  have c2 := put_first
  have c3 := get_first
  have c4 : ∀ w', Calls Try.prog 13 #[.agg #[.int .u64 0, .int .u32 0, .bool false, .string ⟨#[]⟩, .int .i64 (-1), .string ⟨#[]⟩, .int .i64 0, .int .i64 0, .string (str Z32)]] w' fun e w2 => e = .returned (.bool true) ∧ Below w'.heap.size w' w2 := fun w' => may_yes 0 0 false ⟨#[]⟩ (-1) ⟨#[]⟩ 0 0 (str Z32) w' (by decide) (fun _ => rfl) (by simp [mayRootB]) (by decide) (by decide) (by rw [str_size, Z32_len])
  obtain ⟨Z, hZ⟩ : ∃ z, z = str Z32 := ⟨_, rfl⟩
  obtain ⟨T, hT⟩ : ∃ z, z = str (H0 ++ Z32) := ⟨_, rfl⟩
  rw [← hZ] at c4
  simp only [← hZ, ← hT] at c1 c2 c3
  have hse : (Z.toList == Z.toList) = true := by simp
  have hbb := Below.refl w.heap.size w
  clear hZ hT
  replace c1 := Lib.hid c1; replace c2 := Lib.hid c2; replace c3 := Lib.hid c3; replace c4 := Lib.hid c4; replace hbb := Lib.hid hbb
  go_enter Try.func11, Try.ntmps11
  go_upto_region 2 with (first
    | (go_at_call 62; (with_reducible refine (c1.out _).mono ?_); rintro e w1 ⟨rfl, b1⟩; replace hbb := Lib.hid (belowCont hbb.out b1); clear b1)
    | (go_at_call 9; (with_reducible refine (c2.out _).mono ?_); rintro e w1 ⟨rfl, b1⟩; replace hbb := Lib.hid (belowCont hbb.out b1); clear b1)
    | (go_at_call 10; (with_reducible refine (c3.out _).mono ?_); rintro e w1 ⟨rfl, b1⟩; replace hbb := Lib.hid (belowCont hbb.out b1); clear b1)
    | (go_at_call 13; (with_reducible refine (c4.out _).mono ?_); rintro e w1 ⟨rfl, b1⟩; replace hbb := Lib.hid (belowCont hbb.out b1); clear b1))
  have hwa : Below w.heap.size w (w1.alloc (.cells #[.int .u64 0, .int .u32 0, .bool false, .string ⟨#[]⟩, .int .i64 (-1), .string ⟨#[]⟩, .int .i64 0, .int .i64 0, .string Z] 27)) := hbb.out.alloc hbb.out.size _
  have hla : w1.heap.size < (w1.alloc (.cells #[.int .u64 0, .int .u32 0, .bool false, .string ⟨#[]⟩, .int .i64 (-1), .string ⟨#[]⟩, .int .i64 0, .int .i64 0, .string Z] 27)).heap.size := by simp
  have hce : ∀ i, (w1.alloc (.cells #[.int .u64 0, .int .u32 0, .bool false, .string ⟨#[]⟩, .int .i64 (-1), .string ⟨#[]⟩, .int .i64 0, .int .i64 0, .string Z] 27)).cell? ⟨w1.heap.size, i, none⟩ = (#[.int .u64 0, .int .u32 0, .bool false, .string ⟨#[]⟩, .int .i64 (-1), .string ⟨#[]⟩, .int .i64 0, .int .i64 0, .string Z] : Array Value)[i]? := fun i => newCell w1 _ _ i
  generalize w1.alloc (.cells #[.int .u64 0, .int .u32 0, .bool false, .string ⟨#[]⟩, .int .i64 (-1), .string ⟨#[]⟩, .int .i64 0, .int .i64 0, .string Z] 27) = wa at *
  generalize w1.heap.size = g at *
  have d0 := hce 0
  have d1 := hce 1
  have d2 := hce 2
  have d3 := hce 3
  have d4 := hce 4
  have d5 := hce 5
  have d6 := hce 6
  have d7 := hce 7
  have d8 := hce 8
  replace hwa := Lib.hid hwa; replace hla := Lib.hid hla; clear hce
  go_region_held3 (fun w' => Below w.heap.size w w' ∧ g < w'.heap.size ∧ w'.cell? ⟨g, 0, none⟩ = some (.int .u64 0) ∧ w'.cell? ⟨g, 1, none⟩ = some (.int .u32 0) ∧ w'.cell? ⟨g, 2, none⟩ = some (.bool false) ∧ w'.cell? ⟨g, 3, none⟩ = some (.string ⟨#[]⟩) ∧ w'.cell? ⟨g, 4, none⟩ = some (.int .i64 (-1)) ∧ w'.cell? ⟨g, 5, none⟩ = some (.string ⟨#[]⟩) ∧ w'.cell? ⟨g, 6, none⟩ = some (.int .i64 0) ∧ w'.cell? ⟨g, 7, none⟩ = some (.int .i64 0) ∧ w'.cell? ⟨g, 8, none⟩ = some (.string Z))
    (first | exact ⟨hwa.out.drew, hla.out, d0, d1, d2, d3, d4, d5, d6, d7, d8⟩ | (go_split_ands; exact ⟨by assumption, by assumption, by assumption, by assumption, by assumption, by assumption, by assumption, by assumption, by assumption, by assumption, by assumption⟩) | (go_split_ands; exact ⟨belowCont (by assumption) (by assumption), Nat.lt_of_lt_of_le (by assumption) (Below.size (by assumption)), (Below.cell (by assumption) (by assumption)).trans (by assumption), (Below.cell (by assumption) (by assumption)).trans (by assumption), (Below.cell (by assumption) (by assumption)).trans (by assumption), (Below.cell (by assumption) (by assumption)).trans (by assumption), (Below.cell (by assumption) (by assumption)).trans (by assumption), (Below.cell (by assumption) (by assumption)).trans (by assumption), (Below.cell (by assumption) (by assumption)).trans (by assumption), (Below.cell (by assumption) (by assumption)).trans (by assumption), (Below.cell (by assumption) (by assumption)).trans (by assumption)⟩))
    (first
      | (go_at_call 62; (with_reducible refine (c1.out _).mono ?_); rintro e w1 ⟨rfl, hb⟩)
      | (go_at_call 13; (with_reducible refine (c4.out _).mono ?_); rintro e w1 ⟨rfl, hb⟩))
  all_goals go_wp2
  all_goals go_ret
  all_goals (go_split_ands; exact ⟨rfl, by assumption⟩)
end Go.Proofs.Ytdhboldmffiklab.anchor
