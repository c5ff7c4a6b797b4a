/- The first anchor, there and back (package anchor); the law AnchorSlots. No condition. -/
import Derived.Test.YtdhboldmffiklabAnchor2
import Derived.Laws.Rows
import Derived.Laws.StructEq
import Derived.BigRegion
import Derived.Deep.RegionHeld3
import Derived.Test.YtdhboldmffiklabBox
namespace Go.Proofs.Ytdhboldmffiklab.anchor
open Go.RowKit
open Go.Proofs.Ytdhboldmffiklab.code
attribute [local go_sem ↓] Go.wp_at_zero Go.wp_at_succ
attribute [local go_sem] str_size
set_option linter.unusedVariables false
set_option maxRecDepth 100000

attribute [local go_sem ↓] yielded_undef
def H0 : List UInt8 := [108, 111, 100, 101, 0, 0, 0, 0, 0, 0, 0, 0, 0, 0, 0]
theorem numL_0 : numL 0 = [0] := by rw [numL_small _ (by decide)]; rfl
theorem beL_40 : beL 4 0 = [0, 0, 0, 0] := by decide
theorem h0_text (W : ByteArray) (h : W = str Z32) : (((((((((⟨#[108, 111, 100, 101]⟩ : ByteArray) ++ str [0]) ++ str [0, 0, 0, 0]) ++ str [0]) ++ str [0]) ++ (str [0] ++ str [0])) ++ str [0]) ++ str [0]) ++ W) = str (H0 ++ Z32) := by subst h; decide +kernel
theorem boolPut0 (w : World) : Calls Try.prog 52 #[.bool false] w fun e w' => e = .returned (.string (str [0])) ∧ Below w.heap.size w w' := by
  go_enter Try.func52, Try.ntmps52
  go_wp2
  go_ret
  exact ⟨rfl, Below.refl _ _⟩
theorem put_first (w : World) : Calls Try.prog 9 #[.agg #[.int .u64 0, .int .u32 0, .bool false, .string ⟨#[]⟩, .int .i64 (-1), .string ⟨#[]⟩, .int .i64 0, .int .i64 0, .string (str Z32)]] w fun e w' => e = .returned (.string (str (H0 ++ Z32))) ∧ Below w.heap.size w w' := by
  have c1 : ∀ w', Calls Try.prog 13 #[.agg #[.int .u64 0, .int .u32 0, .bool false, .string ⟨#[]⟩, .int .i64 (-1), .string ⟨#[]⟩, .int .i64 0, .int .i64 0, .string (str Z32)]] w' fun e w2 => e = .returned (.bool true) ∧ Below w'.heap.size w' w2 := fun w' => may_yes 0 0 false ⟨#[]⟩ (-1) ⟨#[]⟩ 0 0 (str Z32) w' (by decide) (fun _ => rfl) (by simp [mayRootB]) (by decide) (by decide) (by rw [str_size, Z32_len])
  have c2 : ∀ w', Calls Try.prog 50 #[.int .u64 0] w' fun e w2 => e = .returned (.string (str [0])) ∧ Below w'.heap.size w' w2 := fun w' => numL_0 ▸ num_any 0 (by omega) w'
  have c3 : ∀ w', Calls Try.prog 51 #[.int .u32 0] w' fun e w2 => e = .returned (.string (str [0, 0, 0, 0])) ∧ Below w'.heap.size w' w2 := fun w' => beL_40 ▸ small_put 0 (by omega) w'
  have c4 : ∀ w', Calls Try.prog 52 #[.bool false] w' fun e w2 => e = .returned (.string (str [0])) ∧ Below w'.heap.size w' w2 := fun w' => boolPut0 w'
  have c5 : ∀ w', Calls Try.prog 53 #[.string ⟨#[]⟩] w' fun e w2 => e = .returned (.string (str [0])) ∧ Below w'.heap.size w' w2 := fun w' => by
    have h : Calls Try.prog 53 #[.string ⟨#[]⟩] w' fun e w2 => e = .returned (.string (str (numL 0 ++ []))) ∧ Below w'.heap.size w' w2 := text_any ⟨#[]⟩ (by decide) w'
    rw [numL_0] at h; exact h
  have c2x : ∀ w' (x : Int), x = 0 → Calls Try.prog 50 #[.int .u64 x] w' fun e w2 => e = .returned (.string (str [0])) ∧ Below w'.heap.size w' w2 := fun w' x hx => by subst hx; exact c2 w'
  obtain ⟨W32, hW⟩ : ∃ x, x = str Z32 := ⟨_, rfl⟩
  have hz : W32.size = 32 := by rw [hW, str_size, Z32_len]
  have ht := h0_text W32 hW
  rw [← hW] at c1
  rw [← hW]
  rw [← ht]
  clear hW ht
  replace c2x := Lib.hid c2x; replace c1 := Lib.hid c1; replace c2 := Lib.hid c2; replace c3 := Lib.hid c3; replace c4 := Lib.hid c4; replace c5 := Lib.hid c5
  go_enter Try.func9, Try.ntmps9
  go_upto_region 3 with (first
    | (go_at_call 13; (with_reducible refine (c1.out _).mono ?_); rintro e w1 ⟨rfl, b1⟩; obtain ⟨hrow, hc2, hfree, hbel⟩ := boxRow b1; have d0 := hc2 0; have d1 := hc2 1; have d2 := hc2 2; have d3 := hc2 3; have d4 := hc2 4; have d5 := hc2 5; have d6 := hc2 6; have d7 := hc2 7; have d8 := hc2 8; clear hc2 hfree; have hlt := block_lt hrow; replace hlt := Lib.hid hlt; clear hrow; replace hbel := Lib.hid hbel; clear b1))
  go_region_held3 (fun w' => Below w.heap.size w w' ∧ w.heap.size < w'.heap.size ∧ w'.cell? ⟨w.heap.size, 0, none⟩ = some (.int .u64 0) ∧ w'.cell? ⟨w.heap.size, 1, none⟩ = some (.int .u32 0) ∧ w'.cell? ⟨w.heap.size, 2, none⟩ = some (.bool false) ∧ w'.cell? ⟨w.heap.size, 3, none⟩ = some (.string ⟨#[]⟩) ∧ w'.cell? ⟨w.heap.size, 4, none⟩ = some (.int .i64 (-1)) ∧ w'.cell? ⟨w.heap.size, 5, none⟩ = some (.string ⟨#[]⟩) ∧ w'.cell? ⟨w.heap.size, 6, none⟩ = some (.int .i64 0) ∧ w'.cell? ⟨w.heap.size, 7, none⟩ = some (.int .i64 0) ∧ w'.cell? ⟨w.heap.size, 8, none⟩ = some (.string W32))
    (first | exact ⟨hbel.out.drew, hlt.out, d0, d1, d2, d3, d4, d5, d6, d7, d8⟩ | (go_split_ands; exact ⟨by assumption, by assumption, by assumption, by assumption, by assumption, by assumption, by assumption, by assumption, by assumption, by assumption, by assumption⟩) | (go_split_ands; exact ⟨belowCont (by assumption) (by assumption), Nat.lt_of_lt_of_le (by assumption) (Below.size (by assumption)), (Below.cell (by assumption) (by assumption)).trans (by assumption), (Below.cell (by assumption) (by assumption)).trans (by assumption), (Below.cell (by assumption) (by assumption)).trans (by assumption), (Below.cell (by assumption) (by assumption)).trans (by assumption), (Below.cell (by assumption) (by assumption)).trans (by assumption), (Below.cell (by assumption) (by assumption)).trans (by assumption), (Below.cell (by assumption) (by assumption)).trans (by assumption), (Below.cell (by assumption) (by assumption)).trans (by assumption), (Below.cell (by assumption) (by assumption)).trans (by assumption)⟩))
    (first
      | (go_at_call 50; (with_reducible refine (c2.out _).mono ?_); rintro e w1 ⟨rfl, hb⟩)
      | (go_at_call 50; (with_reducible refine (c2x.out _ _ (by decide)).mono ?_); rintro e w1 ⟨rfl, hb⟩)
      | (go_at_call 51; (with_reducible refine (c3.out _).mono ?_); rintro e w1 ⟨rfl, hb⟩)
      | (go_at_call 52; (with_reducible refine (c4.out _).mono ?_); rintro e w1 ⟨rfl, hb⟩)
      | (go_at_call 53; (with_reducible refine (c5.out _).mono ?_); rintro e w1 ⟨rfl, hb⟩))
  go_upto_region 4 with fail
  go_region_held3 (fun w' => Below w.heap.size w w' ∧ w.heap.size < w'.heap.size ∧ w'.cell? ⟨w.heap.size, 0, none⟩ = some (.int .u64 0) ∧ w'.cell? ⟨w.heap.size, 1, none⟩ = some (.int .u32 0) ∧ w'.cell? ⟨w.heap.size, 2, none⟩ = some (.bool false) ∧ w'.cell? ⟨w.heap.size, 3, none⟩ = some (.string ⟨#[]⟩) ∧ w'.cell? ⟨w.heap.size, 4, none⟩ = some (.int .i64 (-1)) ∧ w'.cell? ⟨w.heap.size, 5, none⟩ = some (.string ⟨#[]⟩) ∧ w'.cell? ⟨w.heap.size, 6, none⟩ = some (.int .i64 0) ∧ w'.cell? ⟨w.heap.size, 7, none⟩ = some (.int .i64 0) ∧ w'.cell? ⟨w.heap.size, 8, none⟩ = some (.string W32))
    (first | (go_split_ands; exact ⟨Below.drew (by assumption), by assumption, by assumption, by assumption, by assumption, by assumption, by assumption, by assumption, by assumption, by assumption, by assumption⟩) | (go_split_ands; exact ⟨by assumption, by assumption, by assumption, by assumption, by assumption, by assumption, by assumption, by assumption, by assumption, by assumption, by assumption⟩) | (go_split_ands; exact ⟨belowCont (by assumption) (by assumption), Nat.lt_of_lt_of_le (by assumption) (Below.size (by assumption)), (Below.cell (by assumption) (by assumption)).trans (by assumption), (Below.cell (by assumption) (by assumption)).trans (by assumption), (Below.cell (by assumption) (by assumption)).trans (by assumption), (Below.cell (by assumption) (by assumption)).trans (by assumption), (Below.cell (by assumption) (by assumption)).trans (by assumption), (Below.cell (by assumption) (by assumption)).trans (by assumption), (Below.cell (by assumption) (by assumption)).trans (by assumption), (Below.cell (by assumption) (by assumption)).trans (by assumption), (Below.cell (by assumption) (by assumption)).trans (by assumption)⟩))
    (first
      | (go_at_call 50; (with_reducible refine (c2.out _).mono ?_); rintro e w1 ⟨rfl, hb⟩)
      | (go_at_call 50; (with_reducible refine (c2x.out _ _ (by decide)).mono ?_); rintro e w1 ⟨rfl, hb⟩)
      | (go_at_call 51; (with_reducible refine (c3.out _).mono ?_); rintro e w1 ⟨rfl, hb⟩)
      | (go_at_call 52; (with_reducible refine (c4.out _).mono ?_); rintro e w1 ⟨rfl, hb⟩)
      | (go_at_call 53; (with_reducible refine (c5.out _).mono ?_); rintro e w1 ⟨rfl, hb⟩))
  go_upto_region 5 with fail
  go_region_held3 (fun w' => Below w.heap.size w w' ∧ w.heap.size < w'.heap.size ∧ w'.cell? ⟨w.heap.size, 0, none⟩ = some (.int .u64 0) ∧ w'.cell? ⟨w.heap.size, 1, none⟩ = some (.int .u32 0) ∧ w'.cell? ⟨w.heap.size, 2, none⟩ = some (.bool false) ∧ w'.cell? ⟨w.heap.size, 3, none⟩ = some (.string ⟨#[]⟩) ∧ w'.cell? ⟨w.heap.size, 4, none⟩ = some (.int .i64 (-1)) ∧ w'.cell? ⟨w.heap.size, 5, none⟩ = some (.string ⟨#[]⟩) ∧ w'.cell? ⟨w.heap.size, 6, none⟩ = some (.int .i64 0) ∧ w'.cell? ⟨w.heap.size, 7, none⟩ = some (.int .i64 0) ∧ w'.cell? ⟨w.heap.size, 8, none⟩ = some (.string W32))
    (first | (go_split_ands; exact ⟨Below.drew (by assumption), by assumption, by assumption, by assumption, by assumption, by assumption, by assumption, by assumption, by assumption, by assumption, by assumption⟩) | (go_split_ands; exact ⟨by assumption, by assumption, by assumption, by assumption, by assumption, by assumption, by assumption, by assumption, by assumption, by assumption, by assumption⟩) | (go_split_ands; exact ⟨belowCont (by assumption) (by assumption), Nat.lt_of_lt_of_le (by assumption) (Below.size (by assumption)), (Below.cell (by assumption) (by assumption)).trans (by assumption), (Below.cell (by assumption) (by assumption)).trans (by assumption), (Below.cell (by assumption) (by assumption)).trans (by assumption), (Below.cell (by assumption) (by assumption)).trans (by assumption), (Below.cell (by assumption) (by assumption)).trans (by assumption), (Below.cell (by assumption) (by assumption)).trans (by assumption), (Below.cell (by assumption) (by assumption)).trans (by assumption), (Below.cell (by assumption) (by assumption)).trans (by assumption), (Below.cell (by assumption) (by assumption)).trans (by assumption)⟩))
    (first
      | (go_at_call 50; (with_reducible refine (c2.out _).mono ?_); rintro e w1 ⟨rfl, hb⟩)
      | (go_at_call 50; (with_reducible refine (c2x.out _ _ (by decide)).mono ?_); rintro e w1 ⟨rfl, hb⟩)
      | (go_at_call 51; (with_reducible refine (c3.out _).mono ?_); rintro e w1 ⟨rfl, hb⟩)
      | (go_at_call 52; (with_reducible refine (c4.out _).mono ?_); rintro e w1 ⟨rfl, hb⟩)
      | (go_at_call 53; (with_reducible refine (c5.out _).mono ?_); rintro e w1 ⟨rfl, hb⟩))
  go_wp2
  go_ret
  go_split_ands
  exact ⟨rfl, by assumption⟩
end Go.Proofs.Ytdhboldmffiklab.anchor
