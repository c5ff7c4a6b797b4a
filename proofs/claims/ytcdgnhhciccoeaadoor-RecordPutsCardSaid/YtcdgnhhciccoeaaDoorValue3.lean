/- How values are put, value by value (package value, and the document's: lodestoneref23). No condition. -/
import Derived.Test.YtcdgnhhciccoeaaDoorValue2
namespace Go.Proofs.YtcdgnhhciccoeaaDoor.value
open Go.RowKit
attribute [local go_sem ↓] Go.wp_at_zero Go.wp_at_succ
attribute [local go_sem] str_size str_append conv_one conv_one_drew
set_option linter.unusedVariables false
set_option maxRecDepth 100000

def rwordsB (m : Bool) (k : Int) (z : Nat) : Bool := m && decide (0 < k) && decide ((z : Int) ≤ 32)
theorem num_small (n : Nat) (h : n < 128) (w : World) : Calls Tryd.prog 32 #[.int .u64 (n : Int)] w fun e w' => e = .returned (.string (str [UInt8.ofNat n])) ∧ Below w.heap.size w w' := by
  have := code.num_any n (by omega) w
  rwa [code.numL_small n h] at this
theorem num_0 (w : World) : Calls Tryd.prog 32 #[.int .u64 0] w fun e w' => e = .returned (.string (str [0])) ∧ Below w.heap.size w w' := num_small 0 (by decide) w
theorem num_1 (w : World) : Calls Tryd.prog 32 #[.int .u64 1] w fun e w' => e = .returned (.string (str [1])) ∧ Below w.heap.size w w' := num_small 1 (by decide) w
theorem num_2 (w : World) : Calls Tryd.prog 32 #[.int .u64 2] w fun e w' => e = .returned (.string (str [2])) ∧ Below w.heap.size w w' := num_small 2 (by decide) w
theorem num_3 (w : World) : Calls Tryd.prog 32 #[.int .u64 3] w fun e w' => e = .returned (.string (str [3])) ∧ Below w.heap.size w w' := num_small 3 (by decide) w
theorem bool_0 (w : World) : Calls Tryd.prog 31 #[.bool false] w fun e w' => e = .returned (.string (str [0])) ∧ Below w.heap.size w w' := code.boolPut_any false w
theorem bool_1 (w : World) : Calls Tryd.prog 31 #[.bool true] w fun e w' => e = .returned (.string (str [1])) ∧ Below w.heap.size w w' := code.boolPut_any true w

theorem put_none (w : World) : Calls Tryd.prog 33 #[.agg #[.int .i64 0, .int .i64 0, .string ⟨#[]⟩]] w fun e w' => e = .returned (.string (str [0])) ∧ Below w.heap.size w w' := by
  go_enter Tryd.func33, Tryd.ntmps33
  go_wp2_with (first
    | (go_at_call 77; (with_reducible refine (may_none _).mono ?_); rintro e w1 ⟨rfl, b1⟩; obtain ⟨c0, c1, c2, b2⟩ := box3 b1; replace b2 := Lib.hid b2; clear b1)
    | (go_at_call 32; (with_reducible refine (num_0 _).mono ?_); rintro e w2 ⟨rfl, b3⟩; replace c0 := (b3.cell (World.block_lt_of_cell? _ _ c0)).trans c0; replace c1 := (b3.cell (World.block_lt_of_cell? _ _ c1)).trans c1; replace c2 := (b3.cell (World.block_lt_of_cell? _ _ c2)).trans c2; replace b2 := Lib.hid (belowCont b2.out b3); clear b3))
  go_ret
  exact ⟨rfl, b2.out⟩
theorem put_0 (w : World) : Calls Tryd.prog 33 #[.agg #[.int .i64 1, .int .i64 0, .string ⟨#[]⟩]] w fun e w' => e = .returned (.string (str [1, 0])) ∧ Below w.heap.size w w' := by
  go_enter Tryd.func33, Tryd.ntmps33
  go_wp2_with (first
    | (go_at_call 77; (with_reducible refine (may_0 _).mono ?_); rintro e w1 ⟨rfl, b1⟩; obtain ⟨c0, c1, c2, b2⟩ := box3 b1; replace b2 := Lib.hid b2; clear b1)
    | (go_at_call 31; (with_reducible refine (bool_0 _).mono ?_); rintro e w2 ⟨rfl, b3⟩; replace b2 := Lib.hid (belowCont b2.out b3); clear b3)
    | (go_at_call 32; (with_reducible refine (num_1 _).mono ?_); rintro e w2 ⟨rfl, b3⟩; replace c0 := (b3.cell (World.block_lt_of_cell? _ _ c0)).trans c0; replace c1 := (b3.cell (World.block_lt_of_cell? _ _ c1)).trans c1; replace c2 := (b3.cell (World.block_lt_of_cell? _ _ c2)).trans c2; replace b2 := Lib.hid (belowCont b2.out b3); clear b3))
  go_ret
  exact ⟨rfl, b2.out⟩
theorem put_1 (w : World) : Calls Tryd.prog 33 #[.agg #[.int .i64 1, .int .i64 1, .string ⟨#[]⟩]] w fun e w' => e = .returned (.string (str [1, 1])) ∧ Below w.heap.size w w' := by
  go_enter Tryd.func33, Tryd.ntmps33
  go_wp2_with (first
    | (go_at_call 77; (with_reducible refine (may_1 _).mono ?_); rintro e w1 ⟨rfl, b1⟩; obtain ⟨c0, c1, c2, b2⟩ := box3 b1; replace b2 := Lib.hid b2; clear b1)
    | (go_at_call 31; (with_reducible refine (bool_1 _).mono ?_); rintro e w2 ⟨rfl, b3⟩; replace b2 := Lib.hid (belowCont b2.out b3); clear b3)
    | (go_at_call 32; (with_reducible refine (num_1 _).mono ?_); rintro e w2 ⟨rfl, b3⟩; replace c0 := (b3.cell (World.block_lt_of_cell? _ _ c0)).trans c0; replace c1 := (b3.cell (World.block_lt_of_cell? _ _ c1)).trans c1; replace c2 := (b3.cell (World.block_lt_of_cell? _ _ c2)).trans c2; replace b2 := Lib.hid (belowCont b2.out b3); clear b3))
  go_ret
  exact ⟨rfl, b2.out⟩
theorem put_int (n : Int) (u : Nat) (hu : IntKind.u64.wrap n = (u : Int)) (w : World) : Calls Tryd.prog 33 #[.agg #[.int .i64 2, .int .i64 n, .string ⟨#[]⟩]] w fun e w' => e = .returned (.string (str (2 :: code.beL 8 u))) ∧ Below w.heap.size w w' := by
  have cb := fun w' => code.big_put u w'
  have hl := code.beL_length 8 u
  generalize code.beL 8 u = l at cb hl ⊢
  replace cb := Lib.hid cb
  go_enter Tryd.func33, Tryd.ntmps33
  go_wp2_with (first
    | (go_at_call 77; (with_reducible refine (may_int n _).mono ?_); rintro e w1 ⟨rfl, b1⟩; obtain ⟨c0, c1, c2, b2⟩ := box3 b1; replace b2 := Lib.hid b2; clear b1)
    | (go_at_call 78; (with_reducible refine (cb.out _).mono ?_); rintro e w2 ⟨rfl, b3⟩; replace b2 := Lib.hid (belowCont b2.out b3); clear b3)
    | (go_at_call 32; (with_reducible refine (num_2 _).mono ?_); rintro e w2 ⟨rfl, b3⟩; replace c0 := (b3.cell (World.block_lt_of_cell? _ _ c0)).trans c0; replace c1 := (b3.cell (World.block_lt_of_cell? _ _ c1)).trans c1; replace c2 := (b3.cell (World.block_lt_of_cell? _ _ c2)).trans c2; replace b2 := Lib.hid (belowCont b2.out b3); clear b3))
  go_ret
  exact ⟨rfl, b2.out⟩
theorem put_txt (l : List UInt8) (hl : l.length ≤ 2000) (w : World) : Calls Tryd.prog 33 #[.agg #[.int .i64 3, .int .i64 0, .string (str l)]] w fun e w' => e = .returned (.string (str (3 :: (code.numL l.length ++ l)))) ∧ Below w.heap.size w w' := by
  have hz : (str l).size = l.length := str_size l
  have cm := fun w' => may_txt (str l) true (by simp [hz]; omega) w'
  have ct : ∀ w', Calls Tryd.prog 79 #[.string (str l)] w' fun e w2 => e = .returned (.string (str (code.numL l.length ++ l))) ∧ Below w'.heap.size w' w2 := fun w' => by
    have := code.text_any (str l) (by rw [hz]; omega) w'
    rwa [hz] at this
  have hn := code.numL_len64 l.length (by omega)
  have hroom : (code.numL l.length ++ l).length ≤ 3000 := by rw [List.length_append]; omega
  generalize code.numL l.length ++ l = q at ct hroom ⊢
  generalize str l = L at cm ct hz ⊢
  replace cm := Lib.hid cm; replace ct := Lib.hid ct
  clear hn hz hl
  go_enter Tryd.func33, Tryd.ntmps33
  go_wp2_with (first
    | (go_at_call 77; (with_reducible refine (cm.out _).mono ?_); rintro e w1 ⟨rfl, b1⟩; obtain ⟨c0, c1, c2, b2⟩ := box3 b1; replace b2 := Lib.hid b2; clear b1)
    | (go_at_call 79; (with_reducible refine (ct.out _).mono ?_); rintro e w2 ⟨rfl, b3⟩; replace b2 := Lib.hid (belowCont b2.out b3); clear b3)
    | (go_at_call 32; (with_reducible refine (num_3 _).mono ?_); rintro e w2 ⟨rfl, b3⟩; replace c0 := (b3.cell (World.block_lt_of_cell? _ _ c0)).trans c0; replace c1 := (b3.cell (World.block_lt_of_cell? _ _ c1)).trans c1; replace c2 := (b3.cell (World.block_lt_of_cell? _ _ c2)).trans c2; replace b2 := Lib.hid (belowCont b2.out b3); clear b3))
  go_ret
  exact ⟨rfl, b2.out⟩
theorem put_bad (k n : Int) (s : ByteArray) (hm : ∀ w', Calls Tryd.prog 77 #[.agg #[.int .i64 k, .int .i64 n, .string s]] w' fun e w2 => e = .returned (.bool false) ∧ Below w'.heap.size w' w2) (w : World) : Calls Tryd.prog 33 #[.agg #[.int .i64 k, .int .i64 n, .string s]] w fun e w' => e = .returned (.string ⟨#[]⟩) ∧ Below w.heap.size w w' := by
  replace hm := Lib.hid hm
  go_enter Tryd.func33, Tryd.ntmps33
  go_wp2_with (go_at_call 77; (with_reducible refine (hm.out _).mono ?_); rintro e w1 ⟨rfl, b1⟩; obtain ⟨c0, c1, c2, b2⟩ := box3 b1; replace b2 := Lib.hid b2; clear b1)
  go_ret
  exact ⟨rfl, b2.out⟩
theorem rput_bad (k n : Int) (s : ByteArray) (hm : ∀ w', Calls Tryd.prog 49 #[.agg #[.int .i64 k, .int .i64 n, .string s]] w' fun e w2 => e = .returned (.bool false) ∧ Below w'.heap.size w' w2) (w : World) : Calls Tryd.prog 45 #[.agg #[.int .i64 k, .int .i64 n, .string s]] w fun e w' => e = .returned (.string ⟨#[]⟩) ∧ Below w.heap.size w w' := by
  replace hm := Lib.hid hm
  go_enter Tryd.func45, Tryd.ntmps45
  go_wp2_with (go_at_call 49; (with_reducible refine (hm.out _).mono ?_); rintro e w1 ⟨rfl, b1⟩; obtain ⟨c0, c1, c2, b2⟩ := box3 b1; replace b2 := Lib.hid b2; clear b1)
  go_ret
  exact ⟨rfl, b2.out⟩
end Go.Proofs.YtcdgnhhciccoeaaDoor.value
