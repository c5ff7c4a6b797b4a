/- The law RecordKeys, whole. The world's shape is a premise. No other condition. -/
import Derived.Test.YtebhdlecekjhgaaDoorRecord3
import Derived.Test.YtebhdlecekjhgaaDoorRecordL
namespace Go.Proofs.YtebhdlecekjhgaaDoor.rec
open Go.RowKit
attribute [local go_sem ↓] Go.wp_at_zero Go.wp_at_succ
set_option linter.unusedVariables false
set_option maxRecDepth 100000

theorem key_one (w : World) : Calls Tryd.prog 32 #[.bool false, .int .u64 1] w fun e w' => e = .returned (.string ⟨#[110, 17, 1]⟩) ∧ Below w.heap.size w w' := by
  have e : order.markE false ++ order.numB 1 = ⟨#[110, 17, 1]⟩ := by decide +kernel
  have := order.key_any false 1 w
  rwa [e] at this
theorem awake_any (w : World) : Calls Tryd.prog 31 #[] w fun e w' => e = .returned (.bool true) ∧ Below w.heap.size w w' := by
  have cp := put_13 w.heap.size 2 (w.alloc (.cells #[.int .i64 1, .int .i64 3] 3)) (newCell w _ _ 0) (newCell w _ _ 1)
  replace cp := Lib.hid cp
  go_enter Tryd.func31, Tryd.ntmps31
  go_wp2_with (first
    | (go_at_call 70; (with_reducible refine cp.out.mono ?_); rintro e w1 ⟨rfl, b1⟩; replace b1 := Lib.hid (boxRow b1).2.2.2)
    | (go_at_call 69; (with_reducible refine (get_13 _).mono ?_); rintro e w2 ⟨q, c, rfl, x0, x1, b2⟩; have y0 := (World.cell?_alloc_some w2 ⟨q, 0, none⟩); have y1 : ∀ o, (w2.alloc o).cell? ⟨q, 1, none⟩ = some (.int .i64 3) := fun o => (World.cell?_alloc_some w2 ⟨q, 1, none⟩ o (by rw [x1]; rfl)).trans x1; clear y0; replace b2 := Lib.hid (belowCont b1.out b2))
    | (go_at_call 32; (with_reducible refine (key_one _).mono ?_); rintro e w3 ⟨rfl, b3⟩; replace b3 := Lib.hid b3))
  go_ret
  exact ⟨rfl, belowCont (b2.out.alloc b2.out.size _) b3.out⟩
theorem of_wf_u64 {a : Int} (h : (Lit.int .u64 a).wf = true) : 0 ≤ a ∧ a ≤ 18446744073709551615 := by
  simpa [Lit.wf, IntKind.min, IntKind.max, IntKind.signed, IntKind.bits] using h
theorem recordKeys_walk (a0 : Bool) (a1_0 : Int) (a1_1 : Int) (a1_2 : Int) (a2 : Int) (w : World) (w1_0 : (Lit.int .u64 a1_0).wf = true) (w1_1 : (Lit.int .u64 a1_1).wf = true) (w1_2 : (Lit.int .u64 a1_2).wf = true) (w2 : (Lit.int .i64 a2).wf = true) :
    Calls Tryd.prog 7 #[.bool a0, .agg #[.int .u64 a1_0, .int .u64 a1_1, .int .u64 a1_2], .int .i64 a2] w fun e w' => e = .returned (.bool true) ∧ Below w.heap.size w w' := by
  have h0 := of_wf_u64 w1_0
  have h1 := of_wf_u64 w1_1
  have h2 := of_wf_u64 w1_2
  obtain ⟨n0, rfl⟩ : ∃ n : Nat, a1_0 = (n : Int) := ⟨a1_0.toNat, by omega⟩
  obtain ⟨n1, rfl⟩ : ∃ n : Nat, a1_1 = (n : Int) := ⟨a1_1.toNat, by omega⟩
  obtain ⟨n2, rfl⟩ : ∃ n : Nat, a1_2 = (n : Int) := ⟨a1_2.toNat, by omega⟩
  cases a0 with
  | false => exact order.recordKeys_false n0 n1 n2 a2 (by omega) (by omega) (by omega) w awake_any
  | true => exact order.recordKeys_true n0 n1 n2 a2 (by omega) (by omega) (by omega) w awake_any
end Go.Proofs.YtebhdlecekjhgaaDoor.rec
