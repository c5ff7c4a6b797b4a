/- The law RecordKeys, whole. The world's shape is a premise. No other condition. -/
import Derived.Test.YtcdgnhhciccoeaaDoorRecord3
import Derived.Test.YtcdgnhhciccoeaaDoorRecordL
namespace Go.Proofs.YtcdgnhhciccoeaaDoor.rec
open Go.RowKit
attribute [local go_sem ↓] Go.wp_at_zero Go.wp_at_succ
set_option linter.unusedVariables false
set_option maxRecDepth 100000

theorem key_one (w : World) : Calls Tryd.prog 42 #[.bool false, .int .u64 1] w fun e w' => e = .returned (.string ⟨#[110, 17, 1]⟩) ∧ Below w.heap.size w w' := by
  have e : order.markE false ++ order.numB 1 = ⟨#[110, 17, 1]⟩ := by decide +kernel
  have := order.key_any false 1 w
  rwa [e] at this
theorem awake_any (w : World) : Calls Tryd.prog 10 #[] w fun e w' => e = .returned (.bool true) ∧ Below w.heap.size w w' := by
  have cp := put_13 w.heap.size 2 (w.alloc (.cells #[.int .i64 1, .int .i64 3] 3)) (newCell w _ _ 0) (newCell w _ _ 1)
  replace cp := Lib.hid cp
  go_enter Tryd.func10, Tryd.ntmps10
  go_wp2_with (first
    | (go_at_call 8; (with_reducible refine cp.out.mono ?_); rintro e w1 ⟨rfl, b1⟩; replace b1 := Lib.hid (boxRow b1).2.2.2)
    | (go_at_call 9; (with_reducible refine (get_13 _).mono ?_); rintro e w2 ⟨q, c, rfl, x0, x1, b2⟩; have y0 := (World.cell?_alloc_some w2 ⟨q, 0, none⟩); have y1 : ∀ o, (w2.alloc o).cell? ⟨q, 1, none⟩ = some (.int .i64 3) := fun o => (World.cell?_alloc_some w2 ⟨q, 1, none⟩ o (by rw [x1]; rfl)).trans x1; clear y0; replace b2 := Lib.hid (belowCont b1.out b2))
    | (go_at_call 42; (with_reducible refine (key_one _).mono ?_); rintro e w3 ⟨rfl, b3⟩; replace b3 := Lib.hid b3))
  go_ret
  exact ⟨rfl, belowCont (b2.out.alloc b2.out.size _) b3.out⟩
theorem of_wf_u64 {a : Int} (h : (Lit.int .u64 a).wf = true) : 0 ≤ a ∧ a ≤ 18446744073709551615 := by
  simpa [Lit.wf, IntKind.min, IntKind.max, IntKind.signed, IntKind.bits] using h
end Go.Proofs.YtcdgnhhciccoeaaDoor.rec
