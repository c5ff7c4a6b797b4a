/- The law ValuePuts: a value that may be; one that may not. No other condition. -/
import Derived.Test.YtcdgnhhciccoeaaDoorValue6
import Derived.Deep.RegionHeld3
namespace Go.Proofs.YtcdgnhhciccoeaaDoor.value
open Go.RowKit
attribute [local go_sem ↓] Go.wp_at_zero Go.wp_at_succ
attribute [local go_sem] str_size
set_option linter.unusedVariables false
set_option maxRecDepth 100000

theorem end_ok {w : World} {g : Nat} (h : code.RdAt w g [] 0) : Calls Tryd.prog 41 #[.pointer (some ⟨g, 0, none⟩)] w fun e w' => e = .returned (.int .i64 0) ∧ Below w.heap.size w w' := by
  have hl : Calls Tryd.prog 86 #[.pointer (some ⟨g, 0, none⟩)] w fun e' w' => e' = .returned (.int .i64 0) ∧ Below w.heap.size w w' := code.left_any h
  replace h := Lib.hid h
  go_enter Tryd.func41, Tryd.ntmps41
  go_wp2_with (first | (go_at_call 86; (with_reducible refine hl.mono ?_); rintro e w1 ⟨rfl, b1⟩; have he := code.err_any (h.out.below b1); replace b1 := Lib.hid b1) | (go_at_call 85; (with_reducible refine he.mono ?_); rintro e w2 ⟨rfl, b2⟩; replace b2 := Lib.hid b2))
  go_ret
  exact ⟨rfl, belowCont b1.out b2.out⟩
/-- the law on its way: the value's box, the reader, the taken value's box -/
structure LS (w : World) (gx g gy : Nat) (a b c a' b' c' : Value) (l : List UInt8) (er : Int) (W : World) : Prop where
  x : W.heap[gx]? = some (.cells #[a, b, c] 50 (0, 0))
  rd : code.RdAt W g l er
  y : W.heap[gy]? = some (.cells #[a', b', c'] 50 (0, 0))
  bel : Below w.heap.size w W
namespace LS
variable {w W W' : World} {gx g gy : Nat} {a b c a' b' c' : Value} {l : List UInt8} {er : Int}
theorem below (h : LS w gx g gy a b c a' b' c' l er W) (k : Below W.heap.size W W') : LS w gx g gy a b c a' b' c' l er W' :=
  ⟨(k.block _ (block_lt h.x)).trans h.x, h.rd.below k, (k.block _ (block_lt h.y)).trans h.y, belowCont h.bel k⟩
theorem drew (h : LS w gx g gy a b c a' b' c' l er W) : LS w gx g gy a b c a' b' c' l er W.drew := ⟨h.x, h.rd, h.y, h.bel.drew⟩
theorem cx (h : LS w gx g gy a b c a' b' c' l er W) : W.cell? ⟨gx, 0, none⟩ = some a ∧ W.cell? ⟨gx, 1, none⟩ = some b ∧ W.cell? ⟨gx, 2, none⟩ = some c :=
  ⟨cell_of_row _ _ 0 _ _ _ h.x, cell_of_row _ _ 1 _ _ _ h.x, cell_of_row _ _ 2 _ _ _ h.x⟩
theorem cy (h : LS w gx g gy a b c a' b' c' l er W) : W.cell? ⟨gy, 0, none⟩ = some a' ∧ W.cell? ⟨gy, 1, none⟩ = some b' ∧ W.cell? ⟨gy, 2, none⟩ = some c' :=
  ⟨cell_of_row _ _ 0 _ _ _ h.y, cell_of_row _ _ 1 _ _ _ h.y, cell_of_row _ _ 2 _ _ _ h.y⟩
theorem all (h : LS w gx g gy a b c a' b' c' l er W) : LS w gx g gy a b c a' b' c' l er W ∧ W.cell? ⟨gx, 0, none⟩ = some a ∧ W.cell? ⟨gx, 1, none⟩ = some b ∧ W.cell? ⟨gx, 2, none⟩ = some c := ⟨h, h.cx⟩
theorem next (h : LS w gx g gy a b c a' b' c' l er W) (k : Below W.heap.size W W') : LS w gx g gy a b c a' b' c' l er W' ∧ W'.cell? ⟨gx, 0, none⟩ = some a ∧ W'.cell? ⟨gx, 1, none⟩ = some b ∧ W'.cell? ⟨gx, 2, none⟩ = some c := (h.below k).all
end LS
end Go.Proofs.YtcdgnhhciccoeaaDoor.value
