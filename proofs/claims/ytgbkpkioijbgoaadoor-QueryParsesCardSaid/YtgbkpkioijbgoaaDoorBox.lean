/- A box that a call lays stays as it is behind later calls. No condition. -/
import Derived.Test.YtgbkpkioijbgoaaDoorBase
namespace Go.Proofs.YtgbkpkioijbgoaaDoor
open Go.RowKit
theorem boxRow {w w1 : World} {cs : Array Value} {t : TypeId} (hb : Below (w.alloc (.cells cs t)).heap.size (w.alloc (.cells cs t)) w1) :
    w1.heap[w.heap.size]? = some (.cells cs t (0, 0)) ∧ (∀ i, w1.cell? ⟨w.heap.size, i, none⟩ = cs[i]?) ∧ (∀ i, w1.frozen? ⟨w.heap.size, i, none⟩ = false) ∧ Below w.heap.size w w1 := by
  have h1 : w1.heap[w.heap.size]? = some (.cells cs t (0, 0)) := (hb.block _ (by simp)).trans (heap_alloc_new w _)
  exact ⟨h1, fun i => cell_of_row _ _ i _ _ _ h1, fun i => by simp [World.frozen?, h1], ((Below.refl _ _).alloc (Nat.le_refl _) _).trans (hb.mono (by simp))⟩
theorem boxPut2 {w : World} {g : Nat} {a b : Value} {t : TypeId} (h : w.heap[g]? = some (.cells #[a, b] t (0, 0))) (x y : Value) :
    (((w.setCell ⟨g, 0, none⟩ x).setCell ⟨g, 1, none⟩ y).drew).cell? ⟨g, 0, none⟩ = some x ∧ (((w.setCell ⟨g, 0, none⟩ x).setCell ⟨g, 1, none⟩ y).drew).cell? ⟨g, 1, none⟩ = some y := by
  have h1 : (((w.setCell ⟨g, 0, none⟩ x).setCell ⟨g, 1, none⟩ y).drew).heap[g]? = some (.cells #[x, y] t (0, 0)) := by
    simp [World.drew, World.setCell, Array.getElem?_modify, h]
  exact ⟨cell_of_row _ _ 0 _ _ _ h1, cell_of_row _ _ 1 _ _ _ h1⟩
theorem boxPut1 {w : World} {g : Nat} {a b : Value} {t : TypeId} (h : w.heap[g]? = some (.cells #[a, b] t (0, 0))) (x : Value) :
    (w.setCell ⟨g, 0, none⟩ x).cell? ⟨g, 0, none⟩ = some x := by
  have h1 : (w.setCell ⟨g, 0, none⟩ x).heap[g]? = some (.cells #[x, b] t (0, 0)) := by
    simp [World.setCell, Array.getElem?_modify, h]
  exact cell_of_row _ _ 0 _ _ _ h1
theorem undrew {B : Nat} {a w : World} (h : Below B a.drew w) : Below B a w := ⟨h.os, h.tape, h.output, h.size, h.block⟩
theorem setRow2 {w : World} {g : Nat} {a b : Value} {t : TypeId} (h : w.heap[g]? = some (.cells #[a, b] t (0, 0))) (x y : Value) :
    ((w.setCell ⟨g, 0, none⟩ x).setCell ⟨g, 1, none⟩ y).heap[g]? = some (.cells #[x, y] t (0, 0)) := by
  simp [World.setCell, Array.getElem?_modify, h]
/-- a struct of two cells in a box of the call's own, and nothing of the elder world is turned -/
def BoxAt (w wx : World) (g : Nat) (t : TypeId) (x y : Value) : Prop := wx.heap[g]? = some (.cells #[x, y] t (0, 0)) ∧ w.heap.size ≤ g ∧ Below w.heap.size w wx
theorem BoxAt.below {w wx w1 : World} {g : Nat} {t : TypeId} {x y : Value} (h : BoxAt w wx g t x y) (b : Below wx.heap.size wx w1) : BoxAt w w1 g t x y :=
  ⟨(b.block _ (block_lt h.1)).trans h.1, h.2.1, belowCont h.2.2 b⟩
theorem BoxAt.c0 {w wx : World} {g : Nat} {t : TypeId} {x y : Value} (h : BoxAt w wx g t x y) : wx.cell? ⟨g, 0, none⟩ = some x := cell_of_row _ _ 0 _ _ _ h.1
theorem BoxAt.c1 {w wx : World} {g : Nat} {t : TypeId} {x y : Value} (h : BoxAt w wx g t x y) : wx.cell? ⟨g, 1, none⟩ = some y := cell_of_row _ _ 1 _ _ _ h.1
theorem BoxAt.drew {w wx : World} {g : Nat} {t : TypeId} {x y : Value} (h : BoxAt w wx g t x y) : BoxAt w wx.drew g t x y := ⟨h.1, h.2.1, h.2.2.drew⟩
theorem BoxAt.bel {w wx : World} {g : Nat} {t : TypeId} {x y : Value} (h : BoxAt w wx g t x y) : Below w.heap.size w wx := h.2.2
end Go.Proofs.YtgbkpkioijbgoaaDoor
