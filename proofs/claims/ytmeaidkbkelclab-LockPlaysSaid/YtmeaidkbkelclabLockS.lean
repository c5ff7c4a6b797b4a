/- The law LockPlays' own table: six things times sixteen: laid, set. No condition. -/
import Derived.Test.YtmeaidkbkelclabLockR
import Derived.Deep.MidRow
import Derived.Great.Walk
namespace Go.Proofs.Ytmeaidkbkelclab.lock
open Go.RowKit
open Go.Great
set_option linter.unusedVariables false
set_option maxRecDepth 100000

def m0 : Nat → Nat → Nat := fun _ _ => 0
theorem tOf_m0 : tOf m0 = fun _ _ => 0 := by
  funext j
  rcases tOf_cases m0 j with ⟨k, hk, rfl⟩ | h
  · rw [tOf_name m0 hk]; rfl
  · exact h
theorem held_m0 : heldOf m0 = fun _ => 0 := by
  funext x
  unfold heldOf cntK m0; simp
section
variable {ops : Array Oper} {rest : List Oper} {o : Oper} {a : Act} {w : World} {Q : Exit → Act → World → Prop}
theorem h6_info : (Try.prog.info? 46).map (·.size) = some (mat6 m0).toArray.size := by kernel_rfl
theorem h6_info2 (M : Nat → Nat → Nat) : (Try.prog.info? 46).map (·.size) = some (mat6 M).toArray.size := by rw [h6_info, List.size_toArray, List.size_toArray, mat6_len, mat6_len]
theorem h6_built : Try.prog.built 46 [] = some (mat6 m0).toArray := by kernel_rfl
theorem wpList_zeroH (hg : o.guard = none) (ho : o.op = .build 46 #[]) (h : wpList Try.prog ops Q rest (a.put o.dst (.agg (mat6 m0).toArray)) w) : wpList Try.prog ops Q (o :: rest) a w :=
  wpList_build hg 46 #[] ho (by rw [Array.map_empty]; show (Try.prog.built 46 []).isSome = true; rw [h6_built]; rfl) (by rw [Array.map_empty]; show wpList Try.prog ops Q rest (a.put o.dst (.agg ((Try.prog.built 46 []).getD #[]))) w; rw [h6_built]; exact h)
theorem h6_alloc (ρ : Operand → Value) (w : World) (o : Oper) (ho : o.op = .alloc 46) : (execOp ρ o).run Try.prog w = .ok (.value (.pointer (some ⟨w.heap.size, 0, none⟩))) (w.alloc (.cells (mat6 m0).toArray 46)) := by
  unfold execOp
  rw [ho]
  kernel_rfl
theorem wpList_newH (hg : o.guard = none) (ho : o.op = .alloc 46) (h : wpList Try.prog ops Q rest (a.put o.dst (.pointer (some ⟨w.heap.size, 0, none⟩))) (w.alloc (.cells (mat6 m0).toArray 46))) : wpList Try.prog ops Q (o :: rest) a w :=
  wpList_allocTo hg o.dst rfl _ _ (h6_alloc _ w o ho) h
theorem wpList_layH (hg : o.guard = none) (x y : Operand) (ho : o.op = .store 46 x y) (f f' : Nat → Nat → Nat) (hx : a.eval x = .pointer (some ⟨w.heap.size, 0, none⟩)) (hy : a.eval y = .agg (mat6 f').toArray)
    (h : wpList Try.prog ops Q rest (a.put o.dst undef) (w.alloc (.cells (mat6 f').toArray 46))) : wpList Try.prog ops Q (o :: rest) a (w.alloc (.cells (mat6 f).toArray 46)) :=
  wpList_store_row hg 46 x y ho w.heap.size (mat6 f').toArray hx hy 46 (mat6 f).toArray (heap_alloc_new w _) (h6_info2 f') (by rw [List.size_toArray, List.size_toArray, mat6_len, mat6_len]) (mat6_one f') (by rw [World.setRow_alloc_new]; exact h)
theorem wpList_loadH (hg : o.guard = none) (x : Operand) (ho : o.op = .load 46 x) {M : Nat → Nat → Nat} {q : Nat} (hq : HAt w q M) (hx : a.eval x = .pointer (some ⟨q, 0, none⟩)) (h : wpList Try.prog ops Q rest (a.put o.dst (.agg (mat6 M).toArray)) w) : wpList Try.prog ops Q (o :: rest) a w :=
  wpList_load_row hg 46 x ho q hx 46 _ (0, 0) _ hq Try.underlying46 rfl (h6_info2 M) h
end
theorem HAt.put {W : World} {q : Nat} {M : Nat → Nat → Nat} (h : HAt W q M) {x k : Nat} (hx : x < 16) (hk : k < 6) (v : Nat) (z : Int) (hz : z = (v : Int)) : HAt (W.setCell ⟨q, x * 6 + k, none⟩ (.int .i64 z)) q (fun a c => if a = x ∧ c = k then v else M a c) := by
  have := heap_setCell_same W q (x * 6 + k) _ _ (.int .i64 z) h
  rw [mat6_set M hx hk v z hz] at this; exact this
theorem HAt.drew {W : World} {q : Nat} {M : Nat → Nat → Nat} (h : HAt W q M) : HAt W.drew q M := h.below (Below.refl _ _).drew
theorem HAt.eq {W : World} {q : Nat} {M M' : Nat → Nat → Nat} (h : HAt W q M) (hm : ∀ x k, x < 16 → k < 6 → M x k = M' x k) : HAt W q M' := by unfold HAt at *; rw [← mat6_ext hm]; exact h
theorem NamesAt.keep {W W' : World} {q : Nat} (h : NamesAt W q) {X : List Nat} (k : Keeps X W W') (hq : q ∉ X) : NamesAt W' q := ⟨Nat.lt_of_lt_of_le h.1 k.size, fun j hj => (k.cell (p := ⟨q, j, none⟩) h.1 hq).trans (h.2 j hj)⟩
theorem names_new (w : World) : NamesAt (w.alloc (.cells #[.string ⟨#[97]⟩, .string ⟨#[98]⟩, .string ⟨#[99]⟩, .string ⟨#[100]⟩, .string ⟨#[101]⟩, .string ⟨#[102]⟩] 9)) w.heap.size := by
  refine ⟨by simp, fun k hk => ?_⟩
  rw [newCell]
  match k, hk with
  | 0, _ | 1, _ | 2, _ | 3, _ | 4, _ | 5, _ => rfl
  | n + 6, h => omega
/-- an empty list that was made -/
theorem row_empty (w : World) : Hp w [] [.row 3 1 (.slice (some ⟨w.heap.size, 0, none⟩) 0 0) 0 []] (w.alloc (.cells #[] 3)) := by
  have hg := heap_alloc_new w (.cells #[] 3)
  have h0 : (w.alloc (.cells #[] 3)).ownsRow 0 3 1 (.slice (some ⟨w.heap.size, 0, none⟩) 0 0) 0 [] := ⟨rfl, .inr ⟨w.heap.size, 0, #[], rfl, Nat.zero_le _, hg, Nat.le_refl _, by decide, rfl, rfl⟩⟩
  refine (Hp.none_ w []).new (fp' := [w.heap.size]) _ ⟨h0, rfl⟩ (by simp) ((Below.refl _ w).alloc (Nat.le_refl _) _) ?_
  intro b hb
  simp at hb; subst hb; exact ⟨block_lt hg, Nat.le_refl _⟩
end Go.Proofs.Ytmeaidkbkelclab.lock
