/- The law WaitCircles' own two tables: sixteen times sixteen truths in one block: laid, read, set, a row cleared. No condition. -/
import Derived.Test.YtmlphodmbkceoabWaitK
import Derived.Deep.MidRow
import Derived.Great.Walk
namespace Go.Proofs.Ytmlphodmbkceoab.wait
open Go.RowKit
open Go.Great
set_option linter.unusedVariables false
set_option maxRecDepth 100000

def MatAt (W : World) (q : Nat) (f : Nat → Nat → Bool) : Prop := W.heap[q]? = some (.cells (mat f) 74 (0, 0))
def ff : Nat → Nat → Bool := fun _ _ => false
section
variable {W W' : World} {q : Nat} {f : Nat → Nat → Bool}
theorem MatAt.cell (h : MatAt W q f) {i j : Nat} (hi : i < 16) (hj : j < 16) : W.cell? ⟨q, i * 16 + j, none⟩ = some (.bool (f i j)) := by
  unfold MatAt at h
  exact (cell_of_row W q (i * 16 + j) _ _ _ h).trans (mat_at f hi hj)
theorem MatAt.free (h : MatAt W q f) (k : Nat) : W.frozen? ⟨q, k, none⟩ = false := by unfold MatAt at h; simp [World.frozen?, h]
theorem MatAt.lt (h : MatAt W q f) : q < W.heap.size := block_lt h
theorem MatAt.keep (h : MatAt W q f) {X : List Nat} (k : Keeps X W W') (hq : q ∉ X) : MatAt W' q f := (k.block _ h.lt hq).trans h
theorem MatAt.below (h : MatAt W q f) (k : Below W.heap.size W W') : MatAt W' q f := h.keep (Keeps.ofBelow k []) (by simp)
theorem MatAt.drew (h : MatAt W q f) : MatAt W.drew q f := h.below (Below.refl _ _).drew
theorem MatAt.put (h : MatAt W q f) {i j : Nat} (hi : i < 16) (hj : j < 16) (b : Bool) {f' : Nat → Nat → Bool} (hm : (mat f).setIfInBounds (i * 16 + j) (.bool b) = mat f') : MatAt (W.setCell ⟨q, i * 16 + j, none⟩ (.bool b)) q f' := by
  have := heap_setCell_same W q (i * 16 + j) _ _ (.bool b) h
  rw [hm] at this; exact this
theorem MatAt.eq (h : MatAt W q f) {f' : Nat → Nat → Bool} (hm : mat f = mat f') : MatAt W q f' := by unfold MatAt at *; rw [← hm]; exact h
/-- a row's cells -/
def row0 : Array Value := (List.replicate 16 (Value.bool false)).toArray
theorem row0_one : row0.all (·.oneCell') = true := by kernel_rfl
theorem MatAt.there (h : MatAt W q f) {i : Nat} (hi : i < 16) : W.there q (i * 16) 16 := fun j hj => ⟨by rw [h.cell hi hj]; rfl, h.free _⟩
theorem row0_at {j : Nat} (hj : j < 16) : row0[j]? = some (.bool false) := by unfold row0; rw [List.getElem?_toArray, List.getElem?_replicate, if_pos hj]
theorem MatAt.row (h : MatAt W q f) {ls : Nat → List Nat} (hf : f = edge ls) {i : Nat} (hi : i < 16) (zs : List Int) : MatAt (W.setCells q (i * 16) row0.toList) q (matP ls i zs 0) ∧ Keeps [q] W (W.setCells q (i * 16) row0.toList) := by
  subst hf
  obtain ⟨cur', h1, h2, h3, h4, h5, h6⟩ := heap_setCells row0.toList (i * 16) W (mat (edge ls)) h
  refine ⟨?_, h6⟩
  unfold MatAt
  suffices hc : cur' = mat (matP ls i zs 0) by rw [h1, hc]
  have hl : row0.toList.length = 16 := rfl
  rw [hl] at h4 h5
  apply Array.ext_getElem?; intro t
  by_cases ht : t < 256
  · have e := mat_at (matP ls i zs 0) (i := t / 16) (j := t % 16) (by omega) (by omega)
    have e2 := mat_at (edge ls) (i := t / 16) (j := t % 16) (by omega) (by omega)
    rw [show t / 16 * 16 + t % 16 = t by omega] at e e2
    rw [e]
    unfold matP
    by_cases h7 : t / 16 = i
    · rw [if_pos h7, rowP_zero]
      have := h5 (t % 16) (by omega) (by rw [mat_size]; omega)
      rw [show i * 16 + t % 16 = t by omega] at this
      rw [this, Array.getElem?_toList, row0_at (by omega)]
    · rw [if_neg h7]
      by_cases h8 : t < i * 16
      · rw [h3 t h8, e2]
      · rw [h4 t (by omega), e2]
  · rw [Array.getElem?_eq_none (by rw [h2, mat_size]; omega), Array.getElem?_eq_none (by rw [mat_size]; omega)]
theorem mat_bool {t : Nat} {v : Value} (h : (mat f)[t]? = some v) : ∃ b, v = .bool b := by
  unfold mat at h
  rw [List.getElem?_toArray, List.getElem?_map, Option.map_eq_some_iff] at h
  obtain ⟨x, _, rfl⟩ := h
  exact ⟨_, rfl⟩
/-- a list of numbers does not lie in a table of truths -/
theorem MatAt.apart (h : MatAt W q f) {b o : Nat} {n : Nat} {l : List Nat} (hr : RowAt W b o (nums (n :: l))) : b ≠ q := by
  rintro rfl
  have h1 := hr.2 0 (.int .i64 (n : Int)) rfl
  rw [cell_of_row W b (o + 0) _ _ _ h] at h1
  obtain ⟨x, hx⟩ := mat_bool h1
  cases hx
theorem GAt.keepQ {g : Nat} {ls : Nat → List Nat} (h : GAt W g ls) (hQ : MatAt W q f) (k : Keeps [q] W W') (hgq : g ≠ q) : GAt W' g ls := by
  obtain ⟨vals, h1, h2, h3⟩ := h
  refine ⟨vals, (k.block _ (block_lt h1) (by simpa using hgq)).trans h1, h2, fun i hi => ?_⟩
  obtain ⟨v, hv, a, cap, rfl, hl, hr⟩ := h3 i hi
  refine ⟨_, hv, a, cap, rfl, hl, ?_⟩
  rcases hr with h4 | ⟨b, o, ha, hb, hr⟩
  · exact .inl h4
  · cases hls : ls i with
    | nil => exact .inl rfl
    | cons n l =>
      rw [hls] at hr
      exact .inr ⟨b, o, ha, hb, hr.keep k (by simpa using hQ.apart hr)⟩
end
section
variable {ops : Array Oper} {rest : List Oper} {o : Oper} {a : Act} {w : World} {Q : Exit → Act → World → Prop}
theorem mat_info : (Try.prog.info? 74).map (·.size) = some (mat ff).size := by kernel_rfl
theorem mat_info2 (f : Nat → Nat → Bool) : (Try.prog.info? 74).map (·.size) = some (mat f).size := by rw [mat_size, mat_info, mat_size]
theorem row_info : (Try.prog.info? 73).map (·.size) = some row0.size := by kernel_rfl
theorem mat_built : Try.prog.built 74 [] = some (mat ff) := by kernel_rfl
theorem wpList_zeroMat (hg : o.guard = none) (ho : o.op = .build 74 #[]) (h : wpList Try.prog ops Q rest (a.put o.dst (.agg (mat ff))) w) : wpList Try.prog ops Q (o :: rest) a w :=
  wpList_build hg 74 #[] ho (by rw [Array.map_empty]; show (Try.prog.built 74 []).isSome = true; rw [mat_built]; rfl) (by rw [Array.map_empty]; show wpList Try.prog ops Q rest (a.put o.dst (.agg ((Try.prog.built 74 []).getD #[]))) w; rw [mat_built]; exact h)
theorem mat_alloc (ρ : Operand → Value) (w : World) (o : Oper) (ho : o.op = .alloc 74) : (execOp ρ o).run Try.prog w = .ok (.value (.pointer (some ⟨w.heap.size, 0, none⟩))) (w.alloc (.cells (mat ff) 74)) := by
  unfold execOp
  rw [ho]
  kernel_rfl
theorem wpList_newMat (hg : o.guard = none) (ho : o.op = .alloc 74) (h : wpList Try.prog ops Q rest (a.put o.dst (.pointer (some ⟨w.heap.size, 0, none⟩))) (w.alloc (.cells (mat ff) 74))) : wpList Try.prog ops Q (o :: rest) a w :=
  wpList_allocTo hg o.dst rfl _ _ (mat_alloc _ w o ho) h
/-- the block that was laid last, stored over whole -/
theorem wpList_layMat (hg : o.guard = none) (x y : Operand) (ho : o.op = .store 74 x y) (f f' : Nat → Nat → Bool) (hx : a.eval x = .pointer (some ⟨w.heap.size, 0, none⟩)) (hy : a.eval y = .agg (mat f'))
    (h : wpList Try.prog ops Q rest (a.put o.dst undef) (w.alloc (.cells (mat f') 74))) : wpList Try.prog ops Q (o :: rest) a (w.alloc (.cells (mat f) 74)) :=
  wpList_store_row hg 74 x y ho w.heap.size (mat f') hx hy 74 (mat f) (heap_alloc_new w _) (mat_info2 f') (by rw [mat_size, mat_size]) (mat_one f') (by rw [World.setRow_alloc_new]; exact h)
theorem wpList_loadMat (hg : o.guard = none) (x : Operand) (ho : o.op = .load 74 x) {f : Nat → Nat → Bool} {q : Nat} (hq : MatAt w q f) (hx : a.eval x = .pointer (some ⟨q, 0, none⟩)) (h : wpList Try.prog ops Q rest (a.put o.dst (.agg (mat f))) w) : wpList Try.prog ops Q (o :: rest) a w :=
  wpList_load_row hg 74 x ho q hx 74 _ (0, 0) _ hq Try.underlying74 rfl (mat_info2 f) h
theorem row_built : Try.prog.built 73 [] = some row0 := by kernel_rfl
theorem wpList_zeroRow (hg : o.guard = none) (ho : o.op = .build 73 #[]) (h : wpList Try.prog ops Q rest (a.put o.dst (.agg row0)) w) : wpList Try.prog ops Q (o :: rest) a w :=
  wpList_build hg 73 #[] ho (by rw [Array.map_empty]; show (Try.prog.built 73 []).isSome = true; rw [row_built]; rfl) (by rw [Array.map_empty]; show wpList Try.prog ops Q rest (a.put o.dst (.agg ((Try.prog.built 73 []).getD #[]))) w; rw [row_built]; exact h)
theorem wpList_clearRow (hg : o.guard = none) (x y : Operand) (ho : o.op = .store 73 x y) {f : Nat → Nat → Bool} {q i : Nat} (hq : MatAt w q f) (hi : i < 16) (hx : a.eval x = .pointer (some ⟨q, i * 16, none⟩)) (hy : a.eval y = .agg row0)
    (h : wpList Try.prog ops Q rest (a.put o.dst undef) (w.setCells q (i * 16) row0.toList)) : wpList Try.prog ops Q (o :: rest) a w :=
  wpList_store_mid hg 73 x y ho q (i * 16) row0 hx hy (hq.there hi) row_info row0_one h
end
end Go.Proofs.Ytmlphodmbkceoab.wait
