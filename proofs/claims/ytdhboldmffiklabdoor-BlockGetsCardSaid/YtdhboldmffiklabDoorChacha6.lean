/- ChaCha20 (package chacha): a block. No condition. -/
import Derived.Test.YtdhboldmffiklabDoorChacha5
namespace Go.Proofs.YtdhboldmffiklabDoor.chacha
open Go.RowKit
attribute [local go_sem ↓] Go.wp_at_zero Go.wp_at_succ
set_option linter.unusedVariables false
set_option maxRecDepth 100000

theorem state16 : (Tryd.prog.info? 236).map (·.size) = some 16 := by kernel_rfl
theorem block64 : (Tryd.prog.info? 238).map (·.size) = some 64 := by kernel_rfl
theorem words_cells (xs : List Nat) : ((xs.map word).toArray).all (·.oneCell') = true := by
  rw [Array.all_eq_true_iff_forall_mem]
  intro v hv
  simp at hv
  obtain ⟨n, _, rfl⟩ := hv
  rfl
theorem bytes_cells (xs : List Nat) : ((xs.map byteN).toArray).all (·.oneCell') = true := by
  rw [Array.all_eq_true_iff_forall_mem]
  intro v hv
  simp at hv
  obtain ⟨n, _, rfl⟩ := hv
  rfl
theorem keepsRow (w : World) (g : Nat) (cs : Array Value) : Keeps [g] w (w.setRow g cs) :=
  ⟨rfl, rfl, rfl, by simp [World.setRow], fun k hk hx => setRow_far w g k cs (by simpa using hx)⟩
section
variable {ops : Array Oper} {rest : List Oper} {o : Oper} {a : Act} {w : World} {Q : Exit → Act → World → Prop}
theorem wpList_store_words (hgd : o.guard = none) (x y : Operand) (ho : o.op = .store 236 x y) (g : Nat) (xs : List Nat)
    (hx : a.eval x = .pointer (some ⟨g, 0, none⟩)) (hy : a.eval y = .agg (xs.map word).toArray) (hl : xs.length = 16)
    (hz : ∃ z, w.heap[g]? = some (.cells z 236 (0, 0)) ∧ z.size = 16)
    (h : ∀ w', Words w' g 236 xs → Keeps [g] w w' → wpList Tryd.prog ops Q rest (a.put o.dst undef) w') : wpList Tryd.prog ops Q (o :: rest) a w := by
  obtain ⟨z, hz1, hz2⟩ := hz
  have hs : ((xs.map word).toArray).size = 16 := by simp [hl]
  exact wpList_store_row hgd 236 x y ho g _ hx hy 236 z hz1 (by rw [hs]; exact state16) (by rw [hs, hz2]) (words_cells xs) (h _ (setRow_heap w g z _ 236 (0, 0) hz1) (keepsRow w g _))
theorem wpList_load_words (hgd : o.guard = none) (x : Operand) (ho : o.op = .load 236 x) (g : Nat) (xs : List Nat)
    (hx : a.eval x = .pointer (some ⟨g, 0, none⟩)) (hW : Words w g 236 xs) (hl : xs.length = 16)
    (h : wpList Tryd.prog ops Q rest (a.put o.dst (.agg (xs.map word).toArray)) w) : wpList Tryd.prog ops Q (o :: rest) a w := by
  have hs : ((xs.map word).toArray).size = 16 := by simp [hl]
  exact wpList_load_row hgd 236 x ho g hx 236 _ (0, 0) _ hW Tryd.underlying236 rfl (by rw [hs]; exact state16) h
theorem wpList_store_bytes8 (hgd : o.guard = none) (x y : Operand) (ho : o.op = .store 238 x y) (g : Nat) (xs : List Nat)
    (hx : a.eval x = .pointer (some ⟨g, 0, none⟩)) (hy : a.eval y = .agg (xs.map byteN).toArray) (hl : xs.length = 64)
    (hz : ∃ z, w.heap[g]? = some (.cells z 238 (0, 0)) ∧ z.size = 64)
    (h : ∀ w', Bytes8 w' g xs → Keeps [g] w w' → wpList Tryd.prog ops Q rest (a.put o.dst undef) w') : wpList Tryd.prog ops Q (o :: rest) a w := by
  obtain ⟨z, hz1, hz2⟩ := hz
  have hs : ((xs.map byteN).toArray).size = 64 := by simp [hl]
  exact wpList_store_row hgd 238 x y ho g _ hx hy 238 z hz1 (by rw [hs]; exact block64) (by rw [hs, hz2]) (bytes_cells xs) (h _ (setRow_heap w g z _ 238 (0, 0) hz1) (keepsRow w g _))
end
/-- a new block, and then only that block and newer ones change -/
theorem belowNew {w w1 w2 : World} {o : Obj} (h : Below w.heap.size w w1) (k : Keeps [w1.heap.size] (w1.alloc o) w2) : Below w.heap.size w w2 :=
  h.trans (((Below.refl _ w1).alloc h.size _).trans (k.below (by have := h.size; simp; omega) (by simp; exact h.size)))

end Go.Proofs.YtdhboldmffiklabDoor.chacha
