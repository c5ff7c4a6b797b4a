/- Words of 32 bits: rows of them, sums, turns. No condition. -/
import Derived.Test.YtplfbpihhcnnmaaDoorBase
namespace Go.Proofs.YtplfbpihhcnnmaaDoor
open Go.RowKit
attribute [local go_sem ↓] Go.wp_at_zero Go.wp_at_succ
set_option linter.unusedVariables false
set_option maxRecDepth 100000

def word (n : Nat) : Value := .int .u32 (n : Int)
/-- block g is a row of these words -/
def Words (w : World) (g : Nat) (t : TypeId) (xs : List Nat) : Prop := w.heap[g]? = some (.cells (xs.map word).toArray t (0, 0))
section
variable {w w' : World} {g : Nat} {t : TypeId} {xs : List Nat}
theorem Words.keep (h : Words w g t xs) {X : List Nat} (k : Keeps X w w') (hg : g ∉ X) : Words w' g t xs := (k.block _ (block_lt h) hg).trans h
theorem Words.below (h : Words w g t xs) (k : Below w.heap.size w w') : Words w' g t xs := h.keep (Keeps.ofBelow k []) (by simp)
theorem Words.cell (h : Words w g t xs) {i : Nat} (hi : i < xs.length) : w.cell? ⟨g, i, none⟩ = some (.int .u32 ((xs.getD i 0 : Nat) : Int)) := by
  rw [cell_of_row _ _ i _ _ _ h]; simp [word, List.getElem?_eq_getElem hi, List.getD]
theorem Words.free (h : Words w g t xs) (i : Nat) : w.frozen? ⟨g, i, none⟩ = false := by unfold Words at h; simp [World.frozen?, h]
theorem Words.put (h : Words w g t xs) (i n : Nat) : Words (w.setCell ⟨g, i, none⟩ (.int .u32 (n : Int))) g t (xs.set i n) := by
  unfold Words at h ⊢; simp [World.setCell, Array.getElem?_modify, h, List.map_set, word]
theorem Words.drew (h : Words w g t xs) : Words w.drew g t xs := h
theorem Words.drewN (h : Words w g t xs) (n : Nat) : Words (w.drewN n) g t xs := h
end

def w32 : Nat := 4294967296
def rotl (x s : Nat) : Nat := (x * 2 ^ s % 4294967296) ||| (x / 2 ^ (32 - s))
theorem rotl_lt (x s : Nat) (hx : x < 4294967296) (hs : s ≤ 32) : rotl x s < 4294967296 := by
  have h1 : x * 2 ^ s % 4294967296 < 2 ^ 32 := Nat.mod_lt _ (by decide)
  have h2 : x / 2 ^ (32 - s) < 2 ^ 32 := Nat.lt_of_le_of_lt (Nat.div_le_self _ _) hx
  exact Nat.or_lt_two_pow h1 h2
theorem rotl_sum (x s : Nat) (hx : x < 4294967296) (hs : s ≤ 32) : rotl x s = x * 2 ^ s % 4294967296 + x / 2 ^ (32 - s) := by
  unfold rotl
  apply nat_join s
  · have e : (4294967296 : Nat) = 2 ^ s * 2 ^ (32 - s) := by rw [← Nat.pow_add, show s + (32 - s) = 32 by omega]
    rw [e, Nat.mul_comm x, Nat.mul_mod_mul_left, Nat.mul_mod_right]
  · rw [Nat.div_lt_iff_lt_mul (Nat.pow_pos (by decide)), ← Nat.pow_add, show s + (32 - s) = 32 by omega]; exact hx

theorem rot_walk (x s : Nat) (k : Int) (hx : x < 4294967296) (hs : 1 ≤ s ∧ s ≤ 31) (hk : bits .and .u64 (IntKind.u64.wrap k) 31 = (s : Int)) (w : World) :
    Calls Tryd.prog 167 #[.int .u32 (x : Int), .int .i64 k] w fun e w' => e = .returned (.int .u32 ((rotl x s : Nat) : Int)) ∧ Below w.heap.size w w' := by
  obtain ⟨h1, h2⟩ := hs
  obtain ⟨s0, s1⟩ : (0 : Int) ≤ s ∧ (s : Int) ≤ 31 := ⟨by omega, by omega⟩
  go_enter Tryd.func167, Tryd.ntmps167
  go_wp2
  go_ret
  refine ⟨?_, Below.refl _ _⟩
  have e1 : (x : Int) * 2 ^ s % 4294967296 = ((x * 2 ^ s % 4294967296 : Nat) : Int) := by simp
  have e2 : (x : Int) / 2 ^ (32 - s) = ((x / 2 ^ (32 - s) : Nat) : Int) := by simp
  show Ending.returned (.int .u32 (bits .or .u32 ((x : Int) * 2 ^ s % 4294967296) ((x : Int) / 2 ^ (32 - s)))) = _
  rw [e1, e2, u32_or_nat _ _ (Nat.mod_lt _ (by decide)) (Nat.lt_of_le_of_lt (Nat.div_le_self _ _) hx)]
  rfl
theorem and_31u (n : Nat) (hn : n < 18446744073709551616) : bits .and .u64 (n : Int) 31 = ((n % 32 : Nat) : Int) := by
  have := u64_and_nat n 31 hn (by omega)
  rw [show ((31 : Nat) : Int) = 31 from rfl] at this
  rw [this, Nat.and_two_pow_sub_one_eq_mod _ 5]
/-- turned to the left by s -/
theorem rotL (x s : Nat) (hx : x < 4294967296) (hs : 1 ≤ s ∧ s ≤ 31) (w : World) :
    Calls Tryd.prog 167 #[.int .u32 (x : Int), .int .i64 (s : Int)] w fun e w' => e = .returned (.int .u32 ((rotl x s : Nat) : Int)) ∧ Below w.heap.size w w' :=
  rot_walk x s s hx hs (by rw [IntWalk.u64_in _ (by omega), and_31u s (by omega)]; omega) w
/-- turned to the right by s -/
theorem rotR (x s : Nat) (hx : x < 4294967296) (hs : 1 ≤ s ∧ s ≤ 31) (w : World) :
    Calls Tryd.prog 167 #[.int .u32 (x : Int), .int .i64 (-(s : Int))] w fun e w' => e = .returned (.int .u32 ((rotl x (32 - s) : Nat) : Int)) ∧ Below w.heap.size w w' :=
  rot_walk x (32 - s) _ hx (by omega) (by
    have e : IntKind.u64.wrap (-(s : Int)) = ((18446744073709551616 - s : Nat) : Int) := by rw [IntKind.wrap_u64]; omega
    rw [e, and_31u _ (by omega)]; omega) w
end Go.Proofs.YtplfbpihhcnnmaaDoor
