/- Anchors (package anchor): the first, which may be, in which block one stands. No condition. -/
import Derived.Test.YtdhboldmffiklabCodeBack
import Derived.Test.YtdhboldmffiklabShelf
import Derived.Laws.Rows
import Derived.Laws.StructEq
import Derived.BigRegion
import Derived.Deep.RegionHeld3
import Derived.Test.YtdhboldmffiklabBox
namespace Go.Proofs.Ytdhboldmffiklab.anchor
open Go.RowKit
open Go.Proofs.Ytdhboldmffiklab.code
attribute [local go_sem ↓] Go.wp_at_zero Go.wp_at_succ
attribute [local go_sem] str_size
set_option linter.unusedVariables false
set_option maxRecDepth 100000

theorem noRoot_any (w : World) : Calls Try.prog 103 #[] w fun e w' => e = .returned (.agg #[.int .i64 (-1), .string ⟨#[]⟩]) ∧ Below w.heap.size w w' := by
  go_enter Try.func103, Try.ntmps103
  go_wp2
  go_returns
  exact ⟨rfl, by go_grown⟩
def Z32 : List UInt8 := List.replicate 32 0
theorem Z32_len : Z32.length = 32 := List.length_replicate ..
theorem repeat_z32 : Lib.repeatL [0] 32 = Z32 := by decide +kernel
theorem repeat32_any (w : World) : Calls Try.prog 72 #[.string ⟨#[0]⟩, .int .i64 32] w fun e w' => e = .returned (.string (str Z32)) ∧ Below w.heap.size w w' := by
  have h := Go.Proofs.Try.strings_Repeat ⟨#[0]⟩ 32 w (by decide) (by decide)
  have e : Lib.repeatL (⟨#[0]⟩ : ByteArray).data.toList 32 = Z32 := repeat_z32
  rw [e] at h
  exact h
theorem first_any (w : World) : Calls Try.prog 62 #[] w fun e w' => e = .returned (.agg #[.int .u64 0, .int .u32 0, .bool false, .string ⟨#[]⟩, .int .i64 (-1), .string ⟨#[]⟩, .int .i64 0, .int .i64 0, .string (str Z32)]) ∧ Below w.heap.size w w' := by
  go_enter Try.func62, Try.ntmps62
  go_wp2_with (first
    | (go_at_call 103; (with_reducible refine (noRoot_any _).mono ?_); rintro e w1 ⟨rfl, b1⟩; replace b1 := Lib.hid b1)
    | (go_at_call 72; (with_reducible refine (repeat32_any _).mono ?_); rintro e w2 ⟨rfl, b2⟩; obtain ⟨hrow, hcell, hfree, hbel⟩ := boxRow (belowCont b1.out b2); have d0 := hcell 0; have f0 := hfree 0; have d1 := hcell 1; have f1 := hfree 1; have d2 := hcell 2; have f2 := hfree 2; have d3 := hcell 3; have f3 := hfree 3; have d4 := hcell 4; have f4 := hfree 4; have d5 := hcell 5; have f5 := hfree 5; have d6 := hcell 6; have f6 := hfree 6; have d7 := hcell 7; have f7 := hfree 7; have d8 := hcell 8; have f8 := hfree 8; clear hcell hfree; replace hrow := Lib.hid hrow; replace hbel := Lib.hid hbel))
  refine bodyPost_ret (v := .agg #[.int .u64 0, .int .u32 0, .bool false, .string ⟨#[]⟩, .int .i64 (-1), .string ⟨#[]⟩, .int .i64 0, .int .i64 0, .string (str Z32)]) (results_cell_row rfl _ _ w.heap.size 27 #[.int .u64 0, .int .u32 0, .bool false, .string ⟨#[]⟩, .int .i64 (-1), .string ⟨#[]⟩, .int .i64 0, .int .i64 0, .string (str Z32)] (0, 0) _ rfl (by simp [World.setCell, Array.getElem?_modify, hrow.out]) Try.underlying27 rfl (by kernel_rfl)) rfl ?_
  exact ⟨rfl, (((((((((hbel.out.setCell (p := ⟨w.heap.size, 0, none⟩) (Nat.le_refl _) _).setCell (p := ⟨w.heap.size, 1, none⟩) (Nat.le_refl _) _).setCell (p := ⟨w.heap.size, 2, none⟩) (Nat.le_refl _) _).setCell (p := ⟨w.heap.size, 3, none⟩) (Nat.le_refl _) _).setCell (p := ⟨w.heap.size, 4, none⟩) (Nat.le_refl _) _).setCell (p := ⟨w.heap.size, 5, none⟩) (Nat.le_refl _) _).setCell (p := ⟨w.heap.size, 6, none⟩) (Nat.le_refl _) _).setCell (p := ⟨w.heap.size, 7, none⟩) (Nat.le_refl _) _).setCell (p := ⟨w.heap.size, 8, none⟩) (Nat.le_refl _) _)⟩
theorem mayPlace_any (n : Int) (w : World) : Calls Try.prog 69 #[.int .i64 n] w fun e w' => e = .returned (.bool (decide (0 ≤ n ∧ n < 4096))) ∧ Below w.heap.size w w' := by
  by_cases h1 : 0 ≤ n
  · by_cases h2 : n < 4096
    · have e : decide (0 ≤ n ∧ n < 4096) = true := decide_eq_true ⟨h1, h2⟩
      rw [e]; clear e
      go_enter Try.func69, Try.ntmps69
      go_wp2
      go_ret
      exact ⟨rfl, by go_grown⟩
    · have e : decide (0 ≤ n ∧ n < 4096) = false := decide_eq_false (fun h => h2 h.2)
      rw [e]; clear e
      go_enter Try.func69, Try.ntmps69
      go_wp2
      go_ret
      exact ⟨by first | rfl | (rw [decide_eq_false (p := n < 4096) (by omega)]; rfl), by go_grown⟩
  · have e : decide (0 ≤ n ∧ n < 4096) = false := decide_eq_false (fun h => h1 h.1)
    rw [e]; clear e
    go_enter Try.func69, Try.ntmps69
    go_wp2
    go_ret
    exact ⟨rfl, by go_grown⟩
def mayRootB (p : Int) (s : ByteArray) : Bool := decide ((p = -1 ∧ s = ⟨#[]⟩) ∨ ((0 ≤ p ∧ p < 4096) ∧ s.size = 32))
theorem keep2 {w w1 : World} {g : Nat} {a b : Value} {t : TypeId} (h : w.heap[g]? = some (.cells #[a, b] t (0, 0))) (hb : Below w.heap.size w w1) : w1.cell? ⟨g, 0, none⟩ = some a ∧ w1.cell? ⟨g, 1, none⟩ = some b := by
  have h1 : w1.heap[g]? = some (.cells #[a, b] t (0, 0)) := (hb.block _ (block_lt h)).trans h
  exact ⟨cell_of_row _ _ 0 _ _ _ h1, cell_of_row _ _ 1 _ _ _ h1⟩
theorem empty_beq (s : ByteArray) : (s == (⟨#[]⟩ : ByteArray)) = true ↔ s = ⟨#[]⟩ := by
  rw [beq_toListBytes, beq_iff_eq, ByteArray.toList_eq, ByteArray.toList_eq]
  constructor
  · intro h; exact ByteArray.ext (Array.toList_inj.mp h)
  · intro h; rw [h]
/-- an operation that was struck yields no truth -/
theorem yielded_undef (ops : Array Oper) (tmps : Array Value) (j : Nat) (h : ((ops[j]?).bind (·.dst)).bind (tmps[·]?) = some undef) : yielded ops tmps j = none := by
  unfold yielded; rw [h]; rfl
attribute [local go_sem ↓] yielded_undef
set_option maxHeartbeats 4000000 in
theorem mayRoot_any (p : Int) (s : ByteArray) (w : World) : Calls Try.prog 68 #[.agg #[.int .i64 p, .string s]] w fun e w' => e = .returned (.bool (mayRootB p s)) ∧ Below w.heap.size w w' := by
  have B0 : Below w.heap.size w (w.alloc (.cells #[.int .i64 p, .string s] 25)) := (Below.refl _ w).alloc (Nat.le_refl _) _
  have S0 : w.heap.size < (w.alloc (.cells #[.int .i64 p, .string s] 25)).heap.size := by simp
  have c0 : (w.alloc (.cells #[.int .i64 p, .string s] 25)).cell? ⟨w.heap.size, 0, none⟩ = some (.int .i64 p) := newCell w _ _ 0
  have c1 : (w.alloc (.cells #[.int .i64 p, .string s] 25)).cell? ⟨w.heap.size, 1, none⟩ = some (.string s) := newCell w _ _ 1
  replace B0 := Lib.hid B0; replace S0 := Lib.hid S0
  obtain ⟨b, hb⟩ : ∃ b, decide (0 ≤ p ∧ p < 4096) = b := ⟨_, rfl⟩
  obtain ⟨q, hq⟩ : ∃ b, decide (s.size = 32) = b := ⟨_, rfl⟩
  have hpl : ∀ w', Calls Try.prog 69 #[.int .i64 p] w' fun e w2 => e = .returned (.bool b) ∧ Below w'.heap.size w' w2 := fun w' => by rw [← hb]; exact mayPlace_any p w'
  have hq1 : (s.size = 32) = (q = true) := by rw [← hq]; simp
  have hq2 : ((s.size : Int) = 32) = (q = true) := by rw [← hq1]; apply propext; omega
  have hq3 : ((s.size : Int) == 32) = q := by rw [Bool.eq_iff_iff, ← hq2]; simp
  obtain ⟨x, hx⟩ : ∃ x, (p == -1) = x := ⟨_, rfl⟩
  obtain ⟨y, hy⟩ : ∃ x, (s.toList == (⟨#[]⟩ : ByteArray).toList) = x := ⟨_, rfl⟩
  have hans : mayRootB p s = (x && y || b && q) := by
    rw [← hx, ← hy, ← hb, ← hq, ← beq_toListBytes]
    unfold mayRootB
    rw [Bool.eq_iff_iff]
    have he := empty_beq s
    simp [he]
  rw [hans]
  have hx2 : (p = -1) = (x = true) := by rw [← hx]; simp
  have hy2 : (s.toList == []) = y := by rw [← hy, ByteArray.toList_eq, ByteArray.toList_eq]
  have hy3 : (s.toList = []) = (y = true) := by rw [← hy2]; simp
  have hy4 : (s = ⟨#[]⟩) = (y = true) := by rw [← hy, ← beq_toListBytes]; exact propext (empty_beq s).symm
  clear hans hb hq
  replace hpl := Lib.hid hpl
  by_cases hxy : x = true ∧ y = true
  · obtain ⟨rfl, rfl⟩ := hxy
    obtain rfl : p = -1 := by rw [hx2]
    obtain rfl : s = ⟨#[]⟩ := by rw [hy4]
    clear hx hx2 hy hy2 hy3 hy4 hq1 hq2 hq3
    go_enter Try.func68, Try.ntmps68
    go_upto_region 1 with fail
    first
      | (go_region_with (first
        | (go_at_call 103; (with_reducible refine (noRoot_any _).mono ?_); rintro e w1 ⟨rfl, b1⟩; obtain ⟨hrow, hcell, hfree, hbel⟩ := boxRow (undrew b1); have d0 := hcell 0; have d1 := hcell 1; clear hcell hfree; replace hrow := Lib.hid hrow; replace hbel := Lib.hid hbel; clear b1)
        | (go_at_call 69; (with_reducible refine (hpl.out _).mono ?_); rintro e w2 ⟨rfl, b2⟩; obtain ⟨d0, d1⟩ := keep2 hrow.out b2; replace hbel := Lib.hid (belowCont hbel.out b2); clear b2)))
      | fail
    all_goals go_wp2
    all_goals go_ret
    all_goals exact ⟨rfl, hbel.out⟩
  · have hxf : x = false ∨ (x = true ∧ y = false) := by cases x <;> cases y <;> simp at hxy ⊢
    clear hxy
    have hbq : b = false ∨ (b = true ∧ q = false) ∨ (b = true ∧ q = true) := by cases b <;> cases q <;> simp
    rcases hxf with rfl | ⟨rfl, rfl⟩ <;> rcases hbq with rfl | ⟨rfl, rfl⟩ | ⟨rfl, rfl⟩
    all_goals (
      go_enter Try.func68, Try.ntmps68
      go_upto_region 1 with fail
      first
        | (go_region_with (first
        | (go_at_call 103; (with_reducible refine (noRoot_any _).mono ?_); rintro e w1 ⟨rfl, b1⟩; obtain ⟨hrow, hcell, hfree, hbel⟩ := boxRow (undrew b1); have d0 := hcell 0; have d1 := hcell 1; clear hcell hfree; replace hrow := Lib.hid hrow; replace hbel := Lib.hid hbel; clear b1)
        | (go_at_call 69; (with_reducible refine (hpl.out _).mono ?_); rintro e w2 ⟨rfl, b2⟩; obtain ⟨d0, d1⟩ := keep2 hrow.out b2; replace hbel := Lib.hid (belowCont hbel.out b2); clear b2)))
        | fail)
    all_goals go_wp2
    all_goals go_ret
    all_goals exact ⟨rfl, hbel.out⟩
theorem slot_any (x : Array Value) (n : Nat) (hx : x[0]? = some (.int .u64 (n : Int))) (w : World) : True := trivial
end Go.Proofs.Ytdhboldmffiklab.anchor
