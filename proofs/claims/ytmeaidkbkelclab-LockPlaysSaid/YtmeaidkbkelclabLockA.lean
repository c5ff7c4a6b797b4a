/- What sessions hold: the laws' awake. No condition. -/
import Derived.Test.YtmeaidkbkelclabLock5
import Derived.Test.YtmeaidkbkelclabLock7
namespace Go.Proofs.Ytmeaidkbkelclab.lock
open Go.RowKit
attribute [local go_sem ↓] Go.wp_at_zero Go.wp_at_succ
attribute [local go_sem] str_size
set_option linter.unusedVariables false
set_option maxRecDepth 100000

theorem LockAt.congr {w : World} {g m N N' : Nat} {T T' : List UInt8 → Nat → Nat} {held held' : Nat → Nat} {things : Nat} (h : LockAt w g m N T held things) (hT : T' = T) (hh : held' = held) (hN : N ≤ N') : LockAt w g m N' T' held' things := by
  subst hT; subst hh
  obtain ⟨D, c, h1, h2, h3⟩ := h.own
  exact ⟨h.blk, D, c, h1, by omega, h3⟩
def T1 : List UInt8 → Nat → Nat := newT (fun _ _ => 0) [120] (newH (fun _ => 0) 0 true)
def H1 : Nat → Nat := heldUp (fun _ => 0) (fun _ => 0) 0
theorem awake_any (w : World) : Calls Try.prog 14 #[] w fun e w' => e = .returned (.bool true) ∧ Below w.heap.size w w' := by
  have c1 : ∀ W g m, LockAt W g m 0 (fun _ _ => 0) (fun _ => 0) 0 → Calls Try.prog 16 #[.pointer (some ⟨g, 0, none⟩), .int .i64 0, .agg #[.string ⟨#[120]⟩, .bool true]] W fun e w' => e = .returned (.tuple #[.slice none 0 0, .int .i64 0]) ∧ LockAt w' g m 1 T1 H1 1 ∧ Keeps [g, m] W w' := fun W g m h => take_ok h 0 (by decide) [120] (by decide) (by decide) true (by decide) (by decide) (by decide) (by decide)
  have c2 : ∀ W g m, LockAt W g m 1 T1 H1 1 → Calls Try.prog 16 #[.pointer (some ⟨g, 0, none⟩), .int .i64 1, .agg #[.string ⟨#[120]⟩, .bool false]] W fun e w' => ∃ v, e = .returned (.tuple #[v, .int .i64 0]) ∧ Hp W [] [.row 3 1 v 1 (ints [0])] w' := fun W g m h => by
    have h1 : agK (T1 [120]) 1 false 16 = [0] := by decide
    have := take_ag h 1 (by decide) [120] (by decide) (by decide) false (by decide) (by rw [h1]; simp)
    rw [h1] at this
    exact this
  have c3 : ∀ W g m, LockAt W g m 1 T1 H1 1 → Calls Try.prog 23 #[.pointer (some ⟨g, 0, none⟩), .int .i64 0] W fun e w' => e = .returned (.int .i64 1) ∧ Below W.heap.size W w' := fun W g m h => held_any h 0 (by decide)
  have hb := Below.refl w.heap.size w
  replace c1 := Lib.hid c1; replace c2 := Lib.hid c2; replace c3 := Lib.hid c3
  go_enter Try.func14, Try.ntmps14
  go_wp2_with (first
    | (go_at_call 13; (with_reducible refine (new_any _).mono ?_); rintro e w1 ⟨rfl, h1, b1⟩; replace h1 := Lib.hid h1; replace b1 := Lib.hid b1)
    | (go_at_call 16; (with_reducible refine (c1.out _ _ _ h1.out).mono ?_); rintro e w2 ⟨rfl, h2, k2⟩; replace h2 := Lib.hid h2; replace b1 := Lib.hid (b1.out.trans (k2.below b1.out.size (by intro x hx; simp at hx; rcases hx with rfl | rfl <;> omega))); clear h1 k2)
    | (go_at_call 16; (with_reducible refine (c2.out _ _ _ h2.out).mono ?_); rintro e w3 ⟨v, rfl, h3⟩; replace h2 := Lib.hid (h2.out.below h3.bel); replace b1 := Lib.hid (belowCont b1.out h3.bel); obtain ⟨q3, cp3, rfl, _, _⟩ := (h3.row (i := 0) rfl).form (by decide); have z3 : w3.cell? ⟨q3, 0, none⟩ = some (.int .i64 0) := World.ownsRow.cellAt (h3.row (i := 0) rfl) 0 (by decide); replace h3 := Lib.hid h3)
    | (go_at_call 23; (with_reducible refine (c3.out _ _ _ h2.out).mono ?_); rintro e w4 ⟨rfl, b4⟩; replace b1 := Lib.hid (belowCont b1.out b4); clear b4))
  go_ret
  exact ⟨rfl, b1.out⟩
end Go.Proofs.Ytmeaidkbkelclab.lock
