/- Indexes (package schema): which may be, their order, those of a list that are wanted. No condition but the slices' cells. -/
import Derived.Test.YtdgpalileloekaaSlIx
import Derived.BigRegion
import Derived.Deep.DeepCutAuto
import Derived.StillTailTactics
import Derived.Deep.RegionHeld3
namespace Go.Proofs.Ytdgpalileloekaa.schema
open Go.RowKit
attribute [local go_sem ↓] Go.wp_at_zero Go.wp_at_succ
set_option linter.unusedVariables false
set_option maxRecDepth 100000

structure Ix where
  l : Int
  k : Int
  d : Int
deriving DecidableEq
def ixC (x : Ix) : List Value := [.int .i64 x.l, .int .i64 x.k, .int .i64 x.d]
theorem ixC_len (x : Ix) : (ixC x).length = 3 := rfl
def ixCells (l : List Ix) : List Value := l.flatMap ixC
theorem ixCells_len (l : List Ix) : (ixCells l).length = l.length * 3 := flat_len ixC 3 ixC_len l
theorem ixCells_one (l : List Ix) : ∀ u ∈ ixCells l, u.oneCell' = true := by
  intro u hu
  simp only [ixCells, List.mem_flatMap] at hu
  obtain ⟨x, _, hx⟩ := hu
  simp [ixC] at hx
  rcases hx with rfl | rfl | rfl <;> rfl
def Ix.v (x : Ix) : Value := .agg #[.int .i64 x.l, .int .i64 x.k, .int .i64 x.d]
def nameB (n : Int) : Bool := decide (0 ≤ n ∧ n < 64)
def mayB (x : Ix) : Bool := nameB x.l && nameB x.k && decide (x.d = 1 ∨ x.d = 2)
def cmpI (a b : Int) : Int := if a < b then -1 else if b < a then 1 else 0
def ordI (x y : Ix) : Int := if cmpI x.l y.l ≠ 0 then cmpI x.l y.l else cmpI x.k y.k
theorem name_any (n : Int) (w : World) : Calls Try.prog 74 #[.int .i64 n] w fun e w' => e = .returned (.bool (nameB n)) ∧ Below w.heap.size w w' := by
  by_cases h0 : 0 ≤ n
  · have h1 : n ≥ 0 := h0
    have hn : nameB n = decide (n < 64) := by simp [nameB, h0]
    rw [hn]
    clear hn h0
    go_enter Try.func74, Try.ntmps74
    go_wp2
    go_ret
    exact ⟨rfl, Below.refl _ _⟩
  · have h1 : ¬ n ≥ 0 := h0
    have hn : nameB n = false := by simp [nameB, h0]
    rw [hn]
    clear hn h0
    go_enter Try.func74, Try.ntmps74
    go_wp2
    go_ret
    exact ⟨rfl, Below.refl _ _⟩
set_option maxHeartbeats 1000000 in
theorem may_any (x : Ix) (w : World) : Calls Try.prog 37 #[x.v] w fun e w' => e = .returned (.bool (mayB x)) ∧ Below w.heap.size w w' := by
  obtain ⟨l, k, d⟩ := x
  have c := fun n w => name_any n w
  have hp := (Hp.none_ w []).alloc #[.int .i64 l, .int .i64 k, .int .i64 d] 73
  unfold Ix.v mayB
  simp only
  obtain ⟨p, hpq⟩ : ∃ p, nameB l = p := ⟨_, rfl⟩
  obtain ⟨q, hq⟩ : ∃ p, nameB k = p := ⟨_, rfl⟩
  have c1 : ∀ w, Calls Try.prog 74 #[.int .i64 l] w fun e w' => e = .returned (.bool p) ∧ Below w.heap.size w w' := fun w => by rw [← hpq]; exact c l w
  have c2 : ∀ w, Calls Try.prog 74 #[.int .i64 k] w fun e w' => e = .returned (.bool q) ∧ Below w.heap.size w w' := fun w => by rw [← hq]; exact c k w
  rw [hpq, hq]
  clear hpq hq c
  replace hp := Lib.hid hp; replace c1 := Lib.hid c1; replace c2 := Lib.hid c2
  cases p <;> cases q
  · go_enter Try.func37, Try.ntmps37
    go_wp2_with (first
      | (go_at_call 74; (with_reducible refine (c1.out _).mono ?_); rintro e w1 ⟨rfl, b1⟩; replace hp := Lib.hid (hp.out.below b1); clear b1; have d1 := hp.out.cell (i := 0) rfl 1; have d2 := hp.out.cell (i := 0) rfl 2; simp at d1 d2)
      | (go_at_call 74; (with_reducible refine (c2.out _).mono ?_); rintro e w1 ⟨rfl, b1⟩; replace hp := Lib.hid (hp.out.below b1); clear b1; have d2 := hp.out.cell (i := 0) rfl 2; simp at d2))
    go_ret
    exact ⟨rfl, hp.out.bel⟩
  · go_enter Try.func37, Try.ntmps37
    go_wp2_with (first
      | (go_at_call 74; (with_reducible refine (c1.out _).mono ?_); rintro e w1 ⟨rfl, b1⟩; replace hp := Lib.hid (hp.out.below b1); clear b1; have d1 := hp.out.cell (i := 0) rfl 1; have d2 := hp.out.cell (i := 0) rfl 2; simp at d1 d2)
      | (go_at_call 74; (with_reducible refine (c2.out _).mono ?_); rintro e w1 ⟨rfl, b1⟩; replace hp := Lib.hid (hp.out.below b1); clear b1; have d2 := hp.out.cell (i := 0) rfl 2; simp at d2))
    go_ret
    exact ⟨rfl, hp.out.bel⟩
  · go_enter Try.func37, Try.ntmps37
    go_wp2_with (first
      | (go_at_call 74; (with_reducible refine (c1.out _).mono ?_); rintro e w1 ⟨rfl, b1⟩; replace hp := Lib.hid (hp.out.below b1); clear b1; have d1 := hp.out.cell (i := 0) rfl 1; have d2 := hp.out.cell (i := 0) rfl 2; simp at d1 d2)
      | (go_at_call 74; (with_reducible refine (c2.out _).mono ?_); rintro e w1 ⟨rfl, b1⟩; replace hp := Lib.hid (hp.out.below b1); clear b1; have d2 := hp.out.cell (i := 0) rfl 2; simp at d2))
    go_ret
    exact ⟨rfl, hp.out.bel⟩
  · by_cases hd1 : d = 1
    · subst hd1
      go_enter Try.func37, Try.ntmps37
      go_wp2_with (first
        | (go_at_call 74; (with_reducible refine (c1.out _).mono ?_); rintro e w1 ⟨rfl, b1⟩; replace hp := Lib.hid (hp.out.below b1); clear b1; have d1 := hp.out.cell (i := 0) rfl 1; have d2 := hp.out.cell (i := 0) rfl 2; simp at d1 d2)
        | (go_at_call 74; (with_reducible refine (c2.out _).mono ?_); rintro e w1 ⟨rfl, b1⟩; replace hp := Lib.hid (hp.out.below b1); clear b1; have d2 := hp.out.cell (i := 0) rfl 2; simp at d2))
      go_ret
      exact ⟨rfl, hp.out.bel⟩
    · have e1 : (d == 1) = false := by simp [hd1]
      have hb : decide (d = 1 ∨ d = 2) = decide (d = 2) := by simp [hd1]
      rw [hb]
      clear hb
      go_enter Try.func37, Try.ntmps37
      go_wp2_with (first
        | (go_at_call 74; (with_reducible refine (c1.out _).mono ?_); rintro e w1 ⟨rfl, b1⟩; replace hp := Lib.hid (hp.out.below b1); clear b1; have d1 := hp.out.cell (i := 0) rfl 1; have d2 := hp.out.cell (i := 0) rfl 2; simp at d1 d2)
        | (go_at_call 74; (with_reducible refine (c2.out _).mono ?_); rintro e w1 ⟨rfl, b1⟩; replace hp := Lib.hid (hp.out.below b1); clear b1; have d2 := hp.out.cell (i := 0) rfl 2; simp at d2))
      go_ret
      exact ⟨rfl, hp.out.bel⟩
theorem nan_any (n : Int) (w : World) : Calls Try.prog 90 #[.int .i64 n] w fun e w' => e = .returned (.bool false) ∧ w' = w := by
  have h : (n == n) = true := by simp
  go_enter Try.func90, Try.ntmps90
  go_wp2
  go_ret
  exact ⟨rfl, rfl⟩
theorem compare_any (a b : Int) (w : World) : Calls Try.prog 86 #[.int .i64 a, .int .i64 b] w fun e w' => e = .returned (.int .i64 (cmpI a b)) ∧ w' = w := by
  have c := Lib.hid (fun n w => nan_any n w)
  unfold cmpI
  by_cases h1 : a < b
  · rw [if_pos h1]
    go_enter Try.func86, Try.ntmps86
    go_wp2_with (go_at_call 90; (with_reducible refine (c.out _ _).mono ?_); rintro e w1 ⟨rfl, rfl⟩)
    go_ret
    exact ⟨rfl, rfl⟩
  · rw [if_neg h1]
    by_cases h2 : b < a
    · rw [if_pos h2]
      go_enter Try.func86, Try.ntmps86
      go_wp2_with (go_at_call 90; (with_reducible refine (c.out _ _).mono ?_); rintro e w1 ⟨rfl, rfl⟩)
      go_ret
      exact ⟨rfl, rfl⟩
    · rw [if_neg h2]
      go_enter Try.func86, Try.ntmps86
      go_wp2_with (go_at_call 90; (with_reducible refine (c.out _ _).mono ?_); rintro e w1 ⟨rfl, rfl⟩)
      go_ret
      exact ⟨rfl, rfl⟩
end Go.Proofs.Ytdgpalileloekaa.schema
