/- Indexes: their order; those of a list that are wanted. No condition but the slices' cells. -/
import Derived.Test.YtdgpalileloekaaSchema
namespace Go.Proofs.Ytdgpalileloekaa.schema
open Go.RowKit
attribute [local go_sem ↓] Go.wp_at_zero Go.wp_at_succ
set_option linter.unusedVariables false
set_option maxRecDepth 100000

theorem or_two (a b : Int) (q : Nat) (w : World) (h : w.heap[q]? = some (.cells #[.int .i64 a, .int .i64 b] 3 (0, 0))) :
    Calls Try.prog 85 #[.slice (some ⟨q, 0, none⟩) 2 2] w fun e w' => e = .returned (.int .i64 (if a ≠ 0 then a else b)) ∧ w' = w := by
  have d0 := cell_of_row w q 0 _ _ _ h
  have d1 := cell_of_row w q 1 _ _ _ h
  simp at d0 d1
  clear h
  obtain ⟨R, hR⟩ : ∃ R, R = (if a ≠ 0 then a else b) := ⟨_, rfl⟩
  have hR1 : a ≠ 0 → a = R := fun h => by rw [hR, if_pos h]
  have hR2 : a = 0 → b = R := fun h => by rw [hR, if_neg (by simp [h])]
  rw [← hR]
  clear hR
  replace hR1 := Lib.hid hR1; replace hR2 := Lib.hid hR2
  go_enter Try.func85, Try.ntmps85
  go_wp2
  go_loopw [8] (fun s8 wr => ∃ i : Nat, s8 = .int .i64 (i : Int) ∧ i ≤ 2 ∧ (1 ≤ i → a = 0) ∧ (2 ≤ i → b = 0) ∧ w = wr) (fun s8 _ => 2 - (intOf s8).toNat)
  case atStart => exact ⟨0, rfl, by omega, by omega, by omega, rfl⟩
  case round =>
    obtain ⟨i, rfl, hi, ha, hb, rfl⟩ := hrel
    obtain rfl | rfl | rfl : i = 0 ∨ i = 1 ∨ i = 2 := by omega
    · by_cases h0 : a = 0
      · subst h0
        have e1 : ((0 : Int) == 0) = true := rfl
        go_wp2
        go_roundw
        case rel => exact ⟨1, rfl, by omega, by first | exact fun _ => rfl | trivial, by omega, by first | trivial | rfl⟩
        case measure => simp [intOf]
      · have e1 : (a == 0) = false := by simp [h0]
        go_wp2
        go_ret
        exact ⟨by first | rfl | (rw [hR1.out h0]; rfl), rfl⟩
    · have ha := ha (by omega)
      have hb2 := hR2.out ha
      by_cases h0 : b = 0
      · subst h0
        have e1 : ((0 : Int) == 0) = true := rfl
        replace ha := Lib.hid ha
        go_wp2
        go_roundw
        case rel => exact ⟨2, rfl, by omega, fun _ => ha.out, by first | exact fun _ => rfl | trivial, by first | trivial | rfl⟩
        case measure => simp [intOf]
      · have e1 : (b == 0) = false := by simp [h0]
        replace ha := Lib.hid ha
        go_wp2
        go_ret
        exact ⟨by first | rfl | (rw [hb2]; rfl), rfl⟩
    · have ha := ha (by omega)
      have hb := hb (by omega)
      have hb2 := hR2.out ha
      go_wp2
      go_ret
      exact ⟨by first | (rw [← hb2, hb]; rfl) | (rw [hb] at hb2; rw [← hb2]; rfl), rfl⟩
set_option maxHeartbeats 1000000 in
theorem order_any (x y : Ix) (w : World) : Calls Try.prog 71 #[x.v, y.v] w fun e w' => e = .returned (.int .i64 (ordI x y)) ∧ Below w.heap.size w w' := by
  obtain ⟨xl, xk, xd⟩ := x
  obtain ⟨yl, yk, yd⟩ := y
  have hp := ((Hp.none_ w []).alloc #[.int .i64 xl, .int .i64 xk, .int .i64 xd] 73).alloc #[.int .i64 yl, .int .i64 yk, .int .i64 yd] 73
  have hs : (w.alloc (.cells #[.int .i64 xl, .int .i64 xk, .int .i64 xd] 73)).heap.size = w.heap.size + 1 := by simp
  rw [hs] at hp
  have c1 := fun W => compare_any xl yl W
  have c2 := fun W => compare_any xk yk W
  unfold Ix.v ordI
  simp only
  generalize cmpI xl yl = p at *
  generalize cmpI xk yk = q at *
  have c3 : ∀ X : World, Calls Try.prog 85 #[.slice (some ⟨X.heap.size, 0, none⟩) 2 2] (X.alloc (.cells #[.int .i64 p, .int .i64 q] 3)).drew fun e w' => e = .returned (.int .i64 (if p ≠ 0 then p else q)) ∧ w' = (X.alloc (.cells #[.int .i64 p, .int .i64 q] 3)).drew := fun X => or_two p q _ _ (heap_alloc_new X _)
  generalize (if p ≠ 0 then p else q) = R at *
  replace hp := Lib.hid hp; replace c1 := Lib.hid c1; replace c2 := Lib.hid c2; replace c3 := Lib.hid c3
  clear hs
  go_enter Try.func71, Try.ntmps71
  go_upto_region 1 with fail
  generalize World.alloc (World.alloc w _) _ = W at hp ⊢
  generalize w.heap.size = g at *
  have x0 := hp.out.cell (i := 1) rfl 0; have x1 := hp.out.cell (i := 1) rfl 1; have y0 := hp.out.cell (i := 0) rfl 0; have y1 := hp.out.cell (i := 0) rfl 1
  simp at x0 x1 y0 y1
  go_region_held3 (fun W' => Hp w [] [.box (g + 1) #[.int .i64 yl, .int .i64 yk, .int .i64 yd] 73, .box g #[.int .i64 xl, .int .i64 xk, .int .i64 xd] 73] W' ∧ W'.cell? ⟨g, 0, none⟩ = some (.int .i64 xl) ∧ W'.cell? ⟨g, 1, none⟩ = some (.int .i64 xk) ∧ W'.cell? ⟨g + 1, 0, none⟩ = some (.int .i64 yl) ∧ W'.cell? ⟨g + 1, 1, none⟩ = some (.int .i64 yk))
    (first
      | exact ⟨hp.out.drew, x0, x1, y0, y1⟩
      | (have hq := (hp.out.alloc_ (.cells #[.int .i64 p, .int .i64 q] 3)).drew; exact ⟨hq, hq.cell (i := 1) rfl 0, hq.cell (i := 1) rfl 1, hq.cell (i := 0) rfl 0, hq.cell (i := 0) rfl 1⟩)
      | (go_split_ands; exact ⟨by assumption, by assumption, by assumption, by assumption, by assumption⟩))
    (first
      | (go_at_call 86; (with_reducible refine (c1.out _).mono ?_); rintro e' w1 ⟨rfl, rfl⟩)
      | (go_at_call 86; (with_reducible refine (c2.out _).mono ?_); rintro e' w1 ⟨rfl, rfl⟩)
      | (go_at_call 85; (with_reducible refine (c3.out _).mono ?_); rintro e' w1 ⟨rfl, rfl⟩))
  all_goals go_wp2
  all_goals go_ret
  all_goals (go_split_ands; exact ⟨rfl, Hp.bel (by assumption)⟩)
end Go.Proofs.Ytdgpalileloekaa.schema
