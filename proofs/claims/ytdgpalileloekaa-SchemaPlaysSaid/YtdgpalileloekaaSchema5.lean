/- One index more (Add). No condition but the slice's cells. -/
import Derived.Test.YtdgpalileloekaaSchema4
namespace Go.Proofs.Ytdgpalileloekaa.schema
open Go.RowKit
attribute [local go_sem ↓] Go.wp_at_zero Go.wp_at_succ
set_option linter.unusedVariables false
set_option maxRecDepth 100000

theorem add1_any (x y : Ix) (g : Nat) (w : World) (h : w.heap[g]? = some (.cells #[.int .i64 y.l, .int .i64 y.k, .int .i64 y.d] 73 (0, 0))) :
    Calls Try.prog 70 #[x.v, .pointer (some ⟨g, 0, none⟩)] w fun e w' => e = .returned (.bool (decide (0 < ordI x y))) ∧ Below w.heap.size w w' := by
  have hp := (Hp.none_ w []).alloc #[.int .i64 x.l, .int .i64 x.k, .int .i64 x.d] 73
  have b0 := hp.bel
  have ho := fun W => order_any x y W
  obtain ⟨R, hR⟩ : ∃ R, R = ordI x y := ⟨_, rfl⟩
  rw [← hR] at ho ⊢
  obtain ⟨xl, xk, xd⟩ := x
  obtain ⟨yl, yk, yd⟩ := y
  unfold Ix.v at *
  simp only at *
  have hlt := block_lt h
  have a0 := (b0.cell hlt).trans (cell_of_row w g 0 _ _ _ h)
  have a1 := (b0.cell hlt).trans (cell_of_row w g 1 _ _ _ h)
  have a2 := (b0.cell hlt).trans (cell_of_row w g 2 _ _ _ h)
  simp at a0 a1 a2
  replace b0 := Lib.hid b0; replace hp := Lib.hid hp; replace ho := Lib.hid ho
  clear h hR
  have hgt : decide (R > 0) = decide (0 < R) := rfl
  go_enter Try.func70, Try.ntmps70
  go_wp2_with (go_at_call 71; (with_reducible refine (ho.out _).mono ?_); rintro e w1 ⟨rfl, b1⟩; replace hp := Lib.hid (hp.out.below b1); clear b1)
  go_ret
  exact ⟨rfl, hp.out.bel⟩
theorem add2_any (x y : Ix) (g : Nat) (w : World) (h : w.heap[g]? = some (.cells #[.int .i64 y.l, .int .i64 y.k, .int .i64 y.d] 73 (0, 0))) :
    Calls Try.prog 72 #[x.v, .pointer (some ⟨g, 0, none⟩)] w fun e w' => e = .returned (.bool (decide (ordI x y < 0))) ∧ Below w.heap.size w w' := by
  have hp := (Hp.none_ w []).alloc #[.int .i64 x.l, .int .i64 x.k, .int .i64 x.d] 73
  have b0 := hp.bel
  have ho := fun W => order_any x y W
  obtain ⟨R, hR⟩ : ∃ R, R = ordI x y := ⟨_, rfl⟩
  rw [← hR] at ho ⊢
  obtain ⟨xl, xk, xd⟩ := x
  obtain ⟨yl, yk, yd⟩ := y
  unfold Ix.v at *
  simp only at *
  have hlt := block_lt h
  have a0 := (b0.cell hlt).trans (cell_of_row w g 0 _ _ _ h)
  have a1 := (b0.cell hlt).trans (cell_of_row w g 1 _ _ _ h)
  have a2 := (b0.cell hlt).trans (cell_of_row w g 2 _ _ _ h)
  simp at a0 a1 a2
  replace b0 := Lib.hid b0; replace hp := Lib.hid hp; replace ho := Lib.hid ho
  clear h hR
  go_enter Try.func72, Try.ntmps72
  go_wp2_with (go_at_call 71; (with_reducible refine (ho.out _).mono ?_); rintro e w1 ⟨rfl, b1⟩; replace hp := Lib.hid (hp.out.below b1); clear b1)
  go_ret
  exact ⟨rfl, hp.out.bel⟩
def behindL (l : List Ix) (x : Ix) : List Ix := l.filter fun y => decide (0 < ordI y x)
def aheadL (l : List Ix) (x : Ix) : List Ix := l.filter fun y => decide (ordI y x < 0)
/-- what Add hands back: the list, and the error -/
def addL (l : List Ix) (x : Ix) : List Ix × Int :=
  if mayB x = false ∨ l.filter (same x.l x.k) ≠ [] then (l, 1)
  else if 32 ≤ l.length then (l, 5)
  else (aheadL l x ++ [x] ++ behindL l x, 0)
def AddRet (w : World) (l : List Ix) (er : Int) (e : Ending) (w' : World) : Prop := ∃ v, e = .returned (.tuple #[v, .int .i64 er]) ∧ RowRet w l v w'
theorem add_not (v : Value) (l : List Ix) (x : Ix) (w : World) (h : Sl w v l.length (ixCells l)) (hn : l.length ≤ 100000) (hm : mayB x = false) :
    Calls Try.prog 35 #[v, x.v] w (AddRet w l 1) := by
  have hp := (Hp.none_ w []).alloc #[.int .i64 x.l, .int .i64 x.k, .int .i64 x.d] 73
  have c1 := fun W => may_any x W
  rw [hm] at c1
  have c2 := fun W (hb : Below w.heap.size w W) => slix.clone_any v l.length (ixCells l) (ixCells_len l) (ixCells_one l) (by omega) W (h.below hb)
  obtain ⟨xl, xk, xd⟩ := x
  unfold Ix.v at *
  simp only at *
  replace hp := Lib.hid hp; replace c1 := Lib.hid c1; replace c2 := Lib.hid c2
  clear h hn hm
  go_enter Try.func35, Try.ntmps35
  go_wp2_with (first
    | (go_at_call 37; (with_reducible refine (c1.out _).mono ?_); rintro e w1 ⟨rfl, b1⟩; replace hp := Lib.hid (hp.out.below b1); clear b1)
    | (go_at_call 69; (with_reducible refine (c2.out _ hp.out.bel).mono ?_); rintro e w1 ⟨v', rfl, hv, h1⟩; replace hp := Lib.hid ((hp.out.take h1).drop 1); clear h1; replace hv := Lib.hid hv))
  go_ret2
  exact ⟨_, rfl, hv.out, hp.out⟩
set_option maxHeartbeats 1000000 in
theorem add_is (v : Value) (l : List Ix) (x : Ix) (w : World) (h : Sl w v l.length (ixCells l)) (hn : l.length ≤ 100000) (hm : mayB x = true) (hs : l.filter (same x.l x.k) ≠ []) :
    Calls Try.prog 35 #[v, x.v] w (AddRet w l 1) := by
  have hp := (Hp.none_ w []).alloc #[.int .i64 x.l, .int .i64 x.k, .int .i64 x.d] 73
  have c1 := fun W => may_any x W
  rw [hm] at c1
  have c2 := fun W (hb : Below w.heap.size w W) => slix.clone_any v l.length (ixCells l) (ixCells_len l) (ixCells_one l) (by omega) W (h.below hb)
  have c3 := fun W (hb : Below w.heap.size w W) => by_any v l x.l x.k W (h.below hb) hn
  obtain ⟨F, hF⟩ : ∃ F, F = l.filter (same x.l x.k) := ⟨_, rfl⟩
  rw [← hF] at c3 hs
  have hpos : (F.length : Int) > 0 := by have := List.length_pos_iff.2 hs; omega
  obtain ⟨xl, xk, xd⟩ := x
  unfold Ix.v at *
  simp only at *
  replace hp := Lib.hid hp; replace c1 := Lib.hid c1; replace c2 := Lib.hid c2; replace c3 := Lib.hid c3
  clear h hn hm hF hs
  go_enter Try.func35, Try.ntmps35
  go_wp2_with (first
    | (go_at_call 37; (with_reducible refine (c1.out _).mono ?_); rintro e w1 ⟨rfl, b1⟩; replace hp := Lib.hid (hp.out.below b1); clear b1; have d0 := hp.out.cell (i := 0) rfl 0; have d1 := hp.out.cell (i := 0) rfl 1; simp at d0 d1)
    | (go_at_call 68; (with_reducible refine (c3.out _ hp.out.bel).mono ?_); rintro e w1 ⟨v', rfl, ⟨ad, cp, rfl⟩, h1⟩; replace hp := Lib.hid ((hp.out.take h1).drop 0); clear h1)
    | (go_at_call 69; (with_reducible refine (c2.out _ hp.out.bel).mono ?_); rintro e w1 ⟨v', rfl, hv, h1⟩; replace hp := Lib.hid ((hp.out.take h1).drop 1); clear h1; replace hv := Lib.hid hv))
  go_ret2
  exact ⟨_, rfl, hv.out, hp.out⟩
end Go.Proofs.Ytdgpalileloekaa.schema
