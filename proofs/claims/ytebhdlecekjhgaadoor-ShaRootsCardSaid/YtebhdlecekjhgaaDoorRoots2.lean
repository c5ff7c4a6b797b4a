/- What the salts are made of: above, cube, square. No condition. -/
import Derived.Test.YtebhdlecekjhgaaDoorRoots
namespace Go.Proofs.YtebhdlecekjhgaaDoor.roots
open Go.RowKit
attribute [local go_sem ↓] Go.wp_at_zero Go.wp_at_succ
set_option linter.unusedVariables false
set_option maxRecDepth 100000

def cubeL (k : Nat) : List Nat := timesL (timesL [k % 4294967296, k / 4294967296, 0, 0] k) k
/-- is the one above the other? the highest part first -/
def aboveGo (a b : List Nat) : Nat → Bool
  | 0 => false
  | i + 1 => if a.getD i 0 = b.getD i 0 then aboveGo a b i else decide (b.getD i 0 < a.getD i 0)
def aboveB (k n : Nat) : Bool := aboveGo (cubeL k) [0, 0, 0, n] 4
theorem split_ok (k : Nat) (hk : k < 18446744073709551616) : Four [k % 4294967296, k / 4294967296, 0, 0] := Four.mk4 (Nat.mod_lt _ (by decide)) (by omega) (by decide) (by decide)
/-- four cells written over -/
theorem DW.over {w : World} {g : Nat} {x0 x1 x2 x3 y0 y1 y2 y3 : Nat} (h : DW w g 142 [x0, x1, x2, x3]) :
    DW ((((w.setCell ⟨g, 0, none⟩ (.int .u64 (y0 : Int))).setCell ⟨g, 1, none⟩ (.int .u64 (y1 : Int))).setCell ⟨g, 2, none⟩ (.int .u64 (y2 : Int))).setCell ⟨g, 3, none⟩ (.int .u64 (y3 : Int))) g 142 [y0, y1, y2, y3] :=
  (((h.put 0 y0).put 1 y1).put 2 y2).put 3 y3
theorem belOver {w W : World} {g : Nat} {v0 v1 v2 v3 : Value} (h : Below w.heap.size w W) (hg : w.heap.size ≤ g) :
    Below w.heap.size w ((((W.setCell ⟨g, 0, none⟩ v0).setCell ⟨g, 1, none⟩ v1).setCell ⟨g, 2, none⟩ v2).setCell ⟨g, 3, none⟩ v3) :=
  (((h.setCell (p := ⟨g, 0, none⟩) hg _).setCell (p := ⟨g, 1, none⟩) hg _).setCell (p := ⟨g, 2, none⟩) hg _).setCell (p := ⟨g, 3, none⟩) hg _
set_option maxHeartbeats 4000000 in
theorem above_any (k n : Nat) (hk : k < 18446744073709551616) (hn : n < 18446744073709551616) (w : World) :
    Calls Tryd.prog 110 #[.int .u64 (k : Int), .int .u64 (n : Int)] w fun e w' => e = .returned (.bool (aboveB k n)) ∧ Below w.heap.size w w' := by
  obtain ⟨p0, hp0⟩ : ∃ p : Nat, p = k % 4294967296 := ⟨_, rfl⟩
  obtain ⟨p1, hp1⟩ : ∃ p : Nat, p = k / 4294967296 := ⟨_, rfl⟩
  have e0 : (k : Int) % 4294967296 = (p0 : Int) := by omega
  have e1 : (k : Int) / 4294967296 = (p1 : Int) := by omega
  have e0w : IntKind.u64.wrap (p0 : Int) = (p0 : Int) := IntWalk.u64_in _ (by omega)
  have e1w : IntKind.u64.wrap (p1 : Int) = (p1 : Int) := IntWalk.u64_in _ (by omega)
  have hs := split_ok k hk
  have hx := times_ok _ k hs hk
  obtain ⟨x0, x1, x2, x3, hxe, _, _, _, _⟩ := hx.form
  have hx4 : Four [x0, x1, x2, x3] := by rw [← hxe]; exact hx
  have hy := times_ok _ k hx4 hk
  obtain ⟨y0, y1, y2, y3, hye, _, _, _, _⟩ := hy.form
  have hc : cubeL k = [y0, y1, y2, y3] := by unfold cubeL; rw [hxe, hye]
  have hB : aboveB k n = aboveGo [y0, y1, y2, y3] [0, 0, 0, n] 4 := by unfold aboveB; rw [hc]
  have c1 : ∀ w', Calls Tryd.prog 111 #[.agg #[.int .u64 (p0 : Int), .int .u64 (p1 : Int), .int .u64 0, .int .u64 0], .int .u64 (k : Int)] w' fun e w2 => e = .returned (.agg #[.int .u64 (x0 : Int), .int .u64 (x1 : Int), .int .u64 (x2 : Int), .int .u64 (x3 : Int)]) ∧ Below w'.heap.size w' w2 := fun w' => by
    rw [hp0, hp1]; exact times_any _ _ 0 0 k hs hk x0 x1 x2 x3 hxe w'
  have c2 := fun w' => times_any x0 x1 x2 x3 k hx4 hk y0 y1 y2 y3 hye w'
  have hk0 : (0 : Int) ≤ (k : Int) := Int.natCast_nonneg _
  obtain ⟨ans, hans⟩ : ∃ b, b = aboveB k n := ⟨_, rfl⟩
  rw [← hans]
  rw [← hans] at hB
  replace hB := Lib.hid hB
  clear hs hx hxe hx4 hy hye hc hp0 hp1 hans
  replace c1 := Lib.hid c1; replace c2 := Lib.hid c2; replace hk := Lib.hid hk; replace hn := Lib.hid hn
  go_enter Tryd.func110, Tryd.ntmps110
  go_upto_region 2 with (go_at_call 111; (with_reducible refine (c1.out _).mono ?_); rintro e w1 ⟨rfl, b1⟩; replace b1 := Lib.hid b1)
  clear e0 e1 e0w e1w hk0
  have hX : DW (w1.alloc (.cells #[.int .u64 (x0 : Int), .int .u64 (x1 : Int), .int .u64 (x2 : Int), .int .u64 (x3 : Int)] 142)) w1.heap.size 142 [x0, x1, x2, x3] := heap_alloc_new w1 _
  have hb := b1.out.alloc (b1.out.size) (.cells #[.int .u64 (x0 : Int), .int .u64 (x1 : Int), .int .u64 (x2 : Int), .int .u64 (x3 : Int)] 142)
  have hg : w.heap.size ≤ w1.heap.size := b1.out.size
  clear b1
  generalize w1.alloc (.cells #[.int .u64 (x0 : Int), .int .u64 (x1 : Int), .int .u64 (x2 : Int), .int .u64 (x3 : Int)] 142) = W at hX hb ⊢
  generalize w1.heap.size = g at hX hg ⊢
  clear w1
  have d0 := hX.cell (i := 0) (by simp)
  have d1 := hX.cell (i := 1) (by simp)
  have d2 := hX.cell (i := 2) (by simp)
  have d3 := hX.cell (i := 3) (by simp)
  simp only [List.getD_cons_zero, List.getD_cons_succ] at d0 d1 d2 d3
  replace hX := Lib.hid hX; replace hb := Lib.hid hb; replace hg := Lib.hid hg
  go_upto_region 3 with (go_at_call 111; (with_reducible refine (c2.out _).mono ?_); rintro e w2 ⟨rfl, b2⟩; have hX2 := hX.out.below b2; replace hb := Lib.hid (belowCont hb.out b2); clear b2; replace d0 := hX2.cell (i := 0) (by simp); replace d1 := hX2.cell (i := 1) (by simp); replace d2 := hX2.cell (i := 2) (by simp); replace d3 := hX2.cell (i := 3) (by simp); simp only [List.getD_cons_zero, List.getD_cons_succ] at d0 d1 d2 d3; have f0 := hX2.free 0; have f1 := hX2.free 1; have f2 := hX2.free 2; have f3 := hX2.free 3; replace hX2 := Lib.hid hX2)
  clear c1 c2 d0 d1 d2 d3 f0 f1 f2 f3 hX
  have hY := DW.over (y0 := y0) (y1 := y1) (y2 := y2) (y3 := y3) hX2.out
  have hb2 := belOver (v0 := .int .u64 (y0 : Int)) (v1 := .int .u64 (y1 : Int)) (v2 := .int .u64 (y2 : Int)) (v3 := .int .u64 (y3 : Int)) hb.out hg.out
  clear hb hX2
  generalize (((w2.setCell ⟨g, 0, none⟩ (.int .u64 (y0 : Int))).setCell ⟨g, 1, none⟩ (.int .u64 (y1 : Int))).setCell ⟨g, 2, none⟩ (.int .u64 (y2 : Int))).setCell ⟨g, 3, none⟩ (.int .u64 (y3 : Int)) = V at hY hb2 ⊢
  clear w2
  replace hY := Lib.hid hY; replace hb2 := Lib.hid hb2
  go_upto_region 5 with (fail)
  have hZ : DW (V.alloc (.cells #[.int .u64 0, .int .u64 0, .int .u64 0, .int .u64 (n : Int)] 142)) V.heap.size 142 [0, 0, 0, n] := heap_alloc_new V _
  have hY2 := hY.out.below ((Below.refl _ _).alloc (Nat.le_refl _) (.cells #[.int .u64 0, .int .u64 0, .int .u64 0, .int .u64 (n : Int)] 142))
  have hb3 := hb2.out.alloc hb2.out.size (.cells #[.int .u64 0, .int .u64 0, .int .u64 0, .int .u64 (n : Int)] 142)
  clear hY hb2
  generalize V.alloc (.cells #[.int .u64 0, .int .u64 0, .int .u64 0, .int .u64 (n : Int)] 142) = U at hZ hY2 hb3 ⊢
  generalize V.heap.size = h at hZ ⊢
  clear V
  obtain ⟨Y, hYe⟩ : ∃ l, l = [y0, y1, y2, y3] := ⟨_, rfl⟩
  obtain ⟨Z, hZe⟩ : ∃ l, l = [0, 0, 0, n] := ⟨_, rfl⟩
  have hYl : Y.length = 4 := by rw [hYe]; rfl
  have hZl : Z.length = 4 := by rw [hZe]; rfl
  have hA := hB.out
  rw [← hYe, ← hZe] at hA
  rw [← hYe] at hY2
  rw [← hZe] at hZ
  clear hYe hZe hB
  replace hA := Lib.hid hA
  replace hYl := Lib.hid hYl; replace hZl := Lib.hid hZl
  go_loopw [7] (fun i wr => ∃ r : Nat, r ≤ 4 ∧ i = .int .i64 ((r : Int) - 1) ∧ aboveGo Y Z r = ans ∧ DW wr g 142 Y ∧ DW wr h 142 Z ∧ Below w.heap.size w wr) (fun i _ => (intOf i + 1).toNat)
  case atStart => exact ⟨4, by omega, rfl, hA.out.symm, hY2, hZ, hb3⟩
  case round =>
    clear hY2 hZ hb3
    obtain ⟨r, hr, rfl, hgo, hY, hZ, hb⟩ := hrel
    match r, hr, hgo with
    | 0, hr, hgo =>
      have ha : ans = false := hgo.symm
      have hi : ((0 : Nat) : Int) - 1 = -1 := rfl
      rw [hi]
      replace hb := Lib.hid hb
      clear hY hZ hgo hi
      replace ha := Lib.hid ha
      go_wp2
      go_ret
      exact ⟨by rw [ha.out]; rfl, hb.out⟩
    | s + 1, hr, hgo =>
      have hi : ((s + 1 : Nat) : Int) - 1 = (s : Int) := by omega
      rw [hi]
      have cy := hY.cell (i := s) (by rw [hYl.out]; omega)
      have cz := hZ.cell (i := s) (by rw [hZl.out]; omega)
      have hst : aboveGo Y Z (s + 1) = if Y.getD s 0 = Z.getD s 0 then aboveGo Y Z s else decide (Z.getD s 0 < Y.getD s 0) := rfl
      rw [hgo] at hst
      obtain ⟨y, hy⟩ : ∃ y, y = Y.getD s 0 := ⟨_, rfl⟩
      obtain ⟨z, hz⟩ : ∃ z, z = Z.getD s 0 := ⟨_, rfl⟩
      rw [← hy, ← hz] at hst
      rw [← hy] at cy
      rw [← hz] at cz
      clear hy hz hgo hi
      have hs4 : (s : Int) < 4 := by omega
      have hs0 : (0 : Int) ≤ (s : Int) := Int.natCast_nonneg _
      replace hb := Lib.hid hb; replace hY := Lib.hid hY; replace hZ := Lib.hid hZ; replace hr := Lib.hid hr
      by_cases he : y = z
      · subst he
        rw [if_pos rfl] at hst
        replace hst := Lib.hid hst
        go_upto_region 7 with (fail)
        go_quiet (fail)
        go_wp2
        go_roundw
        case rel => exact ⟨s, by have := hr.out; omega, rfl, hst.out.symm, hY.out, hZ.out, belowDrewN hb.out _⟩
        case measure => simp [intOf]
      · rw [if_neg he] at hst
        have h1 : ((y : Int) == (z : Int)) = false := by simp; omega
        have h2 : ((y : Int) != (z : Int)) = true := by simp; omega
        replace hst := Lib.hid hst
        clear he
        go_upto_region 7 with (fail)
        go_quiet (fail)
        go_upto_region 8 with (fail)
        go_quiet (fail)
        go_wp2
        go_ret
        exact ⟨by rw [hst.out]; first | rfl | (congr 2; simp), belowDrewN (belowDrewN hb.out _) _⟩
def cubeGo (n : Nat) : Nat → Nat → Nat
  | 0, k => k
  | r + 1, k => cubeGo n r (if aboveB (k + 2 ^ r) n then k else k + 2 ^ r)
def cubeW (n : Nat) : Nat := cubeGo n 36 0 % 4294967296
/-- the bit that r rounds begin with -/
def bitOf (r : Nat) : Nat := if r = 0 then 0 else 2 ^ (r - 1)
theorem bit_half (s : Nat) : bitOf (s + 1) / 2 = bitOf s := by
  unfold bitOf
  rw [if_neg (by omega)]
  cases s with
  | zero => rfl
  | succ t => rw [if_neg (by omega)]; simp [Nat.pow_succ]
theorem bit_succ (s : Nat) : bitOf (s + 1) = 2 ^ s := by unfold bitOf; rw [if_neg (by omega)]; rfl
theorem pow_le_36 (r : Nat) (h : r ≤ 36) : 2 ^ r ≤ 68719476736 := Nat.le_trans (Nat.pow_le_pow_right (by decide) h) (by decide)
set_option maxHeartbeats 4000000 in
theorem cube_any (n : Nat) (hn : n < 18446744073709551616) (w : World) :
    Calls Tryd.prog 72 #[.int .u64 (n : Int)] w fun e w' => e = .returned (.int .u32 ((cubeW n : Nat) : Int)) ∧ Below w.heap.size w w' := by
  have ca := fun k hk w' => above_any k n hk hn w'
  replace ca := Lib.hid ca; replace hn := Lib.hid hn
  go_enter Tryd.func72, Tryd.ntmps72
  go_wp2
  go_loopw [3, 4] (fun v b wr => ∃ r k : Nat, r ≤ 36 ∧ k + 2 ^ r ≤ 68719476736 ∧ v = .int .u64 k ∧ b = .int .u64 ((bitOf r : Nat) : Int) ∧ cubeGo n r k = cubeGo n 36 0 ∧ Below w.heap.size w wr) (fun _ b _ => (intOf b).toNat)
  case atStart => exact ⟨36, 0, by omega, by decide, rfl, rfl, rfl, Below.refl _ _⟩
  case round =>
    obtain ⟨r, k, hr, hk, rfl, rfl, hgo, hb⟩ := hrel
    match r, hr, hk, hgo with
    | 0, hr, hk, hgo =>
      have h0 : ((bitOf 0 : Nat) : Int) = 0 := rfl
      rw [h0]
      have hres : cubeW n = k % 4294967296 := by unfold cubeW; rw [← hgo]; rfl
      obtain ⟨m, hm⟩ : ∃ m, m = k % 4294967296 := ⟨_, rfl⟩
      have e1 : (k : Int) % 4294967296 = (m : Int) := by omega
      have e2 : IntKind.u32.wrap (m : Int) = (m : Int) := by rw [IntKind.wrap_u32]; omega
      have e3 : (m : Int) % 4294967296 = (m : Int) := by omega
      have hk0 : (0 : Int) ≤ (k : Int) := Int.natCast_nonneg _
      rw [← hm] at hres
      clear h0 hgo hm hr hk
      replace hres := Lib.hid hres; replace hb := Lib.hid hb
      go_wp2
      go_ret
      exact ⟨by rw [hres.out]; rfl, hb.out⟩
    | s + 1, hr, hk, hgo =>
      have hbs := bit_succ s
      have hbh := bit_half s
      have hp := pow_le_36 (s + 1) hr
      obtain ⟨B, hB⟩ : ∃ b, b = bitOf (s + 1) := ⟨_, rfl⟩
      obtain ⟨C, hC⟩ : ∃ b, b = bitOf s := ⟨_, rfl⟩
      rw [← hB] at hbs hbh
      rw [← hC] at hbh
      rw [← hB]
      have hp2 : 2 ^ (s + 1) = 2 * 2 ^ s := by rw [Nat.pow_succ, Nat.mul_comm]
      have hB0 : 0 < B := by rw [hbs]; exact Nat.pow_pos (by decide)
      have hstep : cubeGo n (s + 1) k = cubeGo n s (if aboveB (k + B) n then k else k + B) := by rw [hbs]; rfl
      rw [hgo] at hstep
      rw [hp2, ← hbs] at hk hp
      have e0 : decide ((0 : Int) < (B : Int)) = true := by simp; omega
      have e0n : decide (0 < B) = true := by simp; omega
      have e1 : (B : Int) / 2 = (C : Int) := by omega
      have e2 : IntKind.u64.wrap (C : Int) = (C : Int) := IntWalk.u64_in _ (by omega)
      obtain ⟨K, hK⟩ : ∃ x, x = k + B := ⟨_, rfl⟩
      have e3 : (k : Int) + (B : Int) = (K : Int) := by omega
      have e4 : IntKind.u64.wrap (K : Int) = (K : Int) := IntWalk.u64_in _ (by omega)
      have e5 : (K : Int) % 18446744073709551616 = (K : Int) := by omega
      have hB00 : (0 : Int) ≤ (B : Int) := Int.natCast_nonneg _
      have cc := ca.out K (by omega)
      rw [← hK] at hstep
      have hlt : C < B := by omega
      have hk1 : k + 2 ^ s ≤ 68719476736 := by rw [← hbs]; omega
      have hk2 : K + 2 ^ s ≤ 68719476736 := by rw [← hbs]; omega
      cases hab : aboveB K n with
      | true =>
        rw [hab] at hstep cc
        simp only [if_true] at hstep
        replace hstep := Lib.hid hstep; replace hb := Lib.hid hb; replace cc := Lib.hid cc; replace hC := Lib.hid hC; replace hlt := Lib.hid hlt; replace hk1 := Lib.hid hk1; replace hr := Lib.hid hr
        clear hbs hbh hp hB hp2 hgo hK hk hk2 hab
        go_wp2_with (go_at_call 110; (with_reducible refine (cc.out _).mono ?_); rintro e w1 ⟨rfl, b1⟩; replace hb := Lib.hid (belowCont hb.out b1); clear b1)
        go_roundw
        case rel => exact ⟨s, k, by have := hr.out; omega, hk1.out, rfl, by rw [← hC.out], hstep.out.symm, hb.out⟩
        case measure => have := hlt.out; simp [intOf]; omega
      | false =>
        rw [hab] at hstep cc
        simp only [Bool.false_eq_true, if_false] at hstep
        replace hstep := Lib.hid hstep; replace hb := Lib.hid hb; replace cc := Lib.hid cc; replace hC := Lib.hid hC; replace hlt := Lib.hid hlt; replace hk2 := Lib.hid hk2; replace hr := Lib.hid hr
        clear hbs hbh hp hB hp2 hgo hK hk hk1 hab
        go_wp2_with (go_at_call 110; (with_reducible refine (cc.out _).mono ?_); rintro e w1 ⟨rfl, b1⟩; replace hb := Lib.hid (belowCont hb.out b1); clear b1)
        go_roundw
        case rel => exact ⟨s, K, by have := hr.out; omega, hk2.out, rfl, by rw [← hC.out], hstep.out.symm, hb.out⟩
        case measure => have := hlt.out; simp [intOf]; omega
end Go.Proofs.YtebhdlecekjhgaaDoor.roots
