/- Values in order: the law. That a variable of the library holds a number is a premise. No other condition. -/
import Derived.Test.YtmeaidkbkelclaaDoorVOrder4
import Derived.Test.YtmeaidkbkelclaaDoorRegTwo
import Derived.Test.YtmeaidkbkelclaaDoorValue7
import Derived.Laws.StructEq
import Derived.Deep.RegionHeld3
namespace Go.Proofs.YtmeaidkbkelclaaDoor.vorder
open Go.RowKit
open Go.Proofs.YtmeaidkbkelclaaDoor.order (numP textP beL PAt MaxAt)
attribute [local go_sem ↓] Go.wp_at_zero Go.wp_at_succ
attribute [local go_sem] str_bl str_size
set_option linter.unusedVariables false
set_option maxRecDepth 100000

/-- two boxes -/
structure XY (w : World) (g h : Nat) (k n : Int) (s : ByteArray) (k' n' : Int) (s' : ByteArray) (W : World) : Prop where
  x : W.heap[g]? = some (.cells #[.int .i64 k, .int .i64 n, .string s] 37 (0, 0))
  y : W.heap[h]? = some (.cells #[.int .i64 k', .int .i64 n', .string s'] 37 (0, 0))
  bel : Below w.heap.size w W
section
variable {w W W' : World} {g h : Nat} {k n : Int} {s : ByteArray} {k' n' : Int} {s' : ByteArray}
theorem XY.below (a : XY w g h k n s k' n' s' W) (b : Below W.heap.size W W') : XY w g h k n s k' n' s' W' := ⟨(b.block _ (block_lt a.x)).trans a.x, (b.block _ (block_lt a.y)).trans a.y, belowCont a.bel b⟩
theorem XY.all (a : XY w g h k n s k' n' s' W) : XY w g h k n s k' n' s' W ∧ W.cell? ⟨g, 0, none⟩ = some (.int .i64 k) ∧ W.cell? ⟨g, 1, none⟩ = some (.int .i64 n) ∧ W.cell? ⟨g, 2, none⟩ = some (.string s) ∧ W.cell? ⟨h, 0, none⟩ = some (.int .i64 k') ∧ W.cell? ⟨h, 1, none⟩ = some (.int .i64 n') ∧ W.cell? ⟨h, 2, none⟩ = some (.string s') :=
  ⟨a, cell_of_row _ _ 0 _ _ _ a.x, cell_of_row _ _ 1 _ _ _ a.x, cell_of_row _ _ 2 _ _ _ a.x, cell_of_row _ _ 0 _ _ _ a.y, cell_of_row _ _ 1 _ _ _ a.y, cell_of_row _ _ 2 _ _ _ a.y⟩
theorem XY.drew (a : XY w g h k n s k' n' s' W) : XY w g h k n s k' n' s' W.drew := ⟨a.x, a.y, a.bel.drew⟩
end
/-- two values in memory, by their cells -/
structure XC (w : World) (g h : Nat) (k n : Int) (s : ByteArray) (k' n' : Int) (s' : ByteArray) (W : World) : Prop where
  x0 : W.cell? ⟨g, 0, none⟩ = some (.int .i64 k)
  x1 : W.cell? ⟨g, 1, none⟩ = some (.int .i64 n)
  x2 : W.cell? ⟨g, 2, none⟩ = some (.string s)
  y0 : W.cell? ⟨h, 0, none⟩ = some (.int .i64 k')
  y1 : W.cell? ⟨h, 1, none⟩ = some (.int .i64 n')
  y2 : W.cell? ⟨h, 2, none⟩ = some (.string s')
  lt : g < W.heap.size ∧ h < W.heap.size
  bel : Below w.heap.size w W
theorem bcell {W w1 : World} (hb : Below W.heap.size W w1) : (∀ b o, b < W.heap.size → w1.cell? ⟨b, o, none⟩ = W.cell? ⟨b, o, none⟩) ∧ (∀ b o, b < W.heap.size → w1.frozen? ⟨b, o, none⟩ = W.frozen? ⟨b, o, none⟩) :=
  ⟨fun b o h => hb.cell (p := ⟨b, o, none⟩) h, fun b o h => hb.frozen (p := ⟨b, o, none⟩) h⟩
theorem XC.of {w W : World} {g h : Nat} {k n : Int} {s : ByteArray} {k' n' : Int} {s' : ByteArray} (hx : W.heap[g]? = some (.cells #[.int .i64 k, .int .i64 n, .string s] 37 (0, 0))) (hy : W.heap[h]? = some (.cells #[.int .i64 k', .int .i64 n', .string s'] 37 (0, 0))) (hb : Below w.heap.size w W) : XC w g h k n s k' n' s' W :=
  ⟨cell_of_row _ _ 0 _ _ _ hx, cell_of_row _ _ 1 _ _ _ hx, cell_of_row _ _ 2 _ _ _ hx, cell_of_row _ _ 0 _ _ _ hy, cell_of_row _ _ 1 _ _ _ hy, cell_of_row _ _ 2 _ _ _ hy, ⟨block_lt hx, block_lt hy⟩, hb⟩
theorem blk_new {V : World} {g : Nat} {cs : Array Value} (h : g = V.heap.size) : (V.alloc (.cells cs 37)).heap[g]? = some (.cells cs 37 (0, 0)) := by subst h; exact heap_alloc_new _ _
theorem blk_old {V : World} {g : Nat} {o : Obj} {r : Option Obj} (hl : g < V.heap.size) (h : V.heap[g]? = r) : (V.alloc o).heap[g]? = r := by rw [Below.heap_alloc _ _ _ hl]; exact h
theorem blk_other {V : World} {g g' : Nat} {a b c : Value} {r : Option Obj} (hne : g ≠ g') (h : V.heap[g]? = r) : (((V.setCell ⟨g', 0, none⟩ a).setCell ⟨g', 1, none⟩ b).setCell ⟨g', 2, none⟩ c).heap[g]? = r := by
  have k : Keeps [g'] V (((V.setCell ⟨g', 0, none⟩ a).setCell ⟨g', 1, none⟩ b).setCell ⟨g', 2, none⟩ c) := (((Keeps.refl [g'] V).setCell (p := ⟨g', 0, none⟩) (Or.inl (by simp)) _).setCell (p := ⟨g', 1, none⟩) (Or.inl (by simp)) _).setCell (p := ⟨g', 2, none⟩) (Or.inl (by simp)) _
  by_cases hl : g < V.heap.size
  · exact (k.block _ hl (by simpa using hne)).trans h
  · rw [← h, Array.getElem?_eq_none (by simp [World.setCell]; omega), Array.getElem?_eq_none (by omega)]
theorem blk_drew {V : World} {g : Nat} {r : Option Obj} (h : V.heap[g]? = r) : V.drew.heap[g]? = r := h
theorem cell_al {V : World} {o : Obj} {b i : Nat} (h : b < V.heap.size) : (V.alloc o).cell? ⟨b, i, none⟩ = V.cell? ⟨b, i, none⟩ := ((Below.refl _ V).alloc (Nat.le_refl _) o).cell (p := ⟨b, i, none⟩) h
theorem frozen_al {V : World} {o : Obj} {b i : Nat} (h : b < V.heap.size) : (V.alloc o).frozen? ⟨b, i, none⟩ = V.frozen? ⟨b, i, none⟩ := ((Below.refl _ V).alloc (Nat.le_refl _) o).frozen (p := ⟨b, i, none⟩) h
theorem lt_al {V : World} {o : Obj} {b : Nat} (h : b < V.heap.size) : b < (V.alloc o).heap.size := by simp; omega
theorem lt_ne {a b : Nat} (h : a < b) : (a = b) = False := by simp; omega
theorem lt_ne' {a b : Nat} (h : a < b) : (b = a) = False := by simp; omega
attribute [local go_sem] cell_al frozen_al lt_al
/-- what is told of a value that may be -/
structure VTold (k n : Int) (s : ByteArray) (P : List UInt8) : Prop where
  part : ∀ w, MaxAt w → Calls Tryd.prog 32 #[.agg #[.int .i64 k, .int .i64 n, .string s]] w fun e w' => e = .returned (.string (str P)) ∧ Below w.heap.size w w'
  rpart : ∀ w, Calls Tryd.prog 35 #[.agg #[.int .i64 k, .int .i64 n, .string s]] w fun e w' => e = .returned (.string (str P)) ∧ Below w.heap.size w w'
  parted : ∀ w p g, PAt w p g P 0 → Calls Tryd.prog 34 #[.pointer (some ⟨p, 0, none⟩)] w fun e w' => e = .returned (.agg #[.int .i64 k, .int .i64 n, .string s]) ∧ PAt w' p g [] 0 ∧ Keeps [g] w w'
  isV : IsV k n s P
section
variable {w W W' : World} {g h : Nat} {k n : Int} {s : ByteArray} {k' n' : Int} {s' : ByteArray}
theorem XC.below (a : XC w g h k n s k' n' s' W) (b : Below W.heap.size W W') : XC w g h k n s k' n' s' W' :=
  ⟨(b.cell (p := ⟨g, 0, none⟩) a.lt.1).trans a.x0, (b.cell (p := ⟨g, 1, none⟩) a.lt.1).trans a.x1, (b.cell (p := ⟨g, 2, none⟩) a.lt.1).trans a.x2, (b.cell (p := ⟨h, 0, none⟩) a.lt.2).trans a.y0, (b.cell (p := ⟨h, 1, none⟩) a.lt.2).trans a.y1, (b.cell (p := ⟨h, 2, none⟩) a.lt.2).trans a.y2, ⟨Nat.lt_of_lt_of_le a.lt.1 b.size, Nat.lt_of_lt_of_le a.lt.2 b.size⟩, belowCont a.bel b⟩
theorem XC.all (a : XC w g h k n s k' n' s' W) : XC w g h k n s k' n' s' W ∧ W.cell? ⟨g, 0, none⟩ = some (.int .i64 k) ∧ W.cell? ⟨g, 1, none⟩ = some (.int .i64 n) ∧ W.cell? ⟨g, 2, none⟩ = some (.string s) ∧ W.cell? ⟨h, 0, none⟩ = some (.int .i64 k') ∧ W.cell? ⟨h, 1, none⟩ = some (.int .i64 n') ∧ W.cell? ⟨h, 2, none⟩ = some (.string s') :=
  ⟨a, a.x0, a.x1, a.x2, a.y0, a.y1, a.y2⟩
theorem XC.next (a : XC w g h k n s k' n' s' W) (b : Below W.heap.size W W') : XC w g h k n s k' n' s' W' ∧ W'.cell? ⟨g, 0, none⟩ = some (.int .i64 k) ∧ W'.cell? ⟨g, 1, none⟩ = some (.int .i64 n) ∧ W'.cell? ⟨g, 2, none⟩ = some (.string s) ∧ W'.cell? ⟨h, 0, none⟩ = some (.int .i64 k') ∧ W'.cell? ⟨h, 1, none⟩ = some (.int .i64 n') ∧ W'.cell? ⟨h, 2, none⟩ = some (.string s') := (a.below b).all
theorem XC.allM (a : XC w g h k n s k' n' s' W) (hM : MaxAt w) : XC w g h k n s k' n' s' W ∧ W.cell? ⟨g, 0, none⟩ = some (.int .i64 k) ∧ W.cell? ⟨g, 1, none⟩ = some (.int .i64 n) ∧ W.cell? ⟨g, 2, none⟩ = some (.string s) ∧ W.cell? ⟨h, 0, none⟩ = some (.int .i64 k') ∧ W.cell? ⟨h, 1, none⟩ = some (.int .i64 n') ∧ W.cell? ⟨h, 2, none⟩ = some (.string s') ∧ MaxAt W :=
  ⟨a, a.x0, a.x1, a.x2, a.y0, a.y1, a.y2, hM.keep a.bel⟩
theorem XC.keepq (a : XC w g h k n s k' n' s' W) {q : Nat} (kk : Keeps [q] W W') (h1 : g ≠ q) (h2 : h ≠ q) (hq : w.heap.size ≤ q) : XC w g h k n s k' n' s' W' :=
  ⟨(kk.cell (p := ⟨g, 0, none⟩) a.lt.1 (by simpa using h1)).trans a.x0, (kk.cell (p := ⟨g, 1, none⟩) a.lt.1 (by simpa using h1)).trans a.x1, (kk.cell (p := ⟨g, 2, none⟩) a.lt.1 (by simpa using h1)).trans a.x2, (kk.cell (p := ⟨h, 0, none⟩) a.lt.2 (by simpa using h2)).trans a.y0, (kk.cell (p := ⟨h, 1, none⟩) a.lt.2 (by simpa using h2)).trans a.y1, (kk.cell (p := ⟨h, 2, none⟩) a.lt.2 (by simpa using h2)).trans a.y2, ⟨Nat.lt_of_lt_of_le a.lt.1 kk.size, Nat.lt_of_lt_of_le a.lt.2 kk.size⟩, a.bel.trans (kk.below a.bel.size (by simpa using hq))⟩
theorem XC.drew (a : XC w g h k n s k' n' s' W) : XC w g h k n s k' n' s' W.drew := ⟨a.x0, a.x1, a.x2, a.y0, a.y1, a.y2, a.lt, a.bel.drew⟩
end
set_option maxHeartbeats 32000000 in
theorem orders_law (u0 u1 : Int) (u2 : ByteArray) (v0 v1 : Int) (v2 : ByteArray) (k n : Int) (s : ByteArray) (k' n' : Int) (s' : ByteArray)
    (hx : ∀ w, Calls Tryd.prog 15 #[.agg #[.int .i64 u0, .int .i64 u1, .string u2]] w fun e w' => e = .returned (.agg #[.int .i64 k, .int .i64 n, .string s]) ∧ Below w.heap.size w w')
    (hy : ∀ w, Calls Tryd.prog 15 #[.agg #[.int .i64 v0, .int .i64 v1, .string v2]] w fun e w' => e = .returned (.agg #[.int .i64 k', .int .i64 n', .string s']) ∧ Below w.heap.size w w') 
    (mx my : Bool) (hmx : ∀ w, Calls Tryd.prog 31 #[.agg #[.int .i64 k, .int .i64 n, .string s]] w fun e w' => e = .returned (.bool mx) ∧ Below w.heap.size w w')
    (hmy : ∀ w, Calls Tryd.prog 31 #[.agg #[.int .i64 k', .int .i64 n', .string s']] w fun e w' => e = .returned (.bool my) ∧ Below w.heap.size w w')
    (P P' : List UInt8) (hV : mx = true → VTold k n s P) (hV' : my = true → VTold k' n' s' P')
    (w : World) (hM : MaxAt w) :
    Calls Tryd.prog 6 #[.agg #[.int .i64 u0, .int .i64 u1, .string u2], .agg #[.int .i64 v0, .int .i64 v1, .string v2]] w fun e w' => e = .returned (.bool true) ∧ Below w.heap.size w w' := by
  have hxx := Lib.hid hx; clear hx; replace hy := Lib.hid hy; replace hM := Lib.hid hM; replace hmx := Lib.hid hmx; replace hmy := Lib.hid hmy; replace hV := Lib.hid hV; replace hV' := Lib.hid hV'
  go_enter Tryd.func6, Tryd.ntmps6
  go_upto_region 1 with (fail)
  have h0 : XY w w.heap.size (w.heap.size + 1) u0 u1 u2 v0 v1 v2 ((w.alloc (.cells #[.int .i64 u0, .int .i64 u1, .string u2] 37)).alloc (.cells #[.int .i64 v0, .int .i64 v1, .string v2] 37)) :=
    ⟨by rw [Below.heap_alloc _ _ _ (by simp)]; exact heap_alloc_new w _, by have := heap_alloc_new (w.alloc (.cells #[.int .i64 u0, .int .i64 u1, .string u2] 37)) (.cells #[.int .i64 v0, .int .i64 v1, .string v2] 37); simpa using this, ((Below.refl _ _).alloc (Nat.le_refl _) _).alloc (by simp) _⟩
  generalize (w.alloc (.cells #[.int .i64 u0, .int .i64 u1, .string u2] 37)).alloc (.cells #[.int .i64 v0, .int .i64 v1, .string v2] 37) = W at h0 ⊢
  generalize w.heap.size + 1 = g1 at h0 ⊢
  generalize hg0 : w.heap.size = g0 at h0 ⊢
  replace h0 := Lib.hid h0; replace hg0 := Lib.hid hg0
  go_cut [5, 6] from 13 (fun p q wx => ∃ g h, p = .pointer (some ⟨g, 0, none⟩) ∧ q = .pointer (some ⟨h, 0, none⟩) ∧ XC w g h k n s k' n' s' wx)
  case first =>
    refine wp_region_inv (fun act0 l a w' => ∃ s5 s6 s13 s14 s15 s16 : Value, a = (((((act0.put (some 5) s5).put (some 6) s6).put (some 13) s13).put (some 14) s14).put (some 15) s15).put (some 16) s16 ∧ XI W 37 (.agg #[.int .i64 u0, .int .i64 u1, .string u2]) (.agg #[.int .i64 v0, .int .i64 v1, .string v2]) (.agg #[.int .i64 k, .int .i64 n, .string s]) (.agg #[.int .i64 k', .int .i64 n', .string s']) #[.int .i64 k, .int .i64 n, .string s] #[.int .i64 k', .int .i64 n', .string s'] l s5 s6 s13 s14 s15 s16 w') (by kernel_rfl) (by kernel_rfl) ?_ ?_ ?_
    · refine ⟨undef, undef, undef, undef, undef, undef, ?_, XI.start⟩
      simp only [Act.put, List.setIfInBounds_toArray, List.set_cons_zero, List.set_cons_succ]
    · intro l a w' hinv i hun hrd K hK
      refine hinv.elim fun s5 hinv => ?_
      refine hinv.elim fun s6 hinv => ?_
      refine hinv.elim fun s13 hinv => ?_
      refine hinv.elim fun s14 hinv => ?_
      refine hinv.elim fun s15 hinv => ?_
      refine hinv.elim fun s16 hinv => ?_
      have ha := hinv.1
      have hx := hinv.2
      clear hinv
      subst ha
      refine hrd.elim fun o hrd => ?_
      have ho := hrd.1
      have hdep := hrd.2
      clear hrd
      have hi8 : i < 8 := by
        have := (Array.getElem?_eq_some_iff.1 ho).1
        simpa using this
      have hc : i = 0 ∨ i = 1 ∨ i = 2 ∨ i = 3 ∨ i = 4 ∨ i = 5 ∨ i = 6 ∨ i = 7 := by omega
      have hxy := (h0.out.below hx.bel).all
      have c0 := hxy.2.1
      have c1 := hxy.2.2.1
      have c2 := hxy.2.2.2.1
      have d0 := hxy.2.2.2.2.1
      have d1 := hxy.2.2.2.2.2.1
      have d2 := hxy.2.2.2.2.2.2
      clear hi8 hxy
      replace hx := Lib.hid hx
      rcases hc with rfl | rfl | rfl | rfl | rfl | rfl | rfl | rfl
      · have e := Option.some.inj ho
        subst e
        refine wpOp_of ho rfl ?_
        clear ho hdep
        go_simp
        refine hK _ _ ⟨s5, s6, _, s14, s15, s16, ?_, hx.out.t0⟩
        simp only [Act.put, List.setIfInBounds_toArray, List.set_cons_zero, List.set_cons_succ]
      · have e := Option.some.inj ho
        subst e
        have d := hx.out.v13 (hdep _ (Array.mem_of_getElem? (i := 0) rfl) rfl)
        subst d
        refine wpOp_of ho rfl ?_
        clear ho hdep
        go_wp2_with (go_at_call 15; (with_reducible refine (hxx.out _).mono ?_); rintro e w1 ⟨rfl, b1⟩; replace b1 := Lib.hid b1)
        refine ⟨s5, s6, _, _, s15, s16, ?_, hx.out.t1 b1.out⟩
        simp only [Act.put, List.setIfInBounds_toArray, List.set_cons_zero, List.set_cons_succ]
      · have e := Option.some.inj ho
        subst e
        refine wpOp_of ho rfl ?_
        clear ho hdep
        go_simp
        refine hK _ _ ⟨s5, s6, s13, s14, _, s16, ?_, hx.out.t2⟩
        simp only [Act.put, List.setIfInBounds_toArray, List.set_cons_zero, List.set_cons_succ]
      · have e := Option.some.inj ho
        subst e
        have d := hx.out.v15 (hdep _ (Array.mem_of_getElem? (i := 0) rfl) rfl)
        subst d
        refine wpOp_of ho rfl ?_
        clear ho hdep
        go_wp2_with (go_at_call 15; (with_reducible refine (hy.out _).mono ?_); rintro e w1 ⟨rfl, b1⟩; replace b1 := Lib.hid b1)
        refine ⟨s5, s6, s13, s14, _, _, ?_, hx.out.t3 b1.out⟩
        simp only [Act.put, List.setIfInBounds_toArray, List.set_cons_zero, List.set_cons_succ]
      · have e := Option.some.inj ho
        subst e
        refine wpOp_of ho rfl ?_
        clear ho hdep
        go_simp
        refine hK _ _ ⟨_, s6, s13, s14, s15, s16, ?_, hx.out.t4 hun _ _ _⟩
        simp only [Act.put, List.setIfInBounds_toArray, List.set_cons_zero, List.set_cons_succ]
      · have e := Option.some.inj ho
        subst e
        refine wpOp_of ho rfl ?_
        clear ho hdep
        go_simp
        refine hK _ _ ⟨s5, _, s13, s14, s15, s16, ?_, hx.out.t5 hun _ _ _⟩
        simp only [Act.put, List.setIfInBounds_toArray, List.set_cons_zero, List.set_cons_succ]
      · have e := Option.some.inj ho
        subst e
        have h4 := hdep _ (Array.mem_of_getElem? (i := 0) rfl) rfl
        have d := hx.out.v14 (hdep _ (Array.mem_of_getElem? (i := 1) rfl) rfl)
        subst d
        refine (hx.out.b5 h4).elim fun g hb => ?_
        refine hb.elim fun p hb => ?_
        refine hb.elim fun q hb => ?_
        refine hb.elim fun r hb => ?_
        have e1 := hb.1
        have e2 := hb.2.1
        have e3 := hb.2.2.1
        clear hb
        subst e1
        have r3 := row3T e3
        have y0 := r3.1
        have y1 := r3.2.1
        have y2 := r3.2.2.1
        have f0 := r3.2.2.2.1
        have f1 := r3.2.2.2.2.1
        have f2 := r3.2.2.2.2.2
        clear r3
        replace e2 := Lib.hid e2; replace e3 := Lib.hid e3
        refine wpOp_of ho rfl ?_
        clear ho hdep c0 c1 c2 d0 d1 d2
        go_simp
        refine hK _ _ ⟨_, s6, s13, _, s15, s16, ?_, hx.out.t6 hun h4 rfl e2.out e3.out⟩
        simp only [Act.put, List.setIfInBounds_toArray, List.set_cons_zero, List.set_cons_succ]
      · have e := Option.some.inj ho
        subst e
        have h5 := hdep _ (Array.mem_of_getElem? (i := 0) rfl) rfl
        have d := hx.out.v16 (hdep _ (Array.mem_of_getElem? (i := 1) rfl) rfl)
        subst d
        refine (hx.out.b6 h5).elim fun g hb => ?_
        refine hb.elim fun p hb => ?_
        refine hb.elim fun q hb => ?_
        refine hb.elim fun r hb => ?_
        have e1 := hb.1
        have e2 := hb.2.1
        have e3 := hb.2.2.1
        clear hb
        subst e1
        have r3 := row3T e3
        have y0 := r3.1
        have y1 := r3.2.1
        have y2 := r3.2.2.1
        have f0 := r3.2.2.2.1
        have f1 := r3.2.2.2.2.1
        have f2 := r3.2.2.2.2.2
        clear r3
        replace e2 := Lib.hid e2; replace e3 := Lib.hid e3
        refine wpOp_of ho rfl ?_
        clear ho hdep c0 c1 c2 d0 d1 d2
        go_simp
        refine hK _ _ ⟨s5, _, s13, s14, s15, _, ?_, hx.out.t7 hun h5 rfl e2.out e3.out⟩
        simp only [Act.put, List.setIfInBounds_toArray, List.set_cons_zero, List.set_cons_succ]
    · intro l a w' hinv hall
      refine hinv.elim fun s5 hinv => ?_
      refine hinv.elim fun s6 hinv => ?_
      refine hinv.elim fun s13 hinv => ?_
      refine hinv.elim fun s14 hinv => ?_
      refine hinv.elim fun s15 hinv => ?_
      refine hinv.elim fun s16 hinv => ?_
      have ha := hinv.1
      have hx := hinv.2
      clear hinv
      subst ha
      have a0 : ∀ j, j < 8 → has l j := hall
      refine (hx.b5 (a0 4 (by decide))).elim fun g hb => ?_
      refine hb.elim fun p hb => ?_
      refine hb.elim fun q hb => ?_
      refine hb.elim fun r hb => ?_
      have e1 := hb.1
      have e3 := hb.2.2.1
      have e4 := hb.2.2.2 (a0 6 (by decide))
      rw [e4] at e3
      clear hb
      refine (hx.b6 (a0 5 (by decide))).elim fun h hb => ?_
      refine hb.elim fun p' hb => ?_
      refine hb.elim fun q' hb => ?_
      refine hb.elim fun r' hb => ?_
      have g1 := hb.1
      have g3 := hb.2.2.1
      have g4 := hb.2.2.2 (a0 7 (by decide))
      rw [g4] at g3
      clear hb
      subst e1 g1
      have hXC := Lib.hid (XC.of e3 g3 (belowCont h0.out.bel hx.bel))
      clear hx e3 g3 e4 g4 hall a0
      simp only [Act.put, List.setIfInBounds_toArray, List.set_cons_zero, List.set_cons_succ]
      go_wp2_with (fail)
      go_meet
      exact ⟨_, _, rfl, rfl, hXC.out⟩
  case rest =>
  clear h0 hg0
  obtain ⟨g, h, rfl, rfl, hc⟩ := hcut
  have cC := fun W => compare_any k n s k' n' s' W
  have cD := fun W => compare_any k' n' s' k n s W
  have cL := fun W => less_any k n s k' n' s' W
  have cM := fun W => less_any k' n' s' k n s W
  have cS := fun W => same_any k n s k' n' s' W
  have hfield : (k = k' ∧ n = n' ∧ s.toList = s'.toList) ∨ (k == k') = false ∨ (k = k' ∧ (n == n') = false) ∨ (k = k' ∧ n = n' ∧ (s.toList == s'.toList) = false) := by
    by_cases h1 : k = k'
    · by_cases h2 : n = n'
      · by_cases h3 : s.toList = s'.toList
        · exact .inl ⟨h1, h2, h3⟩
        · exact .inr (.inr (.inr ⟨h1, h2, beq_eq_false_iff_ne.mpr h3⟩))
      · exact .inr (.inr (.inl ⟨h1, beq_eq_false_iff_ne.mpr h2⟩))
    · exact .inr (.inl (beq_eq_false_iff_ne.mpr h1))
  replace hfield := Lib.hid hfield
  have hw0 : IntKind.i64.wrap 0 = 0 := by decide
  have hw1 : IntKind.i64.wrap 1 = 1 := by decide
  have hw2 : IntKind.i64.wrap (-1) = -1 := by decide
  have hw3 : IntKind.i64.wrap (- -1) = 1 := by decide
  generalize wc = W0 at hc ⊢
  have hc0 := hc.all
  obtain ⟨_, c0, c1, c2, d0, d1, d2⟩ := hc0
  replace hc := Lib.hid hc
  have hway : (∃ q, cmpV k n s k' n' s' = -1 ∧ cmpV k' n' s' k n s = 1 ∧ lessV k n s k' n' s' = true ∧ lessV k' n' s' k n s = false ∧ decide (k = k' ∧ n = n' ∧ s.toList = s'.toList) = q ∧ q = false) ∨ (∃ q, cmpV k n s k' n' s' = 1 ∧ cmpV k' n' s' k n s = -1 ∧ lessV k n s k' n' s' = false ∧ lessV k' n' s' k n s = true ∧ decide (k = k' ∧ n = n' ∧ s.toList = s'.toList) = q ∧ q = false) ∨ (∃ q, cmpV k n s k' n' s' = 0 ∧ cmpV k' n' s' k n s = 0 ∧ lessV k n s k' n' s' = false ∧ lessV k' n' s' k n s = false ∧ decide (k = k' ∧ n = n' ∧ s.toList = s'.toList) = q ∧ q = true ∧ k = k' ∧ n = n' ∧ s.toList = s'.toList) := by
    rcases way k n s k' n' s' with ⟨e1, e2, e3, e4, q⟩ | ⟨e1, e2, e3, e4, q⟩ | ⟨e1, e2, e3, e4, q⟩
    · exact .inl ⟨_, e1, e2, e3, e4, rfl, by simpa using q⟩
    · exact .inr (.inr ⟨_, e1, e2, e3, e4, rfl, by simpa using q, q.1, q.2.1, q.2.2⟩)
    · exact .inr (.inl ⟨_, e1, e2, e3, e4, rfl, by simpa using q⟩)
  have hP := fun (h1 : mx = true) (h2 : my = true) => less_part (hV.out h1).isV (hV'.out h2).isV
  have hQ := fun (h1 : mx = true) (h2 : my = true) => same_part (hV.out h1).isV (hV'.out h2).isV
  replace hP := Lib.hid hP; replace hQ := Lib.hid hQ
  rcases hway with ⟨q, e1, e2, e3, e4, e5, e6⟩ | ⟨q, e1, e2, e3, e4, e5, e6⟩ | ⟨q, e1, e2, e3, e4, e5, e6, e7⟩
  rotate_left 2
  · replace e7 := Lib.hid e7
    rw [e1] at cC; rw [e2] at cD; rw [e3] at cL; rw [e4] at cM; rw [e6] at e5; simp only [e5] at cS
    clear e1 e2 e4 e6
    replace e5 := Lib.hid e5; replace e3 := Lib.hid e3
    replace cC := Lib.hid cC; replace cD := Lib.hid cD; replace cL := Lib.hid cL; replace cM := Lib.hid cM; replace cS := Lib.hid cS
    go_upto_region 8 with (first
      | (go_at_call 27; (with_reducible refine (cC.out _).mono ?_); rintro e w1 ⟨rfl, b1⟩; clear c0 c1 c2 d0 d1 d2; have hcn := hc.out.next b1; clear hc b1; obtain ⟨hc, c0, c1, c2, d0, d1, d2⟩ := hcn; replace hc := Lib.hid hc)
      | (go_at_call 28; (with_reducible refine (cL.out _).mono ?_); rintro e w1 ⟨rfl, b1⟩; clear c0 c1 c2 d0 d1 d2; have hcn := hc.out.next b1; clear hc b1; obtain ⟨hc, c0, c1, c2, d0, d1, d2⟩ := hcn; replace hc := Lib.hid hc)
      | (go_at_call 28; (with_reducible refine (cM.out _).mono ?_); rintro e w1 ⟨rfl, b1⟩; clear c0 c1 c2 d0 d1 d2; have hcn := hc.out.next b1; clear hc b1; obtain ⟨hc, c0, c1, c2, d0, d1, d2⟩ := hcn; replace hc := Lib.hid hc))
    clear c0 c1 c2 d0 d1 d2
    have h1 := e7.out.1; have h2 := e7.out.2.1; have h3 := e7.out.2.2
    clear e7 hfield e5
    subst h1 h2
    obtain rfl : s = s' := ByteArray.ext (Array.toList_inj.1 (by rw [ByteArray.toList_eq, ByteArray.toList_eq] at h3; exact h3))
    have hss : (s.toList == s.toList) = true := by simp
    clear h3
    go_region_held3 (fun w' => XC w g h k n s k n s w' ∧ w'.cell? ⟨g, 0, none⟩ = some (.int .i64 k) ∧ w'.cell? ⟨g, 1, none⟩ = some (.int .i64 n) ∧ w'.cell? ⟨g, 2, none⟩ = some (.string s) ∧ w'.cell? ⟨h, 0, none⟩ = some (.int .i64 k) ∧ w'.cell? ⟨h, 1, none⟩ = some (.int .i64 n) ∧ w'.cell? ⟨h, 2, none⟩ = some (.string s))
      (first
      | exact hc.out.drew.all
      | (go_split_ands; exact ⟨by assumption, by assumption, by assumption, by assumption, by assumption, by assumption, by assumption⟩)
      | (go_split_ands; exact XC.next (by assumption) (by assumption)))
      (first
      | (go_at_call 29; (with_reducible refine (value.awake_any _).mono ?_); rintro e w1 ⟨rfl, b1⟩)
      | (go_at_call 27; (with_reducible refine (cD.out _).mono ?_); rintro e w1 ⟨rfl, b1⟩)
      | (go_at_call 30; (with_reducible refine (cS.out _).mono ?_); rintro e w1 ⟨rfl, b1⟩))
    obtain ⟨hd, c0, c1, c2, d0, d1, d2⟩ := ‹XC w g h k n s k n s _ ∧ _›
    replace hd := Lib.hid hd
    cases mx with
    | false =>
      go_wp2_with (go_at_call 31; (with_reducible refine (hmx.out _).mono ?_); rintro e w2 ⟨rfl, b2⟩; have b3 := Lib.hid (belowCont hd.out.bel b2))
      go_ret
      exact ⟨rfl, b3.out⟩
    | true =>
      cases my with
      | false =>
        go_wp2_with (first
          | (go_at_call 31; (with_reducible refine (hmx.out _).mono ?_); rintro e w2 ⟨rfl, b2⟩; clear hmx c0 c1 c2 d0 d1 d2; have hcn := hd.out.next b2; clear hd b2; obtain ⟨hd, c0, c1, c2, d0, d1, d2⟩ := hcn; replace hd := Lib.hid hd)
          | (go_at_call 31; (with_reducible refine (hmy.out _).mono ?_); rintro e w2 ⟨rfl, b2⟩; have b3 := Lib.hid (belowCont hd.out.bel b2)))
        go_ret
        exact ⟨rfl, b3.out⟩
      | true =>
        obtain ⟨xp, xr, xt, _⟩ := hV.out rfl
        have yp := (hV'.out rfl).part
        have hlt := hP.out rfl rfl
        rw [e3.out] at hlt
        have heq := hQ.out rfl rfl
        clear hV hV' hP hQ e3
        have cO : ∀ W, Calls Tryd.prog 33 #[.string (str P)] W fun e w' => ∃ p q, e = .returned (.pointer (some ⟨p, 0, none⟩)) ∧ PAt w' p q P 0 ∧ W.heap.size ≤ p ∧ W.heap.size ≤ q ∧ Below W.heap.size W w' := fun W => order.oread_any (str P) W
        have hpq : (P == P') = true := beq_iff_eq.mpr (heq.2 (by simp))
        clear heq
        replace cO := Lib.hid cO; replace xp := Lib.hid xp; replace xr := Lib.hid xr; replace xt := Lib.hid xt; replace yp := Lib.hid yp
        have hss : (s.toList == s.toList) = true := by simp
        have hsp : (P == P) = true := by simp
        have hll := less_irrefl P
        go_upto_region 12 with (first
          | (go_at_call 31; (with_reducible refine (hmx.out _).mono ?_); rintro e w2 ⟨rfl, b2⟩; clear hmx c0 c1 c2 d0 d1 d2; have hcn := hd.out.next b2; clear hd b2; obtain ⟨hd, c0, c1, c2, d0, d1, d2⟩ := hcn; replace hd := Lib.hid hd)
          | (go_at_call 31; (with_reducible refine (hmy.out _).mono ?_); rintro e w2 ⟨rfl, b2⟩; clear hmy c0 c1 c2 d0 d1 d2; have hcn := hd.out.next b2; clear hd b2; obtain ⟨hd, c0, c1, c2, d0, d1, d2⟩ := hcn; replace hd := Lib.hid hd))
        clear c0 c1 c2 d0 d1 d2
        go_region_held3 (fun w' => XC w g h k n s k n s w' ∧ w'.cell? ⟨g, 0, none⟩ = some (.int .i64 k) ∧ w'.cell? ⟨g, 1, none⟩ = some (.int .i64 n) ∧ w'.cell? ⟨g, 2, none⟩ = some (.string s) ∧ w'.cell? ⟨h, 0, none⟩ = some (.int .i64 k) ∧ w'.cell? ⟨h, 1, none⟩ = some (.int .i64 n) ∧ w'.cell? ⟨h, 2, none⟩ = some (.string s) ∧ MaxAt w')
          (first
          | exact hd.out.drew.allM hM.out
          | (go_split_ands; exact ⟨by assumption, by assumption, by assumption, by assumption, by assumption, by assumption, by assumption, by assumption⟩)
          | (go_split_ands; exact XC.allM (XC.below (by assumption) (by assumption)) hM.out))
          (first
          | (go_at_call 32; (with_reducible refine (xp.out _ (by first | assumption | (go_split_ands; assumption))).mono ?_); rintro e w1 ⟨rfl, b1⟩)
          | (go_at_call 32; (with_reducible refine (yp.out _ (by first | assumption | (go_split_ands; assumption))).mono ?_); rintro e w1 ⟨rfl, b1⟩))
        all_goals (obtain ⟨hd, c0, c1, c2, d0, d1, d2, _⟩ := ‹XC w g h k n s k n s _ ∧ _›)
        all_goals (replace hd := Lib.hid hd)
        all_goals (go_wp2_with (first
          | (go_at_call 33; (with_reducible refine (cO.out _).mono ?_); rintro e w3 ⟨p, q, rfl, hp, hpl, hql, b3⟩; have hl0 := hd.out.lt; have hgq : g ≠ q := Nat.ne_of_lt (Nat.lt_of_lt_of_le hl0.1 hql); have hhq : h ≠ q := Nat.ne_of_lt (Nat.lt_of_lt_of_le hl0.2 hql); have hwq := Lib.hid (Nat.le_trans hd.out.bel.size hql); clear c0 c1 c2 d0 d1 d2 hl0 hpl hql; have hcn := hd.out.next b3; clear hd b3; obtain ⟨hd, c0, c1, c2, d0, d1, d2⟩ := hcn; replace hd := Lib.hid hd; replace hp := Lib.hid hp)
          | (go_at_call 34; (with_reducible refine (xt.out _ _ _ hp.out).mono ?_); rintro e w4 ⟨rfl, h4, k4⟩; clear c0 c1 c2 d0 d1 d2; have hcn := (hd.out.keepq k4 hgq hhq hwq.out).all; have hl4 := hcn.1.lt.1; have hl5 := hcn.1.lt.2; clear hd k4 hp; obtain ⟨hd, c0, c1, c2, d0, d1, d2⟩ := hcn; replace hd := Lib.hid hd; replace h4 := Lib.hid h4)
          | (go_at_call 35; (with_reducible refine (xr.out _).mono ?_); rintro e w5 ⟨rfl, b5⟩; have z0 := (b5.cell (p := ⟨w4.heap.size, 0, none⟩) (by simp)).trans (newCell w4 _ _ 0); have z1 := (b5.cell (p := ⟨w4.heap.size, 1, none⟩) (by simp)).trans (newCell w4 _ _ 1); have z2 := (b5.cell (p := ⟨w4.heap.size, 2, none⟩) (by simp)).trans (newCell w4 _ _ 2); clear c0 c1 c2 d0 d1 d2; have hcn := (hd.out.below ((Below.refl _ w4).alloc (Nat.le_refl _) _)).next b5; replace h4 := Lib.hid ((h4.out.below ((Below.refl _ w4).alloc (Nat.le_refl _) _)).below b5); clear hd b5; obtain ⟨hd, c0, c1, c2, d0, d1, d2⟩ := hcn; replace hd := Lib.hid hd)
          | (go_at_call 36; (with_reducible refine (order.pend_any h4.out).mono ?_); rintro e w6 ⟨rfl, k6⟩; have hB := Lib.hid (hd.out.keepq k6 hgq hhq hwq.out).bel)))
        all_goals go_ret
        all_goals exact ⟨rfl, hB.out⟩
  all_goals
    rw [e1] at cC; rw [e2] at cD; rw [e3] at cL; rw [e4] at cM; rw [e6] at e5; simp only [e5] at cS
    clear e1 e2 e4 e6
    replace e5 := Lib.hid e5; replace e3 := Lib.hid e3
    replace cC := Lib.hid cC; replace cD := Lib.hid cD; replace cL := Lib.hid cL; replace cM := Lib.hid cM; replace cS := Lib.hid cS
    go_upto_region 8 with (first
      | (go_at_call 27; (with_reducible refine (cC.out _).mono ?_); rintro e w1 ⟨rfl, b1⟩; clear c0 c1 c2 d0 d1 d2; have hcn := hc.out.next b1; clear hc b1; obtain ⟨hc, c0, c1, c2, d0, d1, d2⟩ := hcn; replace hc := Lib.hid hc)
      | (go_at_call 28; (with_reducible refine (cL.out _).mono ?_); rintro e w1 ⟨rfl, b1⟩; clear c0 c1 c2 d0 d1 d2; have hcn := hc.out.next b1; clear hc b1; obtain ⟨hc, c0, c1, c2, d0, d1, d2⟩ := hcn; replace hc := Lib.hid hc)
      | (go_at_call 28; (with_reducible refine (cM.out _).mono ?_); rintro e w1 ⟨rfl, b1⟩; clear c0 c1 c2 d0 d1 d2; have hcn := hc.out.next b1; clear hc b1; obtain ⟨hc, c0, c1, c2, d0, d1, d2⟩ := hcn; replace hc := Lib.hid hc))
    clear c0 c1 c2 d0 d1 d2
    rcases hfield.out with ⟨h1, h2, h3⟩ | f1 | ⟨h1, f1⟩ | ⟨h1, h2, f1⟩
    · have := e5.out; simp [h1, h2, h3] at this
    · clear hfield
      go_region_held3 (fun w' => XC w g h k n s k' n' s' w' ∧ w'.cell? ⟨g, 0, none⟩ = some (.int .i64 k) ∧ w'.cell? ⟨g, 1, none⟩ = some (.int .i64 n) ∧ w'.cell? ⟨g, 2, none⟩ = some (.string s) ∧ w'.cell? ⟨h, 0, none⟩ = some (.int .i64 k') ∧ w'.cell? ⟨h, 1, none⟩ = some (.int .i64 n') ∧ w'.cell? ⟨h, 2, none⟩ = some (.string s'))
        (first
        | exact hc.out.drew.all
        | (go_split_ands; exact ⟨by assumption, by assumption, by assumption, by assumption, by assumption, by assumption, by assumption⟩)
        | (go_split_ands; exact XC.next (by assumption) (by assumption)))
        (first
        | (go_at_call 29; (with_reducible refine (value.awake_any _).mono ?_); rintro e w1 ⟨rfl, b1⟩)
        | (go_at_call 27; (with_reducible refine (cD.out _).mono ?_); rintro e w1 ⟨rfl, b1⟩)
        | (go_at_call 30; (with_reducible refine (cS.out _).mono ?_); rintro e w1 ⟨rfl, b1⟩))
      obtain ⟨hd, c0, c1, c2, d0, d1, d2⟩ := ‹XC w g h k n s k' n' s' _ ∧ _›
      replace hd := Lib.hid hd
      cases mx with
      | false =>
        go_wp2_with (go_at_call 31; (with_reducible refine (hmx.out _).mono ?_); rintro e w2 ⟨rfl, b2⟩; have b3 := Lib.hid (belowCont hd.out.bel b2))
        go_ret
        exact ⟨rfl, b3.out⟩
      | true =>
        cases my with
        | false =>
          go_wp2_with (first
            | (go_at_call 31; (with_reducible refine (hmx.out _).mono ?_); rintro e w2 ⟨rfl, b2⟩; clear hmx c0 c1 c2 d0 d1 d2; have hcn := hd.out.next b2; clear hd b2; obtain ⟨hd, c0, c1, c2, d0, d1, d2⟩ := hcn; replace hd := Lib.hid hd)
            | (go_at_call 31; (with_reducible refine (hmy.out _).mono ?_); rintro e w2 ⟨rfl, b2⟩; have b3 := Lib.hid (belowCont hd.out.bel b2)))
          go_ret
          exact ⟨rfl, b3.out⟩
        | true =>
          obtain ⟨xp, xr, xt, _⟩ := hV.out rfl
          have yp := (hV'.out rfl).part
          have hlt := hP.out rfl rfl
          rw [e3.out] at hlt
          have heq := hQ.out rfl rfl
          clear hV hV' hP hQ e3
          have cO : ∀ W, Calls Tryd.prog 33 #[.string (str P)] W fun e w' => ∃ p q, e = .returned (.pointer (some ⟨p, 0, none⟩)) ∧ PAt w' p q P 0 ∧ W.heap.size ≤ p ∧ W.heap.size ≤ q ∧ Below W.heap.size W w' := fun W => order.oread_any (str P) W
          have hpq : (P == P') = false := beq_eq_false_iff_ne.mpr (fun e => by have := (heq.1 e); have h5 := e5.out; simp [this] at h5)
          clear heq e5
          replace cO := Lib.hid cO; replace xp := Lib.hid xp; replace xr := Lib.hid xr; replace xt := Lib.hid xt; replace yp := Lib.hid yp
          have hss : (s.toList == s.toList) = true := by simp
          have hsp : (P == P) = true := by simp
          have hll := less_irrefl P
          go_upto_region 12 with (first
            | (go_at_call 31; (with_reducible refine (hmx.out _).mono ?_); rintro e w2 ⟨rfl, b2⟩; clear hmx c0 c1 c2 d0 d1 d2; have hcn := hd.out.next b2; clear hd b2; obtain ⟨hd, c0, c1, c2, d0, d1, d2⟩ := hcn; replace hd := Lib.hid hd)
            | (go_at_call 31; (with_reducible refine (hmy.out _).mono ?_); rintro e w2 ⟨rfl, b2⟩; clear hmy c0 c1 c2 d0 d1 d2; have hcn := hd.out.next b2; clear hd b2; obtain ⟨hd, c0, c1, c2, d0, d1, d2⟩ := hcn; replace hd := Lib.hid hd))
          clear c0 c1 c2 d0 d1 d2
          go_region_held3 (fun w' => XC w g h k n s k' n' s' w' ∧ w'.cell? ⟨g, 0, none⟩ = some (.int .i64 k) ∧ w'.cell? ⟨g, 1, none⟩ = some (.int .i64 n) ∧ w'.cell? ⟨g, 2, none⟩ = some (.string s) ∧ w'.cell? ⟨h, 0, none⟩ = some (.int .i64 k') ∧ w'.cell? ⟨h, 1, none⟩ = some (.int .i64 n') ∧ w'.cell? ⟨h, 2, none⟩ = some (.string s') ∧ MaxAt w')
            (first
            | exact hd.out.drew.allM hM.out
            | (go_split_ands; exact ⟨by assumption, by assumption, by assumption, by assumption, by assumption, by assumption, by assumption, by assumption⟩)
            | (go_split_ands; exact XC.allM (XC.below (by assumption) (by assumption)) hM.out))
            (first
            | (go_at_call 32; (with_reducible refine (xp.out _ (by first | assumption | (go_split_ands; assumption))).mono ?_); rintro e w1 ⟨rfl, b1⟩)
            | (go_at_call 32; (with_reducible refine (yp.out _ (by first | assumption | (go_split_ands; assumption))).mono ?_); rintro e w1 ⟨rfl, b1⟩))
          all_goals (obtain ⟨hd, c0, c1, c2, d0, d1, d2, _⟩ := ‹XC w g h k n s k' n' s' _ ∧ _›)
          all_goals (replace hd := Lib.hid hd)
          all_goals (go_wp2_with (first
            | (go_at_call 33; (with_reducible refine (cO.out _).mono ?_); rintro e w3 ⟨p, q, rfl, hp, hpl, hql, b3⟩; have hl0 := hd.out.lt; have hgq : g ≠ q := Nat.ne_of_lt (Nat.lt_of_lt_of_le hl0.1 hql); have hhq : h ≠ q := Nat.ne_of_lt (Nat.lt_of_lt_of_le hl0.2 hql); have hwq := Lib.hid (Nat.le_trans hd.out.bel.size hql); clear c0 c1 c2 d0 d1 d2 hl0 hpl hql; have hcn := hd.out.next b3; clear hd b3; obtain ⟨hd, c0, c1, c2, d0, d1, d2⟩ := hcn; replace hd := Lib.hid hd; replace hp := Lib.hid hp)
            | (go_at_call 34; (with_reducible refine (xt.out _ _ _ hp.out).mono ?_); rintro e w4 ⟨rfl, h4, k4⟩; clear c0 c1 c2 d0 d1 d2; have hcn := (hd.out.keepq k4 hgq hhq hwq.out).all; have hl4 := hcn.1.lt.1; have hl5 := hcn.1.lt.2; clear hd k4 hp; obtain ⟨hd, c0, c1, c2, d0, d1, d2⟩ := hcn; replace hd := Lib.hid hd; replace h4 := Lib.hid h4)
            | (go_at_call 35; (with_reducible refine (xr.out _).mono ?_); rintro e w5 ⟨rfl, b5⟩; have z0 := (b5.cell (p := ⟨w4.heap.size, 0, none⟩) (by simp)).trans (newCell w4 _ _ 0); have z1 := (b5.cell (p := ⟨w4.heap.size, 1, none⟩) (by simp)).trans (newCell w4 _ _ 1); have z2 := (b5.cell (p := ⟨w4.heap.size, 2, none⟩) (by simp)).trans (newCell w4 _ _ 2); clear c0 c1 c2 d0 d1 d2; have hcn := (hd.out.below ((Below.refl _ w4).alloc (Nat.le_refl _) _)).next b5; replace h4 := Lib.hid ((h4.out.below ((Below.refl _ w4).alloc (Nat.le_refl _) _)).below b5); clear hd b5; obtain ⟨hd, c0, c1, c2, d0, d1, d2⟩ := hcn; replace hd := Lib.hid hd)
            | (go_at_call 36; (with_reducible refine (order.pend_any h4.out).mono ?_); rintro e w6 ⟨rfl, k6⟩; have hB := Lib.hid (hd.out.keepq k6 hgq hhq hwq.out).bel)))
          all_goals go_ret
          all_goals exact ⟨rfl, hB.out⟩
    · clear hfield
      subst h1
      go_region_held3 (fun w' => XC w g h k n s k n' s' w' ∧ w'.cell? ⟨g, 0, none⟩ = some (.int .i64 k) ∧ w'.cell? ⟨g, 1, none⟩ = some (.int .i64 n) ∧ w'.cell? ⟨g, 2, none⟩ = some (.string s) ∧ w'.cell? ⟨h, 0, none⟩ = some (.int .i64 k) ∧ w'.cell? ⟨h, 1, none⟩ = some (.int .i64 n') ∧ w'.cell? ⟨h, 2, none⟩ = some (.string s'))
        (first
        | exact hc.out.drew.all
        | (go_split_ands; exact ⟨by assumption, by assumption, by assumption, by assumption, by assumption, by assumption, by assumption⟩)
        | (go_split_ands; exact XC.next (by assumption) (by assumption)))
        (first
        | (go_at_call 29; (with_reducible refine (value.awake_any _).mono ?_); rintro e w1 ⟨rfl, b1⟩)
        | (go_at_call 27; (with_reducible refine (cD.out _).mono ?_); rintro e w1 ⟨rfl, b1⟩)
        | (go_at_call 30; (with_reducible refine (cS.out _).mono ?_); rintro e w1 ⟨rfl, b1⟩))
      obtain ⟨hd, c0, c1, c2, d0, d1, d2⟩ := ‹XC w g h k n s k n' s' _ ∧ _›
      replace hd := Lib.hid hd
      cases mx with
      | false =>
        go_wp2_with (go_at_call 31; (with_reducible refine (hmx.out _).mono ?_); rintro e w2 ⟨rfl, b2⟩; have b3 := Lib.hid (belowCont hd.out.bel b2))
        go_ret
        exact ⟨rfl, b3.out⟩
      | true =>
        cases my with
        | false =>
          go_wp2_with (first
            | (go_at_call 31; (with_reducible refine (hmx.out _).mono ?_); rintro e w2 ⟨rfl, b2⟩; clear hmx c0 c1 c2 d0 d1 d2; have hcn := hd.out.next b2; clear hd b2; obtain ⟨hd, c0, c1, c2, d0, d1, d2⟩ := hcn; replace hd := Lib.hid hd)
            | (go_at_call 31; (with_reducible refine (hmy.out _).mono ?_); rintro e w2 ⟨rfl, b2⟩; have b3 := Lib.hid (belowCont hd.out.bel b2)))
          go_ret
          exact ⟨rfl, b3.out⟩
        | true =>
          obtain ⟨xp, xr, xt, _⟩ := hV.out rfl
          have yp := (hV'.out rfl).part
          have hlt := hP.out rfl rfl
          rw [e3.out] at hlt
          have heq := hQ.out rfl rfl
          clear hV hV' hP hQ e3
          have cO : ∀ W, Calls Tryd.prog 33 #[.string (str P)] W fun e w' => ∃ p q, e = .returned (.pointer (some ⟨p, 0, none⟩)) ∧ PAt w' p q P 0 ∧ W.heap.size ≤ p ∧ W.heap.size ≤ q ∧ Below W.heap.size W w' := fun W => order.oread_any (str P) W
          have hpq : (P == P') = false := beq_eq_false_iff_ne.mpr (fun e => by have := (heq.1 e); have h5 := e5.out; simp [this] at h5)
          clear heq e5
          replace cO := Lib.hid cO; replace xp := Lib.hid xp; replace xr := Lib.hid xr; replace xt := Lib.hid xt; replace yp := Lib.hid yp
          have hss : (s.toList == s.toList) = true := by simp
          have hsp : (P == P) = true := by simp
          have hll := less_irrefl P
          go_upto_region 12 with (first
            | (go_at_call 31; (with_reducible refine (hmx.out _).mono ?_); rintro e w2 ⟨rfl, b2⟩; clear hmx c0 c1 c2 d0 d1 d2; have hcn := hd.out.next b2; clear hd b2; obtain ⟨hd, c0, c1, c2, d0, d1, d2⟩ := hcn; replace hd := Lib.hid hd)
            | (go_at_call 31; (with_reducible refine (hmy.out _).mono ?_); rintro e w2 ⟨rfl, b2⟩; clear hmy c0 c1 c2 d0 d1 d2; have hcn := hd.out.next b2; clear hd b2; obtain ⟨hd, c0, c1, c2, d0, d1, d2⟩ := hcn; replace hd := Lib.hid hd))
          clear c0 c1 c2 d0 d1 d2
          go_region_held3 (fun w' => XC w g h k n s k n' s' w' ∧ w'.cell? ⟨g, 0, none⟩ = some (.int .i64 k) ∧ w'.cell? ⟨g, 1, none⟩ = some (.int .i64 n) ∧ w'.cell? ⟨g, 2, none⟩ = some (.string s) ∧ w'.cell? ⟨h, 0, none⟩ = some (.int .i64 k) ∧ w'.cell? ⟨h, 1, none⟩ = some (.int .i64 n') ∧ w'.cell? ⟨h, 2, none⟩ = some (.string s') ∧ MaxAt w')
            (first
            | exact hd.out.drew.allM hM.out
            | (go_split_ands; exact ⟨by assumption, by assumption, by assumption, by assumption, by assumption, by assumption, by assumption, by assumption⟩)
            | (go_split_ands; exact XC.allM (XC.below (by assumption) (by assumption)) hM.out))
            (first
            | (go_at_call 32; (with_reducible refine (xp.out _ (by first | assumption | (go_split_ands; assumption))).mono ?_); rintro e w1 ⟨rfl, b1⟩)
            | (go_at_call 32; (with_reducible refine (yp.out _ (by first | assumption | (go_split_ands; assumption))).mono ?_); rintro e w1 ⟨rfl, b1⟩))
          all_goals (obtain ⟨hd, c0, c1, c2, d0, d1, d2, _⟩ := ‹XC w g h k n s k n' s' _ ∧ _›)
          all_goals (replace hd := Lib.hid hd)
          all_goals (go_wp2_with (first
            | (go_at_call 33; (with_reducible refine (cO.out _).mono ?_); rintro e w3 ⟨p, q, rfl, hp, hpl, hql, b3⟩; have hl0 := hd.out.lt; have hgq : g ≠ q := Nat.ne_of_lt (Nat.lt_of_lt_of_le hl0.1 hql); have hhq : h ≠ q := Nat.ne_of_lt (Nat.lt_of_lt_of_le hl0.2 hql); have hwq := Lib.hid (Nat.le_trans hd.out.bel.size hql); clear c0 c1 c2 d0 d1 d2 hl0 hpl hql; have hcn := hd.out.next b3; clear hd b3; obtain ⟨hd, c0, c1, c2, d0, d1, d2⟩ := hcn; replace hd := Lib.hid hd; replace hp := Lib.hid hp)
            | (go_at_call 34; (with_reducible refine (xt.out _ _ _ hp.out).mono ?_); rintro e w4 ⟨rfl, h4, k4⟩; clear c0 c1 c2 d0 d1 d2; have hcn := (hd.out.keepq k4 hgq hhq hwq.out).all; have hl4 := hcn.1.lt.1; have hl5 := hcn.1.lt.2; clear hd k4 hp; obtain ⟨hd, c0, c1, c2, d0, d1, d2⟩ := hcn; replace hd := Lib.hid hd; replace h4 := Lib.hid h4)
            | (go_at_call 35; (with_reducible refine (xr.out _).mono ?_); rintro e w5 ⟨rfl, b5⟩; have z0 := (b5.cell (p := ⟨w4.heap.size, 0, none⟩) (by simp)).trans (newCell w4 _ _ 0); have z1 := (b5.cell (p := ⟨w4.heap.size, 1, none⟩) (by simp)).trans (newCell w4 _ _ 1); have z2 := (b5.cell (p := ⟨w4.heap.size, 2, none⟩) (by simp)).trans (newCell w4 _ _ 2); clear c0 c1 c2 d0 d1 d2; have hcn := (hd.out.below ((Below.refl _ w4).alloc (Nat.le_refl _) _)).next b5; replace h4 := Lib.hid ((h4.out.below ((Below.refl _ w4).alloc (Nat.le_refl _) _)).below b5); clear hd b5; obtain ⟨hd, c0, c1, c2, d0, d1, d2⟩ := hcn; replace hd := Lib.hid hd)
            | (go_at_call 36; (with_reducible refine (order.pend_any h4.out).mono ?_); rintro e w6 ⟨rfl, k6⟩; have hB := Lib.hid (hd.out.keepq k6 hgq hhq hwq.out).bel)))
          all_goals go_ret
          all_goals exact ⟨rfl, hB.out⟩
    · clear hfield
      subst h1 h2
      go_region_held3 (fun w' => XC w g h k n s k n s' w' ∧ w'.cell? ⟨g, 0, none⟩ = some (.int .i64 k) ∧ w'.cell? ⟨g, 1, none⟩ = some (.int .i64 n) ∧ w'.cell? ⟨g, 2, none⟩ = some (.string s) ∧ w'.cell? ⟨h, 0, none⟩ = some (.int .i64 k) ∧ w'.cell? ⟨h, 1, none⟩ = some (.int .i64 n) ∧ w'.cell? ⟨h, 2, none⟩ = some (.string s'))
        (first
        | exact hc.out.drew.all
        | (go_split_ands; exact ⟨by assumption, by assumption, by assumption, by assumption, by assumption, by assumption, by assumption⟩)
        | (go_split_ands; exact XC.next (by assumption) (by assumption)))
        (first
        | (go_at_call 29; (with_reducible refine (value.awake_any _).mono ?_); rintro e w1 ⟨rfl, b1⟩)
        | (go_at_call 27; (with_reducible refine (cD.out _).mono ?_); rintro e w1 ⟨rfl, b1⟩)
        | (go_at_call 30; (with_reducible refine (cS.out _).mono ?_); rintro e w1 ⟨rfl, b1⟩))
      obtain ⟨hd, c0, c1, c2, d0, d1, d2⟩ := ‹XC w g h k n s k n s' _ ∧ _›
      replace hd := Lib.hid hd
      cases mx with
      | false =>
        go_wp2_with (go_at_call 31; (with_reducible refine (hmx.out _).mono ?_); rintro e w2 ⟨rfl, b2⟩; have b3 := Lib.hid (belowCont hd.out.bel b2))
        go_ret
        exact ⟨rfl, b3.out⟩
      | true =>
        cases my with
        | false =>
          go_wp2_with (first
            | (go_at_call 31; (with_reducible refine (hmx.out _).mono ?_); rintro e w2 ⟨rfl, b2⟩; clear hmx c0 c1 c2 d0 d1 d2; have hcn := hd.out.next b2; clear hd b2; obtain ⟨hd, c0, c1, c2, d0, d1, d2⟩ := hcn; replace hd := Lib.hid hd)
            | (go_at_call 31; (with_reducible refine (hmy.out _).mono ?_); rintro e w2 ⟨rfl, b2⟩; have b3 := Lib.hid (belowCont hd.out.bel b2)))
          go_ret
          exact ⟨rfl, b3.out⟩
        | true =>
          obtain ⟨xp, xr, xt, _⟩ := hV.out rfl
          have yp := (hV'.out rfl).part
          have hlt := hP.out rfl rfl
          rw [e3.out] at hlt
          have heq := hQ.out rfl rfl
          clear hV hV' hP hQ e3
          have cO : ∀ W, Calls Tryd.prog 33 #[.string (str P)] W fun e w' => ∃ p q, e = .returned (.pointer (some ⟨p, 0, none⟩)) ∧ PAt w' p q P 0 ∧ W.heap.size ≤ p ∧ W.heap.size ≤ q ∧ Below W.heap.size W w' := fun W => order.oread_any (str P) W
          have hpq : (P == P') = false := beq_eq_false_iff_ne.mpr (fun e => by have := (heq.1 e); have h5 := e5.out; simp [this] at h5)
          clear heq e5
          replace cO := Lib.hid cO; replace xp := Lib.hid xp; replace xr := Lib.hid xr; replace xt := Lib.hid xt; replace yp := Lib.hid yp
          have hss : (s.toList == s.toList) = true := by simp
          have hsp : (P == P) = true := by simp
          have hll := less_irrefl P
          go_upto_region 12 with (first
            | (go_at_call 31; (with_reducible refine (hmx.out _).mono ?_); rintro e w2 ⟨rfl, b2⟩; clear hmx c0 c1 c2 d0 d1 d2; have hcn := hd.out.next b2; clear hd b2; obtain ⟨hd, c0, c1, c2, d0, d1, d2⟩ := hcn; replace hd := Lib.hid hd)
            | (go_at_call 31; (with_reducible refine (hmy.out _).mono ?_); rintro e w2 ⟨rfl, b2⟩; clear hmy c0 c1 c2 d0 d1 d2; have hcn := hd.out.next b2; clear hd b2; obtain ⟨hd, c0, c1, c2, d0, d1, d2⟩ := hcn; replace hd := Lib.hid hd))
          clear c0 c1 c2 d0 d1 d2
          go_region_held3 (fun w' => XC w g h k n s k n s' w' ∧ w'.cell? ⟨g, 0, none⟩ = some (.int .i64 k) ∧ w'.cell? ⟨g, 1, none⟩ = some (.int .i64 n) ∧ w'.cell? ⟨g, 2, none⟩ = some (.string s) ∧ w'.cell? ⟨h, 0, none⟩ = some (.int .i64 k) ∧ w'.cell? ⟨h, 1, none⟩ = some (.int .i64 n) ∧ w'.cell? ⟨h, 2, none⟩ = some (.string s') ∧ MaxAt w')
            (first
            | exact hd.out.drew.allM hM.out
            | (go_split_ands; exact ⟨by assumption, by assumption, by assumption, by assumption, by assumption, by assumption, by assumption, by assumption⟩)
            | (go_split_ands; exact XC.allM (XC.below (by assumption) (by assumption)) hM.out))
            (first
            | (go_at_call 32; (with_reducible refine (xp.out _ (by first | assumption | (go_split_ands; assumption))).mono ?_); rintro e w1 ⟨rfl, b1⟩)
            | (go_at_call 32; (with_reducible refine (yp.out _ (by first | assumption | (go_split_ands; assumption))).mono ?_); rintro e w1 ⟨rfl, b1⟩))
          all_goals (obtain ⟨hd, c0, c1, c2, d0, d1, d2, _⟩ := ‹XC w g h k n s k n s' _ ∧ _›)
          all_goals (replace hd := Lib.hid hd)
          all_goals (go_wp2_with (first
            | (go_at_call 33; (with_reducible refine (cO.out _).mono ?_); rintro e w3 ⟨p, q, rfl, hp, hpl, hql, b3⟩; have hl0 := hd.out.lt; have hgq : g ≠ q := Nat.ne_of_lt (Nat.lt_of_lt_of_le hl0.1 hql); have hhq : h ≠ q := Nat.ne_of_lt (Nat.lt_of_lt_of_le hl0.2 hql); have hwq := Lib.hid (Nat.le_trans hd.out.bel.size hql); clear c0 c1 c2 d0 d1 d2 hl0 hpl hql; have hcn := hd.out.next b3; clear hd b3; obtain ⟨hd, c0, c1, c2, d0, d1, d2⟩ := hcn; replace hd := Lib.hid hd; replace hp := Lib.hid hp)
            | (go_at_call 34; (with_reducible refine (xt.out _ _ _ hp.out).mono ?_); rintro e w4 ⟨rfl, h4, k4⟩; clear c0 c1 c2 d0 d1 d2; have hcn := (hd.out.keepq k4 hgq hhq hwq.out).all; have hl4 := hcn.1.lt.1; have hl5 := hcn.1.lt.2; clear hd k4 hp; obtain ⟨hd, c0, c1, c2, d0, d1, d2⟩ := hcn; replace hd := Lib.hid hd; replace h4 := Lib.hid h4)
            | (go_at_call 35; (with_reducible refine (xr.out _).mono ?_); rintro e w5 ⟨rfl, b5⟩; have z0 := (b5.cell (p := ⟨w4.heap.size, 0, none⟩) (by simp)).trans (newCell w4 _ _ 0); have z1 := (b5.cell (p := ⟨w4.heap.size, 1, none⟩) (by simp)).trans (newCell w4 _ _ 1); have z2 := (b5.cell (p := ⟨w4.heap.size, 2, none⟩) (by simp)).trans (newCell w4 _ _ 2); clear c0 c1 c2 d0 d1 d2; have hcn := (hd.out.below ((Below.refl _ w4).alloc (Nat.le_refl _) _)).next b5; replace h4 := Lib.hid ((h4.out.below ((Below.refl _ w4).alloc (Nat.le_refl _) _)).below b5); clear hd b5; obtain ⟨hd, c0, c1, c2, d0, d1, d2⟩ := hcn; replace hd := Lib.hid hd)
            | (go_at_call 36; (with_reducible refine (order.pend_any h4.out).mono ?_); rintro e w6 ⟨rfl, k6⟩; have hB := Lib.hid (hd.out.keepq k6 hgq hhq hwq.out).bel)))
          all_goals go_ret
          all_goals exact ⟨rfl, hB.out⟩
end Go.Proofs.YtmeaidkbkelclaaDoor.vorder
