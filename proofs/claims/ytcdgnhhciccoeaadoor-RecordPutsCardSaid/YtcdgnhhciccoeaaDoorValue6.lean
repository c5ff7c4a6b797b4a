/- A value of few kinds (lodestonelaw23.Near). No condition. -/
import Derived.Test.YtcdgnhhciccoeaaDoorValue5
import Derived.StillTailTactics
namespace Go.Proofs.YtcdgnhhciccoeaaDoor.value
open Go.RowKit
attribute [local go_sem ↓] Go.wp_at_zero Go.wp_at_succ
set_option linter.unusedVariables false
set_option maxRecDepth 100000

/-- two boxes of three cells, one behind the other -/
theorem two3 (w : World) (a b c : Value) (t : TypeId) :
    let W := (w.alloc (.cells #[a, b, c] t)).alloc (.cells #[.int .i64 0, .int .i64 0, .string ⟨#[]⟩] t)
    W.cell? ⟨w.heap.size, 0, none⟩ = some a ∧ W.cell? ⟨w.heap.size, 1, none⟩ = some b ∧ W.cell? ⟨w.heap.size, 2, none⟩ = some c ∧
    W.heap[w.heap.size + 1]? = some (.cells #[.int .i64 0, .int .i64 0, .string ⟨#[]⟩] t (0, 0)) ∧ Below w.heap.size w W := by
  have h0 : ((w.alloc (.cells #[a, b, c] t)).alloc (.cells #[.int .i64 0, .int .i64 0, .string ⟨#[]⟩] t)).heap[w.heap.size]? = some (.cells #[a, b, c] t (0, 0)) := by
    rw [Below.heap_alloc _ _ _ (by simp)]; exact heap_alloc_new w _
  have h1 : ((w.alloc (.cells #[a, b, c] t)).alloc (.cells #[.int .i64 0, .int .i64 0, .string ⟨#[]⟩] t)).heap[w.heap.size + 1]? = some (.cells #[.int .i64 0, .int .i64 0, .string ⟨#[]⟩] t (0, 0)) := by
    have := heap_alloc_new (w.alloc (.cells #[a, b, c] t)) (.cells #[.int .i64 0, .int .i64 0, .string ⟨#[]⟩] t)
    simpa using this
  exact ⟨cell_of_row _ _ 0 _ _ _ h0, cell_of_row _ _ 1 _ _ _ h0, cell_of_row _ _ 2 _ _ _ h0, h1, ((Below.refl _ _).alloc (Nat.le_refl _) _).alloc (by simp) _⟩
/-- the box that Near writes -/
theorem nearFin {w W : World} {a b c x y z : Value} (h : W.heap[w.heap.size + 1]? = some (.cells #[x, y, z] 50 (0, 0))) (hb : Below w.heap.size w W) :
    (((W.setCell ⟨w.heap.size + 1, 0, none⟩ a).setCell ⟨w.heap.size + 1, 1, none⟩ b).setCell ⟨w.heap.size + 1, 2, none⟩ c).heap[w.heap.size + 1]? = some (.cells #[a, b, c] 50 (0, 0)) ∧
    Below w.heap.size w (((W.setCell ⟨w.heap.size + 1, 0, none⟩ a).setCell ⟨w.heap.size + 1, 1, none⟩ b).setCell ⟨w.heap.size + 1, 2, none⟩ c) :=
  ⟨by simp [World.setCell, Array.getElem?_modify, h], ((hb.setCell (p := ⟨w.heap.size + 1, 0, none⟩) (Nat.le_succ _) _).setCell (p := ⟨w.heap.size + 1, 1, none⟩) (Nat.le_succ _) _).setCell (p := ⟨w.heap.size + 1, 2, none⟩) (Nat.le_succ _) _⟩
set_option maxHeartbeats 2000000 in
theorem near_0 (k n : Int) (s : ByteArray) (hK : bits .and .i64 k 7 = 0) (w : World) : Calls Tryd.prog 18 #[.agg #[.int .i64 k, .int .i64 n, .string s]] w fun e w' => e = .returned (.agg #[.int .i64 0, .int .i64 0, .string ⟨#[]⟩]) ∧ Below w.heap.size w w' := by
  obtain ⟨c0, c1, c2, hr, hb⟩ := two3 w (.int .i64 k) (.int .i64 n) (.string s) 50
  go_enter Tryd.func18, Tryd.ntmps18
  go_upto_region 1 with (fail)
  generalize (w.alloc (.cells #[.int .i64 k, .int .i64 n, .string s] 50)).alloc (.cells #[.int .i64 0, .int .i64 0, .string ⟨#[]⟩] 50) = W at c0 c1 c2 hr hb ⊢
  have r0 := cell_of_row _ _ 0 _ _ _ hr
  have r1 := cell_of_row _ _ 1 _ _ _ hr
  have r2 := cell_of_row _ _ 2 _ _ _ hr
  have f : ∀ i, W.frozen? ⟨w.heap.size + 1, i, none⟩ = false := fun i => by simp [World.frozen?, hr]
  have f0 := f 0
  have f1 := f 1
  have f2 := f 2
  simp only [List.getElem?_toArray, List.getElem?_cons_zero, List.getElem?_cons_succ] at r0 r1 r2
  clear f
  replace hr := Lib.hid hr; replace hb := Lib.hid hb
  go_wp2
  obtain ⟨q1, q2⟩ := nearFin (a := .int .i64 0) (b := .int .i64 0) (c := .string ⟨#[]⟩) hr.out hb.out
  exact bodyPost_ret (v := .agg #[.int .i64 0, .int .i64 0, .string ⟨#[]⟩]) (results_cell_row rfl _ _ (w.heap.size + 1) 50 #[.int .i64 0, .int .i64 0, .string ⟨#[]⟩] (0, 0) _ rfl q1 Tryd.underlying50 rfl value3) rfl ⟨rfl, q2⟩
set_option maxHeartbeats 2000000 in
theorem near_10 (k n : Int) (s : ByteArray) (hK : bits .and .i64 k 7 = 1) (hN : bits .and .i64 n 1 = 0) (w : World) : Calls Tryd.prog 18 #[.agg #[.int .i64 k, .int .i64 n, .string s]] w fun e w' => e = .returned (.agg #[.int .i64 1, .int .i64 0, .string ⟨#[]⟩]) ∧ Below w.heap.size w w' := by
  obtain ⟨c0, c1, c2, hr, hb⟩ := two3 w (.int .i64 k) (.int .i64 n) (.string s) 50
  go_enter Tryd.func18, Tryd.ntmps18
  go_upto_region 1 with (fail)
  generalize (w.alloc (.cells #[.int .i64 k, .int .i64 n, .string s] 50)).alloc (.cells #[.int .i64 0, .int .i64 0, .string ⟨#[]⟩] 50) = W at c0 c1 c2 hr hb ⊢
  have r0 := cell_of_row _ _ 0 _ _ _ hr
  have r1 := cell_of_row _ _ 1 _ _ _ hr
  have r2 := cell_of_row _ _ 2 _ _ _ hr
  have f : ∀ i, W.frozen? ⟨w.heap.size + 1, i, none⟩ = false := fun i => by simp [World.frozen?, hr]
  have f0 := f 0
  have f1 := f 1
  have f2 := f 2
  simp only [List.getElem?_toArray, List.getElem?_cons_zero, List.getElem?_cons_succ] at r0 r1 r2
  clear f
  replace hr := Lib.hid hr; replace hb := Lib.hid hb
  go_wp2
  obtain ⟨q1, q2⟩ := nearFin (a := .int .i64 1) (b := .int .i64 0) (c := .string ⟨#[]⟩) hr.out hb.out
  exact bodyPost_ret (v := .agg #[.int .i64 1, .int .i64 0, .string ⟨#[]⟩]) (results_cell_row rfl _ _ (w.heap.size + 1) 50 #[.int .i64 1, .int .i64 0, .string ⟨#[]⟩] (0, 0) _ rfl q1 Tryd.underlying50 rfl value3) rfl ⟨rfl, q2⟩
set_option maxHeartbeats 2000000 in
theorem near_11 (k n : Int) (s : ByteArray) (hK : bits .and .i64 k 7 = 1) (hN : bits .and .i64 n 1 = 1) (w : World) : Calls Tryd.prog 18 #[.agg #[.int .i64 k, .int .i64 n, .string s]] w fun e w' => e = .returned (.agg #[.int .i64 1, .int .i64 1, .string ⟨#[]⟩]) ∧ Below w.heap.size w w' := by
  obtain ⟨c0, c1, c2, hr, hb⟩ := two3 w (.int .i64 k) (.int .i64 n) (.string s) 50
  go_enter Tryd.func18, Tryd.ntmps18
  go_upto_region 1 with (fail)
  generalize (w.alloc (.cells #[.int .i64 k, .int .i64 n, .string s] 50)).alloc (.cells #[.int .i64 0, .int .i64 0, .string ⟨#[]⟩] 50) = W at c0 c1 c2 hr hb ⊢
  have r0 := cell_of_row _ _ 0 _ _ _ hr
  have r1 := cell_of_row _ _ 1 _ _ _ hr
  have r2 := cell_of_row _ _ 2 _ _ _ hr
  have f : ∀ i, W.frozen? ⟨w.heap.size + 1, i, none⟩ = false := fun i => by simp [World.frozen?, hr]
  have f0 := f 0
  have f1 := f 1
  have f2 := f 2
  simp only [List.getElem?_toArray, List.getElem?_cons_zero, List.getElem?_cons_succ] at r0 r1 r2
  clear f
  replace hr := Lib.hid hr; replace hb := Lib.hid hb
  go_wp2
  obtain ⟨q1, q2⟩ := nearFin (a := .int .i64 1) (b := .int .i64 1) (c := .string ⟨#[]⟩) hr.out hb.out
  exact bodyPost_ret (v := .agg #[.int .i64 1, .int .i64 1, .string ⟨#[]⟩]) (results_cell_row rfl _ _ (w.heap.size + 1) 50 #[.int .i64 1, .int .i64 1, .string ⟨#[]⟩] (0, 0) _ rfl q1 Tryd.underlying50 rfl value3) rfl ⟨rfl, q2⟩
set_option maxHeartbeats 2000000 in
theorem near_2 (k n : Int) (s : ByteArray) (hK : bits .and .i64 k 7 = 2) (w : World) : Calls Tryd.prog 18 #[.agg #[.int .i64 k, .int .i64 n, .string s]] w fun e w' => e = .returned (.agg #[.int .i64 2, .int .i64 n, .string ⟨#[]⟩]) ∧ Below w.heap.size w w' := by
  obtain ⟨c0, c1, c2, hr, hb⟩ := two3 w (.int .i64 k) (.int .i64 n) (.string s) 50
  go_enter Tryd.func18, Tryd.ntmps18
  go_upto_region 1 with (fail)
  generalize (w.alloc (.cells #[.int .i64 k, .int .i64 n, .string s] 50)).alloc (.cells #[.int .i64 0, .int .i64 0, .string ⟨#[]⟩] 50) = W at c0 c1 c2 hr hb ⊢
  have r0 := cell_of_row _ _ 0 _ _ _ hr
  have r1 := cell_of_row _ _ 1 _ _ _ hr
  have r2 := cell_of_row _ _ 2 _ _ _ hr
  have f : ∀ i, W.frozen? ⟨w.heap.size + 1, i, none⟩ = false := fun i => by simp [World.frozen?, hr]
  have f0 := f 0
  have f1 := f 1
  have f2 := f 2
  simp only [List.getElem?_toArray, List.getElem?_cons_zero, List.getElem?_cons_succ] at r0 r1 r2
  clear f
  replace hr := Lib.hid hr; replace hb := Lib.hid hb
  go_wp2
  obtain ⟨q1, q2⟩ := nearFin (a := .int .i64 2) (b := .int .i64 n) (c := .string ⟨#[]⟩) hr.out hb.out
  exact bodyPost_ret (v := .agg #[.int .i64 2, .int .i64 n, .string ⟨#[]⟩]) (results_cell_row rfl _ _ (w.heap.size + 1) 50 #[.int .i64 2, .int .i64 n, .string ⟨#[]⟩] (0, 0) _ rfl q1 Tryd.underlying50 rfl value3) rfl ⟨rfl, q2⟩
set_option maxHeartbeats 2000000 in
theorem near_3 (k n : Int) (s : ByteArray) (hK : bits .and .i64 k 7 = 3) (w : World) : Calls Tryd.prog 18 #[.agg #[.int .i64 k, .int .i64 n, .string s]] w fun e w' => e = .returned (.agg #[.int .i64 2, .int .i64 n, .string ⟨#[]⟩]) ∧ Below w.heap.size w w' := by
  obtain ⟨c0, c1, c2, hr, hb⟩ := two3 w (.int .i64 k) (.int .i64 n) (.string s) 50
  go_enter Tryd.func18, Tryd.ntmps18
  go_upto_region 1 with (fail)
  generalize (w.alloc (.cells #[.int .i64 k, .int .i64 n, .string s] 50)).alloc (.cells #[.int .i64 0, .int .i64 0, .string ⟨#[]⟩] 50) = W at c0 c1 c2 hr hb ⊢
  have r0 := cell_of_row _ _ 0 _ _ _ hr
  have r1 := cell_of_row _ _ 1 _ _ _ hr
  have r2 := cell_of_row _ _ 2 _ _ _ hr
  have f : ∀ i, W.frozen? ⟨w.heap.size + 1, i, none⟩ = false := fun i => by simp [World.frozen?, hr]
  have f0 := f 0
  have f1 := f 1
  have f2 := f 2
  simp only [List.getElem?_toArray, List.getElem?_cons_zero, List.getElem?_cons_succ] at r0 r1 r2
  clear f
  replace hr := Lib.hid hr; replace hb := Lib.hid hb
  go_wp2
  obtain ⟨q1, q2⟩ := nearFin (a := .int .i64 2) (b := .int .i64 n) (c := .string ⟨#[]⟩) hr.out hb.out
  exact bodyPost_ret (v := .agg #[.int .i64 2, .int .i64 n, .string ⟨#[]⟩]) (results_cell_row rfl _ _ (w.heap.size + 1) 50 #[.int .i64 2, .int .i64 n, .string ⟨#[]⟩] (0, 0) _ rfl q1 Tryd.underlying50 rfl value3) rfl ⟨rfl, q2⟩
set_option maxHeartbeats 2000000 in
theorem near_4s (k n : Int) (s : ByteArray) (hK : bits .and .i64 k 7 = 4) (h60 : s.size ≤ 60) (w : World) : Calls Tryd.prog 18 #[.agg #[.int .i64 k, .int .i64 n, .string s]] w fun e w' => e = .returned (.agg #[.int .i64 3, .int .i64 0, .string s]) ∧ Below w.heap.size w w' := by
  obtain ⟨c0, c1, c2, hr, hb⟩ := two3 w (.int .i64 k) (.int .i64 n) (.string s) 50
  have h60i : ¬ 60 < (s.size : Int) := by omega
  have h60j : (s.size : Int) ≤ 60 := by omega
  have hmin : min (s.size : Int) 60 = (s.size : Int) := by omega
  have hex : s.extract 0 s.size = s := by simp
  go_enter Tryd.func18, Tryd.ntmps18
  go_upto_region 1 with (fail)
  generalize (w.alloc (.cells #[.int .i64 k, .int .i64 n, .string s] 50)).alloc (.cells #[.int .i64 0, .int .i64 0, .string ⟨#[]⟩] 50) = W at c0 c1 c2 hr hb ⊢
  have r0 := cell_of_row _ _ 0 _ _ _ hr
  have r1 := cell_of_row _ _ 1 _ _ _ hr
  have r2 := cell_of_row _ _ 2 _ _ _ hr
  have f : ∀ i, W.frozen? ⟨w.heap.size + 1, i, none⟩ = false := fun i => by simp [World.frozen?, hr]
  have f0 := f 0
  have f1 := f 1
  have f2 := f 2
  simp only [List.getElem?_toArray, List.getElem?_cons_zero, List.getElem?_cons_succ] at r0 r1 r2
  clear f
  replace hr := Lib.hid hr; replace hb := Lib.hid hb
  go_wp2
  obtain ⟨q1, q2⟩ := nearFin (a := .int .i64 3) (b := .int .i64 0) (c := .string s) hr.out hb.out
  exact bodyPost_ret (v := .agg #[.int .i64 3, .int .i64 0, .string s]) (results_cell_row rfl _ _ (w.heap.size + 1) 50 #[.int .i64 3, .int .i64 0, .string s] (0, 0) _ rfl q1 Tryd.underlying50 rfl value3) rfl ⟨rfl, q2⟩
set_option maxHeartbeats 2000000 in
theorem near_4l (k n : Int) (s : ByteArray) (hK : bits .and .i64 k 7 = 4) (h60 : 60 < s.size) (w : World) : Calls Tryd.prog 18 #[.agg #[.int .i64 k, .int .i64 n, .string s]] w fun e w' => e = .returned (.agg #[.int .i64 3, .int .i64 0, .string (s.extract 0 60)]) ∧ Below w.heap.size w w' := by
  obtain ⟨c0, c1, c2, hr, hb⟩ := two3 w (.int .i64 k) (.int .i64 n) (.string s) 50
  have h60i : ¬ (s.size : Int) ≤ 60 := by omega
  have h60j : 60 < (s.size : Int) := by omega
  have h60k : 60 ≤ (s.size : Int) := by omega
  have hmin : min (s.size : Int) 60 = 60 := by omega
  go_enter Tryd.func18, Tryd.ntmps18
  go_upto_region 1 with (fail)
  generalize (w.alloc (.cells #[.int .i64 k, .int .i64 n, .string s] 50)).alloc (.cells #[.int .i64 0, .int .i64 0, .string ⟨#[]⟩] 50) = W at c0 c1 c2 hr hb ⊢
  have r0 := cell_of_row _ _ 0 _ _ _ hr
  have r1 := cell_of_row _ _ 1 _ _ _ hr
  have r2 := cell_of_row _ _ 2 _ _ _ hr
  have f : ∀ i, W.frozen? ⟨w.heap.size + 1, i, none⟩ = false := fun i => by simp [World.frozen?, hr]
  have f0 := f 0
  have f1 := f 1
  have f2 := f 2
  simp only [List.getElem?_toArray, List.getElem?_cons_zero, List.getElem?_cons_succ] at r0 r1 r2
  clear f
  replace hr := Lib.hid hr; replace hb := Lib.hid hb
  go_wp2
  obtain ⟨q1, q2⟩ := nearFin (a := .int .i64 3) (b := .int .i64 0) (c := .string (s.extract 0 60)) hr.out hb.out
  exact bodyPost_ret (v := .agg #[.int .i64 3, .int .i64 0, .string (s.extract 0 60)]) (results_cell_row rfl _ _ (w.heap.size + 1) 50 #[.int .i64 3, .int .i64 0, .string (s.extract 0 60)] (0, 0) _ rfl q1 Tryd.underlying50 rfl value3) rfl ⟨rfl, q2⟩
set_option maxHeartbeats 2000000 in
theorem near_5s (k n : Int) (s : ByteArray) (hK : bits .and .i64 k 7 = 5) (h60 : s.size ≤ 60) (w : World) : Calls Tryd.prog 18 #[.agg #[.int .i64 k, .int .i64 n, .string s]] w fun e w' => e = .returned (.agg #[.int .i64 3, .int .i64 0, .string s]) ∧ Below w.heap.size w w' := by
  obtain ⟨c0, c1, c2, hr, hb⟩ := two3 w (.int .i64 k) (.int .i64 n) (.string s) 50
  have h60i : ¬ 60 < (s.size : Int) := by omega
  have h60j : (s.size : Int) ≤ 60 := by omega
  have hmin : min (s.size : Int) 60 = (s.size : Int) := by omega
  have hex : s.extract 0 s.size = s := by simp
  go_enter Tryd.func18, Tryd.ntmps18
  go_upto_region 1 with (fail)
  generalize (w.alloc (.cells #[.int .i64 k, .int .i64 n, .string s] 50)).alloc (.cells #[.int .i64 0, .int .i64 0, .string ⟨#[]⟩] 50) = W at c0 c1 c2 hr hb ⊢
  have r0 := cell_of_row _ _ 0 _ _ _ hr
  have r1 := cell_of_row _ _ 1 _ _ _ hr
  have r2 := cell_of_row _ _ 2 _ _ _ hr
  have f : ∀ i, W.frozen? ⟨w.heap.size + 1, i, none⟩ = false := fun i => by simp [World.frozen?, hr]
  have f0 := f 0
  have f1 := f 1
  have f2 := f 2
  simp only [List.getElem?_toArray, List.getElem?_cons_zero, List.getElem?_cons_succ] at r0 r1 r2
  clear f
  replace hr := Lib.hid hr; replace hb := Lib.hid hb
  go_wp2
  obtain ⟨q1, q2⟩ := nearFin (a := .int .i64 3) (b := .int .i64 0) (c := .string s) hr.out hb.out
  exact bodyPost_ret (v := .agg #[.int .i64 3, .int .i64 0, .string s]) (results_cell_row rfl _ _ (w.heap.size + 1) 50 #[.int .i64 3, .int .i64 0, .string s] (0, 0) _ rfl q1 Tryd.underlying50 rfl value3) rfl ⟨rfl, q2⟩
set_option maxHeartbeats 2000000 in
theorem near_5l (k n : Int) (s : ByteArray) (hK : bits .and .i64 k 7 = 5) (h60 : 60 < s.size) (w : World) : Calls Tryd.prog 18 #[.agg #[.int .i64 k, .int .i64 n, .string s]] w fun e w' => e = .returned (.agg #[.int .i64 3, .int .i64 0, .string (s.extract 0 60)]) ∧ Below w.heap.size w w' := by
  obtain ⟨c0, c1, c2, hr, hb⟩ := two3 w (.int .i64 k) (.int .i64 n) (.string s) 50
  have h60i : ¬ (s.size : Int) ≤ 60 := by omega
  have h60j : 60 < (s.size : Int) := by omega
  have h60k : 60 ≤ (s.size : Int) := by omega
  have hmin : min (s.size : Int) 60 = 60 := by omega
  go_enter Tryd.func18, Tryd.ntmps18
  go_upto_region 1 with (fail)
  generalize (w.alloc (.cells #[.int .i64 k, .int .i64 n, .string s] 50)).alloc (.cells #[.int .i64 0, .int .i64 0, .string ⟨#[]⟩] 50) = W at c0 c1 c2 hr hb ⊢
  have r0 := cell_of_row _ _ 0 _ _ _ hr
  have r1 := cell_of_row _ _ 1 _ _ _ hr
  have r2 := cell_of_row _ _ 2 _ _ _ hr
  have f : ∀ i, W.frozen? ⟨w.heap.size + 1, i, none⟩ = false := fun i => by simp [World.frozen?, hr]
  have f0 := f 0
  have f1 := f 1
  have f2 := f 2
  simp only [List.getElem?_toArray, List.getElem?_cons_zero, List.getElem?_cons_succ] at r0 r1 r2
  clear f
  replace hr := Lib.hid hr; replace hb := Lib.hid hb
  go_wp2
  obtain ⟨q1, q2⟩ := nearFin (a := .int .i64 3) (b := .int .i64 0) (c := .string (s.extract 0 60)) hr.out hb.out
  exact bodyPost_ret (v := .agg #[.int .i64 3, .int .i64 0, .string (s.extract 0 60)]) (results_cell_row rfl _ _ (w.heap.size + 1) 50 #[.int .i64 3, .int .i64 0, .string (s.extract 0 60)] (0, 0) _ rfl q1 Tryd.underlying50 rfl value3) rfl ⟨rfl, q2⟩
set_option maxHeartbeats 2000000 in
theorem near_6s (k n : Int) (s : ByteArray) (hK : bits .and .i64 k 7 = 6) (h60 : s.size ≤ 60) (w : World) : Calls Tryd.prog 18 #[.agg #[.int .i64 k, .int .i64 n, .string s]] w fun e w' => e = .returned (.agg #[.int .i64 3, .int .i64 0, .string s]) ∧ Below w.heap.size w w' := by
  obtain ⟨c0, c1, c2, hr, hb⟩ := two3 w (.int .i64 k) (.int .i64 n) (.string s) 50
  have h60i : ¬ 60 < (s.size : Int) := by omega
  have h60j : (s.size : Int) ≤ 60 := by omega
  have hmin : min (s.size : Int) 60 = (s.size : Int) := by omega
  have hex : s.extract 0 s.size = s := by simp
  go_enter Tryd.func18, Tryd.ntmps18
  go_upto_region 1 with (fail)
  generalize (w.alloc (.cells #[.int .i64 k, .int .i64 n, .string s] 50)).alloc (.cells #[.int .i64 0, .int .i64 0, .string ⟨#[]⟩] 50) = W at c0 c1 c2 hr hb ⊢
  have r0 := cell_of_row _ _ 0 _ _ _ hr
  have r1 := cell_of_row _ _ 1 _ _ _ hr
  have r2 := cell_of_row _ _ 2 _ _ _ hr
  have f : ∀ i, W.frozen? ⟨w.heap.size + 1, i, none⟩ = false := fun i => by simp [World.frozen?, hr]
  have f0 := f 0
  have f1 := f 1
  have f2 := f 2
  simp only [List.getElem?_toArray, List.getElem?_cons_zero, List.getElem?_cons_succ] at r0 r1 r2
  clear f
  replace hr := Lib.hid hr; replace hb := Lib.hid hb
  go_wp2
  obtain ⟨q1, q2⟩ := nearFin (a := .int .i64 3) (b := .int .i64 0) (c := .string s) hr.out hb.out
  exact bodyPost_ret (v := .agg #[.int .i64 3, .int .i64 0, .string s]) (results_cell_row rfl _ _ (w.heap.size + 1) 50 #[.int .i64 3, .int .i64 0, .string s] (0, 0) _ rfl q1 Tryd.underlying50 rfl value3) rfl ⟨rfl, q2⟩
set_option maxHeartbeats 2000000 in
theorem near_6l (k n : Int) (s : ByteArray) (hK : bits .and .i64 k 7 = 6) (h60 : 60 < s.size) (w : World) : Calls Tryd.prog 18 #[.agg #[.int .i64 k, .int .i64 n, .string s]] w fun e w' => e = .returned (.agg #[.int .i64 3, .int .i64 0, .string (s.extract 0 60)]) ∧ Below w.heap.size w w' := by
  obtain ⟨c0, c1, c2, hr, hb⟩ := two3 w (.int .i64 k) (.int .i64 n) (.string s) 50
  have h60i : ¬ (s.size : Int) ≤ 60 := by omega
  have h60j : 60 < (s.size : Int) := by omega
  have h60k : 60 ≤ (s.size : Int) := by omega
  have hmin : min (s.size : Int) 60 = 60 := by omega
  go_enter Tryd.func18, Tryd.ntmps18
  go_upto_region 1 with (fail)
  generalize (w.alloc (.cells #[.int .i64 k, .int .i64 n, .string s] 50)).alloc (.cells #[.int .i64 0, .int .i64 0, .string ⟨#[]⟩] 50) = W at c0 c1 c2 hr hb ⊢
  have r0 := cell_of_row _ _ 0 _ _ _ hr
  have r1 := cell_of_row _ _ 1 _ _ _ hr
  have r2 := cell_of_row _ _ 2 _ _ _ hr
  have f : ∀ i, W.frozen? ⟨w.heap.size + 1, i, none⟩ = false := fun i => by simp [World.frozen?, hr]
  have f0 := f 0
  have f1 := f 1
  have f2 := f 2
  simp only [List.getElem?_toArray, List.getElem?_cons_zero, List.getElem?_cons_succ] at r0 r1 r2
  clear f
  replace hr := Lib.hid hr; replace hb := Lib.hid hb
  go_wp2
  obtain ⟨q1, q2⟩ := nearFin (a := .int .i64 3) (b := .int .i64 0) (c := .string (s.extract 0 60)) hr.out hb.out
  exact bodyPost_ret (v := .agg #[.int .i64 3, .int .i64 0, .string (s.extract 0 60)]) (results_cell_row rfl _ _ (w.heap.size + 1) 50 #[.int .i64 3, .int .i64 0, .string (s.extract 0 60)] (0, 0) _ rfl q1 Tryd.underlying50 rfl value3) rfl ⟨rfl, q2⟩
set_option maxHeartbeats 2000000 in
theorem near_7s (k n : Int) (s : ByteArray) (hK : bits .and .i64 k 7 = 7) (h60 : s.size ≤ 2100) (w : World) : Calls Tryd.prog 18 #[.agg #[.int .i64 k, .int .i64 n, .string s]] w fun e w' => e = .returned (.agg #[.int .i64 k, .int .i64 n, .string s]) ∧ Below w.heap.size w w' := by
  obtain ⟨c0, c1, c2, hr, hb⟩ := two3 w (.int .i64 k) (.int .i64 n) (.string s) 50
  have h60i : ¬ 2100 < (s.size : Int) := by omega
  have h60j : (s.size : Int) ≤ 2100 := by omega
  have hmin : min (s.size : Int) 2100 = (s.size : Int) := by omega
  have hex : s.extract 0 s.size = s := by simp
  go_enter Tryd.func18, Tryd.ntmps18
  go_upto_region 1 with (fail)
  generalize (w.alloc (.cells #[.int .i64 k, .int .i64 n, .string s] 50)).alloc (.cells #[.int .i64 0, .int .i64 0, .string ⟨#[]⟩] 50) = W at c0 c1 c2 hr hb ⊢
  have r0 := cell_of_row _ _ 0 _ _ _ hr
  have r1 := cell_of_row _ _ 1 _ _ _ hr
  have r2 := cell_of_row _ _ 2 _ _ _ hr
  have f : ∀ i, W.frozen? ⟨w.heap.size + 1, i, none⟩ = false := fun i => by simp [World.frozen?, hr]
  have f0 := f 0
  have f1 := f 1
  have f2 := f 2
  simp only [List.getElem?_toArray, List.getElem?_cons_zero, List.getElem?_cons_succ] at r0 r1 r2
  clear f
  replace hr := Lib.hid hr; replace hb := Lib.hid hb
  go_upto_region 13 with (fail)
  refine wp_region_still_tail 12 (by kernel_rfl) (by kernel_rfl) ?_
  simp only [List.take_succ_cons, List.take_zero, List.drop_succ_cons, List.drop_zero]
  change wpStill _ _ W.drew _ _ _
  repeat still_step
  try refine wpStill_nil ?_
  change wpList _ _ _ _ _ W.drew
  have hr2 : W.drew.heap[w.heap.size + 1]? = some (.cells #[.int .i64 0, .int .i64 0, .string ⟨#[]⟩] 50 (0, 0)) := hr.out
  replace hr := Lib.hid hr2
  clear hr2
  replace hb := Lib.hid hb.out.drew
  go_wp2
  obtain ⟨q1, q2⟩ := nearFin (a := .int .i64 k) (b := .int .i64 n) (c := .string s) hr.out hb.out
  exact bodyPost_ret (v := .agg #[.int .i64 k, .int .i64 n, .string s]) (results_cell_row rfl _ _ (w.heap.size + 1) 50 #[.int .i64 k, .int .i64 n, .string s] (0, 0) _ rfl q1 Tryd.underlying50 rfl value3) rfl ⟨rfl, q2⟩
set_option maxHeartbeats 2000000 in
theorem near_7l (k n : Int) (s : ByteArray) (hK : bits .and .i64 k 7 = 7) (h60 : 2100 < s.size) (w : World) : Calls Tryd.prog 18 #[.agg #[.int .i64 k, .int .i64 n, .string s]] w fun e w' => e = .returned (.agg #[.int .i64 k, .int .i64 n, .string (s.extract 0 2100)]) ∧ Below w.heap.size w w' := by
  obtain ⟨c0, c1, c2, hr, hb⟩ := two3 w (.int .i64 k) (.int .i64 n) (.string s) 50
  have h60i : ¬ (s.size : Int) ≤ 2100 := by omega
  have h60j : 2100 < (s.size : Int) := by omega
  have h60k : 2100 ≤ (s.size : Int) := by omega
  have hmin : min (s.size : Int) 2100 = 2100 := by omega
  go_enter Tryd.func18, Tryd.ntmps18
  go_upto_region 1 with (fail)
  generalize (w.alloc (.cells #[.int .i64 k, .int .i64 n, .string s] 50)).alloc (.cells #[.int .i64 0, .int .i64 0, .string ⟨#[]⟩] 50) = W at c0 c1 c2 hr hb ⊢
  have r0 := cell_of_row _ _ 0 _ _ _ hr
  have r1 := cell_of_row _ _ 1 _ _ _ hr
  have r2 := cell_of_row _ _ 2 _ _ _ hr
  have f : ∀ i, W.frozen? ⟨w.heap.size + 1, i, none⟩ = false := fun i => by simp [World.frozen?, hr]
  have f0 := f 0
  have f1 := f 1
  have f2 := f 2
  simp only [List.getElem?_toArray, List.getElem?_cons_zero, List.getElem?_cons_succ] at r0 r1 r2
  clear f
  replace hr := Lib.hid hr; replace hb := Lib.hid hb
  go_upto_region 13 with (fail)
  refine wp_region_still_tail 12 (by kernel_rfl) (by kernel_rfl) ?_
  simp only [List.take_succ_cons, List.take_zero, List.drop_succ_cons, List.drop_zero]
  change wpStill _ _ W.drew _ _ _
  repeat still_step
  try refine wpStill_nil ?_
  change wpList _ _ _ _ _ W.drew
  have hr2 : W.drew.heap[w.heap.size + 1]? = some (.cells #[.int .i64 0, .int .i64 0, .string ⟨#[]⟩] 50 (0, 0)) := hr.out
  replace hr := Lib.hid hr2
  clear hr2
  replace hb := Lib.hid hb.out.drew
  go_wp2
  obtain ⟨q1, q2⟩ := nearFin (a := .int .i64 k) (b := .int .i64 n) (c := .string (s.extract 0 2100)) hr.out hb.out
  exact bodyPost_ret (v := .agg #[.int .i64 k, .int .i64 n, .string (s.extract 0 2100)]) (results_cell_row rfl _ _ (w.heap.size + 1) 50 #[.int .i64 k, .int .i64 n, .string (s.extract 0 2100)] (0, 0) _ rfl q1 Tryd.underlying50 rfl value3) rfl ⟨rfl, q2⟩
end Go.Proofs.YtcdgnhhciccoeaaDoor.value
