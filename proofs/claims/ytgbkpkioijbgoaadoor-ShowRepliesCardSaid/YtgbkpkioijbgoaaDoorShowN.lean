/- A value of few kinds (lodestonelaw23.Near), and its text as the document has it (lodestonelaw41.value). The table of powers of ten is a premise. -/
import Derived.Test.YtgbkpkioijbgoaaDoorShowA
import Derived.StillTailTactics
namespace Go.Proofs.YtgbkpkioijbgoaaDoor.value
open Go.RowKit
attribute [local go_sem ↓] Go.wp_at_zero Go.wp_at_succ
set_option linter.unusedVariables false
set_option maxRecDepth 100000

theorem value3 : (Tryd.prog.info? 53).map (·.size) = some 3 := by kernel_rfl
/-- two boxes of three cells, one behind the other -/
theorem two3 (w : World) (a b c : Value) (t : TypeId) :
    let W := (w.alloc (.cells #[a, b, c] t)).alloc (.cells #[.int .i64 0, .int .i64 0, .string ⟨#[]⟩] t)
    W.cell? ⟨w.heap.size, 0, none⟩ = some a ∧ W.cell? ⟨w.heap.size, 1, none⟩ = some b ∧ W.cell? ⟨w.heap.size, 2, none⟩ = some c ∧
    W.heap[w.heap.size + 1]? = some (.cells #[.int .i64 0, .int .i64 0, .string ⟨#[]⟩] t (0, 0)) ∧ Below w.heap.size w W := by
  have h0 : ((w.alloc (.cells #[a, b, c] t)).alloc (.cells #[.int .i64 0, .int .i64 0, .string ⟨#[]⟩] t)).heap[w.heap.size]? = some (.cells #[a, b, c] t (0, 0)) := by
    rw [Below.heap_alloc _ _ _ (by simp)]; exact heap_alloc_new w _
  have h1 : ((w.alloc (.cells #[a, b, c] t)).alloc (.cells #[.int .i64 0, .int .i64 0, .string ⟨#[]⟩] t)).heap[w.heap.size + 1]? = some (.cells #[.int .i64 0, .int .i64 0, .string ⟨#[]⟩] t (0, 0)) := by
    have := heap_alloc_new (w.alloc (.cells #[a, b, c] t)) (.cells #[.int .i64 0, .int .i64 0, .string ⟨#[]⟩] t)
    simpa using this
  exact ⟨cell_of_row _ _ 0 _ _ _ h0, cell_of_row _ _ 1 _ _ _ h0, cell_of_row _ _ 2 _ _ _ h0, h1, ((Below.refl _ _).alloc (Nat.le_refl _) _).alloc (by simp) _⟩
/-- the box that Near writes -/
theorem nearFin {w W : World} {a b c x y z : Value} (h : W.heap[w.heap.size + 1]? = some (.cells #[x, y, z] 53 (0, 0))) (hb : Below w.heap.size w W) :
    (((W.setCell ⟨w.heap.size + 1, 0, none⟩ a).setCell ⟨w.heap.size + 1, 1, none⟩ b).setCell ⟨w.heap.size + 1, 2, none⟩ c).heap[w.heap.size + 1]? = some (.cells #[a, b, c] 53 (0, 0)) ∧
    Below w.heap.size w (((W.setCell ⟨w.heap.size + 1, 0, none⟩ a).setCell ⟨w.heap.size + 1, 1, none⟩ b).setCell ⟨w.heap.size + 1, 2, none⟩ c) :=
  ⟨by simp [World.setCell, Array.getElem?_modify, h], ((hb.setCell (p := ⟨w.heap.size + 1, 0, none⟩) (Nat.le_succ _) _).setCell (p := ⟨w.heap.size + 1, 1, none⟩) (Nat.le_succ _) _).setCell (p := ⟨w.heap.size + 1, 2, none⟩) (Nat.le_succ _) _⟩
set_option maxHeartbeats 2000000 in
theorem near_0 (k n : Int) (s : ByteArray) (hK : bits .and .i64 k 7 = 0) (w : World) : Calls Tryd.prog 14 #[.agg #[.int .i64 k, .int .i64 n, .string s]] w fun e w' => e = .returned (.agg #[.int .i64 0, .int .i64 0, .string ⟨#[]⟩]) ∧ Below w.heap.size w w' := by
  obtain ⟨c0, c1, c2, hr, hb⟩ := two3 w (.int .i64 k) (.int .i64 n) (.string s) 53
  go_enter Tryd.func14, Tryd.ntmps14
  go_upto_region 1 with (fail)
  generalize (w.alloc (.cells #[.int .i64 k, .int .i64 n, .string s] 53)).alloc (.cells #[.int .i64 0, .int .i64 0, .string ⟨#[]⟩] 53) = W at c0 c1 c2 hr hb ⊢
  have r0 := cell_of_row _ _ 0 _ _ _ hr
  have r1 := cell_of_row _ _ 1 _ _ _ hr
  have r2 := cell_of_row _ _ 2 _ _ _ hr
  have f : ∀ i, W.frozen? ⟨w.heap.size + 1, i, none⟩ = false := fun i => by simp [World.frozen?, hr]
  have f0 := f 0
  have f1 := f 1
  have f2 := f 2
  simp only [List.getElem?_toArray, List.getElem?_cons_zero, List.getElem?_cons_succ] at r0 r1 r2
  clear f
  replace hr := Lib.hid hr; replace hb := Lib.hid hb
  go_wp2
  obtain ⟨q1, q2⟩ := nearFin (a := .int .i64 0) (b := .int .i64 0) (c := .string ⟨#[]⟩) hr.out hb.out
  exact bodyPost_ret (v := .agg #[.int .i64 0, .int .i64 0, .string ⟨#[]⟩]) (results_cell_row rfl _ _ (w.heap.size + 1) 53 #[.int .i64 0, .int .i64 0, .string ⟨#[]⟩] (0, 0) _ rfl q1 Tryd.underlying53 rfl value3) rfl ⟨rfl, q2⟩
set_option maxHeartbeats 2000000 in
theorem near_10 (k n : Int) (s : ByteArray) (hK : bits .and .i64 k 7 = 1) (hN : bits .and .i64 n 1 = 0) (w : World) : Calls Tryd.prog 14 #[.agg #[.int .i64 k, .int .i64 n, .string s]] w fun e w' => e = .returned (.agg #[.int .i64 1, .int .i64 0, .string ⟨#[]⟩]) ∧ Below w.heap.size w w' := by
  obtain ⟨c0, c1, c2, hr, hb⟩ := two3 w (.int .i64 k) (.int .i64 n) (.string s) 53
  go_enter Tryd.func14, Tryd.ntmps14
  go_upto_region 1 with (fail)
  generalize (w.alloc (.cells #[.int .i64 k, .int .i64 n, .string s] 53)).alloc (.cells #[.int .i64 0, .int .i64 0, .string ⟨#[]⟩] 53) = W at c0 c1 c2 hr hb ⊢
  have r0 := cell_of_row _ _ 0 _ _ _ hr
  have r1 := cell_of_row _ _ 1 _ _ _ hr
  have r2 := cell_of_row _ _ 2 _ _ _ hr
  have f : ∀ i, W.frozen? ⟨w.heap.size + 1, i, none⟩ = false := fun i => by simp [World.frozen?, hr]
  have f0 := f 0
  have f1 := f 1
  have f2 := f 2
  simp only [List.getElem?_toArray, List.getElem?_cons_zero, List.getElem?_cons_succ] at r0 r1 r2
  clear f
  replace hr := Lib.hid hr; replace hb := Lib.hid hb
  go_wp2
  obtain ⟨q1, q2⟩ := nearFin (a := .int .i64 1) (b := .int .i64 0) (c := .string ⟨#[]⟩) hr.out hb.out
  exact bodyPost_ret (v := .agg #[.int .i64 1, .int .i64 0, .string ⟨#[]⟩]) (results_cell_row rfl _ _ (w.heap.size + 1) 53 #[.int .i64 1, .int .i64 0, .string ⟨#[]⟩] (0, 0) _ rfl q1 Tryd.underlying53 rfl value3) rfl ⟨rfl, q2⟩
set_option maxHeartbeats 2000000 in
theorem near_11 (k n : Int) (s : ByteArray) (hK : bits .and .i64 k 7 = 1) (hN : bits .and .i64 n 1 = 1) (w : World) : Calls Tryd.prog 14 #[.agg #[.int .i64 k, .int .i64 n, .string s]] w fun e w' => e = .returned (.agg #[.int .i64 1, .int .i64 1, .string ⟨#[]⟩]) ∧ Below w.heap.size w w' := by
  obtain ⟨c0, c1, c2, hr, hb⟩ := two3 w (.int .i64 k) (.int .i64 n) (.string s) 53
  go_enter Tryd.func14, Tryd.ntmps14
  go_upto_region 1 with (fail)
  generalize (w.alloc (.cells #[.int .i64 k, .int .i64 n, .string s] 53)).alloc (.cells #[.int .i64 0, .int .i64 0, .string ⟨#[]⟩] 53) = W at c0 c1 c2 hr hb ⊢
  have r0 := cell_of_row _ _ 0 _ _ _ hr
  have r1 := cell_of_row _ _ 1 _ _ _ hr
  have r2 := cell_of_row _ _ 2 _ _ _ hr
  have f : ∀ i, W.frozen? ⟨w.heap.size + 1, i, none⟩ = false := fun i => by simp [World.frozen?, hr]
  have f0 := f 0
  have f1 := f 1
  have f2 := f 2
  simp only [List.getElem?_toArray, List.getElem?_cons_zero, List.getElem?_cons_succ] at r0 r1 r2
  clear f
  replace hr := Lib.hid hr; replace hb := Lib.hid hb
  go_wp2
  obtain ⟨q1, q2⟩ := nearFin (a := .int .i64 1) (b := .int .i64 1) (c := .string ⟨#[]⟩) hr.out hb.out
  exact bodyPost_ret (v := .agg #[.int .i64 1, .int .i64 1, .string ⟨#[]⟩]) (results_cell_row rfl _ _ (w.heap.size + 1) 53 #[.int .i64 1, .int .i64 1, .string ⟨#[]⟩] (0, 0) _ rfl q1 Tryd.underlying53 rfl value3) rfl ⟨rfl, q2⟩
set_option maxHeartbeats 2000000 in
theorem near_2 (k n : Int) (s : ByteArray) (hK : bits .and .i64 k 7 = 2) (w : World) : Calls Tryd.prog 14 #[.agg #[.int .i64 k, .int .i64 n, .string s]] w fun e w' => e = .returned (.agg #[.int .i64 2, .int .i64 n, .string ⟨#[]⟩]) ∧ Below w.heap.size w w' := by
  obtain ⟨c0, c1, c2, hr, hb⟩ := two3 w (.int .i64 k) (.int .i64 n) (.string s) 53
  go_enter Tryd.func14, Tryd.ntmps14
  go_upto_region 1 with (fail)
  generalize (w.alloc (.cells #[.int .i64 k, .int .i64 n, .string s] 53)).alloc (.cells #[.int .i64 0, .int .i64 0, .string ⟨#[]⟩] 53) = W at c0 c1 c2 hr hb ⊢
  have r0 := cell_of_row _ _ 0 _ _ _ hr
  have r1 := cell_of_row _ _ 1 _ _ _ hr
  have r2 := cell_of_row _ _ 2 _ _ _ hr
  have f : ∀ i, W.frozen? ⟨w.heap.size + 1, i, none⟩ = false := fun i => by simp [World.frozen?, hr]
  have f0 := f 0
  have f1 := f 1
  have f2 := f 2
  simp only [List.getElem?_toArray, List.getElem?_cons_zero, List.getElem?_cons_succ] at r0 r1 r2
  clear f
  replace hr := Lib.hid hr; replace hb := Lib.hid hb
  go_wp2
  obtain ⟨q1, q2⟩ := nearFin (a := .int .i64 2) (b := .int .i64 n) (c := .string ⟨#[]⟩) hr.out hb.out
  exact bodyPost_ret (v := .agg #[.int .i64 2, .int .i64 n, .string ⟨#[]⟩]) (results_cell_row rfl _ _ (w.heap.size + 1) 53 #[.int .i64 2, .int .i64 n, .string ⟨#[]⟩] (0, 0) _ rfl q1 Tryd.underlying53 rfl value3) rfl ⟨rfl, q2⟩
set_option maxHeartbeats 2000000 in
theorem near_3 (k n : Int) (s : ByteArray) (hK : bits .and .i64 k 7 = 3) (w : World) : Calls Tryd.prog 14 #[.agg #[.int .i64 k, .int .i64 n, .string s]] w fun e w' => e = .returned (.agg #[.int .i64 2, .int .i64 n, .string ⟨#[]⟩]) ∧ Below w.heap.size w w' := by
  obtain ⟨c0, c1, c2, hr, hb⟩ := two3 w (.int .i64 k) (.int .i64 n) (.string s) 53
  go_enter Tryd.func14, Tryd.ntmps14
  go_upto_region 1 with (fail)
  generalize (w.alloc (.cells #[.int .i64 k, .int .i64 n, .string s] 53)).alloc (.cells #[.int .i64 0, .int .i64 0, .string ⟨#[]⟩] 53) = W at c0 c1 c2 hr hb ⊢
  have r0 := cell_of_row _ _ 0 _ _ _ hr
  have r1 := cell_of_row _ _ 1 _ _ _ hr
  have r2 := cell_of_row _ _ 2 _ _ _ hr
  have f : ∀ i, W.frozen? ⟨w.heap.size + 1, i, none⟩ = false := fun i => by simp [World.frozen?, hr]
  have f0 := f 0
  have f1 := f 1
  have f2 := f 2
  simp only [List.getElem?_toArray, List.getElem?_cons_zero, List.getElem?_cons_succ] at r0 r1 r2
  clear f
  replace hr := Lib.hid hr; replace hb := Lib.hid hb
  go_wp2
  obtain ⟨q1, q2⟩ := nearFin (a := .int .i64 2) (b := .int .i64 n) (c := .string ⟨#[]⟩) hr.out hb.out
  exact bodyPost_ret (v := .agg #[.int .i64 2, .int .i64 n, .string ⟨#[]⟩]) (results_cell_row rfl _ _ (w.heap.size + 1) 53 #[.int .i64 2, .int .i64 n, .string ⟨#[]⟩] (0, 0) _ rfl q1 Tryd.underlying53 rfl value3) rfl ⟨rfl, q2⟩
set_option maxHeartbeats 2000000 in
theorem near_4s (k n : Int) (s : ByteArray) (hK : bits .and .i64 k 7 = 4) (h60 : s.size ≤ 60) (w : World) : Calls Tryd.prog 14 #[.agg #[.int .i64 k, .int .i64 n, .string s]] w fun e w' => e = .returned (.agg #[.int .i64 3, .int .i64 0, .string s]) ∧ Below w.heap.size w w' := by
  obtain ⟨c0, c1, c2, hr, hb⟩ := two3 w (.int .i64 k) (.int .i64 n) (.string s) 53
  have h60i : ¬ 60 < (s.size : Int) := by omega
  have h60j : (s.size : Int) ≤ 60 := by omega
  have hmin : min (s.size : Int) 60 = (s.size : Int) := by omega
  have hex : s.extract 0 s.size = s := by simp
  go_enter Tryd.func14, Tryd.ntmps14
  go_upto_region 1 with (fail)
  generalize (w.alloc (.cells #[.int .i64 k, .int .i64 n, .string s] 53)).alloc (.cells #[.int .i64 0, .int .i64 0, .string ⟨#[]⟩] 53) = W at c0 c1 c2 hr hb ⊢
  have r0 := cell_of_row _ _ 0 _ _ _ hr
  have r1 := cell_of_row _ _ 1 _ _ _ hr
  have r2 := cell_of_row _ _ 2 _ _ _ hr
  have f : ∀ i, W.frozen? ⟨w.heap.size + 1, i, none⟩ = false := fun i => by simp [World.frozen?, hr]
  have f0 := f 0
  have f1 := f 1
  have f2 := f 2
  simp only [List.getElem?_toArray, List.getElem?_cons_zero, List.getElem?_cons_succ] at r0 r1 r2
  clear f
  replace hr := Lib.hid hr; replace hb := Lib.hid hb
  go_wp2
  obtain ⟨q1, q2⟩ := nearFin (a := .int .i64 3) (b := .int .i64 0) (c := .string s) hr.out hb.out
  exact bodyPost_ret (v := .agg #[.int .i64 3, .int .i64 0, .string s]) (results_cell_row rfl _ _ (w.heap.size + 1) 53 #[.int .i64 3, .int .i64 0, .string s] (0, 0) _ rfl q1 Tryd.underlying53 rfl value3) rfl ⟨rfl, q2⟩
set_option maxHeartbeats 2000000 in
theorem near_4l (k n : Int) (s : ByteArray) (hK : bits .and .i64 k 7 = 4) (h60 : 60 < s.size) (w : World) : Calls Tryd.prog 14 #[.agg #[.int .i64 k, .int .i64 n, .string s]] w fun e w' => e = .returned (.agg #[.int .i64 3, .int .i64 0, .string (s.extract 0 60)]) ∧ Below w.heap.size w w' := by
  obtain ⟨c0, c1, c2, hr, hb⟩ := two3 w (.int .i64 k) (.int .i64 n) (.string s) 53
  have h60i : ¬ (s.size : Int) ≤ 60 := by omega
  have h60j : 60 < (s.size : Int) := by omega
  have h60k : 60 ≤ (s.size : Int) := by omega
  have hmin : min (s.size : Int) 60 = 60 := by omega
  go_enter Tryd.func14, Tryd.ntmps14
  go_upto_region 1 with (fail)
  generalize (w.alloc (.cells #[.int .i64 k, .int .i64 n, .string s] 53)).alloc (.cells #[.int .i64 0, .int .i64 0, .string ⟨#[]⟩] 53) = W at c0 c1 c2 hr hb ⊢
  have r0 := cell_of_row _ _ 0 _ _ _ hr
  have r1 := cell_of_row _ _ 1 _ _ _ hr
  have r2 := cell_of_row _ _ 2 _ _ _ hr
  have f : ∀ i, W.frozen? ⟨w.heap.size + 1, i, none⟩ = false := fun i => by simp [World.frozen?, hr]
  have f0 := f 0
  have f1 := f 1
  have f2 := f 2
  simp only [List.getElem?_toArray, List.getElem?_cons_zero, List.getElem?_cons_succ] at r0 r1 r2
  clear f
  replace hr := Lib.hid hr; replace hb := Lib.hid hb
  go_wp2
  obtain ⟨q1, q2⟩ := nearFin (a := .int .i64 3) (b := .int .i64 0) (c := .string (s.extract 0 60)) hr.out hb.out
  exact bodyPost_ret (v := .agg #[.int .i64 3, .int .i64 0, .string (s.extract 0 60)]) (results_cell_row rfl _ _ (w.heap.size + 1) 53 #[.int .i64 3, .int .i64 0, .string (s.extract 0 60)] (0, 0) _ rfl q1 Tryd.underlying53 rfl value3) rfl ⟨rfl, q2⟩
set_option maxHeartbeats 2000000 in
theorem near_5s (k n : Int) (s : ByteArray) (hK : bits .and .i64 k 7 = 5) (h60 : s.size ≤ 60) (w : World) : Calls Tryd.prog 14 #[.agg #[.int .i64 k, .int .i64 n, .string s]] w fun e w' => e = .returned (.agg #[.int .i64 3, .int .i64 0, .string s]) ∧ Below w.heap.size w w' := by
  obtain ⟨c0, c1, c2, hr, hb⟩ := two3 w (.int .i64 k) (.int .i64 n) (.string s) 53
  have h60i : ¬ 60 < (s.size : Int) := by omega
  have h60j : (s.size : Int) ≤ 60 := by omega
  have hmin : min (s.size : Int) 60 = (s.size : Int) := by omega
  have hex : s.extract 0 s.size = s := by simp
  go_enter Tryd.func14, Tryd.ntmps14
  go_upto_region 1 with (fail)
  generalize (w.alloc (.cells #[.int .i64 k, .int .i64 n, .string s] 53)).alloc (.cells #[.int .i64 0, .int .i64 0, .string ⟨#[]⟩] 53) = W at c0 c1 c2 hr hb ⊢
  have r0 := cell_of_row _ _ 0 _ _ _ hr
  have r1 := cell_of_row _ _ 1 _ _ _ hr
  have r2 := cell_of_row _ _ 2 _ _ _ hr
  have f : ∀ i, W.frozen? ⟨w.heap.size + 1, i, none⟩ = false := fun i => by simp [World.frozen?, hr]
  have f0 := f 0
  have f1 := f 1
  have f2 := f 2
  simp only [List.getElem?_toArray, List.getElem?_cons_zero, List.getElem?_cons_succ] at r0 r1 r2
  clear f
  replace hr := Lib.hid hr; replace hb := Lib.hid hb
  go_wp2
  obtain ⟨q1, q2⟩ := nearFin (a := .int .i64 3) (b := .int .i64 0) (c := .string s) hr.out hb.out
  exact bodyPost_ret (v := .agg #[.int .i64 3, .int .i64 0, .string s]) (results_cell_row rfl _ _ (w.heap.size + 1) 53 #[.int .i64 3, .int .i64 0, .string s] (0, 0) _ rfl q1 Tryd.underlying53 rfl value3) rfl ⟨rfl, q2⟩
set_option maxHeartbeats 2000000 in
theorem near_5l (k n : Int) (s : ByteArray) (hK : bits .and .i64 k 7 = 5) (h60 : 60 < s.size) (w : World) : Calls Tryd.prog 14 #[.agg #[.int .i64 k, .int .i64 n, .string s]] w fun e w' => e = .returned (.agg #[.int .i64 3, .int .i64 0, .string (s.extract 0 60)]) ∧ Below w.heap.size w w' := by
  obtain ⟨c0, c1, c2, hr, hb⟩ := two3 w (.int .i64 k) (.int .i64 n) (.string s) 53
  have h60i : ¬ (s.size : Int) ≤ 60 := by omega
  have h60j : 60 < (s.size : Int) := by omega
  have h60k : 60 ≤ (s.size : Int) := by omega
  have hmin : min (s.size : Int) 60 = 60 := by omega
  go_enter Tryd.func14, Tryd.ntmps14
  go_upto_region 1 with (fail)
  generalize (w.alloc (.cells #[.int .i64 k, .int .i64 n, .string s] 53)).alloc (.cells #[.int .i64 0, .int .i64 0, .string ⟨#[]⟩] 53) = W at c0 c1 c2 hr hb ⊢
  have r0 := cell_of_row _ _ 0 _ _ _ hr
  have r1 := cell_of_row _ _ 1 _ _ _ hr
  have r2 := cell_of_row _ _ 2 _ _ _ hr
  have f : ∀ i, W.frozen? ⟨w.heap.size + 1, i, none⟩ = false := fun i => by simp [World.frozen?, hr]
  have f0 := f 0
  have f1 := f 1
  have f2 := f 2
  simp only [List.getElem?_toArray, List.getElem?_cons_zero, List.getElem?_cons_succ] at r0 r1 r2
  clear f
  replace hr := Lib.hid hr; replace hb := Lib.hid hb
  go_wp2
  obtain ⟨q1, q2⟩ := nearFin (a := .int .i64 3) (b := .int .i64 0) (c := .string (s.extract 0 60)) hr.out hb.out
  exact bodyPost_ret (v := .agg #[.int .i64 3, .int .i64 0, .string (s.extract 0 60)]) (results_cell_row rfl _ _ (w.heap.size + 1) 53 #[.int .i64 3, .int .i64 0, .string (s.extract 0 60)] (0, 0) _ rfl q1 Tryd.underlying53 rfl value3) rfl ⟨rfl, q2⟩
set_option maxHeartbeats 2000000 in
theorem near_6s (k n : Int) (s : ByteArray) (hK : bits .and .i64 k 7 = 6) (h60 : s.size ≤ 60) (w : World) : Calls Tryd.prog 14 #[.agg #[.int .i64 k, .int .i64 n, .string s]] w fun e w' => e = .returned (.agg #[.int .i64 3, .int .i64 0, .string s]) ∧ Below w.heap.size w w' := by
  obtain ⟨c0, c1, c2, hr, hb⟩ := two3 w (.int .i64 k) (.int .i64 n) (.string s) 53
  have h60i : ¬ 60 < (s.size : Int) := by omega
  have h60j : (s.size : Int) ≤ 60 := by omega
  have hmin : min (s.size : Int) 60 = (s.size : Int) := by omega
  have hex : s.extract 0 s.size = s := by simp
  go_enter Tryd.func14, Tryd.ntmps14
  go_upto_region 1 with (fail)
  generalize (w.alloc (.cells #[.int .i64 k, .int .i64 n, .string s] 53)).alloc (.cells #[.int .i64 0, .int .i64 0, .string ⟨#[]⟩] 53) = W at c0 c1 c2 hr hb ⊢
  have r0 := cell_of_row _ _ 0 _ _ _ hr
  have r1 := cell_of_row _ _ 1 _ _ _ hr
  have r2 := cell_of_row _ _ 2 _ _ _ hr
  have f : ∀ i, W.frozen? ⟨w.heap.size + 1, i, none⟩ = false := fun i => by simp [World.frozen?, hr]
  have f0 := f 0
  have f1 := f 1
  have f2 := f 2
  simp only [List.getElem?_toArray, List.getElem?_cons_zero, List.getElem?_cons_succ] at r0 r1 r2
  clear f
  replace hr := Lib.hid hr; replace hb := Lib.hid hb
  go_wp2
  obtain ⟨q1, q2⟩ := nearFin (a := .int .i64 3) (b := .int .i64 0) (c := .string s) hr.out hb.out
  exact bodyPost_ret (v := .agg #[.int .i64 3, .int .i64 0, .string s]) (results_cell_row rfl _ _ (w.heap.size + 1) 53 #[.int .i64 3, .int .i64 0, .string s] (0, 0) _ rfl q1 Tryd.underlying53 rfl value3) rfl ⟨rfl, q2⟩
set_option maxHeartbeats 2000000 in
theorem near_6l (k n : Int) (s : ByteArray) (hK : bits .and .i64 k 7 = 6) (h60 : 60 < s.size) (w : World) : Calls Tryd.prog 14 #[.agg #[.int .i64 k, .int .i64 n, .string s]] w fun e w' => e = .returned (.agg #[.int .i64 3, .int .i64 0, .string (s.extract 0 60)]) ∧ Below w.heap.size w w' := by
  obtain ⟨c0, c1, c2, hr, hb⟩ := two3 w (.int .i64 k) (.int .i64 n) (.string s) 53
  have h60i : ¬ (s.size : Int) ≤ 60 := by omega
  have h60j : 60 < (s.size : Int) := by omega
  have h60k : 60 ≤ (s.size : Int) := by omega
  have hmin : min (s.size : Int) 60 = 60 := by omega
  go_enter Tryd.func14, Tryd.ntmps14
  go_upto_region 1 with (fail)
  generalize (w.alloc (.cells #[.int .i64 k, .int .i64 n, .string s] 53)).alloc (.cells #[.int .i64 0, .int .i64 0, .string ⟨#[]⟩] 53) = W at c0 c1 c2 hr hb ⊢
  have r0 := cell_of_row _ _ 0 _ _ _ hr
  have r1 := cell_of_row _ _ 1 _ _ _ hr
  have r2 := cell_of_row _ _ 2 _ _ _ hr
  have f : ∀ i, W.frozen? ⟨w.heap.size + 1, i, none⟩ = false := fun i => by simp [World.frozen?, hr]
  have f0 := f 0
  have f1 := f 1
  have f2 := f 2
  simp only [List.getElem?_toArray, List.getElem?_cons_zero, List.getElem?_cons_succ] at r0 r1 r2
  clear f
  replace hr := Lib.hid hr; replace hb := Lib.hid hb
  go_wp2
  obtain ⟨q1, q2⟩ := nearFin (a := .int .i64 3) (b := .int .i64 0) (c := .string (s.extract 0 60)) hr.out hb.out
  exact bodyPost_ret (v := .agg #[.int .i64 3, .int .i64 0, .string (s.extract 0 60)]) (results_cell_row rfl _ _ (w.heap.size + 1) 53 #[.int .i64 3, .int .i64 0, .string (s.extract 0 60)] (0, 0) _ rfl q1 Tryd.underlying53 rfl value3) rfl ⟨rfl, q2⟩
set_option maxHeartbeats 2000000 in
theorem near_7s (k n : Int) (s : ByteArray) (hK : bits .and .i64 k 7 = 7) (h60 : s.size ≤ 2100) (w : World) : Calls Tryd.prog 14 #[.agg #[.int .i64 k, .int .i64 n, .string s]] w fun e w' => e = .returned (.agg #[.int .i64 k, .int .i64 n, .string s]) ∧ Below w.heap.size w w' := by
  obtain ⟨c0, c1, c2, hr, hb⟩ := two3 w (.int .i64 k) (.int .i64 n) (.string s) 53
  have h60i : ¬ 2100 < (s.size : Int) := by omega
  have h60j : (s.size : Int) ≤ 2100 := by omega
  have hmin : min (s.size : Int) 2100 = (s.size : Int) := by omega
  have hex : s.extract 0 s.size = s := by simp
  go_enter Tryd.func14, Tryd.ntmps14
  go_upto_region 1 with (fail)
  generalize (w.alloc (.cells #[.int .i64 k, .int .i64 n, .string s] 53)).alloc (.cells #[.int .i64 0, .int .i64 0, .string ⟨#[]⟩] 53) = W at c0 c1 c2 hr hb ⊢
  have r0 := cell_of_row _ _ 0 _ _ _ hr
  have r1 := cell_of_row _ _ 1 _ _ _ hr
  have r2 := cell_of_row _ _ 2 _ _ _ hr
  have f : ∀ i, W.frozen? ⟨w.heap.size + 1, i, none⟩ = false := fun i => by simp [World.frozen?, hr]
  have f0 := f 0
  have f1 := f 1
  have f2 := f 2
  simp only [List.getElem?_toArray, List.getElem?_cons_zero, List.getElem?_cons_succ] at r0 r1 r2
  clear f
  replace hr := Lib.hid hr; replace hb := Lib.hid hb
  go_upto_region 13 with (fail)
  refine wp_region_still_tail 12 (by kernel_rfl) (by kernel_rfl) ?_
  simp only [List.take_succ_cons, List.take_zero, List.drop_succ_cons, List.drop_zero]
  change wpStill _ _ W.drew _ _ _
  repeat still_step
  try refine wpStill_nil ?_
  change wpList _ _ _ _ _ W.drew
  have hr2 : W.drew.heap[w.heap.size + 1]? = some (.cells #[.int .i64 0, .int .i64 0, .string ⟨#[]⟩] 53 (0, 0)) := hr.out
  replace hr := Lib.hid hr2
  clear hr2
  replace hb := Lib.hid hb.out.drew
  go_wp2
  obtain ⟨q1, q2⟩ := nearFin (a := .int .i64 k) (b := .int .i64 n) (c := .string s) hr.out hb.out
  exact bodyPost_ret (v := .agg #[.int .i64 k, .int .i64 n, .string s]) (results_cell_row rfl _ _ (w.heap.size + 1) 53 #[.int .i64 k, .int .i64 n, .string s] (0, 0) _ rfl q1 Tryd.underlying53 rfl value3) rfl ⟨rfl, q2⟩
set_option maxHeartbeats 2000000 in
theorem near_7l (k n : Int) (s : ByteArray) (hK : bits .and .i64 k 7 = 7) (h60 : 2100 < s.size) (w : World) : Calls Tryd.prog 14 #[.agg #[.int .i64 k, .int .i64 n, .string s]] w fun e w' => e = .returned (.agg #[.int .i64 k, .int .i64 n, .string (s.extract 0 2100)]) ∧ Below w.heap.size w w' := by
  obtain ⟨c0, c1, c2, hr, hb⟩ := two3 w (.int .i64 k) (.int .i64 n) (.string s) 53
  have h60i : ¬ (s.size : Int) ≤ 2100 := by omega
  have h60j : 2100 < (s.size : Int) := by omega
  have h60k : 2100 ≤ (s.size : Int) := by omega
  have hmin : min (s.size : Int) 2100 = 2100 := by omega
  go_enter Tryd.func14, Tryd.ntmps14
  go_upto_region 1 with (fail)
  generalize (w.alloc (.cells #[.int .i64 k, .int .i64 n, .string s] 53)).alloc (.cells #[.int .i64 0, .int .i64 0, .string ⟨#[]⟩] 53) = W at c0 c1 c2 hr hb ⊢
  have r0 := cell_of_row _ _ 0 _ _ _ hr
  have r1 := cell_of_row _ _ 1 _ _ _ hr
  have r2 := cell_of_row _ _ 2 _ _ _ hr
  have f : ∀ i, W.frozen? ⟨w.heap.size + 1, i, none⟩ = false := fun i => by simp [World.frozen?, hr]
  have f0 := f 0
  have f1 := f 1
  have f2 := f 2
  simp only [List.getElem?_toArray, List.getElem?_cons_zero, List.getElem?_cons_succ] at r0 r1 r2
  clear f
  replace hr := Lib.hid hr; replace hb := Lib.hid hb
  go_upto_region 13 with (fail)
  refine wp_region_still_tail 12 (by kernel_rfl) (by kernel_rfl) ?_
  simp only [List.take_succ_cons, List.take_zero, List.drop_succ_cons, List.drop_zero]
  change wpStill _ _ W.drew _ _ _
  repeat still_step
  try refine wpStill_nil ?_
  change wpList _ _ _ _ _ W.drew
  have hr2 : W.drew.heap[w.heap.size + 1]? = some (.cells #[.int .i64 0, .int .i64 0, .string ⟨#[]⟩] 53 (0, 0)) := hr.out
  replace hr := Lib.hid hr2
  clear hr2
  replace hb := Lib.hid hb.out.drew
  go_wp2
  obtain ⟨q1, q2⟩ := nearFin (a := .int .i64 k) (b := .int .i64 n) (c := .string (s.extract 0 2100)) hr.out hb.out
  exact bodyPost_ret (v := .agg #[.int .i64 k, .int .i64 n, .string (s.extract 0 2100)]) (results_cell_row rfl _ _ (w.heap.size + 1) 53 #[.int .i64 k, .int .i64 n, .string (s.extract 0 2100)] (0, 0) _ rfl q1 Tryd.underlying53 rfl value3) rfl ⟨rfl, q2⟩
end Go.Proofs.YtgbkpkioijbgoaaDoor.value
namespace Go.Proofs.YtgbkpkioijbgoaaDoor.show
open Go.RowKit
attribute [local go_sem ↓] Go.wp_at_zero Go.wp_at_succ
set_option linter.unusedVariables false
set_option linter.unusedSimpArgs false
set_option maxRecDepth 100000

/-- a near value: its text is short, a truth is 0 or 1 -/
structure NV (k n : Int) (s : ByteArray) : Prop where
  hn : -9223372036854775808 ≤ n ∧ n ≤ 9223372036854775807
  hs : k = 3 → s.size ≤ 60
  h01 : k = 1 → n = 0 ∨ n = 1
theorem near_val (k n : Int) (s : ByteArray) (hn : -9223372036854775808 ≤ n ∧ n ≤ 9223372036854775807) : ∃ k' n' s', NV k' n' s' ∧ ∀ w, Calls Tryd.prog 14 #[.agg #[.int .i64 k, .int .i64 n, .string s]] w fun e w' => e = .returned (.agg #[.int .i64 k', .int .i64 n', .string s']) ∧ Below w.heap.size w w' := by
  have h8 : k % 8 = 0 ∨ k % 8 = 1 ∨ k % 8 = 2 ∨ k % 8 = 3 ∨ k % 8 = 4 ∨ k % 8 = 5 ∨ k % 8 = 6 ∨ k % 8 = 7 := by omega
  have h2 : n % 2 = 0 ∨ n % 2 = 1 := by omega
  have n1 := and_mask n 1 1 (by decide) (by decide)
  have hk := and_7 k
  have e60 : ∀ (x : ByteArray), 60 < x.size → (x.extract 0 60).size ≤ 60 := fun x h => by simp; omega
  rcases h8 with h | h | h | h | h | h | h | h
  · exact ⟨0, 0, ⟨#[]⟩, ⟨by decide, by decide, by decide⟩, fun w => value.near_0 k n s (hk.trans h) w⟩
  · rcases h2 with h3 | h3
    · exact ⟨1, 0, ⟨#[]⟩, ⟨by decide, by decide, by decide⟩, fun w => value.near_10 k n s (hk.trans h) (n1.trans h3) w⟩
    · exact ⟨1, 1, ⟨#[]⟩, ⟨by decide, by decide, by decide⟩, fun w => value.near_11 k n s (hk.trans h) (n1.trans h3) w⟩
  · exact ⟨2, n, ⟨#[]⟩, ⟨hn, by decide, fun e => absurd e (by decide)⟩, fun w => value.near_2 k n s (hk.trans h) w⟩
  · exact ⟨2, n, ⟨#[]⟩, ⟨hn, by decide, fun e => absurd e (by decide)⟩, fun w => value.near_3 k n s (hk.trans h) w⟩
  · by_cases h6 : s.size ≤ 60
    · exact ⟨3, 0, s, ⟨by decide, fun _ => h6, by decide⟩, fun w => value.near_4s k n s (hk.trans h) h6 w⟩
    · exact ⟨3, 0, s.extract 0 60, ⟨by decide, fun _ => e60 s (by omega), by decide⟩, fun w => value.near_4l k n s (hk.trans h) (by omega) w⟩
  · by_cases h6 : s.size ≤ 60
    · exact ⟨3, 0, s, ⟨by decide, fun _ => h6, by decide⟩, fun w => value.near_5s k n s (hk.trans h) h6 w⟩
    · exact ⟨3, 0, s.extract 0 60, ⟨by decide, fun _ => e60 s (by omega), by decide⟩, fun w => value.near_5l k n s (hk.trans h) (by omega) w⟩
  · by_cases h6 : s.size ≤ 60
    · exact ⟨3, 0, s, ⟨by decide, fun _ => h6, by decide⟩, fun w => value.near_6s k n s (hk.trans h) h6 w⟩
    · exact ⟨3, 0, s.extract 0 60, ⟨by decide, fun _ => e60 s (by omega), by decide⟩, fun w => value.near_6l k n s (hk.trans h) (by omega) w⟩
  · by_cases h6 : s.size ≤ 2100
    · exact ⟨k, n, s, ⟨hn, fun e => by omega, fun e => by omega⟩, fun w => value.near_7s k n s (hk.trans h) h6 w⟩
    · exact ⟨k, n, s.extract 0 2100, ⟨hn, fun e => by omega, fun e => by omega⟩, fun w => value.near_7l k n s (hk.trans h) (by omega) w⟩
set_option maxHeartbeats 4000000 in
theorem lval_any (kd n : Int) (s : ByteArray) (h : NV kd n s) (w : World) (hT : Tab w) :
    Calls Tryd.prog 15 #[.agg #[.int .i64 kd, .int .i64 n, .string s]] w fun e w' => e = .returned (.string (valT kd n s)) ∧ Below w.heap.size w w' := by
  have hp0 := (Hp.none_ w []).alloc #[.int .i64 kd, .int .i64 n, .string s] 53
  have k1 : ∀ W, Below w.heap.size w W → Calls Tryd.prog 39 #[.agg #[.int .i64 kd, .int .i64 n, .string s]] W fun e w' => e = .returned (.string (valT kd n s)) ∧ Below W.heap.size W w' :=
    fun W hb => rval_any kd n s h.hn (fun e => by have := h.hs e; omega) h.h01 W (hT.keep hb)
  have k2 : kd = 1 → n ≠ 0 → valT kd n s = trueT := fun e e2 => by simp [valT, e, e2]
  obtain ⟨R, hR⟩ : ∃ R, R = valT kd n s := ⟨_, rfl⟩
  rw [← hR] at k1 k2 ⊢
  replace hp0 := Lib.hid hp0; replace k1 := Lib.hid k1; replace k2 := Lib.hid k2
  clear h hT hR
  go_enter Tryd.func15, Tryd.ntmps15
  go_upto_region 1 with fail
  generalize w.alloc _ = W at hp0 ⊢
  generalize hq2 : w.heap.size = q at hp0 ⊢
  clear hq2
  have c0 := hp0.out.cell (i := 0) rfl 0; have c1 := hp0.out.cell (i := 0) rfl 1; have c2 := hp0.out.cell (i := 0) rfl 2
  simp at c0 c1 c2
  have hp := hp0
  clear hp0
  by_cases h1 : kd = 1
  · by_cases h2 : n = 0
    · subst h1 h2
      go_wp2_with (go_at_call 39; (with_reducible refine (k1.out _ hp.out.bel).mono ?_); rintro e w1 ⟨rfl, b1⟩; replace hp := Lib.hid (hp.out.below b1))
      go_ret
      exact ⟨rfl, hp.out.bel⟩
    · have h3 := k2.out h1 h2
      subst h1
      go_wp2
      go_ret
      exact ⟨by first | rfl | (rw [h3]; rfl), hp.out.bel⟩
  · go_wp2_with (go_at_call 39; (with_reducible refine (k1.out _ hp.out.bel).mono ?_); rintro e w1 ⟨rfl, b1⟩; replace hp := Lib.hid (hp.out.below b1))
    go_ret
    exact ⟨rfl, hp.out.bel⟩
end Go.Proofs.YtgbkpkioijbgoaaDoor.show
