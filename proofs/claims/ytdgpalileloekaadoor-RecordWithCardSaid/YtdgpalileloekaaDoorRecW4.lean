/- slices.Insert of one property into a row that is held: four roads: at the end; in the midst, with room and without. No condition but the lengths. -/
import Derived.Test.YtdgpalileloekaaDoorRecW3
import Derived.Shelf.Spec.SlicesInsertGrow
import Derived.Deep.RegionLaw
namespace Go.Proofs.YtdgpalileloekaaDoor.recw
open Go.RowKit
attribute [local go_sem ↓] Go.wp_at_zero Go.wp_at_succ
set_option linter.unusedVariables false
set_option maxRecDepth 100000

theorem eInfo : (Tryd.prog.info? 42).map (fun i => (i.zero, i.size, i.bytes)) = some (some z0, 4, 40) := pInfo
theorem eSize : (Tryd.prog.info? 42).map (·.size) = some 4 := by kernel_rfl
theorem prC_take (l : List Pr) (i : Nat) : (prC l).take (i * 4) = prC (l.take i) := by
  by_cases h : i ≤ l.length
  · have e : prC l = prC (l.take i) ++ prC (l.drop i) := by rw [← prC_append, List.take_append_drop]
    rw [e, List.take_left' (by rw [prC_len, List.length_take, Nat.min_eq_left h])]
  · rw [List.take_of_length_le (by rw [prC_len]; omega), List.take_of_length_le (by omega)]
theorem prC_drop (l : List Pr) (i : Nat) : (prC l).drop (i * 4) = prC (l.drop i) := by
  by_cases h : i ≤ l.length
  · have e : prC l = prC (l.take i) ++ prC (l.drop i) := by rw [← prC_append, List.take_append_drop]
    rw [e, List.drop_left' (by rw [prC_len, List.length_take, Nat.min_eq_left h])]
  · rw [List.drop_eq_nil_of_le (by rw [prC_len]; omega), List.drop_eq_nil_of_le (by omega)]; rfl
theorem prC_ins (l : List Pr) (i : Nat) (c : Pr) : prC (l.take i ++ c :: l.drop i) = (prC l).take (i * 4) ++ (c.c ++ (prC l).drop (i * 4)) := by
  rw [prC_take, prC_drop, prC_append, prC, prC, List.flatMap_cons]; rfl
/-- there is room, in the midst -/
theorem ins_room (g n cap i q : Nat) (L : List Pr) (c : Pr) (w : World) (h : w.ownsRow 0 42 4 (.slice (some ⟨g, 0, none⟩) n cap) n (prC L)) (hL : L.length = n) (hi : i < n) (hroom : n + 1 ≤ cap) (hn : n ≤ 100000)
    (hq : w.heap[q]? = some (.cells c.c.toArray 42 (0, 0))) (hqg : q ≠ g) :
    Calls Tryd.prog 57 #[.slice (some ⟨g, 0, none⟩) n cap, .int .i64 (i : Int), .slice (some ⟨q, 0, none⟩) 1 1] w fun e w' => e = .returned (.slice (some ⟨g, 0, none⟩) (n + 1) cap) ∧ w'.ownsRow 0 42 4 (.slice (some ⟨g, 0, none⟩) (n + 1) cap) (n + 1) (prC (L.take i ++ c :: L.drop i)) ∧ Keeps [g] w w' := by
  obtain ⟨cur, hg, hcm, hcs, hct⟩ : ∃ cur, w.heap[g]? = some (.cells cur 42 (0, 0)) ∧ cap ≤ maxLen ∧ cur.size = cap * 4 ∧ cur.toList.take (n * 4) = prC L := by
    rcases h.2 with ⟨h0, _⟩ | ⟨g', cap', cur, hv, hb, hg, h1, h2, h3, h4⟩
    · cases h0
    · injection hv with hv1 hv2 hv3
      injection hv1 with hv1
      injection hv1 with hv1
      subst hv1 hv3
      exact ⟨cur, hg, h2, h3, h4⟩
  unfold maxLen at hcm
  have hXl : (prC L).length = n * 4 := by rw [prC_len, hL]
  obtain ⟨C, hC⟩ : ∃ C, C = (prC L).drop (i * 4) := ⟨_, rfl⟩
  have hCl : C.length = (n - i) * 4 := by rw [hC, List.length_drop, hXl, Nat.sub_mul]
  have hC1 : ∀ v ∈ C, v.oneCell' = true := fun v hv => prC_one L v (by rw [hC] at hv; exact List.mem_of_mem_drop hv)
  have hB1 : ∀ v ∈ c.c, v.oneCell' = true := fun v hv => by simp only [Pr.c, List.mem_cons, List.not_mem_nil, or_false] at hv; rcases hv with rfl | rfl | rfl | rfl <;> rfl
  have hsc : w.shape? q = some (42, 4) := by simp [World.shape?, hq, Pr.c]
  have hsg : w.shape? g = some (42, cap * 4) := by simp [World.shape?, hg, hcs]
  have hov : ∀ lb cb, (callFunc 99 #[.slice (some ⟨q, 0, none⟩) 1 1, .slice (some ⟨g, (i + 1) * 4, none⟩) lb cb]).run Tryd.prog w = .ok (.value (.bool false)) w := fun lb cb => by
    rw [run_callFunc_extern Tryd.func99 (by kernel_rfl) (by kernel_rfl) (by kernel_rfl) (e := Extern.SlicesOverlaps.overlaps #[24, 24] #[4]) (by kernel_rfl),
      Lib.run_overlaps_apart w 24 4 42 Tryd.underlying24 4 (fun w => by kernel_rfl) ⟨q, 0, none⟩ ⟨g, (i + 1) * 4, none⟩ 1 1 lb cb hqg 42 42 4 (cap * 4) hsc hsg (by omega) (by simp [World.frozen?, hq]) (by simp [World.frozen?, hq])]
    rfl
  obtain ⟨Y, hY⟩ : ∃ Y, Y = splice cur.toList ((i + 1) * 4) C := ⟨_, rfl⟩
  have hcl : cur.toList.length = cap * 4 := by simpa using hcs
  have hYl : Y.length = cap * 4 := by rw [hY, length_splice _ _ _ (by rw [hcl, hCl]; omega), hcl]
  have hcell : ∀ j v, C[j]? = some v → w.drew.cell? ((⟨g, i * 4, none⟩ : Addr).add j) = some v := fun j v hj => by
    rw [addr_add]
    have h2 : (prC L)[i * 4 + j]? = some v := by rw [hC, List.getElem?_drop] at hj; exact hj
    have h3 := h.cellAt (i * 4 + j) (by have := (List.getElem?_eq_some_iff.1 h2).1; omega)
    exact h3.trans h2
  have hcp1 : ∀ ty dc sc, (Builtin.copy_ #[24, 24] ty #[.slice (some ⟨g, (i + 1) * 4, none⟩) (n - i) dc, .slice (some ⟨g, i * 4, none⟩) (n + 1 - i) sc]).run Tryd.prog w.drew = .ok (goInt (n - i : Nat)) (w.drew.setRow g Y.toArray) := fun ty dc sc => by
    rw [hY]
    exact run_copy_rowN w.drew _ _ ty 42 g ((i + 1) * 4) _ dc ⟨g, i * 4, none⟩ _ sc cur 42 C 4 (n - i) Tryd.underlying24 eSize hg (by simp only [Nat.min_def]; split <;> omega) hCl hcell (by rw [hCl, hcs]; omega) hC1
  obtain ⟨W1, hW1⟩ : ∃ W1, W1 = w.drew.setRow g Y.toArray := ⟨_, rfl⟩
  have hg1 : W1.heap[g]? = some (.cells Y.toArray 42 (0, 0)) := by rw [hW1]; exact setRow_heap w.drew g cur Y.toArray 42 _ hg
  have hq1 : W1.heap[q]? = some (.cells c.c.toArray 42 (0, 0)) := by rw [hW1, setRow_other w.drew g q _ hqg]; exact hq
  have hcp2 : ∀ ty dc, (Builtin.copy_ #[24, 24] ty #[.slice (some ⟨g, i * 4, none⟩) (n + 1 - i) dc, .slice (some ⟨q, 0, none⟩) 1 1]).run Tryd.prog W1 = .ok (goInt (1 : Nat)) (W1.setRow g (splice Y (i * 4) c.c).toArray) := fun ty dc => by
    have := run_copy_rowN (P := Tryd.prog) W1 24 24 ty 42 g (i * 4) (n + 1 - i) dc ⟨q, 0, none⟩ 1 1 Y.toArray 42 c.c 4 1 Tryd.underlying24 eSize hg1 (by simp only [Nat.min_def]; split <;> omega) rfl (fun j v hj => by rw [addr_add, Nat.zero_add]; exact block_cells hq1 j v (by simpa using hj)) (by simp [hYl, Pr.c]; omega) hB1
    simpa using this
  rw [← hW1] at hcp1
  have hfin : (W1.setRow g (splice Y (i * 4) c.c).toArray).ownsRow 0 42 4 (.slice (some ⟨g, 0, none⟩) (n + 1) cap) (n + 1) (prC (L.take i ++ c :: L.drop i)) := by
    refine ⟨by rw [prC_len]; simp; omega, Or.inr ⟨g, cap, _, rfl, Nat.zero_le _, setRow_heap W1 g Y.toArray _ 42 _ hg1, hroom, by unfold maxLen; omega, ?_, ?_⟩⟩
    · simp [length_splice Y (i * 4) c.c (by rw [hYl]; simp [Pr.c]; omega), hYl]
    · have e : (n + 1) * 4 = i * 4 + 4 + (n - i) * 4 := by omega
      have e2 : (i + 1) * 4 = i * 4 + 4 := by omega
      rw [e, prC_ins, ← hC]
      show List.take _ (splice Y (i * 4) c.c) = _
      rw [hY, e2]
      refine take_splice2 _ _ _ _ _ _ _ ?_ (by rw [List.length_take, hXl]; omega) rfl hCl (by rw [hcl]; omega)
      rw [← hct, List.take_take, Nat.min_eq_left (by omega)]
  have hk : Keeps [g] w (W1.setRow g (splice Y (i * 4) c.c).toArray) := by
    refine keeps_setRow ?_ (Or.inl (by simp)) _
    rw [hW1]
    exact keeps_setRow (Keeps.ofBelow (Below.refl w.heap.size w).drew [g]) (Or.inl (by simp)) _
  have hz2 : ((i : Int) == (n : Int)) = false := by simp; omega
  have hw1 : IntKind.i64.wrap ((i : Int) + 1) = (i : Int) + 1 := IntWalk.i64_in _ (by omega)
  have hw2 : IntKind.i64.wrap ((n : Int) + 1) = (n : Int) + 1 := IntWalk.i64_in _ (by omega)
  have hb1 : (0 : Int) ≤ (i : Int) + 1 := by omega
  have hin : i ≤ n := by omega
  have htn : ((i : Int) + 1).toNat = i + 1 := by omega
  have htn2 : ((n : Int) + 1).toNat = n + 1 := by omega
  have hb2 : ¬ (cap = i + 1) := by omega
  have hb3 : (i : Int) ≤ (n : Int) + 1 := by omega
  have hb4 : ¬ (cap = i) := by omega
  have hb5 : (n : Int) + 1 ≤ (cap : Int) := by omega
  rw [hW1] at hcp1 hcp2 hfin hk
  replace hfin := Lib.hid hfin; replace hk := Lib.hid hk
  clear hg1 hq1 hcell hYl hcl hsg hsc hB1 hC1 hCl hXl hct hcs hg hq h hC hY hL hW1
  go_enter Tryd.func57, Tryd.ntmps57
  go_wp2_with (simp only [hov])
  go_region_law (refine step_copy_runI rfl _ _ 24 24 rfl _ _ (by simp [Act.eval, Act.put]) (by simp [Act.eval, Act.put]) (hcp1 _ _ _) ?_)
  go_wp2
  go_ret
  exact ⟨rfl, hfin.out, hk.out⟩
set_option maxHeartbeats 4000000 in
/-- there is no room, in the midst -/
theorem ins_grow (g n cap i q : Nat) (L : List Pr) (c : Pr) (w : World) (h : w.ownsRow 0 42 4 (.slice (some ⟨g, 0, none⟩) n cap) n (prC L)) (hL : L.length = n) (hi : i < n) (hnc : n ≤ cap) (hroom : cap < n + 1) (hn : n ≤ 100000)
    (hq : w.heap[q]? = some (.cells c.c.toArray 42 (0, 0))) :
    Calls Tryd.prog 57 #[.slice (some ⟨g, 0, none⟩) n cap, .int .i64 (i : Int), .slice (some ⟨q, 0, none⟩) 1 1] w fun e w' => ∃ G, e = .returned (.slice (some ⟨w.heap.size, 0, none⟩) (n + 1) G) ∧ w'.ownsRow 0 42 4 (.slice (some ⟨w.heap.size, 0, none⟩) (n + 1) G) (n + 1) (prC (L.take i ++ c :: L.drop i)) ∧ Below w.heap.size w w' := by
  have hXl : (prC L).length = n * 4 := by rw [prC_len, hL]
  obtain ⟨A, hA⟩ : ∃ A, A = (prC L).take (i * 4) := ⟨_, rfl⟩
  obtain ⟨C, hC⟩ : ∃ C, C = (prC L).drop (i * 4) := ⟨_, rfl⟩
  have hAl : A.length = i * 4 := by rw [hA, List.length_take, hXl]; omega
  have hCl : C.length = (n - i) * 4 := by rw [hC, List.length_drop, hXl, Nat.sub_mul]
  have hC1 : ∀ v ∈ C, v.oneCell' = true := fun v hv => prC_one L v (by rw [hC] at hv; exact List.mem_of_mem_drop hv)
  have hB1 : ∀ v ∈ c.c, v.oneCell' = true := fun v hv => by simp only [Pr.c, List.mem_cons, List.not_mem_nil, or_false] at hv; rcases hv with rfl | rfl | rfl | rfl <;> rfl
  have hcs : ∀ j v, (prC L)[j]? = some v → w.cell? ⟨g, j, none⟩ = some v := fun j v hj => (h.cellAt j (by have := (List.getElem?_eq_some_iff.1 hj).1; rw [hXl] at this; exact this)).trans hj
  have hgl := rowLt h
  have hql := block_lt hq
  obtain ⟨i0, hi0, hz0, hzs, hzb⟩ := info_parts eInfo
  have hik : i + (n + 1 - i) = n + 1 := by omega
  have hkk : (n : Int) + 1 - (i : Int) = ((n + 1 - i : Nat) : Int) := by omega
  have hold : (Builtin.firstCells i0.size i (.slice (some ⟨g, 0, none⟩) i cap)).run Tryd.prog w.drew = .ok A.toArray w.drew := by
    rw [hzs]
    exact run_firstCells_some w.drew 4 i ⟨g, 0, none⟩ i cap A hAl (fun j v hj => by
      rw [addr_add, Nat.zero_add]
      have hj2 : j < i * 4 := by have := (List.getElem?_eq_some_iff.1 hj).1; omega
      rw [hA, List.getElem?_take, if_pos hj2] at hj
      exact hcs j v hj)
  obtain ⟨G, hG⟩ : ∃ G, G = grownCap w (n + 1) cap 42 := ⟨_, rfl⟩
  obtain ⟨ROW, hROW⟩ : ∃ ROW : Array Value, ROW = A.toArray ++ Builtin.zeroCells z0.cells (n + 1 - i) ++ Builtin.zeroCells z0.cells (G - (n + 1)) := ⟨_, rfl⟩
  obtain ⟨W1, hW1⟩ : ∃ W1, W1 = w.drew.alloc (.cells ROW 42) := ⟨_, rfl⟩
  have hrz : ∀ ty, (Builtin.append_ #[24, 3] ty #[.slice (some ⟨g, 0, none⟩) i cap, .int .i64 ((n : Int) + 1 - (i : Int))]).run Tryd.prog w = .ok (.slice (some ⟨w.heap.size, 0, none⟩) (n + 1) G) W1 := fun ty => by
    have hnx : Builtin.nextslicecap (n + 1) cap * 40 ≤ 281474976710656 := growslice_fits hroom (by omega)
    have h := Lib.run_append_grow_zeros w 24 3 ty 42 i0 z0 .i64 .i64 Tryd.underlying24 Tryd.underlying3 hi0 hz0 (some ⟨g, 0, none⟩) i cap A hold (n + 1 - i) (by omega) (by omega) (by omega) (by omega) (by rw [hzb]; omega) (by rw [hzb, hik]; exact hnx)
    rw [hik, ← hG, ← hROW, ← hW1] at h
    rw [hkk]
    exact h
  have hGn : n + 1 ≤ G := by rw [hG]; exact grownCap_ge w _ _ _
  have hGm : G ≤ maxLen := by rw [hG]; exact grownCap_le_maxLen w (n + 1) cap 42 (by unfold maxLen; omega)
  have hRs : ROW.size = G * 4 := by
    rw [hROW]
    simp [Builtin.zeroCells, Value.cells, z0, hAl]
    omega
  have hRt : ROW.toList.take (i * 4) = A := by
    rw [hROW]
    simp only [Array.toList_append]
    rw [List.append_assoc, List.take_left' hAl]
  have hRl : ROW.toList.length = G * 4 := by simpa using hRs
  have hb0 : Below w.heap.size w W1 := by rw [hW1]; exact (Below.refl _ _).drew.alloc (Nat.le_refl _) _
  have hg1 : W1.heap[w.heap.size]? = some (.cells ROW 42 (0, 0)) := by rw [hW1]; exact heap_alloc_new w.drew _
  have hq1 : W1.heap[q]? = some (.cells c.c.toArray 42 (0, 0)) := (hb0.block _ hql).trans hq
  obtain ⟨Y, hY⟩ : ∃ Y, Y = splice ROW.toList (i * 4) c.c := ⟨_, rfl⟩
  have hYl : Y.length = G * 4 := by rw [hY, length_splice _ _ _ (by rw [hRl]; simp [Pr.c]; omega), hRl]
  obtain ⟨W2, hW2⟩ : ∃ W2, W2 = W1.setRow w.heap.size Y.toArray := ⟨_, rfl⟩
  have hcpA : ∀ ty dc, (Builtin.copy_ #[24, 24] ty #[.slice (some ⟨w.heap.size, i * 4, none⟩) (n + 1 - i) dc, .slice (some ⟨q, 0, none⟩) 1 1]).run Tryd.prog W1 = .ok (goInt (1 : Nat)) W2 := fun ty dc => by
    have := run_copy_rowN (P := Tryd.prog) W1 24 24 ty 42 w.heap.size (i * 4) (n + 1 - i) dc ⟨q, 0, none⟩ 1 1 ROW 42 c.c 4 1 Tryd.underlying24 eSize hg1 (by simp only [Nat.min_def]; split <;> omega) rfl (fun j v hj => by rw [addr_add, Nat.zero_add]; exact block_cells hq1 j v (by simpa using hj)) (by rw [hRs]; simp [Pr.c]; omega) hB1
    rw [hW2, hY]; exact this
  have hb2 : Below w.heap.size w W2 := by rw [hW2]; exact below_setRow hb0 (Nat.le_refl _) _
  have hg2 : W2.heap[w.heap.size]? = some (.cells Y.toArray 42 (0, 0)) := by rw [hW2]; exact setRow_heap W1 w.heap.size ROW _ 42 _ hg1
  obtain ⟨W3, hW3⟩ : ∃ W3, W3 = W2.drew.setRow w.heap.size (splice Y ((i + 1) * 4) C).toArray := ⟨_, rfl⟩
  have hcpB : ∀ ty dc sc, (Builtin.copy_ #[24, 24] ty #[.slice (some ⟨w.heap.size, (i + 1) * 4, none⟩) (n - i) dc, .slice (some ⟨g, i * 4, none⟩) (n - i) sc]).run Tryd.prog W2.drew = .ok (goInt (n - i : Nat)) W3 := fun ty dc sc => by
    have := run_copy_rowN (P := Tryd.prog) W2.drew 24 24 ty 42 w.heap.size ((i + 1) * 4) (n - i) dc ⟨g, i * 4, none⟩ (n - i) sc Y.toArray 42 C 4 (n - i) Tryd.underlying24 eSize hg2 (by simp) hCl (fun j v hj => by
      rw [addr_add]
      rw [hC, List.getElem?_drop] at hj
      exact (hb2.cell (p := ⟨g, i * 4 + j, none⟩) hgl).trans (hcs _ v hj)) (by simp [hYl, hCl]; omega) hC1
    rw [hW3]; simpa using this
  have hb3 : Below w.heap.size w W3 := by rw [hW3]; exact below_setRow hb2.drew (Nat.le_refl _) _
  have hfin : W3.ownsRow 0 42 4 (.slice (some ⟨w.heap.size, 0, none⟩) (n + 1) G) (n + 1) (prC (L.take i ++ c :: L.drop i)) := by
    refine ⟨by rw [prC_len]; simp; omega, Or.inr ⟨w.heap.size, G, _, rfl, Nat.zero_le _, by rw [hW3]; exact setRow_heap W2.drew w.heap.size Y.toArray _ 42 _ hg2, hGn, hGm, ?_, ?_⟩⟩
    · simp [length_splice Y ((i + 1) * 4) C (by rw [hYl, hCl]; omega), hYl]
    · have e : (n + 1) * 4 = i * 4 + 4 + (n - i) * 4 := by omega
      have e2 : (i + 1) * 4 = i * 4 + 4 := by omega
      rw [e, prC_ins, ← hC, ← hA]
      show List.take _ (splice Y ((i + 1) * 4) C) = _
      rw [hY, e2]
      exact take_splice3 _ _ _ _ _ _ _ hRt hAl rfl hCl (by rw [hRl]; omega)
  have hz2 : ((i : Int) == (n : Int)) = false := by simp; omega
  have hw1 : IntKind.i64.wrap ((i : Int) + 1) = (i : Int) + 1 := IntWalk.i64_in _ (by omega)
  have hw2 : IntKind.i64.wrap ((n : Int) + 1) = (n : Int) + 1 := IntWalk.i64_in _ (by omega)
  have hw3 : IntKind.i64.wrap ((n : Int) + 1 - (i : Int)) = (n : Int) + 1 - (i : Int) := IntWalk.i64_in _ (by omega)
  have hb1 : (0 : Int) ≤ (i : Int) + 1 := by omega
  have hin : i ≤ n := by omega
  have htn : ((i : Int) + 1).toNat = i + 1 := by omega
  have hb4 : (i : Int) ≤ (n : Int) + 1 := by omega
  have hb5 : (cap : Int) < (n : Int) + 1 := by omega
  have hb6 : ¬ (G = i) := by omega
  have hb7 : ¬ (G = i + 1) := by omega
  have hb8 : ¬ (cap = i) := by omega
  have hb9 : (i : Int) ≤ (cap : Int) := by omega
  generalize w.heap.size = sz at *
  replace hfin := Lib.hid hfin; replace hb3 := Lib.hid hb3; replace hGn := Lib.hid hGn; replace hGm := Lib.hid hGm
  clear hW3 hg2 hb2 hW2 hYl hY hq1 hg1 hb0 hRl hRt hRs hW1 hROW hG hold hkk hik hzb hzs hz0 hi0 hql hgl hcs hB1 hC1 hCl hAl hC hA hXl hq h hL
  go_enter Tryd.func57, Tryd.ntmps57
  go_wp2_with (first
    | (at_builtin; refine Lib.wpList_append_run _ rfl _ _ _ _ rfl _ _ rfl rfl _ _ (hrz _) ?_))
  go_region_law (refine step_copy_runI rfl _ _ 24 24 rfl _ _ (by simp [Act.eval, Act.put]) (by simp [Act.eval, Act.put]) (hcpB _ _ _) ?_)
  go_wp2
  go_ret
  exact ⟨G, rfl, hfin.out, hb3.out⟩
/-- at the end -/
theorem ins_end (v : Value) (q : Nat) (L : List Pr) (c : Pr) (w : World) (h : w.ownsRow 0 42 4 v L.length (prC L)) (hn : L.length ≤ 100000) (hq : w.heap[q]? = some (.cells c.c.toArray 42 (0, 0))) :
    Calls Tryd.prog 57 #[v, .int .i64 (L.length : Int), .slice (some ⟨q, 0, none⟩) 1 1] w fun e w' => ∃ v', e = .returned v' ∧ Hp w v.ownBlock.toList [.row 42 4 v' (L.length + 1) (prC (L ++ [c]))] w' := by
  have hp := Lib.hid (Hp.lendRow h)
  obtain ⟨ad, cp, rfl⟩ := rowShape h
  obtain ⟨X, hX⟩ : ∃ X, X = (Value.slice ad L.length cp).ownBlock.toList := ⟨_, rfl⟩
  rw [← hX] at hp ⊢
  have hcc := Lib.hid (block_cells hq)
  have e1 : prC (L ++ [c]) = prC L ++ c.c := by rw [prC_append]; simp [prC]
  rw [e1]
  obtain ⟨n, hln⟩ : ∃ n, n = L.length := ⟨_, rfl⟩
  rw [← hln] at hp hn ⊢
  obtain ⟨cs, hcs⟩ : ∃ cs, cs = prC L := ⟨_, rfl⟩
  rw [← hcs] at hp ⊢
  clear h hX hq hcs hln e1
  have hcp0 : (n : Int) ≤ (n : Int) := by omega
  go_enter Tryd.func57, Tryd.ntmps57
  go_wp2_with (at_builtin; go_loud (refine wpList_append_hp rfl _ _ rfl Tryd.underlying24 eInfo rfl (by decide) (by decide) hp.out 0 rfl rfl _ _ c.c rfl rfl hcc.out (by intro u hu; simp only [Pr.c, List.mem_cons, List.not_mem_nil, or_false] at hu; rcases hu with rfl | rfl | rfl | rfl <;> rfl) (by omega) ?_; intro v5 w5 hp5 hv5; replace hp5 := Lib.hid hp5; obtain ⟨b5, cp5, rfl⟩ := hv5))
  all_goals go_ret
  all_goals exact ⟨_, rfl, hp5.out⟩
/-- wherever -/
theorem insert_any (v : Value) (i q : Nat) (L : List Pr) (c : Pr) (w : World) (h : w.ownsRow 0 42 4 v L.length (prC L)) (hi : i ≤ L.length) (hn : L.length ≤ 100000) (hq : w.heap[q]? = some (.cells c.c.toArray 42 (0, 0))) (hqv : v.ownBlock ≠ some q) :
    Calls Tryd.prog 57 #[v, .int .i64 (i : Int), .slice (some ⟨q, 0, none⟩) 1 1] w fun e w' => ∃ v', e = .returned v' ∧ Hp w v.ownBlock.toList [.row 42 4 v' (L.length + 1) (prC (L.take i ++ c :: L.drop i))] w' := by
  by_cases he : i = L.length
  · subst he
    rw [List.take_of_length_le (Nat.le_refl _), List.drop_eq_nil_of_le (Nat.le_refl _)]
    exact ins_end v q L c w h hn hq
  · have hlt : i < L.length := by omega
    obtain ⟨g, cap, hv, hc1, hc2⟩ := h.form (by omega)
    subst hv
    have hql := block_lt hq
    by_cases hr : L.length + 1 ≤ cap
    · refine (ins_room g L.length cap i q L c w h rfl hlt hr hn hq (fun e => hqv (by rw [e]; rfl))).mono ?_
      rintro e w' ⟨rfl, h1, k1⟩
      refine ⟨_, rfl, [[g]], .cons ⟨h1, rfl⟩ .nil, by simp, ?_, k1⟩
      intro b hb
      simp at hb; subst hb
      exact ⟨rowLt h1, Or.inl (by simp [Value.ownBlock])⟩
    · refine (ins_grow g L.length cap i q L c w h rfl hlt (rowCap h) (by omega) hn hq).mono ?_
      rintro e w' ⟨G, rfl, h1, k1⟩
      refine ⟨_, rfl, [[w.heap.size]], .cons ⟨h1, rfl⟩ .nil, by simp, ?_, Keeps.ofBelow k1 _⟩
      intro b hb
      simp at hb; subst hb
      exact ⟨rowLt h1, Or.inr (Nat.le_refl _)⟩
end Go.Proofs.YtdgpalileloekaaDoor.recw
