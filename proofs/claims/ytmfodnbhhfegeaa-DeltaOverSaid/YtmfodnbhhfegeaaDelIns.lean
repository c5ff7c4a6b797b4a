/- slices.Insert of one change into a row that is held: four roads: at the end; in the midst, with room and without. No condition but the lengths. -/
import Derived.Test.YtmfodnbhhfegeaaDelta
import Derived.Test.YtmfodnbhhfegeaaHpTurn
import Derived.Shelf.Spec.SlicesInsertGrow
import Derived.Deep.RegionLaw
namespace Go.Proofs.Ytmfodnbhhfegeaa.delta
open Go.RowKit
attribute [local go_sem ↓] Go.wp_at_zero Go.wp_at_succ
set_option linter.unusedVariables false
set_option maxRecDepth 100000

def z0 : Value := .agg #[.string ⟨#[]⟩, .string ⟨#[]⟩, .bool false]
theorem eInfo : (Try.prog.info? 93).map (fun i => (i.zero, i.size, i.bytes)) = some (some z0, 3, 40) := by kernel_rfl
theorem eSize : (Try.prog.info? 93).map (·.size) = some 3 := by kernel_rfl
theorem chC_take (l : List Ch) (i : Nat) : (chC l).take (i * 3) = chC (l.take i) := by
  induction l generalizing i with
  | nil => simp [chC]
  | cons x t ih =>
    cases i with
    | zero => simp [chC]
    | succ i =>
      have e : (i + 1) * 3 = i * 3 + 1 + 1 + 1 := by omega
      rw [e, List.take_succ_cons, chC, chC, List.flatMap_cons, List.flatMap_cons]
      show List.take (i * 3 + 1 + 1 + 1) (.string x.k :: .string x.v :: .bool x.g :: t.flatMap Ch.c) = _
      rw [List.take_succ_cons, List.take_succ_cons, List.take_succ_cons]
      have := ih i
      unfold chC at this
      rw [this]; rfl
theorem chC_drop (l : List Ch) (i : Nat) : (chC l).drop (i * 3) = chC (l.drop i) := by
  induction l generalizing i with
  | nil => simp [chC]
  | cons x t ih =>
    cases i with
    | zero => simp [chC]
    | succ i =>
      have e : (i + 1) * 3 = i * 3 + 1 + 1 + 1 := by omega
      rw [e, List.drop_succ_cons, chC, chC, List.flatMap_cons]
      show List.drop (i * 3 + 1 + 1 + 1) (.string x.k :: .string x.v :: .bool x.g :: t.flatMap Ch.c) = _
      rw [List.drop_succ_cons, List.drop_succ_cons, List.drop_succ_cons]
      have := ih i
      unfold chC at this
      rw [this]
theorem chC_ins (l : List Ch) (i : Nat) (c : Ch) : chC (l.take i ++ c :: l.drop i) = (chC l).take (i * 3) ++ (c.c ++ (chC l).drop (i * 3)) := by
  rw [chC_take, chC_drop, chC_append, chC, chC, List.flatMap_cons]; rfl
/-- there is room, in the midst -/
theorem ins_room (g n cap i q : Nat) (L : List Ch) (c : Ch) (w : World) (h : w.ownsRow 0 93 3 (.slice (some ⟨g, 0, none⟩) n cap) n (chC L)) (hL : L.length = n) (hi : i < n) (hroom : n + 1 ≤ cap) (hn : n ≤ 100000)
    (hq : w.heap[q]? = some (.cells c.c.toArray 93 (0, 0))) (hqg : q ≠ g) :
    Calls Try.prog 98 #[.slice (some ⟨g, 0, none⟩) n cap, .int .i64 (i : Int), .slice (some ⟨q, 0, none⟩) 1 1] w fun e w' => e = .returned (.slice (some ⟨g, 0, none⟩) (n + 1) cap) ∧ w'.ownsRow 0 93 3 (.slice (some ⟨g, 0, none⟩) (n + 1) cap) (n + 1) (chC (L.take i ++ c :: L.drop i)) ∧ Keeps [g] w w' := by
  obtain ⟨cur, hg, hcm, hcs, hct⟩ : ∃ cur, w.heap[g]? = some (.cells cur 93 (0, 0)) ∧ cap ≤ maxLen ∧ cur.size = cap * 3 ∧ cur.toList.take (n * 3) = chC L := by
    rcases h.2 with ⟨h0, _⟩ | ⟨g', cap', cur, hv, hb, hg, h1, h2, h3, h4⟩
    · cases h0
    · injection hv with hv1 hv2 hv3
      injection hv1 with hv1
      injection hv1 with hv1
      subst hv1 hv3
      exact ⟨cur, hg, h2, h3, h4⟩
  unfold maxLen at hcm
  have hXl : (chC L).length = n * 3 := by rw [chC_len, hL]
  obtain ⟨C, hC⟩ : ∃ C, C = (chC L).drop (i * 3) := ⟨_, rfl⟩
  have hCl : C.length = (n - i) * 3 := by rw [hC, List.length_drop, hXl, Nat.sub_mul]
  have hC1 : ∀ v ∈ C, v.oneCell' = true := fun v hv => chC_one L v (by rw [hC] at hv; exact List.mem_of_mem_drop hv)
  have hB1 : ∀ v ∈ c.c, v.oneCell' = true := fun v hv => by simp only [Ch.c, List.mem_cons, List.not_mem_nil, or_false] at hv; rcases hv with rfl | rfl | rfl <;> rfl
  have hsc : w.shape? q = some (93, 3) := by simp [World.shape?, hq, Ch.c]
  have hsg : w.shape? g = some (93, cap * 3) := by simp [World.shape?, hg, hcs]
  have hov : ∀ lb cb, (callFunc 113 #[.slice (some ⟨q, 0, none⟩) 1 1, .slice (some ⟨g, (i + 1) * 3, none⟩) lb cb]).run Try.prog w = .ok (.value (.bool false)) w := fun lb cb => by
    rw [run_callFunc_extern Try.func113 (by kernel_rfl) (by kernel_rfl) (by kernel_rfl) (e := Extern.SlicesOverlaps.overlaps #[89, 89] #[4]) (by kernel_rfl),
      Lib.run_overlaps_apart w 89 4 93 Try.underlying89 3 (fun w => by kernel_rfl) ⟨q, 0, none⟩ ⟨g, (i + 1) * 3, none⟩ 1 1 lb cb hqg 93 93 3 (cap * 3) hsc hsg (by omega) (by simp [World.frozen?, hq]) (by simp [World.frozen?, hq])]
    rfl
  obtain ⟨Y, hY⟩ : ∃ Y, Y = splice cur.toList ((i + 1) * 3) C := ⟨_, rfl⟩
  have hcl : cur.toList.length = cap * 3 := by simpa using hcs
  have hYl : Y.length = cap * 3 := by rw [hY, length_splice _ _ _ (by rw [hcl, hCl]; omega), hcl]
  have hcell : ∀ j v, C[j]? = some v → w.drew.cell? ((⟨g, i * 3, none⟩ : Addr).add j) = some v := fun j v hj => by
    rw [addr_add]
    have h2 : (chC L)[i * 3 + j]? = some v := by rw [hC, List.getElem?_drop] at hj; exact hj
    have h3 := h.cellAt (i * 3 + j) (by have := (List.getElem?_eq_some_iff.1 h2).1; omega)
    exact h3.trans h2
  have hcp1 : ∀ ty dc sc, (Builtin.copy_ #[89, 89] ty #[.slice (some ⟨g, (i + 1) * 3, none⟩) (n - i) dc, .slice (some ⟨g, i * 3, none⟩) (n + 1 - i) sc]).run Try.prog w.drew = .ok (goInt (n - i : Nat)) (w.drew.setRow g Y.toArray) := fun ty dc sc => by
    rw [hY]
    exact run_copy_rowN w.drew _ _ ty 93 g ((i + 1) * 3) _ dc ⟨g, i * 3, none⟩ _ sc cur 93 C 3 (n - i) Try.underlying89 eSize hg (by simp only [Nat.min_def]; split <;> omega) hCl hcell (by rw [hCl, hcs]; omega) hC1
  obtain ⟨W1, hW1⟩ : ∃ W1, W1 = w.drew.setRow g Y.toArray := ⟨_, rfl⟩
  have hg1 : W1.heap[g]? = some (.cells Y.toArray 93 (0, 0)) := by rw [hW1]; exact setRow_heap w.drew g cur Y.toArray 93 _ hg
  have hq1 : W1.heap[q]? = some (.cells c.c.toArray 93 (0, 0)) := by rw [hW1, setRow_other w.drew g q _ hqg]; exact hq
  have hcp2 : ∀ ty dc, (Builtin.copy_ #[89, 89] ty #[.slice (some ⟨g, i * 3, none⟩) (n + 1 - i) dc, .slice (some ⟨q, 0, none⟩) 1 1]).run Try.prog W1 = .ok (goInt (1 : Nat)) (W1.setRow g (splice Y (i * 3) c.c).toArray) := fun ty dc => by
    have := run_copy_rowN (P := Try.prog) W1 89 89 ty 93 g (i * 3) (n + 1 - i) dc ⟨q, 0, none⟩ 1 1 Y.toArray 93 c.c 3 1 Try.underlying89 eSize hg1 (by simp only [Nat.min_def]; split <;> omega) rfl (fun j v hj => by rw [addr_add, Nat.zero_add]; exact block_cells hq1 j v (by simpa using hj)) (by simp [hYl, Ch.c]; omega) hB1
    simpa using this
  rw [← hW1] at hcp1
  have hfin : (W1.setRow g (splice Y (i * 3) c.c).toArray).ownsRow 0 93 3 (.slice (some ⟨g, 0, none⟩) (n + 1) cap) (n + 1) (chC (L.take i ++ c :: L.drop i)) := by
    refine ⟨by rw [chC_len]; simp; omega, Or.inr ⟨g, cap, _, rfl, Nat.zero_le _, setRow_heap W1 g Y.toArray _ 93 _ hg1, hroom, by unfold maxLen; omega, ?_, ?_⟩⟩
    · simp [length_splice Y (i * 3) c.c (by rw [hYl]; simp [Ch.c]; omega), hYl]
    · have e : (n + 1) * 3 = i * 3 + 3 + (n - i) * 3 := by omega
      have e2 : (i + 1) * 3 = i * 3 + 3 := by omega
      rw [e, chC_ins, ← hC]
      show List.take _ (splice Y (i * 3) c.c) = _
      rw [hY, e2]
      refine take_splice2 _ _ _ _ _ _ _ ?_ (by rw [List.length_take, hXl]; omega) rfl hCl (by rw [hcl]; omega)
      rw [← hct, List.take_take, Nat.min_eq_left (by omega)]
  have hk : Keeps [g] w (W1.setRow g (splice Y (i * 3) c.c).toArray) := by
    refine keeps_setRow ?_ (Or.inl (by simp)) _
    rw [hW1]
    exact keeps_setRow (Keeps.ofBelow (Below.refl w.heap.size w).drew [g]) (Or.inl (by simp)) _
  have hz2 : ((i : Int) == (n : Int)) = false := by simp; omega
  have hw1 : IntKind.i64.wrap ((i : Int) + 1) = (i : Int) + 1 := IntWalk.i64_in _ (by omega)
  have hw2 : IntKind.i64.wrap ((n : Int) + 1) = (n : Int) + 1 := IntWalk.i64_in _ (by omega)
  have hb1 : (0 : Int) ≤ (i : Int) + 1 := by omega
  have hin : i ≤ n := by omega
  have htn : ((i : Int) + 1).toNat = i + 1 := by omega
  have htn2 : ((n : Int) + 1).toNat = n + 1 := by omega
  have hb2 : ¬ (cap = i + 1) := by omega
  have hb3 : (i : Int) ≤ (n : Int) + 1 := by omega
  have hb4 : ¬ (cap = i) := by omega
  have hb5 : (n : Int) + 1 ≤ (cap : Int) := by omega
  rw [hW1] at hcp1 hcp2 hfin hk
  replace hfin := Lib.hid hfin; replace hk := Lib.hid hk
  clear hg1 hq1 hcell hYl hcl hsg hsc hB1 hC1 hCl hXl hct hcs hg hq h hC hY hL hW1
  go_enter Try.func98, Try.ntmps98
  go_wp2_with (simp only [hov])
  go_region_law (refine step_copy_runI rfl _ _ 89 89 rfl _ _ (by simp [Act.eval, Act.put]) (by simp [Act.eval, Act.put]) (hcp1 _ _ _) ?_)
  go_wp2
  go_ret
  exact ⟨rfl, hfin.out, hk.out⟩
set_option maxHeartbeats 4000000 in
/-- there is no room, in the midst -/
theorem ins_grow (g n cap i q : Nat) (L : List Ch) (c : Ch) (w : World) (h : w.ownsRow 0 93 3 (.slice (some ⟨g, 0, none⟩) n cap) n (chC L)) (hL : L.length = n) (hi : i < n) (hnc : n ≤ cap) (hroom : cap < n + 1) (hn : n ≤ 100000)
    (hq : w.heap[q]? = some (.cells c.c.toArray 93 (0, 0))) :
    Calls Try.prog 98 #[.slice (some ⟨g, 0, none⟩) n cap, .int .i64 (i : Int), .slice (some ⟨q, 0, none⟩) 1 1] w fun e w' => ∃ G, e = .returned (.slice (some ⟨w.heap.size, 0, none⟩) (n + 1) G) ∧ w'.ownsRow 0 93 3 (.slice (some ⟨w.heap.size, 0, none⟩) (n + 1) G) (n + 1) (chC (L.take i ++ c :: L.drop i)) ∧ Below w.heap.size w w' := by
  have hXl : (chC L).length = n * 3 := by rw [chC_len, hL]
  obtain ⟨A, hA⟩ : ∃ A, A = (chC L).take (i * 3) := ⟨_, rfl⟩
  obtain ⟨C, hC⟩ : ∃ C, C = (chC L).drop (i * 3) := ⟨_, rfl⟩
  have hAl : A.length = i * 3 := by rw [hA, List.length_take, hXl]; omega
  have hCl : C.length = (n - i) * 3 := by rw [hC, List.length_drop, hXl, Nat.sub_mul]
  have hC1 : ∀ v ∈ C, v.oneCell' = true := fun v hv => chC_one L v (by rw [hC] at hv; exact List.mem_of_mem_drop hv)
  have hB1 : ∀ v ∈ c.c, v.oneCell' = true := fun v hv => by simp only [Ch.c, List.mem_cons, List.not_mem_nil, or_false] at hv; rcases hv with rfl | rfl | rfl <;> rfl
  have hcs : ∀ j v, (chC L)[j]? = some v → w.cell? ⟨g, j, none⟩ = some v := fun j v hj => (h.cellAt j (by have := (List.getElem?_eq_some_iff.1 hj).1; rw [hXl] at this; exact this)).trans hj
  have hgl := rowLt h
  have hql := block_lt hq
  obtain ⟨i0, hi0, hz0, hzs, hzb⟩ := info_parts eInfo
  have hik : i + (n + 1 - i) = n + 1 := by omega
  have hkk : (n : Int) + 1 - (i : Int) = ((n + 1 - i : Nat) : Int) := by omega
  have hold : (Builtin.firstCells i0.size i (.slice (some ⟨g, 0, none⟩) i cap)).run Try.prog w.drew = .ok A.toArray w.drew := by
    rw [hzs]
    exact run_firstCells_some w.drew 3 i ⟨g, 0, none⟩ i cap A hAl (fun j v hj => by
      rw [addr_add, Nat.zero_add]
      have hj2 : j < i * 3 := by have := (List.getElem?_eq_some_iff.1 hj).1; omega
      rw [hA, List.getElem?_take, if_pos hj2] at hj
      exact hcs j v hj)
  obtain ⟨G, hG⟩ : ∃ G, G = grownCap w (n + 1) cap 93 := ⟨_, rfl⟩
  obtain ⟨ROW, hROW⟩ : ∃ ROW : Array Value, ROW = A.toArray ++ Builtin.zeroCells z0.cells (n + 1 - i) ++ Builtin.zeroCells z0.cells (G - (n + 1)) := ⟨_, rfl⟩
  obtain ⟨W1, hW1⟩ : ∃ W1, W1 = w.drew.alloc (.cells ROW 93) := ⟨_, rfl⟩
  have hrz : ∀ ty, (Builtin.append_ #[89, 3] ty #[.slice (some ⟨g, 0, none⟩) i cap, .int .i64 ((n : Int) + 1 - (i : Int))]).run Try.prog w = .ok (.slice (some ⟨w.heap.size, 0, none⟩) (n + 1) G) W1 := fun ty => by
    have hnx : Builtin.nextslicecap (n + 1) cap * 40 ≤ 281474976710656 := growslice_fits hroom (by omega)
    have h := Lib.run_append_grow_zeros w 89 3 ty 93 i0 z0 .i64 .i64 Try.underlying89 Try.underlying3 hi0 hz0 (some ⟨g, 0, none⟩) i cap A hold (n + 1 - i) (by omega) (by omega) (by omega) (by omega) (by rw [hzb]; omega) (by rw [hzb, hik]; exact hnx)
    rw [hik, ← hG, ← hROW, ← hW1] at h
    rw [hkk]
    exact h
  have hGn : n + 1 ≤ G := by rw [hG]; exact grownCap_ge w _ _ _
  have hGm : G ≤ maxLen := by rw [hG]; exact grownCap_le_maxLen w (n + 1) cap 93 (by unfold maxLen; omega)
  have hRs : ROW.size = G * 3 := by
    rw [hROW]
    simp [Builtin.zeroCells, Value.cells, z0, hAl]
    omega
  have hRt : ROW.toList.take (i * 3) = A := by
    rw [hROW]
    simp only [Array.toList_append]
    rw [List.append_assoc, List.take_left' hAl]
  have hRl : ROW.toList.length = G * 3 := by simpa using hRs
  have hb0 : Below w.heap.size w W1 := by rw [hW1]; exact (Below.refl _ _).drew.alloc (Nat.le_refl _) _
  have hg1 : W1.heap[w.heap.size]? = some (.cells ROW 93 (0, 0)) := by rw [hW1]; exact heap_alloc_new w.drew _
  have hq1 : W1.heap[q]? = some (.cells c.c.toArray 93 (0, 0)) := (hb0.block _ hql).trans hq
  obtain ⟨Y, hY⟩ : ∃ Y, Y = splice ROW.toList (i * 3) c.c := ⟨_, rfl⟩
  have hYl : Y.length = G * 3 := by rw [hY, length_splice _ _ _ (by rw [hRl]; simp [Ch.c]; omega), hRl]
  obtain ⟨W2, hW2⟩ : ∃ W2, W2 = W1.setRow w.heap.size Y.toArray := ⟨_, rfl⟩
  have hcpA : ∀ ty dc, (Builtin.copy_ #[89, 89] ty #[.slice (some ⟨w.heap.size, i * 3, none⟩) (n + 1 - i) dc, .slice (some ⟨q, 0, none⟩) 1 1]).run Try.prog W1 = .ok (goInt (1 : Nat)) W2 := fun ty dc => by
    have := run_copy_rowN (P := Try.prog) W1 89 89 ty 93 w.heap.size (i * 3) (n + 1 - i) dc ⟨q, 0, none⟩ 1 1 ROW 93 c.c 3 1 Try.underlying89 eSize hg1 (by simp only [Nat.min_def]; split <;> omega) rfl (fun j v hj => by rw [addr_add, Nat.zero_add]; exact block_cells hq1 j v (by simpa using hj)) (by rw [hRs]; simp [Ch.c]; omega) hB1
    rw [hW2, hY]; exact this
  have hb2 : Below w.heap.size w W2 := by rw [hW2]; exact below_setRow hb0 (Nat.le_refl _) _
  have hg2 : W2.heap[w.heap.size]? = some (.cells Y.toArray 93 (0, 0)) := by rw [hW2]; exact setRow_heap W1 w.heap.size ROW _ 93 _ hg1
  obtain ⟨W3, hW3⟩ : ∃ W3, W3 = W2.drew.setRow w.heap.size (splice Y ((i + 1) * 3) C).toArray := ⟨_, rfl⟩
  have hcpB : ∀ ty dc sc, (Builtin.copy_ #[89, 89] ty #[.slice (some ⟨w.heap.size, (i + 1) * 3, none⟩) (n - i) dc, .slice (some ⟨g, i * 3, none⟩) (n - i) sc]).run Try.prog W2.drew = .ok (goInt (n - i : Nat)) W3 := fun ty dc sc => by
    have := run_copy_rowN (P := Try.prog) W2.drew 89 89 ty 93 w.heap.size ((i + 1) * 3) (n - i) dc ⟨g, i * 3, none⟩ (n - i) sc Y.toArray 93 C 3 (n - i) Try.underlying89 eSize hg2 (by simp) hCl (fun j v hj => by
      rw [addr_add]
      rw [hC, List.getElem?_drop] at hj
      exact (hb2.cell (p := ⟨g, i * 3 + j, none⟩) hgl).trans (hcs _ v hj)) (by simp [hYl, hCl]; omega) hC1
    rw [hW3]; simpa using this
  have hb3 : Below w.heap.size w W3 := by rw [hW3]; exact below_setRow hb2.drew (Nat.le_refl _) _
  have hfin : W3.ownsRow 0 93 3 (.slice (some ⟨w.heap.size, 0, none⟩) (n + 1) G) (n + 1) (chC (L.take i ++ c :: L.drop i)) := by
    refine ⟨by rw [chC_len]; simp; omega, Or.inr ⟨w.heap.size, G, _, rfl, Nat.zero_le _, by rw [hW3]; exact setRow_heap W2.drew w.heap.size Y.toArray _ 93 _ hg2, hGn, hGm, ?_, ?_⟩⟩
    · simp [length_splice Y ((i + 1) * 3) C (by rw [hYl, hCl]; omega), hYl]
    · have e : (n + 1) * 3 = i * 3 + 3 + (n - i) * 3 := by omega
      have e2 : (i + 1) * 3 = i * 3 + 3 := by omega
      rw [e, chC_ins, ← hC, ← hA]
      show List.take _ (splice Y ((i + 1) * 3) C) = _
      rw [hY, e2]
      exact take_splice3 _ _ _ _ _ _ _ hRt hAl rfl hCl (by rw [hRl]; omega)
  have hz2 : ((i : Int) == (n : Int)) = false := by simp; omega
  have hw1 : IntKind.i64.wrap ((i : Int) + 1) = (i : Int) + 1 := IntWalk.i64_in _ (by omega)
  have hw2 : IntKind.i64.wrap ((n : Int) + 1) = (n : Int) + 1 := IntWalk.i64_in _ (by omega)
  have hw3 : IntKind.i64.wrap ((n : Int) + 1 - (i : Int)) = (n : Int) + 1 - (i : Int) := IntWalk.i64_in _ (by omega)
  have hb1 : (0 : Int) ≤ (i : Int) + 1 := by omega
  have hin : i ≤ n := by omega
  have htn : ((i : Int) + 1).toNat = i + 1 := by omega
  have hb4 : (i : Int) ≤ (n : Int) + 1 := by omega
  have hb5 : (cap : Int) < (n : Int) + 1 := by omega
  have hb6 : ¬ (G = i) := by omega
  have hb7 : ¬ (G = i + 1) := by omega
  have hb8 : ¬ (cap = i) := by omega
  have hb9 : (i : Int) ≤ (cap : Int) := by omega
  generalize w.heap.size = sz at *
  replace hfin := Lib.hid hfin; replace hb3 := Lib.hid hb3; replace hGn := Lib.hid hGn; replace hGm := Lib.hid hGm
  clear hW3 hg2 hb2 hW2 hYl hY hq1 hg1 hb0 hRl hRt hRs hW1 hROW hG hold hkk hik hzb hzs hz0 hi0 hql hgl hcs hB1 hC1 hCl hAl hC hA hXl hq h hL
  go_enter Try.func98, Try.ntmps98
  go_wp2_with (first
    | (at_builtin; refine Lib.wpList_append_run _ rfl _ _ _ _ rfl _ _ rfl rfl _ _ (hrz _) ?_))
  go_region_law (refine step_copy_runI rfl _ _ 89 89 rfl _ _ (by simp [Act.eval, Act.put]) (by simp [Act.eval, Act.put]) (hcpB _ _ _) ?_)
  go_wp2
  go_ret
  exact ⟨G, rfl, hfin.out, hb3.out⟩
/-- at the end -/
theorem ins_end (v : Value) (q : Nat) (L : List Ch) (c : Ch) (w : World) (h : w.ownsRow 0 93 3 v L.length (chC L)) (hn : L.length ≤ 100000) (hq : w.heap[q]? = some (.cells c.c.toArray 93 (0, 0))) :
    Calls Try.prog 98 #[v, .int .i64 (L.length : Int), .slice (some ⟨q, 0, none⟩) 1 1] w fun e w' => ∃ v', e = .returned v' ∧ Hp w v.ownBlock.toList [.row 93 3 v' (L.length + 1) (chC (L ++ [c]))] w' := by
  have hp := Lib.hid (Hp.lendRow h)
  obtain ⟨ad, cp, rfl⟩ := rowShape h
  obtain ⟨X, hX⟩ : ∃ X, X = (Value.slice ad L.length cp).ownBlock.toList := ⟨_, rfl⟩
  rw [← hX] at hp ⊢
  have hcc := Lib.hid (block_cells hq)
  have e1 : chC (L ++ [c]) = chC L ++ c.c := by rw [chC_append]; simp [chC]
  rw [e1]
  obtain ⟨n, hln⟩ : ∃ n, n = L.length := ⟨_, rfl⟩
  rw [← hln] at hp hn ⊢
  obtain ⟨cs, hcs⟩ : ∃ cs, cs = chC L := ⟨_, rfl⟩
  rw [← hcs] at hp ⊢
  clear h hX hq hcs hln e1
  have hcp0 : (n : Int) ≤ (n : Int) := by omega
  go_enter Try.func98, Try.ntmps98
  go_wp2_with (at_builtin; go_loud (refine wpList_append_hp rfl _ _ rfl Try.underlying89 eInfo rfl (by decide) (by decide) hp.out 0 rfl rfl _ _ c.c rfl rfl hcc.out (by intro u hu; simp only [Ch.c, List.mem_cons, List.not_mem_nil, or_false] at hu; rcases hu with rfl | rfl | rfl <;> rfl) (by omega) ?_; intro v5 w5 hp5 hv5; replace hp5 := Lib.hid hp5; obtain ⟨b5, cp5, rfl⟩ := hv5))
  all_goals go_ret
  all_goals exact ⟨_, rfl, hp5.out⟩
/-- wherever -/
theorem insert_any (v : Value) (i q : Nat) (L : List Ch) (c : Ch) (w : World) (h : w.ownsRow 0 93 3 v L.length (chC L)) (hi : i ≤ L.length) (hn : L.length ≤ 100000) (hq : w.heap[q]? = some (.cells c.c.toArray 93 (0, 0))) (hqv : v.ownBlock ≠ some q) :
    Calls Try.prog 98 #[v, .int .i64 (i : Int), .slice (some ⟨q, 0, none⟩) 1 1] w fun e w' => ∃ v', e = .returned v' ∧ Hp w v.ownBlock.toList [.row 93 3 v' (L.length + 1) (chC (L.take i ++ c :: L.drop i))] w' := by
  by_cases he : i = L.length
  · subst he
    rw [List.take_of_length_le (Nat.le_refl _), List.drop_eq_nil_of_le (Nat.le_refl _)]
    exact ins_end v q L c w h hn hq
  · have hlt : i < L.length := by omega
    obtain ⟨g, cap, hv, hc1, hc2⟩ := h.form (by omega)
    subst hv
    have hql := block_lt hq
    by_cases hr : L.length + 1 ≤ cap
    · refine (ins_room g L.length cap i q L c w h rfl hlt hr hn hq (fun e => hqv (by rw [e]; rfl))).mono ?_
      rintro e w' ⟨rfl, h1, k1⟩
      refine ⟨_, rfl, [[g]], .cons ⟨h1, rfl⟩ .nil, by simp, ?_, k1⟩
      intro b hb
      simp at hb; subst hb
      exact ⟨rowLt h1, Or.inl (by simp [Value.ownBlock])⟩
    · refine (ins_grow g L.length cap i q L c w h rfl hlt (rowCap h) (by omega) hn hq).mono ?_
      rintro e w' ⟨G, rfl, h1, k1⟩
      refine ⟨_, rfl, [[w.heap.size]], .cons ⟨h1, rfl⟩ .nil, by simp, ?_, Keeps.ofBelow k1 _⟩
      intro b hb
      simp at hb; subst hb
      exact ⟨rowLt h1, Or.inr (Nat.le_refl _)⟩
end Go.Proofs.Ytmfodnbhhfegeaa.delta
