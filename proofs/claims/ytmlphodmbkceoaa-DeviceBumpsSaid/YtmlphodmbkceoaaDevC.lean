/- A disk of which nothing is written, whatever cuts are planned: its acts, its failing (package disk). No condition. -/
import Derived.Test.YtmlphodmbkceoaaDevice2
import Derived.StillTailTactics
namespace Go.Proofs.Ytmlphodmbkceoaa.disk
open Go.RowKit
attribute [local go_sem ↓] Go.wp_at_zero Go.wp_at_succ
attribute [local go_sem] str_size
set_option linter.unusedVariables false
set_option maxRecDepth 100000

/-- a disk of which nothing is written: its acts, at most so many cuts, whether its power is off -/
structure CutAt (w : World) (B g k C acts : Nat) (dead : Bool) : Prop where
  blk : ∃ q m n, w.heap[g]? = some (.cells #[.slice (some ⟨q, 0, none⟩) n n, .map (some m), .slice none 0 0, .map (some k), .int .i64 (acts : Int), .bool dead] 154 (0, 0))
  cuts : ∃ (D : DataW Unit) (c : Nat), w.ownsMap Try.prog 3 (plainElem Try.prog 66) k c D ∧ c ≤ C
  ge : B ≤ g ∧ B ≤ k
  ne : g ≠ k
section
variable {w w' : World} {B g k C acts : Nat} {dead : Bool}
theorem CutAt.lt (h : CutAt w B g k C acts dead) : g < w.heap.size ∧ k < w.heap.size := by
  obtain ⟨q, m, n, hb⟩ := h.blk
  obtain ⟨D, c, h1, _⟩ := h.cuts
  exact ⟨block_lt hb, ownsMap_lt h1⟩
theorem CutAt.keep (h : CutAt w B g k C acts dead) {X : List Nat} (kk : Keeps X w w') (hg : g ∉ X) (hk : k ∉ X) : CutAt w' B g k C acts dead := by
  obtain ⟨l1, l2⟩ := h.lt
  obtain ⟨q, m, n, hb⟩ := h.blk
  obtain ⟨D, c, h1, h2⟩ := h.cuts
  exact ⟨⟨q, m, n, (kk.block _ l1 hg).trans hb⟩, ⟨D, c, ownsMap_of_block h1 (kk.block _ l2 hk), h2⟩, h.ge, h.ne⟩
theorem CutAt.below (h : CutAt w B g k C acts dead) (b : Below w.heap.size w w') : CutAt w' B g k C acts dead := h.keep (Keeps.ofBelow b []) (by simp) (by simp)
theorem CutAt.more (h : CutAt w B g k C acts dead) {C' : Nat} (hC : C ≤ C') : CutAt w B g k C' acts dead := by
  obtain ⟨D, c, h1, h2⟩ := h.cuts
  exact ⟨h.blk, ⟨D, c, h1, by omega⟩, h.ge, h.ne⟩
theorem CutAt.free (h : CutAt w B g k C acts dead) (i : Nat) : w.frozen? ⟨g, i, none⟩ = false := by
  obtain ⟨q, m, n, hb⟩ := h.blk
  simp [World.frozen?, hb]
theorem CutAt.cells (h : CutAt w B g k C acts dead) : ∃ q m n, w.cell? ⟨g, 0, none⟩ = some (.slice (some ⟨q, 0, none⟩) n n) ∧ w.cell? ⟨g, 1, none⟩ = some (.map (some m)) ∧ w.cell? ⟨g, 2, none⟩ = some (.slice none 0 0) ∧ w.cell? ⟨g, 3, none⟩ = some (.map (some k)) ∧ w.cell? ⟨g, 4, none⟩ = some (.int .i64 (acts : Int)) ∧ w.cell? ⟨g, 5, none⟩ = some (.bool dead) := by
  obtain ⟨q, m, n, hb⟩ := h.blk
  exact ⟨q, m, n, cell_of_row _ _ 0 _ _ _ hb, cell_of_row _ _ 1 _ _ _ hb, cell_of_row _ _ 2 _ _ _ hb, cell_of_row _ _ 3 _ _ _ hb, cell_of_row _ _ 4 _ _ _ hb, cell_of_row _ _ 5 _ _ _ hb⟩
theorem CutAt.setActs (h : CutAt w B g k C acts dead) (a : Nat) (z : Int) (hz : z = (a : Int)) : CutAt (w.setCell ⟨g, 4, none⟩ (.int .i64 z)) B g k C a dead := by
  subst hz
  obtain ⟨q, m, n, hb⟩ := h.blk
  obtain ⟨D, c, h1, h2⟩ := h.cuts
  exact ⟨⟨q, m, n, heap_setCell_same w g 4 _ _ _ hb⟩, ⟨D, c, ownsMap_of_block h1 (Below.heap_setCell w _ _ k (fun e => h.ne e.symm)), h2⟩, h.ge, h.ne⟩
theorem CutAt.setDead (h : CutAt w B g k C acts dead) (b : Bool) : CutAt (w.setCell ⟨g, 5, none⟩ (.bool b)) B g k C acts b := by
  obtain ⟨q, m, n, hb⟩ := h.blk
  obtain ⟨D, c, h1, h2⟩ := h.cuts
  exact ⟨⟨q, m, n, heap_setCell_same w g 5 _ _ _ hb⟩, ⟨D, c, ownsMap_of_block h1 (Below.heap_setCell w _ _ k (fun e => h.ne e.symm)), h2⟩, h.ge, h.ne⟩
/-- what is planned for an act -/
theorem CutAt.look (h : CutAt w B g k C acts dead) (x : Int) (hx : -9223372036854775808 ≤ x ∧ x ≤ 9223372036854775807) : ∃ (u : Int) (b : Bool), ∀ W, W.heap[k]? = w.heap[k]? → (Instr.lookup 152 (.map (some k)) (.int .i64 x) true).run Try.prog W = .ok (.tuple #[.int .u64 u, .bool b]) W := by
  obtain ⟨D, c, h1, h2⟩ := h.cuts
  obtain ⟨v, ps, hr, hv⟩ := h1.look_ok keyedInt Try.underlying152 (zeroU64 w) (plainElem_int Try.underlying66 (by decide)) (keyInt x hx)
  obtain ⟨a, rfl, hz, _⟩ := plainElem_int_inv Try.underlying66 hv
  refine ⟨a, Maps.has D (at_ x), fun W hW => ?_⟩
  obtain ⟨v', ps', hr', hv'⟩ := (ownsMap_of_block h1 hW).look_ok keyedInt Try.underlying152 (zeroU64 W) (plainElem_int Try.underlying66 (by decide)) (keyInt x hx)
  obtain ⟨a', rfl, hz', _⟩ := plainElem_int_inv Try.underlying66 hv'
  injection hz with z1 _; injection hz' with z2 _
  have e := z1.symm.trans z2
  injection e with e; injection e with _ e2
  rw [e2]; exact hr'
theorem dead_c (h : CutAt w B g k C acts dead) : Calls Try.prog 52 #[.pointer (some ⟨g, 0, none⟩)] w fun e w' => e = .returned (.bool dead) ∧ Below w.heap.size w w' := by
  obtain ⟨q, m, n, d0, d1, d2, d3, d4, d5⟩ := h.cells
  clear h d0 d1 d2 d3 d4
  go_enter Try.func52, Try.ntmps52
  go_wp2
  go_ret
  exact ⟨rfl, by go_grown⟩
theorem acts_c (h : CutAt w B g k C acts dead) : Calls Try.prog 51 #[.pointer (some ⟨g, 0, none⟩)] w fun e w' => e = .returned (.int .i64 (acts : Int)) ∧ Below w.heap.size w w' := by
  obtain ⟨q, m, n, d0, d1, d2, d3, d4, d5⟩ := h.cells
  clear h d0 d1 d2 d3 d5
  go_enter Try.func51, Try.ntmps51
  go_wp2
  go_ret
  exact ⟨rfl, by go_grown⟩
theorem up_c (h : CutAt w B g k C acts dead) : Calls Try.prog 50 #[.pointer (some ⟨g, 0, none⟩)] w fun e w' => e = .returned (.tuple #[]) ∧ CutAt w' B g k C acts false ∧ Keeps [g] w w' := by
  obtain ⟨q, m, n, d0, d1, d2, d3, d4, d5⟩ := h.cells
  have f5 := h.free 5
  have h2 := h.setDead false
  have kk : Keeps [g] w (w.setCell ⟨g, 5, none⟩ (.bool false)) := (Keeps.refl _ w).setCell (p := ⟨g, 5, none⟩) (Or.inl (by simp)) _
  replace h2 := Lib.hid h2; replace kk := Lib.hid kk
  clear h d0 d1 d2 d3 d4
  go_enter Try.func50, Try.ntmps50
  go_wp2
  go_returns
  exact ⟨rfl, h2.out, kk.out⟩
theorem settle_c (h : CutAt w B g k C acts dead) : Calls Try.prog 132 #[.pointer (some ⟨g, 0, none⟩)] w fun e w' => e = .returned (.tuple #[]) ∧ CutAt w' B g k C acts dead ∧ Keeps [g] w w' := by
  have hmm := @run_makeMap Try.prog
  have D1 := h.below ((Below.refl _ w).alloc (Nat.le_refl _) (.map #[] 0))
  obtain ⟨q, m, n, d0, d1, d2, d3, d4, d5⟩ := D1.cells
  have f1 := D1.free 1
  have f2 := D1.free 2
  have hfin : CutAt (((w.alloc (.map #[] 0)).setCell ⟨g, 1, none⟩ (.map (some w.heap.size))).setCell ⟨g, 2, none⟩ (.slice none 0 0)) B g k C acts dead := by
    obtain ⟨q, m, n, hb⟩ := D1.blk
    obtain ⟨D, c, h1, h2⟩ := D1.cuts
    have b1 := heap_setCell_same _ g 1 _ _ (.map (some w.heap.size)) hb
    have b2 := heap_setCell_same _ g 2 _ _ (.slice none 0 0) b1
    exact ⟨⟨q, w.heap.size, n, b2⟩, ⟨D, c, ownsMap_of_block h1 ((Below.heap_setCell _ ⟨g, 2, none⟩ _ k (fun e => h.ne e.symm)).trans (Below.heap_setCell _ ⟨g, 1, none⟩ _ k (fun e => h.ne e.symm))), h2⟩, h.ge, h.ne⟩
  have kk : Keeps [g] w (((w.alloc (.map #[] 0)).setCell ⟨g, 1, none⟩ (.map (some w.heap.size))).setCell ⟨g, 2, none⟩ (.slice none 0 0)) := (((Keeps.refl [g] w).alloc _).setCell (p := ⟨g, 1, none⟩) (Or.inl (by simp)) _).setCell (p := ⟨g, 2, none⟩) (Or.inl (by simp)) _
  replace hfin := Lib.hid hfin; replace kk := Lib.hid kk
  clear h D1
  go_enter Try.func132, Try.ntmps132
  go_wp2
  go_end0
  exact ⟨rfl, hfin.out, kk.out⟩
theorem fail_c (h : CutAt w B g k C acts false) (fates : Int) : Calls Try.prog 120 #[.pointer (some ⟨g, 0, none⟩), .int .u64 fates] w fun e w' => e = .returned (.tuple #[]) ∧ CutAt w' B g k C acts true ∧ Keeps [g] w w' := by
  have hd := fun W (h : CutAt W B g k C acts false) => dead_c h
  have hs := fun W (h : CutAt W B g k C acts false) => settle_c h
  have h0 := h
  replace hd := Lib.hid hd; replace hs := Lib.hid hs; replace h0 := Lib.hid h0
  have kk := Lib.hid (Keeps.refl [g] w)
  clear h
  go_enter Try.func120, Try.ntmps120
  go_wp2_with (go_at_call 52; (with_reducible refine (hd.out _ h0.out).mono ?_); rintro e w1 ⟨rfl, b1⟩; replace h0 := Lib.hid (h0.out.below b1); replace kk := Lib.hid (kk.out.trans (Keeps.ofBelow b1 _)); clear b1; obtain ⟨q, m, n, d0, d1, d2, d3, d4, d5⟩ := h0.out.cells)
  go_loopw [14] (fun s14 wr => s14 = .int .i64 0 ∧ wr = w1) (fun _ _ => 0)
  case atStart => exact ⟨rfl, rfl⟩
  case round =>
    obtain ⟨rfl, rfl⟩ := hrel
    go_wp2_with (go_at_call 132; (with_reducible refine (hs.out _ h0.out).mono ?_); rintro e w2 ⟨rfl, h2, k2⟩; obtain ⟨q2, m2, n2, x0, x1, x2, x3, x4, x5⟩ := h2.cells; have f5 := h2.free 5; have hd2 := h2.setDead true; replace hd2 := Lib.hid hd2; replace kk := Lib.hid ((kk.out.trans k2).setCell (p := ⟨g, 5, none⟩) (Or.inl (by simp)) (.bool true)); clear k2 h2)
    go_end0
    exact ⟨rfl, hd2.out, kk.out⟩
/-- the number of the act has grown -/
theorem act_dead (h : CutAt w B g k C acts true) : Calls Try.prog 103 #[.pointer (some ⟨g, 0, none⟩)] w fun e w' => e = .returned (.int .i64 7) ∧ Below w.heap.size w w' := by
  have hd := dead_c h
  replace hd := Lib.hid hd
  clear h
  go_enter Try.func103, Try.ntmps103
  go_wp2_with (go_at_call 52; (with_reducible refine hd.out.mono ?_); rintro e w1 ⟨rfl, b1⟩)
  go_ret
  exact ⟨rfl, b1⟩
theorem act_c (h : CutAt w B g k C acts false) (ha : acts < 1000000) : Calls Try.prog 103 #[.pointer (some ⟨g, 0, none⟩)] w fun e w' => ∃ r : Bool, e = .returned (.int .i64 (if r then 7 else 0)) ∧ CutAt w' B g k C (acts + 1) r ∧ Keeps [g, k] w w' := by
  obtain ⟨u, b, hlk⟩ := h.look ((acts : Int) + 1) (by omega)
  have hx : -9223372036854775808 ≤ (acts : Int) + 1 ∧ (acts : Int) + 1 ≤ 9223372036854775807 := by omega
  have hkey := keyInt ((acts : Int) + 1) hx
  have hd := fun W (h : CutAt W B g k C acts false) => dead_c h
  have hf := fun W (h : CutAt W B g k C (acts + 1) false) => fail_c h u
  have e1 : IntKind.i64.wrap ((acts : Int) + 1) = (acts : Int) + 1 := IntWalk.i64_in _ (by omega)
  have e2 : wrap64 ((acts : Int) + 1) = (acts : Int) + 1 := by unfold wrap64; omega
  have hset : ∀ W, CutAt W B g k C acts false → CutAt (W.setCell ⟨g, 4, none⟩ (.int .i64 ((acts : Int) + 1))) B g k C (acts + 1) false := fun W h => h.setActs (acts + 1) _ (by omega)
  obtain ⟨l1, l2⟩ := h.lt
  have hne := h.ne
  have hk0 : ∀ W, Below w.heap.size w W → (W.setCell ⟨g, 4, none⟩ (.int .i64 ((acts : Int) + 1))).heap[k]? = w.heap[k]? := fun W b => (Below.heap_setCell W ⟨g, 4, none⟩ _ k (fun e => hne e.symm)).trans (b.block k l2)
  replace hd := Lib.hid hd; replace hf := Lib.hid hf; replace hset := Lib.hid hset; replace hk0 := Lib.hid hk0; replace hlk := Lib.hid hlk
  have h0 := Lib.hid h
  clear h l1 l2
  go_enter Try.func103, Try.ntmps103
  go_wp2_with (go_at_call 52; (with_reducible refine (hd.out _ h0.out).mono ?_); rintro e w1 ⟨rfl, b1⟩; have h1 := h0.out.below b1; obtain ⟨q, m, n, d0, d1, d2, d3, d4, d5⟩ := h1.cells; have f4 := h1.free 4; have hs := hset.out w1 h1; obtain ⟨q', m', n', x0, x1, x2, x3, x4, x5⟩ := hs.cells; have l0 := hlk.out _ (hk0.out w1 b1); have l1 := hlk.out (w1.setCell ⟨g, 4, none⟩ (.int .i64 ((acts : Int) + 1))).drew (hk0.out w1 b1); have l2 := fun n => hlk.out ((w1.setCell ⟨g, 4, none⟩ (.int .i64 ((acts : Int) + 1))).drewN n) (hk0.out w1 b1); have kk := ((Keeps.ofBelow b1 [g]).setCell (p := ⟨g, 4, none⟩) (Or.inl (by simp)) (.int .i64 ((acts : Int) + 1))); replace kk := Lib.hid kk; replace hs := Lib.hid hs; replace h1 := Lib.hid h1; clear b1)
  go_quiet (fail)
  cases b with
  | false =>
    go_wp2_with fail
    go_ret
    exact ⟨false, rfl, hs.out.below (belowDrewN (Below.refl _ _) _), (kk.out.drewN _).more (by simp)⟩
  | true =>
    go_wp2_with fail
    have hsX := hs.out.below (belowDrewN (Below.refl _ (w1.setCell ⟨g, 4, none⟩ (.int .i64 ((acts : Int) + 1)))) nq)
    have kX := kk.out.drewN nq
    generalize (w1.setCell ⟨g, 4, none⟩ (.int .i64 ((acts : Int) + 1))).drewN nq = X at hsX kX ⊢
    have hX := hsX.below (Below.refl _ _).drew
    obtain ⟨q2, m2, n2, y0, y1, y2, y3, y4, y5⟩ := hsX.cells
    obtain ⟨D, c, hown, hc⟩ := hX.cuts
    replace hsX := Lib.hid hsX; replace kX := Lib.hid kX; replace hX := Lib.hid hX; replace hown := Lib.hid hown; replace hc := Lib.hid hc
    clear x0 x1 x2 x3 x4 x5 d0 d1 d2 d3 d4 d5 f4 l0 l1 l2 hs kk h1
    refine wp_region_still_tail 8 (by kernel_rfl) (by kernel_rfl) ?_
    simp only [List.take_succ_cons, List.take_zero, List.drop_succ_cons, List.drop_zero]
    repeat still_step
    try refine wpStill_nil ?_
    change wpList _ _ _ _ _ X.drew
    go_wp2_with (first
      | (at_delete; go_loud (refine wpList_delete_own _ rfl _ _ 152 3 rfl 66 keyedInt Try.underlying152 (plainElem Try.prog 66) k c D rfl hown.out _ (at_ ((acts : Int) + 1)) rfl hkey ?_; intro w3 hown3 hturn3; have k3 := (Keeps.refl [k] X.drew).turned (Or.inl (by simp)) hturn3; have h3 : CutAt w3 B g k C (acts + 1) false := (by obtain ⟨q3, m3, n3, hb3⟩ := hX.out.blk; exact ⟨⟨q3, m3, n3, (k3.block g hX.out.lt.1 (by simpa using hne)).trans hb3⟩, ⟨_, c, hown3, hc.out⟩, hX.out.ge, hX.out.ne⟩); replace h3 := Lib.hid h3; replace k3 := Lib.hid k3))
      | (go_at_call 120; (with_reducible refine (hf.out _ h3.out).mono ?_); rintro e w4 ⟨rfl, h4, k4⟩; replace h4 := Lib.hid h4; replace k4 := Lib.hid k4))
    go_ret
    exact ⟨true, rfl, h4.out, ((kX.out.drew.more (by simp)).trans (k3.out.more (by simp))).trans (k4.out.more (by simp))⟩
end
end Go.Proofs.Ytmlphodmbkceoaa.disk
