/- A new disk; acts, reading and writing (package disk), where no cut is planned. No condition. -/
import Derived.Test.YtmlphodmbkceoaaDisk
namespace Go.Proofs.Ytmlphodmbkceoaa.disk
open Go.RowKit
attribute [local go_sem ↓] Go.wp_at_zero Go.wp_at_succ
attribute [local go_sem] str_size
set_option linter.unusedVariables false
set_option maxRecDepth 100000

def filled (n i : Nat) : List (List UInt8) := List.replicate i Z512 ++ List.replicate (n - i) []
theorem filled_len (n i : Nat) (h : i ≤ n) : (filled n i).length = n := by simp [filled]; omega
theorem filled_step (n i : Nat) (h : i < n) : (filled n i).set i Z512 = filled n (i + 1) := by
  apply List.ext_getElem?
  intro j
  unfold filled
  rw [List.getElem?_set]
  by_cases hj : i = j
  · subst hj
    rw [if_pos rfl, if_pos (by simp; omega), List.getElem?_append_left (by simp), List.getElem?_replicate, if_pos (by omega)]
  · rw [if_neg hj]
    by_cases h1 : j < i
    · rw [List.getElem?_append_left (by simp; exact h1), List.getElem?_append_left (by simp; omega), List.getElem?_replicate, List.getElem?_replicate, if_pos h1, if_pos (by omega)]
    · rw [List.getElem?_append_right (by simp; omega), List.getElem?_append_right (by simp; omega), List.getElem?_replicate, List.getElem?_replicate]
      simp
      by_cases h2 : j < n
      · rw [if_pos (by omega), if_pos (by omega)]
      · rw [if_neg (by omega), if_neg (by omega)]
theorem filled_all (n : Nat) : filled n n = List.replicate n Z512 := by simp [filled]
set_option maxHeartbeats 1000000 in
theorem new_ok (n : Nat) (h1 : 1 ≤ n) (h2 : n ≤ 4096) (w : World) : Calls Try.prog 101 #[.int .i64 (n : Int), .slice none 0 0] w fun e w' => e = .returned (.tuple #[.pointer (some ⟨w.heap.size + 1 + 1 + 1, 0, none⟩), .int .i64 0]) ∧ DiskAt w' w.heap.size (w.heap.size + 1 + 1 + 1) w.heap.size (w.heap.size + 1) (w.heap.size + 1 + 1) (.slice none 0 0) (blankSt (List.replicate n Z512)) ∧ Below w.heap.size w w' := by
  have g1 : ¬ (n : Int) < 1 := by omega
  have g2 : ¬ (4096 : Int) < (n : Int) := by omega
  have hmk := fun W => run_make_strs n (by omega) W
  have hmm := @run_makeMap Try.prog
  have hdm := disk_made w n
  have hbm : Below w.heap.size w ((((w.alloc (.cells (madeCells (Value.string ⟨#[]⟩).cells n) 9)).alloc (.map #[] 0)).alloc (.map #[] 0)).alloc (.cells #[.slice (some ⟨w.heap.size, 0, none⟩) n n, .map (some (w.heap.size + 1)), .slice none 0 0, .map (some (w.heap.size + 1 + 1)), .int .i64 0, .bool false] 154)) := ((((Below.refl _ w).alloc (Nat.le_refl _) _).alloc (by simp) _).alloc (by simp; omega) _).alloc (by simp; omega) _
  replace hdm := Lib.hid hdm; replace hbm := Lib.hid hbm
  go_enter Try.func101, Try.ntmps101
  go_wp2_with (go_at_call 118; (with_reducible refine (repeat_any _).mono ?_); rintro e w1 ⟨rfl, b1⟩; have hD := hdm.out.below b1; have hB := belowCont hbm.out b1; obtain ⟨d0, d1, d2, d3, d4, d5⟩ := hD.cells; have hl0 : (List.replicate n ([] : List UInt8)).length = n := List.length_replicate ..; simp only [blankSt, hl0] at d0; replace hD := Lib.hid hD; replace hB := Lib.hid hB; clear b1)
  clear d0 d1 d2 d3 d4 d5 hl0
  go_loopg [29] n (fun kk s29 wr => ∃ i : Nat, s29 = .int .i64 (i : Int) ∧ i + kk = n ∧ DiskAt wr w.heap.size (w.heap.size + 1 + 1 + 1) w.heap.size (w.heap.size + 1) (w.heap.size + 1 + 1) (.slice none 0 0) (blankSt (filled n i)) ∧ Below w.heap.size w wr)
  case atStart => exact ⟨0, rfl, by omega, by have h : filled n 0 = List.replicate n [] := by simp [filled]
                                              rw [h]; exact hD.out, hB.out⟩
  case round =>
    clear hD hB hdm hbm
    obtain ⟨i, rfl, hik, hD, hB⟩ := hrel
    by_cases hi : i < n
    · obtain ⟨K, rfl⟩ : ∃ K : Nat, gk = K + 1 := ⟨gk - 1, by omega⟩
      obtain ⟨d0, d1, d2, d3, d4, d5⟩ := hD.cells
      have hl0 := filled_len n i (by omega)
      simp only [blankSt, hl0] at d0
      have e1 : (0 : Int) ≤ (i : Int) := by omega
      have e2 : (i : Int) < (n : Int) := by omega
      have hfr := hD.sure.free i
      obtain ⟨s0, hs0⟩ : ∃ s, (filled n i)[i]? = some s := ⟨_, List.getElem?_eq_getElem (by omega)⟩
      have hce := hD.sure.cell hs0
      have hn5 : i < 5000 := by omega
      have hD2 := hD.setSure i Z512
      have hst : { (blankSt (filled n i)) with sure := (blankSt (filled n i)).sure.set i Z512 } = blankSt (filled n (i + 1)) := by rw [← filled_step n i hi]; rfl
      rw [hst] at hD2
      replace hD := Lib.hid hD; replace hD2 := Lib.hid hD2; replace hB := Lib.hid hB; replace hn5 := Lib.hid hn5
      have hik2 := Lib.hid hik
      clear hs0 hl0 hi hik d1 d2 d3 d4 d5 hst
      go_wp2
      go_roundg K
      case measure => omega
      case rel => exact ⟨i + 1, by first | go_num | (have := hn5.out; go_num) | (have := hn5.out; simp; unfold wrap64; omega), by have := hik2.out; omega, hD2.out, hB.out.setCell (p := ⟨w.heap.size, i, none⟩) (Nat.le_refl _) _⟩
    · obtain rfl : i = n := by omega
      rw [filled_all] at hD
      have e2 : ¬ (i : Int) < (i : Int) := by omega
      replace hD := Lib.hid hD; replace hB := Lib.hid hB
      clear hik hi
      go_wp2
      go_loopg [42] 0 (fun kk s42 wx => s42 = .int .i64 0 ∧ wx = wr)
      case atStart => exact ⟨rfl, rfl⟩
      case round =>
        obtain ⟨rfl, rfl⟩ := hrel
        go_wp2
        go_returns
        exact ⟨rfl, hD.out, hB.out⟩
section
variable {w : World} {B g q m k : Nat} {v : Value} {st : DSt}
theorem dead_any (h : DiskAt w B g q m k v st) : Calls Try.prog 52 #[.pointer (some ⟨g, 0, none⟩)] w fun e w' => e = .returned (.bool st.dead) ∧ Below w.heap.size w w' := by
  obtain ⟨d0, d1, d2, d3, d4, d5⟩ := h.cells
  clear h d0 d1 d2 d3 d4
  go_enter Try.func52, Try.ntmps52
  go_wp2
  go_ret
  exact ⟨rfl, by go_grown⟩
theorem acts_any (h : DiskAt w B g q m k v st) : Calls Try.prog 51 #[.pointer (some ⟨g, 0, none⟩)] w fun e w' => e = .returned (.int .i64 (st.acts : Int)) ∧ Below w.heap.size w w' := by
  obtain ⟨d0, d1, d2, d3, d4, d5⟩ := h.cells
  clear h d0 d1 d2 d3 d5
  go_enter Try.func51, Try.ntmps51
  go_wp2
  go_ret
  exact ⟨rfl, by go_grown⟩
theorem keyedInt : Maps.Keyed Try.prog 3 := Maps.int_keyed Try.underlying3
theorem zeroU64 (w : World) : (zeroValue 66).run Try.prog w = .ok (.int .u64 0) w := by kernel_rfl
theorem zeroLaid (w : World) : (zeroValue 190).run Try.prog w = .ok (.agg #[.string ⟨#[]⟩]) w := by kernel_rfl
theorem keyInt (x : Int) (hx : -9223372036854775808 ≤ x ∧ x ≤ 9223372036854775807) : keyOf Try.prog 3 (.int .i64 x) = some (at_ x) := Maps.keyOf_int_mk Try.underlying3 (wf_i64 hx)
/-- no cut is planned -/
theorem DiskAt.noCut (h : DiskAt w B g q m k v st) (x : Int) (hx : -9223372036854775808 ≤ x ∧ x ≤ 9223372036854775807) : (Instr.lookup 152 (.map (some k)) (.int .i64 x) true).run Try.prog w = .ok (.tuple #[.int .u64 0, .bool false]) w := by
  obtain ⟨D, h1, h2⟩ := h.cuts
  obtain ⟨u, ps, hr, hv⟩ := h1.look_ok keyedInt Try.underlying152 (zeroU64 w) (plainElem_int Try.underlying66 (by decide)) (keyInt x hx)
  obtain ⟨a, rfl, hz, _⟩ := plainElem_int_inv Try.underlying66 hv
  rw [Maps.atKey_of_not_has (h2 x)] at hz
  have ha : a = 0 := by injection hz with e1 _; injection e1 with e2; injection e2 with _ e3; exact e3.symm
  rw [h2, ha] at hr
  exact hr
theorem DiskAt.look (h : DiskAt w B g q m k v st) (x : Int) (hx : -9223372036854775808 ≤ x ∧ x ≤ 9223372036854775807) : ∃ s, (Instr.lookup 151 (.map (some m)) (.int .i64 x) true).run Try.prog w = .ok (.tuple #[.agg #[.string s], .bool (st.f x).isSome]) w ∧ ∀ t, st.f x = some t → s = str t := by
  obtain ⟨D, c, h1, h2, h3, h4⟩ := h.fresh
  obtain ⟨u, ps, hr, hv⟩ := h1.look_ok keyedInt Try.underlying151 (zeroLaid w) (laidElem_mk ⟨#[]⟩) (keyInt x hx)
  obtain ⟨s, rfl, hz⟩ := laidElem_inv hv
  rw [h3] at hr
  refine ⟨s, hr, fun t ht => ?_⟩
  have := h4 x t (.lit (.string (⟨#[]⟩ : ByteArray).data.toList)) ht
  rw [this] at hz
  have e : t = s.data.toList := by injection hz with e1 _; injection e1 with e2; injection e2
  rw [e]; rfl
theorem DiskAt.setActs (h : DiskAt w B g q m k v st) (a : Nat) (z : Int) (hz : z = (a : Int)) : DiskAt (w.setCell ⟨g, 4, none⟩ (.int .i64 z)) B g q m k v { st with acts := a } := by
  subst hz
  obtain ⟨D, c, h1, h2, h3, h4⟩ := h.fresh
  obtain ⟨D2, k1, k2⟩ := h.cuts
  obtain ⟨n1, n2, n3, n4, n5, n6⟩ := h.ne
  have hb : ∀ b, b ≠ g → (w.setCell ⟨g, 4, none⟩ (.int .i64 (a : Int))).heap[b]? = w.heap[b]? := fun b hb => Below.heap_setCell w _ _ b (fun e => hb e)
  refine ⟨?_, (hb q (Ne.symm n1)).trans h.sure, ⟨D, c, ownsMap_of_block h1 (hb m (Ne.symm n2)), h2, h3, h4⟩, ⟨D2, ownsMap_of_block k1 (hb k (Ne.symm n3)), k2⟩, ownsRow_turn h.row (fun r hr => hb r (h.rowBlock hr).2.1), h.ge, h.ne⟩
  simp [World.setCell, Array.getElem?_modify, h.blk]
theorem DiskAt.setDead (h : DiskAt w B g q m k v st) (b : Bool) : DiskAt (w.setCell ⟨g, 5, none⟩ (.bool b)) B g q m k v { st with dead := b } := by
  obtain ⟨D, c, h1, h2, h3, h4⟩ := h.fresh
  obtain ⟨D2, k1, k2⟩ := h.cuts
  obtain ⟨n1, n2, n3, n4, n5, n6⟩ := h.ne
  have hb : ∀ x, x ≠ g → (w.setCell ⟨g, 5, none⟩ (.bool b)).heap[x]? = w.heap[x]? := fun x hb => Below.heap_setCell w _ _ x (fun e => hb e)
  refine ⟨?_, (hb q (Ne.symm n1)).trans h.sure, ⟨D, c, ownsMap_of_block h1 (hb m (Ne.symm n2)), h2, h3, h4⟩, ⟨D2, ownsMap_of_block k1 (hb k (Ne.symm n3)), k2⟩, ownsRow_turn h.row (fun r hr => hb r (h.rowBlock hr).2.1), h.ge, h.ne⟩
  simp [World.setCell, Array.getElem?_modify, h.blk]
theorem up_any (h : DiskAt w B g q m k v st) : Calls Try.prog 50 #[.pointer (some ⟨g, 0, none⟩)] w fun e w' => e = .returned (.tuple #[]) ∧ DiskAt w' B g q m k v { st with dead := false } ∧ Below B w w' := by
  obtain ⟨d0, d1, d2, d3, d4, d5⟩ := h.cells
  have f5 := h.free 5
  have hge := h.ge.1
  have h2 := h.setDead false
  replace h2 := Lib.hid h2
  clear h d0 d1 d2 d3 d4
  go_enter Try.func50, Try.ntmps50
  go_wp2
  go_returns
  exact ⟨rfl, h2.out, (Below.refl _ _).setCell (p := ⟨g, 5, none⟩) hge _⟩
theorem act_any (h : DiskAt w B g q m k v st) (hd : st.dead = false) (ha : st.acts < 1000000) : Calls Try.prog 103 #[.pointer (some ⟨g, 0, none⟩)] w fun e w' => e = .returned (.int .i64 0) ∧ DiskAt w' B g q m k v { st with acts := st.acts + 1 } ∧ Keeps [g] w w' := by
  have hdead : ∀ w', DiskAt w' B g q m k v st → Calls Try.prog 52 #[.pointer (some ⟨g, 0, none⟩)] w' fun e w2 => e = .returned (.bool false) ∧ Below w'.heap.size w' w2 := fun w' h => by have := dead_any h; rw [hd] at this; exact this
  have hge := h.ge.1
  have hB : ∀ w', DiskAt w' B g q m k v st → B ≤ w'.heap.size := fun w' h => Nat.le_trans h.ge.1 (Nat.le_of_lt h.lt.1)
  have e1 : IntKind.i64.wrap ((st.acts : Int) + 1) = ((st.acts + 1 : Nat) : Int) := by rw [IntKind.wrap_i64]; omega
  have e2 : wrap64 ((st.acts : Int) + 1) = ((st.acts + 1 : Nat) : Int) := by unfold wrap64; omega
  have hset : ∀ w', DiskAt w' B g q m k v st → DiskAt (w'.setCell ⟨g, 4, none⟩ (.int .i64 ((st.acts : Int) + 1))) B g q m k v { st with acts := st.acts + 1 } := fun w' h => h.setActs (st.acts + 1) ((st.acts : Int) + 1) (by omega)
  have hlk : ∀ w', DiskAt w' B g q m k v { st with acts := st.acts + 1 } → (Instr.lookup 152 (.map (some k)) (.int .i64 ((st.acts : Int) + 1)) true).run Try.prog w' = .ok (.tuple #[.int .u64 0, .bool false]) w' := fun w' h => h.noCut ((st.acts : Int) + 1) (by omega)
  have hd0 := hdead w h
  have hbel := fun w' b => h.below (w' := w') b
  have hae : -9223372036854775808 ≤ (st.acts : Int) + 1 ∧ (st.acts : Int) + 1 ≤ 9223372036854775807 := by omega
  replace hset := Lib.hid hset; replace hlk := Lib.hid hlk; replace hbel := Lib.hid hbel; replace hB := Lib.hid hB
  have h0 := Lib.hid h
  clear h hdead hd
  go_enter Try.func103, Try.ntmps103
  go_wp2_with (go_at_call 52; (with_reducible refine hd0.mono ?_); rintro e w1 ⟨rfl, b1⟩; have h1 := hbel.out w1 b1; obtain ⟨d0, d1, d2, d3, d4, d5⟩ := h1.cells; have f4 := h1.free 4; have hs := hset.out w1 h1; obtain ⟨x0, x1, x2, x3, x4, x5⟩ := hs.cells; have l0 := hlk.out _ hs; have l1 := hlk.out _ (hs.below (Below.refl _ _).drew); have l2 := fun n => hlk.out _ (hs.below (belowDrewN (Below.refl _ _) n)); replace hs := Lib.hid hs; replace h1 := Lib.hid h1)
  go_quiet (fail)
  go_wp2_with fail
  go_ret
  exact ⟨rfl, hs.out.below (belowDrewN (Below.refl _ _) _), ((Keeps.ofBelow b1 [g]).setCell (p := ⟨g, 4, none⟩) (Or.inl (by simp)) _).drewN _⟩
/-- what is seen of a block -/
def DSt.see (st : DSt) (n : Nat) : List UInt8 := match st.f (n : Int) with | some t => t | none => st.sure.getD n []
end
end Go.Proofs.Ytmlphodmbkceoaa.disk
