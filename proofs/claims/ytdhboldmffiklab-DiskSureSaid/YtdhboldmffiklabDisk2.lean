/- A new disk; acts, reading and writing (package disk), where no cut is planned. No condition. -/
import Derived.Test.YtdhboldmffiklabDisk
namespace Go.Proofs.Ytdhboldmffiklab.disk
open Go.RowKit
attribute [local go_sem ↓] Go.wp_at_zero Go.wp_at_succ
attribute [local go_sem] str_size
set_option linter.unusedVariables false
set_option maxRecDepth 100000

def filled (n i : Nat) : List (List UInt8) := List.replicate i Z512 ++ List.replicate (n - i) []
theorem filled_len (n i : Nat) (h : i ≤ n) : (filled n i).length = n := by simp [filled]; omega
theorem filled_step (n i : Nat) (h : i < n) : (filled n i).set i Z512 = filled n (i + 1) := by
  apply List.ext_getElem?
  intro j
  unfold filled
  rw [List.getElem?_set]
  by_cases hj : i = j
  · subst hj
    rw [if_pos rfl, if_pos (by simp; omega), List.getElem?_append_left (by simp), List.getElem?_replicate, if_pos (by omega)]
  · rw [if_neg hj]
    by_cases h1 : j < i
    · rw [List.getElem?_append_left (by simp; exact h1), List.getElem?_append_left (by simp; omega), List.getElem?_replicate, List.getElem?_replicate, if_pos h1, if_pos (by omega)]
    · rw [List.getElem?_append_right (by simp; omega), List.getElem?_append_right (by simp; omega), List.getElem?_replicate, List.getElem?_replicate]
      simp
      by_cases h2 : j < n
      · rw [if_pos (by omega), if_pos (by omega)]
      · rw [if_neg (by omega), if_neg (by omega)]
theorem filled_all (n : Nat) : filled n n = List.replicate n Z512 := by simp [filled]
set_option maxHeartbeats 1000000 in
theorem new_ok (n : Nat) (h1 : 1 ≤ n) (h2 : n ≤ 4096) (w : World) : Calls Try.prog 24 #[.int .i64 (n : Int), .slice none 0 0] w fun e w' => e = .returned (.tuple #[.pointer (some ⟨w.heap.size + 1 + 1 + 1, 0, none⟩), .int .i64 0]) ∧ DiskAt w' w.heap.size (w.heap.size + 1 + 1 + 1) w.heap.size (w.heap.size + 1) (w.heap.size + 1 + 1) (.slice none 0 0) (blankSt (List.replicate n Z512)) ∧ Below w.heap.size w w' := by
  have g1 : ¬ (n : Int) < 1 := by omega
  have g2 : ¬ (4096 : Int) < (n : Int) := by omega
  have hmk := fun W => run_make_strs n (by omega) W
  have hmm := @run_makeMap Try.prog
  have hdm := disk_made w n
  have hbm : Below w.heap.size w ((((w.alloc (.cells (madeCells (Value.string ⟨#[]⟩).cells n) 9)).alloc (.map #[] 0)).alloc (.map #[] 0)).alloc (.cells #[.slice (some ⟨w.heap.size, 0, none⟩) n n, .map (some (w.heap.size + 1)), .slice none 0 0, .map (some (w.heap.size + 1 + 1)), .int .i64 0, .bool false] 116)) := ((((Below.refl _ w).alloc (Nat.le_refl _) _).alloc (by simp) _).alloc (by simp; omega) _).alloc (by simp; omega) _
  replace hdm := Lib.hid hdm; replace hbm := Lib.hid hbm
  go_enter Try.func24, Try.ntmps24
  go_wp2_with (go_at_call 72; (with_reducible refine (repeat_any _).mono ?_); rintro e w1 ⟨rfl, b1⟩; have hD := hdm.out.below b1; have hB := belowCont hbm.out b1; obtain ⟨d0, d1, d2, d3, d4, d5⟩ := hD.cells; have hl0 : (List.replicate n ([] : List UInt8)).length = n := List.length_replicate ..; simp only [blankSt, hl0] at d0; replace hD := Lib.hid hD; replace hB := Lib.hid hB; clear b1)
  clear d0 d1 d2 d3 d4 d5 hl0
  go_loopg [29] n (fun kk s29 wr => ∃ i : Nat, s29 = .int .i64 (i : Int) ∧ i + kk = n ∧ DiskAt wr w.heap.size (w.heap.size + 1 + 1 + 1) w.heap.size (w.heap.size + 1) (w.heap.size + 1 + 1) (.slice none 0 0) (blankSt (filled n i)) ∧ Below w.heap.size w wr)
  case atStart => exact ⟨0, rfl, by omega, by have h : filled n 0 = List.replicate n [] := by simp [filled]
                                              rw [h]; exact hD.out, hB.out⟩
  case round =>
    clear hD hB hdm hbm
    obtain ⟨i, rfl, hik, hD, hB⟩ := hrel
    by_cases hi : i < n
    · obtain ⟨K, rfl⟩ : ∃ K : Nat, gk = K + 1 := ⟨gk - 1, by omega⟩
      obtain ⟨d0, d1, d2, d3, d4, d5⟩ := hD.cells
      have hl0 := filled_len n i (by omega)
      simp only [blankSt, hl0] at d0
      have e1 : (0 : Int) ≤ (i : Int) := by omega
      have e2 : (i : Int) < (n : Int) := by omega
      have hfr := hD.sure.free i
      obtain ⟨s0, hs0⟩ : ∃ s, (filled n i)[i]? = some s := ⟨_, List.getElem?_eq_getElem (by omega)⟩
      have hce := hD.sure.cell hs0
      have hn5 : i < 5000 := by omega
      have hD2 := hD.setSure i Z512
      have hst : { (blankSt (filled n i)) with sure := (blankSt (filled n i)).sure.set i Z512 } = blankSt (filled n (i + 1)) := by rw [← filled_step n i hi]; rfl
      rw [hst] at hD2
      replace hD := Lib.hid hD; replace hD2 := Lib.hid hD2; replace hB := Lib.hid hB; replace hn5 := Lib.hid hn5
      have hik2 := Lib.hid hik
      clear hs0 hl0 hi hik d1 d2 d3 d4 d5 hst
      go_wp2
      go_roundg K
      case measure => omega
      case rel => exact ⟨i + 1, by first | go_num | (have := hn5.out; go_num) | (have := hn5.out; simp; unfold wrap64; omega), by have := hik2.out; omega, hD2.out, hB.out.setCell (p := ⟨w.heap.size, i, none⟩) (Nat.le_refl _) _⟩
    · obtain rfl : i = n := by omega
      rw [filled_all] at hD
      have e2 : ¬ (i : Int) < (i : Int) := by omega
      replace hD := Lib.hid hD; replace hB := Lib.hid hB
      clear hik hi
      go_wp2
      go_loopg [42] 0 (fun kk s42 wx => s42 = .int .i64 0 ∧ wx = wr)
      case atStart => exact ⟨rfl, rfl⟩
      case round =>
        obtain ⟨rfl, rfl⟩ := hrel
        go_wp2
        go_returns
        exact ⟨rfl, hD.out, hB.out⟩
section
variable {w : World} {B g q m k : Nat} {v : Value} {st : DSt}
theorem dead_any (h : DiskAt w B g q m k v st) : Calls Try.prog 20 #[.pointer (some ⟨g, 0, none⟩)] w fun e w' => e = .returned (.bool st.dead) ∧ Below w.heap.size w w' := by
  obtain ⟨d0, d1, d2, d3, d4, d5⟩ := h.cells
  clear h d0 d1 d2 d3 d4
  go_enter Try.func20, Try.ntmps20
  go_wp2
  go_ret
  exact ⟨rfl, by go_grown⟩
theorem acts_any (h : DiskAt w B g q m k v st) : Calls Try.prog 19 #[.pointer (some ⟨g, 0, none⟩)] w fun e w' => e = .returned (.int .i64 (st.acts : Int)) ∧ Below w.heap.size w w' := by
  obtain ⟨d0, d1, d2, d3, d4, d5⟩ := h.cells
  clear h d0 d1 d2 d3 d5
  go_enter Try.func19, Try.ntmps19
  go_wp2
  go_ret
  exact ⟨rfl, by go_grown⟩
theorem blocks_any (h : DiskAt w B g q m k v st) : Calls Try.prog 108 #[.pointer (some ⟨g, 0, none⟩)] w fun e w' => e = .returned (.int .i64 (st.sure.length : Int)) ∧ Below w.heap.size w w' := by
  obtain ⟨d0, d1, d2, d3, d4, d5⟩ := h.cells
  clear h d1 d2 d3 d4 d5
  go_enter Try.func108, Try.ntmps108
  go_wp2
  go_ret
  exact ⟨rfl, by go_grown⟩
theorem may_any (h : DiskAt w B g q m k v st) (n : Int) (s : ByteArray) (hl : st.sure.length ≤ 100000) : Calls Try.prog 74 #[.pointer (some ⟨g, 0, none⟩), .int .i64 n, .string s] w fun e w' => e = .returned (.bool (decide (0 ≤ n ∧ n < (st.sure.length : Int) ∧ s.size = 512))) ∧ Below w.heap.size w w' := by
  have hb := fun w' (b : Below w.heap.size w w') => blocks_any (h.below b)
  have hb0 := hb w (Below.refl _ _)
  clear h hb
  obtain ⟨L, hL⟩ : ∃ L, L = st.sure.length := ⟨_, rfl⟩
  rw [← hL] at hb0 ⊢
  clear hL hl
  by_cases h1 : 0 ≤ n
  · by_cases h2 : n < (L : Int)
    · by_cases h3 : s.size = 512
      · have h4 : (s.size : Int) = 512 := by omega
        have e : decide (0 ≤ n ∧ n < (L : Int) ∧ s.size = 512) = true := decide_eq_true ⟨h1, h2, h3⟩
        rw [e]
        clear e h3
        go_enter Try.func74, Try.ntmps74
        go_wp2_with (go_at_call 108; (with_reducible refine hb0.mono ?_); rintro e w1 ⟨rfl, b1⟩)
        go_ret
        exact ⟨rfl, b1⟩
      · have h4 : ¬ (s.size : Int) = 512 := by omega
        have e : decide (0 ≤ n ∧ n < (L : Int) ∧ s.size = 512) = false := decide_eq_false (fun hh => h3 hh.2.2)
        rw [e]
        clear e
        go_enter Try.func74, Try.ntmps74
        go_wp2_with (go_at_call 108; (with_reducible refine hb0.mono ?_); rintro e w1 ⟨rfl, b1⟩)
        go_ret
        exact ⟨by first | rfl | simp [h3, h4], b1⟩
    · have e : decide (0 ≤ n ∧ n < (L : Int) ∧ s.size = 512) = false := decide_eq_false (fun hh => h2 hh.2.1)
      rw [e]
      clear e
      go_enter Try.func74, Try.ntmps74
      go_wp2_with (go_at_call 108; (with_reducible refine hb0.mono ?_); rintro e w1 ⟨rfl, b1⟩)
      go_ret
      exact ⟨rfl, b1⟩
  · have e : decide (0 ≤ n ∧ n < (L : Int) ∧ s.size = 512) = false := decide_eq_false (fun hh => h1 hh.1)
    rw [e]
    clear e hb0
    go_enter Try.func74, Try.ntmps74
    go_wp2
    go_ret
    exact ⟨rfl, by go_grown⟩
theorem keyedInt : Maps.Keyed Try.prog 3 := Maps.int_keyed Try.underlying3
theorem zeroU64 (w : World) : (zeroValue 22).run Try.prog w = .ok (.int .u64 0) w := by kernel_rfl
theorem zeroLaid (w : World) : (zeroValue 123).run Try.prog w = .ok (.agg #[.string ⟨#[]⟩]) w := by kernel_rfl
theorem keyInt (x : Int) (hx : -9223372036854775808 ≤ x ∧ x ≤ 9223372036854775807) : keyOf Try.prog 3 (.int .i64 x) = some (at_ x) := Maps.keyOf_int_mk Try.underlying3 (wf_i64 hx)
/-- no cut is planned -/
theorem DiskAt.noCut (h : DiskAt w B g q m k v st) (x : Int) (hx : -9223372036854775808 ≤ x ∧ x ≤ 9223372036854775807) : (Instr.lookup 114 (.map (some k)) (.int .i64 x) true).run Try.prog w = .ok (.tuple #[.int .u64 0, .bool false]) w := by
  obtain ⟨D, h1, h2⟩ := h.cuts
  obtain ⟨u, ps, hr, hv⟩ := h1.look_ok keyedInt Try.underlying114 (zeroU64 w) (plainElem_int Try.underlying22 (by decide)) (keyInt x hx)
  obtain ⟨a, rfl, hz, _⟩ := plainElem_int_inv Try.underlying22 hv
  rw [Maps.atKey_of_not_has (h2 x)] at hz
  have ha : a = 0 := by injection hz with e1 _; injection e1 with e2; injection e2 with _ e3; exact e3.symm
  rw [h2, ha] at hr
  exact hr
theorem DiskAt.look (h : DiskAt w B g q m k v st) (x : Int) (hx : -9223372036854775808 ≤ x ∧ x ≤ 9223372036854775807) : ∃ s, (Instr.lookup 113 (.map (some m)) (.int .i64 x) true).run Try.prog w = .ok (.tuple #[.agg #[.string s], .bool (st.f x).isSome]) w ∧ ∀ t, st.f x = some t → s = str t := by
  obtain ⟨D, c, h1, h2, h3, h4⟩ := h.fresh
  obtain ⟨u, ps, hr, hv⟩ := h1.look_ok keyedInt Try.underlying113 (zeroLaid w) (laidElem_mk ⟨#[]⟩) (keyInt x hx)
  obtain ⟨s, rfl, hz⟩ := laidElem_inv hv
  rw [h3] at hr
  refine ⟨s, hr, fun t ht => ?_⟩
  have := h4 x t (.lit (.string (⟨#[]⟩ : ByteArray).data.toList)) ht
  rw [this] at hz
  have e : t = s.data.toList := by injection hz with e1 _; injection e1 with e2; injection e2
  rw [e]; rfl
theorem DiskAt.setActs (h : DiskAt w B g q m k v st) (a : Nat) (z : Int) (hz : z = (a : Int)) : DiskAt (w.setCell ⟨g, 4, none⟩ (.int .i64 z)) B g q m k v { st with acts := a } := by
  subst hz
  obtain ⟨D, c, h1, h2, h3, h4⟩ := h.fresh
  obtain ⟨D2, k1, k2⟩ := h.cuts
  obtain ⟨n1, n2, n3, n4, n5, n6⟩ := h.ne
  have hb : ∀ b, b ≠ g → (w.setCell ⟨g, 4, none⟩ (.int .i64 (a : Int))).heap[b]? = w.heap[b]? := fun b hb => Below.heap_setCell w _ _ b (fun e => hb e)
  refine ⟨?_, (hb q (Ne.symm n1)).trans h.sure, ⟨D, c, ownsMap_of_block h1 (hb m (Ne.symm n2)), h2, h3, h4⟩, ⟨D2, ownsMap_of_block k1 (hb k (Ne.symm n3)), k2⟩, ownsRow_turn h.row (fun r hr => hb r (h.rowBlock hr).2.1), h.ge, h.ne⟩
  simp [World.setCell, Array.getElem?_modify, h.blk]
theorem DiskAt.setDead (h : DiskAt w B g q m k v st) (b : Bool) : DiskAt (w.setCell ⟨g, 5, none⟩ (.bool b)) B g q m k v { st with dead := b } := by
  obtain ⟨D, c, h1, h2, h3, h4⟩ := h.fresh
  obtain ⟨D2, k1, k2⟩ := h.cuts
  obtain ⟨n1, n2, n3, n4, n5, n6⟩ := h.ne
  have hb : ∀ x, x ≠ g → (w.setCell ⟨g, 5, none⟩ (.bool b)).heap[x]? = w.heap[x]? := fun x hb => Below.heap_setCell w _ _ x (fun e => hb e)
  refine ⟨?_, (hb q (Ne.symm n1)).trans h.sure, ⟨D, c, ownsMap_of_block h1 (hb m (Ne.symm n2)), h2, h3, h4⟩, ⟨D2, ownsMap_of_block k1 (hb k (Ne.symm n3)), k2⟩, ownsRow_turn h.row (fun r hr => hb r (h.rowBlock hr).2.1), h.ge, h.ne⟩
  simp [World.setCell, Array.getElem?_modify, h.blk]
theorem up_any (h : DiskAt w B g q m k v st) : Calls Try.prog 18 #[.pointer (some ⟨g, 0, none⟩)] w fun e w' => e = .returned (.tuple #[]) ∧ DiskAt w' B g q m k v { st with dead := false } ∧ Below B w w' := by
  obtain ⟨d0, d1, d2, d3, d4, d5⟩ := h.cells
  have f5 := h.free 5
  have hge := h.ge.1
  have h2 := h.setDead false
  replace h2 := Lib.hid h2
  clear h d0 d1 d2 d3 d4
  go_enter Try.func18, Try.ntmps18
  go_wp2
  go_returns
  exact ⟨rfl, h2.out, (Below.refl _ _).setCell (p := ⟨g, 5, none⟩) hge _⟩
theorem act_any (h : DiskAt w B g q m k v st) (hd : st.dead = false) (ha : st.acts < 1000000) : Calls Try.prog 71 #[.pointer (some ⟨g, 0, none⟩)] w fun e w' => e = .returned (.int .i64 0) ∧ DiskAt w' B g q m k v { st with acts := st.acts + 1 } ∧ Keeps [g] w w' := by
  have hdead : ∀ w', DiskAt w' B g q m k v st → Calls Try.prog 20 #[.pointer (some ⟨g, 0, none⟩)] w' fun e w2 => e = .returned (.bool false) ∧ Below w'.heap.size w' w2 := fun w' h => by have := dead_any h; rw [hd] at this; exact this
  have hge := h.ge.1
  have hB : ∀ w', DiskAt w' B g q m k v st → B ≤ w'.heap.size := fun w' h => Nat.le_trans h.ge.1 (Nat.le_of_lt h.lt.1)
  have e1 : IntKind.i64.wrap ((st.acts : Int) + 1) = ((st.acts + 1 : Nat) : Int) := by rw [IntKind.wrap_i64]; omega
  have e2 : wrap64 ((st.acts : Int) + 1) = ((st.acts + 1 : Nat) : Int) := by unfold wrap64; omega
  have hset : ∀ w', DiskAt w' B g q m k v st → DiskAt (w'.setCell ⟨g, 4, none⟩ (.int .i64 ((st.acts : Int) + 1))) B g q m k v { st with acts := st.acts + 1 } := fun w' h => h.setActs (st.acts + 1) ((st.acts : Int) + 1) (by omega)
  have hlk : ∀ w', DiskAt w' B g q m k v { st with acts := st.acts + 1 } → (Instr.lookup 114 (.map (some k)) (.int .i64 ((st.acts : Int) + 1)) true).run Try.prog w' = .ok (.tuple #[.int .u64 0, .bool false]) w' := fun w' h => h.noCut ((st.acts : Int) + 1) (by omega)
  have hd0 := hdead w h
  have hbel := fun w' b => h.below (w' := w') b
  have hae : -9223372036854775808 ≤ (st.acts : Int) + 1 ∧ (st.acts : Int) + 1 ≤ 9223372036854775807 := by omega
  replace hset := Lib.hid hset; replace hlk := Lib.hid hlk; replace hbel := Lib.hid hbel; replace hB := Lib.hid hB
  have h0 := Lib.hid h
  clear h hdead hd
  go_enter Try.func71, Try.ntmps71
  go_wp2_with (go_at_call 20; (with_reducible refine hd0.mono ?_); rintro e w1 ⟨rfl, b1⟩; have h1 := hbel.out w1 b1; obtain ⟨d0, d1, d2, d3, d4, d5⟩ := h1.cells; have f4 := h1.free 4; have hs := hset.out w1 h1; obtain ⟨x0, x1, x2, x3, x4, x5⟩ := hs.cells; have l0 := hlk.out _ hs; have l1 := hlk.out _ (hs.below (Below.refl _ _).drew); have l2 := fun n => hlk.out _ (hs.below (belowDrewN (Below.refl _ _) n)); replace hs := Lib.hid hs; replace h1 := Lib.hid h1)
  go_quiet (fail)
  go_wp2_with fail
  go_ret
  exact ⟨rfl, hs.out.below (belowDrewN (Below.refl _ _) _), ((Keeps.ofBelow b1 [g]).setCell (p := ⟨g, 4, none⟩) (Or.inl (by simp)) _).drewN _⟩
/-- what is seen of a block -/
def DSt.see (st : DSt) (n : Nat) : List UInt8 := match st.f (n : Int) with | some t => t | none => st.sure.getD n []
theorem seen_any (h : DiskAt w B g q m k v st) (n : Nat) (hn : n < st.sure.length) (hl : st.sure.length ≤ 100000) : Calls Try.prog 77 #[.pointer (some ⟨g, 0, none⟩), .int .i64 (n : Int)] w fun e w' => e = .returned (.string (str (st.see n))) ∧ Below w.heap.size w w' := by
  obtain ⟨d0, d1, d2, d3, d4, d5⟩ := h.cells
  obtain ⟨s, hr, hs⟩ := h.look (n : Int) (by omega)
  have e1 : (0 : Int) ≤ (n : Int) := by omega
  have e2 : (n : Int) < (st.sure.length : Int) := by omega
  obtain ⟨t0, ht0⟩ : ∃ t, st.sure[n]? = some t := ⟨_, List.getElem?_eq_getElem hn⟩
  have hc := h.sure.cell ht0
  have hb1 := (Below.refl w.heap.size w).alloc (Nat.le_refl _) (.cells #[.string s] 123)
  have D1 := h.below hb1
  obtain ⟨x0, x1, x2, x3, x4, x5⟩ := D1.cells
  have xc := D1.sure.cell ht0
  cases hf : st.f (n : Int) with
  | some t =>
    have hsee : st.see n = t := by unfold DSt.see; rw [hf]
    obtain rfl := hs t hf
    rw [hf] at hr
    have hr : (Instr.lookup 113 (.map (some m)) (.int .i64 (n : Int)) true).run Try.prog w = .ok (.tuple #[.agg #[.string (str t)], .bool true]) w := hr
    rw [hsee]
    clear h hs hf hsee ht0 D1 hl hn
    replace hb1 := Lib.hid hb1
    go_enter Try.func77, Try.ntmps77
    go_wp2
    go_outline
    go_ret
    exact ⟨rfl, hb1.out⟩
  | none =>
    have hsee : st.see n = t0 := by unfold DSt.see; rw [hf]; simp [List.getD, ht0]
    rw [hf] at hr
    have hr : (Instr.lookup 113 (.map (some m)) (.int .i64 (n : Int)) true).run Try.prog w = .ok (.tuple #[.agg #[.string s], .bool false]) w := hr
    rw [hsee]
    clear h hs hf hsee ht0 D1 hl hn
    replace hb1 := Lib.hid hb1
    go_enter Try.func77, Try.ntmps77
    go_wp2
    go_outline
    go_ret
    exact ⟨rfl, hb1.out⟩
theorem read_any (h : DiskAt w B g q m k v st) (hd : st.dead = false) (n : Nat) (hn : n < st.sure.length) (hl : st.sure.length ≤ 100000) : Calls Try.prog 30 #[.pointer (some ⟨g, 0, none⟩), .int .i64 (n : Int)] w fun e w' => e = .returned (.tuple #[.string (str (st.see n)), .int .i64 0]) ∧ Below w.heap.size w w' := by
  have hdead : Calls Try.prog 20 #[.pointer (some ⟨g, 0, none⟩)] w fun e w2 => e = .returned (.bool false) ∧ Below w.heap.size w w2 := by have := dead_any h; rw [hd] at this; exact this
  have hseen : ∀ w', Below w.heap.size w w' → Calls Try.prog 77 #[.pointer (some ⟨g, 0, none⟩), .int .i64 (n : Int)] w' fun e w2 => e = .returned (.string (str (st.see n))) ∧ Below w'.heap.size w' w2 := fun w' b => seen_any (h.below b) n hn hl
  have hcell : ∀ w', Below w.heap.size w w' → w'.cell? ⟨g, 0, none⟩ = some (.slice (some ⟨q, 0, none⟩) st.sure.length st.sure.length) := fun w' b => (h.below b).cells.1
  have e1 : ¬ (n : Int) < 0 := by omega
  have e2 : ¬ (st.sure.length : Int) ≤ (n : Int) := by omega
  replace hdead := Lib.hid hdead; replace hseen := Lib.hid hseen; replace hcell := Lib.hid hcell
  clear h hd hn hl
  go_enter Try.func30, Try.ntmps30
  go_wp2_with (first
    | (go_at_call 20; (with_reducible refine hdead.out.mono ?_); rintro e w1 ⟨rfl, b1⟩; have d0 := hcell.out w1 b1; replace b1 := Lib.hid b1)
    | (go_at_call 77; (with_reducible refine (hseen.out _ b1.out).mono ?_); rintro e w2 ⟨rfl, b2⟩; replace b2 := Lib.hid (belowCont b1.out b2)))
  go_outline
  all_goals go_returns
  exact ⟨rfl, b2.out⟩
end
end Go.Proofs.Ytdhboldmffiklab.disk
