/- Who waits for whom: Set. No condition but the graph's own. -/
import Derived.Test.YtmlphodmbkceoabWait
import Derived.Sort.OwnSortedInts
namespace Go.Proofs.Ytmlphodmbkceoab.wait
open Go.RowKit
open Go.Sort
attribute [local go_sem ↓] Go.wp_at_zero Go.wp_at_succ
set_option linter.unusedVariables false
set_option maxRecDepth 100000

/-- those of a list that may be waited for by one, in order, each once -/
def okZ (who : Nat) (z : Int) : Bool := decide (0 ≤ z ∧ z < 16) && !(z == (who : Int))
def pick (who : Nat) (zs : List Int) : List Int := zs.filter (okZ who)
def sortZ (zs : List Int) : List Int := Lib.compact (zs.mergeSort fun x y => decide (x ≤ y))
theorem set_out (p : Option Addr) (who : Int) (v : Value) (hw : p = none ∨ ¬ (0 ≤ who ∧ who < 16)) (W : World) : Calls Try.prog 31 #[.pointer p, .int .i64 who, v] W fun e w' => e = .returned (.tuple #[]) ∧ W = w' := by
  rcases p with _ | p
  · go_enter Try.func31, Try.ntmps31
    go_wp2
    go_returns
    exact ⟨rfl, rfl⟩
  · have hss := session_no who (hw.resolve_left (by simp))
    replace hss := Lib.hid hss
    clear hw
    go_enter Try.func31, Try.ntmps31
    go_wp2_with (go_at_call 41; (with_reducible refine (hss.out _).mono ?_); rintro e w1 ⟨rfl, rfl⟩)
    go_returns
    exact ⟨rfl, rfl⟩
theorem intsInfo : (Try.prog.info? 3).map (fun i => (i.zero, i.size, i.bytes)) = some (some (.int .i64 0), 1, 8) := by kernel_rfl
theorem ints_one (l : List Int) : ∀ u ∈ l.map (Value.int .i64), u.oneCell' = true := fun u hu => by
  obtain ⟨s, _, rfl⟩ := List.mem_map.1 hu
  rfl
theorem ins_nil (w : World) : Calls Try.prog 54 #[.slice none 0 0, .int .i64 0, .int .i64 0] w fun e w' => e = .returned (.tuple #[]) ∧ w = w' := by
  go_enter Try.func54, Try.ntmps54
  go_wp2
  go_loop [6] (fun i => i = .int .i64 1) (fun i => 0)
  case atStart => rfl
  case round =>
    subst hrel
    go_wp2
    go_returns
    exact ⟨rfl, rfl⟩
theorem pdq_nil (w : World) : Calls Try.prog 51 #[.slice none 0 0, .int .i64 0, .int .i64 0, .int .i64 0] w fun e w' => e = .returned (.tuple #[]) ∧ w = w' := by
  have c := fun w => ins_nil w
  replace c := Lib.hid c
  go_enter Try.func51, Try.ntmps51
  go_wp2
  go_loop [1, 2, 3] (fun i j k => i = .int .i64 0 ∧ j = .int .i64 0 ∧ k = .int .i64 0) (fun i j k => 0)
  case atStart => exact ⟨rfl, rfl, rfl⟩
  case round =>
    obtain ⟨rfl, rfl, rfl⟩ := hrel
    go_wp2_with (go_at_call 54; (with_reducible refine (c.out _).mono ?_); rintro e w1 ⟨rfl, rfl⟩)
    go_returns
    exact ⟨rfl, rfl⟩
theorem len64_zero (w : World) : Calls Try.prog 64 #[.int .u64 0] w fun e w' => e = .returned (.int .i64 0) ∧ w = w' := by
  have e0 : Lib.len8 0 = 0 := by decide
  go_enter Try.func64, Try.ntmps64
  go_wp2
  go_ret
  exact ⟨rfl, rfl⟩
theorem len_zero (w : World) : Calls Try.prog 52 #[.int .u64 0] w fun e w' => e = .returned (.int .i64 0) ∧ w = w' := by
  have c := fun w => len64_zero w
  replace c := Lib.hid c
  go_enter Try.func52, Try.ntmps52
  go_wp2_with (go_at_call 64; (with_reducible refine (c.out _).mono ?_); rintro e w1 ⟨rfl, rfl⟩)
  go_ret
  exact ⟨rfl, rfl⟩
theorem sort_nil (w : World) : Calls Try.prog 42 #[.slice none 0 0] w fun e w' => e = .returned (.tuple #[]) ∧ w = w' := by
  have c := fun w => pdq_nil w
  have c2 := fun w => len_zero w
  replace c := Lib.hid c; replace c2 := Lib.hid c2
  go_enter Try.func42, Try.ntmps42
  go_wp2_with (first
    | (go_at_call 51; (with_reducible refine (c.out _).mono ?_); rintro e w1 ⟨rfl, rfl⟩)
    | (go_at_call 52; (with_reducible refine (c2.out _).mono ?_); rintro e w1 ⟨rfl, rfl⟩))
  go_returns
  exact ⟨rfl, rfl⟩
/-- how a row that the call holds is turned in place: the same block, its first cells laid anew -/
theorem put_row {w W : World} {zs ts : List Int} {g cap : Nat} {cur : Array Value} (hl : ts.length = zs.length) (hg : W.heap[g]? = some (.cells cur 3 (0, 0))) (h1 : zs.length ≤ cap) (h2 : cap ≤ maxLen) (h3 : cur.size = cap * 1) (h : Hp w [] [.row 3 1 (.slice (some ⟨g, 0, none⟩) zs.length cap) zs.length (zs.map (Value.int .i64))] W) (n : Nat) (os : Array Obj) :
    Hp w [] [.row 3 1 (.slice (some ⟨g, 0, none⟩) zs.length cap) zs.length (ts.map (Value.int .i64))] (grow (putRow (Value.int .i64) (Sort.ahead W n) g 0 ts.toArray) os) := by
  have hk := grownBy_sortedI (w := W) (g := g) (n := n) (os := os) ts.toArray
  refine h.upd (i := 0) rfl (.row 3 1 (.slice (some ⟨g, 0, none⟩) zs.length cap) zs.length (ts.map (Value.int .i64))) fun fp hr => ?_
  obtain ⟨_, rfl⟩ := hr
  refine ⟨[g], ⟨ownsRow_sortedI hl (Nat.zero_le _) hg h1 h2 h3, rfl⟩, by simp, ⟨hk.os, hk.tape, hk.output, hk.size, fun k hk2 hx => hk.block k hk2 (fun e => hx (by injection e with e; rw [e]; simp [Value.ownBlock]))⟩, fun b hb => ?_⟩
  simp at hb; subst hb
  exact ⟨Nat.lt_of_lt_of_le (block_lt hg) hk.size, .inl (by simp [Value.ownBlock])⟩
theorem compact_len (zs : List Int) : (Lib.compact zs).length ≤ zs.length := by
  unfold Lib.compact Lib.compactUpTo
  rw [List.length_map]
  exact Nat.le_trans (List.length_filter_le _ _) (by simp)
theorem compact_nil : Lib.compact ([] : List Int) = [] := rfl
/-- the library's sort of a row that the call made, and its Compact -/
theorem sort_row {w W : World} {v : Value} {zs : List Int} (h : Hp w [] [.row 3 1 v zs.length (zs.map (Value.int .i64))] W) (hn : zs.length ≤ 100000000000000) :
    Calls Try.prog 42 #[v] W fun e w' => e = .returned (.tuple #[]) ∧ Hp w [] [.row 3 1 v zs.length ((zs.mergeSort fun x y => decide (x ≤ y)).map (Value.int .i64))] w' := by
  have hl : (zs.mergeSort fun x y => decide (x ≤ y)).length = zs.length := List.length_mergeSort _
  rcases (h.row (i := 0) rfl).2 with ⟨rfl, h0⟩ | ⟨g, cap, cur, rfl, _, hg, h1, h2, h3, h4⟩
  · have : zs = [] := List.length_eq_zero_iff.1 h0
    subst this
    exact (sort_nil W).mono fun e w' ⟨he, hw⟩ => ⟨he, by subst hw; simpa using h⟩
  · exact (Try.slices_Sort_int g 0 cap zs W (holds_of_blockI hg (by simpa using h4)) (block_lt hg) (by omega)).mono fun e w' ⟨he, n, os, hw⟩ => ⟨he, by subst hw; exact put_row hl hg h1 h2 h3 h n os⟩
theorem compact_row {w W : World} {v : Value} {zs : List Int} (h : Hp w [] [.row 3 1 v zs.length (zs.map (Value.int .i64))] W) (hn : zs.length ≤ 100000000000000) :
    Calls Try.prog 43 #[v] W fun e w' => ∃ v', e = .returned v' ∧ Hp w [] [.row 3 1 v' (Lib.compact zs).length ((Lib.compact zs).map (Value.int .i64))] w' := by
  have hcl := compact_len zs
  have hrow := h.row (i := 0) rfl
  rcases hrow.2 with ⟨rfl, h0⟩ | ⟨g, cap, cur, rfl, _, hg, h1, h2, h3, h4⟩
  · have : zs = [] := List.length_eq_zero_iff.1 h0
    subst this
    exact (Try.slices_Compact_int_empty none 0 W).mono fun e w' ⟨he, hw⟩ => ⟨_, he, by subst hw; rw [compact_nil]; exact h⟩
  · refine (Try.slices_Compact_int g 0 cap zs W (holds_of_blockI hg (by simpa using h4)) (by omega) h1).mono fun e w' ⟨he, q, hw⟩ => ⟨_, he, ?_⟩
    subst hw
    have hp := put_row (ts := Lib.compact zs ++ List.replicate (zs.length - (Lib.compact zs).length) 0) (by simp; omega) hg h1 h2 h3 h q #[]
    rw [grow_empty] at hp
    refine hp.upd (i := 0) rfl (.row 3 1 (.slice (some ⟨g, 0, none⟩) (Lib.compact zs).length cap) (Lib.compact zs).length ((Lib.compact zs).map (Value.int .i64))) fun fp hr => ?_
    obtain ⟨hr, rfl⟩ := hr
    refine ⟨[g], ⟨⟨by simp, .inr ?_⟩, rfl⟩, by simp, Keeps.refl _ _, fun b hb => ?_⟩
    · rcases hr.2 with ⟨hv, _⟩ | ⟨g', cap', cur', hv, _, hg', h1', h2', h3', h4'⟩
      · cases hv
      · injection hv with hv _ hc; injection hv with hv; injection hv with hv _ _
        subst hv; subst hc
        refine ⟨g, cap, cur', rfl, Nat.zero_le _, hg', by omega, h2', h3', ?_⟩
        have := congrArg (List.take ((Lib.compact zs).length * 1)) h4'
        rw [List.take_take] at this
        rw [show min ((Lib.compact zs).length * 1) (zs.length * 1) = (Lib.compact zs).length * 1 by omega] at this
        rw [this]; simp
    · simp at hb; subst hb
      rcases hr.2 with ⟨hv, _⟩ | ⟨g', cap', cur', hv, _, hg', _⟩
      · cases hv
      · injection hv with hv _ hc; injection hv with hv; injection hv with hv _ _
        subst hv
        exact ⟨block_lt hg', .inl (by simp [Value.ownBlock])⟩
end Go.Proofs.Ytmlphodmbkceoab.wait
