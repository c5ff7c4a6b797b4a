/- What sessions hold (package lock): the table in memory; session, New, Held, Len. No condition but the table's own. -/
import Derived.Test.YtmeaidkbkelclabHp
import Derived.Test.YtmeaidkbkelclabRangeSt
namespace Go.Proofs.Ytmeaidkbkelclab.lock
open Go.RowKit
attribute [local go_sem ↓] Go.wp_at_zero Go.wp_at_succ
attribute [local go_sem] str_size
set_option linter.unusedVariables false
set_option maxRecDepth 100000

/-- sixteen numbers -/
def cells16 (f : Nat → Nat) : List Value := (List.range 16).map fun x => Value.int .i64 (f x : Int)
theorem cells16_len (f : Nat → Nat) : (cells16 f).length = 16 := by simp [cells16]
theorem cells16_at (f : Nat → Nat) {x : Nat} (h : x < 16) : (cells16 f)[x]? = some (.int .i64 (f x : Int)) := by simp [cells16, h]
theorem cells16_ext {f k : Nat → Nat} (h : ∀ x, x < 16 → f x = k x) : cells16 f = cells16 k := by
  unfold cells16
  exact List.map_congr_left fun x hx => by rw [h x (List.mem_range.1 hx)]
theorem cells16_inj {f k : Nat → Nat} (h : cells16 f = cells16 k) {x : Nat} (hx : x < 16) : f x = k x := by
  have := congrArg (fun l : List Value => l[x]?) h
  simp only [cells16_at _ hx] at this
  injection this with this; injection this with _ this; omega
def holdV (f : Nat → Nat) : Value := .agg (cells16 f).toArray
section
variable {H : Type}
def toD : Value → DataW H
  | .int .i64 a => .lit (.int .i64 a)
  | _ => .nil
def isI : Value → Bool
  | .int .i64 _ => true
  | _ => false
def holdD (f : Nat → Nat) : DataW H := .agg ((List.range 16).map fun x => .lit (.int .i64 (f x : Int)))
/-- how the holders of a thing read -/
def holdElem : Value → Option (DataW H × List MemPlace)
  | .agg cs => if cs.toList.all isI then some (.agg (cs.toList.map toD), []) else none
  | _ => none
theorem holdElem_mk (f : Nat → Nat) : holdElem (H := H) (holdV f) = some (holdD f, []) := by
  unfold holdV holdElem
  have h1 : (cells16 f).toArray.toList.all isI = true := by
    rw [List.all_eq_true]
    intro v hv
    obtain ⟨x, _, rfl⟩ := List.mem_map.1 (show v ∈ (List.range 16).map fun x => Value.int .i64 (f x : Int) from hv)
    rfl
  simp only [h1, if_true]
  unfold holdD cells16
  simp only [List.map_map]
  rfl
theorem holdElem_inv {v : Value} {f : Nat → Nat} {ps : List MemPlace} (h : holdElem (H := H) v = some (holdD f, ps)) : v = holdV f := by
  unfold holdElem at h
  split at h
  · rename_i cs
    split at h
    · rename_i hall
      injection h with h
      have h1 := congrArg Prod.fst h
      simp only [holdD] at h1
      injection h1 with h1
      unfold holdV
      congr 1
      rw [← Array.toList_inj]
      show cs.toList = cells16 f
      apply List.ext_getElem?; intro i
      have h2 := congrArg (fun l : List (DataW H) => l[i]?) h1
      simp only [List.getElem?_map] at h2
      unfold cells16
      rw [List.getElem?_map]
      rw [List.all_eq_true] at hall
      cases hc : cs.toList[i]? with
      | none =>
        rw [hc] at h2
        cases hr : (List.range 16)[i]? with
        | none => rfl
        | some x => rw [hr] at h2; simp at h2
      | some u =>
        rw [hc] at h2
        have hu := hall u (List.mem_of_getElem? hc)
        cases hr : (List.range 16)[i]? with
        | none => rw [hr] at h2; simp at h2
        | some x =>
          rw [hr] at h2
          simp only [Option.map_some, Option.some.injEq] at h2 ⊢
          unfold isI at hu
          split at hu
          · unfold toD at h2
            injection h2 with h2
            injection h2 with _ h2
            rw [h2]
          · cases hu
    · cases h
  · cases h
end
/-- does anybody hold it? -/
def anyH (f : Nat → Nat) : Bool := (List.range 16).any fun x => decide (f x ≠ 0)
theorem anyH_false {f : Nat → Nat} (h : anyH f = false) {x : Nat} (hx : x < 16) : f x = 0 := by
  unfold anyH at h
  rw [List.any_eq_false] at h
  have := h x (List.mem_range.2 hx)
  simpa using this
theorem anyH_true {f : Nat → Nat} {x : Nat} (hx : x < 16) (h : f x ≠ 0) : anyH f = true := by
  unfold anyH
  rw [List.any_eq_true]
  exact ⟨x, List.mem_range.2 hx, by simpa using h⟩
theorem holdD_none {H : Type} {f : Nat → Nat} (h : anyH f = false) : holdD (H := H) f = holdD fun _ => 0 := by
  unfold holdD
  congr 1
  exact List.map_congr_left fun x hx => by rw [anyH_false h (List.mem_range.1 hx)]
/-- the table at block g: how each holds each thing; how many things each holds -/
structure LockAt (w : World) (g m N : Nat) (T : List UInt8 → Nat → Nat) (held : Nat → Nat) (things : Nat) : Prop where
  blk : w.heap[g]? = some (.cells (Value.map (some m) :: cells16 held).toArray 72 (0, 0))
  own : ∃ (D : DataW Unit) (c : Nat), w.ownsMap Try.prog 9 holdElem m c D ∧ c ≤ N ∧ (∀ k, Maps.has D (.string k) = anyH (T k)) ∧ (∀ k z, anyH (T k) = true → D.atKey (.string k) z = holdD (T k)) ∧ Maps.size D = things
section
variable {w w' : World} {g m N : Nat} {T : List UInt8 → Nat → Nat} {held : Nat → Nat} {things : Nat}
theorem LockAt.lt (h : LockAt w g m N T held things) : g < w.heap.size ∧ m < w.heap.size := by
  obtain ⟨D, c, h1, _⟩ := h.own
  exact ⟨block_lt h.blk, ownsMap_lt h1⟩
theorem LockAt.ne (h : LockAt w g m N T held things) : g ≠ m := by
  rintro rfl
  obtain ⟨D, c, ⟨es, clock, hm, _⟩, _⟩ := h.own
  have := h.blk.symm.trans hm
  cases this
theorem LockAt.keep (h : LockAt w g m N T held things) {X : List Nat} (k : Keeps X w w') (hg : g ∉ X) (hm : m ∉ X) : LockAt w' g m N T held things := by
  obtain ⟨l1, l2⟩ := h.lt
  obtain ⟨D, c, h1, h2⟩ := h.own
  exact ⟨(k.block _ l1 hg).trans h.blk, D, c, ownsMap_of_block h1 (k.block _ l2 hm), h2⟩
theorem LockAt.below (h : LockAt w g m N T held things) (k : Below w.heap.size w w') : LockAt w' g m N T held things := h.keep (Keeps.ofBelow k []) (by simp) (by simp)
theorem LockAt.cell0 (h : LockAt w g m N T held things) : w.cell? ⟨g, 0, none⟩ = some (.map (some m)) := (cell_of_row _ _ 0 _ _ _ h.blk).trans rfl
theorem LockAt.cellH (h : LockAt w g m N T held things) {x : Nat} (hx : x < 16) : w.cell? ⟨g, x + 1, none⟩ = some (.int .i64 (held x : Int)) := by
  rw [cell_of_row _ _ (x + 1) _ _ _ h.blk]
  have := cells16_at held hx
  simpa using this
theorem LockAt.cellH' (h : LockAt w g m N T held things) {x : Nat} (hx : x < 16) : w.cell? ⟨g, 1 + x, none⟩ = some (.int .i64 (held x : Int)) := by
  rw [Nat.add_comm]; exact h.cellH hx
theorem LockAt.free (h : LockAt w g m N T held things) (i : Nat) : w.frozen? ⟨g, i, none⟩ = false := by simp [World.frozen?, h.blk]
theorem keyedStr : Maps.Keyed Try.prog 9 := Maps.string_keyed Try.underlying9
theorem keyStr (k : List UInt8) (hk : k.length ≤ 1000000000) : keyOf Try.prog 9 (.string (str k)) = some (.string k) := WideMaps.keyOf_string_mk Try.underlying9 (by rw [str_size]; unfold maxLen; omega)
theorem zeroHold (w : World) : (zeroValue 73).run Try.prog w = .ok (holdV fun _ => 0) w := by kernel_rfl
/-- how a thing is held -/
theorem LockAt.look (h : LockAt w g m N T held things) (k : List UInt8) (hk : k.length ≤ 1000000000) : (Instr.lookup 69 (.map (some m)) (.string (str k)) false).run Try.prog w = .ok (holdV (T k)) w := by
  obtain ⟨D, c, h1, h2, h3, h4, h5⟩ := h.own
  obtain ⟨v, ps, hr, hv⟩ := h1.lookup keyedStr Try.underlying69 (zeroHold w) (holdElem_mk _) (keyStr k hk)
  have e : D.atKey (.string k) (holdD fun _ => 0) = holdD (T k) := by
    cases hq : anyH (T k) with
    | true => exact h4 k _ hq
    | false =>
      have := h3 k
      rw [hq] at this
      rw [Maps.atKey_of_not_has this, holdD_none hq]
  rw [e] at hv
  rw [holdElem_inv hv] at hr
  exact hr
theorem LockAt.len (h : LockAt w g m N T held things) (ty : TypeId) : (Builtin.len_ #[69] ty #[.map (some m)]).run Try.prog w = .ok (.int .i64 things) w := by
  obtain ⟨D, c, h1, h2, h3, h4, h5⟩ := h.own
  have := h1.len Try.underlying69 ty
  rw [h5] at this; exact this
theorem session_any (n : Int) (w : World) : Calls Try.prog 24 #[.int .i64 n] w fun e w' => e = .returned (.bool (decide (0 ≤ n ∧ n < 16))) ∧ w = w' := by
  by_cases h1 : 0 ≤ n
  · by_cases h2 : n < 16
    · rw [decide_eq_true (p := 0 ≤ n ∧ n < 16) ⟨h1, h2⟩]
      go_enter Try.func24, Try.ntmps24
      go_wp2
      go_ret
      exact ⟨rfl, rfl⟩
    · rw [decide_eq_false (p := 0 ≤ n ∧ n < 16) (by omega)]
      go_enter Try.func24, Try.ntmps24
      go_wp2
      go_ret
      exact ⟨rfl, rfl⟩
  · rw [decide_eq_false (p := 0 ≤ n ∧ n < 16) (by omega)]
    go_enter Try.func24, Try.ntmps24
    go_wp2
    go_ret
    exact ⟨rfl, rfl⟩
theorem session_yes (n : Int) (h : 0 ≤ n ∧ n < 16) (w : World) : Calls Try.prog 24 #[.int .i64 n] w fun e w' => e = .returned (.bool true) ∧ w = w' := by
  have := session_any n w; rwa [decide_eq_true (p := 0 ≤ n ∧ n < 16) h] at this
theorem session_no (n : Int) (h : ¬ (0 ≤ n ∧ n < 16)) (w : World) : Calls Try.prog 24 #[.int .i64 n] w fun e w' => e = .returned (.bool false) ∧ w = w' := by
  have := session_any n w; rwa [decide_eq_false (p := 0 ≤ n ∧ n < 16) h] at this
theorem table_made (w : World) : LockAt ((w.alloc (.map #[] 0)).alloc (.cells (Value.map (some w.heap.size) :: cells16 fun _ => 0).toArray 72)) (w.heap.size + 1) w.heap.size 0 (fun _ _ => 0) (fun _ => 0) 0 := by
  have h0 : ((w.alloc (.map #[] 0)).alloc (.cells (Value.map (some w.heap.size) :: cells16 fun _ => 0).toArray 72)).heap[w.heap.size + 1]? = some (.cells (Value.map (some w.heap.size) :: cells16 fun _ => 0).toArray 72 (0, 0)) := by
    have := heap_alloc_new (w.alloc (.map #[] 0)) (.cells (Value.map (some w.heap.size) :: cells16 fun _ => 0).toArray 72)
    simpa using this
  exact ⟨h0, .map [], 0, ownsMap_of_block (World.ownsMap_made w _ _ _) (Below.heap_alloc _ _ _ (by simp)), Nat.le_refl _, fun _ => rfl, (fun _ _ h => by cases h), rfl⟩
theorem new_any (w : World) : Calls Try.prog 13 #[] w fun e w' => e = .returned (.pointer (some ⟨w.heap.size + 1, 0, none⟩)) ∧ LockAt w' (w.heap.size + 1) w.heap.size 0 (fun _ _ => 0) (fun _ => 0) 0 ∧ Below w.heap.size w w' := by
  have hmm := @run_makeMap Try.prog
  go_enter Try.func13, Try.ntmps13
  go_wp2
  go_ret
  exact ⟨rfl, table_made w, by go_grown⟩
theorem len_any (h : LockAt w g m N T held things) : Calls Try.prog 27 #[.pointer (some ⟨g, 0, none⟩)] w fun e w' => e = .returned (.int .i64 (things : Int)) ∧ Below w.heap.size w w' := by
  have c0 := h.cell0
  have hl := fun ty => h.len ty
  clear h
  go_enter Try.func27, Try.ntmps27
  go_wp2
  go_ret
  exact ⟨rfl, by go_grown⟩
theorem len_nil (w : World) : Calls Try.prog 27 #[.pointer none] w fun e w' => e = .returned (.int .i64 0) ∧ Below w.heap.size w w' := by
  go_enter Try.func27, Try.ntmps27
  go_wp2
  go_ret
  exact ⟨rfl, by go_grown⟩
theorem held_any (h : LockAt w g m N T held things) (x : Nat) (hx : x < 16) : Calls Try.prog 23 #[.pointer (some ⟨g, 0, none⟩), .int .i64 (x : Int)] w fun e w' => e = .returned (.int .i64 (held x : Int)) ∧ Below w.heap.size w w' := by
  have hs := session_yes (x : Int) ⟨by omega, by omega⟩
  have c1 := h.cellH' hx
  have e1 : (0 : Int) ≤ (x : Int) := by omega
  have e2 : (x : Int) < 16 := by omega
  replace hs := Lib.hid hs
  clear h
  go_enter Try.func23, Try.ntmps23
  go_wp2_with (go_at_call 24; (with_reducible refine (hs.out _).mono ?_); rintro e w1 ⟨rfl, rfl⟩)
  go_outline
  go_ret
  exact ⟨rfl, by go_grown⟩
theorem held_out (p : Option Addr) (x : Int) (hx : p = none ∨ ¬ (0 ≤ x ∧ x < 16)) (w : World) : Calls Try.prog 23 #[.pointer p, .int .i64 x] w fun e w' => e = .returned (.int .i64 0) ∧ Below w.heap.size w w' := by
  rcases p with _ | p
  · go_enter Try.func23, Try.ntmps23
    go_wp2
    go_ret
    exact ⟨rfl, by go_grown⟩
  · have hs := session_no x (hx.resolve_left (by simp))
    replace hs := Lib.hid hs
    clear hx
    go_enter Try.func23, Try.ntmps23
    go_wp2_with (go_at_call 24; (with_reducible refine (hs.out _).mono ?_); rintro e w1 ⟨rfl, rfl⟩)
    go_ret
    exact ⟨rfl, by go_grown⟩
end
end Go.Proofs.Ytmeaidkbkelclab.lock
