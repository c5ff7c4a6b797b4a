/- What sessions hold: Take. No condition but the table's own. -/
import Derived.Test.YtmeaidkbkelclabLock2
import Derived.Test.YtmeaidkbkelclabTail
import Derived.Deep.WholeRow
import Derived.StillTailTactics
namespace Go.Proofs.Ytmeaidkbkelclab.lock
open Go.RowKit
attribute [local go_sem ↓] Go.wp_at_zero Go.wp_at_succ
attribute [local go_sem] str_size
set_option linter.unusedVariables false
set_option maxRecDepth 100000

theorem take_bad (p : Option Addr) (who : Int) (s : ByteArray) (al : Bool) (w : World) (h : p = none ∨ ¬ (0 ≤ who ∧ who < 16) ∨ s = ⟨#[]⟩) :
    Calls Try.prog 16 #[.pointer p, .int .i64 who, .agg #[.string s, .bool al]] w fun e w' => e = .returned (.tuple #[.slice none 0 0, .int .i64 1]) ∧ Below w.heap.size w w' := by
  have hc0 := newCell w #[.string s, .bool al] 56 0
  simp at hc0
  by_cases hp : p = none
  · subst hp
    clear h
    go_enter Try.func16, Try.ntmps16
    go_wp2
    go_ret2
    exact ⟨rfl, by go_grown⟩
  · obtain ⟨q, rfl⟩ := Option.ne_none_iff_exists'.1 hp
    by_cases hw : 0 ≤ who ∧ who < 16
    · obtain rfl : s = ⟨#[]⟩ := (h.resolve_left hp).resolve_left (fun h => h hw)
      have hs := session_yes who hw
      replace hs := Lib.hid hs
      clear h hp hw
      go_enter Try.func16, Try.ntmps16
      go_wp2_with (go_at_call 24; (with_reducible refine (hs.out _).mono ?_); rintro e w1 ⟨rfl, rfl⟩)
      go_ret2
      exact ⟨rfl, by go_grown⟩
    · have hs := session_no who hw
      replace hs := Lib.hid hs
      clear h hp hw
      go_enter Try.func16, Try.ntmps16
      go_wp2_with (go_at_call 24; (with_reducible refine (hs.out _).mono ?_); rintro e w1 ⟨rfl, rfl⟩)
      go_ret2
      exact ⟨rfl, by go_grown⟩
theorem cells16_set (f : Nat → Nat) {x : Nat} (hx : x < 16) (v : Nat) (z : Int) (hz : z = (v : Int)) : (cells16 f).toArray.setIfInBounds x (.int .i64 z) = (cells16 fun y => if y = x then v else f y).toArray := by
  subst hz
  apply Array.ext_getElem?; intro j
  rw [Array.getElem?_setIfInBounds]
  by_cases hj : j < 16
  · have e1 := cells16_at f hj
    have e2 := cells16_at (fun y => if y = x then v else f y) hj
    simp only [List.getElem?_toArray, List.size_toArray, cells16_len]
    rw [e1, e2]
    by_cases h : x = j
    · subst h; simp [hx]
    · have h2 : ¬ j = x := fun e => h e.symm
      simp [h, h2]
  · have n1 : (cells16 f).toArray[j]? = none := Array.getElem?_eq_none (by simp [cells16_len]; omega)
    have n2 : (cells16 fun y => if y = x then v else f y).toArray[j]? = none := Array.getElem?_eq_none (by simp [cells16_len]; omega)
    rw [n1, n2, if_neg (by omega)]
/-- how a thing is held behind Take -/
def newH (f : Nat → Nat) (who : Nat) (al : Bool) : Nat → Nat := fun x => if x = who then (if al then 2 else if f who = 0 then 1 else f who) else f x
def heldUp (held f : Nat → Nat) (who : Nat) : Nat → Nat := fun x => if x = who then (if f who = 0 then held who + 1 else held who) else held x
def newT (T : List UInt8 → Nat → Nat) (k : List UInt8) (f : Nat → Nat) : List UInt8 → Nat → Nat := fun j => if j = k then f else T j
def upThings (things : Nat) (f : Nat → Nat) : Nat := if anyH f then things else things + 1
theorem newH_any (f : Nat → Nat) {who : Nat} (hw : who < 16) (al : Bool) : anyH (newH f who al) = true := by
  refine anyH_true hw ?_
  unfold newH
  rw [if_pos rfl]
  cases al with
  | true => simp
  | false => simp only [Bool.false_eq_true, if_false]; split <;> omega
theorem still_load_row {ops : Array Oper} {rest : List Oper} {o : Oper} {a : Act} {w : World} {Q : Act → Prop} {t m e : Nat} (cs : Array Value) (hi : (Try.prog.info? t).map (·.size) = some cs.size) (hu : Try.prog.underlying t = some (.array m e)) (hgd : o.guard = none) (x : Operand) (ho : o.op = .load t x) (g : Nat)
    (hx : a.eval x = .pointer (some ⟨g, 0, none⟩)) (hW : w.heap[g]? = some (.cells cs t (0, 0)))
    (h : wpStill Try.prog ops w Q rest (a.put o.dst (.agg cs))) : wpStill Try.prog ops w Q (o :: rest) a := by
  have hwant : Region.wanted o (yielded ops a.tmps) = true := by simp [Region.wanted, hgd]
  have hrun : (execOp a.eval o).run Try.prog w = .ok (.value (.agg cs)) w := by
    have := run_loadVar_row (P := Try.prog) w g t t _ (0, 0) _ hW hu rfl hi
    simp [execOp, ho, hx, Instr.loadAt, Instr.sureAddr, this, Result.andThen]
  show (if Region.wanted o (yielded ops a.tmps) then o.still Try.prog a w _ else _)
  rw [if_pos hwant]
  unfold Oper.still
  rw [hrun, Oper.stillUpon_value]
  exact h
theorem nilMap (m : Nat) (w : World) : (binOp .eql 69 (.map (some m)) (.map none)).run Try.prog w = .ok (.bool false) w := by kernel_rfl
section
variable {w w' : World} {g m N : Nat} {T : List UInt8 → Nat → Nat} {held : Nat → Nat} {things : Nat}
theorem belowCells {B g : Nat} {a : World} : ∀ (vs : List Value) (o : Nat) (w : World), Below B a w → B ≤ g → Below B a (w.setCells g o vs)
  | [], _, _, h, _ => h
  | v :: vs, o, w, h, hg => belowCells vs (o + 1) _ (h.setCell (p := ⟨g, o, none⟩) hg v) hg
theorem heap_allCells {g : Nat} {e : TypeId} {W : World} {cur : Array Value} (h : W.heap[g]? = some (.cells cur e (0, 0))) (vs : List Value) (hl : vs.length = cur.size) : (W.setCells g 0 vs).heap[g]? = some (.cells vs.toArray e (0, 0)) := by
  obtain ⟨cur', h1, h2, _, h4, h5, _⟩ := heap_setCells vs 0 W cur h
  rw [h1]
  congr 2
  apply Array.ext_getElem?; intro j
  by_cases hj : j < vs.length
  · have := h5 j hj (by omega)
    rw [Nat.zero_add] at this
    rw [this]; simp
  · rw [Array.getElem?_eq_none (by omega), Array.getElem?_eq_none (by simp; omega)]
theorem cells16_one (f : Nat → Nat) : (cells16 f).toArray.all (·.oneCell') = true := by
  rw [Array.all_eq_true_iff_forall_mem]
  intro v hv
  obtain ⟨x, _, rfl⟩ := List.mem_map.1 (show v ∈ (List.range 16).map fun x => Value.int .i64 (f x : Int) by simpa [cells16] using hv)
  rfl
theorem LockAt.setHeld (h : LockAt w g m N T held things) {x : Nat} (hx : x < 16) (n : Nat) (z : Int) (hz : z = (n : Int)) : LockAt (w.setCell ⟨g, 1 + x, none⟩ (.int .i64 z)) g m N T (fun y => if y = x then n else held y) things := by
  subst hz
  obtain ⟨D, c, h1, h2⟩ := h.own
  refine ⟨?_, D, c, ownsMap_of_block h1 (Below.heap_setCell w _ _ m (fun e => h.ne e.symm)), h2⟩
  rw [heap_setCell_same w g (1 + x) _ _ _ h.blk]
  congr 2
  have := cells16_set held hx n (n : Int) rfl
  apply Array.ext_getElem?; intro j
  have e3 := congrArg (fun a : Array Value => a[j - 1]?) this
  rw [Array.getElem?_setIfInBounds] at e3 ⊢
  cases j with
  | zero => simp
  | succ j =>
    simp only [Nat.add_sub_cancel, List.getElem?_toArray, List.getElem?_cons_succ, List.size_toArray, List.length_cons] at e3 ⊢
    by_cases hj : x = j
    · subst hj
      rw [if_pos rfl] at e3
      rw [if_pos (by omega)]
      simp only [cells16_len, hx, if_true] at e3 ⊢
      rw [if_pos (by omega)]; exact e3
    · rw [if_neg hj] at e3
      rw [if_neg (by omega)]; exact e3
theorem LockAt.laid (h : LockAt w g m N T held things) {k : List UInt8} {f : Nat → Nat} {D : DataW Unit} {c : Nat} (hf : anyH f = true) (h1 : w.ownsMap Try.prog 9 holdElem m c D) (h2 : c ≤ N) (h3 : ∀ k, Maps.has D (.string k) = anyH (T k)) (h4 : ∀ k z, anyH (T k) = true → D.atKey (.string k) z = holdD (T k)) (h5 : Maps.size D = things)
    (hown : w'.ownsMap Try.prog 9 holdElem m (c + 1) (D.put (.string k) (holdD f))) (ht : w.mapTurned w' m) : LockAt w' g m (N + 1) (newT T k f) held (upThings things (T k)) ∧ Keeps [m] w w' := by
  have hk2 : Keeps [m] w w' := (Keeps.refl [m] w).turned (Or.inl (by simp)) ht
  have hT := h1.tidy keyedStr
  have hne : ∀ j, j ≠ k → (Lit.string j) ≠ (Lit.string k) := fun j e q => by injection q with q; exact e q
  have hkl : WideAt.IsKeyLit (Lit.string k) := trivial
  refine ⟨⟨(hk2.block _ h.lt.1 (by simpa using h.ne)).trans h.blk, _, _, hown, by omega, fun j => ?_, fun j z hj => ?_, ?_⟩, hk2⟩
  · unfold newT
    by_cases e : j = k
    · subst e; rw [if_pos rfl, Maps.has_put_same hT.isMap hkl, hf]
    · rw [if_neg e, Maps.has_put_other (hne j e), h3]
  · unfold newT at hj ⊢
    by_cases e : j = k
    · subst e; rw [if_pos rfl, Maps.atKey_put_same hT.isMap hkl]
    · rw [if_neg e] at hj ⊢
      rw [Maps.atKey_put_other (hne j e)]; exact h4 j z hj
  · rw [Maps.size_put hT, h3, h5]; rfl
/-- behind the first test, and the look-up -/
theorem take_most (h : LockAt w g m N T held things) (who : Nat) (hw : who < 16) (k : List UInt8) (hk0 : k ≠ []) (hk : k.length ≤ 1000000000) (al : Bool) (h0 : T k who = 0) (hm : 512 ≤ held who) :
    Calls Try.prog 16 #[.pointer (some ⟨g, 0, none⟩), .int .i64 (who : Int), .agg #[.string (str k), .bool al]] w fun e w' => e = .returned (.tuple #[.slice none 0 0, .int .i64 4]) ∧ Below w.heap.size w w' := by
  have hs := session_yes (who : Int) ⟨by omega, by omega⟩
  have hb : Below w.heap.size w (w.alloc (.cells #[.string (str k), .bool al] 56)) := (Below.refl _ _).alloc (Nat.le_refl _) _
  have h1 := h.below hb
  have he : (str k).toList.isEmpty = false := by rw [str_bl]; cases k <;> simp at hk0 ⊢
  have c0 := h1.cell0
  have hlk := fun W (hW : LockAt W g m N T held things) => hW.look k hk
  have hn0 : (w.alloc (.cells #[.string (str k), .bool al] 56)).cell? ⟨w.heap.size, 0, none⟩ = some (.string (str k)) := (newCell w #[.string (str k), .bool al] 56 0).trans rfl
  have hs16 : (cells16 (T k)).toArray.size = 16 := by simp [cells16_len]
  have hC1 := cells16_one (T k)
  have hTk : (cells16 (T k))[who]? = some (.int .i64 (T k who : Int)) := cells16_at _ hw
  unfold holdV at hlk
  obtain ⟨C, hC⟩ : ∃ C, C = cells16 (T k) := ⟨_, rfl⟩
  have hCl : C.length = 16 := by rw [hC]; exact cells16_len _
  have hCi : (Try.prog.info? 73).map (·.size) = some C.length := by rw [hCl]; kernel_rfl
  have hone : ∀ v : Value, v ∈ C → v.oneCell' = true := fun v hv => by
    rw [Array.all_eq_true_iff_forall_mem] at hC1
    exact hC1 v (by rw [← hC]; simpa using hv)
  rw [← hC] at hlk
  have hlt0 : w.heap.size < (w.alloc (.cells #[.string (str k), .bool al] 56)).heap.size := by simp
  replace hlt0 := Lib.hid hlt0; replace hs := Lib.hid hs; replace hC := Lib.hid hC; replace h1 := Lib.hid h1; replace hlk := Lib.hid hlk
  have l0 := hlk.out _ h1.out
  clear h hs16 hC1 hTk
  go_enter Try.func16, Try.ntmps16
  go_wp2_with (go_at_call 24; (with_reducible refine (hs.out _).mono ?_); rintro e w1 ⟨rfl, rfl⟩)
  generalize w.alloc (.cells #[.string (str k), .bool al] 56) = W0 at *
  have hS : ∀ W', Below W0.heap.size W0 W' → LockAt W' g m N T held things ∧ Below w.heap.size w W' ∧ W'.cell? ⟨g, 0, none⟩ = some (.map (some m)) ∧ W'.cell? ⟨w.heap.size, 0, none⟩ = some (.string (str k)) ∧ (Instr.lookup 69 (.map (some m)) (.string (str k)) false).run Try.prog W' = .ok (.agg C.toArray) W' := fun W' b => by
    have h2 := h1.out.below b
    exact ⟨h2, belowCont hb b, h2.cell0, (b.cell (p := ⟨w.heap.size, 0, none⟩) hlt0.out).trans hn0, hlk.out _ h2⟩
  have hth : (W0.alloc (.cells #[.int .i64 0, .int .i64 0, .int .i64 0, .int .i64 0, .int .i64 0, .int .i64 0, .int .i64 0, .int .i64 0, .int .i64 0, .int .i64 0, .int .i64 0, .int .i64 0, .int .i64 0, .int .i64 0, .int .i64 0, .int .i64 0] 73)).drew.there W0.heap.size 0 16 := fun j hj => by
    have hj2 : j < 16 := hj
    have hq := heap_alloc_new W0 (.cells #[.int .i64 0, .int .i64 0, .int .i64 0, .int .i64 0, .int .i64 0, .int .i64 0, .int .i64 0, .int .i64 0, .int .i64 0, .int .i64 0, .int .i64 0, .int .i64 0, .int .i64 0, .int .i64 0, .int .i64 0, .int .i64 0] 73)
    refine ⟨?_, ?_⟩
    · rw [Nat.zero_add]
      have := cell_of_row _ _ j _ _ _ hq
      show (World.cell? (W0.alloc _) _).isSome = true
      rw [this]; simp [hj2]
    · exact frozen_of_row _ _ _ _ _ hq
  replace hS := Lib.hid hS
  first | (go_loud (go_region_held3 (fun W' => LockAt W' g m N T held things ∧ Below w.heap.size w W' ∧ W'.cell? ⟨g, 0, none⟩ = some (.map (some m)) ∧ W'.cell? ⟨w.heap.size, 0, none⟩ = some (.string (str k)) ∧ (Instr.lookup 69 (.map (some m)) (.string (str k)) false).run Try.prog W' = .ok (.agg C.toArray) W') (first | exact hS.out _ ((Below.refl _ _).drew) | exact hS.out _ (((Below.refl _ _).alloc (Nat.le_refl _) _).drew) | exact hS.out _ (belowCells _ _ _ (((Below.refl _ _).alloc (Nat.le_refl _) _).drew) (Nat.le_refl _))) (fail))) | fail
  all_goals
    have hq3 := heap_allCells (W := (W0.alloc (.cells #[.int .i64 0, .int .i64 0, .int .i64 0, .int .i64 0, .int .i64 0, .int .i64 0, .int .i64 0, .int .i64 0, .int .i64 0, .int .i64 0, .int .i64 0, .int .i64 0, .int .i64 0, .int .i64 0, .int .i64 0, .int .i64 0] 73)).drew) (heap_alloc_new W0 _) C (by rw [hCl]; rfl)
    have hb3 := belowCells (B := W0.heap.size) (g := W0.heap.size) C 0 _ (((Below.refl W0.heap.size W0).alloc (Nat.le_refl _) (.cells #[.int .i64 0, .int .i64 0, .int .i64 0, .int .i64 0, .int .i64 0, .int .i64 0, .int .i64 0, .int .i64 0, .int .i64 0, .int .i64 0, .int .i64 0, .int .i64 0, .int .i64 0, .int .i64 0, .int .i64 0, .int .i64 0] 73)).drew) (Nat.le_refl _)
    generalize ((W0.alloc (.cells #[.int .i64 0, .int .i64 0, .int .i64 0, .int .i64 0, .int .i64 0, .int .i64 0, .int .i64 0, .int .i64 0, .int .i64 0, .int .i64 0, .int .i64 0, .int .i64 0, .int .i64 0, .int .i64 0, .int .i64 0, .int .i64 0] 73)).drew).setCells W0.heap.size 0 C = W3 at *
    obtain ⟨hL3, hw3, c0, n0, _⟩ := hS.out _ hb3
    have cH := hL3.cellH' hw
    have d0 := (cell_of_row _ _ who _ _ _ hq3).trans (show C.toArray[who]? = some (.int .i64 (T k who : Int)) by rw [hC.out]; simpa using cells16_at (T k) hw)
    have i0 : (0 : Int) ≤ (who : Int) := by omega
    have i1 : (who : Int) < 16 := by omega
    have t0 : ((T k who : Int) == 0) = true := by simpa using (by omega : (T k who : Int) = 0)
    have t1 : (512 : Int) ≤ (held who : Int) := by omega
    replace hq3 := Lib.hid hq3; replace hL3 := Lib.hid hL3; replace hw3 := Lib.hid hw3
    clear hS hth hb3 h0 hm
    go_wp2
    go_ret2
    exact ⟨rfl, hw3.out⟩
/-- somebody is against it -/
theorem take_ag (h : LockAt w g m N T held things) (who : Nat) (hw : who < 16) (k : List UInt8) (hk0 : k ≠ []) (hk : k.length ≤ 1000000000) (al : Bool) (hm : ¬ (T k who = 0 ∧ 512 ≤ held who)) (hag : agK (T k) who al 16 ≠ []) :
    Calls Try.prog 16 #[.pointer (some ⟨g, 0, none⟩), .int .i64 (who : Int), .agg #[.string (str k), .bool al]] w fun e w' => ∃ v, e = .returned (.tuple #[v, .int .i64 0]) ∧ Hp w [] [.row 3 1 v (agK (T k) who al 16).length (ints (agK (T k) who al 16))] w' := by
  have hcal := fun W => against_any (T k) who al (str k) W
  have hpos : (0 : Int) < ((agK (T k) who al 16).length : Int) := by have := List.length_pos_iff.2 hag; omega
  obtain ⟨L, hL⟩ : ∃ L, L = agK (T k) who al 16 := ⟨_, rfl⟩
  rw [← hL] at hcal hpos ⊢
  unfold holdV at hcal
  have hn1 : (w.alloc (.cells #[.string (str k), .bool al] 56)).cell? ⟨w.heap.size, 1, none⟩ = some (.bool al) := (newCell w #[.string (str k), .bool al] 56 1).trans rfl
  clear hL hag
  have hs := session_yes (who : Int) ⟨by omega, by omega⟩
  have hb : Below w.heap.size w (w.alloc (.cells #[.string (str k), .bool al] 56)) := (Below.refl _ _).alloc (Nat.le_refl _) _
  have h1 := h.below hb
  have he : (str k).toList.isEmpty = false := by rw [str_bl]; cases k <;> simp at hk0 ⊢
  have c0 := h1.cell0
  have hlk := fun W (hW : LockAt W g m N T held things) => hW.look k hk
  have hn0 : (w.alloc (.cells #[.string (str k), .bool al] 56)).cell? ⟨w.heap.size, 0, none⟩ = some (.string (str k)) := (newCell w #[.string (str k), .bool al] 56 0).trans rfl
  have hs16 : (cells16 (T k)).toArray.size = 16 := by simp [cells16_len]
  have hC1 := cells16_one (T k)
  have hTk : (cells16 (T k))[who]? = some (.int .i64 (T k who : Int)) := cells16_at _ hw
  unfold holdV at hlk
  obtain ⟨C, hC⟩ : ∃ C, C = cells16 (T k) := ⟨_, rfl⟩
  have hCl : C.length = 16 := by rw [hC]; exact cells16_len _
  have hCi : (Try.prog.info? 73).map (·.size) = some C.length := by rw [hCl]; kernel_rfl
  have hone : ∀ v : Value, v ∈ C → v.oneCell' = true := fun v hv => by
    rw [Array.all_eq_true_iff_forall_mem] at hC1
    exact hC1 v (by rw [← hC]; simpa using hv)
  rw [← hC] at hlk hcal
  replace hcal := Lib.hid hcal
  have hlt0 : w.heap.size < (w.alloc (.cells #[.string (str k), .bool al] 56)).heap.size := by simp
  replace hlt0 := Lib.hid hlt0; replace hs := Lib.hid hs; replace hC := Lib.hid hC; replace h1 := Lib.hid h1; replace hlk := Lib.hid hlk
  have l0 := hlk.out _ h1.out
  replace hn1 := Lib.hid hn1
  clear h hs16 hC1 hTk
  go_enter Try.func16, Try.ntmps16
  go_wp2_with (go_at_call 24; (with_reducible refine (hs.out _).mono ?_); rintro e w1 ⟨rfl, rfl⟩)
  generalize w.alloc (.cells #[.string (str k), .bool al] 56) = W0 at *
  have hS : ∀ W', Below W0.heap.size W0 W' → LockAt W' g m N T held things ∧ Below w.heap.size w W' ∧ W'.cell? ⟨g, 0, none⟩ = some (.map (some m)) ∧ W'.cell? ⟨w.heap.size, 0, none⟩ = some (.string (str k)) ∧ (Instr.lookup 69 (.map (some m)) (.string (str k)) false).run Try.prog W' = .ok (.agg C.toArray) W' := fun W' b => by
    have h2 := h1.out.below b
    exact ⟨h2, belowCont hb b, h2.cell0, (b.cell (p := ⟨w.heap.size, 0, none⟩) hlt0.out).trans hn0, hlk.out _ h2⟩
  have hth : (W0.alloc (.cells #[.int .i64 0, .int .i64 0, .int .i64 0, .int .i64 0, .int .i64 0, .int .i64 0, .int .i64 0, .int .i64 0, .int .i64 0, .int .i64 0, .int .i64 0, .int .i64 0, .int .i64 0, .int .i64 0, .int .i64 0, .int .i64 0] 73)).drew.there W0.heap.size 0 16 := fun j hj => by
    have hj2 : j < 16 := hj
    have hq := heap_alloc_new W0 (.cells #[.int .i64 0, .int .i64 0, .int .i64 0, .int .i64 0, .int .i64 0, .int .i64 0, .int .i64 0, .int .i64 0, .int .i64 0, .int .i64 0, .int .i64 0, .int .i64 0, .int .i64 0, .int .i64 0, .int .i64 0, .int .i64 0] 73)
    refine ⟨?_, ?_⟩
    · rw [Nat.zero_add]
      have := cell_of_row _ _ j _ _ _ hq
      show (World.cell? (W0.alloc _) _).isSome = true
      rw [this]; simp [hj2]
    · exact frozen_of_row _ _ _ _ _ hq
  replace hS := Lib.hid hS
  first | (go_loud (go_region_held3 (fun W' => LockAt W' g m N T held things ∧ Below w.heap.size w W' ∧ W'.cell? ⟨g, 0, none⟩ = some (.map (some m)) ∧ W'.cell? ⟨w.heap.size, 0, none⟩ = some (.string (str k)) ∧ (Instr.lookup 69 (.map (some m)) (.string (str k)) false).run Try.prog W' = .ok (.agg C.toArray) W') (first | exact hS.out _ ((Below.refl _ _).drew) | exact hS.out _ (((Below.refl _ _).alloc (Nat.le_refl _) _).drew) | exact hS.out _ (belowCells _ _ _ (((Below.refl _ _).alloc (Nat.le_refl _) _).drew) (Nat.le_refl _))) (fail))) | fail
  all_goals
    have hq3 := heap_allCells (W := (W0.alloc (.cells #[.int .i64 0, .int .i64 0, .int .i64 0, .int .i64 0, .int .i64 0, .int .i64 0, .int .i64 0, .int .i64 0, .int .i64 0, .int .i64 0, .int .i64 0, .int .i64 0, .int .i64 0, .int .i64 0, .int .i64 0, .int .i64 0] 73)).drew) (heap_alloc_new W0 _) C (by rw [hCl]; rfl)
    have hb3 := belowCells (B := W0.heap.size) (g := W0.heap.size) C 0 _ (((Below.refl W0.heap.size W0).alloc (Nat.le_refl _) (.cells #[.int .i64 0, .int .i64 0, .int .i64 0, .int .i64 0, .int .i64 0, .int .i64 0, .int .i64 0, .int .i64 0, .int .i64 0, .int .i64 0, .int .i64 0, .int .i64 0, .int .i64 0, .int .i64 0, .int .i64 0, .int .i64 0] 73)).drew) (Nat.le_refl _)
    generalize ((W0.alloc (.cells #[.int .i64 0, .int .i64 0, .int .i64 0, .int .i64 0, .int .i64 0, .int .i64 0, .int .i64 0, .int .i64 0, .int .i64 0, .int .i64 0, .int .i64 0, .int .i64 0, .int .i64 0, .int .i64 0, .int .i64 0, .int .i64 0] 73)).drew).setCells W0.heap.size 0 C = W3 at *
    obtain ⟨hL3, hw3, c0, n0, _⟩ := hS.out _ hb3
    have cH := hL3.cellH' hw
    have d0 := (cell_of_row _ _ who _ _ _ hq3).trans (show C.toArray[who]? = some (.int .i64 (T k who : Int)) by rw [hC.out]; simpa using cells16_at (T k) hw)
    have i0 : (0 : Int) ≤ (who : Int) := by omega
    have i1 : (who : Int) < 16 := by omega
    have n1 := (hb3.cell (p := ⟨w.heap.size, 1, none⟩) hlt0.out).trans hn1.out
    have hi16 : (Try.prog.info? 73).map (·.size) = some C.toArray.size := by rw [List.size_toArray]; exact hCi
    replace hq3 := Lib.hid hq3; replace hL3 := Lib.hid hL3; replace hw3 := Lib.hid hw3
    clear hS hth hb3 hCi hone
    by_cases h0 : T k who = 0
    · have t0 : ((T k who : Int) == 0) = true := by simpa using (by omega : (T k who : Int) = 0)
      have t1 : ¬ (512 : Int) ≤ (held who : Int) := by omega
      clear hm h0
      go_wp2_with (first
        | (refine wpList_load_row rfl 73 (.tmp 8) rfl W0.heap.size rfl 73 C.toArray (0, 0) _ hq3.out Try.underlying73 rfl hi16 ?_)
        | (go_at_call 25; (with_reducible refine (hcal.out _).mono ?_); rintro e w4 ⟨v, rfl, hp4⟩; replace hp4 := Lib.hid (((Hp.none_ w []).below hw3.out).take hp4); obtain ⟨ad, cp, rfl⟩ := rowShape (hp4.out.row (i := 0) rfl)))
      go_ret2
      exact ⟨_, rfl, hp4.out⟩
    · have t0 : ((T k who : Int) == 0) = false := by simpa using (by omega : (T k who : Int) ≠ 0)
      clear hm h0
      go_wp2_with (first
        | (refine wpList_load_row rfl 73 (.tmp 8) rfl W0.heap.size rfl 73 C.toArray (0, 0) _ hq3.out Try.underlying73 rfl hi16 ?_)
        | (go_at_call 25; (with_reducible refine (hcal.out _).mono ?_); rintro e w4 ⟨v, rfl, hp4⟩; replace hp4 := Lib.hid (((Hp.none_ w []).below hw3.out).take hp4); obtain ⟨ad, cp, rfl⟩ := rowShape (hp4.out.row (i := 0) rfl)))
      go_ret2
      exact ⟨_, rfl, hp4.out⟩
end
end Go.Proofs.Ytmeaidkbkelclab.lock
