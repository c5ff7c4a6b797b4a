/- How values are taken (value.Take). The reader stands at a value's bytes, or at none. No other condition. -/
import Derived.Test.YtcdgnhhciccoeaaDoorValue4
namespace Go.Proofs.YtcdgnhhciccoeaaDoor.value
open Go.RowKit
attribute [local go_sem ↓] Go.wp_at_zero Go.wp_at_succ
attribute [local go_sem] str_size
set_option linter.unusedVariables false
set_option maxRecDepth 100000

theorem take_lit {w : World} {g : Nat} {r : List UInt8} (n : Nat) (hn : n < 128) (h : code.RdAt w g (UInt8.ofNat n :: r) 0) (most : Nat) (hm : n ≤ most) (hm2 : most < 18446744073709551616) :
    Calls Tryd.prog 39 #[.pointer (some ⟨g, 0, none⟩), .int .u64 (most : Int)] w fun e w' => e = .returned (.int .u64 (n : Int)) ∧ code.RdAt w' g r 0 ∧ Keeps [g] w w' := by
  have := code.takeNum_any h most (by omega)
  have e : code.takeNum most (UInt8.ofNat n :: r) = (n, r, 0) := by
    have := code.takeNum_numL n most r (by omega) hm
    rwa [code.numL_small n hn] at this
  rwa [e] at this
theorem bool_take {w : World} {g : Nat} {r : List UInt8} (b : Bool) (h : code.RdAt w g ((if b then 1 else 0) :: r) 0) :
    Calls Tryd.prog 37 #[.pointer (some ⟨g, 0, none⟩)] w fun e w' => e = .returned (.bool b) ∧ code.RdAt w' g r 0 ∧ Keeps [g] w w' := by
  cases b with
  | false =>
    have c : Calls Tryd.prog 39 #[.pointer (some ⟨g, 0, none⟩), .int .u64 1] w fun e w' => e = .returned (.int .u64 0) ∧ code.RdAt w' g r 0 ∧ Keeps [g] w w' := take_lit 0 (by decide) h 1 (by decide) (by decide)
    clear h
    go_enter Tryd.func37, Tryd.ntmps37
    go_wp2_with (go_at_call 39; (with_reducible refine c.mono ?_); rintro e w1 ⟨rfl, b1, k1⟩)
    go_ret
    exact ⟨rfl, b1, k1⟩
  | true =>
    have c : Calls Tryd.prog 39 #[.pointer (some ⟨g, 0, none⟩), .int .u64 1] w fun e w' => e = .returned (.int .u64 1) ∧ code.RdAt w' g r 0 ∧ Keeps [g] w w' := take_lit 1 (by decide) h 1 (by decide) (by decide)
    clear h
    go_enter Tryd.func37, Tryd.ntmps37
    go_wp2_with (go_at_call 39; (with_reducible refine c.mono ?_); rintro e w1 ⟨rfl, b1, k1⟩)
    go_ret
    exact ⟨rfl, b1, k1⟩
/-- 'Take' on its way: the result's box, the reader -/
structure TkS (w : World) (g : Nat) (l : List UInt8) (e : Int) (W : World) : Prop where
  res : W.heap[w.heap.size]? = some (.cells #[.int .i64 0, .int .i64 0, .string ⟨#[]⟩] 50 (0, 0))
  rd : code.RdAt W g l e
  kp : Keeps [g] w W
  lt : g < w.heap.size
namespace TkS
variable {w W W' : World} {g : Nat} {l l' : List UInt8} {e e' : Int}
theorem start (h : code.RdAt w g l e) : TkS w g l e (w.alloc (.cells #[.int .i64 0, .int .i64 0, .string ⟨#[]⟩] 50)) :=
  ⟨heap_alloc_new w _, h.below ((Below.refl _ _).alloc (Nat.le_refl _) _), (Keeps.refl _ _).alloc _, block_lt h⟩
theorem keeps (h : TkS w g l e W) (r : code.RdAt W' g l' e') (k : Keeps [g] W W') : TkS w g l' e' W' :=
  ⟨(k.block _ (block_lt h.res) (by have := h.lt; simp; omega)).trans h.res, r, h.kp.trans k, h.lt⟩
theorem below (h : TkS w g l e W) (k : Below W.heap.size W W') : TkS w g l e W' := h.keeps (h.rd.below k) (Keeps.ofBelow k _)
theorem rs (h : TkS w g l e W) : W.cell? ⟨w.heap.size, 0, none⟩ = some (.int .i64 0) ∧ W.cell? ⟨w.heap.size, 1, none⟩ = some (.int .i64 0) ∧ W.cell? ⟨w.heap.size, 2, none⟩ = some (.string ⟨#[]⟩) :=
  ⟨cell_of_row _ _ 0 _ _ _ h.res, cell_of_row _ _ 1 _ _ _ h.res, cell_of_row _ _ 2 _ _ _ h.res⟩
theorem fr (h : TkS w g l e W) (i : Nat) : W.frozen? ⟨w.heap.size, i, none⟩ = false := by simp [World.frozen?, h.res]
end TkS
/-- and the value's box -/
structure TkV (w : World) (g : Nat) (l : List UInt8) (er : Int) (v : Nat) (a b c : Value) (W : World) : Prop extends TkS w g l er W where
  box : W.heap[v]? = some (.cells #[a, b, c] 50 (0, 0))
  vlt : w.heap.size < v
namespace TkV
variable {w W W' : World} {g v : Nat} {l l' : List UInt8} {er er' : Int} {a b c x : Value}
theorem mk' (h : TkS w g l er W) (a b c : Value) : TkV w g l er W.heap.size a b c (W.alloc (.cells #[a, b, c] 50)) :=
  ⟨h.below ((Below.refl _ _).alloc (Nat.le_refl _) _), heap_alloc_new W _, block_lt h.res⟩
theorem keeps (h : TkV w g l er v a b c W) (r : code.RdAt W' g l' er') (k : Keeps [g] W W') : TkV w g l' er' v a b c W' :=
  ⟨h.toTkS.keeps r k, (k.block _ (block_lt h.box) (by have := h.vlt; have := h.lt; simp; omega)).trans h.box, h.vlt⟩
theorem below (h : TkV w g l er v a b c W) (k : Below W.heap.size W W') : TkV w g l er v a b c W' := h.keeps (h.rd.below k) (Keeps.ofBelow k _)
theorem cs (h : TkV w g l er v a b c W) : W.cell? ⟨v, 0, none⟩ = some a ∧ W.cell? ⟨v, 1, none⟩ = some b ∧ W.cell? ⟨v, 2, none⟩ = some c :=
  ⟨cell_of_row _ _ 0 _ _ _ h.box, cell_of_row _ _ 1 _ _ _ h.box, cell_of_row _ _ 2 _ _ _ h.box⟩
theorem vf (h : TkV w g l er v a b c W) (i : Nat) : W.frozen? ⟨v, i, none⟩ = false := by simp [World.frozen?, h.box]
theorem far (h : TkV w g l er v a b c W) (i : Nat) (x : Value) : TkS w g l er (W.setCell ⟨v, i, none⟩ x) := by
  have h1 := h.vlt
  have h2 := h.lt
  exact ⟨(Below.heap_setCell W _ _ _ (show w.heap.size ≠ v by omega)).trans h.res, (Below.heap_setCell W _ _ _ (show g ≠ v by omega)).trans h.rd, h.kp.setCell (p := ⟨v, i, none⟩) (Or.inr (Nat.le_of_lt h1)) _, h2⟩
theorem put1 (h : TkV w g l er v a b c W) (x : Value) : TkV w g l er v a x c (W.setCell ⟨v, 1, none⟩ x) :=
  ⟨h.far 1 x, by simp [World.setCell, Array.getElem?_modify, h.box], h.vlt⟩
theorem put2 (h : TkV w g l er v a b c W) (x : Value) : TkV w g l er v a b x (W.setCell ⟨v, 2, none⟩ x) :=
  ⟨h.far 2 x, by simp [World.setCell, Array.getElem?_modify, h.box], h.vlt⟩
theorem put0 (h : TkV w g l er v a b c W) (x : Value) : TkV w g l er v x b c (W.setCell ⟨v, 0, none⟩ x) :=
  ⟨h.far 0 x, by simp [World.setCell, Array.getElem?_modify, h.box], h.vlt⟩
end TkV
/-- the end: the result's box is written -/
theorem TkS.fin {w W : World} {g : Nat} {l : List UInt8} {e : Int} {a b c : Value} (h : TkS w g l e W) :
    (((W.setCell ⟨w.heap.size, 0, none⟩ a).setCell ⟨w.heap.size, 1, none⟩ b).setCell ⟨w.heap.size, 2, none⟩ c).heap[w.heap.size]? = some (.cells #[a, b, c] 50 (0, 0)) ∧
    code.RdAt (((W.setCell ⟨w.heap.size, 0, none⟩ a).setCell ⟨w.heap.size, 1, none⟩ b).setCell ⟨w.heap.size, 2, none⟩ c) g l e ∧ Keeps [g] w (((W.setCell ⟨w.heap.size, 0, none⟩ a).setCell ⟨w.heap.size, 1, none⟩ b).setCell ⟨w.heap.size, 2, none⟩ c) := by
  have h1 := h.lt
  refine ⟨by simp [World.setCell, Array.getElem?_modify, h.res], ?_, ((h.kp.setCell (p := ⟨w.heap.size, 0, none⟩) (Or.inr (Nat.le_refl _)) _).setCell (p := ⟨w.heap.size, 1, none⟩) (Or.inr (Nat.le_refl _)) _).setCell (p := ⟨w.heap.size, 2, none⟩) (Or.inr (Nat.le_refl _)) _⟩
  unfold code.RdAt
  rw [Below.heap_setCell _ _ _ _ (show g ≠ w.heap.size by omega), Below.heap_setCell _ _ _ _ (show g ≠ w.heap.size by omega), Below.heap_setCell _ _ _ _ (show g ≠ w.heap.size by omega)]
  exact h.rd
theorem value3 : (Tryd.prog.info? 50).map (·.size) = some 3 := by kernel_rfl
theorem take_none {w : World} {g : Nat} (h : code.RdAt w g [0] 0) : Calls Tryd.prog 40 #[.pointer (some ⟨g, 0, none⟩)] w fun e w' => e = .returned (.agg #[.int .i64 0, .int .i64 0, .string ⟨#[]⟩]) ∧ code.RdAt w' g [] 0 ∧ Keeps [g] w w' := by
  have t0 : ∀ (W : World) (r : List UInt8), code.RdAt W g (0 :: r) 0 → Calls Tryd.prog 39 #[.pointer (some ⟨g, 0, none⟩), .int .u64 3] W fun e w' => e = .returned (.int .u64 0) ∧ code.RdAt w' g r 0 ∧ Keeps [g] W w' := fun W r h => take_lit 0 (by decide) h 3 (by decide) (by decide)
  have ts := TkS.start h
  replace ts := Lib.hid ts; replace t0 := Lib.hid t0
  clear h
  go_enter Tryd.func40, Tryd.ntmps40
  go_wp2_with (first
    | (go_at_call 39; (with_reducible refine (t0.out _ _ ts.out.rd).mono ?_); rintro e w1 ⟨rfl, r1, k1⟩; have ts2 := ts.out.keeps r1 k1; clear r1 k1; have tv := TkV.mk' ts2 (.int .i64 0) (.int .i64 0) (.string ⟨#[]⟩); clear ts2; replace tv := Lib.hid tv)
    | (go_at_call 85; (with_reducible refine (code.err_any tv.out.rd).mono ?_); rintro e w2 ⟨rfl, b2⟩; have tw := tv.out.below b2; obtain ⟨c0, c1, c2⟩ := tw.cs; obtain ⟨r0, r1, r2⟩ := tw.rs; have f0 := tw.fr 0; have f1 := tw.fr 1; have f2 := tw.fr 2; replace tw := Lib.hid tw; clear b2))
  obtain ⟨q1, q2, q3⟩ := tw.out.toTkS.fin (a := .int .i64 0) (b := .int .i64 0) (c := .string ⟨#[]⟩)
  exact bodyPost_ret (v := .agg #[.int .i64 0, .int .i64 0, .string ⟨#[]⟩]) (results_cell_row rfl _ _ w.heap.size 50 #[.int .i64 0, .int .i64 0, .string ⟨#[]⟩] (0, 0) _ rfl q1 Tryd.underlying50 rfl value3) rfl ⟨rfl, q2, q3⟩
theorem take_0 {w : World} {g : Nat}  (h : code.RdAt w g [1, 0] 0) : Calls Tryd.prog 40 #[.pointer (some ⟨g, 0, none⟩)] w fun e w' => e = .returned (.agg #[.int .i64 1, .int .i64 0, .string ⟨#[]⟩]) ∧ code.RdAt w' g [] 0 ∧ Keeps [g] w w' := by
  have t0 : ∀ (W : World) (r : List UInt8), code.RdAt W g (1 :: r) 0 → Calls Tryd.prog 39 #[.pointer (some ⟨g, 0, none⟩), .int .u64 3] W fun e w' => e = .returned (.int .u64 1) ∧ code.RdAt w' g r 0 ∧ Keeps [g] W w' := fun W r h => take_lit 1 (by decide) h 3 (by decide) (by decide)
  have tb : ∀ (W : World) (r : List UInt8), code.RdAt W g (0 :: r) 0 → Calls Tryd.prog 37 #[.pointer (some ⟨g, 0, none⟩)] W fun e w' => e = .returned (.bool false) ∧ code.RdAt w' g r 0 ∧ Keeps [g] W w' := fun W r h => bool_take false h
  have tB : ∀ W : World, Calls Tryd.prog 82 #[.bool false] W fun e w' => e = .returned (.agg #[.int .i64 1, .int .i64 0, .string ⟨#[]⟩]) ∧ Below W.heap.size W w' := fun W => bool_any false W
  replace tb := Lib.hid tb; replace tB := Lib.hid tB
  have ts := TkS.start h
  replace ts := Lib.hid ts; replace t0 := Lib.hid t0
  clear h
  go_enter Tryd.func40, Tryd.ntmps40
  go_wp2_with (first
    | (go_at_call 39; (with_reducible refine (t0.out _ _ ts.out.rd).mono ?_); rintro e w1 ⟨rfl, r1, k1⟩; have ts2 := ts.out.keeps r1 k1; clear r1 k1; have tv := TkV.mk' ts2 (.int .i64 1) (.int .i64 0) (.string ⟨#[]⟩); clear ts2; replace tv := Lib.hid tv)
    | (go_at_call 37; (with_reducible refine (tb.out _ _ tv.out.rd).mono ?_); rintro e w2 ⟨rfl, r1, k1⟩; have ty := Lib.hid (tv.out.keeps r1 k1); clear r1 k1)
    | (go_at_call 82; (with_reducible refine (tB.out _).mono ?_); rintro e w2 ⟨rfl, b2⟩; have tz := ty.out.below b2; obtain ⟨c0, c1, c2⟩ := tz.cs; have f0 := tz.vf 0; have f1 := tz.vf 1; have f2 := tz.vf 2; have tx := Lib.hid (((tz.put0 (.int .i64 1)).put1 (.int .i64 0)).put2 (.string ⟨#[]⟩)); clear tz b2)
    | (go_at_call 85; (with_reducible refine (code.err_any tx.out.rd).mono ?_); rintro e w2 ⟨rfl, b2⟩; have tw := tx.out.below b2; obtain ⟨c0, c1, c2⟩ := tw.cs; obtain ⟨r0, r1, r2⟩ := tw.rs; have f0 := tw.fr 0; have f1 := tw.fr 1; have f2 := tw.fr 2; replace tw := Lib.hid tw; clear b2))
  obtain ⟨q1, q2, q3⟩ := tw.out.toTkS.fin (a := .int .i64 1) (b := .int .i64 0) (c := .string ⟨#[]⟩)
  exact bodyPost_ret (v := .agg #[.int .i64 1, .int .i64 0, .string ⟨#[]⟩]) (results_cell_row rfl _ _ w.heap.size 50 #[.int .i64 1, .int .i64 0, .string ⟨#[]⟩] (0, 0) _ rfl q1 Tryd.underlying50 rfl value3) rfl ⟨rfl, q2, q3⟩
theorem take_1 {w : World} {g : Nat}  (h : code.RdAt w g [1, 1] 0) : Calls Tryd.prog 40 #[.pointer (some ⟨g, 0, none⟩)] w fun e w' => e = .returned (.agg #[.int .i64 1, .int .i64 1, .string ⟨#[]⟩]) ∧ code.RdAt w' g [] 0 ∧ Keeps [g] w w' := by
  have t0 : ∀ (W : World) (r : List UInt8), code.RdAt W g (1 :: r) 0 → Calls Tryd.prog 39 #[.pointer (some ⟨g, 0, none⟩), .int .u64 3] W fun e w' => e = .returned (.int .u64 1) ∧ code.RdAt w' g r 0 ∧ Keeps [g] W w' := fun W r h => take_lit 1 (by decide) h 3 (by decide) (by decide)
  have tb : ∀ (W : World) (r : List UInt8), code.RdAt W g (1 :: r) 0 → Calls Tryd.prog 37 #[.pointer (some ⟨g, 0, none⟩)] W fun e w' => e = .returned (.bool true) ∧ code.RdAt w' g r 0 ∧ Keeps [g] W w' := fun W r h => bool_take true h
  have tB : ∀ W : World, Calls Tryd.prog 82 #[.bool true] W fun e w' => e = .returned (.agg #[.int .i64 1, .int .i64 1, .string ⟨#[]⟩]) ∧ Below W.heap.size W w' := fun W => bool_any true W
  replace tb := Lib.hid tb; replace tB := Lib.hid tB
  have ts := TkS.start h
  replace ts := Lib.hid ts; replace t0 := Lib.hid t0
  clear h
  go_enter Tryd.func40, Tryd.ntmps40
  go_wp2_with (first
    | (go_at_call 39; (with_reducible refine (t0.out _ _ ts.out.rd).mono ?_); rintro e w1 ⟨rfl, r1, k1⟩; have ts2 := ts.out.keeps r1 k1; clear r1 k1; have tv := TkV.mk' ts2 (.int .i64 1) (.int .i64 0) (.string ⟨#[]⟩); clear ts2; replace tv := Lib.hid tv)
    | (go_at_call 37; (with_reducible refine (tb.out _ _ tv.out.rd).mono ?_); rintro e w2 ⟨rfl, r1, k1⟩; have ty := Lib.hid (tv.out.keeps r1 k1); clear r1 k1)
    | (go_at_call 82; (with_reducible refine (tB.out _).mono ?_); rintro e w2 ⟨rfl, b2⟩; have tz := ty.out.below b2; obtain ⟨c0, c1, c2⟩ := tz.cs; have f0 := tz.vf 0; have f1 := tz.vf 1; have f2 := tz.vf 2; have tx := Lib.hid (((tz.put0 (.int .i64 1)).put1 (.int .i64 1)).put2 (.string ⟨#[]⟩)); clear tz b2)
    | (go_at_call 85; (with_reducible refine (code.err_any tx.out.rd).mono ?_); rintro e w2 ⟨rfl, b2⟩; have tw := tx.out.below b2; obtain ⟨c0, c1, c2⟩ := tw.cs; obtain ⟨r0, r1, r2⟩ := tw.rs; have f0 := tw.fr 0; have f1 := tw.fr 1; have f2 := tw.fr 2; replace tw := Lib.hid tw; clear b2))
  obtain ⟨q1, q2, q3⟩ := tw.out.toTkS.fin (a := .int .i64 1) (b := .int .i64 1) (c := .string ⟨#[]⟩)
  exact bodyPost_ret (v := .agg #[.int .i64 1, .int .i64 1, .string ⟨#[]⟩]) (results_cell_row rfl _ _ w.heap.size 50 #[.int .i64 1, .int .i64 1, .string ⟨#[]⟩] (0, 0) _ rfl q1 Tryd.underlying50 rfl value3) rfl ⟨rfl, q2, q3⟩
theorem take_int {w : World} {g : Nat} (n : Int) (u : Nat) (hu : IntKind.i64.wrap (u : Int) = n) (hu64 : u < 18446744073709551616) (h : code.RdAt w g (2 :: code.beL 8 u) 0) : Calls Tryd.prog 40 #[.pointer (some ⟨g, 0, none⟩)] w fun e w' => e = .returned (.agg #[.int .i64 2, .int .i64 n, .string ⟨#[]⟩]) ∧ code.RdAt w' g [] 0 ∧ Keeps [g] w w' := by
  have t0 : ∀ (W : World) (r : List UInt8), code.RdAt W g (2 :: r) 0 → Calls Tryd.prog 39 #[.pointer (some ⟨g, 0, none⟩), .int .u64 3] W fun e w' => e = .returned (.int .u64 2) ∧ code.RdAt w' g r 0 ∧ Keeps [g] W w' := fun W r h => take_lit 2 (by decide) h 3 (by decide) (by decide)
  have tb : ∀ (W : World), code.RdAt W g (code.beL 8 u) 0 → Calls Tryd.prog 83 #[.pointer (some ⟨g, 0, none⟩)] W fun e w' => e = .returned (.int .u64 (u : Int)) ∧ code.RdAt w' g [] 0 ∧ Keeps [g] W w' := fun W h => by
    have := code.big_take h
    have hl := code.beL_length 8 u
    have e : code.takeBe 8 (code.beL 8 u) = (u, [], 0) := by
      unfold code.takeBe
      rw [if_pos (by omega), List.take_of_length_le (by omega), List.drop_of_length_le (by omega), code.beNat_beL, Nat.mod_eq_of_lt hu64]
    rwa [e] at this
  replace tb := Lib.hid tb
  have ts := TkS.start h
  replace ts := Lib.hid ts; replace t0 := Lib.hid t0
  clear h
  go_enter Tryd.func40, Tryd.ntmps40
  go_wp2_with (first
    | (go_at_call 39; (with_reducible refine (t0.out _ _ ts.out.rd).mono ?_); rintro e w1 ⟨rfl, r1, k1⟩; have ts2 := ts.out.keeps r1 k1; clear r1 k1; have tv := TkV.mk' ts2 (.int .i64 2) (.int .i64 0) (.string ⟨#[]⟩); clear ts2; replace tv := Lib.hid tv)
    | (go_at_call 83; (with_reducible refine (tb.out _ tv.out.rd).mono ?_); rintro e w2 ⟨rfl, r1, k1⟩; have tz := tv.out.keeps r1 k1; obtain ⟨c0, c1, c2⟩ := tz.cs; have f1 := tz.vf 1; have tx := Lib.hid (tz.put1 (.int .i64 n)); clear tz r1 k1)
    | (go_at_call 85; (with_reducible refine (code.err_any tx.out.rd).mono ?_); rintro e w2 ⟨rfl, b2⟩; have tw := tx.out.below b2; obtain ⟨c0, c1, c2⟩ := tw.cs; obtain ⟨r0, r1, r2⟩ := tw.rs; have f0 := tw.fr 0; have f1 := tw.fr 1; have f2 := tw.fr 2; replace tw := Lib.hid tw; clear b2))
  obtain ⟨q1, q2, q3⟩ := tw.out.toTkS.fin (a := .int .i64 2) (b := .int .i64 n) (c := .string ⟨#[]⟩)
  exact bodyPost_ret (v := .agg #[.int .i64 2, .int .i64 n, .string ⟨#[]⟩]) (results_cell_row rfl _ _ w.heap.size 50 #[.int .i64 2, .int .i64 n, .string ⟨#[]⟩] (0, 0) _ rfl q1 Tryd.underlying50 rfl value3) rfl ⟨rfl, q2, q3⟩
theorem take_txt {w : World} {g : Nat} (l : List UInt8) (hl : l.length ≤ 2000) (h : code.RdAt w g (3 :: (code.numL l.length ++ l)) 0) : Calls Tryd.prog 40 #[.pointer (some ⟨g, 0, none⟩)] w fun e w' => e = .returned (.agg #[.int .i64 3, .int .i64 0, .string (str l)]) ∧ code.RdAt w' g [] 0 ∧ Keeps [g] w w' := by
  have t0 : ∀ (W : World) (r : List UInt8), code.RdAt W g (3 :: r) 0 → Calls Tryd.prog 39 #[.pointer (some ⟨g, 0, none⟩), .int .u64 3] W fun e w' => e = .returned (.int .u64 3) ∧ code.RdAt w' g r 0 ∧ Keeps [g] W w' := fun W r h => take_lit 3 (by decide) h 3 (by decide) (by decide)
  have tb : ∀ (W : World), code.RdAt W g (code.numL l.length ++ l) 0 → Calls Tryd.prog 84 #[.pointer (some ⟨g, 0, none⟩), .int .i64 2000] W fun e w' => e = .returned (.string (str l)) ∧ code.RdAt w' g [] 0 ∧ Keeps [g] W w' := fun W h => by
    have := code.takeText_any h 2000 (by omega)
    have e := code.takeText_put l [] 2000 (by omega) (by omega)
    rw [List.append_nil] at e
    rwa [e] at this
  generalize str l = L at tb ⊢
  generalize code.numL l.length ++ l = q at tb h
  replace tb := Lib.hid tb
  clear hl
  have ts := TkS.start h
  replace ts := Lib.hid ts; replace t0 := Lib.hid t0
  clear h
  go_enter Tryd.func40, Tryd.ntmps40
  go_wp2_with (first
    | (go_at_call 39; (with_reducible refine (t0.out _ _ ts.out.rd).mono ?_); rintro e w1 ⟨rfl, r1, k1⟩; have ts2 := ts.out.keeps r1 k1; clear r1 k1; have tv := TkV.mk' ts2 (.int .i64 3) (.int .i64 0) (.string ⟨#[]⟩); clear ts2; replace tv := Lib.hid tv)
    | (go_at_call 84; (with_reducible refine (tb.out _ tv.out.rd).mono ?_); rintro e w2 ⟨rfl, r1, k1⟩; have tz := tv.out.keeps r1 k1; obtain ⟨c0, c1, c2⟩ := tz.cs; have f2 := tz.vf 2; have tx := Lib.hid (tz.put2 (.string L)); clear tz r1 k1)
    | (go_at_call 85; (with_reducible refine (code.err_any tx.out.rd).mono ?_); rintro e w2 ⟨rfl, b2⟩; have tw := tx.out.below b2; obtain ⟨c0, c1, c2⟩ := tw.cs; obtain ⟨r0, r1, r2⟩ := tw.rs; have f0 := tw.fr 0; have f1 := tw.fr 1; have f2 := tw.fr 2; replace tw := Lib.hid tw; clear b2))
  obtain ⟨q1, q2, q3⟩ := tw.out.toTkS.fin (a := .int .i64 3) (b := .int .i64 0) (c := .string L)
  exact bodyPost_ret (v := .agg #[.int .i64 3, .int .i64 0, .string L]) (results_cell_row rfl _ _ w.heap.size 50 #[.int .i64 3, .int .i64 0, .string L] (0, 0) _ rfl q1 Tryd.underlying50 rfl value3) rfl ⟨rfl, q2, q3⟩
/-- of no bytes nothing is taken -/
theorem take_empty {w : World} {g : Nat} (h : code.RdAt w g [] 0) : Calls Tryd.prog 40 #[.pointer (some ⟨g, 0, none⟩)] w fun e w' => e = .returned (.agg #[.int .i64 0, .int .i64 0, .string ⟨#[]⟩]) ∧ code.RdAt w' g [] 2 ∧ Keeps [g] w w' := by
  have t0 : ∀ (W : World), code.RdAt W g [] 0 → Calls Tryd.prog 39 #[.pointer (some ⟨g, 0, none⟩), .int .u64 3] W fun e w' => e = .returned (.int .u64 0) ∧ code.RdAt w' g [] 2 ∧ Keeps [g] W w' := fun W h => by
    have := code.takeNum_any h 3 (by decide)
    have e : code.takeNum 3 [] = (0, [], 2) := by decide
    rwa [e] at this
  have ts := TkS.start h
  replace ts := Lib.hid ts; replace t0 := Lib.hid t0
  clear h
  go_enter Tryd.func40, Tryd.ntmps40
  go_wp2_with (first
    | (go_at_call 39; (with_reducible refine (t0.out _ ts.out.rd).mono ?_); rintro e w1 ⟨rfl, r1, k1⟩; have ts2 := ts.out.keeps r1 k1; clear r1 k1; have tv := TkV.mk' ts2 (.int .i64 0) (.int .i64 0) (.string ⟨#[]⟩); clear ts2; replace tv := Lib.hid tv)
    | (go_at_call 85; (with_reducible refine (code.err_any tv.out.rd).mono ?_); rintro e w2 ⟨rfl, b2⟩; have tw := tv.out.below b2; obtain ⟨r0, r1, r2⟩ := tw.rs; have f0 := tw.fr 0; have f1 := tw.fr 1; have f2 := tw.fr 2; replace tw := Lib.hid tw; clear b2))
  obtain ⟨q1, q2, q3⟩ := tw.out.toTkS.fin (a := .int .i64 0) (b := .int .i64 0) (c := .string ⟨#[]⟩)
  exact bodyPost_ret (v := .agg #[.int .i64 0, .int .i64 0, .string ⟨#[]⟩]) (results_cell_row rfl _ _ w.heap.size 50 #[.int .i64 0, .int .i64 0, .string ⟨#[]⟩] (0, 0) _ rfl q1 Tryd.underlying50 rfl value3) rfl ⟨rfl, q2, q3⟩
end Go.Proofs.YtcdgnhhciccoeaaDoor.value
