/- Values within a thing's bytes: how each value that law23's Near gives is told, put, and taken with more behind it. No condition but that a number is one of 64 bits. -/
import Derived.Test.YtcdgnhhciccoeaaDoorRecW7
namespace Go.Proofs.YtcdgnhhciccoeaaDoor.value
open Go.RowKit
attribute [local go_sem ↓] Go.wp_at_zero Go.wp_at_succ
attribute [local go_sem] str_size
set_option linter.unusedVariables false
set_option maxRecDepth 100000

theorem tk_none {w : World} {g : Nat} (r : List UInt8) (h : code.RdAt w g (0 :: r) 0) : Calls Tryd.prog 40 #[.pointer (some ⟨g, 0, none⟩)] w fun e w' => e = .returned (.agg #[.int .i64 0, .int .i64 0, .string ⟨#[]⟩]) ∧ code.RdAt w' g r 0 ∧ Keeps [g] w w' := by
  have t0 : ∀ (W : World) (r : List UInt8), code.RdAt W g (0 :: r) 0 → Calls Tryd.prog 39 #[.pointer (some ⟨g, 0, none⟩), .int .u64 3] W fun e w' => e = .returned (.int .u64 0) ∧ code.RdAt w' g r 0 ∧ Keeps [g] W w' := fun W r h => take_lit 0 (by decide) h 3 (by decide) (by decide)
  have ts := TkS.start h
  replace ts := Lib.hid ts; replace t0 := Lib.hid t0
  clear h
  go_enter Tryd.func40, Tryd.ntmps40
  go_wp2_with (first
    | (go_at_call 39; (with_reducible refine (t0.out _ _ ts.out.rd).mono ?_); rintro e w1 ⟨rfl, r1, k1⟩; have ts2 := ts.out.keeps r1 k1; clear r1 k1; have tv := TkV.mk' ts2 (.int .i64 0) (.int .i64 0) (.string ⟨#[]⟩); clear ts2; replace tv := Lib.hid tv)
    | (go_at_call 85; (with_reducible refine (code.err_any tv.out.rd).mono ?_); rintro e w2 ⟨rfl, b2⟩; have tw := tv.out.below b2; obtain ⟨c0, c1, c2⟩ := tw.cs; obtain ⟨r0, r1, r2⟩ := tw.rs; have f0 := tw.fr 0; have f1 := tw.fr 1; have f2 := tw.fr 2; replace tw := Lib.hid tw; clear b2))
  obtain ⟨q1, q2, q3⟩ := tw.out.toTkS.fin (a := .int .i64 0) (b := .int .i64 0) (c := .string ⟨#[]⟩)
  exact bodyPost_ret (v := .agg #[.int .i64 0, .int .i64 0, .string ⟨#[]⟩]) (results_cell_row rfl _ _ w.heap.size 50 #[.int .i64 0, .int .i64 0, .string ⟨#[]⟩] (0, 0) _ rfl q1 Tryd.underlying50 rfl value3) rfl ⟨rfl, q2, q3⟩
theorem tk_0 {w : World} {g : Nat}  (r : List UInt8) (h : code.RdAt w g (1 :: 0 :: r) 0) : Calls Tryd.prog 40 #[.pointer (some ⟨g, 0, none⟩)] w fun e w' => e = .returned (.agg #[.int .i64 1, .int .i64 0, .string ⟨#[]⟩]) ∧ code.RdAt w' g r 0 ∧ Keeps [g] w w' := by
  have t0 : ∀ (W : World) (r : List UInt8), code.RdAt W g (1 :: r) 0 → Calls Tryd.prog 39 #[.pointer (some ⟨g, 0, none⟩), .int .u64 3] W fun e w' => e = .returned (.int .u64 1) ∧ code.RdAt w' g r 0 ∧ Keeps [g] W w' := fun W r h => take_lit 1 (by decide) h 3 (by decide) (by decide)
  have tb : ∀ (W : World) (r : List UInt8), code.RdAt W g (0 :: r) 0 → Calls Tryd.prog 37 #[.pointer (some ⟨g, 0, none⟩)] W fun e w' => e = .returned (.bool false) ∧ code.RdAt w' g r 0 ∧ Keeps [g] W w' := fun W r h => bool_take false h
  have tB : ∀ W : World, Calls Tryd.prog 82 #[.bool false] W fun e w' => e = .returned (.agg #[.int .i64 1, .int .i64 0, .string ⟨#[]⟩]) ∧ Below W.heap.size W w' := fun W => bool_any false W
  replace tb := Lib.hid tb; replace tB := Lib.hid tB
  have ts := TkS.start h
  replace ts := Lib.hid ts; replace t0 := Lib.hid t0
  clear h
  go_enter Tryd.func40, Tryd.ntmps40
  go_wp2_with (first
    | (go_at_call 39; (with_reducible refine (t0.out _ _ ts.out.rd).mono ?_); rintro e w1 ⟨rfl, r1, k1⟩; have ts2 := ts.out.keeps r1 k1; clear r1 k1; have tv := TkV.mk' ts2 (.int .i64 1) (.int .i64 0) (.string ⟨#[]⟩); clear ts2; replace tv := Lib.hid tv)
    | (go_at_call 37; (with_reducible refine (tb.out _ _ tv.out.rd).mono ?_); rintro e w2 ⟨rfl, r1, k1⟩; have ty := Lib.hid (tv.out.keeps r1 k1); clear r1 k1)
    | (go_at_call 82; (with_reducible refine (tB.out _).mono ?_); rintro e w2 ⟨rfl, b2⟩; have tz := ty.out.below b2; obtain ⟨c0, c1, c2⟩ := tz.cs; have f0 := tz.vf 0; have f1 := tz.vf 1; have f2 := tz.vf 2; have tx := Lib.hid (((tz.put0 (.int .i64 1)).put1 (.int .i64 0)).put2 (.string ⟨#[]⟩)); clear tz b2)
    | (go_at_call 85; (with_reducible refine (code.err_any tx.out.rd).mono ?_); rintro e w2 ⟨rfl, b2⟩; have tw := tx.out.below b2; obtain ⟨c0, c1, c2⟩ := tw.cs; obtain ⟨r0, r1, r2⟩ := tw.rs; have f0 := tw.fr 0; have f1 := tw.fr 1; have f2 := tw.fr 2; replace tw := Lib.hid tw; clear b2))
  obtain ⟨q1, q2, q3⟩ := tw.out.toTkS.fin (a := .int .i64 1) (b := .int .i64 0) (c := .string ⟨#[]⟩)
  exact bodyPost_ret (v := .agg #[.int .i64 1, .int .i64 0, .string ⟨#[]⟩]) (results_cell_row rfl _ _ w.heap.size 50 #[.int .i64 1, .int .i64 0, .string ⟨#[]⟩] (0, 0) _ rfl q1 Tryd.underlying50 rfl value3) rfl ⟨rfl, q2, q3⟩
theorem tk_1 {w : World} {g : Nat}  (r : List UInt8) (h : code.RdAt w g (1 :: 1 :: r) 0) : Calls Tryd.prog 40 #[.pointer (some ⟨g, 0, none⟩)] w fun e w' => e = .returned (.agg #[.int .i64 1, .int .i64 1, .string ⟨#[]⟩]) ∧ code.RdAt w' g r 0 ∧ Keeps [g] w w' := by
  have t0 : ∀ (W : World) (r : List UInt8), code.RdAt W g (1 :: r) 0 → Calls Tryd.prog 39 #[.pointer (some ⟨g, 0, none⟩), .int .u64 3] W fun e w' => e = .returned (.int .u64 1) ∧ code.RdAt w' g r 0 ∧ Keeps [g] W w' := fun W r h => take_lit 1 (by decide) h 3 (by decide) (by decide)
  have tb : ∀ (W : World) (r : List UInt8), code.RdAt W g (1 :: r) 0 → Calls Tryd.prog 37 #[.pointer (some ⟨g, 0, none⟩)] W fun e w' => e = .returned (.bool true) ∧ code.RdAt w' g r 0 ∧ Keeps [g] W w' := fun W r h => bool_take true h
  have tB : ∀ W : World, Calls Tryd.prog 82 #[.bool true] W fun e w' => e = .returned (.agg #[.int .i64 1, .int .i64 1, .string ⟨#[]⟩]) ∧ Below W.heap.size W w' := fun W => bool_any true W
  replace tb := Lib.hid tb; replace tB := Lib.hid tB
  have ts := TkS.start h
  replace ts := Lib.hid ts; replace t0 := Lib.hid t0
  clear h
  go_enter Tryd.func40, Tryd.ntmps40
  go_wp2_with (first
    | (go_at_call 39; (with_reducible refine (t0.out _ _ ts.out.rd).mono ?_); rintro e w1 ⟨rfl, r1, k1⟩; have ts2 := ts.out.keeps r1 k1; clear r1 k1; have tv := TkV.mk' ts2 (.int .i64 1) (.int .i64 0) (.string ⟨#[]⟩); clear ts2; replace tv := Lib.hid tv)
    | (go_at_call 37; (with_reducible refine (tb.out _ _ tv.out.rd).mono ?_); rintro e w2 ⟨rfl, r1, k1⟩; have ty := Lib.hid (tv.out.keeps r1 k1); clear r1 k1)
    | (go_at_call 82; (with_reducible refine (tB.out _).mono ?_); rintro e w2 ⟨rfl, b2⟩; have tz := ty.out.below b2; obtain ⟨c0, c1, c2⟩ := tz.cs; have f0 := tz.vf 0; have f1 := tz.vf 1; have f2 := tz.vf 2; have tx := Lib.hid (((tz.put0 (.int .i64 1)).put1 (.int .i64 1)).put2 (.string ⟨#[]⟩)); clear tz b2)
    | (go_at_call 85; (with_reducible refine (code.err_any tx.out.rd).mono ?_); rintro e w2 ⟨rfl, b2⟩; have tw := tx.out.below b2; obtain ⟨c0, c1, c2⟩ := tw.cs; obtain ⟨r0, r1, r2⟩ := tw.rs; have f0 := tw.fr 0; have f1 := tw.fr 1; have f2 := tw.fr 2; replace tw := Lib.hid tw; clear b2))
  obtain ⟨q1, q2, q3⟩ := tw.out.toTkS.fin (a := .int .i64 1) (b := .int .i64 1) (c := .string ⟨#[]⟩)
  exact bodyPost_ret (v := .agg #[.int .i64 1, .int .i64 1, .string ⟨#[]⟩]) (results_cell_row rfl _ _ w.heap.size 50 #[.int .i64 1, .int .i64 1, .string ⟨#[]⟩] (0, 0) _ rfl q1 Tryd.underlying50 rfl value3) rfl ⟨rfl, q2, q3⟩
theorem tk_int {w : World} {g : Nat} (n : Int) (u : Nat) (hu : IntKind.i64.wrap (u : Int) = n) (hu64 : u < 18446744073709551616) (r : List UInt8) (h : code.RdAt w g (2 :: (code.beL 8 u ++ r)) 0) : Calls Tryd.prog 40 #[.pointer (some ⟨g, 0, none⟩)] w fun e w' => e = .returned (.agg #[.int .i64 2, .int .i64 n, .string ⟨#[]⟩]) ∧ code.RdAt w' g r 0 ∧ Keeps [g] w w' := by
  have t0 : ∀ (W : World) (r : List UInt8), code.RdAt W g (2 :: r) 0 → Calls Tryd.prog 39 #[.pointer (some ⟨g, 0, none⟩), .int .u64 3] W fun e w' => e = .returned (.int .u64 2) ∧ code.RdAt w' g r 0 ∧ Keeps [g] W w' := fun W r h => take_lit 2 (by decide) h 3 (by decide) (by decide)
  have tb : ∀ (W : World), code.RdAt W g (code.beL 8 u ++ r) 0 → Calls Tryd.prog 83 #[.pointer (some ⟨g, 0, none⟩)] W fun e w' => e = .returned (.int .u64 (u : Int)) ∧ code.RdAt w' g r 0 ∧ Keeps [g] W w' := fun W h => by
    have := code.big_take h
    have hl := code.beL_length 8 u
    have e : code.takeBe 8 (code.beL 8 u ++ r) = (u, r, 0) := by
      unfold code.takeBe
      rw [if_pos (by rw [List.length_append]; omega), List.take_left' hl, List.drop_left' hl, code.beNat_beL, Nat.mod_eq_of_lt hu64]
    rwa [e] at this
  replace tb := Lib.hid tb
  have ts := TkS.start h
  replace ts := Lib.hid ts; replace t0 := Lib.hid t0
  clear h
  go_enter Tryd.func40, Tryd.ntmps40
  go_wp2_with (first
    | (go_at_call 39; (with_reducible refine (t0.out _ _ ts.out.rd).mono ?_); rintro e w1 ⟨rfl, r1, k1⟩; have ts2 := ts.out.keeps r1 k1; clear r1 k1; have tv := TkV.mk' ts2 (.int .i64 2) (.int .i64 0) (.string ⟨#[]⟩); clear ts2; replace tv := Lib.hid tv)
    | (go_at_call 83; (with_reducible refine (tb.out _ tv.out.rd).mono ?_); rintro e w2 ⟨rfl, r1, k1⟩; have tz := tv.out.keeps r1 k1; obtain ⟨c0, c1, c2⟩ := tz.cs; have f1 := tz.vf 1; have tx := Lib.hid (tz.put1 (.int .i64 n)); clear tz r1 k1)
    | (go_at_call 85; (with_reducible refine (code.err_any tx.out.rd).mono ?_); rintro e w2 ⟨rfl, b2⟩; have tw := tx.out.below b2; obtain ⟨c0, c1, c2⟩ := tw.cs; obtain ⟨r0, r1, r2⟩ := tw.rs; have f0 := tw.fr 0; have f1 := tw.fr 1; have f2 := tw.fr 2; replace tw := Lib.hid tw; clear b2))
  obtain ⟨q1, q2, q3⟩ := tw.out.toTkS.fin (a := .int .i64 2) (b := .int .i64 n) (c := .string ⟨#[]⟩)
  exact bodyPost_ret (v := .agg #[.int .i64 2, .int .i64 n, .string ⟨#[]⟩]) (results_cell_row rfl _ _ w.heap.size 50 #[.int .i64 2, .int .i64 n, .string ⟨#[]⟩] (0, 0) _ rfl q1 Tryd.underlying50 rfl value3) rfl ⟨rfl, q2, q3⟩
theorem tk_txt {w : World} {g : Nat} (l : List UInt8) (hl : l.length ≤ 2000) (r : List UInt8) (h : code.RdAt w g (3 :: (code.numL l.length ++ l ++ r)) 0) : Calls Tryd.prog 40 #[.pointer (some ⟨g, 0, none⟩)] w fun e w' => e = .returned (.agg #[.int .i64 3, .int .i64 0, .string (str l)]) ∧ code.RdAt w' g r 0 ∧ Keeps [g] w w' := by
  have t0 : ∀ (W : World) (r : List UInt8), code.RdAt W g (3 :: r) 0 → Calls Tryd.prog 39 #[.pointer (some ⟨g, 0, none⟩), .int .u64 3] W fun e w' => e = .returned (.int .u64 3) ∧ code.RdAt w' g r 0 ∧ Keeps [g] W w' := fun W r h => take_lit 3 (by decide) h 3 (by decide) (by decide)
  have tb : ∀ (W : World), code.RdAt W g (code.numL l.length ++ l ++ r) 0 → Calls Tryd.prog 84 #[.pointer (some ⟨g, 0, none⟩), .int .i64 2000] W fun e w' => e = .returned (.string (str l)) ∧ code.RdAt w' g r 0 ∧ Keeps [g] W w' := fun W h => by
    have := code.takeText_any h 2000 (by omega)
    have e := code.takeText_put l r 2000 (by omega) (by omega)
    rw [← List.append_assoc] at e
    rwa [e] at this
  generalize str l = L at tb ⊢
  generalize code.numL l.length ++ l ++ r = q at tb h
  replace tb := Lib.hid tb
  clear hl
  have ts := TkS.start h
  replace ts := Lib.hid ts; replace t0 := Lib.hid t0
  clear h
  go_enter Tryd.func40, Tryd.ntmps40
  go_wp2_with (first
    | (go_at_call 39; (with_reducible refine (t0.out _ _ ts.out.rd).mono ?_); rintro e w1 ⟨rfl, r1, k1⟩; have ts2 := ts.out.keeps r1 k1; clear r1 k1; have tv := TkV.mk' ts2 (.int .i64 3) (.int .i64 0) (.string ⟨#[]⟩); clear ts2; replace tv := Lib.hid tv)
    | (go_at_call 84; (with_reducible refine (tb.out _ tv.out.rd).mono ?_); rintro e w2 ⟨rfl, r1, k1⟩; have tz := tv.out.keeps r1 k1; obtain ⟨c0, c1, c2⟩ := tz.cs; have f2 := tz.vf 2; have tx := Lib.hid (tz.put2 (.string L)); clear tz r1 k1)
    | (go_at_call 85; (with_reducible refine (code.err_any tx.out.rd).mono ?_); rintro e w2 ⟨rfl, b2⟩; have tw := tx.out.below b2; obtain ⟨c0, c1, c2⟩ := tw.cs; obtain ⟨r0, r1, r2⟩ := tw.rs; have f0 := tw.fr 0; have f1 := tw.fr 1; have f2 := tw.fr 2; replace tw := Lib.hid tw; clear b2))
  obtain ⟨q1, q2, q3⟩ := tw.out.toTkS.fin (a := .int .i64 3) (b := .int .i64 0) (c := .string L)
  exact bodyPost_ret (v := .agg #[.int .i64 3, .int .i64 0, .string L]) (results_cell_row rfl _ _ w.heap.size 50 #[.int .i64 3, .int .i64 0, .string L] (0, 0) _ rfl q1 Tryd.underlying50 rfl value3) rfl ⟨rfl, q2, q3⟩
end Go.Proofs.YtcdgnhhciccoeaaDoor.value
namespace Go.Proofs.YtcdgnhhciccoeaaDoor.recw
open Go.RowKit
set_option linter.unusedVariables false
set_option maxRecDepth 100000

/-- may a value be -/
def mB (x : Vl) : Bool := x.1 == 0 || x.1 == 1 || x.1 == 2 || (x.1 == 3 && decide (x.2.2.size ≤ 2000))
/-- a value's bytes -/
def pB (x : Vl) : List UInt8 := if x.1 = 0 then [0] else if x.1 = 1 then [1, if x.2.1 = 0 then 0 else 1] else if x.1 = 2 then 2 :: code.beL 8 (IntKind.u64.wrap x.2.1).toNat else 3 :: (code.numL x.2.2.size ++ x.2.2.data.toList)
/-- a value that both packages tell alike -/
structure VK (x : Vl) : Prop where
  zero : x.1 = 0 → x = vl0
  may : ∀ w, Calls Tryd.prog 77 #[x.v] w fun e w' => e = .returned (.bool (mB x)) ∧ Below w.heap.size w w'
  rmay : ∀ w, Calls Tryd.prog 49 #[x.v] w fun e w' => e = .returned (.bool (mB x)) ∧ Below w.heap.size w w'
  put : mB x = true → ∀ w, Calls Tryd.prog 33 #[x.v] w fun e w' => e = .returned (.string (str (pB x))) ∧ Below w.heap.size w w'
  rput : mB x = true → ∀ w, Calls Tryd.prog 45 #[x.v] w fun e w' => e = .returned (.string (str (pB x))) ∧ Below w.heap.size w w'
  take : mB x = true → ∀ (g : Nat) (r : List UInt8) (w : World), code.RdAt w g (pB x ++ r) 0 → Calls Tryd.prog 40 #[.pointer (some ⟨g, 0, none⟩)] w fun e w' => e = .returned x.v ∧ code.RdAt w' g r 0 ∧ Keeps [g] w w'
  len : mB x = true → (pB x).length ≤ 2020
/-- what both packages say of a value -/
theorem VK.of {x : Vl} {m : Bool} {p : List UInt8} (h0 : x.1 = 0 → x = vl0) (hm : mB x = m) (hp : m = true → pB x = p)
    (may : ∀ w, Calls Tryd.prog 77 #[x.v] w fun e w' => e = .returned (.bool m) ∧ Below w.heap.size w w')
    (rmay : ∀ w, Calls Tryd.prog 49 #[x.v] w fun e w' => e = .returned (.bool m) ∧ Below w.heap.size w w')
    (put : m = true → ∀ w, Calls Tryd.prog 33 #[x.v] w fun e w' => e = .returned (.string (str p)) ∧ Below w.heap.size w w')
    (rput : m = true → ∀ w, Calls Tryd.prog 45 #[x.v] w fun e w' => e = .returned (.string (str p)) ∧ Below w.heap.size w w')
    (ht : m = true → ∀ (g : Nat) (r : List UInt8) (w : World), code.RdAt w g (p ++ r) 0 → Calls Tryd.prog 40 #[.pointer (some ⟨g, 0, none⟩)] w fun e w' => e = .returned x.v ∧ code.RdAt w' g r 0 ∧ Keeps [g] w w') (hl : m = true → p.length ≤ 2020) : VK x := by
  subst hm
  exact ⟨h0, may, rmay, fun e => by rw [hp e]; exact put e, fun e => by rw [hp e]; exact rput e, fun e => by rw [hp e]; exact ht e, fun e => by rw [hp e]; exact hl e⟩
theorem vk_none : VK (0, 0, ⟨#[]⟩) := .of (p := [0]) (fun _ => rfl) rfl (fun _ => rfl) value.may_none value.rmay_none (fun _ => value.put_none) (fun _ => value.rput_none) (fun _ g r w h => value.tk_none r h) (fun _ => by decide)
theorem vk_0 : VK (1, 0, ⟨#[]⟩) := .of (p := [1, 0]) (by simp) rfl (fun _ => rfl) value.may_0 value.rmay_0 (fun _ => value.put_0) (fun _ => value.rput_0) (fun _ g r w h => value.tk_0 r h) (fun _ => by decide)
theorem vk_1 : VK (1, 1, ⟨#[]⟩) := .of (p := [1, 1]) (by simp) rfl (fun _ => rfl) value.may_1 value.rmay_1 (fun _ => value.put_1) (fun _ => value.rput_1) (fun _ g r w h => value.tk_1 r h) (fun _ => by decide)
theorem vk_int (n : Int) (h : -9223372036854775808 ≤ n ∧ n ≤ 9223372036854775807) : VK (2, n, ⟨#[]⟩) := by
  have hw : IntKind.u64.wrap n = n % 18446744073709551616 := by simp [IntKind.wrap, IntKind.signed, IntKind.bits]
  have h0 : 0 ≤ IntKind.u64.wrap n := by rw [hw]; omega
  have h1 : IntKind.u64.wrap n < 18446744073709551616 := by rw [hw]; omega
  obtain ⟨u, hu⟩ : ∃ u : Nat, u = (IntKind.u64.wrap n).toNat := ⟨_, rfl⟩
  have hu2 : IntKind.u64.wrap n = (u : Int) := by omega
  have hu3 : u < 18446744073709551616 := by omega
  have hback : IntKind.i64.wrap (u : Int) = n := by
    rw [IntWalk.i64_left]; unfold wrap64; rw [hw] at hu2; omega
  refine .of (x := (2, n, ⟨#[]⟩)) (p := 2 :: code.beL 8 u) (by simp) rfl (fun _ => by simp [pB, hu]) (value.may_int n) (value.rmay_int n) (fun _ => value.put_int n u hu2) (fun _ => value.rput_int n u hu2 hu3) (fun _ g r w h => value.tk_int n u hback hu3 r h) (fun _ => by simp [code.beL_length])
theorem vk_txt (s : ByteArray) : VK (3, 0, s) := by
  by_cases h : s.size ≤ 2000
  · obtain ⟨l, rfl⟩ : ∃ l, s = str l := ⟨s.data.toList, (str_of _).symm⟩
    have hz : l.length ≤ 2000 := by rwa [str_size] at h
    have hd : decide (((str l).size : Int) ≤ 2000) = true := by simp; omega
    refine .of (x := (3, 0, str l)) (p := 3 :: (code.numL l.length ++ l)) (by simp) (by simp [mB, str_size, hz]) (fun _ => by simp [pB, str_size, str_toList]) (value.may_txt _ true hd) (value.rmay_txt _ true hd) (fun _ => value.put_txt l hz) (fun _ => value.rput_txt l hz) (fun _ g r w h => value.tk_txt l hz r h) (fun _ => ?_)
    have := code.numL_len64 l.length (by omega)
    simp; omega
  · have hd : decide ((s.size : Int) ≤ 2000) = false := by simp; omega
    exact .of (x := (3, 0, s)) (m := false) (p := []) (by simp) (by simp [mB]; omega) (by simp) (value.may_txt _ false hd) (value.rmay_txt _ false hd) (by simp) (by simp) (by simp) (by simp)
theorem vk_odd (k n : Int) (s : ByteArray) (h : value.Odd k) : VK (k, n, s) := by
  have h0 := h.e0; have h1 := h.e1; have h2 := h.e2; have h3 := h.e3
  refine .of (x := (k, n, s)) (m := false) (p := []) (fun e => ?_) (by simp [mB, h0, h1, h2, h3]) (by simp) (value.may_odd k n s h) (value.rmay_odd k n s h) (by simp) (by simp) (by simp) (by simp)
  simp at e; subst e; simp at h0
theorem near_vk (k n : Int) (s : ByteArray) (hn : -9223372036854775808 ≤ n ∧ n ≤ 9223372036854775807) : ∃ x : Vl, VK x ∧ ∀ w, Calls Tryd.prog 18 #[.agg #[.int .i64 k, .int .i64 n, .string s]] w fun e w' => e = .returned x.v ∧ Below w.heap.size w w' := by
  have h8 : k % 8 = 0 ∨ k % 8 = 1 ∨ k % 8 = 2 ∨ k % 8 = 3 ∨ k % 8 = 4 ∨ k % 8 = 5 ∨ k % 8 = 6 ∨ k % 8 = 7 := by omega
  have h2 : n % 2 = 0 ∨ n % 2 = 1 := by omega
  have n1 := and_mask n 1 1 (by decide) (by decide)
  have hk := and_7 k
  rcases h8 with h | h | h | h | h | h | h | h
  · exact ⟨(0, 0, ⟨#[]⟩), vk_none, fun w => value.near_0 k n s (hk.trans h) w⟩
  · rcases h2 with h3 | h3
    · exact ⟨(1, 0, ⟨#[]⟩), vk_0, fun w => value.near_10 k n s (hk.trans h) (n1.trans h3) w⟩
    · exact ⟨(1, 1, ⟨#[]⟩), vk_1, fun w => value.near_11 k n s (hk.trans h) (n1.trans h3) w⟩
  · exact ⟨(2, n, ⟨#[]⟩), vk_int n hn, fun w => value.near_2 k n s (hk.trans h) w⟩
  · exact ⟨(2, n, ⟨#[]⟩), vk_int n hn, fun w => value.near_3 k n s (hk.trans h) w⟩
  · by_cases h6 : s.size ≤ 60
    · exact ⟨(3, 0, s), vk_txt s, fun w => value.near_4s k n s (hk.trans h) h6 w⟩
    · exact ⟨(3, 0, s.extract 0 60), vk_txt _, fun w => value.near_4l k n s (hk.trans h) (by omega) w⟩
  · by_cases h6 : s.size ≤ 60
    · exact ⟨(3, 0, s), vk_txt s, fun w => value.near_5s k n s (hk.trans h) h6 w⟩
    · exact ⟨(3, 0, s.extract 0 60), vk_txt _, fun w => value.near_5l k n s (hk.trans h) (by omega) w⟩
  · by_cases h6 : s.size ≤ 60
    · exact ⟨(3, 0, s), vk_txt s, fun w => value.near_6s k n s (hk.trans h) h6 w⟩
    · exact ⟨(3, 0, s.extract 0 60), vk_txt _, fun w => value.near_6l k n s (hk.trans h) (by omega) w⟩
  · have ho : value.Odd k := ⟨by simp; omega, by simp; omega, by simp; omega, by simp; omega⟩
    by_cases h6 : s.size ≤ 2100
    · exact ⟨(k, n, s), vk_odd k n s ho, fun w => value.near_7s k n s (hk.trans h) h6 w⟩
    · exact ⟨(k, n, s.extract 0 2100), vk_odd k n _ ho, fun w => value.near_7l k n s (hk.trans h) (by omega) w⟩
end Go.Proofs.YtcdgnhhciccoeaaDoor.recw
