/- Where things stand, and edges beside nodes (package record: Key, Beside), and the document's (lodestoneref26.Key). No other condition. -/
import Derived.Test.YtebhdlecekjhgaaDoorOrderNum
namespace Go.Proofs.YtebhdlecekjhgaaDoor.order
open Go.RowKit
attribute [local go_sem ↓] Go.wp_at_zero Go.wp_at_succ
attribute [local go_sem] str_size
set_option linter.unusedVariables false
set_option maxRecDepth 100000

/-- a number's part of a key, as a text -/
def numB (n : Nat) : ByteArray := str (numP n)
theorem numB_size (n : Nat) : (numB n).size ≤ 9 := by
  unfold numB; rw [str_size]; unfold numP
  have := dropWhile_len (beL 8 n)
  rw [beL_length] at this
  simp only [List.length_cons, List.length_append]; omega
theorem onumB (n : Nat) (w : World) : Calls Tryd.prog 57 #[.int .u64 (n : Int)] w fun e w' => e = .returned (.string (numB n)) ∧ Below w.heap.size w w' := onum_any n w
theorem rnumB (n : Nat) (hn : n < 18446744073709551616) (w : World) : Calls Tryd.prog 30 #[.int .u64 (n : Int)] w fun e w' => e = .returned (.string (numB n)) ∧ Below w.heap.size w w' := rnum_any n hn w
def markE (e : Bool) : ByteArray := if e then ⟨#[101]⟩ else ⟨#[110]⟩
def markO (o : Bool) : ByteArray := if o then ⟨#[111]⟩ else ⟨#[105]⟩
theorem key_any (e : Bool) (n : Nat) (w : World) : Calls Tryd.prog 32 #[.bool e, .int .u64 (n : Int)] w fun r w' => r = .returned (.string (markE e ++ numB n)) ∧ Below w.heap.size w w' := by
  have c := fun w' => onumB n w'
  have hs := numB_size n
  obtain ⟨B, hB⟩ : ∃ B, B = numB n := ⟨_, rfl⟩
  rw [← hB] at hs ⊢
  simp only [← hB] at c
  clear hB
  replace c := Lib.hid c
  cases e
  all_goals (
    go_enter Tryd.func32, Tryd.ntmps32
    go_wp2_with (go_at_call 57; (with_reducible refine (c.out _).mono ?_); rintro r w1 ⟨rfl, b1⟩; replace b1 := Lib.hid b1)
    go_ret
    exact ⟨rfl, b1.out⟩)
theorem rkey_any (e : Bool) (n : Nat) (hn : n < 18446744073709551616) (w : World) : Calls Tryd.prog 33 #[.bool e, .int .u64 (n : Int)] w fun r w' => r = .returned (.string (markE e ++ numB n)) ∧ Below w.heap.size w w' := by
  have c := fun w' => rnumB n hn w'
  have hs := numB_size n
  obtain ⟨B, hB⟩ : ∃ B, B = numB n := ⟨_, rfl⟩
  rw [← hB] at hs ⊢
  simp only [← hB] at c
  clear hB hn
  replace c := Lib.hid c
  cases e
  all_goals (
    go_enter Tryd.func33, Tryd.ntmps33
    go_wp2_with (go_at_call 30; (with_reducible refine (c.out _).mono ?_); rintro r w1 ⟨rfl, b1⟩; replace b1 := Lib.hid b1)
    go_ret
    exact ⟨rfl, b1.out⟩)
/-- all edges of a node -/
theorem beside_all (o : Bool) (n e : Nat) (t : Int) (ht : t < 0) (w : World) : Calls Tryd.prog 34 #[.bool o, .int .u64 (n : Int), .int .i64 t, .int .u64 (e : Int)] w fun r w' => r = .returned (.string (markO o ++ numB n)) ∧ Below w.heap.size w w' := by
  have c := fun w' => onumB n w'
  have hs := numB_size n
  obtain ⟨B, hB⟩ : ∃ B, B = numB n := ⟨_, rfl⟩
  rw [← hB] at hs ⊢
  simp only [← hB] at c
  clear hB
  replace c := Lib.hid c
  cases o
  all_goals (
    go_enter Tryd.func34, Tryd.ntmps34
    go_wp2_with (go_at_call 57; (with_reducible refine (c.out _).mono ?_); rintro r w1 ⟨rfl, b1⟩; replace b1 := Lib.hid b1)
    go_ret
    exact ⟨rfl, b1.out⟩)
/-- all edges of a node and a type -/
theorem beside_type (o : Bool) (n t : Nat) (ht : t < 9223372036854775808) (w : World) : Calls Tryd.prog 34 #[.bool o, .int .u64 (n : Int), .int .i64 (t : Int), .int .u64 0] w fun r w' => r = .returned (.string (markO o ++ numB n ++ numB t)) ∧ Below w.heap.size w w' := by
  have c := fun w' => onumB n w'
  have c2 := fun w' => onumB t w'
  have hs := numB_size n
  have hs2 := numB_size t
  have hwr : IntKind.u64.wrap (t : Int) = (t : Int) := by rw [IntKind.wrap_u64]; omega
  have ht0 : ¬ (t : Int) < 0 := by omega
  obtain ⟨B, hB⟩ : ∃ B, B = numB n := ⟨_, rfl⟩
  obtain ⟨T, hT⟩ : ∃ T, T = numB t := ⟨_, rfl⟩
  rw [← hB, ← hT]
  rw [← hB] at hs
  rw [← hT] at hs2
  simp only [← hB] at c
  simp only [← hT] at c2
  clear hB hT ht
  have hbb := Lib.hid (Below.refl w.heap.size w)
  replace c := Lib.hid c; replace c2 := Lib.hid c2
  cases o
  all_goals (
    go_enter Tryd.func34, Tryd.ntmps34
    go_wp2_with (first
      | (go_at_call 57; (with_reducible refine (c.out _).mono ?_); rintro r w1 ⟨rfl, b1⟩; replace hbb := Lib.hid (belowCont hbb.out b1); clear b1)
      | (go_at_call 57; (with_reducible refine (c2.out _).mono ?_); rintro r w1 ⟨rfl, b1⟩; replace hbb := Lib.hid (belowCont hbb.out b1); clear b1)
      | (go_at_call 57; rw [hwr]; (with_reducible refine (c2.out _).mono ?_); rintro r w1 ⟨rfl, b1⟩; replace hbb := Lib.hid (belowCont hbb.out b1); clear b1))
    go_ret
    exact ⟨rfl, hbb.out⟩)
/-- one edge of a node and a type -/
theorem beside_one (o : Bool) (n t e : Nat) (ht : t < 9223372036854775808) (he : e ≠ 0) (w : World) : Calls Tryd.prog 34 #[.bool o, .int .u64 (n : Int), .int .i64 (t : Int), .int .u64 (e : Int)] w fun r w' => r = .returned (.string (markO o ++ numB n ++ numB t ++ numB e)) ∧ Below w.heap.size w w' := by
  have c := fun w' => onumB n w'
  have c2 := fun w' => onumB t w'
  have c3 := fun w' => onumB e w'
  have hs := numB_size n
  have hs2 := numB_size t
  have hs3 := numB_size e
  have hwr : IntKind.u64.wrap (t : Int) = (t : Int) := by rw [IntKind.wrap_u64]; omega
  have ht0 : ¬ (t : Int) < 0 := by omega
  have he0 : ((e : Int) == 0) = false := by simp; omega
  obtain ⟨B, hB⟩ : ∃ B, B = numB n := ⟨_, rfl⟩
  obtain ⟨T, hT⟩ : ∃ T, T = numB t := ⟨_, rfl⟩
  obtain ⟨E, hE⟩ : ∃ E, E = numB e := ⟨_, rfl⟩
  rw [← hB, ← hT, ← hE]
  rw [← hB] at hs
  rw [← hT] at hs2
  rw [← hE] at hs3
  simp only [← hB] at c
  simp only [← hT] at c2
  simp only [← hE] at c3
  clear hB hT hE ht
  have hbb := Lib.hid (Below.refl w.heap.size w)
  replace c := Lib.hid c; replace c2 := Lib.hid c2; replace c3 := Lib.hid c3
  cases o
  all_goals (
    go_enter Tryd.func34, Tryd.ntmps34
    go_wp2_with (first
      | (go_at_call 57; (with_reducible refine (c.out _).mono ?_); rintro r w1 ⟨rfl, b1⟩; replace hbb := Lib.hid (belowCont hbb.out b1); clear b1)
      | (go_at_call 57; (with_reducible refine (c2.out _).mono ?_); rintro r w1 ⟨rfl, b1⟩; replace hbb := Lib.hid (belowCont hbb.out b1); clear b1)
      | (go_at_call 57; (with_reducible refine (c3.out _).mono ?_); rintro r w1 ⟨rfl, b1⟩; replace hbb := Lib.hid (belowCont hbb.out b1); clear b1)
      | (go_at_call 57; rw [hwr]; (with_reducible refine (c2.out _).mono ?_); rintro r w1 ⟨rfl, b1⟩; replace hbb := Lib.hid (belowCont hbb.out b1); clear b1))
    go_ret
    exact ⟨rfl, hbb.out⟩)
end Go.Proofs.YtebhdlecekjhgaaDoor.order
