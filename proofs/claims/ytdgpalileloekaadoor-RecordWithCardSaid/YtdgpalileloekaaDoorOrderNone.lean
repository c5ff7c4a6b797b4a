/- No parts are nothing. No condition. -/
import Derived.Test.YtdgpalileloekaaDoorOrder
import Derived.Deep.DeepCutAuto
import Derived.BigRegion
namespace Go.Proofs.YtdgpalileloekaaDoor.order
open Go.RowKit
attribute [local go_sem ↓] Go.wp_at_zero Go.wp_at_succ
attribute [local go_sem] str_bl str_size str_get0 conv_one conv_one_drew str_append
set_option linter.unusedVariables false
set_option maxRecDepth 100000

set_option maxRecDepth 100000 in
theorem trim_any (l : List UInt8) (w : World) : Calls Tryd.prog 140 #[.string (str l), .string ⟨#[0]⟩] w fun e w' => e = .returned (.string (str (l.dropWhile (· == 0)))) ∧ w' = w := by
  have hb : ∀ w', Calls Tryd.prog 159 #[.string (str l), .int .u8 0] w' fun e w2 => e = .returned (.string (str (l.dropWhile (· == 0)))) ∧ w2 = w' := fun w' => trimByte_any 0 l w'
  match l, hb with
  | [], hb =>
    clear hb
    go_enter Tryd.func140, Tryd.ntmps140
    go_wp2
    go_ret
    exact ⟨rfl, rfl⟩
  | b :: r, hb =>
    have hne : ¬ (str (b :: r) = (⟨#[]⟩ : ByteArray)) := by
      intro e; have := congrArg ByteArray.size e; rw [str_size] at this; simp at this; exact absurd this (by simp [ByteArray.size])
    have hne2 : (str (b :: r) == (⟨#[]⟩ : ByteArray)) = false := by
      show ((b :: r).toArray == (#[] : Array UInt8)) = false
      simp
    have h0 : ∀ h, (((⟨#[0]⟩ : ByteArray)[0]'h).toNat : Int) = 0 := fun _ => rfl
    replace hb := Lib.hid hb
    go_enter Tryd.func140, Tryd.ntmps140
    go_wp2_with (go_at_call 159; (with_reducible refine (hb.out _).mono ?_); rintro e w1 ⟨rfl, rfl⟩)
    go_ret
    exact ⟨rfl, rfl⟩
theorem dropWhile_len (l : List UInt8) : (l.dropWhile (· == 0)).length ≤ l.length := (List.dropWhile_sublist _).length_le
def numP (n : Nat) : List UInt8 := UInt8.ofNat (16 + ((beL 8 n).dropWhile (· == 0)).length) :: (beL 8 n).dropWhile (· == 0)
set_option maxRecDepth 100000 in
theorem onum_any (n : Nat) (w : World) : Calls Tryd.prog 95 #[.int .u64 (n : Int)] w fun e w' => e = .returned (.string (str (numP n))) ∧ Below w.heap.size w w' := by
  have hbig := fun w' => big_put n w'
  have ht := fun w' => trim_any (beL 8 n) w'
  have hl := dropWhile_len (beL 8 n)
  rw [beL_length] at hl
  obtain ⟨d, hd⟩ : ∃ d, d = (beL 8 n).dropWhile (· == 0) := ⟨_, rfl⟩
  unfold numP
  rw [← hd] at ht hl ⊢
  clear hd
  obtain ⟨z, hz⟩ : ∃ z : Nat, z = 16 + d.length := ⟨_, rfl⟩
  have e1 : (16 : Int) + d.length = z := by omega
  have e2 : (z : Int) % 256 = z := by omega
  have e3 : IntKind.u8.wrap (z : Int) = z := IntWalk.u8_in _ (by omega)
  have hroom : ¬ 9223372036854775807 < 1 + d.length := by omega
  have hbb : Below w.heap.size w w := Below.refl _ _
  rw [← hz]
  clear hl
  replace hz := Lib.hid hz
  replace hbig := Lib.hid hbig
  replace ht := Lib.hid ht
  go_enter Tryd.func95, Tryd.ntmps95
  go_wp2_with (first | (go_at_call 86; (with_reducible refine (hbig.out _).mono ?_); rintro e w1 ⟨rfl, b1⟩; replace hbb := belowCont hbb b1) | (go_at_call 140; (with_reducible refine (ht.out _).mono ?_); rintro e w2 ⟨rfl, rfl⟩))
  go_ret
  exact ⟨rfl, hbb.alloc hbb.size _⟩
theorem bits_m1 : bits .xor .u64 (IntKind.u64.wrap (-1)) 9223372036854775808 = ((9223372036854775807 : Nat) : Int) := by decide +kernel
theorem bits_0 : bits .xor .u64 (IntKind.u64.wrap 0) 9223372036854775808 = ((9223372036854775808 : Nat) : Int) := by decide +kernel
end Go.Proofs.YtdgpalileloekaaDoor.order
