/- The numbers' half of XOrderPuts (rnum_any, refHigh_any), for seats without strings.ReplaceAll's contract: NOT beside XOrderPuts in one seat. No condition. -/
import Derived.Test.YtdgpalileloekaaDoorOrderNone
namespace Go.Proofs.YtdgpalileloekaaDoor.order
open Go.RowKit
attribute [local go_sem ↓] Go.wp_at_zero Go.wp_at_succ
attribute [local go_sem] str_bl str_size str_get0 conv_one conv_one_drew str_append
set_option linter.unusedVariables false
set_option maxRecDepth 100000

theorem high_step (n k : Nat) (r : List UInt8) : beL k (n / 256) ++ UInt8.ofNat (n % 256) :: r = beL (k + 1) n ++ r := by
  have e : beL (k + 1) n = beL k (n / 256) ++ [UInt8.ofNat (n % 256)] := by
    unfold beL
    rw [List.range_succ, List.map_append]
    congr 1
    · apply List.map_congr_left
      intro i hi
      simp at hi
      have e1 : k + 1 - 1 - i = (k - 1 - i) + 1 := by omega
      rw [e1, Nat.pow_succ, Nat.mul_comm, ← Nat.div_div_eq_div_mul]
    · simp
  rw [e]; simp

set_option maxRecDepth 100000 in
set_option maxHeartbeats 1000000 in
theorem refHigh_any (n k : Nat) (hn : n < 18446744073709551616) (hk : k ≤ 8) (w : World) :
    Calls Tryd.prog 96 #[.int .u64 (n : Int), .int .i64 (k : Int)] w fun e w' => e = .returned (.string (str (beL k n))) ∧ Below w.heap.size w w' := by
  replace hn := Lib.hid hn
  go_enter Tryd.func96, Tryd.ntmps96
  go_wp2
  go_loopg [0, 5, 6] k (fun gn s0 s5 s6 wr => ∃ (i m : Nat) (l : List UInt8), s0 = .int .u64 (m : Int) ∧ s5 = .string (str l) ∧ s6 = .int .i64 (i : Int) ∧ i + gn = k ∧ l.length = i ∧ Hid (m < 18446744073709551616) ∧ beL gn m ++ l = beL k n ∧ Below w.heap.size w wr)
  case atStart => exact ⟨0, n, [], rfl, rfl, rfl, by omega, rfl, hn, by simp, Below.refl _ _⟩
  case round =>
    obtain ⟨i, m, l, rfl, rfl, rfl, hik, hl, hmn, hm, hbel⟩ := hrel
    by_cases h0 : gk = 0
    · subst h0
      obtain rfl : i = k := by omega
      have e : l = beL i n := by rw [← hm]; simp [beL]
      clear hm hik
      go_wp2
      go_ret
      exact ⟨by rw [e]; rfl, hbel⟩
    · obtain ⟨G, rfl⟩ : ∃ G : Nat, gk = G + 1 := ⟨gk - 1, by omega⟩
      have h1 : i < k := by omega
      have h2 : i < 8 := by omega
      have hst := high_step m G l
      rw [hm] at hst
      have hq := Nat.mod_lt m (show 256 > 0 by decide)
      obtain ⟨q, hq1⟩ : ∃ q : Nat, q = m % 256 := ⟨_, rfl⟩
      have e1 : (m : Int) % 256 = (q : Int) := by omega
      have e2 : IntKind.u8.wrap (q : Int) = q := IntWalk.u8_in _ (by omega)
      have e3 : (m : Int) / 256 = ((m / 256 : Nat) : Int) := by omega
      have hroom : ¬ 9223372036854775807 < 1 + l.length := by omega
      have hp : m / 256 < 18446744073709551616 := by have := hmn.out; omega
      have e4 : IntKind.u64.wrap ((m / 256 : Nat) : Int) = ((m / 256 : Nat) : Int) := IntWalk.u64_in _ (by omega)
      generalize m / 256 = p at *
      replace hp := Lib.hid hp
      rw [← hq1] at hst
      replace hst := Lib.hid hst
      replace hq := Lib.hid hq
      replace hq1 := Lib.hid hq1
      replace hm := Lib.hid hm
      replace hl := Lib.hid hl
      clear h0
      go_wp2
      go_roundg G
      case measure => omega
      case rel => exact ⟨i + 1, p, UInt8.ofNat q :: l, by go_num, rfl, by go_num, by omega, by simp [hl.out], hp, hst.out, hbel.alloc hbel.size _⟩

end Go.Proofs.YtdgpalileloekaaDoor.order
