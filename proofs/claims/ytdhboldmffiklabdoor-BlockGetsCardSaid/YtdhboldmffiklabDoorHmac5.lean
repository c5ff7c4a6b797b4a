/- So many bytes of a key, the document's own. No condition. -/
import Derived.Test.YtdhboldmffiklabDoorHmac4
namespace Go.Proofs.YtdhboldmffiklabDoor.sha
open Go.RowKit
attribute [local go_sem ↓] Go.wp_at_zero Go.wp_at_succ
attribute [local go_sem] str_size str_append conv_one conv_one_drew
set_option linter.unusedVariables false
set_option maxRecDepth 100000

set_option maxRecDepth 100000 in
set_option maxHeartbeats 4000000 in
theorem rexpand_any (k p : List UInt8) (N : Nat) (hN : N ≤ 8160) (hk : k.length ≤ 1000000) (hp : p.length ≤ 1000000) (w : World) :
    Calls Tryd.prog 77 #[.string (str k), .string (str p), .int .i64 (N : Int)] w fun e w' => e = .returned (.string (str ((allK k p ((N + 31) / 32)).take N))) ∧ Below w.heap.size w w' := by
  have n2 : (0 : Int) ≤ (N : Int) := by omega
  obtain ⟨m, hm⟩ : ∃ m, m = (N + 31) / 32 := ⟨_, rfl⟩
  rw [← hm]
  have hkk : k.length ≤ 1000000000 := by omega
  replace hN := Lib.hid hN; replace hm := Lib.hid hm
  replace hk := Lib.hid hk; replace hp := Lib.hid hp; replace hkk := Lib.hid hkk
  go_enter Tryd.func77, Tryd.ntmps77
  go_wp2
  go_loopg [7, 8, 9] m (fun gn s8 s9 s10 wr => ∃ i : Nat, s8 = .string (str (allK k p i)) ∧ s9 = .string (str (lastK k p i)) ∧ s10 = .int .i64 ((i : Int) + 1) ∧ i + gn = m ∧ Below w.heap.size w wr)
  case atStart => exact ⟨0, rfl, rfl, rfl, by omega, Below.refl _ _⟩
  case round =>
    obtain ⟨i, rfl, rfl, rfl, hi, hB⟩ := hrel
    have hal := allK_len k p i
    have hll := lastK_len k p i
    by_cases h0 : gk = 0
    · obtain rfl : i = m := by omega
      have hge : ¬ (32 * (i : Int) < (N : Int)) := by have := hm.out; omega
      have hle : (N : Int) ≤ 32 * (i : Int) := by omega
      have hcut : (str (allK k p i)).extract 0 N = str ((allK k p i).take N) := by rw [cut_extract]; simp
      obtain ⟨A, hA⟩ : ∃ A, A = allK k p i := ⟨_, rfl⟩
      rw [← hA] at hal hcut ⊢
      replace hA := Lib.hid hA
      replace hll := Lib.hid hll
      clear hi h0
      go_wp2
      go_ret
      exact ⟨by rw [hA.out]; rfl, hB⟩
    · obtain ⟨K, rfl⟩ : ∃ K : Nat, gk = K + 1 := ⟨gk - 1, by omega⟩
      have hlt : 32 * (i : Int) < (N : Int) := by have := hm.out; omega
      have hi255 : i < 255 := by have := hN.out; omega
      have e1 : ((i : Int) + 1) % 256 = (i : Int) + 1 := by omega
      have e2 : IntKind.u8.wrap ((i : Int) + 1) = (i : Int) + 1 := IntWalk.u8_in _ (by omega)
      have e3 : IntKind.i64.wrap ((i : Int) + 1 + 1) = (i : Int) + 1 + 1 := by rw [IntKind.wrap_i64]; omega
      have hll1 := lastK_len1 k p i
      have hroom : ¬ 9223372036854775807 < 32 * i + 32 := by omega
      obtain ⟨ll, hlln⟩ : ∃ n, n = (lastK k p i).length := ⟨_, rfl⟩
      have r1 : ¬ 9223372036854775807 < ll + p.length := by have := hp.out; omega
      have r2 : ¬ 9223372036854775807 < ll + p.length + 1 := by have := hp.out; omega
      have htag := fun w' => rtag_any k (lastK k p i ++ p ++ [UInt8.ofNat (i + 1)]) hkk.out (by have := hp.out; simp; omega) w'
      have hnl : tagL k (lastK k p i ++ p ++ [UInt8.ofNat (i + 1)]) = lastK k p (i + 1) := by show _ = tagL k [lastK k p i, p, [UInt8.ofNat (i + 1)]].flatten; simp
      rw [hnl] at htag
      have hnext : allK k p (i + 1) = allK k p i ++ lastK k p (i + 1) := rfl
      obtain ⟨A, hA⟩ : ∃ A, A = allK k p i := ⟨_, rfl⟩
      obtain ⟨L, hL⟩ : ∃ L, L = lastK k p i := ⟨_, rfl⟩
      obtain ⟨L1, hL1⟩ : ∃ L, L = lastK k p (i + 1) := ⟨_, rfl⟩
      rw [← hL] at hlln
      rw [← hL, ← hL1] at htag
      rw [← hA, ← hL1] at hnext
      rw [← hL1] at hll1
      rw [← hA] at hal
      rw [← hA, ← hL]
      have hLl : L.length = ll := hlln.symm
      have e5 : UInt8.ofNat (i + 1) = UInt8.ofNat i + 1 := by simp
      rw [e5] at htag
      simp only [List.append_assoc] at htag
      have hi2 := Lib.hid hi
      replace hnext := Lib.hid hnext; replace htag := Lib.hid htag; replace hL1 := Lib.hid hL1
      clear hnl hll hA hL hi h0 hlln
      go_wp2_with (go_at_call 32; (with_reducible refine (htag.out _).mono ?_); rintro e w3 ⟨rfl, b3⟩; have hB2 := belowCont (hB.alloc hB.size (.cells #[.int .u8 ((i : Int) + 1)] 5)) b3; replace hB2 := Lib.hid hB2; clear b3)
      go_roundg K
      case measure => omega
      case rel => exact ⟨i + 1, by rw [hnext.out] <;> first | rfl | simp, by rw [hL1.out], by first | rfl | (congr 1; omega) | (simp; omega), by have := hi2.out; omega, hB2.out⟩
end Go.Proofs.YtdhboldmffiklabDoor.sha
