/- Numbers of a fixed width, the highest byte first (code.Small, lodestoneref04.High). No condition. -/
import Derived.Test.YtcdcipfojfnblaaGreatDoorBytes2
namespace Go.Proofs.YtcdcipfojfnblaaGreatDoor.high
open Go.RowKit
attribute [local go_sem ↓] Go.wp_at_zero Go.wp_at_succ
attribute [local go_sem] str_bl str_size str_get0 conv_one conv_one_drew str_append
set_option linter.unusedVariables false
set_option maxRecDepth 100000

/-- k bytes of n, the highest first -/
def beL (k n : Nat) : List UInt8 := (List.range k).map fun i => UInt8.ofNat (n / 256 ^ (k - 1 - i) % 256)
theorem beL_length (k n : Nat) : (beL k n).length = k := by simp [beL]

set_option maxRecDepth 100000 in
set_option maxHeartbeats 1000000 in
theorem high_any (n k : Nat) (hk : k ≤ 8) (w : World) :
    Calls Tryz.prog 86 #[.int .u64 (n : Int), .int .i64 (k : Int)] w fun e w' => e = .returned (.string (str (beL k n))) ∧ Below w.heap.size w w' := by
  have hmk := fun W => run_make_bytes k (by omega) W
  have hb0 := byteBlk_made w k
  replace hb0 := Lib.hid hb0
  go_enter Tryz.func86, Tryz.ntmps86
  go_wp2
  go_loopg [0, 6] k (fun gn s0 s6 wr => ∃ (m : Nat) (i : Int) (l : List UInt8), s0 = .int .u64 (m : Int) ∧ s6 = .int .i64 i ∧ i = (gn : Int) - 1 ∧ gn ≤ k ∧ m = n / 256 ^ (k - gn) ∧ l.length = k ∧ (∀ j, gn ≤ j → j < k → l.getD j 0 = (beL k n).getD j 0) ∧ ByteBlk wr w.heap.size l ∧ Below w.heap.size w wr)
  case atStart => exact ⟨n, (k : Int) - 1, _, rfl, rfl, rfl, Nat.le_refl _, by simp, by simp, fun j h1 h2 => by omega, hb0.out, (Below.refl _ _).alloc (Nat.le_refl _) _⟩
  case round =>
    obtain ⟨m, i, l, rfl, rfl, hi, hg, hm, hl, hall, hblk, hbel⟩ := hrel
    by_cases h0 : gk = 0
    · have e : l = beL k n := by
        apply List.ext_getElem?
        intro j
        by_cases hj : j < k
        · have h1 : j < (beL k n).length := by rw [beL_length]; exact hj
          have := hall j (by omega) hj
          simpa [List.getD, List.getElem?_eq_getElem (show j < l.length by omega), List.getElem?_eq_getElem h1] using this
        · rw [List.getElem?_eq_none (by omega), List.getElem?_eq_none (by rw [beL_length]; omega)]
      have ht := hblk.text k
      rw [hl, e] at ht
      have hi2 : i < 0 := by omega
      clear hall hi h0 hm hl e hblk
      go_wp2
      go_ret
      exact ⟨rfl, hbel⟩
    · obtain ⟨K, rfl⟩ : ∃ K : Nat, gk = K + 1 := ⟨gk - 1, by omega⟩
      obtain rfl : i = (K : Int) := by omega
      have hK0 : (0 : Int) ≤ K := by omega
      have hKk : (K : Int) < k := by omega
      have hKl : K < l.length := by omega
      have hc := hblk.cell hKl
      have hf := hblk.free K
      have hv : (beL k n).getD K 0 = UInt8.ofNat (m % 256) := by
        have h1 : K < (beL k n).length := by rw [beL_length]; omega
        rw [List.getD, List.getElem?_eq_getElem h1]
        have ek : k - 1 - K = k - (K + 1) := by omega
        simp [beL, hm, ek]
      have hm2 : m / 256 = n / 256 ^ (k - K) := by rw [hm, Nat.div_div_eq_div_mul, ← Nat.pow_succ]; congr 2; omega
      replace hall := Lib.hid hall
      replace hblk := Lib.hid hblk
      replace hm := Lib.hid hm
      replace hm2 := Lib.hid hm2
      replace hv := Lib.hid hv
      replace hl := Lib.hid hl
      clear hi h0
      go_wp2
      go_roundg K
      case measure => omega
      case rel =>
        refine ⟨m / 256, (K : Int) - 1, l.set K (UInt8.ofNat ((m : Int) % 256).toNat), by go_num, rfl, rfl, by omega, hm2.out, by simpa using hl.out, fun j h1 h2 => ?_, ?_, hbel.setCell (Nat.le_refl _) _⟩
        · have e8 : ((m : Int) % 256).toNat = m % 256 := by omega
          rw [e8]
          by_cases hj : j = K
          · subst hj; rw [hv.out]; simp [List.getD, hKl]
          · rw [← hall.out j (by omega) h2]; simp [List.getD, List.getElem?_set, show ¬ K = j from fun e => hj e.symm]
        · exact hblk.out.put (by omega)
theorem small_put (n : Nat) (hn : n < 4294967296) (w : World) : Calls Tryz.prog 65 #[.int .u32 (n : Int)] w fun e w' => e = .returned (.string (str (beL 4 n))) ∧ Below w.heap.size w w' := by
  have hh : Calls Tryz.prog 86 #[.int .u64 (n : Int), .int .i64 4] w fun e w' => e = .returned (.string (str (beL 4 n))) ∧ Below w.heap.size w w' := high_any n 4 (by omega) w
  have hw : IntKind.u64.wrap (n : Int) = n := IntWalk.u64_in _ (by omega)
  replace hn := Lib.hid hn
  go_enter Tryz.func65, Tryz.ntmps65
  go_wp2_with (go_at_call 86; (with_reducible refine hh.mono ?_); rintro e w1 ⟨rfl, b1⟩)
  go_ret
  exact ⟨rfl, b1⟩

theorem high_step (n k : Nat) (r : List UInt8) : beL k (n / 256) ++ UInt8.ofNat (n % 256) :: r = beL (k + 1) n ++ r := by
  have e : beL (k + 1) n = beL k (n / 256) ++ [UInt8.ofNat (n % 256)] := by
    unfold beL
    rw [List.range_succ, List.map_append]
    congr 1
    · apply List.map_congr_left
      intro i hi
      simp at hi
      have e1 : k + 1 - 1 - i = (k - 1 - i) + 1 := by omega
      rw [e1, Nat.pow_succ, Nat.mul_comm, ← Nat.div_div_eq_div_mul]
    · simp
  rw [e]; simp

set_option maxRecDepth 100000 in
set_option maxHeartbeats 1000000 in
theorem refHigh_any (n k : Nat) (hn : n < 18446744073709551616) (hk : k ≤ 8) (w : World) :
    Calls Tryz.prog 55 #[.int .u64 (n : Int), .int .i64 (k : Int)] w fun e w' => e = .returned (.string (str (beL k n))) ∧ Below w.heap.size w w' := by
  replace hn := Lib.hid hn
  go_enter Tryz.func55, Tryz.ntmps55
  go_wp2
  go_loopg [0, 5, 6] k (fun gn s0 s5 s6 wr => ∃ (i m : Nat) (l : List UInt8), s0 = .int .u64 (m : Int) ∧ s5 = .string (str l) ∧ s6 = .int .i64 (i : Int) ∧ i + gn = k ∧ l.length = i ∧ Hid (m < 18446744073709551616) ∧ beL gn m ++ l = beL k n ∧ Below w.heap.size w wr)
  case atStart => exact ⟨0, n, [], rfl, rfl, rfl, by omega, rfl, hn, by simp, Below.refl _ _⟩
  case round =>
    obtain ⟨i, m, l, rfl, rfl, rfl, hik, hl, hmn, hm, hbel⟩ := hrel
    by_cases h0 : gk = 0
    · subst h0
      obtain rfl : i = k := by omega
      have e : l = beL i n := by rw [← hm]; simp [beL]
      clear hm hik
      go_wp2
      go_ret
      exact ⟨by rw [e]; rfl, hbel⟩
    · obtain ⟨G, rfl⟩ : ∃ G : Nat, gk = G + 1 := ⟨gk - 1, by omega⟩
      have h1 : i < k := by omega
      have h2 : i < 8 := by omega
      have hst := high_step m G l
      rw [hm] at hst
      have hq := Nat.mod_lt m (show 256 > 0 by decide)
      obtain ⟨q, hq1⟩ : ∃ q : Nat, q = m % 256 := ⟨_, rfl⟩
      have e1 : (m : Int) % 256 = (q : Int) := by omega
      have e2 : IntKind.u8.wrap (q : Int) = q := IntWalk.u8_in _ (by omega)
      have e3 : (m : Int) / 256 = ((m / 256 : Nat) : Int) := by omega
      have hroom : ¬ 9223372036854775807 < 1 + l.length := by omega
      have hp : m / 256 < 18446744073709551616 := by have := hmn.out; omega
      have e4 : IntKind.u64.wrap ((m / 256 : Nat) : Int) = ((m / 256 : Nat) : Int) := IntWalk.u64_in _ (by omega)
      generalize m / 256 = p at *
      replace hp := Lib.hid hp
      rw [← hq1] at hst
      replace hst := Lib.hid hst
      replace hq := Lib.hid hq
      replace hq1 := Lib.hid hq1
      replace hm := Lib.hid hm
      replace hl := Lib.hid hl
      clear h0
      go_wp2
      go_roundg G
      case measure => omega
      case rel => exact ⟨i + 1, p, UInt8.ofNat q :: l, by go_num, rfl, by go_num, by omega, by simp [hl.out], hp, hst.out, hbel.alloc hbel.size _⟩

end Go.Proofs.YtcdcipfojfnblaaGreatDoor.high
