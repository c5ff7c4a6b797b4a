/- Parts of keys (package order): numbers, and no parts. No condition. No parts are nothing. No condition. The numbers' half of XOrderPuts (rnum_any, refHigh_any), for seats without strings.ReplaceAll's contract: NOT beside XOrderPuts in one seat. No condition. -/
import Derived.Test.YtcdgnhhciccoeaaDoorBytes2
import Derived.Deep.DeepCutAuto
import Derived.BigRegion
section
namespace Go.Proofs.YtcdgnhhciccoeaaDoor.order
open Go.RowKit
attribute [local go_sem ↓] Go.wp_at_zero Go.wp_at_succ
attribute [local go_sem] str_bl str_size str_get0 conv_one conv_one_drew str_append
set_option linter.unusedVariables false
set_option maxRecDepth 100000

/-- k bytes of n, the highest first -/
def beL (k n : Nat) : List UInt8 := (List.range k).map fun i => UInt8.ofNat (n / 256 ^ (k - 1 - i) % 256)
theorem beL_length (k n : Nat) : (beL k n).length = k := by simp [beL]

set_option maxRecDepth 100000 in
set_option maxHeartbeats 1000000 in
theorem high_any (n k : Nat) (hk : k ≤ 8) (w : World) :
    Calls Tryd.prog 127 #[.int .u64 (n : Int), .int .i64 (k : Int)] w fun e w' => e = .returned (.string (str (beL k n))) ∧ Below w.heap.size w w' := by
  have hmk := fun W => run_make_bytes k (by omega) W
  have hb0 := byteBlk_made w k
  replace hb0 := Lib.hid hb0
  go_enter Tryd.func127, Tryd.ntmps127
  go_wp2
  go_loopg [0, 6] k (fun gn s0 s6 wr => ∃ (m : Nat) (i : Int) (l : List UInt8), s0 = .int .u64 (m : Int) ∧ s6 = .int .i64 i ∧ i = (gn : Int) - 1 ∧ gn ≤ k ∧ m = n / 256 ^ (k - gn) ∧ l.length = k ∧ (∀ j, gn ≤ j → j < k → l.getD j 0 = (beL k n).getD j 0) ∧ ByteBlk wr w.heap.size l ∧ Below w.heap.size w wr)
  case atStart => exact ⟨n, (k : Int) - 1, _, rfl, rfl, rfl, Nat.le_refl _, by simp, by simp, fun j h1 h2 => by omega, hb0.out, (Below.refl _ _).alloc (Nat.le_refl _) _⟩
  case round =>
    obtain ⟨m, i, l, rfl, rfl, hi, hg, hm, hl, hall, hblk, hbel⟩ := hrel
    by_cases h0 : gk = 0
    · have e : l = beL k n := by
        apply List.ext_getElem?
        intro j
        by_cases hj : j < k
        · have h1 : j < (beL k n).length := by rw [beL_length]; exact hj
          have := hall j (by omega) hj
          simpa [List.getD, List.getElem?_eq_getElem (show j < l.length by omega), List.getElem?_eq_getElem h1] using this
        · rw [List.getElem?_eq_none (by omega), List.getElem?_eq_none (by rw [beL_length]; omega)]
      have ht := hblk.text k
      rw [hl, e] at ht
      have hi2 : i < 0 := by omega
      clear hall hi h0 hm hl e hblk
      go_wp2
      go_ret
      exact ⟨rfl, hbel⟩
    · obtain ⟨K, rfl⟩ : ∃ K : Nat, gk = K + 1 := ⟨gk - 1, by omega⟩
      obtain rfl : i = (K : Int) := by omega
      have hK0 : (0 : Int) ≤ K := by omega
      have hKk : (K : Int) < k := by omega
      have hKl : K < l.length := by omega
      have hc := hblk.cell hKl
      have hf := hblk.free K
      have hv : (beL k n).getD K 0 = UInt8.ofNat (m % 256) := by
        have h1 : K < (beL k n).length := by rw [beL_length]; omega
        rw [List.getD, List.getElem?_eq_getElem h1]
        have ek : k - 1 - K = k - (K + 1) := by omega
        simp [beL, hm, ek]
      have hm2 : m / 256 = n / 256 ^ (k - K) := by rw [hm, Nat.div_div_eq_div_mul, ← Nat.pow_succ]; congr 2; omega
      replace hall := Lib.hid hall
      replace hblk := Lib.hid hblk
      replace hm := Lib.hid hm
      replace hm2 := Lib.hid hm2
      replace hv := Lib.hid hv
      replace hl := Lib.hid hl
      clear hi h0
      go_wp2
      go_roundg K
      case measure => omega
      case rel =>
        refine ⟨m / 256, (K : Int) - 1, l.set K (UInt8.ofNat ((m : Int) % 256).toNat), by go_num, rfl, rfl, by omega, hm2.out, by simpa using hl.out, fun j h1 h2 => ?_, ?_, hbel.setCell (Nat.le_refl _) _⟩
        · have e8 : ((m : Int) % 256).toNat = m % 256 := by omega
          rw [e8]
          by_cases hj : j = K
          · subst hj; rw [hv.out]; simp [List.getD, hKl]
          · rw [← hall.out j (by omega) h2]; simp [List.getD, List.getElem?_set, show ¬ K = j from fun e => hj e.symm]
        · exact hblk.out.put (by omega)
theorem big_put (n : Nat) (w : World) : Calls Tryd.prog 78 #[.int .u64 (n : Int)] w fun e w' => e = .returned (.string (str (beL 8 n))) ∧ Below w.heap.size w w' := by
  have hh : Calls Tryd.prog 127 #[.int .u64 (n : Int), .int .i64 8] w fun e w' => e = .returned (.string (str (beL 8 n))) ∧ Below w.heap.size w w' := high_any n 8 (by omega) w
  go_enter Tryd.func78, Tryd.ntmps78
  go_wp2_with (go_at_call 127; (with_reducible refine hh.mono ?_); rintro e w1 ⟨rfl, b1⟩)
  go_ret
  exact ⟨rfl, b1⟩

theorem err_nil (w : World) : Calls Tryd.prog 85 #[.pointer none] w fun e w' => e = .returned (.int .i64 2) ∧ Below w.heap.size w w' := by
  go_enter Tryd.func85, Tryd.ntmps85
  go_wp2
  go_ret
  exact ⟨rfl, by go_grown⟩
theorem left_nil (w : World) : Calls Tryd.prog 86 #[.pointer none] w fun e w' => e = .returned (.int .i64 0) ∧ Below w.heap.size w w' := by
  go_enter Tryd.func86, Tryd.ntmps86
  go_wp2
  go_ret
  exact ⟨rfl, by go_grown⟩
theorem fail_nil (x : Int) (w : World) : Calls Tryd.prog 81 #[.pointer none, .int .i64 x] w fun e w' => e = .returned (.tuple #[]) ∧ Below w.heap.size w w' := by
  go_enter Tryd.func81, Tryd.ntmps81
  go_wp2
  go_returns
  exact ⟨rfl, by go_grown⟩
theorem bytes_nil (n : Int) (w : World) : Calls Tryd.prog 80 #[.pointer none, .int .i64 n] w fun e w' => e = .returned (.string (str [])) ∧ Below w.heap.size w w' := by
  go_enter Tryd.func80, Tryd.ntmps80
  go_wp2_with (go_at_call 85; (with_reducible refine (err_nil _).mono ?_); rintro e w1 ⟨rfl, hb⟩)
  go_ret
  exact ⟨rfl, hb⟩
theorem number_nil (n : Int) (w : World) : Calls Tryd.prog 128 #[.pointer none, .int .i64 n] w fun e w' => e = .returned (.int .u64 0) ∧ Below w.heap.size w w' := by
  go_enter Tryd.func128, Tryd.ntmps128
  go_wp2_with (go_at_call 80; (with_reducible refine (bytes_nil _ _).mono ?_); rintro e w1 ⟨rfl, hb⟩)
  go_loopg [5, 13] 0 (fun k n i wr => n = .int .u64 0 ∧ i = .int .i64 0 ∧ wr = w1)
  case atStart => exact ⟨rfl, rfl, rfl⟩
  case round =>
    obtain ⟨rfl, rfl, rfl⟩ := hrel
    go_wp2
    go_ret
    exact ⟨rfl, hb⟩
theorem big_nil (w : World) : Calls Tryd.prog 83 #[.pointer none] w fun e w' => e = .returned (.int .u64 0) ∧ Below w.heap.size w w' := by
  go_enter Tryd.func83, Tryd.ntmps83
  go_wp2_with (go_at_call 128; (with_reducible refine (number_nil _ _).mono ?_); rintro e w1 ⟨rfl, hb⟩)
  go_ret
  exact ⟨rfl, hb⟩
theorem end_nil (w : World) : Calls Tryd.prog 41 #[.pointer none] w fun e w' => e = .returned (.int .i64 2) ∧ Below w.heap.size w w' := by
  have hbb : Below w.heap.size w w := Below.refl _ _
  go_enter Tryd.func41, Tryd.ntmps41
  go_wp2_with (first | (go_at_call 86; (with_reducible refine (left_nil _).mono ?_); rintro e w1 ⟨rfl, b1⟩; replace hbb := belowCont hbb b1) | (go_at_call 85; (with_reducible refine (err_nil _).mono ?_); rintro e w1 ⟨rfl, b1⟩; replace hbb := belowCont hbb b1))
  go_ret
  exact ⟨rfl, hbb⟩

theorem trimByte_any (c : UInt8) (l : List UInt8) (w : World) : Calls Tryd.prog 147 #[.string (str l), .int .u8 (c.toNat : Int)] w fun e w' => e = .returned (.string (str (l.dropWhile (· == c)))) ∧ w' = w := by
  obtain ⟨k, hk⟩ : ∃ k : Nat, k = l.length := ⟨_, rfl⟩
  replace hk := Lib.hid hk
  go_enter Tryd.func147, Tryd.ntmps147
  go_wp2
  go_loopg [0] k (fun gn s0 wr => ∃ r : List UInt8, s0 = .string (str r) ∧ r.length ≤ gn ∧ r.dropWhile (· == c) = l.dropWhile (· == c) ∧ wr = w)
  case atStart => exact ⟨l, rfl, by rw [hk.out]; exact Nat.le_refl _, rfl, rfl⟩
  case round =>
    obtain ⟨r, rfl, hr, hd, rfl⟩ := hrel
    match r, hr, hd with
    | [], hr, hd =>
      clear hr
      replace hd := Lib.hid hd
      go_wp2
      go_ret
      exact ⟨by rw [← hd.out]; rfl, rfl⟩
    | b :: r, hr, hd =>
      have hz : ¬ ((r.length : Int) + 1 ≤ 0) := by omega
      have hcut : (str (b :: r)).extract 1 (r.length + 1) = str r := by rw [cut_extract]; simp
      by_cases hb : b = c
      · subst hb
        obtain ⟨K, rfl⟩ : ∃ K : Nat, gk = K + 1 := ⟨gk - 1, by simp at hr; omega⟩
        have hr2 : r.length ≤ K := by simp at hr; omega
        have hd2 : r.dropWhile (· == b) = l.dropWhile (· == b) := by rw [← hd]; simp
        replace hd2 := Lib.hid hd2
        replace hr2 := Lib.hid hr2
        clear hd hr
        go_wp2
        go_roundg K
        case measure => omega
        case rel => exact ⟨r, by simp, hr2.out, hd2.out, rfl⟩
      · have hb2 : ¬ ((b.toNat : Int) = (c.toNat : Int)) := by
          intro e; exact hb (UInt8.toNat_inj.1 (by omega))
        have hd2 : b :: r = l.dropWhile (· == c) := by rw [← hd]; simp [hb]
        replace hd2 := Lib.hid hd2
        clear hd hr
        go_wp2
        go_ret
        exact ⟨by rw [← hd2.out]; rfl, rfl⟩
end Go.Proofs.YtcdgnhhciccoeaaDoor.order
end
section
namespace Go.Proofs.YtcdgnhhciccoeaaDoor.order
open Go.RowKit
attribute [local go_sem ↓] Go.wp_at_zero Go.wp_at_succ
attribute [local go_sem] str_bl str_size str_get0 conv_one conv_one_drew str_append
set_option linter.unusedVariables false
set_option maxRecDepth 100000

set_option maxRecDepth 100000 in
theorem trim_any (l : List UInt8) (w : World) : Calls Tryd.prog 129 #[.string (str l), .string ⟨#[0]⟩] w fun e w' => e = .returned (.string (str (l.dropWhile (· == 0)))) ∧ w' = w := by
  have hb : ∀ w', Calls Tryd.prog 147 #[.string (str l), .int .u8 0] w' fun e w2 => e = .returned (.string (str (l.dropWhile (· == 0)))) ∧ w2 = w' := fun w' => trimByte_any 0 l w'
  match l, hb with
  | [], hb =>
    clear hb
    go_enter Tryd.func129, Tryd.ntmps129
    go_wp2
    go_ret
    exact ⟨rfl, rfl⟩
  | b :: r, hb =>
    have hne : ¬ (str (b :: r) = (⟨#[]⟩ : ByteArray)) := by
      intro e; have := congrArg ByteArray.size e; rw [str_size] at this; simp at this; exact absurd this (by simp [ByteArray.size])
    have hne2 : (str (b :: r) == (⟨#[]⟩ : ByteArray)) = false := by
      show ((b :: r).toArray == (#[] : Array UInt8)) = false
      simp
    have h0 : ∀ h, (((⟨#[0]⟩ : ByteArray)[0]'h).toNat : Int) = 0 := fun _ => rfl
    replace hb := Lib.hid hb
    go_enter Tryd.func129, Tryd.ntmps129
    go_wp2_with (go_at_call 147; (with_reducible refine (hb.out _).mono ?_); rintro e w1 ⟨rfl, rfl⟩)
    go_ret
    exact ⟨rfl, rfl⟩
theorem dropWhile_len (l : List UInt8) : (l.dropWhile (· == 0)).length ≤ l.length := (List.dropWhile_sublist _).length_le
def numP (n : Nat) : List UInt8 := UInt8.ofNat (16 + ((beL 8 n).dropWhile (· == 0)).length) :: (beL 8 n).dropWhile (· == 0)
set_option maxRecDepth 100000 in
theorem onum_any (n : Nat) (w : World) : Calls Tryd.prog 87 #[.int .u64 (n : Int)] w fun e w' => e = .returned (.string (str (numP n))) ∧ Below w.heap.size w w' := by
  have hbig := fun w' => big_put n w'
  have ht := fun w' => trim_any (beL 8 n) w'
  have hl := dropWhile_len (beL 8 n)
  rw [beL_length] at hl
  obtain ⟨d, hd⟩ : ∃ d, d = (beL 8 n).dropWhile (· == 0) := ⟨_, rfl⟩
  unfold numP
  rw [← hd] at ht hl ⊢
  clear hd
  obtain ⟨z, hz⟩ : ∃ z : Nat, z = 16 + d.length := ⟨_, rfl⟩
  have e1 : (16 : Int) + d.length = z := by omega
  have e2 : (z : Int) % 256 = z := by omega
  have e3 : IntKind.u8.wrap (z : Int) = z := IntWalk.u8_in _ (by omega)
  have hroom : ¬ 9223372036854775807 < 1 + d.length := by omega
  have hbb : Below w.heap.size w w := Below.refl _ _
  rw [← hz]
  clear hl
  replace hz := Lib.hid hz
  replace hbig := Lib.hid hbig
  replace ht := Lib.hid ht
  go_enter Tryd.func87, Tryd.ntmps87
  go_wp2_with (first | (go_at_call 78; (with_reducible refine (hbig.out _).mono ?_); rintro e w1 ⟨rfl, b1⟩; replace hbb := belowCont hbb b1) | (go_at_call 129; (with_reducible refine (ht.out _).mono ?_); rintro e w2 ⟨rfl, rfl⟩))
  go_ret
  exact ⟨rfl, hbb.alloc hbb.size _⟩
theorem bits_m1 : bits .xor .u64 (IntKind.u64.wrap (-1)) 9223372036854775808 = ((9223372036854775807 : Nat) : Int) := by decide +kernel
theorem bits_0 : bits .xor .u64 (IntKind.u64.wrap 0) 9223372036854775808 = ((9223372036854775808 : Nat) : Int) := by decide +kernel
end Go.Proofs.YtcdgnhhciccoeaaDoor.order
end
section
namespace Go.Proofs.YtcdgnhhciccoeaaDoor.order
open Go.RowKit
attribute [local go_sem ↓] Go.wp_at_zero Go.wp_at_succ
attribute [local go_sem] str_bl str_size str_get0 conv_one conv_one_drew str_append
set_option linter.unusedVariables false
set_option maxRecDepth 100000

theorem high_step (n k : Nat) (r : List UInt8) : beL k (n / 256) ++ UInt8.ofNat (n % 256) :: r = beL (k + 1) n ++ r := by
  have e : beL (k + 1) n = beL k (n / 256) ++ [UInt8.ofNat (n % 256)] := by
    unfold beL
    rw [List.range_succ, List.map_append]
    congr 1
    · apply List.map_congr_left
      intro i hi
      simp at hi
      have e1 : k + 1 - 1 - i = (k - 1 - i) + 1 := by omega
      rw [e1, Nat.pow_succ, Nat.mul_comm, ← Nat.div_div_eq_div_mul]
    · simp
  rw [e]; simp

set_option maxRecDepth 100000 in
set_option maxHeartbeats 1000000 in
theorem refHigh_any (n k : Nat) (hn : n < 18446744073709551616) (hk : k ≤ 8) (w : World) :
    Calls Tryd.prog 88 #[.int .u64 (n : Int), .int .i64 (k : Int)] w fun e w' => e = .returned (.string (str (beL k n))) ∧ Below w.heap.size w w' := by
  replace hn := Lib.hid hn
  go_enter Tryd.func88, Tryd.ntmps88
  go_wp2
  go_loopg [0, 5, 6] k (fun gn s0 s5 s6 wr => ∃ (i m : Nat) (l : List UInt8), s0 = .int .u64 (m : Int) ∧ s5 = .string (str l) ∧ s6 = .int .i64 (i : Int) ∧ i + gn = k ∧ l.length = i ∧ Hid (m < 18446744073709551616) ∧ beL gn m ++ l = beL k n ∧ Below w.heap.size w wr)
  case atStart => exact ⟨0, n, [], rfl, rfl, rfl, by omega, rfl, hn, by simp, Below.refl _ _⟩
  case round =>
    obtain ⟨i, m, l, rfl, rfl, rfl, hik, hl, hmn, hm, hbel⟩ := hrel
    by_cases h0 : gk = 0
    · subst h0
      obtain rfl : i = k := by omega
      have e : l = beL i n := by rw [← hm]; simp [beL]
      clear hm hik
      go_wp2
      go_ret
      exact ⟨by rw [e]; rfl, hbel⟩
    · obtain ⟨G, rfl⟩ : ∃ G : Nat, gk = G + 1 := ⟨gk - 1, by omega⟩
      have h1 : i < k := by omega
      have h2 : i < 8 := by omega
      have hst := high_step m G l
      rw [hm] at hst
      have hq := Nat.mod_lt m (show 256 > 0 by decide)
      obtain ⟨q, hq1⟩ : ∃ q : Nat, q = m % 256 := ⟨_, rfl⟩
      have e1 : (m : Int) % 256 = (q : Int) := by omega
      have e2 : IntKind.u8.wrap (q : Int) = q := IntWalk.u8_in _ (by omega)
      have e3 : (m : Int) / 256 = ((m / 256 : Nat) : Int) := by omega
      have hroom : ¬ 9223372036854775807 < 1 + l.length := by omega
      have hp : m / 256 < 18446744073709551616 := by have := hmn.out; omega
      have e4 : IntKind.u64.wrap ((m / 256 : Nat) : Int) = ((m / 256 : Nat) : Int) := IntWalk.u64_in _ (by omega)
      generalize m / 256 = p at *
      replace hp := Lib.hid hp
      rw [← hq1] at hst
      replace hst := Lib.hid hst
      replace hq := Lib.hid hq
      replace hq1 := Lib.hid hq1
      replace hm := Lib.hid hm
      replace hl := Lib.hid hl
      clear h0
      go_wp2
      go_roundg G
      case measure => omega
      case rel => exact ⟨i + 1, p, UInt8.ofNat q :: l, by go_num, rfl, by go_num, by omega, by simp [hl.out], hp, hst.out, hbel.alloc hbel.size _⟩

end Go.Proofs.YtcdgnhhciccoeaaDoor.order
end
