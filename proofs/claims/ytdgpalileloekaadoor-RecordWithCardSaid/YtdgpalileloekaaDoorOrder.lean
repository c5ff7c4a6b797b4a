/- Parts of keys (package order): numbers, and no parts. No condition. -/
import Derived.Test.YtdgpalileloekaaDoorBytes2
namespace Go.Proofs.YtdgpalileloekaaDoor.order
open Go.RowKit
attribute [local go_sem ↓] Go.wp_at_zero Go.wp_at_succ
attribute [local go_sem] str_bl str_size str_get0 conv_one conv_one_drew str_append
set_option linter.unusedVariables false
set_option maxRecDepth 100000

/-- k bytes of n, the highest first -/
def beL (k n : Nat) : List UInt8 := (List.range k).map fun i => UInt8.ofNat (n / 256 ^ (k - 1 - i) % 256)
theorem beL_length (k n : Nat) : (beL k n).length = k := by simp [beL]

set_option maxRecDepth 100000 in
set_option maxHeartbeats 1000000 in
theorem high_any (n k : Nat) (hk : k ≤ 8) (w : World) :
    Calls Tryd.prog 138 #[.int .u64 (n : Int), .int .i64 (k : Int)] w fun e w' => e = .returned (.string (str (beL k n))) ∧ Below w.heap.size w w' := by
  have hmk := fun W => run_make_bytes k (by omega) W
  have hb0 := byteBlk_made w k
  replace hb0 := Lib.hid hb0
  go_enter Tryd.func138, Tryd.ntmps138
  go_wp2
  go_loopg [0, 6] k (fun gn s0 s6 wr => ∃ (m : Nat) (i : Int) (l : List UInt8), s0 = .int .u64 (m : Int) ∧ s6 = .int .i64 i ∧ i = (gn : Int) - 1 ∧ gn ≤ k ∧ m = n / 256 ^ (k - gn) ∧ l.length = k ∧ (∀ j, gn ≤ j → j < k → l.getD j 0 = (beL k n).getD j 0) ∧ ByteBlk wr w.heap.size l ∧ Below w.heap.size w wr)
  case atStart => exact ⟨n, (k : Int) - 1, _, rfl, rfl, rfl, Nat.le_refl _, by simp, by simp, fun j h1 h2 => by omega, hb0.out, (Below.refl _ _).alloc (Nat.le_refl _) _⟩
  case round =>
    obtain ⟨m, i, l, rfl, rfl, hi, hg, hm, hl, hall, hblk, hbel⟩ := hrel
    by_cases h0 : gk = 0
    · have e : l = beL k n := by
        apply List.ext_getElem?
        intro j
        by_cases hj : j < k
        · have h1 : j < (beL k n).length := by rw [beL_length]; exact hj
          have := hall j (by omega) hj
          simpa [List.getD, List.getElem?_eq_getElem (show j < l.length by omega), List.getElem?_eq_getElem h1] using this
        · rw [List.getElem?_eq_none (by omega), List.getElem?_eq_none (by rw [beL_length]; omega)]
      have ht := hblk.text k
      rw [hl, e] at ht
      have hi2 : i < 0 := by omega
      clear hall hi h0 hm hl e hblk
      go_wp2
      go_ret
      exact ⟨rfl, hbel⟩
    · obtain ⟨K, rfl⟩ : ∃ K : Nat, gk = K + 1 := ⟨gk - 1, by omega⟩
      obtain rfl : i = (K : Int) := by omega
      have hK0 : (0 : Int) ≤ K := by omega
      have hKk : (K : Int) < k := by omega
      have hKl : K < l.length := by omega
      have hc := hblk.cell hKl
      have hf := hblk.free K
      have hv : (beL k n).getD K 0 = UInt8.ofNat (m % 256) := by
        have h1 : K < (beL k n).length := by rw [beL_length]; omega
        rw [List.getD, List.getElem?_eq_getElem h1]
        have ek : k - 1 - K = k - (K + 1) := by omega
        simp [beL, hm, ek]
      have hm2 : m / 256 = n / 256 ^ (k - K) := by rw [hm, Nat.div_div_eq_div_mul, ← Nat.pow_succ]; congr 2; omega
      replace hall := Lib.hid hall
      replace hblk := Lib.hid hblk
      replace hm := Lib.hid hm
      replace hm2 := Lib.hid hm2
      replace hv := Lib.hid hv
      replace hl := Lib.hid hl
      clear hi h0
      go_wp2
      go_roundg K
      case measure => omega
      case rel =>
        refine ⟨m / 256, (K : Int) - 1, l.set K (UInt8.ofNat ((m : Int) % 256).toNat), by go_num, rfl, rfl, by omega, hm2.out, by simpa using hl.out, fun j h1 h2 => ?_, ?_, hbel.setCell (Nat.le_refl _) _⟩
        · have e8 : ((m : Int) % 256).toNat = m % 256 := by omega
          rw [e8]
          by_cases hj : j = K
          · subst hj; rw [hv.out]; simp [List.getD, hKl]
          · rw [← hall.out j (by omega) h2]; simp [List.getD, List.getElem?_set, show ¬ K = j from fun e => hj e.symm]
        · exact hblk.out.put (by omega)
theorem big_put (n : Nat) (w : World) : Calls Tryd.prog 86 #[.int .u64 (n : Int)] w fun e w' => e = .returned (.string (str (beL 8 n))) ∧ Below w.heap.size w w' := by
  have hh : Calls Tryd.prog 138 #[.int .u64 (n : Int), .int .i64 8] w fun e w' => e = .returned (.string (str (beL 8 n))) ∧ Below w.heap.size w w' := high_any n 8 (by omega) w
  go_enter Tryd.func86, Tryd.ntmps86
  go_wp2_with (go_at_call 138; (with_reducible refine hh.mono ?_); rintro e w1 ⟨rfl, b1⟩)
  go_ret
  exact ⟨rfl, b1⟩

theorem err_nil (w : World) : Calls Tryd.prog 93 #[.pointer none] w fun e w' => e = .returned (.int .i64 2) ∧ Below w.heap.size w w' := by
  go_enter Tryd.func93, Tryd.ntmps93
  go_wp2
  go_ret
  exact ⟨rfl, by go_grown⟩
theorem left_nil (w : World) : Calls Tryd.prog 94 #[.pointer none] w fun e w' => e = .returned (.int .i64 0) ∧ Below w.heap.size w w' := by
  go_enter Tryd.func94, Tryd.ntmps94
  go_wp2
  go_ret
  exact ⟨rfl, by go_grown⟩
theorem fail_nil (x : Int) (w : World) : Calls Tryd.prog 89 #[.pointer none, .int .i64 x] w fun e w' => e = .returned (.tuple #[]) ∧ Below w.heap.size w w' := by
  go_enter Tryd.func89, Tryd.ntmps89
  go_wp2
  go_returns
  exact ⟨rfl, by go_grown⟩
theorem bytes_nil (n : Int) (w : World) : Calls Tryd.prog 88 #[.pointer none, .int .i64 n] w fun e w' => e = .returned (.string (str [])) ∧ Below w.heap.size w w' := by
  go_enter Tryd.func88, Tryd.ntmps88
  go_wp2_with (go_at_call 93; (with_reducible refine (err_nil _).mono ?_); rintro e w1 ⟨rfl, hb⟩)
  go_ret
  exact ⟨rfl, hb⟩
theorem number_nil (n : Int) (w : World) : Calls Tryd.prog 139 #[.pointer none, .int .i64 n] w fun e w' => e = .returned (.int .u64 0) ∧ Below w.heap.size w w' := by
  go_enter Tryd.func139, Tryd.ntmps139
  go_wp2_with (go_at_call 88; (with_reducible refine (bytes_nil _ _).mono ?_); rintro e w1 ⟨rfl, hb⟩)
  go_loopg [5, 13] 0 (fun k n i wr => n = .int .u64 0 ∧ i = .int .i64 0 ∧ wr = w1)
  case atStart => exact ⟨rfl, rfl, rfl⟩
  case round =>
    obtain ⟨rfl, rfl, rfl⟩ := hrel
    go_wp2
    go_ret
    exact ⟨rfl, hb⟩
theorem big_nil (w : World) : Calls Tryd.prog 91 #[.pointer none] w fun e w' => e = .returned (.int .u64 0) ∧ Below w.heap.size w w' := by
  go_enter Tryd.func91, Tryd.ntmps91
  go_wp2_with (go_at_call 139; (with_reducible refine (number_nil _ _).mono ?_); rintro e w1 ⟨rfl, hb⟩)
  go_ret
  exact ⟨rfl, hb⟩
theorem end_nil (w : World) : Calls Tryd.prog 44 #[.pointer none] w fun e w' => e = .returned (.int .i64 2) ∧ Below w.heap.size w w' := by
  have hbb : Below w.heap.size w w := Below.refl _ _
  go_enter Tryd.func44, Tryd.ntmps44
  go_wp2_with (first | (go_at_call 94; (with_reducible refine (left_nil _).mono ?_); rintro e w1 ⟨rfl, b1⟩; replace hbb := belowCont hbb b1) | (go_at_call 93; (with_reducible refine (err_nil _).mono ?_); rintro e w1 ⟨rfl, b1⟩; replace hbb := belowCont hbb b1))
  go_ret
  exact ⟨rfl, hbb⟩

theorem trimByte_any (c : UInt8) (l : List UInt8) (w : World) : Calls Tryd.prog 159 #[.string (str l), .int .u8 (c.toNat : Int)] w fun e w' => e = .returned (.string (str (l.dropWhile (· == c)))) ∧ w' = w := by
  obtain ⟨k, hk⟩ : ∃ k : Nat, k = l.length := ⟨_, rfl⟩
  replace hk := Lib.hid hk
  go_enter Tryd.func159, Tryd.ntmps159
  go_wp2
  go_loopg [0] k (fun gn s0 wr => ∃ r : List UInt8, s0 = .string (str r) ∧ r.length ≤ gn ∧ r.dropWhile (· == c) = l.dropWhile (· == c) ∧ wr = w)
  case atStart => exact ⟨l, rfl, by rw [hk.out]; exact Nat.le_refl _, rfl, rfl⟩
  case round =>
    obtain ⟨r, rfl, hr, hd, rfl⟩ := hrel
    match r, hr, hd with
    | [], hr, hd =>
      clear hr
      replace hd := Lib.hid hd
      go_wp2
      go_ret
      exact ⟨by rw [← hd.out]; rfl, rfl⟩
    | b :: r, hr, hd =>
      have hz : ¬ ((r.length : Int) + 1 ≤ 0) := by omega
      have hcut : (str (b :: r)).extract 1 (r.length + 1) = str r := by rw [cut_extract]; simp
      by_cases hb : b = c
      · subst hb
        obtain ⟨K, rfl⟩ : ∃ K : Nat, gk = K + 1 := ⟨gk - 1, by simp at hr; omega⟩
        have hr2 : r.length ≤ K := by simp at hr; omega
        have hd2 : r.dropWhile (· == b) = l.dropWhile (· == b) := by rw [← hd]; simp
        replace hd2 := Lib.hid hd2
        replace hr2 := Lib.hid hr2
        clear hd hr
        go_wp2
        go_roundg K
        case measure => omega
        case rel => exact ⟨r, by simp, hr2.out, hd2.out, rfl⟩
      · have hb2 : ¬ ((b.toNat : Int) = (c.toNat : Int)) := by
          intro e; exact hb (UInt8.toNat_inj.1 (by omega))
        have hd2 : b :: r = l.dropWhile (· == c) := by rw [← hd]; simp [hb]
        replace hd2 := Lib.hid hd2
        clear hd hr
        go_wp2
        go_ret
        exact ⟨by rw [← hd2.out]; rfl, rfl⟩
end Go.Proofs.YtdgpalileloekaaDoor.order
