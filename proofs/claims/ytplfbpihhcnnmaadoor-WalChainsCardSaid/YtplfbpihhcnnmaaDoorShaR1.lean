/- The document's own SHA-256 (package lodestoneref01): a word turned, bytes filled up. No condition. -/
import Derived.Test.YtplfbpihhcnnmaaDoorSha6
namespace Go.Proofs.YtplfbpihhcnnmaaDoor.sha
open Go.RowKit
attribute [local go_sem ↓] Go.wp_at_zero Go.wp_at_succ
attribute [local go_sem] str_size str_append conv_one conv_one_drew
set_option linter.unusedVariables false
set_option maxRecDepth 100000

set_option maxHeartbeats 1000000 in
theorem rturn_any (x s : Nat) (hx : x < 4294967296) (hs : s = 2 ∨ s = 6 ∨ s = 7 ∨ s = 11 ∨ s = 13 ∨ s = 17 ∨ s = 18 ∨ s = 19 ∨ s = 22 ∨ s = 25) (w : World) :
    Calls Tryd.prog 127 #[.int .u32 (x : Int), .int .u64 (s : Int)] w fun e w' => e = .returned (.int .u32 ((rotr x s : Nat) : Int)) ∧ w' = w := by
  have hr := rotl_sum x (32 - s) hx (by omega)
  have hl := rotl_lt x (32 - s) hx (by omega)
  rcases hs with rfl | rfl | rfl | rfl | rfl | rfl | rfl | rfl | rfl | rfl
  all_goals replace hr := Lib.hid hr
  all_goals replace hl := Lib.hid hl
  all_goals go_enter Tryd.func127, Tryd.ntmps127
  all_goals go_wp2
  all_goals go_ret
  all_goals refine ⟨congrArg (fun x => Ending.returned (Value.int .u32 x)) ?_, rfl⟩
  all_goals have h1 := hr.out
  all_goals have h2 := hl.out
  all_goals unfold rotr
  all_goals omega

/-- so many bytes of a number, the highest first -/
def tlK (n : Nat) : Nat → List UInt8
  | 0 => []
  | k + 1 => UInt8.ofNat (n / 256 ^ k % 256) :: tlK n k
theorem tlK_8 (n : Nat) : tlK n 8 = be8 n := rfl
theorem tlK_len (n k : Nat) : (tlK n k).length = k := by
  induction k with
  | zero => rfl
  | succ k ih => simp [tlK, ih]
/-- how many noughts there are -/
def padZ (n : Nat) : Nat := (119 - n % 64) % 64
/-- bytes, filled up -/
def paddedL (l : List UInt8) : List UInt8 := l ++ [128] ++ List.replicate (padZ l.length) 0 ++ be8 (l.length * 8 % 18446744073709551616)
set_option maxRecDepth 100000 in
set_option maxHeartbeats 2000000 in
theorem padded_any (l : List UInt8) (hl : l.length ≤ 1000000000) (w : World) :
    Calls Tryd.prog 78 #[.string (str l)] w fun e w' => e = .returned (.string (str (paddedL l))) ∧ Below w.heap.size w w' := by
  obtain ⟨z, hz⟩ : ∃ z, z = padZ l.length := ⟨_, rfl⟩
  have hz64 : z < 64 := by rw [hz]; exact Nat.mod_lt _ (by decide)
  have hzmod : ∀ k, k ≤ z → ((l.length + 1 + k) % 64 = 56 ↔ k = z) := by
    intro k hk; rw [hz] at hk ⊢; unfold padZ at *; omega
  have hone : (⟨#[128]⟩ : ByteArray) = str [128] := rfl
  have hzero : (⟨#[0]⟩ : ByteArray) = str [0] := rfl
  obtain ⟨n, hn⟩ : ∃ n, n = l.length * 8 % 18446744073709551616 := ⟨_, rfl⟩
  have e8 : IntKind.u64.wrap (((l.length : Nat) : Int) * 8) = (n : Int) := by rw [IntKind.wrap_u64]; omega
  have e8a : IntKind.u64.wrap ((l.length : Nat) : Int) = (l.length : Int) := by rw [IntKind.wrap_u64]; omega
  have hroom : ¬ 9223372036854775807 < l.length + 1 := by omega
  have hfin : paddedL l = l ++ [128] ++ List.replicate z 0 ++ tlK n 8 := by rw [hz, hn]; rfl
  replace hl := Lib.hid hl; replace hz := Lib.hid hz; replace hn := Lib.hid hn; replace hz64 := Lib.hid hz64; replace hzmod := Lib.hid hzmod; replace hfin := Lib.hid hfin
  go_enter Tryd.func78, Tryd.ntmps78
  go_wp2
  go_loopg [3] z (fun gn s3 wr => ∃ k : Nat, s3 = .string (str (l ++ [128] ++ List.replicate k 0)) ∧ k + gn = z ∧ wr = w)
  case atStart => exact ⟨0, by simp, by omega, rfl⟩
  case round =>
    obtain ⟨k, rfl, hk, rfl⟩ := hrel
    have hmd := hzmod.out k (by omega)
    have hll : (l ++ [128] ++ List.replicate k (0 : UInt8)).length = l.length + 1 + k := by simp; omega
    by_cases h0 : gk = 0
    · obtain rfl : k = z := by omega
      have hmo2 : ((l.length : Int) + 1 + k) % 64 = 56 := by have := hmd.2 rfl; omega
      have hmo : ((l.length : Int) + 1 + k).tmod 64 = 56 := by rw [IntWalk.rem_in _ _ (by omega)]; exact hmo2
      obtain ⟨P, hP⟩ : ∃ P, P = l ++ [128] ++ List.replicate k (0 : UInt8) := ⟨_, rfl⟩
      have hf2 := hfin.out
      rw [← hP] at hll hf2 ⊢
      have hroom2 : ¬ 9223372036854775807 < l.length + 1 + k + 8 := by have := hl.out; have := hz64.out; omega
      replace hP := Lib.hid hP
      replace hf2 := Lib.hid hf2
      clear hmd hk h0
      go_wp2
      go_loopg [4, 5, 6] 8 (fun gn s4 s5 s6 w2 => ∃ i : Nat, s6 = .int .i64 (i : Int) ∧ i + gn = 8 ∧ s4 = .string (str (tlK n i)) ∧ s5 = .int .u64 ((n / 256 ^ i : Nat) : Int) ∧ Below wr.heap.size wr w2)
      case atStart => exact ⟨0, rfl, rfl, rfl, by simp, Below.refl _ _⟩
      case round =>
        obtain ⟨i, rfl, hi, rfl, rfl, hB⟩ := hrel
        have htl := tlK_len n i
        by_cases h0 : gk = 0
        · obtain rfl : i = 8 := by omega
          obtain ⟨T, hT⟩ : ∃ T, T = tlK n 8 := ⟨_, rfl⟩
          have hf3 := hf2.out
          rw [← hT] at htl hf3 ⊢
          clear hi h0 hT
          replace hf3 := Lib.hid hf3
          go_wp2
          go_ret
          exact ⟨by rw [hf3.out]; rfl, hB⟩
        · obtain ⟨K, rfl⟩ : ∃ K : Nat, gk = K + 1 := ⟨gk - 1, by omega⟩
          have i1 : (i : Int) < 8 := by omega
          have hroom3 : ¬ 9223372036854775807 < 1 + i := by omega
          obtain ⟨m, hm⟩ : ∃ m, m = n / 256 ^ i := ⟨_, rfl⟩
          obtain ⟨v, hv⟩ : ∃ v, v = m % 256 := ⟨_, rfl⟩
          have ev : (m : Int) % 256 = (v : Int) := by omega
          have ev2 : (m : Int).tmod 256 = (v : Int) := by rw [IntWalk.rem_in _ _ (by omega)]; exact ev
          have ev3 : IntKind.u8.wrap (v : Int) = (v : Int) := IntWalk.u8_in _ (by omega)
          have hm2 : n / 256 ^ (i + 1) = m / 256 := by rw [hm, Nat.div_div_eq_div_mul, ← Nat.pow_succ]
          have hnext : tlK n (i + 1) = UInt8.ofNat v :: tlK n i := by rw [hv, hm]; rfl
          have hml : m < 18446744073709551616 := by rw [hm]; refine Nat.lt_of_le_of_lt (Nat.div_le_self _ _) ?_; rw [hn.out]; exact Nat.mod_lt _ (by decide)
          replace hml := Lib.hid hml
          rw [← hm]
          have hi2 := Lib.hid hi
          replace hm2 := Lib.hid hm2
          replace hnext := Lib.hid hnext
          clear hi h0 hv hm
          go_wp2
          go_roundg K
          case measure => omega
          case rel => exact ⟨i + 1, by go_num, by have := hi2.out; omega, by rw [hnext.out] <;> first | rfl | simp, by rw [hm2.out]; exact congrArg (Value.int .u64) (by have := hml.out; rw [IntKind.wrap_u64]; omega), hB.alloc hB.size _⟩
    · obtain ⟨K, rfl⟩ : ∃ K : Nat, gk = K + 1 := ⟨gk - 1, by omega⟩
      have hmo2 : ¬ (((l.length : Int) + 1 + k) % 64 = 56) := by intro e; have := hmd.1 (by omega); omega
      have hmo : ¬ (((l.length : Int) + 1 + k).tmod 64 = 56) := by rw [IntWalk.rem_in _ _ (by omega)]; exact hmo2
      have hmo3 : ((((l.length : Int) + 1 + k).tmod 64) != 56) = true := by simpa using hmo
      obtain ⟨P, hP⟩ : ∃ P, P = l ++ [128] ++ List.replicate k (0 : UInt8) := ⟨_, rfl⟩
      have hnext : l ++ [128] ++ List.replicate (k + 1) (0 : UInt8) = P ++ [0] := by rw [hP, List.replicate_succ']; simp
      rw [← hP] at hll ⊢
      have hroom2 : ¬ 9223372036854775807 < l.length + 1 + k + 1 := by have := hl.out; have := hz64.out; omega
      have hk2 := Lib.hid hk
      replace hnext := Lib.hid hnext
      clear hP hmd hk h0
      go_wp2
      go_roundg K
      case measure => omega
      case rel => exact ⟨k + 1, by rw [hnext.out], by have := hk2.out; omega, rfl⟩
end Go.Proofs.YtplfbpihhcnnmaaDoor.sha
