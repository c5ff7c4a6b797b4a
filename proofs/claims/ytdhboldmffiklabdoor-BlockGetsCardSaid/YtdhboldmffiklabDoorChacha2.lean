/- ChaCha20 (package chacha): words of a text, the state of a key and a nonce. No condition. -/
import Derived.Test.YtdhboldmffiklabDoorWords
import Derived.Test.YtdhboldmffiklabDoorBytes2
import Derived.Deep.DeepCutAuto
import Derived.BigRegion
namespace Go.Proofs.YtdhboldmffiklabDoor.chacha
open Go.RowKit
attribute [local go_sem ↓] Go.wp_at_zero Go.wp_at_succ
set_option linter.unusedVariables false
set_option maxRecDepth 100000

def byteAt (s : ByteArray) (i : Nat) : Nat := (s.data.getD i 0).toNat
def wordAt (s : ByteArray) (i : Nat) : Nat := byteAt s i + byteAt s (i + 1) * 256 + byteAt s (i + 2) * 65536 + byteAt s (i + 3) * 16777216
theorem byteAt_eq (s : ByteArray) (j : Nat) (hj : j < s.size) : byteAt s j = (s[j]'hj).toNat := by
  have h : j < s.data.size := hj
  have e : s.data.getD j 0 = s.data[j]'h := by simp only [Array.getD]; rw [dif_pos h]; rfl
  unfold byteAt
  rw [e]
  rfl
theorem or4 (a b c d : Nat) (ha : a < 256) (hb : b < 256) (hc : c < 256) (hd : d < 256) :
    bits .or .u32 (bits .or .u32 (bits .or .u32 ((a : Int) % 4294967296) ((b : Int) % 4294967296 * 256 % 4294967296)) ((c : Int) % 4294967296 * 65536 % 4294967296)) ((d : Int) % 4294967296 * 16777216 % 4294967296) = ((a + b * 256 + c * 65536 + d * 16777216 : Nat) : Int) := by
  have e1 : (a : Int) % 4294967296 = ((a : Nat) : Int) := by omega
  have e2 : (b : Int) % 4294967296 * 256 % 4294967296 = ((b * 256 : Nat) : Int) := by omega
  have e3 : (c : Int) % 4294967296 * 65536 % 4294967296 = ((c * 65536 : Nat) : Int) := by omega
  have e4 : (d : Int) % 4294967296 * 16777216 % 4294967296 = ((d * 16777216 : Nat) : Int) := by omega
  have j1 : a ||| b * 256 = b * 256 + a := by rw [Nat.or_comm]; exact nat_join 8 _ _ (by omega) (by omega)
  have j2 : (b * 256 + a) ||| c * 65536 = c * 65536 + (b * 256 + a) := by rw [Nat.or_comm]; exact nat_join 16 _ _ (by omega) (by omega)
  have j3 : (c * 65536 + (b * 256 + a)) ||| d * 16777216 = d * 16777216 + (c * 65536 + (b * 256 + a)) := by rw [Nat.or_comm]; exact nat_join 24 _ _ (by omega) (by omega)
  rw [e1, e2, e3, e4, u32_or_nat _ _ (by omega) (by omega), j1, u32_or_nat _ _ (by omega) (by omega), j2, u32_or_nat _ _ (by omega) (by omega), j3]
  congr 1
  omega
theorem may_any (k n : ByteArray) (w : World) : Calls Tryd.prog 123 #[.string k, .string n] w fun e w' => e = .returned (.bool (decide (k.size = 32) && decide (n.size = 12))) ∧ Below w.heap.size w w' := by
  by_cases h : (k.size : Int) = 32
  · go_enter Tryd.func123, Tryd.ntmps123
    go_wp2
    go_ret
    refine ⟨?_, by go_grown⟩
    have h' : k.size = 32 := by omega
    rw [h']
    simp only [decide_true, Bool.true_and]
    show Ending.returned (Value.bool (decide ((n.size : Int) = 12))) = _
    congr 2
    simp only [decide_eq_decide]
    omega
  · go_enter Tryd.func123, Tryd.ntmps123
    go_wp2
    go_ret
    refine ⟨?_, by go_grown⟩
    have h' : ¬ k.size = 32 := by omega
    simp [h']
set_option maxRecDepth 100000 in
theorem word_any (s : ByteArray) (i : Nat) (w : World) (h : i + 4 ≤ s.size) (hi : i ≤ 1000) :
    Calls Tryd.prog 203 #[.string s, .int .i64 (i : Int)] w fun e w' => e = .returned (.int .u32 ((wordAt s i : Nat) : Int)) ∧ Below w.heap.size w w' := by
  have i0 : (0 : Int) ≤ (i : Int) := by omega
  have i1 : (i : Int) < s.size := by omega
  have i2 : (i : Int) + 1 < s.size := by omega
  have i3 : (i : Int) + 2 < s.size := by omega
  have i4 : (i : Int) + 3 < s.size := by omega
  have i5 : (i : Int) ≤ 1000 := by omega
  have v1 : IntKind.i64.wrap ((i : Int) + 1) = (i : Int) + 1 := by rw [IntKind.wrap_i64]; omega
  have v2 : IntKind.i64.wrap ((i : Int) + 2) = (i : Int) + 2 := by rw [IntKind.wrap_i64]; omega
  have v3 : IntKind.i64.wrap ((i : Int) + 3) = (i : Int) + 3 := by rw [IntKind.wrap_i64]; omega
  have z1 : (0 : Int) ≤ (i : Int) + 1 := by omega
  have z2 : (0 : Int) ≤ (i : Int) + 2 := by omega
  have z3 : (0 : Int) ≤ (i : Int) + 3 := by omega
  go_enter Tryd.func203, Tryd.ntmps203
  go_upto_region 1 with fail
  go_region
  all_goals go_wp2
  all_goals go_ret
  all_goals refine ⟨?_, by go_grown⟩
  refine congrArg (fun x => Ending.returned (Value.int .u32 x)) ?_
  unfold wordAt
  rw [byteAt_eq s i (by omega), byteAt_eq s (i + 1) (by omega), byteAt_eq s (i + 2) (by omega), byteAt_eq s (i + 3) (by omega)]
  exact or4 _ _ _ _ (UInt8.toNat_lt _) (UInt8.toNat_lt _) (UInt8.toNat_lt _) (UInt8.toNat_lt _)
end Go.Proofs.YtdhboldmffiklabDoor.chacha
