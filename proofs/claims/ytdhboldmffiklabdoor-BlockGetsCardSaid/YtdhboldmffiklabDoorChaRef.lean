/- The document's own ChaCha20 (package lodestoneref03): a word turned, four bytes as a word, four words mixed. No condition. -/
import Derived.Test.YtdhboldmffiklabDoorChacha6
namespace Go.Proofs.YtdhboldmffiklabDoor.chacha
open Go.RowKit
attribute [local go_sem ↓] Go.wp_at_zero Go.wp_at_succ
set_option linter.unusedVariables false
set_option maxRecDepth 100000

theorem rleft_any (x s : Nat) (hx : x < 4294967296) (hs : s = 16 ∨ s = 12 ∨ s = 8 ∨ s = 7) (w : World) :
    Calls Tryd.prog 210 #[.int .u32 (x : Int), .int .u64 (s : Int)] w fun e w' => e = .returned (.int .u32 ((rotl x s : Nat) : Int)) ∧ w' = w := by
  have hr := rotl_sum x s hx (by omega)
  have hl := rotl_lt x s hx (by omega)
  rcases hs with rfl | rfl | rfl | rfl
  all_goals replace hr := Lib.hid hr
  all_goals replace hl := Lib.hid hl
  all_goals go_enter Tryd.func210, Tryd.ntmps210
  all_goals go_wp2
  all_goals go_ret
  all_goals refine ⟨congrArg (fun x => Ending.returned (Value.int .u32 x)) ?_, rfl⟩
  all_goals have h1 := hr.out
  all_goals have h2 := hl.out
  all_goals (trace_state; omega)
set_option maxRecDepth 100000 in
theorem rword_any (s : ByteArray) (i : Nat) (w : World) (h : i + 4 ≤ s.size) (hi : i ≤ 1000) :
    Calls Tryd.prog 186 #[.string s, .int .i64 (i : Int)] w fun e w' => e = .returned (.int .u32 ((wordAt s i : Nat) : Int)) ∧ Below w.heap.size w w' := by
  have i0 : (0 : Int) ≤ (i : Int) := by omega
  have i1 : (i : Int) < s.size := by omega
  have i2 : (i : Int) + 1 < s.size := by omega
  have i3 : (i : Int) + 2 < s.size := by omega
  have i4 : (i : Int) + 3 < s.size := by omega
  have i5 : (i : Int) ≤ 1000 := by omega
  have v1 : IntKind.i64.wrap ((i : Int) + 1) = (i : Int) + 1 := by rw [IntKind.wrap_i64]; omega
  have v2 : IntKind.i64.wrap ((i : Int) + 2) = (i : Int) + 2 := by rw [IntKind.wrap_i64]; omega
  have v3 : IntKind.i64.wrap ((i : Int) + 3) = (i : Int) + 3 := by rw [IntKind.wrap_i64]; omega
  have z1 : (0 : Int) ≤ (i : Int) + 1 := by omega
  have z2 : (0 : Int) ≤ (i : Int) + 2 := by omega
  have z3 : (0 : Int) ≤ (i : Int) + 3 := by omega
  go_enter Tryd.func186, Tryd.ntmps186
  go_upto_region 1 with fail
  go_region
  all_goals go_wp2
  all_goals go_ret
  all_goals refine ⟨?_, by go_grown⟩
  refine congrArg (fun x => Ending.returned (Value.int .u32 x)) ?_
  unfold wordAt
  rw [byteAt_eq s i (by omega), byteAt_eq s (i + 1) (by omega), byteAt_eq s (i + 2) (by omega), byteAt_eq s (i + 3) (by omega)]
  have b0 := UInt8.toNat_lt (s[i]'(by omega))
  have b1 := UInt8.toNat_lt (s[i + 1]'(by omega))
  have b2 := UInt8.toNat_lt (s[i + 2]'(by omega))
  have b3 := UInt8.toNat_lt (s[i + 3]'(by omega))
  omega

def byN (k : Nat) : Nat := [16, 12, 8, 7].getD k 0
/-- so many steps of the four -/
def qsteps (xs : List Nat) (a b c d : Nat) : Nat → List Nat
  | 0 => xs
  | k + 1 => if k % 2 = 0 then xorRot (addTo (qsteps xs a b c d k) a b) d a (byN k) else xorRot (addTo (qsteps xs a b c d k) c d) b c (byN k)
theorem qsteps_four (xs : List Nat) (a b c d : Nat) : qsteps xs a b c d 4 = quarterL xs a b c d := by
  simp [qsteps, quarterL, byN]
theorem qsteps_good {xs : List Nat} (h : Good xs) (a b c d : Nat) : ∀ k, k ≤ 4 → Good (qsteps xs a b c d k)
  | 0, _ => h
  | k + 1, hk => by
    have ih := qsteps_good h a b c d k (by omega)
    have hb : byN k ≤ 32 := by
      have : k = 0 ∨ k = 1 ∨ k = 2 ∨ k = 3 := by omega
      rcases this with rfl | rfl | rfl | rfl <;> decide
    unfold qsteps
    split
    · exact ⟨by simp [xorRot_len, addTo_len, ih.1], (ih.2.addTo _ _).xorRot _ _ _ hb⟩
    · exact ⟨by simp [xorRot_len, addTo_len, ih.1], (ih.2.addTo _ _).xorRot _ _ _ hb⟩
theorem byN_is (k : Nat) (h : k < 4) : byN k = 16 ∨ byN k = 12 ∨ byN k = 8 ∨ byN k = 7 := by
  have : k = 0 ∨ k = 1 ∨ k = 2 ∨ k = 3 := by omega
  rcases this with rfl | rfl | rfl | rfl <;> decide
end Go.Proofs.YtdhboldmffiklabDoor.chacha
