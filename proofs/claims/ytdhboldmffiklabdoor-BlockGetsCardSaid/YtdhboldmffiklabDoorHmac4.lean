/- So many bytes of a key (package hmac). The table of salts is a premise. No other condition. -/
import Derived.Test.YtdhboldmffiklabDoorHmac3
namespace Go.Proofs.YtdhboldmffiklabDoor.sha
open Go.RowKit
attribute [local go_sem ↓] Go.wp_at_zero Go.wp_at_succ
attribute [local go_sem] str_size str_append conv_one conv_one_drew
set_option linter.unusedVariables false
set_option maxRecDepth 100000

/-- the i-th piece, and all of them -/
def lastK (k p : List UInt8) : Nat → List UInt8
  | 0 => []
  | i + 1 => tagL k [lastK k p i, p, [UInt8.ofNat (i + 1)]].flatten
def allK (k p : List UInt8) : Nat → List UInt8
  | 0 => []
  | i + 1 => allK k p i ++ lastK k p (i + 1)
theorem lastK_len (k p : List UInt8) (i : Nat) : (lastK k p i).length ≤ 32 := by
  cases i with
  | zero => exact Nat.zero_le _
  | succ i => exact Nat.le_of_eq (tagL_len _ _)
theorem lastK_len1 (k p : List UInt8) (i : Nat) : (lastK k p (i + 1)).length = 32 := tagL_len _ _
theorem allK_len (k p : List UInt8) (i : Nat) : (allK k p i).length = 32 * i := by
  induction i with
  | zero => rfl
  | succ i ih => rw [allK, List.length_append, ih, lastK_len1]; omega
theorem parts_three (w : World) (o : Obj) (x y z : List UInt8) : Parts ((w.alloc o).alloc (.cells #[.string (str x), .string (str y), .string (str z)] 9)) (w.heap.size + 1) 0 [x, y, z] :=
  ⟨fun j l hj => by
    rw [cell_of_row _ _ _ _ _ _ (boxed2b w _ _ o)]
    match j, hj with
    | 0, hj => simp at hj; subst hj; rfl
    | 1, hj => simp at hj; subst hj; rfl
    | 2, hj => simp at hj; subst hj; rfl, by simp⟩
theorem expand_bad (k p : ByteArray) (x : Int) (h : x < 0 ∨ 8160 < x) (w : World) : Calls Tryd.prog 126 #[.string k, .string p, .int .i64 x] w fun e w' => e = .returned (.tuple #[.string ⟨#[]⟩, .int .i64 1]) ∧ Below w.heap.size w w' := by
  by_cases h0 : x < 0
  · clear h
    go_enter Tryd.func126, Tryd.ntmps126
    go_wp2
    go_returns
    exact ⟨rfl, Below.refl _ _⟩
  · have h1 : 8160 < x := by omega
    clear h
    go_enter Tryd.func126, Tryd.ntmps126
    go_wp2
    go_returns
    exact ⟨rfl, Below.refl _ _⟩
set_option maxRecDepth 100000 in
set_option maxHeartbeats 4000000 in
theorem expand_any (k p : List UInt8) (N : Nat) (hN : N ≤ 8160) (hk : k.length ≤ 1000000) (hp : p.length ≤ 1000000) (w : World) (hT : SaltAt w salts) :
    Calls Tryd.prog 126 #[.string (str k), .string (str p), .int .i64 (N : Int)] w fun e w' => e = .returned (.tuple #[.string (str ((allK k p ((N + 31) / 32)).take N)), .int .i64 0]) ∧ Below w.heap.size w w' := by
  have n0 : ¬ (N : Int) < 0 := by omega
  have n1 : ¬ (8160 : Int) < (N : Int) := by omega
  have n2 : (0 : Int) ≤ (N : Int) := by omega
  obtain ⟨m, hm⟩ : ∃ m, m = (N + 31) / 32 := ⟨_, rfl⟩
  rw [← hm]
  have hkk : k.length ≤ 1000000000 := by omega
  replace hN := Lib.hid hN; replace hm := Lib.hid hm; replace hT := Lib.hid hT
  replace hk := Lib.hid hk; replace hp := Lib.hid hp; replace hkk := Lib.hid hkk
  go_enter Tryd.func126, Tryd.ntmps126
  go_wp2
  go_loopg [8, 9, 10] m (fun gn s8 s9 s10 wr => ∃ i : Nat, s8 = .string (str (allK k p i)) ∧ s9 = .string (str (lastK k p i)) ∧ s10 = .int .i64 ((i : Int) + 1) ∧ i + gn = m ∧ Below w.heap.size w wr)
  case atStart => exact ⟨0, rfl, rfl, rfl, by omega, Below.refl _ _⟩
  case round =>
    obtain ⟨i, rfl, rfl, rfl, hi, hB⟩ := hrel
    have hal := allK_len k p i
    have hll := lastK_len k p i
    by_cases h0 : gk = 0
    · obtain rfl : i = m := by omega
      have hge : ¬ (32 * (i : Int) < (N : Int)) := by have := hm.out; omega
      have hle : (N : Int) ≤ 32 * (i : Int) := by omega
      have hcut : (str (allK k p i)).extract 0 N = str ((allK k p i).take N) := by rw [cut_extract]; simp
      obtain ⟨A, hA⟩ : ∃ A, A = allK k p i := ⟨_, rfl⟩
      rw [← hA] at hal hcut ⊢
      replace hA := Lib.hid hA
      replace hll := Lib.hid hll
      clear hi h0
      go_wp2
      go_returns
      exact ⟨by rw [hA.out]; rfl, hB⟩
    · obtain ⟨K, rfl⟩ : ∃ K : Nat, gk = K + 1 := ⟨gk - 1, by omega⟩
      have hlt : 32 * (i : Int) < (N : Int) := by have := hm.out; omega
      have hi255 : i < 255 := by have := hN.out; omega
      have e1 : ((i : Int) + 1) % 256 = (i : Int) + 1 := by omega
      have e2 : IntKind.u8.wrap ((i : Int) + 1) = (i : Int) + 1 := IntWalk.u8_in _ (by omega)
      have e3 : IntKind.i64.wrap ((i : Int) + 1 + 1) = (i : Int) + 1 + 1 := by rw [IntKind.wrap_i64]; omega
      have e4 : UInt8.ofNat ((i : Int) + 1).toNat = UInt8.ofNat (i + 1) := rfl
      have hll1 := lastK_len1 k p i
      have hroom : ¬ 9223372036854775807 < 32 * i + 32 := by omega
      have htag := tagOf_any k [lastK k p i, p, [UInt8.ofNat (i + 1)]] (wr.heap.size + 1) 0 3 hkk.out (by simp) (by simp) (by have := hp.out; simp; omega) ((wr.alloc (.cells #[.int .u8 ((i : Int) + 1)] 5)).alloc (.cells #[.string (str (lastK k p i)), .string (str p), .string (str [UInt8.ofNat (i + 1)])] 9)) (parts_three wr _ _ _ _) (hT.out.keep ((hB.alloc hB.size _).alloc (by have := hB.size; simp; omega) _))
      have hnl : tagL k [lastK k p i, p, [UInt8.ofNat (i + 1)]].flatten = lastK k p (i + 1) := rfl
      rw [hnl] at htag
      have htag2 : Calls Tryd.prog 180 #[.string (str k), .slice (some ⟨wr.heap.size + 1, 0, none⟩) 3 3] ((wr.alloc (.cells #[.int .u8 ((i : Int) + 1)] 5)).alloc (.cells #[.string (str (lastK k p i)), .string (str p), .string (str [UInt8.ofNat (i + 1)])] 9)) fun e w' => e = .returned (.string (str (lastK k p (i + 1)))) ∧ Below ((wr.alloc (.cells #[.int .u8 ((i : Int) + 1)] 5)).alloc (.cells #[.string (str (lastK k p i)), .string (str p), .string (str [UInt8.ofNat (i + 1)])] 9)).heap.size ((wr.alloc (.cells #[.int .u8 ((i : Int) + 1)] 5)).alloc (.cells #[.string (str (lastK k p i)), .string (str p), .string (str [UInt8.ofNat (i + 1)])] 9)) w' := htag
      have hB2 := (hB.alloc hB.size (.cells #[.int .u8 ((i : Int) + 1)] 5)).alloc (by have := hB.size; simp; omega) (.cells #[.string (str (lastK k p i)), .string (str p), .string (str [UInt8.ofNat (i + 1)])] 9)
      have hnext : allK k p (i + 1) = allK k p i ++ lastK k p (i + 1) := rfl
      obtain ⟨A, hA⟩ : ∃ A, A = allK k p i := ⟨_, rfl⟩
      obtain ⟨L, hL⟩ : ∃ L, L = lastK k p i := ⟨_, rfl⟩
      obtain ⟨L1, hL1⟩ : ∃ L, L = lastK k p (i + 1) := ⟨_, rfl⟩
      rw [← hL, ← hL1] at htag2
      rw [← hA, ← hL1] at hnext
      rw [← hL] at hB2
      rw [← hL1] at hll1
      rw [← hA] at hal
      rw [← hA, ← hL]
      have e5 : UInt8.ofNat (i + 1) = UInt8.ofNat i + 1 := by simp
      rw [e5] at htag2 hB2
      have hi2 := Lib.hid hi
      replace hnext := Lib.hid hnext; replace htag2 := Lib.hid htag2; replace hB2 := Lib.hid hB2; replace hL1 := Lib.hid hL1
      clear htag hnl hll hA hL hi h0
      go_wp2_with (go_at_call 180; (with_reducible refine htag2.out.mono ?_); rintro e w3 ⟨rfl, b3⟩; replace hB2 := Lib.hid (belowCont hB2.out b3); clear b3)
      go_roundg K
      case measure => omega
      case rel => exact ⟨i + 1, by rw [hnext.out] <;> first | rfl | simp, by rw [hL1.out], by first | rfl | (congr 1; omega) | (simp; omega), by have := hi2.out; omega, hB2.out⟩
end Go.Proofs.YtdhboldmffiklabDoor.sha
