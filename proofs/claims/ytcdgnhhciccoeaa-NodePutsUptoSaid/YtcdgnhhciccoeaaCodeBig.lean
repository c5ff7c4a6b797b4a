/- Numbers of a fixed width (package code): Big and Small, put and taken. No condition. -/
import Derived.Test.YtcdgnhhciccoeaaCode
namespace Go.Proofs.Ytcdgnhhciccoeaa.code
open Go.RowKit
attribute [local go_sem ↓] Go.wp_at_zero Go.wp_at_succ
attribute [local go_sem] str_bl str_size str_get0
set_option linter.unusedVariables false
set_option maxRecDepth 100000

/-- k bytes of n, the highest first -/
def beL (k n : Nat) : List UInt8 := (List.range k).map fun i => UInt8.ofNat (n / 256 ^ (k - 1 - i) % 256)
theorem beL_length (k n : Nat) : (beL k n).length = k := by simp [beL]

/-- bytes as a number, the highest first -/
def beNat (l : List UInt8) : Nat := l.foldl (fun a b => a * 256 + b.toNat) 0
theorem beNat_snoc (l : List UInt8) (b : UInt8) : beNat (l ++ [b]) = beNat l * 256 + b.toNat := by simp [beNat]
theorem beNat_lt (l : List UInt8) : beNat l < 256 ^ l.length := by
  have key : ∀ (l : List UInt8) (a k : Nat), a < 256 ^ k → l.foldl (fun a b => a * 256 + b.toNat) a < 256 ^ (k + l.length) := by
    intro l
    induction l with
    | nil => intro a k h; simpa using h
    | cons b r ih =>
      intro a k h
      have := b.toNat_lt
      have h1 : a * 256 + b.toNat < 256 ^ (k + 1) := by rw [Nat.pow_succ]; omega
      have := ih _ _ h1
      simp only [List.foldl_cons, List.length_cons]
      rw [show k + (r.length + 1) = k + 1 + r.length by omega]; exact this
  have := key l 0 0 (by simp)
  simpa [beNat] using this
theorem beNat_beL (k n : Nat) : beNat (beL k n) = n % 256 ^ k := by
  have key : ∀ j, j ≤ k → beNat ((beL k n).take j) = n / 256 ^ (k - j) % 256 ^ j := by
    intro j
    induction j with
    | zero => intro _; simp [beNat, Nat.mod_one]
    | succ j ih =>
      intro hj
      have hjl : j < (beL k n).length := by rw [beL_length]; omega
      have hb : (beL k n)[j] = UInt8.ofNat (n / 256 ^ (k - 1 - j) % 256) := by simp [beL]
      rw [List.take_add_one, List.getElem?_eq_getElem hjl, hb]
      show beNat (_ ++ [_]) = _
      rw [beNat_snoc, ih (by omega)]
      have e : (UInt8.ofNat (n / 256 ^ (k - 1 - j) % 256)).toNat = n / 256 ^ (k - 1 - j) % 256 := by rw [UInt8.toNat_ofNat']; exact Nat.mod_eq_of_lt (by omega)
      rw [e]
      have e1 : k - j = (k - 1 - j) + 1 := by omega
      have e2 : k - (j + 1) = k - 1 - j := by omega
      rw [e1, e2, Nat.pow_succ 256 (k - 1 - j), ← Nat.div_div_eq_div_mul, Nat.pow_succ 256 j, Nat.mul_comm (256 ^ j) 256, Nat.mod_mul]
      omega
  have := key k (Nat.le_refl _)
  rw [List.take_of_length_le (by rw [beL_length]; exact Nat.le_refl _)] at this
  simpa using this

theorem shl_or (a b : Nat) (ha : a < 72057594037927936) (hb : b < 256) : bits .or .u64 (IntKind.u64.wrap ((a : Int) * 256)) (IntKind.u64.wrap (b : Int)) = ((a * 256 + b : Nat) : Int) := by
  have e : IntKind.u64.wrap ((a : Int) * 256) = ((a * 256 : Nat) : Int) := by
    rw [IntWalk.u64_in _ (by omega)]; omega
  rw [e, IntWalk.u64_in _ (by omega), u64_or_nat _ _ (by omega) (by omega)]
  congr 1
  exact nat_join 8 _ b (by omega) (by omega)
theorem pow_256_le (k : Nat) (hk : k ≤ 7) : 256 ^ k ≤ 72057594037927936 := Nat.le_trans (Nat.pow_le_pow_right (by decide) hk) (by decide)

/-- what a number of k bytes takes: it, what is left, the error -/
def takeBe (k : Nat) (l : List UInt8) : Nat × List UInt8 × Int := if k ≤ l.length then (beNat (l.take k), l.drop k, 0) else (0, [], 2)
theorem takeBe_lt (k : Nat) (l : List UInt8) : (takeBe k l).1 < 256 ^ k := by
  unfold takeBe
  split
  · rename_i h; have := beNat_lt (l.take k); rwa [List.length_take, Nat.min_eq_left h] at this
  · exact Nat.pow_pos (by decide)
end Go.Proofs.Ytcdgnhhciccoeaa.code
