/- Numbers and texts are read as they were put; a number of more bytes than it must have is none. No condition. -/
import Derived.Test.YtdhboldmffiklabCodeAwake
import Derived.Test.YtdhboldmffiklabCodeBig
import Derived.Test.YtdhboldmffiklabBytes2
import Derived.Deep.DeepCutAuto
namespace Go.Proofs.Ytdhboldmffiklab.code
open Go.RowKit
attribute [local go_sem ↓] Go.wp_at_zero Go.wp_at_succ
attribute [local go_sem] str_bl str_size str_get0 conv_one conv_one_drew str_append
set_option linter.unusedVariables false
set_option maxRecDepth 100000

theorem rdNum_long : ∀ (L : List UInt8) (i acc : Nat) (r : List UInt8), (∀ b ∈ L, 128 ≤ b.toNat) → i + L.length ≤ 9 → 0 < i + L.length → rdNum i acc (L ++ 0 :: r) = (0, [], 3)
  | [], i, acc, r, _, _, h => by
    show rdNum i acc (0 :: r) = _
    rw [rdNum, if_pos (Or.inl ⟨by simpa using h, rfl⟩)]
  | b :: L, i, acc, r, hb, hl, h => by
    have h1 := hb b (by simp)
    simp only [List.length_cons] at hl
    show rdNum i acc (b :: (L ++ 0 :: r)) = _
    rw [rdNum, if_neg (by omega), if_neg (by omega)]
    exact rdNum_long L (i + 1) _ r (fun c hc => hb c (by simp [hc])) (by omega) (by omega)
theorem numL_form : ∀ (k n : Nat), n < 128 ^ (k + 1) → ∃ (A : List UInt8) (b : UInt8), numL n = A ++ [b] ∧ (∀ c ∈ A, 128 ≤ c.toNat) ∧ b.toNat < 128 ∧ A.length ≤ k
  | k, n, h => by
    by_cases hs : n < 128
    · exact ⟨[], UInt8.ofNat n, numL_small n hs, by simp, by rw [UInt8.toNat_ofNat']; omega, by simp⟩
    · match k with
      | 0 => simp at h; omega
      | k + 1 =>
        obtain ⟨A, b, h1, h2, h3, h4⟩ := numL_form k (n / 128) (by rw [Nat.div_lt_iff_lt_mul (by decide), ← Nat.pow_succ]; exact h)
        refine ⟨UInt8.ofNat (n % 128 + 128) :: A, b, by rw [numL_big n hs, h1]; rfl, fun c hc => ?_, h3, by simp; omega⟩
        rcases List.mem_cons.1 hc with rfl | hc
        · rw [UInt8.toNat_ofNat']; omega
        · exact h2 c hc
theorem takeBe_put (k n : Nat) (r : List UInt8) : takeBe k (beL k n ++ r) = (n % 256 ^ k, r, 0) := by
  unfold takeBe
  rw [if_pos (by simp [beL_length]), List.take_left' (beL_length k n), List.drop_left' (beL_length k n), beNat_beL]

theorem last_at {w : World} {q : Nat} {A : List UInt8} {b : UInt8} (h : BytesAt w q (A ++ [b])) : w.cell? ⟨q, A.length, none⟩ = some (.int .u8 (b.toNat : Int)) ∧ w.frozen? ⟨q, A.length, none⟩ = false := by
  have := h.2 A.length (by simp)
  simpa [List.getD] using this
theorem last_put {w : World} {q : Nat} {A : List UInt8} {b c : UInt8} (h : BytesAt w q (A ++ [b])) (hb : b.toNat < 128) (hc : c = UInt8.ofNat (b.toNat + 128)) (cap : Nat) :
    (convert 37 9 (.slice (some ⟨q, 0, none⟩) (A.length + 1) cap)).run Try.prog (w.setCell ⟨q, A.length, none⟩ (.int .u8 ((b.toNat : Int) + 128))) = .ok (.string (str (A ++ [c]))) (w.setCell ⟨q, A.length, none⟩ (.int .u8 ((b.toNat : Int) + 128))) := by
  have h1 := h.put (i := A.length) (by simp) (n := (b.toNat : Int) + 128) (by omega)
  have e : (A ++ [b]).set A.length (UInt8.ofNat ((b.toNat : Int) + 128).toNat) = A ++ [c] := by
    rw [hc, show ((b.toNat : Int) + 128).toNat = b.toNat + 128 by omega]; simp
  rw [e] at h1
  have h2 := h1.text cap
  rwa [show (A ++ [c]).length = A.length + 1 by simp] at h2

end Go.Proofs.Ytdhboldmffiklab.code
