/- Parts of keys are read as they were put (package order): numbers. No condition. -/
import Derived.Test.YtmeaidkbkelclaaDoorPart2
namespace Go.Proofs.YtmeaidkbkelclaaDoor.order
open Go.RowKit
attribute [local go_sem ↓] Go.wp_at_zero Go.wp_at_succ
attribute [local go_sem] str_bl str_size str_get0
set_option linter.unusedVariables false
set_option maxRecDepth 100000

theorem first_not (n k : Nat) (h1 : n < 256 ^ k) (h : k = 0 ∨ 256 ^ (k - 1) ≤ n) : Lib.hasPrefix (beL k n) [0] = false := by
  match k, h1, h with
  | 0, h1, h => rfl
  | k + 1, h1, h =>
    have hP : 0 < 256 ^ k := Nat.pow_pos (by decide)
    have h2 : 256 ^ k ≤ n := by
      rcases h with h | h
      · omega
      · simpa using h
    have hq : n / 256 ^ k < 256 := by rw [Nat.div_lt_iff_lt_mul hP, Nat.mul_comm, ← Nat.pow_succ]; exact h1
    have hq1 : 0 < n / 256 ^ k := Nat.div_pos h2 hP
    have hne := ofNat_beq (n / 256 ^ k % 256) 0 (Nat.mod_lt _ (by decide)) (by decide)
    rw [Nat.mod_eq_of_lt hq, decide_eq_false (by omega)] at hne
    rw [beL_cons, Nat.mod_eq_of_lt hq]
    have hne2 : (0 == UInt8.ofNat (n / 256 ^ k)) = false := by
      rw [beq_eq_false_iff_ne] at hne ⊢
      exact fun e => hne e.symm
    simp [Lib.hasPrefix, List.isPrefixOf, hne2]
set_option maxHeartbeats 2000000 in
theorem pnum_any {w : World} {p g : Nat} (n : Nat) (hn : n < 18446744073709551616) {r : List UInt8} (h : PAt w p g (numP n ++ r) 0) : Calls Tryd.prog 81 #[.pointer (some ⟨p, 0, none⟩)] w fun e' w' => e' = .returned (.int .u64 (n : Int)) ∧ PAt w' p g r 0 ∧ Keeps [g] w w' := by
  obtain ⟨k, hk8, hform, hlt, hlow⟩ := numP_form n hn
  have hpre := first_not n k hlt hlow
  have hbe : code.beNat (beL k n) = n := by
    have e : beL k n = code.beL k n := rfl
    rw [e, code.beNat_beL, Nat.mod_eq_of_lt hlt]
  have hl : (beL k n).length = k := beL_length k n
  rw [hform] at h
  have hk1 : ((UInt8.ofNat (16 + k)).toNat : Int) = 16 + (k : Int) := by rw [UInt8.toNat_ofNat', Nat.mod_eq_of_lt (by omega)]; omega
  have c1 := ptake_any (b := UInt8.ofNat (16 + k)) (r := beL k n ++ r) h
  rw [hk1] at c1
  generalize hT : beL k n = t at *
  have c2 : ∀ W (x : Int), x = (k : Int) → PAt W p g (t ++ r) 0 → Calls Tryd.prog 92 #[.pointer (some ⟨g, 0, none⟩), .int .i64 x] W fun e w' => e = .returned (.string (str t)) ∧ PAt w' p g r 0 ∧ Keeps [g] W w' := fun W x hx hW => by
    subst hx
    have := code.bytes_take hW.rd k (by rw [List.length_append]; omega)
    rw [← hl, List.take_left, List.drop_left, hl] at this
    exact this.mono fun e w' ⟨h1, h2, h3⟩ => ⟨h1, hW.turn h3 h2, h3⟩
  have c3 : ∀ W, Calls Tryd.prog 118 #[.string (str t), .string ⟨#[0]⟩] W fun e w' => e = .returned (.bool false) ∧ w' = W := fun W => by
    have := Go.Proofs.Tryd.strings_HasPrefix (str t) ⟨#[0]⟩ W
    have e : Lib.hasPrefix (str t).data.toList (⟨#[0]⟩ : ByteArray).data.toList = false := hpre
    rwa [e] at this
  have g1 : ¬ (16 : Int) + (k : Int) < 16 := by omega
  have g2 : ¬ (24 : Int) < 16 + (k : Int) := by omega
  have g3 : (16 : Int) + (k : Int) < 256 := by omega
  have hz := str_size t
  rw [hl] at hz
  have hk9 : (k : Int) ≤ 8 := by omega
  clear h hk1 hpre hlow hform
  replace c1 := Lib.hid c1; replace c2 := Lib.hid c2; replace c3 := Lib.hid c3; replace hT := Lib.hid hT; replace hl := Lib.hid hl; replace hbe := Lib.hid hbe; replace hlt := Lib.hid hlt; replace hn := Lib.hid hn
  go_enter Tryd.func81, Tryd.ntmps81
  go_wp2_with (first
    | (go_at_call 117; (with_reducible refine c1.out.mono ?_); rintro e w1 ⟨rfl, h1, k1⟩; replace h1 := Lib.hid h1; replace k1 := Lib.hid k1)
    | (go_at_call 88; (with_reducible refine (pbytes_any h1.out).mono ?_); rintro e w2 ⟨rfl, b2⟩; replace h1 := Lib.hid (h1.out.below b2); replace k1 := Lib.hid (k1.out.trans (Keeps.ofBelow b2 _)); clear b2)
    | (go_at_call 92; (with_reducible refine (c2.out _ _ (by omega) h1.out).mono ?_); rintro e w3 ⟨rfl, h3, k3⟩; replace h3 := Lib.hid h3; replace k3 := Lib.hid (k1.out.trans k3); clear k1)
    | (go_at_call 118; (with_reducible refine (c3.out _).mono ?_); rintro e w4 ⟨rfl, rfl⟩))
  go_loop [6, 37] (fun a i => ∃ j : Nat, j ≤ k ∧ i = .int .i64 (j : Int) ∧ a = .int .u64 ((code.beNat (t.take j) : Nat) : Int)) (fun _ i => k - (intOf i).toNat)
  case atStart => exact ⟨0, by omega, rfl, rfl⟩
  case round =>
    obtain ⟨j, hj, rfl, rfl⟩ := hrel
    by_cases hjl : j < k
    · have hjt : j < t.length := by rw [hl.out]; exact hjl
      have hb1 := code.beNat_lt (t.take j)
      have hle := code.pow_256_le j (by omega)
      rw [List.length_take, Nat.min_eq_left (by omega)] at hb1
      have hst : code.beNat (t.take (j + 1)) = code.beNat (t.take j) * 256 + t[j].toNat := by rw [List.take_add_one, List.getElem?_eq_getElem hjt]; exact code.beNat_snoc _ _
      have hor := code.shl_or (code.beNat (t.take j)) t[j].toNat (by omega) t[j].toNat_lt
      have hidx : ∀ hh : j < (str t).size, (str t)[j]'hh = t[j] := fun _ => rfl
      generalize code.beNat (t.take j) = a at *
      generalize a * 256 + t[j].toNat = b at *
      replace hst := Lib.hid hst; replace hb1 := Lib.hid hb1; replace hle := Lib.hid hle
      go_wp2
      go_round
      case rel => exact ⟨j + 1, by omega, by go_num, by rw [hst.out]; exact congrArg (Value.int IntKind.u64) hor⟩
      case measure => simp [intOf]; omega
    · obtain rfl : j = k := by omega
      have e : t.take j = t := List.take_of_length_le (by rw [hl.out]; exact Nat.le_refl _)
      rw [e, hbe.out]
      go_wp2
      go_ret
      exact ⟨rfl, h3.out, k3.out⟩
end Go.Proofs.YtmeaidkbkelclaaDoor.order
