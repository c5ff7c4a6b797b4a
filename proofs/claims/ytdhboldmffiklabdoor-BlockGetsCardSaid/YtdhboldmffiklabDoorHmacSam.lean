/- Two texts are the same just if they are. No condition. -/
import Derived.Test.YtdhboldmffiklabDoorHmac5
namespace Go.Proofs.YtdhboldmffiklabDoor.sha
open Go.RowKit
attribute [local go_sem ↓] Go.wp_at_zero Go.wp_at_succ
set_option linter.unusedVariables false
set_option maxRecDepth 100000

theorem or_u8 (a b : UInt8) : bits .or .u8 (a.toNat : Int) (b.toNat : Int) = (((a ||| b).toNat : Nat) : Int) := by
  rw [Go.u8_or_nat _ _ (UInt8.toNat_lt _) (UInt8.toNat_lt _), UInt8.toNat_or]
theorem orx_zero (u x y : UInt8) : u ||| (x ^^^ y) = 0 ↔ u = 0 ∧ x = y := by
  rw [UInt8.or_eq_zero_iff, UInt8.xor_eq_zero_iff]
/-- equal up to i -/
def Even (a b : ByteArray) (i : Nat) : Prop := ∀ j, j < i → a.data.getD j 0 = b.data.getD j 0
theorem Even.nil (a b : ByteArray) : Even a b 0 := fun j h => absurd h (Nat.not_lt_zero j)
theorem even_step (a b : ByteArray) (i : Nat) : Even a b (i + 1) ↔ Even a b i ∧ a.data.getD i 0 = b.data.getD i 0 :=
  ⟨fun h => ⟨fun j hj => h j (by omega), h i (by omega)⟩, fun h j hj => by
    by_cases e : j = i
    · rw [e]; exact h.2
    · exact h.1 j (by omega)⟩
theorem even_all (a b : ByteArray) (h : a.size = b.size) : Even a b b.size ↔ a = b := by
  constructor
  · intro k
    apply ByteArray.ext
    apply Array.ext
    · exact h
    · intro i h1 h2
      have := k i h2
      have e1 : a.data.getD i 0 = a.data[i]'h1 := by simp only [Array.getD]; rw [dif_pos h1]; rfl
      have e2 : b.data.getD i 0 = b.data[i]'h2 := by simp only [Array.getD]; rw [dif_pos h2]; rfl
      rw [← e1, ← e2]; exact this
  · rintro rfl j _; rfl
theorem get_u8 (s : ByteArray) (i : Nat) (h : i < s.size) : s[i]'h = s.data.getD i 0 := by
  have h2 : i < s.data.size := h
  have e : s.data.getD i 0 = s.data[i]'h2 := by simp only [Array.getD]; rw [dif_pos h2]; rfl
  rw [e]; rfl
set_option maxRecDepth 100000 in
theorem same_any (a b : ByteArray) (ha : a.size ≤ 1000000) (hb : b.size ≤ 1000000) (w : World) : Calls Tryd.prog 128 #[.string a, .string b] w fun e w' => e = .returned (.bool (decide (a = b))) ∧ Below w.heap.size w w' := by
  by_cases h0 : a.size = b.size
  · have h1 : (a.size : Int) = (b.size : Int) := by omega
    have hall := even_all a b h0
    replace hall := Lib.hid hall; replace ha := Lib.hid ha; replace hb := Lib.hid hb
    go_enter Tryd.func128, Tryd.ntmps128
    go_wp2
    go_loopg [5, 14] b.size (fun gn s5 s14 wr => ∃ i : Nat, ∃ u : UInt8, s5 = .int .u8 (u.toNat : Int) ∧ s14 = .int .i64 (i : Int) ∧ i + gn = b.size ∧ (u = 0 ↔ Even a b i) ∧ Below w.heap.size w wr)
    case atStart => exact ⟨0, 0, rfl, rfl, by omega, ⟨fun _ => Even.nil a b, fun _ => rfl⟩, Below.refl _ _⟩
    case round =>
      obtain ⟨i, u, rfl, rfl, hi, hev, hB⟩ := hrel
      by_cases hg : gk = 0
      · obtain rfl : i = b.size := by omega
        have hn : ¬ ((b.size : Int) < (b.size : Int)) := by omega
        have hfin : (decide ((u.toNat : Int) = 0)) = decide (a = b) := by
          have e1 : (u.toNat : Int) = 0 ↔ u = 0 := by rw [← UInt8.toNat_inj]; have : (0 : UInt8).toNat = 0 := rfl; omega
          exact decide_eq_decide.mpr (e1.trans (hev.trans hall.out))
        replace hfin := Lib.hid hfin; replace hev := Lib.hid hev
        clear hi hg
        go_wp2
        go_ret
        exact ⟨by rw [← hfin.out]; first | rfl | simp, hB⟩
      · obtain ⟨K, rfl⟩ : ∃ K : Nat, gk = K + 1 := ⟨gk - 1, by omega⟩
        have hib : i < b.size := by omega
        have hia : i < a.size := by omega
        have e0 : (0 : Int) ≤ (i : Int) := by omega
        have e1 : (i : Int) < (a.size : Int) := by omega
        have e2 : (i : Int) < (b.size : Int) := by omega
        have g1 := get_u8 a i hia
        have g2 := get_u8 b i hib
        have hx := xor_u8 (a.data.getD i 0) (b.data.getD i 0)
        have ho := or_u8 u (a.data.getD i 0 ^^^ b.data.getD i 0)
        have hev2 : u ||| (a.data.getD i 0 ^^^ b.data.getD i 0) = 0 ↔ Even a b (i + 1) := by rw [orx_zero, hev, even_step]
        obtain ⟨X, hX⟩ : ∃ X, X = a.data.getD i 0 := ⟨_, rfl⟩
        obtain ⟨Y, hY⟩ : ∃ X, X = b.data.getD i 0 := ⟨_, rfl⟩
        rw [← hX] at g1
        rw [← hY] at g2
        rw [← hX, ← hY] at hx ho hev2
        replace hev2 := Lib.hid hev2; replace hev := Lib.hid hev
        have hi2 := Lib.hid hi
        clear hX hY hi hg
        go_wp2
        go_upto_region 7 with fail
        refine wp_region_still_lit (by kernel_rfl) (by kernel_rfl) ?_
        change wpStill _ _ wr.drew _ _ _
        repeat still_step
        refine wpStill_nil ?_
        have hB2 := hB.drew
        replace hB2 := Lib.hid hB2
        go_wp2
        go_roundg K
        case measure => omega
        case rel => exact ⟨i + 1, u ||| (X ^^^ Y), congrArg (Value.int .u8) ho, by (have := hi2.out; have := hb.out; simp; unfold wrap64; omega), by have := hi2.out; omega, hev2.out, hB2.out⟩
  · have h1 : ¬ (a.size : Int) = (b.size : Int) := by omega
    have h2 : ¬ a = b := by intro h; exact h0 (by rw [h])
    go_enter Tryd.func128, Tryd.ntmps128
    go_wp2
    go_ret
    exact ⟨by simp [h2], Below.refl _ _⟩
end Go.Proofs.YtdhboldmffiklabDoor.sha
