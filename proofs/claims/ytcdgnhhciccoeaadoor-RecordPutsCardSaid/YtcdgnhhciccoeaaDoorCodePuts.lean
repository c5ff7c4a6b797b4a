/- Numbers, texts and truths have the document's bytes. No condition. -/
import Derived.Test.YtcdgnhhciccoeaaDoorCodeAwake
import Derived.Test.YtcdgnhhciccoeaaDoorCodeBig
import Derived.Deep.DeepCutAuto
import Derived.Test.YtcdgnhhciccoeaaDoorBytes2
namespace Go.Proofs.YtcdgnhhciccoeaaDoor.code
open Go.RowKit
attribute [local go_sem ↓] Go.wp_at_zero Go.wp_at_succ
attribute [local go_sem] str_bl str_size str_get0 conv_one conv_one_drew str_append
set_option linter.unusedVariables false
set_option maxRecDepth 100000

set_option maxRecDepth 100000 in
theorem refNum_any (n : Nat) : n < 18446744073709551616 → ∀ (w : World),
    Calls Tryd.prog 44 #[.int .u64 (n : Int)] w fun e w' => e = .returned (.string (str (numL n))) ∧ Below w.heap.size w w' := by
  induction n using Nat.strongRecOn with
  | _ n ih =>
  intro hn w
  by_cases hs : n < 128
  · have e := numL_small n hs
    have hm : (n : Int) % 256 = n := by omega
    replace e := Lib.hid e
    replace hn := Lib.hid hn
    clear ih
    go_enter Tryd.func44, Tryd.ntmps44
    go_wp2
    go_ret
    exact ⟨by rw [e.out]; rfl, by go_grown⟩
  · have e := numL_big n hs
    have hlen := numL_len64 (n / 128) (by omega)
    have hroom : ¬ 9223372036854775807 < 1 + (numL (n / 128)).length := by omega
    have hc := ih (n / 128) (by omega) (by omega)
    clear ih
    obtain ⟨q, hq⟩ : ∃ q : Nat, q = n % 128 := ⟨_, rfl⟩
    obtain ⟨r, hr⟩ : ∃ r : Nat, r = q + 128 := ⟨_, rfl⟩
    have h1 : (n : Int).tmod 128 = q := by rw [IntWalk.rem_in _ _ (by omega)]; omega
    have h2 : IntKind.u64.wrap ((q : Int) + 128) = r := by rw [IntWalk.u64_in _ (by omega)]; omega
    have h3 : IntKind.u8.wrap (r : Int) = r := IntWalk.u8_in _ (by omega)
    have h4 : IntKind.u64.wrap ((n : Int) / 128) = ((n / 128 : Nat) : Int) := by rw [IntWalk.u64_in _ (by omega)]; omega
    generalize n / 128 = p at *
    replace hq := Lib.hid hq
    replace hr := Lib.hid hr
    replace e := Lib.hid e
    replace hn := Lib.hid hn
    replace hlen := Lib.hid hlen
    go_enter Tryd.func44, Tryd.ntmps44
    go_wp2
    go_region_with (go_at_call 44; (with_reducible refine (hc _).mono ?_); rintro e w1 ⟨rfl, hb⟩; (try (have hcv := conv_at w1 w.heap.size 1 _ ((hb.cell (p := ⟨w.heap.size, 0, none⟩) (by simp)).trans (newCell _ _ _ 0)))))
    all_goals go_wp2
    all_goals go_ret
    all_goals refine ⟨by rw [e.out, ← hq.out, ← hr.out]; rfl, ?_⟩
    all_goals first | exact ((((Below.refl _ _).alloc (Nat.le_refl _) _).drew.trans (hb.mono (by simp)))) | exact (((Below.refl _ w).drew.trans hb).alloc hb.size _)

theorem high_step (n k : Nat) (r : List UInt8) : beL k (n / 256) ++ UInt8.ofNat (n % 256) :: r = beL (k + 1) n ++ r := by
  have e : beL (k + 1) n = beL k (n / 256) ++ [UInt8.ofNat (n % 256)] := by
    unfold beL
    rw [List.range_succ, List.map_append]
    congr 1
    · apply List.map_congr_left
      intro i hi
      simp at hi
      have e1 : k + 1 - 1 - i = (k - 1 - i) + 1 := by omega
      rw [e1, Nat.pow_succ, Nat.mul_comm, ← Nat.div_div_eq_div_mul]
    · simp
  rw [e]; simp

set_option maxRecDepth 100000 in
set_option maxHeartbeats 1000000 in
theorem refHigh_any (n k : Nat) (hn : n < 18446744073709551616) (hk : k ≤ 8) (w : World) :
    Calls Tryd.prog 88 #[.int .u64 (n : Int), .int .i64 (k : Int)] w fun e w' => e = .returned (.string (str (beL k n))) ∧ Below w.heap.size w w' := by
  replace hn := Lib.hid hn
  go_enter Tryd.func88, Tryd.ntmps88
  go_wp2
  go_loopg [0, 5, 6] k (fun gn s0 s5 s6 wr => ∃ (i m : Nat) (l : List UInt8), s0 = .int .u64 (m : Int) ∧ s5 = .string (str l) ∧ s6 = .int .i64 (i : Int) ∧ i + gn = k ∧ l.length = i ∧ Hid (m < 18446744073709551616) ∧ beL gn m ++ l = beL k n ∧ Below w.heap.size w wr)
  case atStart => exact ⟨0, n, [], rfl, rfl, rfl, by omega, rfl, hn, by simp, Below.refl _ _⟩
  case round =>
    obtain ⟨i, m, l, rfl, rfl, rfl, hik, hl, hmn, hm, hbel⟩ := hrel
    by_cases h0 : gk = 0
    · subst h0
      obtain rfl : i = k := by omega
      have e : l = beL i n := by rw [← hm]; simp [beL]
      clear hm hik
      go_wp2
      go_ret
      exact ⟨by rw [e]; rfl, hbel⟩
    · obtain ⟨G, rfl⟩ : ∃ G : Nat, gk = G + 1 := ⟨gk - 1, by omega⟩
      have h1 : i < k := by omega
      have h2 : i < 8 := by omega
      have hst := high_step m G l
      rw [hm] at hst
      have hq := Nat.mod_lt m (show 256 > 0 by decide)
      obtain ⟨q, hq1⟩ : ∃ q : Nat, q = m % 256 := ⟨_, rfl⟩
      have e1 : (m : Int) % 256 = (q : Int) := by omega
      have e2 : IntKind.u8.wrap (q : Int) = q := IntWalk.u8_in _ (by omega)
      have e3 : (m : Int) / 256 = ((m / 256 : Nat) : Int) := by omega
      have hroom : ¬ 9223372036854775807 < 1 + l.length := by omega
      have hp : m / 256 < 18446744073709551616 := by have := hmn.out; omega
      have e4 : IntKind.u64.wrap ((m / 256 : Nat) : Int) = ((m / 256 : Nat) : Int) := IntWalk.u64_in _ (by omega)
      generalize m / 256 = p at *
      replace hp := Lib.hid hp
      rw [← hq1] at hst
      replace hst := Lib.hid hst
      replace hq := Lib.hid hq
      replace hq1 := Lib.hid hq1
      replace hm := Lib.hid hm
      replace hl := Lib.hid hl
      clear h0
      go_wp2
      go_roundg G
      case measure => omega
      case rel => exact ⟨i + 1, p, UInt8.ofNat q :: l, by go_num, rfl, by go_num, by omega, by simp [hl.out], hp, hst.out, hbel.alloc hbel.size _⟩

theorem refText_any (l : List UInt8) (hl : l.length ≤ 300) (w : World) :
    Calls Tryd.prog 89 #[.string (str l)] w fun e w' => e = .returned (.string (str (numL l.length ++ l))) ∧ Below w.heap.size w w' := by
  have hc := fun w' => refNum_any l.length (by omega) w'
  have hw : IntKind.u64.wrap (l.length : Int) = l.length := IntWalk.u64_in _ (by omega)
  have hroom : ¬ 9223372036854775807 < (numL l.length).length + l.length := by have := numL_len64 l.length (by omega); omega
  replace hl := Lib.hid hl
  go_enter Tryd.func89, Tryd.ntmps89
  go_wp2_with (go_at_call 44; (with_reducible refine (hc _).mono ?_); rintro e w1 ⟨rfl, hb⟩)
  go_ret
  exact ⟨rfl, hb⟩
theorem boolPut_any (b : Bool) (w : World) : Calls Tryd.prog 31 #[.bool b] w fun e w' => e = .returned (.string (str [if b then 1 else 0])) ∧ Below w.heap.size w w' := by
  cases b
  all_goals
    go_enter Tryd.func31, Tryd.ntmps31
    go_wp2
    go_ret
    exact ⟨rfl, Below.refl _ _⟩
theorem refBool_any (b : Bool) (w : World) : Calls Tryd.prog 43 #[.bool b] w fun e w' => e = .returned (.string (str [if b then 1 else 0])) ∧ Below w.heap.size w w' := by
  cases b
  all_goals
    go_enter Tryd.func43, Tryd.ntmps43
    go_wp2
    go_ret
    exact ⟨rfl, Below.refl _ _⟩
theorem text_list (l : List UInt8) (hl : l.length ≤ 300) (w : World) :
    Calls Tryd.prog 79 #[.string (str l)] w fun e w' => e = .returned (.string (str (numL l.length ++ l))) ∧ Below w.heap.size w w' := by
  have := text_any (str l) (by rw [str_size]; omega) w
  rwa [str_size, str_toList] at this
theorem and_32 (n : Nat) (hn : n < 18446744073709551616) : bits .and .u64 (n : Int) 4294967295 = ((n % 4294967296 : Nat) : Int) := by
  have := u64_and_nat n 4294967295 hn (by omega)
  rw [show ((4294967295 : Nat) : Int) = 4294967295 from rfl] at this
  rw [this, show (4294967295 : Nat) = 2 ^ 32 - 1 from rfl, Nat.and_two_pow_sub_one_eq_mod]

end Go.Proofs.YtcdgnhhciccoeaaDoor.code
