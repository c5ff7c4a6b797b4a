/- Numbers, texts and truths have the document's bytes. No condition. -/
import Derived.Test.YtcdgnhhciccoeaaCodeAwake
import Derived.Test.YtcdgnhhciccoeaaCodeBig
import Derived.Deep.DeepCutAuto
import Derived.Test.YtcdgnhhciccoeaaBytes2
namespace Go.Proofs.Ytcdgnhhciccoeaa.code
open Go.RowKit
attribute [local go_sem ↓] Go.wp_at_zero Go.wp_at_succ
attribute [local go_sem] str_bl str_size str_get0 conv_one conv_one_drew str_append
set_option linter.unusedVariables false
set_option maxRecDepth 100000

set_option maxRecDepth 100000 in
theorem refNum_any (n : Nat) : n < 18446744073709551616 → ∀ (w : World),
    Calls Try.prog 19 #[.int .u64 (n : Int)] w fun e w' => e = .returned (.string (str (numL n))) ∧ Below w.heap.size w w' := by
  induction n using Nat.strongRecOn with
  | _ n ih =>
  intro hn w
  by_cases hs : n < 128
  · have e := numL_small n hs
    have hm : (n : Int) % 256 = n := by omega
    replace e := Lib.hid e
    replace hn := Lib.hid hn
    clear ih
    go_enter Try.func19, Try.ntmps19
    go_wp2
    go_ret
    exact ⟨by rw [e.out]; rfl, by go_grown⟩
  · have e := numL_big n hs
    have hlen := numL_len64 (n / 128) (by omega)
    have hroom : ¬ 9223372036854775807 < 1 + (numL (n / 128)).length := by omega
    have hc := ih (n / 128) (by omega) (by omega)
    clear ih
    obtain ⟨q, hq⟩ : ∃ q : Nat, q = n % 128 := ⟨_, rfl⟩
    obtain ⟨r, hr⟩ : ∃ r : Nat, r = q + 128 := ⟨_, rfl⟩
    have h1 : (n : Int).tmod 128 = q := by rw [IntWalk.rem_in _ _ (by omega)]; omega
    have h2 : IntKind.u64.wrap ((q : Int) + 128) = r := by rw [IntWalk.u64_in _ (by omega)]; omega
    have h3 : IntKind.u8.wrap (r : Int) = r := IntWalk.u8_in _ (by omega)
    have h4 : IntKind.u64.wrap ((n : Int) / 128) = ((n / 128 : Nat) : Int) := by rw [IntWalk.u64_in _ (by omega)]; omega
    generalize n / 128 = p at *
    replace hq := Lib.hid hq
    replace hr := Lib.hid hr
    replace e := Lib.hid e
    replace hn := Lib.hid hn
    replace hlen := Lib.hid hlen
    go_enter Try.func19, Try.ntmps19
    go_wp2
    go_region_with (go_at_call 19; (with_reducible refine (hc _).mono ?_); rintro e w1 ⟨rfl, hb⟩; (try (have hcv := conv_at w1 w.heap.size 1 _ ((hb.cell (p := ⟨w.heap.size, 0, none⟩) (by simp)).trans (newCell _ _ _ 0)))))
    all_goals go_wp2
    all_goals go_ret
    all_goals refine ⟨by rw [e.out, ← hq.out, ← hr.out]; rfl, ?_⟩
    all_goals first | exact ((((Below.refl _ _).alloc (Nat.le_refl _) _).drew.trans (hb.mono (by simp)))) | exact (((Below.refl _ w).drew.trans hb).alloc hb.size _)

theorem high_step (n k : Nat) (r : List UInt8) : beL k (n / 256) ++ UInt8.ofNat (n % 256) :: r = beL (k + 1) n ++ r := by
  have e : beL (k + 1) n = beL k (n / 256) ++ [UInt8.ofNat (n % 256)] := by
    unfold beL
    rw [List.range_succ, List.map_append]
    congr 1
    · apply List.map_congr_left
      intro i hi
      simp at hi
      have e1 : k + 1 - 1 - i = (k - 1 - i) + 1 := by omega
      rw [e1, Nat.pow_succ, Nat.mul_comm, ← Nat.div_div_eq_div_mul]
    · simp
  rw [e]; simp

theorem refText_any (l : List UInt8) (hl : l.length ≤ 300) (w : World) :
    Calls Try.prog 20 #[.string (str l)] w fun e w' => e = .returned (.string (str (numL l.length ++ l))) ∧ Below w.heap.size w w' := by
  have hc := fun w' => refNum_any l.length (by omega) w'
  have hw : IntKind.u64.wrap (l.length : Int) = l.length := IntWalk.u64_in _ (by omega)
  have hroom : ¬ 9223372036854775807 < (numL l.length).length + l.length := by have := numL_len64 l.length (by omega); omega
  replace hl := Lib.hid hl
  go_enter Try.func20, Try.ntmps20
  go_wp2_with (go_at_call 19; (with_reducible refine (hc _).mono ?_); rintro e w1 ⟨rfl, hb⟩)
  go_ret
  exact ⟨rfl, hb⟩
theorem text_list (l : List UInt8) (hl : l.length ≤ 300) (w : World) :
    Calls Try.prog 36 #[.string (str l)] w fun e w' => e = .returned (.string (str (numL l.length ++ l))) ∧ Below w.heap.size w w' := by
  have := text_any (str l) (by rw [str_size]; omega) w
  rwa [str_size, str_toList] at this
theorem and_32 (n : Nat) (hn : n < 18446744073709551616) : bits .and .u64 (n : Int) 4294967295 = ((n % 4294967296 : Nat) : Int) := by
  have := u64_and_nat n 4294967295 hn (by omega)
  rw [show ((4294967295 : Nat) : Int) = 4294967295 from rfl] at this
  rw [this, show (4294967295 : Nat) = 2 ^ 32 - 1 from rfl, Nat.and_two_pow_sub_one_eq_mod]

end Go.Proofs.Ytcdgnhhciccoeaa.code
