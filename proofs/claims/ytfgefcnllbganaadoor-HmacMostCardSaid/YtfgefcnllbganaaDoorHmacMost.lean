/- So many bytes there are at most. The table of salts is a premise. No other condition. -/
import Derived.Test.YtfgefcnllbganaaDoorHmac4
import Derived.Test.YtfgefcnllbganaaDoorHmacTags
namespace Go.Proofs.YtfgefcnllbganaaDoor.sha
open Go.RowKit
attribute [local go_sem ↓] Go.wp_at_zero Go.wp_at_succ
set_option linter.unusedVariables false

set_option maxRecDepth 100000 in
set_option maxHeartbeats 1000000 in
theorem hmacMost_walk (a0 : Int) (w : World) (w0 : (Lit.int .i64 a0).wf = true) (hT : SaltAt w salts) :
    Calls Tryd.prog 8 #[.int .i64 a0] w fun e w' => e = .returned (.bool true) ∧ Below w.heap.size w w' := by
  clear w0
  have hand := and_1023 a0
  obtain ⟨z, hz, hz2⟩ : ∃ z : Nat, a0 % 1024 = (z : Int) ∧ z < 1024 := ⟨(a0 % 1024).toNat, by omega, by omega⟩
  rw [hz] at hand
  have f1 : IntKind.i64.wrap (-1 - (z : Int)) = -1 - (z : Int) := by rw [IntKind.wrap_i64]; omega
  have f2 : IntKind.i64.wrap (8161 + (z : Int)) = 8161 + (z : Int) := by rw [IntKind.wrap_i64]; omega
  have c1 := fun w' => expand_bad ⟨#[107, 101, 121]⟩ ⟨#[]⟩ (-1 - (z : Int)) (by omega) w'
  have c2 := fun w' => expand_bad ⟨#[107, 101, 121]⟩ ⟨#[]⟩ (8161 + (z : Int)) (by omega) w'
  obtain ⟨U, hU⟩ : ∃ U, U = str ((allK [107, 101, 121] [] ((8160 + 31) / 32)).take 8160) := ⟨_, rfl⟩
  have hUs : U.size = 8160 := by rw [hU, str_size, List.length_take, allK_len]; decide
  have c3 : ∀ w', SaltAt w' salts → Calls Tryd.prog 18 #[.string ⟨#[107, 101, 121]⟩, .string ⟨#[]⟩, .int .i64 8160] w' fun e w2 => e = .returned (.tuple #[.string U, .int .i64 0]) ∧ Below w'.heap.size w' w2 := fun w' h => by
    rw [hU]; exact expand_any [107, 101, 121] [] 8160 (by decide) (by decide) (by decide) w' h
  clear hU hz hz2
  have hbb : Below w.heap.size w w := Below.refl _ _
  replace hbb := Lib.hid hbb
  replace c1 := Lib.hid c1; replace c2 := Lib.hid c2; replace c3 := Lib.hid c3; replace hT := Lib.hid hT
  go_enter Tryd.func8, Tryd.ntmps8
  go_wp2_with (first
    | (go_at_call 18; (with_reducible refine (c1.out _).mono ?_); rintro e w1 ⟨rfl, b1⟩; replace hbb := Lib.hid (belowCont hbb.out b1))
    | (go_at_call 18; (with_reducible refine (c2.out _).mono ?_); rintro e w1 ⟨rfl, b1⟩; replace hbb := Lib.hid (belowCont hbb.out b1))
    | (go_at_call 18; (with_reducible refine (c3.out _ (hT.out.keep hbb.out)).mono ?_); rintro e w1 ⟨rfl, b1⟩; replace hbb := Lib.hid (belowCont hbb.out b1))
    | (go_at_call 14; (with_reducible refine (hawake_any _ (hT.out.keep hbb.out)).mono ?_); rintro e w1 ⟨rfl, b1⟩; replace hbb := Lib.hid (belowCont hbb.out b1)))
  all_goals go_ret
  all_goals exact ⟨rfl, hbb.out⟩
end Go.Proofs.YtfgefcnllbganaaDoor.sha
