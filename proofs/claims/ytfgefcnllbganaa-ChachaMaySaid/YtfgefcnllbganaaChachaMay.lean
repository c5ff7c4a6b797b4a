/- Keys and nonces of other lengths turn nothing. No condition. -/
import Derived.Test.YtfgefcnllbganaaChachaAwake
namespace Go.Proofs.Ytfgefcnllbganaa.chacha
open Go.RowKit
attribute [local go_sem ↓] Go.wp_at_zero Go.wp_at_succ
set_option linter.unusedVariables false

set_option maxRecDepth 100000 in
theorem chachaMay_walk (a0 a1 a2 : ByteArray) (w : World) (w0 : a0.size ≤ maxLen) (w1 : a1.size ≤ maxLen) (w2 : a2.size ≤ maxLen) :
    Calls Try.prog 5 #[.string a0, .string a1, .string a2] w fun e w' => e = .returned (.bool true) ∧ Below w.heap.size w w' := by
  clear w0 w1 w2
  obtain ⟨T, hT⟩ : ∃ T : List UInt8, T = a2.data.toList.take 200 := ⟨_, rfl⟩
  have hl : a2.data.toList.length = a2.size := by rw [Array.length_toList]; rfl
  have hx : a2.extract 0 200 = str T := by rw [hT]; exact cut_text _ _
  have hx2 : a2.size ≤ 200 → a2.extract 0 a2.size = str T := by intro h; rw [hT]; exact cut_whole _ _ h
  have hTl : T.length = min 200 a2.size := by rw [hT, List.length_take, hl]
  clear hT hl
  replace hx2 := Lib.hid hx2
  replace hTl := Lib.hid hTl
  have hbb : Below w.heap.size w w := Below.refl _ _
  replace hbb := Lib.hid hbb
  by_cases h : a0.size = 32 ∧ a1.size = 12
  · obtain ⟨h0, h1⟩ := h
    have ht := fun w' => turn_any a0 a1 T h0 h1 (by have := hTl.out; omega) w'
    have hm : ∀ w', Calls Try.prog 15 #[.string a0, .string a1] w' fun e w2 => e = .returned (.bool true) ∧ Below w'.heap.size w' w2 := fun w' => by
      have := may_any a0 a1 w'
      simpa [h0, h1] using this
    obtain ⟨U, hU⟩ : ∃ U, U = str (turnedL a0 a1 T T.length) := ⟨_, rfl⟩
    have hUl : U.size = min 200 a2.size := by rw [hU, str_size, turnedL_len]; exact hTl.out
    rw [← hU] at ht
    clear hU
    replace ht := Lib.hid ht
    replace hm := Lib.hid hm
    replace hUl := Lib.hid hUl
    by_cases hs : a2.size ≤ 200
    · have hUs : U.size = a2.size := by have := hUl.out; omega
      have e := hx2.out hs
      clear hx
      go_enter Try.func5, Try.ntmps5
      go_wp2_with (first | (go_at_call 13; (with_reducible refine (ht.out _).mono ?_); rintro e w1 ⟨rfl, b1⟩; replace hbb := Lib.hid (belowCont hbb.out b1)) | (go_at_call 8; (with_reducible refine (awake_any _).mono ?_); rintro e w1 ⟨rfl, b1⟩; replace hbb := Lib.hid (belowCont hbb.out b1)) | (go_at_call 15; (with_reducible refine (hm.out _).mono ?_); rintro e w1 ⟨rfl, b1⟩; replace hbb := Lib.hid (belowCont hbb.out b1)))
      all_goals go_ret
      all_goals exact ⟨rfl, hbb.out⟩
    · have hUs : U.size = 200 := by have := hUl.out; omega
      go_enter Try.func5, Try.ntmps5
      go_wp2_with (first | (go_at_call 13; (with_reducible refine (ht.out _).mono ?_); rintro e w1 ⟨rfl, b1⟩; replace hbb := Lib.hid (belowCont hbb.out b1)) | (go_at_call 8; (with_reducible refine (awake_any _).mono ?_); rintro e w1 ⟨rfl, b1⟩; replace hbb := Lib.hid (belowCont hbb.out b1)) | (go_at_call 15; (with_reducible refine (hm.out _).mono ?_); rintro e w1 ⟨rfl, b1⟩; replace hbb := Lib.hid (belowCont hbb.out b1)))
      all_goals go_ret
      all_goals exact ⟨rfl, hbb.out⟩
  · have ht := fun s w' => turn_none a0 a1 s h w'
    have hb := fun w' => block_none a0 a1 1 h w'
    have hm := fun w' => may_not a0 a1 h w'
    replace ht := Lib.hid ht
    replace hm := Lib.hid hm
    replace hb := Lib.hid hb
    have hI : ¬ ((a0.size : Int) = 32 ∧ (a1.size : Int) = 12) := by omega
    clear hx hx2 hTl h
    by_cases h0 : (a0.size : Int) = 32
    · have h1 : ¬ (a1.size : Int) = 12 := fun e => hI ⟨h0, e⟩
      have h1b : ((a1.size : Int) == 12) = false := by simpa using h1
      clear hI
      go_enter Try.func5, Try.ntmps5
      go_wp2_with (first | (go_at_call 13; (with_reducible refine (ht.out _ _).mono ?_); rintro e w1 ⟨rfl, b1⟩; replace hbb := Lib.hid (belowCont hbb.out b1)) | (go_at_call 8; (with_reducible refine (awake_any _).mono ?_); rintro e w1 ⟨rfl, b1⟩; replace hbb := Lib.hid (belowCont hbb.out b1)) | (go_at_call 15; (with_reducible refine (hm.out _).mono ?_); rintro e w1 ⟨rfl, b1⟩; replace hbb := Lib.hid (belowCont hbb.out b1)) | (go_at_call 9; (with_reducible refine (hb.out _).mono ?_); rintro e w1 ⟨rfl, b1⟩; replace hbb := Lib.hid (belowCont hbb.out b1)))
      all_goals go_ret
      all_goals exact ⟨rfl, hbb.out⟩
    · clear hI
      go_enter Try.func5, Try.ntmps5
      go_wp2_with (first | (go_at_call 13; (with_reducible refine (ht.out _ _).mono ?_); rintro e w1 ⟨rfl, b1⟩; replace hbb := Lib.hid (belowCont hbb.out b1)) | (go_at_call 8; (with_reducible refine (awake_any _).mono ?_); rintro e w1 ⟨rfl, b1⟩; replace hbb := Lib.hid (belowCont hbb.out b1)) | (go_at_call 15; (with_reducible refine (hm.out _).mono ?_); rintro e w1 ⟨rfl, b1⟩; replace hbb := Lib.hid (belowCont hbb.out b1)) | (go_at_call 9; (with_reducible refine (hb.out _).mono ?_); rintro e w1 ⟨rfl, b1⟩; replace hbb := Lib.hid (belowCont hbb.out b1)))
      all_goals go_ret
      all_goals exact ⟨rfl, hbb.out⟩
end Go.Proofs.Ytfgefcnllbganaa.chacha
