/- The first thing that each law of package code asks: 300 and a text, put and read again. No condition. -/
import Derived.Test.YtfgefcnllbganaaCode
namespace Go.Proofs.Ytfgefcnllbganaa.code
open Go.RowKit
attribute [local go_sem ↓] Go.wp_at_zero Go.wp_at_succ
attribute [local go_sem] str_bl str_size str_get0
set_option linter.unusedVariables false

theorem numL_300 : numL 300 = [172, 2] := by rw [numL_big 300 (by decide), numL_small _ (by decide)]; rfl
theorem numL_2 : numL 2 = [2] := by rw [numL_small _ (by decide)]; rfl
theorem awake_any (w : World) : Calls Try.prog 16 #[] w fun e w' => e = .returned (.bool true) ∧ Below w.heap.size w w' := by
  have hn : ∀ w', Calls Try.prog 17 #[.int .u64 300] w' fun e w2 => e = .returned (.string (str [172, 2])) ∧ Below w'.heap.size w' w2 := fun w' => numL_300 ▸ num_any 300 (by omega) w'
  have ht : ∀ w', Calls Try.prog 22 #[.string ⟨#[97, 98]⟩] w' fun e w2 => e = .returned (.string (str [2, 97, 98])) ∧ Below w'.heap.size w' w2 := fun w' => by
    have h : Calls Try.prog 22 #[.string ⟨#[97, 98]⟩] w' fun e w2 => e = .returned (.string (str (numL 2 ++ [97, 98]))) ∧ Below w'.heap.size w' w2 := text_any ⟨#[97, 98]⟩ (by decide) w'
    rw [numL_2] at h; exact h
  have e1 : str [172, 2] ++ str [2, 97, 98] = str [172, 2, 2, 97, 98] := str_append _ _
  have t1 : takeNum 300 [172, 2, 2, 97, 98] = (300, [2, 97, 98], 0) := by have := takeNum_numL 300 300 [2, 97, 98] (by omega) (by omega); rw [numL_300] at this; exact this
  have t2 : takeText 2 [2, 97, 98] = ([97, 98], [], 0) := by have := takeText_put [97, 98] [] 2 (by decide) (by decide); rw [show ([97, 98] : List UInt8).length = 2 from rfl, numL_2] at this; exact this
  have c1 : ∀ w' g, RdAt w' g [172, 2, 2, 97, 98] 0 → Calls Try.prog 27 #[.pointer (some ⟨g, 0, none⟩), .int .u64 300] w' fun e w2 => e = .returned (.int .u64 300) ∧ RdAt w2 g [2, 97, 98] 0 ∧ Keeps [g] w' w2 := fun w' g h => by
    have := takeNum_any h 300 (by omega); rw [t1] at this; exact this
  have c2 : ∀ w' g, RdAt w' g [2, 97, 98] 0 → Calls Try.prog 28 #[.pointer (some ⟨g, 0, none⟩), .int .i64 2] w' fun e w2 => e = .returned (.string (str [97, 98])) ∧ RdAt w2 g [] 0 ∧ Keeps [g] w' w2 := fun w' g h => by
    have := takeText_any h 2 (by omega); rw [t2] at this; exact this
  have c3 : ∀ w' g, RdAt w' g [] 0 → Calls Try.prog 31 #[.pointer (some ⟨g, 0, none⟩)] w' fun e w2 => e = .returned (.int .i64 0) ∧ Keeps [g] w' w2 := fun w' g h => end_any h
  clear t1 t2
  replace c1 := Lib.hid c1
  replace c2 := Lib.hid c2
  replace c3 := Lib.hid c3
  have hbb : Below w.heap.size w w := Below.refl _ _
  go_enter Try.func16, Try.ntmps16
  go_wp2_with (first | (go_at_call 17; (with_reducible refine (hn _).mono ?_); rintro e w1 ⟨rfl, b1⟩; replace hbb := belowCont hbb b1) | (go_at_call 22; (with_reducible refine (ht _).mono ?_); rintro e w2 ⟨rfl, b2⟩; replace hbb := belowCont hbb b2) | (go_at_call 26; (with_reducible refine (read_any _ _).mono ?_); rintro e w3 ⟨rfl, h3, b3⟩; replace h3 := Lib.hid h3; have hg := hbb.size; replace hbb := belowCont hbb b3) | (go_at_call 27; (with_reducible refine ((c1.out _ _ (h3.out.below (by assumption)))).mono ?_); rintro e w5 ⟨rfl, h5, k5⟩; replace h5 := Lib.hid h5; replace hbb := belowKeeps hbb k5 (by simpa using hg)) | (go_at_call 28; (with_reducible refine ((c2.out _ _ h5.out)).mono ?_); rintro e w6 ⟨rfl, h6, k6⟩; replace h6 := Lib.hid h6; replace hbb := belowKeeps hbb k6 (by simpa using hg)) | (go_at_call 31; (with_reducible refine ((c3.out _ _ h6.out)).mono ?_); rintro e w7 ⟨rfl, k7⟩; replace hbb := belowKeeps hbb k7 (by simpa using hg)))
  go_ret
  exact ⟨rfl, hbb⟩
end Go.Proofs.Ytfgefcnllbganaa.code
