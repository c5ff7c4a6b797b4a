/- The tag of any bytes under any key is the document's. The table of salts is a premise. No other condition. -/
import Derived.Test.YtfgefcnllbganaaDoorHmac3
namespace Go.Proofs.YtfgefcnllbganaaDoor.sha
open Go.RowKit
attribute [local go_sem ↓] Go.wp_at_zero Go.wp_at_succ
set_option linter.unusedVariables false

set_option maxRecDepth 100000 in
theorem known_tag : tagL [] [] = [182, 19, 103, 154, 8, 20, 217, 236, 119, 47, 149, 215, 120, 195, 95, 197, 255, 22, 151, 196, 147, 113, 86, 83, 198, 199, 18, 20, 66, 146, 197, 173] := by decide +kernel
theorem hawake_any (w : World) (hT : SaltAt w salts) : Calls Tryd.prog 14 #[] w fun e w' => e = .returned (.bool true) ∧ Below w.heap.size w w' := by
  have h : Calls Tryd.prog 15 #[.string ⟨#[]⟩, .string ⟨#[]⟩] w fun e w' => e = .returned (.string (str [182, 19, 103, 154, 8, 20, 217, 236, 119, 47, 149, 215, 120, 195, 95, 197, 255, 22, 151, 196, 147, 113, 86, 83, 198, 199, 18, 20, 66, 146, 197, 173])) ∧ Below w.heap.size w w' := by
    rw [← known_tag]
    exact tag_any [] [] (by decide) (by decide) w hT
  have e : str [182, 19, 103, 154, 8, 20, 217, 236, 119, 47, 149, 215, 120, 195, 95, 197, 255, 22, 151, 196, 147, 113, 86, 83, 198, 199, 18, 20, 66, 146, 197, 173] = (⟨#[182, 19, 103, 154, 8, 20, 217, 236, 119, 47, 149, 215, 120, 195, 95, 197, 255, 22, 151, 196, 147, 113, 86, 83, 198, 199, 18, 20, 66, 146, 197, 173]⟩ : ByteArray) := rfl
  rw [e] at h
  clear hT e
  replace h := Lib.hid h
  go_enter Tryd.func14, Tryd.ntmps14
  go_wp2_with (go_at_call 15; (with_reducible refine h.out.mono ?_); rintro e w1 ⟨rfl, b1⟩; replace b1 := Lib.hid b1)
  go_ret
  exact ⟨rfl, b1.out⟩
theorem cut_min (s : ByteArray) (k : Nat) : s.extract 0 (min (s.size : Int) k).toNat = str (s.data.toList.take k) := by
  by_cases h : s.size ≤ k
  · rw [show (min (s.size : Int) k).toNat = s.size by omega]; exact cut_whole s k h
  · rw [show (min (s.size : Int) k).toNat = k by omega]; exact cut_text s k
set_option maxRecDepth 100000 in
set_option maxHeartbeats 1000000 in
theorem hmacTags_walk (a0 a1 : ByteArray) (w : World) (w0 : a0.size ≤ reachBytes) (w1 : a1.size ≤ reachBytes) (hT : SaltAt w salts) :
    Calls Tryd.prog 6 #[.string a0, .string a1] w fun e w' => e = .returned (.bool true) ∧ Below w.heap.size w w' := by
  clear w0 w1
  have hk : a0.extract 0 (min (a0.size : Int) 200).toNat = str (a0.data.toList.take 200) := cut_min a0 200
  have ht : a1.extract 0 (min (a1.size : Int) 300).toNat = str (a1.data.toList.take 300) := cut_min a1 300
  obtain ⟨k, hk0⟩ : ∃ k, k = a0.data.toList.take 200 := ⟨_, rfl⟩
  obtain ⟨t, ht0⟩ : ∃ k, k = a1.data.toList.take 300 := ⟨_, rfl⟩
  have hkl : k.length ≤ 200 := by rw [hk0, List.length_take]; omega
  have htl : t.length ≤ 300 := by rw [ht0, List.length_take]; omega
  rw [← hk0] at hk
  rw [← ht0] at ht
  have c1 := fun w' h => tag_any k t (by omega) (by omega) w' h
  have c2 := fun w' h => extract_any k t (by omega) (by omega) w' h
  have c3 := fun w' => rtag_any k t (by omega) (by omega) w'
  obtain ⟨K0, hK0⟩ : ∃ X, X = str k := ⟨_, rfl⟩
  obtain ⟨T0, hT0⟩ : ∃ X, X = str t := ⟨_, rfl⟩
  obtain ⟨R0, hR0⟩ : ∃ X, X = str (tagL k t) := ⟨_, rfl⟩
  rw [← hK0, ← hT0, ← hR0] at c1 c2 c3
  rw [← hK0] at hk
  rw [← hT0] at ht
  have b1 : (0 : Int) ≤ min (a0.size : Int) 200 := by omega
  have b2 : min (a0.size : Int) 200 ≤ (a0.size : Int) := by omega
  have b3 : (0 : Int) ≤ min (a1.size : Int) 300 := by omega
  have b4 : min (a1.size : Int) 300 ≤ (a1.size : Int) := by omega
  have hbb : Below w.heap.size w w := Below.refl _ _
  replace hbb := Lib.hid hbb
  replace c1 := Lib.hid c1; replace c2 := Lib.hid c2; replace c3 := Lib.hid c3; replace hT := Lib.hid hT
  clear hk0 ht0 hkl htl hK0 hT0 hR0
  go_enter Tryd.func6, Tryd.ntmps6
  go_upto_region 1 with fail
  go_cut [5, 6] from 7 (fun p q wx => p = .string K0 ∧ q = .string T0 ∧ wx = w.drew)
  case first =>
    refine wp_region_still_lit (by kernel_rfl) (by kernel_rfl) ?_
    change wpStill _ _ w.drew _ _ _
    repeat still_step
    refine wpStill_nil ?_
    go_wp2_with fail
    go_meet
    exact ⟨by first | rfl | rw [hk], by first | rfl | rw [ht], rfl⟩
  case rest =>
  obtain ⟨rfl, rfl, rfl⟩ := hcut
  replace hbb := Lib.hid hbb.out.drew
  go_wp2_with (first
    | (go_at_call 14; (with_reducible refine (hawake_any _ (hT.out.keep hbb.out)).mono ?_); rintro e w1 ⟨rfl, b1⟩; replace hbb := Lib.hid (belowCont hbb.out b1))
    | (go_at_call 15; (try rw [hk, ht]); (with_reducible refine (c1.out _ (hT.out.keep hbb.out)).mono ?_); rintro e w1 ⟨rfl, b1⟩; replace hbb := Lib.hid (belowCont hbb.out b1))
    | (go_at_call 17; (try rw [hk, ht]); (with_reducible refine (c2.out _ (hT.out.keep hbb.out)).mono ?_); rintro e w1 ⟨rfl, b1⟩; replace hbb := Lib.hid (belowCont hbb.out b1))
    | (go_at_call 16; (try rw [hk, ht]); (with_reducible refine (c3.out _).mono ?_); rintro e w1 ⟨rfl, b1⟩; replace hbb := Lib.hid (belowCont hbb.out b1)))
  all_goals go_ret
  all_goals exact ⟨rfl, hbb.out⟩
end Go.Proofs.YtfgefcnllbganaaDoor.sha
