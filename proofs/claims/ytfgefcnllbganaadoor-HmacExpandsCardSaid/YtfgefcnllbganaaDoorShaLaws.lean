/- The sum of any bytes is the document's. The table of salts is a premise. No other condition. -/
import Derived.Test.YtfgefcnllbganaaDoorShaR4
import Derived.Lib.LaidTab
namespace Go.Proofs.YtfgefcnllbganaaDoor.sha
open Go.RowKit
attribute [local go_sem ↓] Go.wp_at_zero Go.wp_at_succ
set_option linter.unusedVariables false

theorem gTab : Tryd.prog.globalNamed "lodestone/sha.salts" = some 0 := by kernel_rfl
theorem gTabType : (Tryd.prog.globals[0]?).map (·.type) = some 49 := by kernel_rfl
theorem cellsTab : Tryd.prog.cellsOf 49 = 64 := by kernel_rfl
theorem cellsOne : Tryd.prog.cellsOf 38 = 1 := by kernel_rfl
def saltsI : List Int := salts.map fun (n : Nat) => Int.ofNat n
/-- what the row's list gives -/
theorem saltAt_of {W : World} (h : laidMetH Tryd.prog [("lodestone/sha.salts", Rows.laid_lodestone_sha_salts)] W) : SaltAt W salts := by
  have ht : Lib.TabIs Tryd.prog W "lodestone/sha.salts" .u32 saltsI := Lib.tabIs_of_head (rest := []) gTab gTabType Tryd.underlying49 Tryd.underlying38 cellsOne cellsTab h
  have hc : ∀ i, i < 64 → W.cell? ⟨0, i, none⟩ = some (.int .u32 ((salts.getD i 0 : Nat) : Int)) := fun i hi => by
    have h1 := ht.cell gTab i (by simp [saltsI, salts_len]; exact hi)
    have e : saltsI.getD i 0 = ((salts.getD i 0 : Nat) : Int) := by
      have : i < salts.length := by rw [salts_len]; exact hi
      simp [saltsI, List.getD, List.getElem?_eq_getElem this]
    rw [e] at h1; exact h1
  exact ⟨hc, World.block_lt_of_cell? W _ (hc 0 (by decide))⟩
theorem awake_any (w : World) (hT : SaltAt w salts) : Calls Tryd.prog 10 #[] w fun e w' => e = .returned (.bool true) ∧ Below w.heap.size w w' := by
  have h : Calls Tryd.prog 11 #[.string ⟨#[97, 98, 99]⟩] w fun e w' => e = .returned (.string (str [186, 120, 22, 191, 143, 1, 207, 234, 65, 65, 64, 222, 93, 174, 34, 35, 176, 3, 97, 163, 150, 23, 122, 156, 180, 16, 255, 97, 242, 0, 21, 173])) ∧ Below w.heap.size w w' := by
    rw [← known_abc]
    exact sum_any salts salts_small [97, 98, 99] (by decide) w hT
  have e : str [186, 120, 22, 191, 143, 1, 207, 234, 65, 65, 64, 222, 93, 174, 34, 35, 176, 3, 97, 163, 150, 23, 122, 156, 180, 16, 255, 97, 242, 0, 21, 173] = (⟨#[186, 120, 22, 191, 143, 1, 207, 234, 65, 65, 64, 222, 93, 174, 34, 35, 176, 3, 97, 163, 150, 23, 122, 156, 180, 16, 255, 97, 242, 0, 21, 173]⟩ : ByteArray) := rfl
  rw [e] at h
  clear hT e
  replace h := Lib.hid h
  go_enter Tryd.func10, Tryd.ntmps10
  go_wp2_with (go_at_call 11; (with_reducible refine h.out.mono ?_); rintro e w1 ⟨rfl, b1⟩; replace b1 := Lib.hid b1)
  go_ret
  exact ⟨rfl, b1.out⟩
set_option maxRecDepth 100000 in
theorem shaSums_walk (a0 : ByteArray) (w : World) (w0 : a0.size ≤ reachBytes) (hT : SaltAt w salts) :
    Calls Tryd.prog 3 #[.string a0] w fun e w' => e = .returned (.bool true) ∧ Below w.heap.size w w' := by
  clear w0
  obtain ⟨T, hTT⟩ : ∃ T : List UInt8, T = a0.data.toList.take 600 := ⟨_, rfl⟩
  have hx : a0.extract 0 600 = str T := by rw [hTT]; exact cut_text _ _
  have hx2 : a0.size ≤ 600 → a0.extract 0 a0.size = str T := by intro h; rw [hTT]; exact cut_whole _ _ h
  have hTl : T.length ≤ 600 := by rw [hTT, List.length_take]; omega
  clear hTT
  have hs := fun w' h => sum_any salts salts_small T (by omega) w' h
  have hr := fun w' => rsum_any T (by omega) w'
  obtain ⟨U, hU⟩ : ∃ U, U = str (shaB salts T) := ⟨_, rfl⟩
  have hUs : U.size = 32 := by rw [hU, str_size, shaB_len]
  rw [← hU] at hs hr
  obtain ⟨T0, hT0⟩ : ∃ X, X = str T := ⟨_, rfl⟩
  rw [← hT0] at hs hr hx hx2
  have hbb : Below w.heap.size w w := Below.refl _ _
  replace hbb := Lib.hid hbb
  replace hs := Lib.hid hs
  replace hr := Lib.hid hr
  replace hx := Lib.hid hx
  replace hx2 := Lib.hid hx2
  replace hT := Lib.hid hT
  clear hU hT0 hTl
  go_enter Tryd.func3, Tryd.ntmps3
  go_upto_region 1 with fail
  go_cut [3] from 4 (fun v wx => v = .string T0 ∧ wx = w)
  case first =>
    by_cases h : a0.size ≤ 600
    · have e := hx2.out h
      go_wp2
      go_meet
      case rel => exact ⟨rfl, rfl⟩
    · have e := hx.out
      go_wp2
      go_meet
      case rel => exact ⟨rfl, rfl⟩
  case rest =>
    obtain ⟨rfl, rfl⟩ := hcut
    go_wp2_with (first
      | (go_at_call 10; (with_reducible refine (awake_any _ (hT.out.keep hbb.out)).mono ?_); rintro e w1 ⟨rfl, b1⟩; replace hbb := Lib.hid (belowCont hbb.out b1))
      | (go_at_call 11; (with_reducible refine (hs.out _ (hT.out.keep hbb.out)).mono ?_); rintro e w1 ⟨rfl, b1⟩; replace hbb := Lib.hid (belowCont hbb.out b1))
      | (go_at_call 12; (with_reducible refine (hr.out _).mono ?_); rintro e w1 ⟨rfl, b1⟩; replace hbb := Lib.hid (belowCont hbb.out b1)))
    all_goals go_ret
    all_goals exact ⟨rfl, hbb.out⟩
end Go.Proofs.YtfgefcnllbganaaDoor.sha
