/- The sum of any bytes is the document's. The table of salts is a premise. No other condition. -/
import Derived.Test.YtebhdlecekjhgaaDoorShaR4
import Derived.Lib.LaidTab
namespace Go.Proofs.YtebhdlecekjhgaaDoor.sha
open Go.RowKit
attribute [local go_sem ↓] Go.wp_at_zero Go.wp_at_succ
set_option linter.unusedVariables false
set_option maxRecDepth 100000

theorem gTab : Tryd.prog.globalNamed "lodestone/sha.salts" = some 0 := by kernel_rfl
theorem gTabType : (Tryd.prog.globals[0]?).map (·.type) = some 105 := by kernel_rfl
theorem cellsTab : Tryd.prog.cellsOf 105 = 64 := by kernel_rfl
theorem cellsOne : Tryd.prog.cellsOf 26 = 1 := by kernel_rfl
def saltsI : List Int := salts.map fun (n : Nat) => Int.ofNat n
/-- what the row's list gives -/
theorem saltAt_of {W : World} (h : laidMetH Tryd.prog [("lodestone/sha.salts", Rows.laid_lodestone_sha_salts)] W) : SaltAt W salts := by
  have ht : Lib.TabIs Tryd.prog W "lodestone/sha.salts" .u32 saltsI := Lib.tabIs_of_head (rest := []) gTab gTabType Tryd.underlying105 Tryd.underlying26 cellsOne cellsTab h
  have hc : ∀ i, i < 64 → W.cell? ⟨0, i, none⟩ = some (.int .u32 ((salts.getD i 0 : Nat) : Int)) := fun i hi => by
    have h1 := ht.cell gTab i (by simp [saltsI, salts_len]; exact hi)
    have e : saltsI.getD i 0 = ((salts.getD i 0 : Nat) : Int) := by
      have : i < salts.length := by rw [salts_len]; exact hi
      simp [saltsI, List.getD, List.getElem?_eq_getElem this]
    rw [e] at h1; exact h1
  exact ⟨hc, World.block_lt_of_cell? W _ (hc 0 (by decide))⟩
theorem awake_any (w : World) (hT : SaltAt w salts) : Calls Tryd.prog 8 #[] w fun e w' => e = .returned (.bool true) ∧ Below w.heap.size w w' := by
  have h : Calls Tryd.prog 10 #[.string ⟨#[97, 98, 99]⟩] w fun e w' => e = .returned (.string (str [186, 120, 22, 191, 143, 1, 207, 234, 65, 65, 64, 222, 93, 174, 34, 35, 176, 3, 97, 163, 150, 23, 122, 156, 180, 16, 255, 97, 242, 0, 21, 173])) ∧ Below w.heap.size w w' := by
    rw [← known_abc]
    exact sum_any salts salts_small [97, 98, 99] (by decide) w hT
  have e : str [186, 120, 22, 191, 143, 1, 207, 234, 65, 65, 64, 222, 93, 174, 34, 35, 176, 3, 97, 163, 150, 23, 122, 156, 180, 16, 255, 97, 242, 0, 21, 173] = (⟨#[186, 120, 22, 191, 143, 1, 207, 234, 65, 65, 64, 222, 93, 174, 34, 35, 176, 3, 97, 163, 150, 23, 122, 156, 180, 16, 255, 97, 242, 0, 21, 173]⟩ : ByteArray) := rfl
  rw [e] at h
  clear hT e
  replace h := Lib.hid h
  go_enter Tryd.func8, Tryd.ntmps8
  go_wp2_with (go_at_call 10; (with_reducible refine h.out.mono ?_); rintro e w1 ⟨rfl, b1⟩; replace b1 := Lib.hid b1)
  go_ret
  exact ⟨rfl, b1.out⟩
end Go.Proofs.YtebhdlecekjhgaaDoor.sha
