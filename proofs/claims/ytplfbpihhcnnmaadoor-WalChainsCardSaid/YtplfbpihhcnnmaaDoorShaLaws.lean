/- The sum of any bytes is the document's. The table of salts is a premise. No other condition. -/
import Derived.Test.YtplfbpihhcnnmaaDoorShaR4
import Derived.Lib.LaidTab
namespace Go.Proofs.YtplfbpihhcnnmaaDoor.sha
open Go.RowKit
attribute [local go_sem ↓] Go.wp_at_zero Go.wp_at_succ
set_option linter.unusedVariables false
set_option maxRecDepth 100000

theorem gTab : Tryd.prog.globalNamed "lodestone/sha.salts" = some 1 := by kernel_rfl
theorem gTabType : (Tryd.prog.globals[1]?).map (·.type) = some 191 := by kernel_rfl
theorem cellsTab : Tryd.prog.cellsOf 191 = 64 := by kernel_rfl
theorem cellsOne : Tryd.prog.cellsOf 111 = 1 := by kernel_rfl
def saltsI : List Int := salts.map fun (n : Nat) => Int.ofNat n
/-- what the row's list gives -/
theorem saltAt_of {W : World} (h : laidMetH Tryd.prog [("lodestone/sha.salts", Rows.laid_lodestone_sha_salts)] W) : SaltAt W salts := by
  have ht : Lib.TabIs Tryd.prog W "lodestone/sha.salts" .u32 saltsI := Lib.tabIs_of_head (rest := []) gTab gTabType Tryd.underlying191 Tryd.underlying111 cellsOne cellsTab h
  have hc : ∀ i, i < 64 → W.cell? ⟨1, i, none⟩ = some (.int .u32 ((salts.getD i 0 : Nat) : Int)) := fun i hi => by
    have h1 := ht.cell gTab i (by simp [saltsI, salts_len]; exact hi)
    have e : saltsI.getD i 0 = ((salts.getD i 0 : Nat) : Int) := by
      have : i < salts.length := by rw [salts_len]; exact hi
      simp [saltsI, List.getD, List.getElem?_eq_getElem this]
    rw [e] at h1; exact h1
  exact ⟨hc, World.block_lt_of_cell? W _ (hc 0 (by decide))⟩
end Go.Proofs.YtplfbpihhcnnmaaDoor.sha
