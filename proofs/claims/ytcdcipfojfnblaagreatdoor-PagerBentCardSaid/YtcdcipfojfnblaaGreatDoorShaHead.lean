/- The table of salts, laid ahead of other tables. No condition. -/
import Derived.Test.YtcdcipfojfnblaaGreatDoorMgShR
namespace Go.Proofs.YtcdcipfojfnblaaGreatDoor.sha
open Go.RowKit
set_option linter.unusedVariables false
set_option maxRecDepth 100000
theorem saltAt_head {W : World} (h : laidMetH Tryz.prog [("lodestone/sha.salts", Rows.laid_lodestone_sha_salts), ("unicode/utf8.acceptRanges", Rows.laid_unicode_utf8_acceptRanges), ("unicode/utf8.first", Rows.laid_unicode_utf8_first)] W) : SaltAt W salts := by
  have ht : Lib.TabIs Tryz.prog W "lodestone/sha.salts" .u32 saltsI := Lib.tabIs_of_head (rest := [("unicode/utf8.acceptRanges", Rows.laid_unicode_utf8_acceptRanges), ("unicode/utf8.first", Rows.laid_unicode_utf8_first)]) gTab gTabType Tryz.underlying189 Tryz.underlying42 cellsOne cellsTab h
  have hc : ∀ i, i < 64 → W.cell? ⟨0, i, none⟩ = some (.int .u32 ((salts.getD i 0 : Nat) : Int)) := fun i hi => by
    have h1 := ht.cell gTab i (by simp [saltsI, salts_len]; exact hi)
    have e : saltsI.getD i 0 = ((salts.getD i 0 : Nat) : Int) := by
      have : i < salts.length := by rw [salts_len]; exact hi
      simp [saltsI, List.getD, List.getElem?_eq_getElem this]
    rw [e] at h1; exact h1
  exact ⟨hc, World.block_lt_of_cell? W _ (hc 0 (by decide))⟩
end Go.Proofs.YtcdcipfojfnblaaGreatDoor.sha
