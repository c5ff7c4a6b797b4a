/- The tables that questions are read by, as the program lays them; the law QueryMost over them. -/
import Derived.Test.YtgbkpkioijbgoaaDoorQryZ
import Derived.Stop.LaidErr
import Derived.Lib.LaidTab
namespace Go.Proofs.YtgbkpkioijbgoaaDoor.qry
open Go.RowKit
open lex (texts_of marksL marksNamed marksType cellsMarks cellsStr MarksAt)
set_option linter.unusedVariables false
set_option maxRecDepth 100000
theorem opsNamed : Tryd.prog.globalNamed "lodestone/query.ops" = some 2 := by kernel_rfl
theorem opsType : (Tryd.prog.globals[2]?).map (·.type) = some 160 := by kernel_rfl
theorem cellsOps : Tryd.prog.cellsOf 160 = 6 := by kernel_rfl
theorem plainNamed : Tryd.prog.globalNamed "lodestone/query.plain" = some 3 := by kernel_rfl
theorem plainType : (Tryd.prog.globals[3]?).map (·.type) = some 161 := by kernel_rfl
theorem cellsPlain : Tryd.prog.cellsOf 161 = 3 := by kernel_rfl
theorem tabs_of {W : World} (h : laidMetH Tryd.prog [("lodestone/lex.marks", Rows.laid_lodestone_lex_marks), ("lodestone/query.ops", Rows.laid_lodestone_query_ops), ("lodestone/query.plain", Rows.laid_lodestone_query_plain)] W) : Tabs W := by
  have h2 : laidMet Tryd.prog [("lodestone/lex.marks", Rows.laid_lodestone_lex_marks), ("lodestone/query.ops", Rows.laid_lodestone_query_ops), ("lodestone/query.plain", Rows.laid_lodestone_query_plain)] W := h
  have h3 := h2.tail
  have h4 := h3.tail
  refine ⟨?_, ?_, ?_⟩
  · obtain ⟨ps, ⟨g', t', cs, fuel, p, q, hg', ht', hvar, hd, _, _⟩, _⟩ := h2
    obtain rfl := Option.some.inj (marksNamed.symm.trans hg')
    obtain rfl := Option.some.inj (marksType.symm.trans ht')
    have hall := texts_of (zs := marksL) Tryd.underlying144 Tryd.underlying9 cellsStr cellsMarks hd
    have hcell : ∀ i m, marksL[i]? = some m → W.cell? ⟨0, i, none⟩ = some (.string (str m)) := fun i m hm => by
      have := World.var?_cell marksNamed hvar i
      rw [this]
      simpa using hall i m hm
    exact ⟨hcell, World.block_lt_of_cell? W _ (hcell 0 _ rfl)⟩
  · obtain ⟨ps, ⟨g', t', cs, fuel, p, q, hg', ht', hvar, hd, _, _⟩, _⟩ := h4
    obtain rfl := Option.some.inj (plainNamed.symm.trans hg')
    obtain rfl := Option.some.inj (plainType.symm.trans ht')
    have hall := texts_of (zs := plainL) Tryd.underlying161 Tryd.underlying9 cellsStr cellsPlain hd
    have hcell : ∀ i m, plainL[i]? = some m → W.cell? ⟨3, i, none⟩ = some (.string (str m)) := fun i m hm => by
      have := World.var?_cell plainNamed hvar i
      rw [this]
      simpa using hall i m hm
    exact ⟨World.block_lt_of_cell? W _ (hcell 0 _ rfl), hcell⟩
  · obtain ⟨ps, ⟨g', t', cs, fuel, p, q, hg', ht', hvar, hd, _, _⟩, _⟩ := h3
    obtain rfl := Option.some.inj (opsNamed.symm.trans hg')
    obtain rfl := Option.some.inj (opsType.symm.trans ht')
    have hall := texts_of (zs := opsL) Tryd.underlying160 Tryd.underlying9 cellsStr cellsOps hd
    have hcell : ∀ i m, opsL[i]? = some m → W.cell? ⟨2, i, none⟩ = some (.string (str m)) := fun i m hm => by
      have := World.var?_cell opsNamed hvar i
      rw [this]
      simpa using hall i m hm
    exact ⟨World.block_lt_of_cell? W _ (hcell 0 _ rfl), hcell⟩
end Go.Proofs.YtgbkpkioijbgoaaDoor.qry
