/- The law ShowReplies over a reply as it came in. The table of powers of ten is a premise. -/
import Derived.Test.YtgbkpkioijbgoaaDoorShowL
namespace Go.Proofs.YtgbkpkioijbgoaaDoor.show
open Go.RowKit
set_option linter.unusedVariables false
theorem showReplies_walk (er id : Int) (vi vn vr : Value) (a1 : Int) (a2 : Bool) (w : World) (wfe : (Lit.int .i64 er).wf = true) (wfi : (Lit.int .u64 id).wf = true) (sI : SlV w 1 qU64 vi) (sN : SlV w 7 (qInfo w) vn) (sR : SlV w 1 (qRow w) vr) (w1 : (Lit.int .i64 a1).wf = true) (hT : Tab w) :
    Calls Tryd.prog 5 #[.agg #[.int .i64 er, .int .u64 id, vi, vn, vr], .int .i64 a1, .bool a2] w fun e w' => e = .returned (.bool true) ∧ Below w.heap.size w w' := by
  obtain ⟨ia, ids, ic, rfl, hi, hI⟩ := slv_nums sI
  obtain ⟨na, ins, nc, rfl, hn, hN⟩ := slv_infos sN
  obtain ⟨ra, rows, rc, rfl, hr, hR⟩ := slv_rows sR
  exact showReplies_core er id a1 a2 ids ins rows ia ic na nc ra rc w hT (wf_u64 wfi) hi hn hr hI hN hR
end Go.Proofs.YtgbkpkioijbgoaaDoor.show
