/- The law of indexes out of bytes, whole: for every slice and every string: schema.Get answers as the statement says. No condition. -/
import Derived.Test.YtmfodnbhhfegeaaSchema9
import Derived.Test.YtmfodnbhhfegeaaSchemaL
namespace Go.Proofs.Ytmfodnbhhfegeaa.schema
open Go.RowKit
theorem schemaGets_walk (a0 : Option Addr) (len0 cap0 : Nat) (a1 : ByteArray) (w : World) (w0 : SliceArg w a0 len0 3 (fun _ v => ∃ x, v = .int .i64 x ∧ (Lit.int .i64 x).wf = true)) (w1 : a1.size ≤ maxLen) :
    Calls Try.prog 8 #[.slice a0 len0 cap0, .string a1] w fun e w' => e = .returned (.bool true) ∧ Below w.heap.size w w' :=
  schemaGets_of get_any a0 len0 cap0 a1 w w0 w1
end Go.Proofs.Ytmfodnbhhfegeaa.schema
