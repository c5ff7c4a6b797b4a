/- How long a builder's text is. No condition but the builder. -/
import Derived.Test.YtcdgnhhciccoeaaDoorBuild
namespace Go.Proofs.YtcdgnhhciccoeaaDoor.build
open Go.RowKit
set_option linter.unusedVariables false
set_option maxRecDepth 100000

theorem blen (b : Nat) (l : List UInt8) (w : World) (h : Bu b l w) :
    Calls Tryd.prog 34 #[.pointer (some ⟨b, 0, none⟩)] w fun e w' => e = .returned (.int .i64 l.length) ∧ w' = w := by
  refine (Tryd.Builder_Len_f b b (Lib.byteCells l) w h).mono ?_
  rintro e w' ⟨rfl, rfl⟩
  exact ⟨by simp [Lib.byteCells], rfl⟩
end Go.Proofs.YtcdgnhhciccoeaaDoor.build
