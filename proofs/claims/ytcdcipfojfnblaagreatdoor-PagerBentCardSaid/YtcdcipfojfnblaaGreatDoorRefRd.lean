/- The document's reader (lodestoneref04.R): bytes and numbers of a fixed width, where there are enough. No condition. -/
import Derived.Test.YtcdcipfojfnblaaGreatDoorHp
import Derived.Test.YtcdcipfojfnblaaGreatDoorBytes2
import Derived.Test.YtcdcipfojfnblaaGreatDoorCodeBig
import Derived.Laws.Rows
import Derived.Deep.DeepCutAuto
namespace Go.Proofs.YtcdcipfojfnblaaGreatDoor.code
open Go.RowKit
attribute [local go_sem ↓] Go.wp_at_zero Go.wp_at_succ
attribute [local go_sem] str_size
set_option linter.unusedVariables false
set_option maxRecDepth 100000

theorem beNat_take (l : List UInt8) (i : Nat) (h : i < l.length) : beNat (l.take (i + 1)) = beNat (l.take i) * 256 + (l[i]).toNat := by
  rw [List.take_succ_eq_append_getElem h, beNat_snoc]
end Go.Proofs.YtcdcipfojfnblaaGreatDoor.code
