/- Any block of any key and nonce is the document's; any bytes turned are the document's, and turned again what they were. No condition. -/
import Derived.Test.YtdhboldmffiklabDoorChachaAwake
import Derived.Test.YtdhboldmffiklabDoorChaRef4
namespace Go.Proofs.YtdhboldmffiklabDoor.chacha
open Go.RowKit
attribute [local go_sem ↓] Go.wp_at_zero Go.wp_at_succ
set_option linter.unusedVariables false
set_option maxRecDepth 100000

def keyOf (s : ByteArray) : ByteArray := (s ++ ⟨#[48, 49, 50, 51, 52, 53, 54, 55, 56, 57, 97, 98, 99, 100, 101, 102, 48, 49, 50, 51, 52, 53, 54, 55, 56, 57, 97, 98, 99, 100, 101, 102]⟩).extract 0 32
def nonceOf (s : ByteArray) : ByteArray := (s ++ ⟨#[48, 49, 50, 51, 52, 53, 54, 55, 56, 57, 97, 98]⟩).extract 0 12
theorem keyOf_size (s : ByteArray) : (keyOf s).size = 32 := by
  unfold keyOf
  rw [ByteArray.size_extract, ByteArray.size_append]
  show min 32 (s.size + 32) - 0 = 32
  omega
theorem nonceOf_size (s : ByteArray) : (nonceOf s).size = 12 := by
  unfold nonceOf
  rw [ByteArray.size_extract, ByteArray.size_append]
  show min 12 (s.size + 12) - 0 = 12
  omega
end Go.Proofs.YtdhboldmffiklabDoor.chacha
