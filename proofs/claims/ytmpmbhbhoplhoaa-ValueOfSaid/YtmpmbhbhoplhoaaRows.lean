/-
  No cell of these rows narrows 'for every input' (looked for: loops, veiled, ifaces, maps, wideKeys, modest, calm, conditions, laid).
  DERIVED. THE GIVEN ROWS OF THIS SEAT. 5 by the template 'for every input the law returns true; each argument reads behind the call as it read before'; 0 by the template 'total and deterministic' (their statements: YtmpmbhbhoplhoaaTotals.lean).
  GIVEN WITH THE SEED: the statements are not yours to turn. If you find one false, say at which input.
  Laid BY PROGRAM, IN A SANDBOX (cutbox-rows.mjs): the forced cells as the released guide's own fill.sh prints them over the translation 136e31ec74c163c3… (all of the seat's roots in one cut). By AI agents, Wed Nov 11 2026. No macro, syntax, notation, axiom, sorry.
-/
import Derived.Test.YtmpmbhbhoplhoaaChecked
import GoSem.Claim
import GoSem.ClaimJoined
import GoSem.ClaimMapViews
import Derived.JoinedTies
import Derived.KernelRfl
namespace Go.Proofs.Ytmpmbhbhoplhoaa
/- THE CELL 'sum', in the pinned program and in every row, IS THE sha256 OF THE DUMP (.gsa) THAT YtmpmbhbhoplhoaaProg.lean LOADS. Nothing in Lean hashes anything: it is a label: what it is worth is what the hold of that sum in a sandbox is worth. -/
noncomputable def Try.pinned : Pinned := { name := "ytmpmbhbhoplhoaa", sum := "136e31ec74c163c3ca8cbbd6ef13da650451e32c42328c2cde393b4871ce9777", checked := Try.checked }
namespace Rows
def none {H : Type} : Left H := { results := [], args := [] }

/-- 'lodestonelaw23.ValueOf': WHATEVER THE INPUT: true; the input reads as it did. -/
def valueOfSpec : ChangeSpec := { name := "valueOf", fn := fun _ => fun
  | [d1, d2, d3] => { results := [.lit (.bool true)], args := [d1, d2, d3] }
  | _ => none }
def valueOfRow : OpenClaim := { program := "ytmpmbhbhoplhoaa", sum := "136e31ec74c163c3ca8cbbd6ef13da650451e32c42328c2cde393b4871ce9777", func := "lodestone/lodestonelaw23.ValueOf", spec := "valueOf", apart := false }
def ValueOfSaid : Prop := valueOfRow.holds Try.pinned (OpenSpec.ofChange valueOfSpec)

/-- ITS FALSE NEIGHBOUR: 'it returns false'. Refute it at one input. -/
def valueOfWrong : ChangeSpec := { name := "valueOf", fn := fun _ => fun
  | [d1, d2, d3] => { results := [.lit (.bool false)], args := [d1, d2, d3] }
  | _ => none }
def ValueOfWrongFalsely : Prop := valueOfRow.holds Try.pinned (OpenSpec.ofChange valueOfWrong)

/-- 'lodestonelaw08.DeviceInput': WHATEVER THE INPUT: true; the input reads as it did. -/
def deviceInputSpec : ChangeSpec := { name := "deviceInput", fn := fun _ => fun
  | [d1, d2] => { results := [.lit (.bool true)], args := [d1, d2] }
  | _ => none }
def deviceInputRow : OpenClaim := { program := "ytmpmbhbhoplhoaa", sum := "136e31ec74c163c3ca8cbbd6ef13da650451e32c42328c2cde393b4871ce9777", func := "lodestone/lodestonelaw08.DeviceInput", spec := "deviceInput", inPlace := ["internal/abi.NoEscape", "internal/bytealg.MakeNoZero"], apart := false }
def DeviceInputSaid : Prop := deviceInputRow.holds Try.pinned (OpenSpec.ofChange deviceInputSpec)

/-- ITS FALSE NEIGHBOUR: 'it returns false'. Refute it at one input. -/
def deviceInputWrong : ChangeSpec := { name := "deviceInput", fn := fun _ => fun
  | [d1, d2] => { results := [.lit (.bool false)], args := [d1, d2] }
  | _ => none }
def DeviceInputWrongFalsely : Prop := deviceInputRow.holds Try.pinned (OpenSpec.ofChange deviceInputWrong)

/-- 'lodestonelaw07.DiskNone': WHATEVER THE INPUT: true; the input reads as it did. -/
def diskNoneSpec : ChangeSpec := { name := "diskNone", fn := fun _ => fun
  | [d1, d2] => { results := [.lit (.bool true)], args := [d1, d2] }
  | _ => none }
def diskNoneRow : OpenClaim := { program := "ytmpmbhbhoplhoaa", sum := "136e31ec74c163c3ca8cbbd6ef13da650451e32c42328c2cde393b4871ce9777", func := "lodestone/lodestonelaw07.DiskNone", spec := "diskNone", inPlace := ["internal/abi.NoEscape", "internal/bytealg.MakeNoZero"], apart := false }
def DiskNoneSaid : Prop := diskNoneRow.holds Try.pinned (OpenSpec.ofChange diskNoneSpec)

/-- ITS FALSE NEIGHBOUR: 'it returns false'. Refute it at one input. -/
def diskNoneWrong : ChangeSpec := { name := "diskNone", fn := fun _ => fun
  | [d1, d2] => { results := [.lit (.bool false)], args := [d1, d2] }
  | _ => none }
def DiskNoneWrongFalsely : Prop := diskNoneRow.holds Try.pinned (OpenSpec.ofChange diskNoneWrong)

/-- 'lodestonelaw08.DeviceBumps': WHATEVER THE INPUT: true; the input reads as it did. -/
def deviceBumpsSpec : ChangeSpec := { name := "deviceBumps", fn := fun _ => fun
  | [d1, d2, d3] => { results := [.lit (.bool true)], args := [d1, d2, d3] }
  | _ => none }
def deviceBumpsRow : OpenClaim := { program := "ytmpmbhbhoplhoaa", sum := "136e31ec74c163c3ca8cbbd6ef13da650451e32c42328c2cde393b4871ce9777", func := "lodestone/lodestonelaw08.DeviceBumps", spec := "deviceBumps", inPlace := ["internal/abi.NoEscape", "internal/bytealg.MakeNoZero"], apart := false }
def DeviceBumpsSaid : Prop := deviceBumpsRow.holds Try.pinned (OpenSpec.ofChange deviceBumpsSpec)

/-- ITS FALSE NEIGHBOUR: 'it returns false'. Refute it at one input. -/
def deviceBumpsWrong : ChangeSpec := { name := "deviceBumps", fn := fun _ => fun
  | [d1, d2, d3] => { results := [.lit (.bool false)], args := [d1, d2, d3] }
  | _ => none }
def DeviceBumpsWrongFalsely : Prop := deviceBumpsRow.holds Try.pinned (OpenSpec.ofChange deviceBumpsWrong)

/-- 'lodestonelaw31.WaitNone': WHATEVER THE INPUT: true; the input reads as it did. -/
def waitNoneSpec : ChangeSpec := { name := "waitNone", fn := fun _ => fun
  | [d1, d2] => { results := [.lit (.bool true)], args := [d1, d2] }
  | _ => none }
def waitNoneRow : OpenClaim := { program := "ytmpmbhbhoplhoaa", sum := "136e31ec74c163c3ca8cbbd6ef13da650451e32c42328c2cde393b4871ce9777", func := "lodestone/lodestonelaw31.WaitNone", spec := "waitNone", recurses := true, apart := false }
def WaitNoneSaid : Prop := waitNoneRow.holds Try.pinned (OpenSpec.ofChange waitNoneSpec)

/-- ITS FALSE NEIGHBOUR: 'it returns false'. Refute it at one input. -/
def waitNoneWrong : ChangeSpec := { name := "waitNone", fn := fun _ => fun
  | [d1, d2] => { results := [.lit (.bool false)], args := [d1, d2] }
  | _ => none }
def WaitNoneWrongFalsely : Prop := waitNoneRow.holds Try.pinned (OpenSpec.ofChange waitNoneWrong)

/- THE SECOND FORM. 'bulk': how many values and letters a reading holds, each counted each time it is reached (what is shared counts as often as it is met; a slice's spare places count too). A statement '..UptoSaid' is the law's where the arguments, and the package variables that the reading takes, are together of bulk at most 1048576: NARROWER than '..Said'. Prove '..Said' where nothing that the law and all that it calls make is longer than what came in: it says more and counts as full. Else prove '..UptoSaid'. A law counts once. -/
mutual
def uptoBulk {H : Type} : DataW H → Nat
  | .lit (.string bytes) => bytes.length + 1
  | .lit _ => 1
  | .nil => 1
  | .ptr d => uptoBulk d + 1
  | .slice elems spare => uptoBulkAll elems + uptoBulkAll spare + 1
  | .agg parts => uptoBulkAll parts + 1
  | .iface _ d => uptoBulk d + 1
  | .map entries => uptoBulkEntries entries + 1
  | .held _ => 1
def uptoBulkAll {H : Type} : List (DataW H) → Nat
  | [] => 0
  | d :: r => uptoBulk d + uptoBulkAll r
def uptoBulkEntries {H : Type} : List (Lit × DataW H) → Nat
  | [] => 0
  | x :: r => uptoBulkEntry x + uptoBulkEntries r
def uptoBulkEntry {H : Type} : Lit × DataW H → Nat
  | (.string bytes, d) => bytes.length + uptoBulk d + 1
  | (_, d) => uptoBulk d + 1
 end
def uptoSmall : (H : Type) → List (DataW H) → Bool := fun _ ds => decide (uptoBulkAll ds ≤ 1048576)
def OpenSpec.upto (s : _root_.Go.ChangeSpec) : _root_.Go.OpenSpec := { _root_.Go.OpenSpec.ofChange s with cond := some uptoSmall }

/-- 'lodestonelaw23.ValueOf', WHERE WHAT IT READS IS OF BULK AT MOST 1048576: true; the input reads as it did. -/
def valueOfUptoRow : OpenClaim := { program := "ytmpmbhbhoplhoaa", sum := "136e31ec74c163c3ca8cbbd6ef13da650451e32c42328c2cde393b4871ce9777", func := "lodestone/lodestonelaw23.ValueOf", spec := "valueOf", apart := false, narrowed := true }
def ValueOfUptoSaid : Prop := valueOfUptoRow.holds Try.pinned (OpenSpec.upto valueOfSpec)

/-- 'lodestonelaw08.DeviceInput', WHERE WHAT IT READS IS OF BULK AT MOST 1048576: true; the input reads as it did. -/
def deviceInputUptoRow : OpenClaim := { program := "ytmpmbhbhoplhoaa", sum := "136e31ec74c163c3ca8cbbd6ef13da650451e32c42328c2cde393b4871ce9777", func := "lodestone/lodestonelaw08.DeviceInput", spec := "deviceInput", inPlace := ["internal/abi.NoEscape", "internal/bytealg.MakeNoZero"], apart := false, narrowed := true }
def DeviceInputUptoSaid : Prop := deviceInputUptoRow.holds Try.pinned (OpenSpec.upto deviceInputSpec)

/-- 'lodestonelaw07.DiskNone', WHERE WHAT IT READS IS OF BULK AT MOST 1048576: true; the input reads as it did. -/
def diskNoneUptoRow : OpenClaim := { program := "ytmpmbhbhoplhoaa", sum := "136e31ec74c163c3ca8cbbd6ef13da650451e32c42328c2cde393b4871ce9777", func := "lodestone/lodestonelaw07.DiskNone", spec := "diskNone", inPlace := ["internal/abi.NoEscape", "internal/bytealg.MakeNoZero"], apart := false, narrowed := true }
def DiskNoneUptoSaid : Prop := diskNoneUptoRow.holds Try.pinned (OpenSpec.upto diskNoneSpec)

/-- 'lodestonelaw08.DeviceBumps', WHERE WHAT IT READS IS OF BULK AT MOST 1048576: true; the input reads as it did. -/
def deviceBumpsUptoRow : OpenClaim := { program := "ytmpmbhbhoplhoaa", sum := "136e31ec74c163c3ca8cbbd6ef13da650451e32c42328c2cde393b4871ce9777", func := "lodestone/lodestonelaw08.DeviceBumps", spec := "deviceBumps", inPlace := ["internal/abi.NoEscape", "internal/bytealg.MakeNoZero"], apart := false, narrowed := true }
def DeviceBumpsUptoSaid : Prop := deviceBumpsUptoRow.holds Try.pinned (OpenSpec.upto deviceBumpsSpec)

/-- 'lodestonelaw31.WaitNone', WHERE WHAT IT READS IS OF BULK AT MOST 1048576: true; the input reads as it did. -/
def waitNoneUptoRow : OpenClaim := { program := "ytmpmbhbhoplhoaa", sum := "136e31ec74c163c3ca8cbbd6ef13da650451e32c42328c2cde393b4871ce9777", func := "lodestone/lodestonelaw31.WaitNone", spec := "waitNone", recurses := true, apart := false, narrowed := true }
def WaitNoneUptoSaid : Prop := waitNoneUptoRow.holds Try.pinned (OpenSpec.upto waitNoneSpec)

end Rows
end Go.Proofs.Ytmpmbhbhoplhoaa
