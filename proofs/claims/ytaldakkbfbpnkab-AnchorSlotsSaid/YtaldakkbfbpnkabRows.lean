/-
  No cell of these rows narrows 'for every input' (looked for: loops, veiled, ifaces, maps, wideKeys, modest, calm, conditions, laid).
  DERIVED. THE GIVEN ROWS OF THIS SEAT. 12 by the template 'for every input the law returns true; each argument reads behind the call as it read before'; 0 by the template 'total and deterministic' (their statements: YtaldakkbfbpnkabTotals.lean).
  GIVEN WITH THE SEED: the statements are not yours to turn. If you find one false, say at which input.
  Laid BY PROGRAM, IN A SANDBOX (cutbox-rows.mjs): the forced cells as the released guide's own fill.sh prints them over the translation f1e8956fdd3e0627… (all of the seat's roots in one cut). By AI agents, Wed Nov 11 2026. No macro, syntax, notation, axiom, sorry.
-/
import Derived.Test.YtaldakkbfbpnkabChecked
import GoSem.Claim
import GoSem.ClaimJoined
import GoSem.ClaimMapViews
import Derived.JoinedTies
import Derived.KernelRfl
namespace Go.Proofs.Ytaldakkbfbpnkab
/- THE CELL 'sum', in the pinned program and in every row, IS THE sha256 OF THE DUMP (.gsa) THAT YtaldakkbfbpnkabProg.lean LOADS. Nothing in Lean hashes anything: it is a label: what it is worth is what the hold of that sum in a sandbox is worth. -/
noncomputable def Try.pinned : Pinned := { name := "ytaldakkbfbpnkab", sum := "f1e8956fdd3e06275739472b6298d53ac9dbe6396066f5310e3bf6a45074cb0e", checked := Try.checked }
namespace Rows
def none {H : Type} : Left H := { results := [], args := [] }

/-- 'lodestonelaw31.WaitNone': WHATEVER THE INPUT: true; the input reads as it did. -/
def waitNoneSpec : ChangeSpec := { name := "waitNone", fn := fun _ => fun
  | [d1, d2] => { results := [.lit (.bool true)], args := [d1, d2] }
  | _ => none }
def waitNoneRow : OpenClaim := { program := "ytaldakkbfbpnkab", sum := "f1e8956fdd3e06275739472b6298d53ac9dbe6396066f5310e3bf6a45074cb0e", func := "lodestone/lodestonelaw31.WaitNone", spec := "waitNone", recurses := true, apart := false }
def WaitNoneSaid : Prop := waitNoneRow.holds Try.pinned (OpenSpec.ofChange waitNoneSpec)

/-- ITS FALSE NEIGHBOUR: 'it returns false'. Refute it at one input. -/
def waitNoneWrong : ChangeSpec := { name := "waitNone", fn := fun _ => fun
  | [d1, d2] => { results := [.lit (.bool false)], args := [d1, d2] }
  | _ => none }
def WaitNoneWrongFalsely : Prop := waitNoneRow.holds Try.pinned (OpenSpec.ofChange waitNoneWrong)

/-- 'lodestonelaw31.WaitCircles': WHATEVER THE INPUT: true; the input reads as it did. -/
def waitCirclesSpec : ChangeSpec := { name := "waitCircles", fn := fun _ => fun
  | [d1, d2] => { results := [.lit (.bool true)], args := [d1, d2] }
  | _ => none }
def waitCirclesRow : OpenClaim := { program := "ytaldakkbfbpnkab", sum := "f1e8956fdd3e06275739472b6298d53ac9dbe6396066f5310e3bf6a45074cb0e", func := "lodestone/lodestonelaw31.WaitCircles", spec := "waitCircles", recurses := true, apart := false }
def WaitCirclesSaid : Prop := waitCirclesRow.holds Try.pinned (OpenSpec.ofChange waitCirclesSpec)

/-- ITS FALSE NEIGHBOUR: 'it returns false'. Refute it at one input. -/
def waitCirclesWrong : ChangeSpec := { name := "waitCircles", fn := fun _ => fun
  | [d1, d2] => { results := [.lit (.bool false)], args := [d1, d2] }
  | _ => none }
def WaitCirclesWrongFalsely : Prop := waitCirclesRow.holds Try.pinned (OpenSpec.ofChange waitCirclesWrong)

/-- 'lodestonelaw31.WaitBreaks': WHATEVER THE INPUT: true; the input reads as it did. -/
def waitBreaksSpec : ChangeSpec := { name := "waitBreaks", fn := fun _ => fun
  | [d1, d2, d3] => { results := [.lit (.bool true)], args := [d1, d2, d3] }
  | _ => none }
def waitBreaksRow : OpenClaim := { program := "ytaldakkbfbpnkab", sum := "f1e8956fdd3e06275739472b6298d53ac9dbe6396066f5310e3bf6a45074cb0e", func := "lodestone/lodestonelaw31.WaitBreaks", spec := "waitBreaks", recurses := true, apart := false }
def WaitBreaksSaid : Prop := waitBreaksRow.holds Try.pinned (OpenSpec.ofChange waitBreaksSpec)

/-- ITS FALSE NEIGHBOUR: 'it returns false'. Refute it at one input. -/
def waitBreaksWrong : ChangeSpec := { name := "waitBreaks", fn := fun _ => fun
  | [d1, d2, d3] => { results := [.lit (.bool false)], args := [d1, d2, d3] }
  | _ => none }
def WaitBreaksWrongFalsely : Prop := waitBreaksRow.holds Try.pinned (OpenSpec.ofChange waitBreaksWrong)

/-- 'lodestonelaw08.DeviceInput': WHATEVER THE INPUT: true; the input reads as it did. -/
def deviceInputSpec : ChangeSpec := { name := "deviceInput", fn := fun _ => fun
  | [d1, d2] => { results := [.lit (.bool true)], args := [d1, d2] }
  | _ => none }
def deviceInputRow : OpenClaim := { program := "ytaldakkbfbpnkab", sum := "f1e8956fdd3e06275739472b6298d53ac9dbe6396066f5310e3bf6a45074cb0e", func := "lodestone/lodestonelaw08.DeviceInput", spec := "deviceInput", inPlace := ["internal/abi.NoEscape", "internal/bytealg.MakeNoZero"], apart := false }
def DeviceInputSaid : Prop := deviceInputRow.holds Try.pinned (OpenSpec.ofChange deviceInputSpec)

/-- ITS FALSE NEIGHBOUR: 'it returns false'. Refute it at one input. -/
def deviceInputWrong : ChangeSpec := { name := "deviceInput", fn := fun _ => fun
  | [d1, d2] => { results := [.lit (.bool false)], args := [d1, d2] }
  | _ => none }
def DeviceInputWrongFalsely : Prop := deviceInputRow.holds Try.pinned (OpenSpec.ofChange deviceInputWrong)

/-- 'lodestonelaw08.DeviceBumps': WHATEVER THE INPUT: true; the input reads as it did. -/
def deviceBumpsSpec : ChangeSpec := { name := "deviceBumps", fn := fun _ => fun
  | [d1, d2, d3] => { results := [.lit (.bool true)], args := [d1, d2, d3] }
  | _ => none }
def deviceBumpsRow : OpenClaim := { program := "ytaldakkbfbpnkab", sum := "f1e8956fdd3e06275739472b6298d53ac9dbe6396066f5310e3bf6a45074cb0e", func := "lodestone/lodestonelaw08.DeviceBumps", spec := "deviceBumps", inPlace := ["internal/abi.NoEscape", "internal/bytealg.MakeNoZero"], apart := false }
def DeviceBumpsSaid : Prop := deviceBumpsRow.holds Try.pinned (OpenSpec.ofChange deviceBumpsSpec)

/-- ITS FALSE NEIGHBOUR: 'it returns false'. Refute it at one input. -/
def deviceBumpsWrong : ChangeSpec := { name := "deviceBumps", fn := fun _ => fun
  | [d1, d2, d3] => { results := [.lit (.bool false)], args := [d1, d2, d3] }
  | _ => none }
def DeviceBumpsWrongFalsely : Prop := deviceBumpsRow.holds Try.pinned (OpenSpec.ofChange deviceBumpsWrong)

/-- 'lodestonelaw07.DiskNone': WHATEVER THE INPUT: true; the input reads as it did. -/
def diskNoneSpec : ChangeSpec := { name := "diskNone", fn := fun _ => fun
  | [d1, d2] => { results := [.lit (.bool true)], args := [d1, d2] }
  | _ => none }
def diskNoneRow : OpenClaim := { program := "ytaldakkbfbpnkab", sum := "f1e8956fdd3e06275739472b6298d53ac9dbe6396066f5310e3bf6a45074cb0e", func := "lodestone/lodestonelaw07.DiskNone", spec := "diskNone", inPlace := ["internal/abi.NoEscape", "internal/bytealg.MakeNoZero"], apart := false }
def DiskNoneSaid : Prop := diskNoneRow.holds Try.pinned (OpenSpec.ofChange diskNoneSpec)

/-- ITS FALSE NEIGHBOUR: 'it returns false'. Refute it at one input. -/
def diskNoneWrong : ChangeSpec := { name := "diskNone", fn := fun _ => fun
  | [d1, d2] => { results := [.lit (.bool false)], args := [d1, d2] }
  | _ => none }
def DiskNoneWrongFalsely : Prop := diskNoneRow.holds Try.pinned (OpenSpec.ofChange diskNoneWrong)

/-- 'lodestonelaw07.DiskSure': WHATEVER THE INPUT: true; the input reads as it did. -/
def diskSureSpec : ChangeSpec := { name := "diskSure", fn := fun _ => fun
  | [d1, d2] => { results := [.lit (.bool true)], args := [d1, d2] }
  | _ => none }
def diskSureRow : OpenClaim := { program := "ytaldakkbfbpnkab", sum := "f1e8956fdd3e06275739472b6298d53ac9dbe6396066f5310e3bf6a45074cb0e", func := "lodestone/lodestonelaw07.DiskSure", spec := "diskSure", inPlace := ["internal/abi.NoEscape", "internal/bytealg.MakeNoZero"], apart := false }
def DiskSureSaid : Prop := diskSureRow.holds Try.pinned (OpenSpec.ofChange diskSureSpec)

/-- ITS FALSE NEIGHBOUR: 'it returns false'. Refute it at one input. -/
def diskSureWrong : ChangeSpec := { name := "diskSure", fn := fun _ => fun
  | [d1, d2] => { results := [.lit (.bool false)], args := [d1, d2] }
  | _ => none }
def DiskSureWrongFalsely : Prop := diskSureRow.holds Try.pinned (OpenSpec.ofChange diskSureWrong)

/-- 'lodestonelaw12.AnchorSlots': WHATEVER THE INPUT: true; the input reads as it did. -/
def anchorSlotsSpec : ChangeSpec := { name := "anchorSlots", fn := fun _ => fun
  | [d] => { results := [.lit (.bool true)], args := [d] }
  | _ => none }
def anchorSlotsRow : OpenClaim := { program := "ytaldakkbfbpnkab", sum := "f1e8956fdd3e06275739472b6298d53ac9dbe6396066f5310e3bf6a45074cb0e", func := "lodestone/lodestonelaw12.AnchorSlots", spec := "anchorSlots", inPlace := ["internal/abi.NoEscape", "internal/bytealg.MakeNoZero"], recurses := true, apart := false }
def AnchorSlotsSaid : Prop := anchorSlotsRow.holds Try.pinned (OpenSpec.ofChange anchorSlotsSpec)

/-- ITS FALSE NEIGHBOUR: 'it returns false'. Refute it at one input. -/
def anchorSlotsWrong : ChangeSpec := { name := "anchorSlots", fn := fun _ => fun
  | [d] => { results := [.lit (.bool false)], args := [d] }
  | _ => none }
def AnchorSlotsWrongFalsely : Prop := anchorSlotsRow.holds Try.pinned (OpenSpec.ofChange anchorSlotsWrong)

/-- 'lodestonelaw12.AnchorPuts': WHATEVER THE INPUT: true; the input reads as it did. -/
def anchorPutsSpec : ChangeSpec := { name := "anchorPuts", fn := fun _ => fun
  | [d1, d2] => { results := [.lit (.bool true)], args := [d1, d2] }
  | _ => none }
def anchorPutsRow : OpenClaim := { program := "ytaldakkbfbpnkab", sum := "f1e8956fdd3e06275739472b6298d53ac9dbe6396066f5310e3bf6a45074cb0e", func := "lodestone/lodestonelaw12.AnchorPuts", spec := "anchorPuts", inPlace := ["internal/abi.NoEscape", "internal/bytealg.MakeNoZero"], recurses := true, apart := false }
def AnchorPutsSaid : Prop := anchorPutsRow.holds Try.pinned (OpenSpec.ofChange anchorPutsSpec)

/-- ITS FALSE NEIGHBOUR: 'it returns false'. Refute it at one input. -/
def anchorPutsWrong : ChangeSpec := { name := "anchorPuts", fn := fun _ => fun
  | [d1, d2] => { results := [.lit (.bool false)], args := [d1, d2] }
  | _ => none }
def AnchorPutsWrongFalsely : Prop := anchorPutsRow.holds Try.pinned (OpenSpec.ofChange anchorPutsWrong)

/-- 'lodestonelaw30.LockMost': WHATEVER THE INPUT: true; the input reads as it did. -/
def lockMostSpec : ChangeSpec := { name := "lockMost", fn := fun _ => fun
  | [d1, d2] => { results := [.lit (.bool true)], args := [d1, d2] }
  | _ => none }
def lockMostRow : OpenClaim := { program := "ytaldakkbfbpnkab", sum := "f1e8956fdd3e06275739472b6298d53ac9dbe6396066f5310e3bf6a45074cb0e", func := "lodestone/lodestonelaw30.LockMost", spec := "lockMost", apart := false }
def LockMostSaid : Prop := lockMostRow.holds Try.pinned (OpenSpec.ofChange lockMostSpec)

/-- ITS FALSE NEIGHBOUR: 'it returns false'. Refute it at one input. -/
def lockMostWrong : ChangeSpec := { name := "lockMost", fn := fun _ => fun
  | [d1, d2] => { results := [.lit (.bool false)], args := [d1, d2] }
  | _ => none }
def LockMostWrongFalsely : Prop := lockMostRow.holds Try.pinned (OpenSpec.ofChange lockMostWrong)

/-- 'lodestonelaw30.LockPlays': WHATEVER THE INPUT: true; the input reads as it did. -/
def lockPlaysSpec : ChangeSpec := { name := "lockPlays", fn := fun _ => fun
  | [d] => { results := [.lit (.bool true)], args := [d] }
  | _ => none }
def lockPlaysRow : OpenClaim := { program := "ytaldakkbfbpnkab", sum := "f1e8956fdd3e06275739472b6298d53ac9dbe6396066f5310e3bf6a45074cb0e", func := "lodestone/lodestonelaw30.LockPlays", spec := "lockPlays", apart := false }
def LockPlaysSaid : Prop := lockPlaysRow.holds Try.pinned (OpenSpec.ofChange lockPlaysSpec)

/-- ITS FALSE NEIGHBOUR: 'it returns false'. Refute it at one input. -/
def lockPlaysWrong : ChangeSpec := { name := "lockPlays", fn := fun _ => fun
  | [d] => { results := [.lit (.bool false)], args := [d] }
  | _ => none }
def LockPlaysWrongFalsely : Prop := lockPlaysRow.holds Try.pinned (OpenSpec.ofChange lockPlaysWrong)

/-- 'lodestonelaw21.DeltaClones': WHATEVER THE INPUT: true; the input reads as it did. -/
def deltaClonesSpec : ChangeSpec := { name := "deltaClones", fn := fun _ => fun
  | [d1, d2] => { results := [.lit (.bool true)], args := [d1, d2] }
  | _ => none }
def deltaClonesRow : OpenClaim := { program := "ytaldakkbfbpnkab", sum := "f1e8956fdd3e06275739472b6298d53ac9dbe6396066f5310e3bf6a45074cb0e", func := "lodestone/lodestonelaw21.DeltaClones", spec := "deltaClones", inPlace := ["slices.overlaps[lodestone/api.Change]"], unfollowed := true, recurses := true, apart := false }
def DeltaClonesSaid : Prop := deltaClonesRow.holds Try.pinned (OpenSpec.ofChange deltaClonesSpec)

/-- ITS FALSE NEIGHBOUR: 'it returns false'. Refute it at one input. -/
def deltaClonesWrong : ChangeSpec := { name := "deltaClones", fn := fun _ => fun
  | [d1, d2] => { results := [.lit (.bool false)], args := [d1, d2] }
  | _ => none }
def DeltaClonesWrongFalsely : Prop := deltaClonesRow.holds Try.pinned (OpenSpec.ofChange deltaClonesWrong)

/- THE SECOND FORM. 'bulk': how many values and letters a reading holds, each counted each time it is reached (what is shared counts as often as it is met; a slice's spare places count too). A statement '..UptoSaid' is the law's where the arguments, and the package variables that the reading takes, are together of bulk at most 1048576: NARROWER than '..Said'. Prove '..Said' where nothing that the law and all that it calls make is longer than what came in: it says more and counts as full. Else prove '..UptoSaid'. A law counts once. -/
mutual
def uptoBulk {H : Type} : DataW H → Nat
  | .lit (.string bytes) => bytes.length + 1
  | .lit _ => 1
  | .nil => 1
  | .ptr d => uptoBulk d + 1
  | .slice elems spare => uptoBulkAll elems + uptoBulkAll spare + 1
  | .agg parts => uptoBulkAll parts + 1
  | .iface _ d => uptoBulk d + 1
  | .map entries => uptoBulkEntries entries + 1
  | .held _ => 1
def uptoBulkAll {H : Type} : List (DataW H) → Nat
  | [] => 0
  | d :: r => uptoBulk d + uptoBulkAll r
def uptoBulkEntries {H : Type} : List (Lit × DataW H) → Nat
  | [] => 0
  | x :: r => uptoBulkEntry x + uptoBulkEntries r
def uptoBulkEntry {H : Type} : Lit × DataW H → Nat
  | (.string bytes, d) => bytes.length + uptoBulk d + 1
  | (_, d) => uptoBulk d + 1
 end
def uptoSmall : (H : Type) → List (DataW H) → Bool := fun _ ds => decide (uptoBulkAll ds ≤ 1048576)
def OpenSpec.upto (s : _root_.Go.ChangeSpec) : _root_.Go.OpenSpec := { _root_.Go.OpenSpec.ofChange s with cond := some uptoSmall }

/-- 'lodestonelaw31.WaitNone', WHERE WHAT IT READS IS OF BULK AT MOST 1048576: true; the input reads as it did. -/
def waitNoneUptoRow : OpenClaim := { program := "ytaldakkbfbpnkab", sum := "f1e8956fdd3e06275739472b6298d53ac9dbe6396066f5310e3bf6a45074cb0e", func := "lodestone/lodestonelaw31.WaitNone", spec := "waitNone", recurses := true, apart := false, narrowed := true }
def WaitNoneUptoSaid : Prop := waitNoneUptoRow.holds Try.pinned (OpenSpec.upto waitNoneSpec)

/-- 'lodestonelaw31.WaitCircles', WHERE WHAT IT READS IS OF BULK AT MOST 1048576: true; the input reads as it did. -/
def waitCirclesUptoRow : OpenClaim := { program := "ytaldakkbfbpnkab", sum := "f1e8956fdd3e06275739472b6298d53ac9dbe6396066f5310e3bf6a45074cb0e", func := "lodestone/lodestonelaw31.WaitCircles", spec := "waitCircles", recurses := true, apart := false, narrowed := true }
def WaitCirclesUptoSaid : Prop := waitCirclesUptoRow.holds Try.pinned (OpenSpec.upto waitCirclesSpec)

/-- 'lodestonelaw31.WaitBreaks', WHERE WHAT IT READS IS OF BULK AT MOST 1048576: true; the input reads as it did. -/
def waitBreaksUptoRow : OpenClaim := { program := "ytaldakkbfbpnkab", sum := "f1e8956fdd3e06275739472b6298d53ac9dbe6396066f5310e3bf6a45074cb0e", func := "lodestone/lodestonelaw31.WaitBreaks", spec := "waitBreaks", recurses := true, apart := false, narrowed := true }
def WaitBreaksUptoSaid : Prop := waitBreaksUptoRow.holds Try.pinned (OpenSpec.upto waitBreaksSpec)

/-- 'lodestonelaw08.DeviceInput', WHERE WHAT IT READS IS OF BULK AT MOST 1048576: true; the input reads as it did. -/
def deviceInputUptoRow : OpenClaim := { program := "ytaldakkbfbpnkab", sum := "f1e8956fdd3e06275739472b6298d53ac9dbe6396066f5310e3bf6a45074cb0e", func := "lodestone/lodestonelaw08.DeviceInput", spec := "deviceInput", inPlace := ["internal/abi.NoEscape", "internal/bytealg.MakeNoZero"], apart := false, narrowed := true }
def DeviceInputUptoSaid : Prop := deviceInputUptoRow.holds Try.pinned (OpenSpec.upto deviceInputSpec)

/-- 'lodestonelaw08.DeviceBumps', WHERE WHAT IT READS IS OF BULK AT MOST 1048576: true; the input reads as it did. -/
def deviceBumpsUptoRow : OpenClaim := { program := "ytaldakkbfbpnkab", sum := "f1e8956fdd3e06275739472b6298d53ac9dbe6396066f5310e3bf6a45074cb0e", func := "lodestone/lodestonelaw08.DeviceBumps", spec := "deviceBumps", inPlace := ["internal/abi.NoEscape", "internal/bytealg.MakeNoZero"], apart := false, narrowed := true }
def DeviceBumpsUptoSaid : Prop := deviceBumpsUptoRow.holds Try.pinned (OpenSpec.upto deviceBumpsSpec)

/-- 'lodestonelaw07.DiskNone', WHERE WHAT IT READS IS OF BULK AT MOST 1048576: true; the input reads as it did. -/
def diskNoneUptoRow : OpenClaim := { program := "ytaldakkbfbpnkab", sum := "f1e8956fdd3e06275739472b6298d53ac9dbe6396066f5310e3bf6a45074cb0e", func := "lodestone/lodestonelaw07.DiskNone", spec := "diskNone", inPlace := ["internal/abi.NoEscape", "internal/bytealg.MakeNoZero"], apart := false, narrowed := true }
def DiskNoneUptoSaid : Prop := diskNoneUptoRow.holds Try.pinned (OpenSpec.upto diskNoneSpec)

/-- 'lodestonelaw07.DiskSure', WHERE WHAT IT READS IS OF BULK AT MOST 1048576: true; the input reads as it did. -/
def diskSureUptoRow : OpenClaim := { program := "ytaldakkbfbpnkab", sum := "f1e8956fdd3e06275739472b6298d53ac9dbe6396066f5310e3bf6a45074cb0e", func := "lodestone/lodestonelaw07.DiskSure", spec := "diskSure", inPlace := ["internal/abi.NoEscape", "internal/bytealg.MakeNoZero"], apart := false, narrowed := true }
def DiskSureUptoSaid : Prop := diskSureUptoRow.holds Try.pinned (OpenSpec.upto diskSureSpec)

/-- 'lodestonelaw12.AnchorSlots', WHERE WHAT IT READS IS OF BULK AT MOST 1048576: true; the input reads as it did. -/
def anchorSlotsUptoRow : OpenClaim := { program := "ytaldakkbfbpnkab", sum := "f1e8956fdd3e06275739472b6298d53ac9dbe6396066f5310e3bf6a45074cb0e", func := "lodestone/lodestonelaw12.AnchorSlots", spec := "anchorSlots", inPlace := ["internal/abi.NoEscape", "internal/bytealg.MakeNoZero"], recurses := true, apart := false, narrowed := true }
def AnchorSlotsUptoSaid : Prop := anchorSlotsUptoRow.holds Try.pinned (OpenSpec.upto anchorSlotsSpec)

/-- 'lodestonelaw12.AnchorPuts', WHERE WHAT IT READS IS OF BULK AT MOST 1048576: true; the input reads as it did. -/
def anchorPutsUptoRow : OpenClaim := { program := "ytaldakkbfbpnkab", sum := "f1e8956fdd3e06275739472b6298d53ac9dbe6396066f5310e3bf6a45074cb0e", func := "lodestone/lodestonelaw12.AnchorPuts", spec := "anchorPuts", inPlace := ["internal/abi.NoEscape", "internal/bytealg.MakeNoZero"], recurses := true, apart := false, narrowed := true }
def AnchorPutsUptoSaid : Prop := anchorPutsUptoRow.holds Try.pinned (OpenSpec.upto anchorPutsSpec)

/-- 'lodestonelaw30.LockMost', WHERE WHAT IT READS IS OF BULK AT MOST 1048576: true; the input reads as it did. -/
def lockMostUptoRow : OpenClaim := { program := "ytaldakkbfbpnkab", sum := "f1e8956fdd3e06275739472b6298d53ac9dbe6396066f5310e3bf6a45074cb0e", func := "lodestone/lodestonelaw30.LockMost", spec := "lockMost", apart := false, narrowed := true }
def LockMostUptoSaid : Prop := lockMostUptoRow.holds Try.pinned (OpenSpec.upto lockMostSpec)

/-- 'lodestonelaw30.LockPlays', WHERE WHAT IT READS IS OF BULK AT MOST 1048576: true; the input reads as it did. -/
def lockPlaysUptoRow : OpenClaim := { program := "ytaldakkbfbpnkab", sum := "f1e8956fdd3e06275739472b6298d53ac9dbe6396066f5310e3bf6a45074cb0e", func := "lodestone/lodestonelaw30.LockPlays", spec := "lockPlays", apart := false, narrowed := true }
def LockPlaysUptoSaid : Prop := lockPlaysUptoRow.holds Try.pinned (OpenSpec.upto lockPlaysSpec)

/-- 'lodestonelaw21.DeltaClones', WHERE WHAT IT READS IS OF BULK AT MOST 1048576: true; the input reads as it did. -/
def deltaClonesUptoRow : OpenClaim := { program := "ytaldakkbfbpnkab", sum := "f1e8956fdd3e06275739472b6298d53ac9dbe6396066f5310e3bf6a45074cb0e", func := "lodestone/lodestonelaw21.DeltaClones", spec := "deltaClones", inPlace := ["slices.overlaps[lodestone/api.Change]"], unfollowed := true, recurses := true, apart := false, narrowed := true }
def DeltaClonesUptoSaid : Prop := deltaClonesUptoRow.holds Try.pinned (OpenSpec.upto deltaClonesSpec)

end Rows
end Go.Proofs.Ytaldakkbfbpnkab
