/-
  No cell of these rows narrows 'for every input' (looked for: loops, veiled, ifaces, maps, wideKeys, modest, calm, conditions, laid).
  DERIVED. THE GIVEN ROWS OF THIS SEAT. 9 by the template 'for every input the law returns true; each argument reads behind the call as it read before'; 0 by the template 'total and deterministic' (their statements: YtplfbpihhcnnmabTotals.lean).
  GIVEN WITH THE SEED: the statements are not yours to turn. If you find one false, say at which input.
  Laid BY PROGRAM, IN A SANDBOX (cutbox-rows.mjs): the forced cells as the released guide's own fill.sh prints them over the translation b35145a99c5ab459… (all of the seat's roots in one cut). By AI agents, Wed Nov 11 2026. No macro, syntax, notation, axiom, sorry.
-/
import Derived.Test.YtplfbpihhcnnmabChecked
import GoSem.Claim
import GoSem.ClaimJoined
import GoSem.ClaimMapViews
import Derived.JoinedTies
import Derived.KernelRfl
namespace Go.Proofs.Ytplfbpihhcnnmab
/- THE CELL 'sum', in the pinned program and in every row, IS THE sha256 OF THE DUMP (.gsa) THAT YtplfbpihhcnnmabProg.lean LOADS. Nothing in Lean hashes anything: it is a label: what it is worth is what the hold of that sum in a sandbox is worth. -/
noncomputable def Try.pinned : Pinned := { name := "ytplfbpihhcnnmab", sum := "b35145a99c5ab459f0964711c498088b4f82a234846a715f7e95a207a4061ba1", checked := Try.checked }
namespace Rows
def none {H : Type} : Left H := { results := [], args := [] }

/-- 'lodestonelaw08.DeviceBumps': WHATEVER THE INPUT: true; the input reads as it did. -/
def deviceBumpsSpec : ChangeSpec := { name := "deviceBumps", fn := fun _ => fun
  | [d1, d2, d3] => { results := [.lit (.bool true)], args := [d1, d2, d3] }
  | _ => none }
def deviceBumpsRow : OpenClaim := { program := "ytplfbpihhcnnmab", sum := "b35145a99c5ab459f0964711c498088b4f82a234846a715f7e95a207a4061ba1", func := "lodestone/lodestonelaw08.DeviceBumps", spec := "deviceBumps", inPlace := ["internal/abi.NoEscape", "internal/bytealg.MakeNoZero"], apart := false }
def DeviceBumpsSaid : Prop := deviceBumpsRow.holds Try.pinned (OpenSpec.ofChange deviceBumpsSpec)

/-- ITS FALSE NEIGHBOUR: 'it returns false'. Refute it at one input. -/
def deviceBumpsWrong : ChangeSpec := { name := "deviceBumps", fn := fun _ => fun
  | [d1, d2, d3] => { results := [.lit (.bool false)], args := [d1, d2, d3] }
  | _ => none }
def DeviceBumpsWrongFalsely : Prop := deviceBumpsRow.holds Try.pinned (OpenSpec.ofChange deviceBumpsWrong)

/-- 'lodestonelaw21.DeltaPlays': WHATEVER THE INPUT: true; the input reads as it did. -/
def deltaPlaysSpec : ChangeSpec := { name := "deltaPlays", fn := fun _ => fun
  | [d1, d2, d3] => { results := [.lit (.bool true)], args := [d1, d2, d3] }
  | _ => none }
def deltaPlaysRow : OpenClaim := { program := "ytplfbpihhcnnmab", sum := "b35145a99c5ab459f0964711c498088b4f82a234846a715f7e95a207a4061ba1", func := "lodestone/lodestonelaw21.DeltaPlays", spec := "deltaPlays", inPlace := ["slices.overlaps[lodestone/api.Change]"], unfollowed := true, recurses := true, apart := false }
def DeltaPlaysSaid : Prop := deltaPlaysRow.holds Try.pinned (OpenSpec.ofChange deltaPlaysSpec)

/-- ITS FALSE NEIGHBOUR: 'it returns false'. Refute it at one input. -/
def deltaPlaysWrong : ChangeSpec := { name := "deltaPlays", fn := fun _ => fun
  | [d1, d2, d3] => { results := [.lit (.bool false)], args := [d1, d2, d3] }
  | _ => none }
def DeltaPlaysWrongFalsely : Prop := deltaPlaysRow.holds Try.pinned (OpenSpec.ofChange deltaPlaysWrong)

/-- 'lodestonelaw21.DeltaClones': WHATEVER THE INPUT: true; the input reads as it did. -/
def deltaClonesSpec : ChangeSpec := { name := "deltaClones", fn := fun _ => fun
  | [d1, d2] => { results := [.lit (.bool true)], args := [d1, d2] }
  | _ => none }
def deltaClonesRow : OpenClaim := { program := "ytplfbpihhcnnmab", sum := "b35145a99c5ab459f0964711c498088b4f82a234846a715f7e95a207a4061ba1", func := "lodestone/lodestonelaw21.DeltaClones", spec := "deltaClones", inPlace := ["slices.overlaps[lodestone/api.Change]"], unfollowed := true, recurses := true, apart := false }
def DeltaClonesSaid : Prop := deltaClonesRow.holds Try.pinned (OpenSpec.ofChange deltaClonesSpec)

/-- ITS FALSE NEIGHBOUR: 'it returns false'. Refute it at one input. -/
def deltaClonesWrong : ChangeSpec := { name := "deltaClones", fn := fun _ => fun
  | [d1, d2] => { results := [.lit (.bool false)], args := [d1, d2] }
  | _ => none }
def DeltaClonesWrongFalsely : Prop := deltaClonesRow.holds Try.pinned (OpenSpec.ofChange deltaClonesWrong)

/-- 'lodestonelaw21.DeltaOver': WHATEVER THE INPUT: true; the input reads as it did. -/
def deltaOverSpec : ChangeSpec := { name := "deltaOver", fn := fun _ => fun
  | [d1, d2, d3] => { results := [.lit (.bool true)], args := [d1, d2, d3] }
  | _ => none }
def deltaOverRow : OpenClaim := { program := "ytplfbpihhcnnmab", sum := "b35145a99c5ab459f0964711c498088b4f82a234846a715f7e95a207a4061ba1", func := "lodestone/lodestonelaw21.DeltaOver", spec := "deltaOver", inPlace := ["slices.overlaps[lodestone/api.Change]"], unfollowed := true, recurses := true, apart := false }
def DeltaOverSaid : Prop := deltaOverRow.holds Try.pinned (OpenSpec.ofChange deltaOverSpec)

/-- ITS FALSE NEIGHBOUR: 'it returns false'. Refute it at one input. -/
def deltaOverWrong : ChangeSpec := { name := "deltaOver", fn := fun _ => fun
  | [d1, d2, d3] => { results := [.lit (.bool false)], args := [d1, d2, d3] }
  | _ => none }
def DeltaOverWrongFalsely : Prop := deltaOverRow.holds Try.pinned (OpenSpec.ofChange deltaOverWrong)

/-- 'lodestonelaw30.LockPlays': WHATEVER THE INPUT: true; the input reads as it did. -/
def lockPlaysSpec : ChangeSpec := { name := "lockPlays", fn := fun _ => fun
  | [d] => { results := [.lit (.bool true)], args := [d] }
  | _ => none }
def lockPlaysRow : OpenClaim := { program := "ytplfbpihhcnnmab", sum := "b35145a99c5ab459f0964711c498088b4f82a234846a715f7e95a207a4061ba1", func := "lodestone/lodestonelaw30.LockPlays", spec := "lockPlays", apart := false }
def LockPlaysSaid : Prop := lockPlaysRow.holds Try.pinned (OpenSpec.ofChange lockPlaysSpec)

/-- ITS FALSE NEIGHBOUR: 'it returns false'. Refute it at one input. -/
def lockPlaysWrong : ChangeSpec := { name := "lockPlays", fn := fun _ => fun
  | [d] => { results := [.lit (.bool false)], args := [d] }
  | _ => none }
def LockPlaysWrongFalsely : Prop := lockPlaysRow.holds Try.pinned (OpenSpec.ofChange lockPlaysWrong)

/-- 'lodestonelaw30.LockMost': WHATEVER THE INPUT: true; the input reads as it did. -/
def lockMostSpec : ChangeSpec := { name := "lockMost", fn := fun _ => fun
  | [d1, d2] => { results := [.lit (.bool true)], args := [d1, d2] }
  | _ => none }
def lockMostRow : OpenClaim := { program := "ytplfbpihhcnnmab", sum := "b35145a99c5ab459f0964711c498088b4f82a234846a715f7e95a207a4061ba1", func := "lodestone/lodestonelaw30.LockMost", spec := "lockMost", apart := false }
def LockMostSaid : Prop := lockMostRow.holds Try.pinned (OpenSpec.ofChange lockMostSpec)

/-- ITS FALSE NEIGHBOUR: 'it returns false'. Refute it at one input. -/
def lockMostWrong : ChangeSpec := { name := "lockMost", fn := fun _ => fun
  | [d1, d2] => { results := [.lit (.bool false)], args := [d1, d2] }
  | _ => none }
def LockMostWrongFalsely : Prop := lockMostRow.holds Try.pinned (OpenSpec.ofChange lockMostWrong)

/-- 'lodestonelaw31.WaitCircles': WHATEVER THE INPUT: true; the input reads as it did. -/
def waitCirclesSpec : ChangeSpec := { name := "waitCircles", fn := fun _ => fun
  | [d1, d2] => { results := [.lit (.bool true)], args := [d1, d2] }
  | _ => none }
def waitCirclesRow : OpenClaim := { program := "ytplfbpihhcnnmab", sum := "b35145a99c5ab459f0964711c498088b4f82a234846a715f7e95a207a4061ba1", func := "lodestone/lodestonelaw31.WaitCircles", spec := "waitCircles", recurses := true, apart := false }
def WaitCirclesSaid : Prop := waitCirclesRow.holds Try.pinned (OpenSpec.ofChange waitCirclesSpec)

/-- ITS FALSE NEIGHBOUR: 'it returns false'. Refute it at one input. -/
def waitCirclesWrong : ChangeSpec := { name := "waitCircles", fn := fun _ => fun
  | [d1, d2] => { results := [.lit (.bool false)], args := [d1, d2] }
  | _ => none }
def WaitCirclesWrongFalsely : Prop := waitCirclesRow.holds Try.pinned (OpenSpec.ofChange waitCirclesWrong)

/-- 'lodestonelaw31.WaitBreaks': WHATEVER THE INPUT: true; the input reads as it did. -/
def waitBreaksSpec : ChangeSpec := { name := "waitBreaks", fn := fun _ => fun
  | [d1, d2, d3] => { results := [.lit (.bool true)], args := [d1, d2, d3] }
  | _ => none }
def waitBreaksRow : OpenClaim := { program := "ytplfbpihhcnnmab", sum := "b35145a99c5ab459f0964711c498088b4f82a234846a715f7e95a207a4061ba1", func := "lodestone/lodestonelaw31.WaitBreaks", spec := "waitBreaks", recurses := true, apart := false }
def WaitBreaksSaid : Prop := waitBreaksRow.holds Try.pinned (OpenSpec.ofChange waitBreaksSpec)

/-- ITS FALSE NEIGHBOUR: 'it returns false'. Refute it at one input. -/
def waitBreaksWrong : ChangeSpec := { name := "waitBreaks", fn := fun _ => fun
  | [d1, d2, d3] => { results := [.lit (.bool false)], args := [d1, d2, d3] }
  | _ => none }
def WaitBreaksWrongFalsely : Prop := waitBreaksRow.holds Try.pinned (OpenSpec.ofChange waitBreaksWrong)

/-- 'lodestonelaw31.WaitNone': WHATEVER THE INPUT: true; the input reads as it did. -/
def waitNoneSpec : ChangeSpec := { name := "waitNone", fn := fun _ => fun
  | [d1, d2] => { results := [.lit (.bool true)], args := [d1, d2] }
  | _ => none }
def waitNoneRow : OpenClaim := { program := "ytplfbpihhcnnmab", sum := "b35145a99c5ab459f0964711c498088b4f82a234846a715f7e95a207a4061ba1", func := "lodestone/lodestonelaw31.WaitNone", spec := "waitNone", recurses := true, apart := false }
def WaitNoneSaid : Prop := waitNoneRow.holds Try.pinned (OpenSpec.ofChange waitNoneSpec)

/-- ITS FALSE NEIGHBOUR: 'it returns false'. Refute it at one input. -/
def waitNoneWrong : ChangeSpec := { name := "waitNone", fn := fun _ => fun
  | [d1, d2] => { results := [.lit (.bool false)], args := [d1, d2] }
  | _ => none }
def WaitNoneWrongFalsely : Prop := waitNoneRow.holds Try.pinned (OpenSpec.ofChange waitNoneWrong)

/- THE SECOND FORM. 'bulk': how many values and letters a reading holds, each counted each time it is reached (what is shared counts as often as it is met; a slice's spare places count too). A statement '..UptoSaid' is the law's where the arguments, and the package variables that the reading takes, are together of bulk at most 1048576: NARROWER than '..Said'. Prove '..Said' where nothing that the law and all that it calls make is longer than what came in: it says more and counts as full. Else prove '..UptoSaid'. A law counts once. -/
mutual
def uptoBulk {H : Type} : DataW H → Nat
  | .lit (.string bytes) => bytes.length + 1
  | .lit _ => 1
  | .nil => 1
  | .ptr d => uptoBulk d + 1
  | .slice elems spare => uptoBulkAll elems + uptoBulkAll spare + 1
  | .agg parts => uptoBulkAll parts + 1
  | .iface _ d => uptoBulk d + 1
  | .map entries => uptoBulkEntries entries + 1
  | .held _ => 1
def uptoBulkAll {H : Type} : List (DataW H) → Nat
  | [] => 0
  | d :: r => uptoBulk d + uptoBulkAll r
def uptoBulkEntries {H : Type} : List (Lit × DataW H) → Nat
  | [] => 0
  | x :: r => uptoBulkEntry x + uptoBulkEntries r
def uptoBulkEntry {H : Type} : Lit × DataW H → Nat
  | (.string bytes, d) => bytes.length + uptoBulk d + 1
  | (_, d) => uptoBulk d + 1
 end
def uptoSmall : (H : Type) → List (DataW H) → Bool := fun _ ds => decide (uptoBulkAll ds ≤ 1048576)
def OpenSpec.upto (s : _root_.Go.ChangeSpec) : _root_.Go.OpenSpec := { _root_.Go.OpenSpec.ofChange s with cond := some uptoSmall }

/-- 'lodestonelaw08.DeviceBumps', WHERE WHAT IT READS IS OF BULK AT MOST 1048576: true; the input reads as it did. -/
def deviceBumpsUptoRow : OpenClaim := { program := "ytplfbpihhcnnmab", sum := "b35145a99c5ab459f0964711c498088b4f82a234846a715f7e95a207a4061ba1", func := "lodestone/lodestonelaw08.DeviceBumps", spec := "deviceBumps", inPlace := ["internal/abi.NoEscape", "internal/bytealg.MakeNoZero"], apart := false, narrowed := true }
def DeviceBumpsUptoSaid : Prop := deviceBumpsUptoRow.holds Try.pinned (OpenSpec.upto deviceBumpsSpec)

/-- 'lodestonelaw21.DeltaPlays', WHERE WHAT IT READS IS OF BULK AT MOST 1048576: true; the input reads as it did. -/
def deltaPlaysUptoRow : OpenClaim := { program := "ytplfbpihhcnnmab", sum := "b35145a99c5ab459f0964711c498088b4f82a234846a715f7e95a207a4061ba1", func := "lodestone/lodestonelaw21.DeltaPlays", spec := "deltaPlays", inPlace := ["slices.overlaps[lodestone/api.Change]"], unfollowed := true, recurses := true, apart := false, narrowed := true }
def DeltaPlaysUptoSaid : Prop := deltaPlaysUptoRow.holds Try.pinned (OpenSpec.upto deltaPlaysSpec)

/-- 'lodestonelaw21.DeltaClones', WHERE WHAT IT READS IS OF BULK AT MOST 1048576: true; the input reads as it did. -/
def deltaClonesUptoRow : OpenClaim := { program := "ytplfbpihhcnnmab", sum := "b35145a99c5ab459f0964711c498088b4f82a234846a715f7e95a207a4061ba1", func := "lodestone/lodestonelaw21.DeltaClones", spec := "deltaClones", inPlace := ["slices.overlaps[lodestone/api.Change]"], unfollowed := true, recurses := true, apart := false, narrowed := true }
def DeltaClonesUptoSaid : Prop := deltaClonesUptoRow.holds Try.pinned (OpenSpec.upto deltaClonesSpec)

/-- 'lodestonelaw21.DeltaOver', WHERE WHAT IT READS IS OF BULK AT MOST 1048576: true; the input reads as it did. -/
def deltaOverUptoRow : OpenClaim := { program := "ytplfbpihhcnnmab", sum := "b35145a99c5ab459f0964711c498088b4f82a234846a715f7e95a207a4061ba1", func := "lodestone/lodestonelaw21.DeltaOver", spec := "deltaOver", inPlace := ["slices.overlaps[lodestone/api.Change]"], unfollowed := true, recurses := true, apart := false, narrowed := true }
def DeltaOverUptoSaid : Prop := deltaOverUptoRow.holds Try.pinned (OpenSpec.upto deltaOverSpec)

/-- 'lodestonelaw30.LockPlays', WHERE WHAT IT READS IS OF BULK AT MOST 1048576: true; the input reads as it did. -/
def lockPlaysUptoRow : OpenClaim := { program := "ytplfbpihhcnnmab", sum := "b35145a99c5ab459f0964711c498088b4f82a234846a715f7e95a207a4061ba1", func := "lodestone/lodestonelaw30.LockPlays", spec := "lockPlays", apart := false, narrowed := true }
def LockPlaysUptoSaid : Prop := lockPlaysUptoRow.holds Try.pinned (OpenSpec.upto lockPlaysSpec)

/-- 'lodestonelaw30.LockMost', WHERE WHAT IT READS IS OF BULK AT MOST 1048576: true; the input reads as it did. -/
def lockMostUptoRow : OpenClaim := { program := "ytplfbpihhcnnmab", sum := "b35145a99c5ab459f0964711c498088b4f82a234846a715f7e95a207a4061ba1", func := "lodestone/lodestonelaw30.LockMost", spec := "lockMost", apart := false, narrowed := true }
def LockMostUptoSaid : Prop := lockMostUptoRow.holds Try.pinned (OpenSpec.upto lockMostSpec)

/-- 'lodestonelaw31.WaitCircles', WHERE WHAT IT READS IS OF BULK AT MOST 1048576: true; the input reads as it did. -/
def waitCirclesUptoRow : OpenClaim := { program := "ytplfbpihhcnnmab", sum := "b35145a99c5ab459f0964711c498088b4f82a234846a715f7e95a207a4061ba1", func := "lodestone/lodestonelaw31.WaitCircles", spec := "waitCircles", recurses := true, apart := false, narrowed := true }
def WaitCirclesUptoSaid : Prop := waitCirclesUptoRow.holds Try.pinned (OpenSpec.upto waitCirclesSpec)

/-- 'lodestonelaw31.WaitBreaks', WHERE WHAT IT READS IS OF BULK AT MOST 1048576: true; the input reads as it did. -/
def waitBreaksUptoRow : OpenClaim := { program := "ytplfbpihhcnnmab", sum := "b35145a99c5ab459f0964711c498088b4f82a234846a715f7e95a207a4061ba1", func := "lodestone/lodestonelaw31.WaitBreaks", spec := "waitBreaks", recurses := true, apart := false, narrowed := true }
def WaitBreaksUptoSaid : Prop := waitBreaksUptoRow.holds Try.pinned (OpenSpec.upto waitBreaksSpec)

/-- 'lodestonelaw31.WaitNone', WHERE WHAT IT READS IS OF BULK AT MOST 1048576: true; the input reads as it did. -/
def waitNoneUptoRow : OpenClaim := { program := "ytplfbpihhcnnmab", sum := "b35145a99c5ab459f0964711c498088b4f82a234846a715f7e95a207a4061ba1", func := "lodestone/lodestonelaw31.WaitNone", spec := "waitNone", recurses := true, apart := false, narrowed := true }
def WaitNoneUptoSaid : Prop := waitNoneUptoRow.holds Try.pinned (OpenSpec.upto waitNoneSpec)

end Rows
end Go.Proofs.Ytplfbpihhcnnmab
