/-
  No cell of these rows narrows 'for every input' (looked for: loops, veiled, ifaces, maps, wideKeys, modest, calm, conditions, laid).
  DERIVED. THE GIVEN ROWS OF THIS SEAT. 10 by the template 'for every input the law returns true; each argument reads behind the call as it read before'; 0 by the template 'total and deterministic' (their statements: YtdhboldmffiklaaTotals.lean).
  GIVEN WITH THE SEED: the statements are not yours to turn. If you find one false, say at which input.
  Laid BY PROGRAM, IN A SANDBOX (cutbox-rows.mjs): the forced cells as the released guide's own fill.sh prints them over the translation eb0b4fbefa697394… (all of the seat's roots in one cut). By AI agents, Wed Nov 11 2026. No macro, syntax, notation, axiom, sorry.
-/
import Derived.Test.YtdhboldmffiklaaChecked
import GoSem.Claim
import GoSem.ClaimJoined
import GoSem.ClaimMapViews
import Derived.JoinedTies
import Derived.KernelRfl
namespace Go.Proofs.Ytdhboldmffiklaa
/- THE CELL 'sum', in the pinned program and in every row, IS THE sha256 OF THE DUMP (.gsa) THAT YtdhboldmffiklaaProg.lean LOADS. Nothing in Lean hashes anything: it is a label: what it is worth is what the hold of that sum in a sandbox is worth. -/
noncomputable def Try.pinned : Pinned := { name := "ytdhboldmffiklaa", sum := "eb0b4fbefa6973941b3ec6def398a9170a9ac335a051e70764a5d9942dbd1b35", checked := Try.checked }
namespace Rows
def none {H : Type} : Left H := { results := [], args := [] }

/-- 'lodestonelaw30.LockPlays': WHATEVER THE INPUT: true; the input reads as it did. -/
def lockPlaysSpec : ChangeSpec := { name := "lockPlays", fn := fun _ => fun
  | [d] => { results := [.lit (.bool true)], args := [d] }
  | _ => none }
def lockPlaysRow : OpenClaim := { program := "ytdhboldmffiklaa", sum := "eb0b4fbefa6973941b3ec6def398a9170a9ac335a051e70764a5d9942dbd1b35", func := "lodestone/lodestonelaw30.LockPlays", spec := "lockPlays", apart := false }
def LockPlaysSaid : Prop := lockPlaysRow.holds Try.pinned (OpenSpec.ofChange lockPlaysSpec)

/-- ITS FALSE NEIGHBOUR: 'it returns false'. Refute it at one input. -/
def lockPlaysWrong : ChangeSpec := { name := "lockPlays", fn := fun _ => fun
  | [d] => { results := [.lit (.bool false)], args := [d] }
  | _ => none }
def LockPlaysWrongFalsely : Prop := lockPlaysRow.holds Try.pinned (OpenSpec.ofChange lockPlaysWrong)

/-- 'lodestonelaw30.LockMost': WHATEVER THE INPUT: true; the input reads as it did. -/
def lockMostSpec : ChangeSpec := { name := "lockMost", fn := fun _ => fun
  | [d1, d2] => { results := [.lit (.bool true)], args := [d1, d2] }
  | _ => none }
def lockMostRow : OpenClaim := { program := "ytdhboldmffiklaa", sum := "eb0b4fbefa6973941b3ec6def398a9170a9ac335a051e70764a5d9942dbd1b35", func := "lodestone/lodestonelaw30.LockMost", spec := "lockMost", apart := false }
def LockMostSaid : Prop := lockMostRow.holds Try.pinned (OpenSpec.ofChange lockMostSpec)

/-- ITS FALSE NEIGHBOUR: 'it returns false'. Refute it at one input. -/
def lockMostWrong : ChangeSpec := { name := "lockMost", fn := fun _ => fun
  | [d1, d2] => { results := [.lit (.bool false)], args := [d1, d2] }
  | _ => none }
def LockMostWrongFalsely : Prop := lockMostRow.holds Try.pinned (OpenSpec.ofChange lockMostWrong)

/-- 'lodestonelaw31.WaitNone': WHATEVER THE INPUT: true; the input reads as it did. -/
def waitNoneSpec : ChangeSpec := { name := "waitNone", fn := fun _ => fun
  | [d1, d2] => { results := [.lit (.bool true)], args := [d1, d2] }
  | _ => none }
def waitNoneRow : OpenClaim := { program := "ytdhboldmffiklaa", sum := "eb0b4fbefa6973941b3ec6def398a9170a9ac335a051e70764a5d9942dbd1b35", func := "lodestone/lodestonelaw31.WaitNone", spec := "waitNone", recurses := true, apart := false }
def WaitNoneSaid : Prop := waitNoneRow.holds Try.pinned (OpenSpec.ofChange waitNoneSpec)

/-- ITS FALSE NEIGHBOUR: 'it returns false'. Refute it at one input. -/
def waitNoneWrong : ChangeSpec := { name := "waitNone", fn := fun _ => fun
  | [d1, d2] => { results := [.lit (.bool false)], args := [d1, d2] }
  | _ => none }
def WaitNoneWrongFalsely : Prop := waitNoneRow.holds Try.pinned (OpenSpec.ofChange waitNoneWrong)

/-- 'lodestonelaw21.DeltaOver': WHATEVER THE INPUT: true; the input reads as it did. -/
def deltaOverSpec : ChangeSpec := { name := "deltaOver", fn := fun _ => fun
  | [d1, d2, d3] => { results := [.lit (.bool true)], args := [d1, d2, d3] }
  | _ => none }
def deltaOverRow : OpenClaim := { program := "ytdhboldmffiklaa", sum := "eb0b4fbefa6973941b3ec6def398a9170a9ac335a051e70764a5d9942dbd1b35", func := "lodestone/lodestonelaw21.DeltaOver", spec := "deltaOver", inPlace := ["slices.overlaps[lodestone/api.Change]"], unfollowed := true, recurses := true, apart := false }
def DeltaOverSaid : Prop := deltaOverRow.holds Try.pinned (OpenSpec.ofChange deltaOverSpec)

/-- ITS FALSE NEIGHBOUR: 'it returns false'. Refute it at one input. -/
def deltaOverWrong : ChangeSpec := { name := "deltaOver", fn := fun _ => fun
  | [d1, d2, d3] => { results := [.lit (.bool false)], args := [d1, d2, d3] }
  | _ => none }
def DeltaOverWrongFalsely : Prop := deltaOverRow.holds Try.pinned (OpenSpec.ofChange deltaOverWrong)

/-- 'lodestonelaw17.NodePuts': WHATEVER THE INPUT: true; the input reads as it did. -/
def nodePutsSpec : ChangeSpec := { name := "nodePuts", fn := fun _ => fun
  | [d1, d2, d3] => { results := [.lit (.bool true)], args := [d1, d2, d3] }
  | _ => none }
def nodePutsRow : OpenClaim := { program := "ytdhboldmffiklaa", sum := "eb0b4fbefa6973941b3ec6def398a9170a9ac335a051e70764a5d9942dbd1b35", func := "lodestone/lodestonelaw17.NodePuts", spec := "nodePuts", inPlace := ["internal/abi.NoEscape"], recurses := true, apart := false }
def NodePutsSaid : Prop := nodePutsRow.holds Try.pinned (OpenSpec.ofChange nodePutsSpec)

/-- ITS FALSE NEIGHBOUR: 'it returns false'. Refute it at one input. -/
def nodePutsWrong : ChangeSpec := { name := "nodePuts", fn := fun _ => fun
  | [d1, d2, d3] => { results := [.lit (.bool false)], args := [d1, d2, d3] }
  | _ => none }
def NodePutsWrongFalsely : Prop := nodePutsRow.holds Try.pinned (OpenSpec.ofChange nodePutsWrong)

/-- 'lodestonelaw25.SchemaGets': WHATEVER THE INPUT: true; the input reads as it did. -/
def schemaGetsSpec : ChangeSpec := { name := "schemaGets", fn := fun _ => fun
  | [d1, d2] => { results := [.lit (.bool true)], args := [d1, d2] }
  | _ => none }
def schemaGetsRow : OpenClaim := { program := "ytdhboldmffiklaa", sum := "eb0b4fbefa6973941b3ec6def398a9170a9ac335a051e70764a5d9942dbd1b35", func := "lodestone/lodestonelaw25.SchemaGets", spec := "schemaGets", inPlace := ["internal/abi.NoEscape"], unfollowed := true, recurses := true, apart := false }
def SchemaGetsSaid : Prop := schemaGetsRow.holds Try.pinned (OpenSpec.ofChange schemaGetsSpec)

/-- ITS FALSE NEIGHBOUR: 'it returns false'. Refute it at one input. -/
def schemaGetsWrong : ChangeSpec := { name := "schemaGets", fn := fun _ => fun
  | [d1, d2] => { results := [.lit (.bool false)], args := [d1, d2] }
  | _ => none }
def SchemaGetsWrongFalsely : Prop := schemaGetsRow.holds Try.pinned (OpenSpec.ofChange schemaGetsWrong)

/-- 'lodestonelaw24.NamesPlay': WHATEVER THE INPUT: true; the input reads as it did. -/
def namesPlaySpec : ChangeSpec := { name := "namesPlay", fn := fun _ => fun
  | [d1, d2] => { results := [.lit (.bool true)], args := [d1, d2] }
  | _ => none }
def namesPlayRow : OpenClaim := { program := "ytdhboldmffiklaa", sum := "eb0b4fbefa6973941b3ec6def398a9170a9ac335a051e70764a5d9942dbd1b35", func := "lodestone/lodestonelaw24.NamesPlay", spec := "namesPlay", inPlace := ["internal/abi.NoEscape"], recurses := true, apart := false }
def NamesPlaySaid : Prop := namesPlayRow.holds Try.pinned (OpenSpec.ofChange namesPlaySpec)

/-- ITS FALSE NEIGHBOUR: 'it returns false'. Refute it at one input. -/
def namesPlayWrong : ChangeSpec := { name := "namesPlay", fn := fun _ => fun
  | [d1, d2] => { results := [.lit (.bool false)], args := [d1, d2] }
  | _ => none }
def NamesPlayWrongFalsely : Prop := namesPlayRow.holds Try.pinned (OpenSpec.ofChange namesPlayWrong)

/-- 'lodestonelaw24.NamesGet': WHATEVER THE INPUT: true; the input reads as it did. -/
def namesGetSpec : ChangeSpec := { name := "namesGet", fn := fun _ => fun
  | [d1, d2, d3] => { results := [.lit (.bool true)], args := [d1, d2, d3] }
  | _ => none }
def namesGetRow : OpenClaim := { program := "ytdhboldmffiklaa", sum := "eb0b4fbefa6973941b3ec6def398a9170a9ac335a051e70764a5d9942dbd1b35", func := "lodestone/lodestonelaw24.NamesGet", spec := "namesGet", inPlace := ["internal/abi.NoEscape"], recurses := true, apart := false }
def NamesGetSaid : Prop := namesGetRow.holds Try.pinned (OpenSpec.ofChange namesGetSpec)

/-- ITS FALSE NEIGHBOUR: 'it returns false'. Refute it at one input. -/
def namesGetWrong : ChangeSpec := { name := "namesGet", fn := fun _ => fun
  | [d1, d2, d3] => { results := [.lit (.bool false)], args := [d1, d2, d3] }
  | _ => none }
def NamesGetWrongFalsely : Prop := namesGetRow.holds Try.pinned (OpenSpec.ofChange namesGetWrong)

/-- 'lodestonelaw15.WalJoins': WHATEVER THE INPUT: true; the input reads as it did. -/
def walJoinsSpec : ChangeSpec := { name := "walJoins", fn := fun _ => fun
  | [d1, d2, d3] => { results := [.lit (.bool true)], args := [d1, d2, d3] }
  | _ => none }
def walJoinsRow : OpenClaim := { program := "ytdhboldmffiklaa", sum := "eb0b4fbefa6973941b3ec6def398a9170a9ac335a051e70764a5d9942dbd1b35", func := "lodestone/lodestonelaw15.WalJoins", spec := "walJoins", inPlace := ["internal/abi.NoEscape"], recurses := true, apart := false }
def WalJoinsSaid : Prop := walJoinsRow.holds Try.pinned (OpenSpec.ofChange walJoinsSpec)

/-- ITS FALSE NEIGHBOUR: 'it returns false'. Refute it at one input. -/
def walJoinsWrong : ChangeSpec := { name := "walJoins", fn := fun _ => fun
  | [d1, d2, d3] => { results := [.lit (.bool false)], args := [d1, d2, d3] }
  | _ => none }
def WalJoinsWrongFalsely : Prop := walJoinsRow.holds Try.pinned (OpenSpec.ofChange walJoinsWrong)

/-- 'lodestonelaw15.WalSplits': WHATEVER THE INPUT: true; the input reads as it did. -/
def walSplitsSpec : ChangeSpec := { name := "walSplits", fn := fun _ => fun
  | [d1, d2] => { results := [.lit (.bool true)], args := [d1, d2] }
  | _ => none }
def walSplitsRow : OpenClaim := { program := "ytdhboldmffiklaa", sum := "eb0b4fbefa6973941b3ec6def398a9170a9ac335a051e70764a5d9942dbd1b35", func := "lodestone/lodestonelaw15.WalSplits", spec := "walSplits", inPlace := ["internal/abi.NoEscape"], recurses := true, apart := false }
def WalSplitsSaid : Prop := walSplitsRow.holds Try.pinned (OpenSpec.ofChange walSplitsSpec)

/-- ITS FALSE NEIGHBOUR: 'it returns false'. Refute it at one input. -/
def walSplitsWrong : ChangeSpec := { name := "walSplits", fn := fun _ => fun
  | [d1, d2] => { results := [.lit (.bool false)], args := [d1, d2] }
  | _ => none }
def WalSplitsWrongFalsely : Prop := walSplitsRow.holds Try.pinned (OpenSpec.ofChange walSplitsWrong)

/- THE SECOND FORM. 'bulk': how many values and letters a reading holds, each counted each time it is reached (what is shared counts as often as it is met; a slice's spare places count too). A statement '..UptoSaid' is the law's where the arguments, and the package variables that the reading takes, are together of bulk at most 1048576: NARROWER than '..Said'. Prove '..Said' where nothing that the law and all that it calls make is longer than what came in: it says more and counts as full. Else prove '..UptoSaid'. A law counts once. -/
mutual
def uptoBulk {H : Type} : DataW H → Nat
  | .lit (.string bytes) => bytes.length + 1
  | .lit _ => 1
  | .nil => 1
  | .ptr d => uptoBulk d + 1
  | .slice elems spare => uptoBulkAll elems + uptoBulkAll spare + 1
  | .agg parts => uptoBulkAll parts + 1
  | .iface _ d => uptoBulk d + 1
  | .map entries => uptoBulkEntries entries + 1
  | .held _ => 1
def uptoBulkAll {H : Type} : List (DataW H) → Nat
  | [] => 0
  | d :: r => uptoBulk d + uptoBulkAll r
def uptoBulkEntries {H : Type} : List (Lit × DataW H) → Nat
  | [] => 0
  | x :: r => uptoBulkEntry x + uptoBulkEntries r
def uptoBulkEntry {H : Type} : Lit × DataW H → Nat
  | (.string bytes, d) => bytes.length + uptoBulk d + 1
  | (_, d) => uptoBulk d + 1
 end
def uptoSmall : (H : Type) → List (DataW H) → Bool := fun _ ds => decide (uptoBulkAll ds ≤ 1048576)
def OpenSpec.upto (s : _root_.Go.ChangeSpec) : _root_.Go.OpenSpec := { _root_.Go.OpenSpec.ofChange s with cond := some uptoSmall }

/-- 'lodestonelaw30.LockPlays', WHERE WHAT IT READS IS OF BULK AT MOST 1048576: true; the input reads as it did. -/
def lockPlaysUptoRow : OpenClaim := { program := "ytdhboldmffiklaa", sum := "eb0b4fbefa6973941b3ec6def398a9170a9ac335a051e70764a5d9942dbd1b35", func := "lodestone/lodestonelaw30.LockPlays", spec := "lockPlays", apart := false, narrowed := true }
def LockPlaysUptoSaid : Prop := lockPlaysUptoRow.holds Try.pinned (OpenSpec.upto lockPlaysSpec)

/-- 'lodestonelaw30.LockMost', WHERE WHAT IT READS IS OF BULK AT MOST 1048576: true; the input reads as it did. -/
def lockMostUptoRow : OpenClaim := { program := "ytdhboldmffiklaa", sum := "eb0b4fbefa6973941b3ec6def398a9170a9ac335a051e70764a5d9942dbd1b35", func := "lodestone/lodestonelaw30.LockMost", spec := "lockMost", apart := false, narrowed := true }
def LockMostUptoSaid : Prop := lockMostUptoRow.holds Try.pinned (OpenSpec.upto lockMostSpec)

/-- 'lodestonelaw31.WaitNone', WHERE WHAT IT READS IS OF BULK AT MOST 1048576: true; the input reads as it did. -/
def waitNoneUptoRow : OpenClaim := { program := "ytdhboldmffiklaa", sum := "eb0b4fbefa6973941b3ec6def398a9170a9ac335a051e70764a5d9942dbd1b35", func := "lodestone/lodestonelaw31.WaitNone", spec := "waitNone", recurses := true, apart := false, narrowed := true }
def WaitNoneUptoSaid : Prop := waitNoneUptoRow.holds Try.pinned (OpenSpec.upto waitNoneSpec)

/-- 'lodestonelaw21.DeltaOver', WHERE WHAT IT READS IS OF BULK AT MOST 1048576: true; the input reads as it did. -/
def deltaOverUptoRow : OpenClaim := { program := "ytdhboldmffiklaa", sum := "eb0b4fbefa6973941b3ec6def398a9170a9ac335a051e70764a5d9942dbd1b35", func := "lodestone/lodestonelaw21.DeltaOver", spec := "deltaOver", inPlace := ["slices.overlaps[lodestone/api.Change]"], unfollowed := true, recurses := true, apart := false, narrowed := true }
def DeltaOverUptoSaid : Prop := deltaOverUptoRow.holds Try.pinned (OpenSpec.upto deltaOverSpec)

/-- 'lodestonelaw17.NodePuts', WHERE WHAT IT READS IS OF BULK AT MOST 1048576: true; the input reads as it did. -/
def nodePutsUptoRow : OpenClaim := { program := "ytdhboldmffiklaa", sum := "eb0b4fbefa6973941b3ec6def398a9170a9ac335a051e70764a5d9942dbd1b35", func := "lodestone/lodestonelaw17.NodePuts", spec := "nodePuts", inPlace := ["internal/abi.NoEscape"], recurses := true, apart := false, narrowed := true }
def NodePutsUptoSaid : Prop := nodePutsUptoRow.holds Try.pinned (OpenSpec.upto nodePutsSpec)

/-- 'lodestonelaw25.SchemaGets', WHERE WHAT IT READS IS OF BULK AT MOST 1048576: true; the input reads as it did. -/
def schemaGetsUptoRow : OpenClaim := { program := "ytdhboldmffiklaa", sum := "eb0b4fbefa6973941b3ec6def398a9170a9ac335a051e70764a5d9942dbd1b35", func := "lodestone/lodestonelaw25.SchemaGets", spec := "schemaGets", inPlace := ["internal/abi.NoEscape"], unfollowed := true, recurses := true, apart := false, narrowed := true }
def SchemaGetsUptoSaid : Prop := schemaGetsUptoRow.holds Try.pinned (OpenSpec.upto schemaGetsSpec)

/-- 'lodestonelaw24.NamesPlay', WHERE WHAT IT READS IS OF BULK AT MOST 1048576: true; the input reads as it did. -/
def namesPlayUptoRow : OpenClaim := { program := "ytdhboldmffiklaa", sum := "eb0b4fbefa6973941b3ec6def398a9170a9ac335a051e70764a5d9942dbd1b35", func := "lodestone/lodestonelaw24.NamesPlay", spec := "namesPlay", inPlace := ["internal/abi.NoEscape"], recurses := true, apart := false, narrowed := true }
def NamesPlayUptoSaid : Prop := namesPlayUptoRow.holds Try.pinned (OpenSpec.upto namesPlaySpec)

/-- 'lodestonelaw24.NamesGet', WHERE WHAT IT READS IS OF BULK AT MOST 1048576: true; the input reads as it did. -/
def namesGetUptoRow : OpenClaim := { program := "ytdhboldmffiklaa", sum := "eb0b4fbefa6973941b3ec6def398a9170a9ac335a051e70764a5d9942dbd1b35", func := "lodestone/lodestonelaw24.NamesGet", spec := "namesGet", inPlace := ["internal/abi.NoEscape"], recurses := true, apart := false, narrowed := true }
def NamesGetUptoSaid : Prop := namesGetUptoRow.holds Try.pinned (OpenSpec.upto namesGetSpec)

/-- 'lodestonelaw15.WalJoins', WHERE WHAT IT READS IS OF BULK AT MOST 1048576: true; the input reads as it did. -/
def walJoinsUptoRow : OpenClaim := { program := "ytdhboldmffiklaa", sum := "eb0b4fbefa6973941b3ec6def398a9170a9ac335a051e70764a5d9942dbd1b35", func := "lodestone/lodestonelaw15.WalJoins", spec := "walJoins", inPlace := ["internal/abi.NoEscape"], recurses := true, apart := false, narrowed := true }
def WalJoinsUptoSaid : Prop := walJoinsUptoRow.holds Try.pinned (OpenSpec.upto walJoinsSpec)

/-- 'lodestonelaw15.WalSplits', WHERE WHAT IT READS IS OF BULK AT MOST 1048576: true; the input reads as it did. -/
def walSplitsUptoRow : OpenClaim := { program := "ytdhboldmffiklaa", sum := "eb0b4fbefa6973941b3ec6def398a9170a9ac335a051e70764a5d9942dbd1b35", func := "lodestone/lodestonelaw15.WalSplits", spec := "walSplits", inPlace := ["internal/abi.NoEscape"], recurses := true, apart := false, narrowed := true }
def WalSplitsUptoSaid : Prop := walSplitsUptoRow.holds Try.pinned (OpenSpec.upto walSplitsSpec)

end Rows
end Go.Proofs.Ytdhboldmffiklaa
