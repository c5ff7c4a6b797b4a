/-
  No cell of these rows narrows 'for every input' (looked for: loops, veiled, ifaces, maps, wideKeys, modest, calm, conditions, laid).
  DERIVED. THE GIVEN ROWS OF THIS SEAT. 5 by the template 'for every input the law returns true; each argument reads behind the call as it read before'; 0 by the template 'total and deterministic' (their statements: YtdgpalileloekaaTotals.lean).
  GIVEN WITH THE SEED: the statements are not yours to turn. If you find one false, say at which input.
  Laid BY PROGRAM, IN A SANDBOX (cutbox-rows.mjs): the forced cells as the released guide's own fill.sh prints them over the translation 98e8f4cd7bac6276… (all of the seat's roots in one cut). By AI agents, Wed Nov 11 2026. No macro, syntax, notation, axiom, sorry.
-/
import Derived.Test.YtdgpalileloekaaChecked
import GoSem.Claim
import GoSem.ClaimJoined
import GoSem.ClaimMapViews
import Derived.JoinedTies
import Derived.KernelRfl
namespace Go.Proofs.Ytdgpalileloekaa
/- THE CELL 'sum', in the pinned program and in every row, IS THE sha256 OF THE DUMP (.gsa) THAT YtdgpalileloekaaProg.lean LOADS. Nothing in Lean hashes anything: it is a label: what it is worth is what the hold of that sum in a sandbox is worth. -/
noncomputable def Try.pinned : Pinned := { name := "ytdgpalileloekaa", sum := "98e8f4cd7bac62766454e5bd049cd98110a32d2b8ad88329f33f2ce130b328f7", checked := Try.checked }
namespace Rows
def none {H : Type} : Left H := { results := [], args := [] }

/-- 'lodestonelaw17.NodePuts': WHATEVER THE INPUT: true; the input reads as it did. -/
def nodePutsSpec : ChangeSpec := { name := "nodePuts", fn := fun _ => fun
  | [d1, d2, d3] => { results := [.lit (.bool true)], args := [d1, d2, d3] }
  | _ => none }
def nodePutsRow : OpenClaim := { program := "ytdgpalileloekaa", sum := "98e8f4cd7bac62766454e5bd049cd98110a32d2b8ad88329f33f2ce130b328f7", func := "lodestone/lodestonelaw17.NodePuts", spec := "nodePuts", inPlace := ["internal/abi.NoEscape"], recurses := true, apart := false }
def NodePutsSaid : Prop := nodePutsRow.holds Try.pinned (OpenSpec.ofChange nodePutsSpec)

/-- ITS FALSE NEIGHBOUR: 'it returns false'. Refute it at one input. -/
def nodePutsWrong : ChangeSpec := { name := "nodePuts", fn := fun _ => fun
  | [d1, d2, d3] => { results := [.lit (.bool false)], args := [d1, d2, d3] }
  | _ => none }
def NodePutsWrongFalsely : Prop := nodePutsRow.holds Try.pinned (OpenSpec.ofChange nodePutsWrong)

/-- 'lodestonelaw17.NodeSplits': WHATEVER THE INPUT: true; the input reads as it did. -/
def nodeSplitsSpec : ChangeSpec := { name := "nodeSplits", fn := fun _ => fun
  | [d1, d2, d3] => { results := [.lit (.bool true)], args := [d1, d2, d3] }
  | _ => none }
def nodeSplitsRow : OpenClaim := { program := "ytdgpalileloekaa", sum := "98e8f4cd7bac62766454e5bd049cd98110a32d2b8ad88329f33f2ce130b328f7", func := "lodestone/lodestonelaw17.NodeSplits", spec := "nodeSplits", inPlace := ["internal/abi.NoEscape"], recurses := true, apart := false }
def NodeSplitsSaid : Prop := nodeSplitsRow.holds Try.pinned (OpenSpec.ofChange nodeSplitsSpec)

/-- ITS FALSE NEIGHBOUR: 'it returns false'. Refute it at one input. -/
def nodeSplitsWrong : ChangeSpec := { name := "nodeSplits", fn := fun _ => fun
  | [d1, d2, d3] => { results := [.lit (.bool false)], args := [d1, d2, d3] }
  | _ => none }
def NodeSplitsWrongFalsely : Prop := nodeSplitsRow.holds Try.pinned (OpenSpec.ofChange nodeSplitsWrong)

/-- 'lodestonelaw24.NamesPlay': WHATEVER THE INPUT: true; the input reads as it did. -/
def namesPlaySpec : ChangeSpec := { name := "namesPlay", fn := fun _ => fun
  | [d1, d2] => { results := [.lit (.bool true)], args := [d1, d2] }
  | _ => none }
def namesPlayRow : OpenClaim := { program := "ytdgpalileloekaa", sum := "98e8f4cd7bac62766454e5bd049cd98110a32d2b8ad88329f33f2ce130b328f7", func := "lodestone/lodestonelaw24.NamesPlay", spec := "namesPlay", inPlace := ["internal/abi.NoEscape"], recurses := true, apart := false }
def NamesPlaySaid : Prop := namesPlayRow.holds Try.pinned (OpenSpec.ofChange namesPlaySpec)

/-- ITS FALSE NEIGHBOUR: 'it returns false'. Refute it at one input. -/
def namesPlayWrong : ChangeSpec := { name := "namesPlay", fn := fun _ => fun
  | [d1, d2] => { results := [.lit (.bool false)], args := [d1, d2] }
  | _ => none }
def NamesPlayWrongFalsely : Prop := namesPlayRow.holds Try.pinned (OpenSpec.ofChange namesPlayWrong)

/-- 'lodestonelaw24.NamesGet': WHATEVER THE INPUT: true; the input reads as it did. -/
def namesGetSpec : ChangeSpec := { name := "namesGet", fn := fun _ => fun
  | [d1, d2, d3] => { results := [.lit (.bool true)], args := [d1, d2, d3] }
  | _ => none }
def namesGetRow : OpenClaim := { program := "ytdgpalileloekaa", sum := "98e8f4cd7bac62766454e5bd049cd98110a32d2b8ad88329f33f2ce130b328f7", func := "lodestone/lodestonelaw24.NamesGet", spec := "namesGet", inPlace := ["internal/abi.NoEscape"], recurses := true, apart := false }
def NamesGetSaid : Prop := namesGetRow.holds Try.pinned (OpenSpec.ofChange namesGetSpec)

/-- ITS FALSE NEIGHBOUR: 'it returns false'. Refute it at one input. -/
def namesGetWrong : ChangeSpec := { name := "namesGet", fn := fun _ => fun
  | [d1, d2, d3] => { results := [.lit (.bool false)], args := [d1, d2, d3] }
  | _ => none }
def NamesGetWrongFalsely : Prop := namesGetRow.holds Try.pinned (OpenSpec.ofChange namesGetWrong)

/-- 'lodestonelaw25.SchemaPlays': WHATEVER THE INPUT: true; the input reads as it did. -/
def schemaPlaysSpec : ChangeSpec := { name := "schemaPlays", fn := fun _ => fun
  | [d1, d2] => { results := [.lit (.bool true)], args := [d1, d2] }
  | _ => none }
def schemaPlaysRow : OpenClaim := { program := "ytdgpalileloekaa", sum := "98e8f4cd7bac62766454e5bd049cd98110a32d2b8ad88329f33f2ce130b328f7", func := "lodestone/lodestonelaw25.SchemaPlays", spec := "schemaPlays", inPlace := ["internal/abi.NoEscape"], unfollowed := true, recurses := true, apart := false }
def SchemaPlaysSaid : Prop := schemaPlaysRow.holds Try.pinned (OpenSpec.ofChange schemaPlaysSpec)

/-- ITS FALSE NEIGHBOUR: 'it returns false'. Refute it at one input. -/
def schemaPlaysWrong : ChangeSpec := { name := "schemaPlays", fn := fun _ => fun
  | [d1, d2] => { results := [.lit (.bool false)], args := [d1, d2] }
  | _ => none }
def SchemaPlaysWrongFalsely : Prop := schemaPlaysRow.holds Try.pinned (OpenSpec.ofChange schemaPlaysWrong)

/- THE SECOND FORM. 'bulk': how many values and letters a reading holds, each counted each time it is reached (what is shared counts as often as it is met; a slice's spare places count too). A statement '..UptoSaid' is the law's where the arguments, and the package variables that the reading takes, are together of bulk at most 1048576: NARROWER than '..Said'. Prove '..Said' where nothing that the law and all that it calls make is longer than what came in: it says more and counts as full. Else prove '..UptoSaid'. A law counts once. -/
mutual
def uptoBulk {H : Type} : DataW H → Nat
  | .lit (.string bytes) => bytes.length + 1
  | .lit _ => 1
  | .nil => 1
  | .ptr d => uptoBulk d + 1
  | .slice elems spare => uptoBulkAll elems + uptoBulkAll spare + 1
  | .agg parts => uptoBulkAll parts + 1
  | .iface _ d => uptoBulk d + 1
  | .map entries => uptoBulkEntries entries + 1
  | .held _ => 1
def uptoBulkAll {H : Type} : List (DataW H) → Nat
  | [] => 0
  | d :: r => uptoBulk d + uptoBulkAll r
def uptoBulkEntries {H : Type} : List (Lit × DataW H) → Nat
  | [] => 0
  | x :: r => uptoBulkEntry x + uptoBulkEntries r
def uptoBulkEntry {H : Type} : Lit × DataW H → Nat
  | (.string bytes, d) => bytes.length + uptoBulk d + 1
  | (_, d) => uptoBulk d + 1
 end
def uptoSmall : (H : Type) → List (DataW H) → Bool := fun _ ds => decide (uptoBulkAll ds ≤ 1048576)
def OpenSpec.upto (s : _root_.Go.ChangeSpec) : _root_.Go.OpenSpec := { _root_.Go.OpenSpec.ofChange s with cond := some uptoSmall }

/-- 'lodestonelaw17.NodePuts', WHERE WHAT IT READS IS OF BULK AT MOST 1048576: true; the input reads as it did. -/
def nodePutsUptoRow : OpenClaim := { program := "ytdgpalileloekaa", sum := "98e8f4cd7bac62766454e5bd049cd98110a32d2b8ad88329f33f2ce130b328f7", func := "lodestone/lodestonelaw17.NodePuts", spec := "nodePuts", inPlace := ["internal/abi.NoEscape"], recurses := true, apart := false, narrowed := true }
def NodePutsUptoSaid : Prop := nodePutsUptoRow.holds Try.pinned (OpenSpec.upto nodePutsSpec)

/-- 'lodestonelaw17.NodeSplits', WHERE WHAT IT READS IS OF BULK AT MOST 1048576: true; the input reads as it did. -/
def nodeSplitsUptoRow : OpenClaim := { program := "ytdgpalileloekaa", sum := "98e8f4cd7bac62766454e5bd049cd98110a32d2b8ad88329f33f2ce130b328f7", func := "lodestone/lodestonelaw17.NodeSplits", spec := "nodeSplits", inPlace := ["internal/abi.NoEscape"], recurses := true, apart := false, narrowed := true }
def NodeSplitsUptoSaid : Prop := nodeSplitsUptoRow.holds Try.pinned (OpenSpec.upto nodeSplitsSpec)

/-- 'lodestonelaw24.NamesPlay', WHERE WHAT IT READS IS OF BULK AT MOST 1048576: true; the input reads as it did. -/
def namesPlayUptoRow : OpenClaim := { program := "ytdgpalileloekaa", sum := "98e8f4cd7bac62766454e5bd049cd98110a32d2b8ad88329f33f2ce130b328f7", func := "lodestone/lodestonelaw24.NamesPlay", spec := "namesPlay", inPlace := ["internal/abi.NoEscape"], recurses := true, apart := false, narrowed := true }
def NamesPlayUptoSaid : Prop := namesPlayUptoRow.holds Try.pinned (OpenSpec.upto namesPlaySpec)

/-- 'lodestonelaw24.NamesGet', WHERE WHAT IT READS IS OF BULK AT MOST 1048576: true; the input reads as it did. -/
def namesGetUptoRow : OpenClaim := { program := "ytdgpalileloekaa", sum := "98e8f4cd7bac62766454e5bd049cd98110a32d2b8ad88329f33f2ce130b328f7", func := "lodestone/lodestonelaw24.NamesGet", spec := "namesGet", inPlace := ["internal/abi.NoEscape"], recurses := true, apart := false, narrowed := true }
def NamesGetUptoSaid : Prop := namesGetUptoRow.holds Try.pinned (OpenSpec.upto namesGetSpec)

/-- 'lodestonelaw25.SchemaPlays', WHERE WHAT IT READS IS OF BULK AT MOST 1048576: true; the input reads as it did. -/
def schemaPlaysUptoRow : OpenClaim := { program := "ytdgpalileloekaa", sum := "98e8f4cd7bac62766454e5bd049cd98110a32d2b8ad88329f33f2ce130b328f7", func := "lodestone/lodestonelaw25.SchemaPlays", spec := "schemaPlays", inPlace := ["internal/abi.NoEscape"], unfollowed := true, recurses := true, apart := false, narrowed := true }
def SchemaPlaysUptoSaid : Prop := schemaPlaysUptoRow.holds Try.pinned (OpenSpec.upto schemaPlaysSpec)

end Rows
end Go.Proofs.Ytdgpalileloekaa
