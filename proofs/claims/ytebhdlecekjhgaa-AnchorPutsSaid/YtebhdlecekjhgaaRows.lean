/-
  No cell of these rows narrows 'for every input' (looked for: loops, veiled, ifaces, maps, wideKeys, modest, calm, conditions, laid).
  DERIVED. THE GIVEN ROWS OF THIS SEAT. 5 by the template 'for every input the law returns true; each argument reads behind the call as it read before'; 0 by the template 'total and deterministic' (their statements: YtebhdlecekjhgaaTotals.lean).
  GIVEN WITH THE SEED: the statements are not yours to turn. If you find one false, say at which input.
  Laid BY PROGRAM, IN A SANDBOX (cutbox-rows.mjs): the forced cells as the released guide's own fill.sh prints them over the translation 1f3e899a6f4cb1c8… (all of the seat's roots in one cut). By AI agents, Wed Nov 11 2026. No macro, syntax, notation, axiom, sorry.
-/
import Derived.Test.YtebhdlecekjhgaaChecked
import GoSem.Claim
import GoSem.ClaimJoined
import GoSem.ClaimMapViews
import Derived.JoinedTies
import Derived.KernelRfl
namespace Go.Proofs.Ytebhdlecekjhgaa
/- THE CELL 'sum', in the pinned program and in every row, IS THE sha256 OF THE DUMP (.gsa) THAT YtebhdlecekjhgaaProg.lean LOADS. Nothing in Lean hashes anything: it is a label: what it is worth is what the hold of that sum in a sandbox is worth. -/
noncomputable def Try.pinned : Pinned := { name := "ytebhdlecekjhgaa", sum := "1f3e899a6f4cb1c83d3a961af9b3b844bbd98847da23e023170bf964a8cdf2ab", checked := Try.checked }
namespace Rows
def none {H : Type} : Left H := { results := [], args := [] }

/-- 'lodestonelaw12.AnchorPuts': WHATEVER THE INPUT: true; the input reads as it did. -/
def anchorPutsSpec : ChangeSpec := { name := "anchorPuts", fn := fun _ => fun
  | [d1, d2] => { results := [.lit (.bool true)], args := [d1, d2] }
  | _ => none }
def anchorPutsRow : OpenClaim := { program := "ytebhdlecekjhgaa", sum := "1f3e899a6f4cb1c83d3a961af9b3b844bbd98847da23e023170bf964a8cdf2ab", func := "lodestone/lodestonelaw12.AnchorPuts", spec := "anchorPuts", inPlace := ["internal/abi.NoEscape", "internal/bytealg.MakeNoZero"], recurses := true, apart := false }
def AnchorPutsSaid : Prop := anchorPutsRow.holds Try.pinned (OpenSpec.ofChange anchorPutsSpec)

/-- ITS FALSE NEIGHBOUR: 'it returns false'. Refute it at one input. -/
def anchorPutsWrong : ChangeSpec := { name := "anchorPuts", fn := fun _ => fun
  | [d1, d2] => { results := [.lit (.bool false)], args := [d1, d2] }
  | _ => none }
def AnchorPutsWrongFalsely : Prop := anchorPutsRow.holds Try.pinned (OpenSpec.ofChange anchorPutsWrong)

/-- 'lodestonelaw23.ValuePuts': WHATEVER THE INPUT: true; the input reads as it did. -/
def valuePutsSpec : ChangeSpec := { name := "valuePuts", fn := fun _ => fun
  | [d1, d2] => { results := [.lit (.bool true)], args := [d1, d2] }
  | _ => none }
def valuePutsRow : OpenClaim := { program := "ytebhdlecekjhgaa", sum := "1f3e899a6f4cb1c83d3a961af9b3b844bbd98847da23e023170bf964a8cdf2ab", func := "lodestone/lodestonelaw23.ValuePuts", spec := "valuePuts", recurses := true, apart := false }
def ValuePutsSaid : Prop := valuePutsRow.holds Try.pinned (OpenSpec.ofChange valuePutsSpec)

/-- ITS FALSE NEIGHBOUR: 'it returns false'. Refute it at one input. -/
def valuePutsWrong : ChangeSpec := { name := "valuePuts", fn := fun _ => fun
  | [d1, d2] => { results := [.lit (.bool false)], args := [d1, d2] }
  | _ => none }
def ValuePutsWrongFalsely : Prop := valuePutsRow.holds Try.pinned (OpenSpec.ofChange valuePutsWrong)

/-- 'lodestonelaw30.LockPlays': WHATEVER THE INPUT: true; the input reads as it did. -/
def lockPlaysSpec : ChangeSpec := { name := "lockPlays", fn := fun _ => fun
  | [d] => { results := [.lit (.bool true)], args := [d] }
  | _ => none }
def lockPlaysRow : OpenClaim := { program := "ytebhdlecekjhgaa", sum := "1f3e899a6f4cb1c83d3a961af9b3b844bbd98847da23e023170bf964a8cdf2ab", func := "lodestone/lodestonelaw30.LockPlays", spec := "lockPlays", apart := false }
def LockPlaysSaid : Prop := lockPlaysRow.holds Try.pinned (OpenSpec.ofChange lockPlaysSpec)

/-- ITS FALSE NEIGHBOUR: 'it returns false'. Refute it at one input. -/
def lockPlaysWrong : ChangeSpec := { name := "lockPlays", fn := fun _ => fun
  | [d] => { results := [.lit (.bool false)], args := [d] }
  | _ => none }
def LockPlaysWrongFalsely : Prop := lockPlaysRow.holds Try.pinned (OpenSpec.ofChange lockPlaysWrong)

/-- 'lodestonelaw30.LockMost': WHATEVER THE INPUT: true; the input reads as it did. -/
def lockMostSpec : ChangeSpec := { name := "lockMost", fn := fun _ => fun
  | [d1, d2] => { results := [.lit (.bool true)], args := [d1, d2] }
  | _ => none }
def lockMostRow : OpenClaim := { program := "ytebhdlecekjhgaa", sum := "1f3e899a6f4cb1c83d3a961af9b3b844bbd98847da23e023170bf964a8cdf2ab", func := "lodestone/lodestonelaw30.LockMost", spec := "lockMost", apart := false }
def LockMostSaid : Prop := lockMostRow.holds Try.pinned (OpenSpec.ofChange lockMostSpec)

/-- ITS FALSE NEIGHBOUR: 'it returns false'. Refute it at one input. -/
def lockMostWrong : ChangeSpec := { name := "lockMost", fn := fun _ => fun
  | [d1, d2] => { results := [.lit (.bool false)], args := [d1, d2] }
  | _ => none }
def LockMostWrongFalsely : Prop := lockMostRow.holds Try.pinned (OpenSpec.ofChange lockMostWrong)

/-- 'lodestonelaw31.WaitNone': WHATEVER THE INPUT: true; the input reads as it did. -/
def waitNoneSpec : ChangeSpec := { name := "waitNone", fn := fun _ => fun
  | [d1, d2] => { results := [.lit (.bool true)], args := [d1, d2] }
  | _ => none }
def waitNoneRow : OpenClaim := { program := "ytebhdlecekjhgaa", sum := "1f3e899a6f4cb1c83d3a961af9b3b844bbd98847da23e023170bf964a8cdf2ab", func := "lodestone/lodestonelaw31.WaitNone", spec := "waitNone", recurses := true, apart := false }
def WaitNoneSaid : Prop := waitNoneRow.holds Try.pinned (OpenSpec.ofChange waitNoneSpec)

/-- ITS FALSE NEIGHBOUR: 'it returns false'. Refute it at one input. -/
def waitNoneWrong : ChangeSpec := { name := "waitNone", fn := fun _ => fun
  | [d1, d2] => { results := [.lit (.bool false)], args := [d1, d2] }
  | _ => none }
def WaitNoneWrongFalsely : Prop := waitNoneRow.holds Try.pinned (OpenSpec.ofChange waitNoneWrong)

/- THE SECOND FORM. 'bulk': how many values and letters a reading holds, each counted each time it is reached (what is shared counts as often as it is met; a slice's spare places count too). A statement '..UptoSaid' is the law's where the arguments, and the package variables that the reading takes, are together of bulk at most 1048576: NARROWER than '..Said'. Prove '..Said' where nothing that the law and all that it calls make is longer than what came in: it says more and counts as full. Else prove '..UptoSaid'. A law counts once. -/
mutual
def uptoBulk {H : Type} : DataW H → Nat
  | .lit (.string bytes) => bytes.length + 1
  | .lit _ => 1
  | .nil => 1
  | .ptr d => uptoBulk d + 1
  | .slice elems spare => uptoBulkAll elems + uptoBulkAll spare + 1
  | .agg parts => uptoBulkAll parts + 1
  | .iface _ d => uptoBulk d + 1
  | .map entries => uptoBulkEntries entries + 1
  | .held _ => 1
def uptoBulkAll {H : Type} : List (DataW H) → Nat
  | [] => 0
  | d :: r => uptoBulk d + uptoBulkAll r
def uptoBulkEntries {H : Type} : List (Lit × DataW H) → Nat
  | [] => 0
  | x :: r => uptoBulkEntry x + uptoBulkEntries r
def uptoBulkEntry {H : Type} : Lit × DataW H → Nat
  | (.string bytes, d) => bytes.length + uptoBulk d + 1
  | (_, d) => uptoBulk d + 1
 end
def uptoSmall : (H : Type) → List (DataW H) → Bool := fun _ ds => decide (uptoBulkAll ds ≤ 1048576)
def OpenSpec.upto (s : _root_.Go.ChangeSpec) : _root_.Go.OpenSpec := { _root_.Go.OpenSpec.ofChange s with cond := some uptoSmall }

/-- 'lodestonelaw12.AnchorPuts', WHERE WHAT IT READS IS OF BULK AT MOST 1048576: true; the input reads as it did. -/
def anchorPutsUptoRow : OpenClaim := { program := "ytebhdlecekjhgaa", sum := "1f3e899a6f4cb1c83d3a961af9b3b844bbd98847da23e023170bf964a8cdf2ab", func := "lodestone/lodestonelaw12.AnchorPuts", spec := "anchorPuts", inPlace := ["internal/abi.NoEscape", "internal/bytealg.MakeNoZero"], recurses := true, apart := false, narrowed := true }
def AnchorPutsUptoSaid : Prop := anchorPutsUptoRow.holds Try.pinned (OpenSpec.upto anchorPutsSpec)

/-- 'lodestonelaw23.ValuePuts', WHERE WHAT IT READS IS OF BULK AT MOST 1048576: true; the input reads as it did. -/
def valuePutsUptoRow : OpenClaim := { program := "ytebhdlecekjhgaa", sum := "1f3e899a6f4cb1c83d3a961af9b3b844bbd98847da23e023170bf964a8cdf2ab", func := "lodestone/lodestonelaw23.ValuePuts", spec := "valuePuts", recurses := true, apart := false, narrowed := true }
def ValuePutsUptoSaid : Prop := valuePutsUptoRow.holds Try.pinned (OpenSpec.upto valuePutsSpec)

/-- 'lodestonelaw30.LockPlays', WHERE WHAT IT READS IS OF BULK AT MOST 1048576: true; the input reads as it did. -/
def lockPlaysUptoRow : OpenClaim := { program := "ytebhdlecekjhgaa", sum := "1f3e899a6f4cb1c83d3a961af9b3b844bbd98847da23e023170bf964a8cdf2ab", func := "lodestone/lodestonelaw30.LockPlays", spec := "lockPlays", apart := false, narrowed := true }
def LockPlaysUptoSaid : Prop := lockPlaysUptoRow.holds Try.pinned (OpenSpec.upto lockPlaysSpec)

/-- 'lodestonelaw30.LockMost', WHERE WHAT IT READS IS OF BULK AT MOST 1048576: true; the input reads as it did. -/
def lockMostUptoRow : OpenClaim := { program := "ytebhdlecekjhgaa", sum := "1f3e899a6f4cb1c83d3a961af9b3b844bbd98847da23e023170bf964a8cdf2ab", func := "lodestone/lodestonelaw30.LockMost", spec := "lockMost", apart := false, narrowed := true }
def LockMostUptoSaid : Prop := lockMostUptoRow.holds Try.pinned (OpenSpec.upto lockMostSpec)

/-- 'lodestonelaw31.WaitNone', WHERE WHAT IT READS IS OF BULK AT MOST 1048576: true; the input reads as it did. -/
def waitNoneUptoRow : OpenClaim := { program := "ytebhdlecekjhgaa", sum := "1f3e899a6f4cb1c83d3a961af9b3b844bbd98847da23e023170bf964a8cdf2ab", func := "lodestone/lodestonelaw31.WaitNone", spec := "waitNone", recurses := true, apart := false, narrowed := true }
def WaitNoneUptoSaid : Prop := waitNoneUptoRow.holds Try.pinned (OpenSpec.upto waitNoneSpec)

end Rows
end Go.Proofs.Ytebhdlecekjhgaa
