/-
  DERIVED. GIVEN WITH THE SEED: THE CARDS: each row of YtgbkpkioijbgoaaDoorRows.lean that lists a variable, with what it lists TIED to the program's text (the seventh form; the later family's looks); each row that meets fmt, with fmt's text TOLD by the authors' own Lean function (tested against real Go, not proved from fmt's source: count such statements apart). THE CARD IS WHAT COUNTS. Prove the row's statement (the work); the ties are given (YtgbkpkioijbgoaaDoorTie.lean); close each card by the builder's one call (the guide's Derived/Test/ToyasCard.lean, 'card_holds'). Laid BY PROGRAM, IN A SANDBOX (cutbox-door.mjs). By AI agents, Wed Nov 11 2026. No macro, syntax, notation, axiom, sorry.
-/
import Derived.Test.YtgbkpkioijbgoaaDoorRows
import GoSem.ClaimSeven
namespace Go.Proofs.YtgbkpkioijbgoaaDoor
namespace Rows

/-- THE TIED CARD OF 'lodestonelaw33.QueryParses'. -/
def queryParsesCard : Claim7 := { stood := { row := queryParsesRow, standIns := [], harness := (true, "073499d2b873109fc4d7d6482bd76783755871c3e2255cd164c6537fde48af5c"), looks := false }, kinds := [], alts := [], laidByText := true, laidKinds := [.data, .data, .data], laidTests := true, laidLooks := .later }
def QueryParsesCardSaid : Prop := Claim7.holds Tryd.pinned (.plain (OpenSpec.ofChange queryParsesSpec)) queryParsesCard

/-- THE TIED CARD OF 'lodestonelaw33.QueryMost'. -/
def queryMostCard : Claim7 := { stood := { row := queryMostRow, standIns := [], harness := (true, "073499d2b873109fc4d7d6482bd76783755871c3e2255cd164c6537fde48af5c"), looks := false }, kinds := [], alts := [], laidByText := true, laidKinds := [.data, .data, .data], laidTests := true, laidLooks := .later }
def QueryMostCardSaid : Prop := Claim7.holds Tryd.pinned (.plain (OpenSpec.ofChange queryMostSpec)) queryMostCard

/-- THE TIED CARD OF 'lodestonelaw41.ShowReplies'. -/
def showRepliesCard : Claim7 := { stood := { row := showRepliesRow, standIns := [], harness := (true, "073499d2b873109fc4d7d6482bd76783755871c3e2255cd164c6537fde48af5c"), looks := false }, kinds := [], alts := [], laidByText := true, laidKinds := [.data, .data, .data], laidTests := true, laidLooks := .later }
def ShowRepliesCardSaid : Prop := Claim7.holds Tryd.pinned (.plain (OpenSpec.ofChange showRepliesSpec)) showRepliesCard

/-- THE SECOND FORM's CARD OF 'lodestonelaw33.QueryParses'. -/
def queryParsesUptoCard : Claim7 := { stood := { row := queryParsesUptoRow, standIns := [], harness := (true, "073499d2b873109fc4d7d6482bd76783755871c3e2255cd164c6537fde48af5c"), looks := false }, kinds := [], alts := [], laidByText := true, laidKinds := [.data, .data, .data], laidTests := true, laidLooks := .later }
def QueryParsesUptoCardSaid : Prop := Claim7.holds Tryd.pinned (.plain (OpenSpec.upto queryParsesSpec)) queryParsesUptoCard

/-- THE SECOND FORM's CARD OF 'lodestonelaw33.QueryMost'. -/
def queryMostUptoCard : Claim7 := { stood := { row := queryMostUptoRow, standIns := [], harness := (true, "073499d2b873109fc4d7d6482bd76783755871c3e2255cd164c6537fde48af5c"), looks := false }, kinds := [], alts := [], laidByText := true, laidKinds := [.data, .data, .data], laidTests := true, laidLooks := .later }
def QueryMostUptoCardSaid : Prop := Claim7.holds Tryd.pinned (.plain (OpenSpec.upto queryMostSpec)) queryMostUptoCard

/-- THE SECOND FORM's CARD OF 'lodestonelaw41.ShowReplies'. -/
def showRepliesUptoCard : Claim7 := { stood := { row := showRepliesUptoRow, standIns := [], harness := (true, "073499d2b873109fc4d7d6482bd76783755871c3e2255cd164c6537fde48af5c"), looks := false }, kinds := [], alts := [], laidByText := true, laidKinds := [.data, .data, .data], laidTests := true, laidLooks := .later }
def ShowRepliesUptoCardSaid : Prop := Claim7.holds Tryd.pinned (.plain (OpenSpec.upto showRepliesSpec)) showRepliesUptoCard
end Rows
end Go.Proofs.YtgbkpkioijbgoaaDoor
