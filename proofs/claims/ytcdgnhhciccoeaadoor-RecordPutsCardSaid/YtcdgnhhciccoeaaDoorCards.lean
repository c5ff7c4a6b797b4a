/-
  DERIVED. GIVEN WITH THE SEED: THE CARDS: each row of YtcdgnhhciccoeaaDoorRows.lean that lists a variable, with what it lists TIED to the program's text (the seventh form; the later family's looks); each row that meets fmt, with fmt's text TOLD by the authors' own Lean function (tested against real Go, not proved from fmt's source: count such statements apart). THE CARD IS WHAT COUNTS. Prove the row's statement (the work); the ties are given (YtcdgnhhciccoeaaDoorTie.lean); close each card by the builder's one call (the guide's Derived/Test/ToyasCard.lean, 'card_holds'). Laid BY PROGRAM, IN A SANDBOX (cutbox-door.mjs). By AI agents, Wed Nov 11 2026. No macro, syntax, notation, axiom, sorry.
-/
import Derived.Test.YtcdgnhhciccoeaaDoorRows
import GoSem.ClaimSeven
namespace Go.Proofs.YtcdgnhhciccoeaaDoor
namespace Rows

/-- THE TIED CARD OF 'lodestonelaw26.RecordPuts'. -/
def recordPutsCard : Claim7 := { stood := { row := recordPutsRow, standIns := [], harness := (true, "eae1e11dd7db9fafa383f5885858deb5c190b6552ad895643e8457ba44561aaf"), looks := false }, kinds := [], alts := [], laidByText := true, laidKinds := [.data, .pinned], laidTests := true, laidLooks := .later }
def RecordPutsCardSaid : Prop := Claim7.holds Tryd.pinned (.plain (OpenSpec.ofChange recordPutsSpec)) recordPutsCard

/-- THE TIED CARD OF 'lodestonelaw41.ShowReplies'. -/
def showRepliesCard : Claim7 := { stood := { row := showRepliesRow, standIns := [], harness := (true, "eae1e11dd7db9fafa383f5885858deb5c190b6552ad895643e8457ba44561aaf"), looks := false }, kinds := [], alts := [], laidByText := true, laidKinds := [.data, .data, .data], laidTests := true, laidLooks := .later }
def ShowRepliesCardSaid : Prop := Claim7.holds Tryd.pinned (.plain (OpenSpec.ofChange showRepliesSpec)) showRepliesCard

/-- THE TIED CARD OF 'lodestonelaw33.QueryParses'. -/
def queryParsesCard : Claim7 := { stood := { row := queryParsesRow, standIns := [], harness := (true, "eae1e11dd7db9fafa383f5885858deb5c190b6552ad895643e8457ba44561aaf"), looks := false }, kinds := [], alts := [], laidByText := true, laidKinds := [.data, .data, .data], laidTests := true, laidLooks := .later }
def QueryParsesCardSaid : Prop := Claim7.holds Tryd.pinned (.plain (OpenSpec.ofChange queryParsesSpec)) queryParsesCard

/-- THE TIED CARD OF 'lodestonelaw33.QueryMost'. -/
def queryMostCard : Claim7 := { stood := { row := queryMostRow, standIns := [], harness := (true, "eae1e11dd7db9fafa383f5885858deb5c190b6552ad895643e8457ba44561aaf"), looks := false }, kinds := [], alts := [], laidByText := true, laidKinds := [.data, .data, .data], laidTests := true, laidLooks := .later }
def QueryMostCardSaid : Prop := Claim7.holds Tryd.pinned (.plain (OpenSpec.ofChange queryMostSpec)) queryMostCard

/-- THE SECOND FORM's CARD OF 'lodestonelaw26.RecordPuts'. -/
def recordPutsUptoCard : Claim7 := { stood := { row := recordPutsUptoRow, standIns := [], harness := (true, "eae1e11dd7db9fafa383f5885858deb5c190b6552ad895643e8457ba44561aaf"), looks := false }, kinds := [], alts := [], laidByText := true, laidKinds := [.data, .pinned], laidTests := true, laidLooks := .later }
def RecordPutsUptoCardSaid : Prop := Claim7.holds Tryd.pinned (.plain (OpenSpec.upto recordPutsSpec)) recordPutsUptoCard

/-- THE SECOND FORM's CARD OF 'lodestonelaw41.ShowReplies'. -/
def showRepliesUptoCard : Claim7 := { stood := { row := showRepliesUptoRow, standIns := [], harness := (true, "eae1e11dd7db9fafa383f5885858deb5c190b6552ad895643e8457ba44561aaf"), looks := false }, kinds := [], alts := [], laidByText := true, laidKinds := [.data, .data, .data], laidTests := true, laidLooks := .later }
def ShowRepliesUptoCardSaid : Prop := Claim7.holds Tryd.pinned (.plain (OpenSpec.upto showRepliesSpec)) showRepliesUptoCard

/-- THE SECOND FORM's CARD OF 'lodestonelaw33.QueryParses'. -/
def queryParsesUptoCard : Claim7 := { stood := { row := queryParsesUptoRow, standIns := [], harness := (true, "eae1e11dd7db9fafa383f5885858deb5c190b6552ad895643e8457ba44561aaf"), looks := false }, kinds := [], alts := [], laidByText := true, laidKinds := [.data, .data, .data], laidTests := true, laidLooks := .later }
def QueryParsesUptoCardSaid : Prop := Claim7.holds Tryd.pinned (.plain (OpenSpec.upto queryParsesSpec)) queryParsesUptoCard

/-- THE SECOND FORM's CARD OF 'lodestonelaw33.QueryMost'. -/
def queryMostUptoCard : Claim7 := { stood := { row := queryMostUptoRow, standIns := [], harness := (true, "eae1e11dd7db9fafa383f5885858deb5c190b6552ad895643e8457ba44561aaf"), looks := false }, kinds := [], alts := [], laidByText := true, laidKinds := [.data, .data, .data], laidTests := true, laidLooks := .later }
def QueryMostUptoCardSaid : Prop := Claim7.holds Tryd.pinned (.plain (OpenSpec.upto queryMostSpec)) queryMostUptoCard
end Rows
end Go.Proofs.YtcdgnhhciccoeaaDoor
