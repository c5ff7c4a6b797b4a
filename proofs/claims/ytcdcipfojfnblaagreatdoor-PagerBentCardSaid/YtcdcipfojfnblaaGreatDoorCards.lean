/-
  DERIVED. GIVEN WITH THE SEED: THE CARDS: each row of YtcdcipfojfnblaaGreatDoorRows.lean that lists a variable, with what it lists TIED to the program's text (the seventh form; the later family's looks); each row that meets fmt, with fmt's text TOLD by the authors' own Lean function (tested against real Go, not proved from fmt's source: count such statements apart). THE CARD IS WHAT COUNTS. Prove the row's statement (the work); the ties are given (YtcdcipfojfnblaaGreatDoorTie.lean); close each card by the builder's one call (the guide's Derived/Test/ToyasCard.lean, 'card_holds'). Laid BY PROGRAM, IN A SANDBOX (cutbox-door.mjs). By AI agents, Wed Nov 11 2026. No macro, syntax, notation, axiom, sorry.
-/
import Derived.Test.YtcdcipfojfnblaaGreatDoorRows
import GoSem.ClaimSeven
namespace Go.Proofs.YtcdcipfojfnblaaGreatDoor
namespace Rows

/-- THE TIED CARD OF 'lodestonelaw16.PagerPlays'. -/
def pagerPlaysCard : Claim7 := { stood := { row := pagerPlaysRow, standIns := [], harness := (true, "1945a7eff02cba4c09f1f271c9845e134d4e0e6a4b70f3d7529f86872ac85abe"), looks := false }, kinds := [], alts := [], laidByText := true, laidKinds := [.data, .data, .pinned], laidTests := true, laidLooks := .later }
def PagerPlaysCardSaid : Prop := Claim7.holds Tryz.pinned (.plain (OpenSpec.ofChange pagerPlaysSpec)) pagerPlaysCard

/-- THE TIED CARD OF 'lodestonelaw16.PagerHeads'. -/
def pagerHeadsCard : Claim7 := { stood := { row := pagerHeadsRow, standIns := [], harness := (true, "1945a7eff02cba4c09f1f271c9845e134d4e0e6a4b70f3d7529f86872ac85abe"), looks := false }, kinds := [], alts := [], laidByText := true, laidKinds := [.data, .data, .pinned], laidTests := true, laidLooks := .later }
def PagerHeadsCardSaid : Prop := Claim7.holds Tryz.pinned (.plain (OpenSpec.ofChange pagerHeadsSpec)) pagerHeadsCard

/-- THE TIED CARD OF 'lodestonelaw16.PagerLays'. -/
def pagerLaysCard : Claim7 := { stood := { row := pagerLaysRow, standIns := [], harness := (true, "1945a7eff02cba4c09f1f271c9845e134d4e0e6a4b70f3d7529f86872ac85abe"), looks := false }, kinds := [], alts := [], laidByText := true, laidKinds := [.data, .data, .pinned], laidTests := true, laidLooks := .later }
def PagerLaysCardSaid : Prop := Claim7.holds Tryz.pinned (.plain (OpenSpec.ofChange pagerLaysSpec)) pagerLaysCard

/-- THE TIED CARD OF 'lodestonelaw16.PagerBent'. -/
def pagerBentCard : Claim7 := { stood := { row := pagerBentRow, standIns := [], harness := (true, "1945a7eff02cba4c09f1f271c9845e134d4e0e6a4b70f3d7529f86872ac85abe"), looks := false }, kinds := [], alts := [], laidByText := true, laidKinds := [.data, .data, .pinned], laidTests := true, laidLooks := .later }
def PagerBentCardSaid : Prop := Claim7.holds Tryz.pinned (.plain (OpenSpec.ofChange pagerBentSpec)) pagerBentCard

/-- THE TIED CARD OF 'lodestonelaw16.PagerNone'. -/
def pagerNoneCard : Claim7 := { stood := { row := pagerNoneRow, standIns := [], harness := (true, "1945a7eff02cba4c09f1f271c9845e134d4e0e6a4b70f3d7529f86872ac85abe"), looks := false }, kinds := [], alts := [], laidByText := true, laidKinds := [.data, .data, .pinned], laidTests := true, laidLooks := .later }
def PagerNoneCardSaid : Prop := Claim7.holds Tryz.pinned (.plain (OpenSpec.ofChange pagerNoneSpec)) pagerNoneCard

/-- THE SECOND FORM's CARD OF 'lodestonelaw16.PagerPlays'. -/
def pagerPlaysUptoCard : Claim7 := { stood := { row := pagerPlaysUptoRow, standIns := [], harness := (true, "1945a7eff02cba4c09f1f271c9845e134d4e0e6a4b70f3d7529f86872ac85abe"), looks := false }, kinds := [], alts := [], laidByText := true, laidKinds := [.data, .data, .pinned], laidTests := true, laidLooks := .later }
def PagerPlaysUptoCardSaid : Prop := Claim7.holds Tryz.pinned (.plain (OpenSpec.upto pagerPlaysSpec)) pagerPlaysUptoCard

/-- THE SECOND FORM's CARD OF 'lodestonelaw16.PagerHeads'. -/
def pagerHeadsUptoCard : Claim7 := { stood := { row := pagerHeadsUptoRow, standIns := [], harness := (true, "1945a7eff02cba4c09f1f271c9845e134d4e0e6a4b70f3d7529f86872ac85abe"), looks := false }, kinds := [], alts := [], laidByText := true, laidKinds := [.data, .data, .pinned], laidTests := true, laidLooks := .later }
def PagerHeadsUptoCardSaid : Prop := Claim7.holds Tryz.pinned (.plain (OpenSpec.upto pagerHeadsSpec)) pagerHeadsUptoCard

/-- THE SECOND FORM's CARD OF 'lodestonelaw16.PagerLays'. -/
def pagerLaysUptoCard : Claim7 := { stood := { row := pagerLaysUptoRow, standIns := [], harness := (true, "1945a7eff02cba4c09f1f271c9845e134d4e0e6a4b70f3d7529f86872ac85abe"), looks := false }, kinds := [], alts := [], laidByText := true, laidKinds := [.data, .data, .pinned], laidTests := true, laidLooks := .later }
def PagerLaysUptoCardSaid : Prop := Claim7.holds Tryz.pinned (.plain (OpenSpec.upto pagerLaysSpec)) pagerLaysUptoCard

/-- THE SECOND FORM's CARD OF 'lodestonelaw16.PagerBent'. -/
def pagerBentUptoCard : Claim7 := { stood := { row := pagerBentUptoRow, standIns := [], harness := (true, "1945a7eff02cba4c09f1f271c9845e134d4e0e6a4b70f3d7529f86872ac85abe"), looks := false }, kinds := [], alts := [], laidByText := true, laidKinds := [.data, .data, .pinned], laidTests := true, laidLooks := .later }
def PagerBentUptoCardSaid : Prop := Claim7.holds Tryz.pinned (.plain (OpenSpec.upto pagerBentSpec)) pagerBentUptoCard

/-- THE SECOND FORM's CARD OF 'lodestonelaw16.PagerNone'. -/
def pagerNoneUptoCard : Claim7 := { stood := { row := pagerNoneUptoRow, standIns := [], harness := (true, "1945a7eff02cba4c09f1f271c9845e134d4e0e6a4b70f3d7529f86872ac85abe"), looks := false }, kinds := [], alts := [], laidByText := true, laidKinds := [.data, .data, .pinned], laidTests := true, laidLooks := .later }
def PagerNoneUptoCardSaid : Prop := Claim7.holds Tryz.pinned (.plain (OpenSpec.upto pagerNoneSpec)) pagerNoneUptoCard
end Rows
end Go.Proofs.YtcdcipfojfnblaaGreatDoor
