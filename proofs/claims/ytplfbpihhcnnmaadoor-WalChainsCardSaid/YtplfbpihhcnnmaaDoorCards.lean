/-
  DERIVED. GIVEN WITH THE SEED: THE CARDS: each row of YtplfbpihhcnnmaaDoorRows.lean that lists a variable, with what it lists TIED to the program's text (the seventh form; the later family's looks); each row that meets fmt, with fmt's text TOLD by the authors' own Lean function (tested against real Go, not proved from fmt's source: count such statements apart). THE CARD IS WHAT COUNTS. Prove the row's statement (the work); the ties are given (YtplfbpihhcnnmaaDoorTie.lean); close each card by the builder's one call (the guide's Derived/Test/ToyasCard.lean, 'card_holds'). Laid BY PROGRAM, IN A SANDBOX (cutbox-door.mjs). By AI agents, Wed Nov 11 2026. No macro, syntax, notation, axiom, sorry.
-/
import Derived.Test.YtplfbpihhcnnmaaDoorRows
import GoSem.ClaimSeven
namespace Go.Proofs.YtplfbpihhcnnmaaDoor
namespace Rows

/-- THE TIED CARD OF 'lodestonelaw26.RecordPuts'. -/
def recordPutsCard : Claim7 := { stood := { row := recordPutsRow, standIns := [], harness := (true, "ec586f472318683f66328721bc9114e0e28692a5b7498bc5b04855a660b42d5f"), looks := false }, kinds := [], alts := [], laidByText := true, laidKinds := [.data, .pinned], laidTests := true, laidLooks := .later }
def RecordPutsCardSaid : Prop := Claim7.holds Tryd.pinned (.plain (OpenSpec.ofChange recordPutsSpec)) recordPutsCard

/-- THE TIED CARD OF 'lodestonelaw26.RecordWith'. -/
def recordWithCard : Claim7 := { stood := { row := recordWithRow, standIns := [], harness := (true, "ec586f472318683f66328721bc9114e0e28692a5b7498bc5b04855a660b42d5f"), looks := false }, kinds := [], alts := [], laidByText := true, laidKinds := [.data, .pinned], laidTests := true, laidLooks := .later }
def RecordWithCardSaid : Prop := Claim7.holds Tryd.pinned (.plain (OpenSpec.ofChange recordWithSpec)) recordWithCard

/-- THE TIED CARD OF 'lodestonelaw41.ShowReplies'. -/
def showRepliesCard : Claim7 := { stood := { row := showRepliesRow, standIns := [], harness := (true, "ec586f472318683f66328721bc9114e0e28692a5b7498bc5b04855a660b42d5f"), looks := false }, kinds := [], alts := [], laidByText := true, laidKinds := [.data, .data, .data], laidTests := true, laidLooks := .later }
def ShowRepliesCardSaid : Prop := Claim7.holds Tryd.pinned (.plain (OpenSpec.ofChange showRepliesSpec)) showRepliesCard

/-- THE TIED CARD OF 'lodestonelaw15.WalChains'. -/
def walChainsCard : Claim7 := { stood := { row := walChainsRow, standIns := [], harness := (true, "ec586f472318683f66328721bc9114e0e28692a5b7498bc5b04855a660b42d5f"), looks := false }, kinds := [], alts := [], laidByText := true, laidKinds := [.data], laidTests := true, laidLooks := .later }
def WalChainsCardSaid : Prop := Claim7.holds Tryd.pinned (.plain (OpenSpec.ofChange walChainsSpec)) walChainsCard

/-- THE TIED CARD OF 'lodestonelaw23.ValueOrders'. -/
def valueOrdersCard : Claim7 := { stood := { row := valueOrdersRow, standIns := [], harness := (true, "ec586f472318683f66328721bc9114e0e28692a5b7498bc5b04855a660b42d5f"), looks := false }, kinds := [], alts := [], laidByText := true, laidKinds := [.data, .pinned], laidTests := true, laidLooks := .later }
def ValueOrdersCardSaid : Prop := Claim7.holds Tryd.pinned (.plain (OpenSpec.ofChange valueOrdersSpec)) valueOrdersCard

/-- THE SECOND FORM's CARD OF 'lodestonelaw26.RecordPuts'. -/
def recordPutsUptoCard : Claim7 := { stood := { row := recordPutsUptoRow, standIns := [], harness := (true, "ec586f472318683f66328721bc9114e0e28692a5b7498bc5b04855a660b42d5f"), looks := false }, kinds := [], alts := [], laidByText := true, laidKinds := [.data, .pinned], laidTests := true, laidLooks := .later }
def RecordPutsUptoCardSaid : Prop := Claim7.holds Tryd.pinned (.plain (OpenSpec.upto recordPutsSpec)) recordPutsUptoCard

/-- THE SECOND FORM's CARD OF 'lodestonelaw26.RecordWith'. -/
def recordWithUptoCard : Claim7 := { stood := { row := recordWithUptoRow, standIns := [], harness := (true, "ec586f472318683f66328721bc9114e0e28692a5b7498bc5b04855a660b42d5f"), looks := false }, kinds := [], alts := [], laidByText := true, laidKinds := [.data, .pinned], laidTests := true, laidLooks := .later }
def RecordWithUptoCardSaid : Prop := Claim7.holds Tryd.pinned (.plain (OpenSpec.upto recordWithSpec)) recordWithUptoCard

/-- THE SECOND FORM's CARD OF 'lodestonelaw41.ShowReplies'. -/
def showRepliesUptoCard : Claim7 := { stood := { row := showRepliesUptoRow, standIns := [], harness := (true, "ec586f472318683f66328721bc9114e0e28692a5b7498bc5b04855a660b42d5f"), looks := false }, kinds := [], alts := [], laidByText := true, laidKinds := [.data, .data, .data], laidTests := true, laidLooks := .later }
def ShowRepliesUptoCardSaid : Prop := Claim7.holds Tryd.pinned (.plain (OpenSpec.upto showRepliesSpec)) showRepliesUptoCard

/-- THE SECOND FORM's CARD OF 'lodestonelaw15.WalChains'. -/
def walChainsUptoCard : Claim7 := { stood := { row := walChainsUptoRow, standIns := [], harness := (true, "ec586f472318683f66328721bc9114e0e28692a5b7498bc5b04855a660b42d5f"), looks := false }, kinds := [], alts := [], laidByText := true, laidKinds := [.data], laidTests := true, laidLooks := .later }
def WalChainsUptoCardSaid : Prop := Claim7.holds Tryd.pinned (.plain (OpenSpec.upto walChainsSpec)) walChainsUptoCard

/-- THE SECOND FORM's CARD OF 'lodestonelaw23.ValueOrders'. -/
def valueOrdersUptoCard : Claim7 := { stood := { row := valueOrdersUptoRow, standIns := [], harness := (true, "ec586f472318683f66328721bc9114e0e28692a5b7498bc5b04855a660b42d5f"), looks := false }, kinds := [], alts := [], laidByText := true, laidKinds := [.data, .pinned], laidTests := true, laidLooks := .later }
def ValueOrdersUptoCardSaid : Prop := Claim7.holds Tryd.pinned (.plain (OpenSpec.upto valueOrdersSpec)) valueOrdersUptoCard
end Rows
end Go.Proofs.YtplfbpihhcnnmaaDoor
