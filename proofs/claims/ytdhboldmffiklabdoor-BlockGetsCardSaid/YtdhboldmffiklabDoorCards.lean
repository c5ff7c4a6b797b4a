/-
  DERIVED. GIVEN WITH THE SEED: THE CARDS: each row of YtdhboldmffiklabDoorRows.lean that lists a variable, with what it lists TIED to the program's text (the seventh form; the later family's looks); each row that meets fmt, with fmt's text TOLD by the authors' own Lean function (tested against real Go, not proved from fmt's source: count such statements apart). THE CARD IS WHAT COUNTS. Prove the row's statement (the work); the ties are given (YtdhboldmffiklabDoorTie.lean); close each card by the builder's one call (the guide's Derived/Test/ToyasCard.lean, 'card_holds'). Laid BY PROGRAM, IN A SANDBOX (cutbox-door.mjs). By AI agents, Wed Nov 11 2026. No macro, syntax, notation, axiom, sorry.
-/
import Derived.Test.YtdhboldmffiklabDoorRows
import GoSem.ClaimSeven
namespace Go.Proofs.YtdhboldmffiklabDoor
namespace Rows

/-- THE TIED CARD OF 'lodestonelaw15.WalChains'. -/
def walChainsCard : Claim7 := { stood := { row := walChainsRow, standIns := [], harness := (true, "b9df21a67585c8c52378e35bc767ca66e8f6a71012c294e46bbb203b54c789bb"), looks := false }, kinds := [], alts := [], laidByText := true, laidKinds := [.data], laidTests := true, laidLooks := .later }
def WalChainsCardSaid : Prop := Claim7.holds Tryd.pinned (.plain (OpenSpec.ofChange walChainsSpec)) walChainsCard

/-- THE TIED CARD OF 'lodestonelaw23.ValueOrders'. -/
def valueOrdersCard : Claim7 := { stood := { row := valueOrdersRow, standIns := [], harness := (true, "b9df21a67585c8c52378e35bc767ca66e8f6a71012c294e46bbb203b54c789bb"), looks := false }, kinds := [], alts := [], laidByText := true, laidKinds := [.data, .pinned], laidTests := true, laidLooks := .later }
def ValueOrdersCardSaid : Prop := Claim7.holds Tryd.pinned (.plain (OpenSpec.ofChange valueOrdersSpec)) valueOrdersCard

/-- THE TIED CARD OF 'lodestonelaw11.BlockPuts'. -/
def blockPutsCard : Claim7 := { stood := { row := blockPutsRow, standIns := [], harness := (true, "b9df21a67585c8c52378e35bc767ca66e8f6a71012c294e46bbb203b54c789bb"), looks := false }, kinds := [], alts := [], laidByText := true, laidKinds := [.data, .data, .pinned], laidTests := true, laidLooks := .later }
def BlockPutsCardSaid : Prop := Claim7.holds Tryd.pinned (.plain (OpenSpec.ofChange blockPutsSpec)) blockPutsCard

/-- THE TIED CARD OF 'lodestonelaw11.BlockGets'. -/
def blockGetsCard : Claim7 := { stood := { row := blockGetsRow, standIns := [], harness := (true, "b9df21a67585c8c52378e35bc767ca66e8f6a71012c294e46bbb203b54c789bb"), looks := false }, kinds := [], alts := [], laidByText := true, laidKinds := [.data, .data, .pinned], laidTests := true, laidLooks := .later }
def BlockGetsCardSaid : Prop := Claim7.holds Tryd.pinned (.plain (OpenSpec.ofChange blockGetsSpec)) blockGetsCard

/-- THE TIED CARD OF 'lodestonelaw11.BlockPlaces'. -/
def blockPlacesCard : Claim7 := { stood := { row := blockPlacesRow, standIns := [], harness := (true, "b9df21a67585c8c52378e35bc767ca66e8f6a71012c294e46bbb203b54c789bb"), looks := false }, kinds := [], alts := [], laidByText := true, laidKinds := [.data, .data, .pinned], laidTests := true, laidLooks := .later }
def BlockPlacesCardSaid : Prop := Claim7.holds Tryd.pinned (.plain (OpenSpec.ofChange blockPlacesSpec)) blockPlacesCard

/-- THE TIED CARD OF 'lodestonelaw33.QueryParses'. -/
def queryParsesCard : Claim7 := { stood := { row := queryParsesRow, standIns := [], harness := (true, "b9df21a67585c8c52378e35bc767ca66e8f6a71012c294e46bbb203b54c789bb"), looks := false }, kinds := [], alts := [], laidByText := true, laidKinds := [.data, .data, .data], laidTests := true, laidLooks := .later }
def QueryParsesCardSaid : Prop := Claim7.holds Tryd.pinned (.plain (OpenSpec.ofChange queryParsesSpec)) queryParsesCard

/-- THE TIED CARD OF 'lodestonelaw33.QueryMost'. -/
def queryMostCard : Claim7 := { stood := { row := queryMostRow, standIns := [], harness := (true, "b9df21a67585c8c52378e35bc767ca66e8f6a71012c294e46bbb203b54c789bb"), looks := false }, kinds := [], alts := [], laidByText := true, laidKinds := [.data, .data, .data], laidTests := true, laidLooks := .later }
def QueryMostCardSaid : Prop := Claim7.holds Tryd.pinned (.plain (OpenSpec.ofChange queryMostSpec)) queryMostCard

/-- THE SECOND FORM's CARD OF 'lodestonelaw15.WalChains'. -/
def walChainsUptoCard : Claim7 := { stood := { row := walChainsUptoRow, standIns := [], harness := (true, "b9df21a67585c8c52378e35bc767ca66e8f6a71012c294e46bbb203b54c789bb"), looks := false }, kinds := [], alts := [], laidByText := true, laidKinds := [.data], laidTests := true, laidLooks := .later }
def WalChainsUptoCardSaid : Prop := Claim7.holds Tryd.pinned (.plain (OpenSpec.upto walChainsSpec)) walChainsUptoCard

/-- THE SECOND FORM's CARD OF 'lodestonelaw23.ValueOrders'. -/
def valueOrdersUptoCard : Claim7 := { stood := { row := valueOrdersUptoRow, standIns := [], harness := (true, "b9df21a67585c8c52378e35bc767ca66e8f6a71012c294e46bbb203b54c789bb"), looks := false }, kinds := [], alts := [], laidByText := true, laidKinds := [.data, .pinned], laidTests := true, laidLooks := .later }
def ValueOrdersUptoCardSaid : Prop := Claim7.holds Tryd.pinned (.plain (OpenSpec.upto valueOrdersSpec)) valueOrdersUptoCard

/-- THE SECOND FORM's CARD OF 'lodestonelaw11.BlockPuts'. -/
def blockPutsUptoCard : Claim7 := { stood := { row := blockPutsUptoRow, standIns := [], harness := (true, "b9df21a67585c8c52378e35bc767ca66e8f6a71012c294e46bbb203b54c789bb"), looks := false }, kinds := [], alts := [], laidByText := true, laidKinds := [.data, .data, .pinned], laidTests := true, laidLooks := .later }
def BlockPutsUptoCardSaid : Prop := Claim7.holds Tryd.pinned (.plain (OpenSpec.upto blockPutsSpec)) blockPutsUptoCard

/-- THE SECOND FORM's CARD OF 'lodestonelaw11.BlockGets'. -/
def blockGetsUptoCard : Claim7 := { stood := { row := blockGetsUptoRow, standIns := [], harness := (true, "b9df21a67585c8c52378e35bc767ca66e8f6a71012c294e46bbb203b54c789bb"), looks := false }, kinds := [], alts := [], laidByText := true, laidKinds := [.data, .data, .pinned], laidTests := true, laidLooks := .later }
def BlockGetsUptoCardSaid : Prop := Claim7.holds Tryd.pinned (.plain (OpenSpec.upto blockGetsSpec)) blockGetsUptoCard

/-- THE SECOND FORM's CARD OF 'lodestonelaw11.BlockPlaces'. -/
def blockPlacesUptoCard : Claim7 := { stood := { row := blockPlacesUptoRow, standIns := [], harness := (true, "b9df21a67585c8c52378e35bc767ca66e8f6a71012c294e46bbb203b54c789bb"), looks := false }, kinds := [], alts := [], laidByText := true, laidKinds := [.data, .data, .pinned], laidTests := true, laidLooks := .later }
def BlockPlacesUptoCardSaid : Prop := Claim7.holds Tryd.pinned (.plain (OpenSpec.upto blockPlacesSpec)) blockPlacesUptoCard

/-- THE SECOND FORM's CARD OF 'lodestonelaw33.QueryParses'. -/
def queryParsesUptoCard : Claim7 := { stood := { row := queryParsesUptoRow, standIns := [], harness := (true, "b9df21a67585c8c52378e35bc767ca66e8f6a71012c294e46bbb203b54c789bb"), looks := false }, kinds := [], alts := [], laidByText := true, laidKinds := [.data, .data, .data], laidTests := true, laidLooks := .later }
def QueryParsesUptoCardSaid : Prop := Claim7.holds Tryd.pinned (.plain (OpenSpec.upto queryParsesSpec)) queryParsesUptoCard

/-- THE SECOND FORM's CARD OF 'lodestonelaw33.QueryMost'. -/
def queryMostUptoCard : Claim7 := { stood := { row := queryMostUptoRow, standIns := [], harness := (true, "b9df21a67585c8c52378e35bc767ca66e8f6a71012c294e46bbb203b54c789bb"), looks := false }, kinds := [], alts := [], laidByText := true, laidKinds := [.data, .data, .data], laidTests := true, laidLooks := .later }
def QueryMostUptoCardSaid : Prop := Claim7.holds Tryd.pinned (.plain (OpenSpec.upto queryMostSpec)) queryMostUptoCard
end Rows
end Go.Proofs.YtdhboldmffiklabDoor
