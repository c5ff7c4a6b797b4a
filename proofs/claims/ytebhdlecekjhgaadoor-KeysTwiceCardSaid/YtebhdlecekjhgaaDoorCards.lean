/-
  DERIVED. GIVEN WITH THE SEED: THE CARDS: each row of YtebhdlecekjhgaaDoorRows.lean that lists a variable, with what it lists TIED to the program's text (the seventh form; the later family's looks); each row that meets fmt, with fmt's text TOLD by the authors' own Lean function (tested against real Go, not proved from fmt's source: count such statements apart). THE CARD IS WHAT COUNTS. Prove the row's statement (the work); the ties are given (YtebhdlecekjhgaaDoorTie.lean); close each card by the builder's one call (the guide's Derived/Test/ToyasCard.lean, 'card_holds'). Laid BY PROGRAM, IN A SANDBOX (cutbox-door.mjs). By AI agents, Wed Nov 11 2026. No macro, syntax, notation, axiom, sorry.
-/
import Derived.Test.YtebhdlecekjhgaaDoorRows
import GoSem.ClaimSeven
namespace Go.Proofs.YtebhdlecekjhgaaDoor
namespace Rows

/-- THE TIED CARD OF 'lodestonelaw01.ShaRoots'. -/
def shaRootsCard : Claim7 := { stood := { row := shaRootsRow, standIns := [], harness := (true, "c7e92f8627c7b0bb4206a83283f55ce5b2ea99a499944e1d335d3c81118585af"), looks := false }, kinds := [], alts := [], laidByText := true, laidKinds := [.data], laidTests := true, laidLooks := .later }
def ShaRootsCardSaid : Prop := Claim7.holds Tryd.pinned (.plain (OpenSpec.ofChange shaRootsSpec)) shaRootsCard

/-- THE TIED CARD OF 'lodestonelaw09.KeysTwice'. -/
def keysTwiceCard : Claim7 := { stood := { row := keysTwiceRow, standIns := [], harness := (true, "c7e92f8627c7b0bb4206a83283f55ce5b2ea99a499944e1d335d3c81118585af"), looks := false }, kinds := [], alts := [], laidByText := true, laidKinds := [.data], laidTests := true, laidLooks := .later }
def KeysTwiceCardSaid : Prop := Claim7.holds Tryd.pinned (.plain (OpenSpec.ofChange keysTwiceSpec)) keysTwiceCard

/-- THE TIED CARD OF 'lodestonelaw15.WalChains'. -/
def walChainsCard : Claim7 := { stood := { row := walChainsRow, standIns := [], harness := (true, "c7e92f8627c7b0bb4206a83283f55ce5b2ea99a499944e1d335d3c81118585af"), looks := false }, kinds := [], alts := [], laidByText := true, laidKinds := [.data], laidTests := true, laidLooks := .later }
def WalChainsCardSaid : Prop := Claim7.holds Tryd.pinned (.plain (OpenSpec.ofChange walChainsSpec)) walChainsCard

/-- THE TIED CARD OF 'lodestonelaw23.ValueOrders'. -/
def valueOrdersCard : Claim7 := { stood := { row := valueOrdersRow, standIns := [], harness := (true, "c7e92f8627c7b0bb4206a83283f55ce5b2ea99a499944e1d335d3c81118585af"), looks := false }, kinds := [], alts := [], laidByText := true, laidKinds := [.data, .pinned], laidTests := true, laidLooks := .later }
def ValueOrdersCardSaid : Prop := Claim7.holds Tryd.pinned (.plain (OpenSpec.ofChange valueOrdersSpec)) valueOrdersCard

/-- THE TIED CARD OF 'lodestonelaw26.RecordKeys'. -/
def recordKeysCard : Claim7 := { stood := { row := recordKeysRow, standIns := [], harness := (true, "c7e92f8627c7b0bb4206a83283f55ce5b2ea99a499944e1d335d3c81118585af"), looks := false }, kinds := [], alts := [], laidByText := true, laidKinds := [.data, .pinned], laidTests := true, laidLooks := .later }
def RecordKeysCardSaid : Prop := Claim7.holds Tryd.pinned (.plain (OpenSpec.ofChange recordKeysSpec)) recordKeysCard

/-- THE SECOND FORM's CARD OF 'lodestonelaw01.ShaRoots'. -/
def shaRootsUptoCard : Claim7 := { stood := { row := shaRootsUptoRow, standIns := [], harness := (true, "c7e92f8627c7b0bb4206a83283f55ce5b2ea99a499944e1d335d3c81118585af"), looks := false }, kinds := [], alts := [], laidByText := true, laidKinds := [.data], laidTests := true, laidLooks := .later }
def ShaRootsUptoCardSaid : Prop := Claim7.holds Tryd.pinned (.plain (OpenSpec.upto shaRootsSpec)) shaRootsUptoCard

/-- THE SECOND FORM's CARD OF 'lodestonelaw09.KeysTwice'. -/
def keysTwiceUptoCard : Claim7 := { stood := { row := keysTwiceUptoRow, standIns := [], harness := (true, "c7e92f8627c7b0bb4206a83283f55ce5b2ea99a499944e1d335d3c81118585af"), looks := false }, kinds := [], alts := [], laidByText := true, laidKinds := [.data], laidTests := true, laidLooks := .later }
def KeysTwiceUptoCardSaid : Prop := Claim7.holds Tryd.pinned (.plain (OpenSpec.upto keysTwiceSpec)) keysTwiceUptoCard

/-- THE SECOND FORM's CARD OF 'lodestonelaw15.WalChains'. -/
def walChainsUptoCard : Claim7 := { stood := { row := walChainsUptoRow, standIns := [], harness := (true, "c7e92f8627c7b0bb4206a83283f55ce5b2ea99a499944e1d335d3c81118585af"), looks := false }, kinds := [], alts := [], laidByText := true, laidKinds := [.data], laidTests := true, laidLooks := .later }
def WalChainsUptoCardSaid : Prop := Claim7.holds Tryd.pinned (.plain (OpenSpec.upto walChainsSpec)) walChainsUptoCard

/-- THE SECOND FORM's CARD OF 'lodestonelaw23.ValueOrders'. -/
def valueOrdersUptoCard : Claim7 := { stood := { row := valueOrdersUptoRow, standIns := [], harness := (true, "c7e92f8627c7b0bb4206a83283f55ce5b2ea99a499944e1d335d3c81118585af"), looks := false }, kinds := [], alts := [], laidByText := true, laidKinds := [.data, .pinned], laidTests := true, laidLooks := .later }
def ValueOrdersUptoCardSaid : Prop := Claim7.holds Tryd.pinned (.plain (OpenSpec.upto valueOrdersSpec)) valueOrdersUptoCard

/-- THE SECOND FORM's CARD OF 'lodestonelaw26.RecordKeys'. -/
def recordKeysUptoCard : Claim7 := { stood := { row := recordKeysUptoRow, standIns := [], harness := (true, "c7e92f8627c7b0bb4206a83283f55ce5b2ea99a499944e1d335d3c81118585af"), looks := false }, kinds := [], alts := [], laidByText := true, laidKinds := [.data, .pinned], laidTests := true, laidLooks := .later }
def RecordKeysUptoCardSaid : Prop := Claim7.holds Tryd.pinned (.plain (OpenSpec.upto recordKeysSpec)) recordKeysUptoCard
end Rows
end Go.Proofs.YtebhdlecekjhgaaDoor
