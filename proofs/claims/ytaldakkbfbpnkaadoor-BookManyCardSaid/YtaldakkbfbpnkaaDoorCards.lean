/-
  DERIVED. GIVEN WITH THE SEED: THE CARDS: each row of YtaldakkbfbpnkaaDoorRows.lean that lists a variable, with what it lists TIED to the program's text (the seventh form; the later family's looks); each row that meets fmt, with fmt's text TOLD by the authors' own Lean function (tested against real Go, not proved from fmt's source: count such statements apart). THE CARD IS WHAT COUNTS. Prove the row's statement (the work); the ties are given (YtaldakkbfbpnkaaDoorTie.lean); close each card by the builder's one call (the guide's Derived/Test/ToyasCard.lean, 'card_holds'). Laid BY PROGRAM, IN A SANDBOX (cutbox-door.mjs). By AI agents, Wed Nov 11 2026. No macro, syntax, notation, axiom, sorry.
-/
import Derived.Test.YtaldakkbfbpnkaaDoorRows
import GoSem.ClaimSeven
namespace Go.Proofs.YtaldakkbfbpnkaaDoor
namespace Rows

/-- THE TIED CARD OF 'lodestonelaw02.HmacSame'. -/
def hmacSameCard : Claim7 := { stood := { row := hmacSameRow, standIns := [], harness := (true, "027f06b0e4c60646678f8b9c652c00edffd5f82a1a22307ad709caef581eae58"), looks := false }, kinds := [], alts := [], laidByText := true, laidKinds := [.data], laidTests := true, laidLooks := .later }
def HmacSameCardSaid : Prop := Claim7.holds Tryd.pinned (.plain (OpenSpec.ofChange hmacSameSpec)) hmacSameCard

/-- THE TIED CARD OF 'lodestonelaw01.ShaRoots'. -/
def shaRootsCard : Claim7 := { stood := { row := shaRootsRow, standIns := [], harness := (true, "027f06b0e4c60646678f8b9c652c00edffd5f82a1a22307ad709caef581eae58"), looks := false }, kinds := [], alts := [], laidByText := true, laidKinds := [.data], laidTests := true, laidLooks := .later }
def ShaRootsCardSaid : Prop := Claim7.holds Tryd.pinned (.plain (OpenSpec.ofChange shaRootsSpec)) shaRootsCard

/-- THE TIED CARD OF 'lodestonelaw09.KeysOf'. -/
def keysOfCard : Claim7 := { stood := { row := keysOfRow, standIns := [], harness := (true, "027f06b0e4c60646678f8b9c652c00edffd5f82a1a22307ad709caef581eae58"), looks := false }, kinds := [], alts := [], laidByText := true, laidKinds := [.data], laidTests := true, laidLooks := .later }
def KeysOfCardSaid : Prop := Claim7.holds Tryd.pinned (.plain (OpenSpec.ofChange keysOfSpec)) keysOfCard

/-- THE TIED CARD OF 'lodestonelaw09.KeysTwice'. -/
def keysTwiceCard : Claim7 := { stood := { row := keysTwiceRow, standIns := [], harness := (true, "027f06b0e4c60646678f8b9c652c00edffd5f82a1a22307ad709caef581eae58"), looks := false }, kinds := [], alts := [], laidByText := true, laidKinds := [.data], laidTests := true, laidLooks := .later }
def KeysTwiceCardSaid : Prop := Claim7.holds Tryd.pinned (.plain (OpenSpec.ofChange keysTwiceSpec)) keysTwiceCard

/-- THE TIED CARD OF 'lodestonelaw10.SealPuts'. -/
def sealPutsCard : Claim7 := { stood := { row := sealPutsRow, standIns := [], harness := (true, "027f06b0e4c60646678f8b9c652c00edffd5f82a1a22307ad709caef581eae58"), looks := false }, kinds := [], alts := [], laidByText := true, laidKinds := [.data], laidTests := true, laidLooks := .later }
def SealPutsCardSaid : Prop := Claim7.holds Tryd.pinned (.plain (OpenSpec.ofChange sealPutsSpec)) sealPutsCard

/-- THE TIED CARD OF 'lodestonelaw10.SealGets'. -/
def sealGetsCard : Claim7 := { stood := { row := sealGetsRow, standIns := [], harness := (true, "027f06b0e4c60646678f8b9c652c00edffd5f82a1a22307ad709caef581eae58"), looks := false }, kinds := [], alts := [], laidByText := true, laidKinds := [.data], laidTests := true, laidLooks := .later }
def SealGetsCardSaid : Prop := Claim7.holds Tryd.pinned (.plain (OpenSpec.ofChange sealGetsSpec)) sealGetsCard

/-- THE TIED CARD OF 'lodestonelaw10.SealBent'. -/
def sealBentCard : Claim7 := { stood := { row := sealBentRow, standIns := [], harness := (true, "027f06b0e4c60646678f8b9c652c00edffd5f82a1a22307ad709caef581eae58"), looks := false }, kinds := [], alts := [], laidByText := true, laidKinds := [.data], laidTests := true, laidLooks := .later }
def SealBentCardSaid : Prop := Claim7.holds Tryd.pinned (.plain (OpenSpec.ofChange sealBentSpec)) sealBentCard

/-- THE TIED CARD OF 'lodestonelaw06.BookReal'. -/
def bookRealCard : Claim7 := { stood := { row := bookRealRow, standIns := [], harness := (true, "027f06b0e4c60646678f8b9c652c00edffd5f82a1a22307ad709caef581eae58"), looks := false }, kinds := [], alts := [], laidByText := true, laidKinds := [.data], laidTests := true, laidLooks := .later }
def BookRealCardSaid : Prop := Claim7.holds Tryd.pinned (.plain (OpenSpec.ofChange bookRealSpec)) bookRealCard

/-- THE TIED CARD OF 'lodestonelaw06.BookSums'. -/
def bookSumsCard : Claim7 := { stood := { row := bookSumsRow, standIns := [], harness := (true, "027f06b0e4c60646678f8b9c652c00edffd5f82a1a22307ad709caef581eae58"), looks := false }, kinds := [], alts := [], laidByText := true, laidKinds := [.data], laidTests := true, laidLooks := .later }
def BookSumsCardSaid : Prop := Claim7.holds Tryd.pinned (.plain (OpenSpec.ofChange bookSumsSpec)) bookSumsCard

/-- THE TIED CARD OF 'lodestonelaw06.BookMany'. -/
def bookManyCard : Claim7 := { stood := { row := bookManyRow, standIns := [], harness := (true, "027f06b0e4c60646678f8b9c652c00edffd5f82a1a22307ad709caef581eae58"), looks := false }, kinds := [], alts := [], laidByText := true, laidKinds := [.data], laidTests := true, laidLooks := .later }
def BookManyCardSaid : Prop := Claim7.holds Tryd.pinned (.plain (OpenSpec.ofChange bookManySpec)) bookManyCard

/-- THE TIED CARD OF 'lodestonelaw15.WalChains'. -/
def walChainsCard : Claim7 := { stood := { row := walChainsRow, standIns := [], harness := (true, "027f06b0e4c60646678f8b9c652c00edffd5f82a1a22307ad709caef581eae58"), looks := false }, kinds := [], alts := [], laidByText := true, laidKinds := [.data], laidTests := true, laidLooks := .later }
def WalChainsCardSaid : Prop := Claim7.holds Tryd.pinned (.plain (OpenSpec.ofChange walChainsSpec)) walChainsCard

/-- THE TIED CARD OF 'lodestonelaw05.OrderRises'. -/
def orderRisesCard : Claim7 := { stood := { row := orderRisesRow, standIns := [], harness := (true, "027f06b0e4c60646678f8b9c652c00edffd5f82a1a22307ad709caef581eae58"), looks := false }, kinds := [], alts := [], laidByText := true, laidKinds := [.data, .pinned], laidTests := true, laidLooks := .later }
def OrderRisesCardSaid : Prop := Claim7.holds Tryd.pinned (.plain (OpenSpec.ofChange orderRisesSpec)) orderRisesCard

/-- THE SECOND FORM's CARD OF 'lodestonelaw02.HmacSame'. -/
def hmacSameUptoCard : Claim7 := { stood := { row := hmacSameUptoRow, standIns := [], harness := (true, "027f06b0e4c60646678f8b9c652c00edffd5f82a1a22307ad709caef581eae58"), looks := false }, kinds := [], alts := [], laidByText := true, laidKinds := [.data], laidTests := true, laidLooks := .later }
def HmacSameUptoCardSaid : Prop := Claim7.holds Tryd.pinned (.plain (OpenSpec.upto hmacSameSpec)) hmacSameUptoCard

/-- THE SECOND FORM's CARD OF 'lodestonelaw01.ShaRoots'. -/
def shaRootsUptoCard : Claim7 := { stood := { row := shaRootsUptoRow, standIns := [], harness := (true, "027f06b0e4c60646678f8b9c652c00edffd5f82a1a22307ad709caef581eae58"), looks := false }, kinds := [], alts := [], laidByText := true, laidKinds := [.data], laidTests := true, laidLooks := .later }
def ShaRootsUptoCardSaid : Prop := Claim7.holds Tryd.pinned (.plain (OpenSpec.upto shaRootsSpec)) shaRootsUptoCard

/-- THE SECOND FORM's CARD OF 'lodestonelaw09.KeysOf'. -/
def keysOfUptoCard : Claim7 := { stood := { row := keysOfUptoRow, standIns := [], harness := (true, "027f06b0e4c60646678f8b9c652c00edffd5f82a1a22307ad709caef581eae58"), looks := false }, kinds := [], alts := [], laidByText := true, laidKinds := [.data], laidTests := true, laidLooks := .later }
def KeysOfUptoCardSaid : Prop := Claim7.holds Tryd.pinned (.plain (OpenSpec.upto keysOfSpec)) keysOfUptoCard

/-- THE SECOND FORM's CARD OF 'lodestonelaw09.KeysTwice'. -/
def keysTwiceUptoCard : Claim7 := { stood := { row := keysTwiceUptoRow, standIns := [], harness := (true, "027f06b0e4c60646678f8b9c652c00edffd5f82a1a22307ad709caef581eae58"), looks := false }, kinds := [], alts := [], laidByText := true, laidKinds := [.data], laidTests := true, laidLooks := .later }
def KeysTwiceUptoCardSaid : Prop := Claim7.holds Tryd.pinned (.plain (OpenSpec.upto keysTwiceSpec)) keysTwiceUptoCard

/-- THE SECOND FORM's CARD OF 'lodestonelaw10.SealPuts'. -/
def sealPutsUptoCard : Claim7 := { stood := { row := sealPutsUptoRow, standIns := [], harness := (true, "027f06b0e4c60646678f8b9c652c00edffd5f82a1a22307ad709caef581eae58"), looks := false }, kinds := [], alts := [], laidByText := true, laidKinds := [.data], laidTests := true, laidLooks := .later }
def SealPutsUptoCardSaid : Prop := Claim7.holds Tryd.pinned (.plain (OpenSpec.upto sealPutsSpec)) sealPutsUptoCard

/-- THE SECOND FORM's CARD OF 'lodestonelaw10.SealGets'. -/
def sealGetsUptoCard : Claim7 := { stood := { row := sealGetsUptoRow, standIns := [], harness := (true, "027f06b0e4c60646678f8b9c652c00edffd5f82a1a22307ad709caef581eae58"), looks := false }, kinds := [], alts := [], laidByText := true, laidKinds := [.data], laidTests := true, laidLooks := .later }
def SealGetsUptoCardSaid : Prop := Claim7.holds Tryd.pinned (.plain (OpenSpec.upto sealGetsSpec)) sealGetsUptoCard

/-- THE SECOND FORM's CARD OF 'lodestonelaw10.SealBent'. -/
def sealBentUptoCard : Claim7 := { stood := { row := sealBentUptoRow, standIns := [], harness := (true, "027f06b0e4c60646678f8b9c652c00edffd5f82a1a22307ad709caef581eae58"), looks := false }, kinds := [], alts := [], laidByText := true, laidKinds := [.data], laidTests := true, laidLooks := .later }
def SealBentUptoCardSaid : Prop := Claim7.holds Tryd.pinned (.plain (OpenSpec.upto sealBentSpec)) sealBentUptoCard

/-- THE SECOND FORM's CARD OF 'lodestonelaw06.BookReal'. -/
def bookRealUptoCard : Claim7 := { stood := { row := bookRealUptoRow, standIns := [], harness := (true, "027f06b0e4c60646678f8b9c652c00edffd5f82a1a22307ad709caef581eae58"), looks := false }, kinds := [], alts := [], laidByText := true, laidKinds := [.data], laidTests := true, laidLooks := .later }
def BookRealUptoCardSaid : Prop := Claim7.holds Tryd.pinned (.plain (OpenSpec.upto bookRealSpec)) bookRealUptoCard

/-- THE SECOND FORM's CARD OF 'lodestonelaw06.BookSums'. -/
def bookSumsUptoCard : Claim7 := { stood := { row := bookSumsUptoRow, standIns := [], harness := (true, "027f06b0e4c60646678f8b9c652c00edffd5f82a1a22307ad709caef581eae58"), looks := false }, kinds := [], alts := [], laidByText := true, laidKinds := [.data], laidTests := true, laidLooks := .later }
def BookSumsUptoCardSaid : Prop := Claim7.holds Tryd.pinned (.plain (OpenSpec.upto bookSumsSpec)) bookSumsUptoCard

/-- THE SECOND FORM's CARD OF 'lodestonelaw06.BookMany'. -/
def bookManyUptoCard : Claim7 := { stood := { row := bookManyUptoRow, standIns := [], harness := (true, "027f06b0e4c60646678f8b9c652c00edffd5f82a1a22307ad709caef581eae58"), looks := false }, kinds := [], alts := [], laidByText := true, laidKinds := [.data], laidTests := true, laidLooks := .later }
def BookManyUptoCardSaid : Prop := Claim7.holds Tryd.pinned (.plain (OpenSpec.upto bookManySpec)) bookManyUptoCard

/-- THE SECOND FORM's CARD OF 'lodestonelaw15.WalChains'. -/
def walChainsUptoCard : Claim7 := { stood := { row := walChainsUptoRow, standIns := [], harness := (true, "027f06b0e4c60646678f8b9c652c00edffd5f82a1a22307ad709caef581eae58"), looks := false }, kinds := [], alts := [], laidByText := true, laidKinds := [.data], laidTests := true, laidLooks := .later }
def WalChainsUptoCardSaid : Prop := Claim7.holds Tryd.pinned (.plain (OpenSpec.upto walChainsSpec)) walChainsUptoCard

/-- THE SECOND FORM's CARD OF 'lodestonelaw05.OrderRises'. -/
def orderRisesUptoCard : Claim7 := { stood := { row := orderRisesUptoRow, standIns := [], harness := (true, "027f06b0e4c60646678f8b9c652c00edffd5f82a1a22307ad709caef581eae58"), looks := false }, kinds := [], alts := [], laidByText := true, laidKinds := [.data, .pinned], laidTests := true, laidLooks := .later }
def OrderRisesUptoCardSaid : Prop := Claim7.holds Tryd.pinned (.plain (OpenSpec.upto orderRisesSpec)) orderRisesUptoCard
end Rows
end Go.Proofs.YtaldakkbfbpnkaaDoor
