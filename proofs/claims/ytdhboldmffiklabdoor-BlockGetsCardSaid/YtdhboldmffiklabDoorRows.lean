/-
  NARROWER THAN 'FOR EVERY INPUT', by the rows' own cells (each row's printed sentence says how): WalChains: laid · ValueOrders: laid · BlockPuts: laid · BlockGets: laid · BlockPlaces: laid · QueryParses: laid · QueryMost: laid.
  DERIVED. THE GIVEN ROWS OF THIS SEAT. 7 by the template 'for every input the law returns true; each argument reads behind the call as it read before'; 0 by the template 'total and deterministic' (their statements: YtdhboldmffiklabDoorTotals.lean).
  GIVEN WITH THE SEED: the statements are not yours to turn. If you find one false, say at which input.
  Laid BY PROGRAM, IN A SANDBOX (cutbox-rows.mjs): the forced cells as the released guide's own fill.sh prints them over the translation 4b14ff7937cd4e81… (all of the seat's roots in one cut). By AI agents, Wed Nov 11 2026. No macro, syntax, notation, axiom, sorry.
-/
import Derived.Test.YtdhboldmffiklabDoorChecked
import GoSem.PinnedTables
import GoSem.Claim
import GoSem.ClaimJoined
import GoSem.ClaimMapViews
import Derived.JoinedTies
import Derived.KernelRfl
namespace Go.Proofs.YtdhboldmffiklabDoor
/- THE CELL 'sum', in the pinned program and in every row, IS THE sha256 OF THE DUMP (.gsa) THAT YtdhboldmffiklabDoorProg.lean LOADS. Nothing in Lean hashes anything: it is a label: what it is worth is what the hold of that sum in a sandbox is worth. -/
noncomputable def Tryd.pinned : Pinned := { name := "ytdhboldmffiklabdoor", sum := "4b14ff7937cd4e811958e6b14466dd0873819f429976ecedc3c1c4bafcb87252", checked := Tryd.checked }
namespace Rows
def none {H : Type} : Left H := { results := [], args := [] }

/- WHAT THE LISTED PACKAGE-LEVEL VARIABLES READ AS WHEN THE CALL BEGINS. Each datum BY PROGRAM (the guide's laid-datum.mjs) off the statement by which the dump's own 'gosem.cut.vars' lays the variable. In a bare row this is a premise. The card (YtdhboldmffiklabDoorCards.lean) ties it to the program's text. -/
def laid_lodestone_sha_salts {H : Type} : DataW H := .agg [.lit (.int .u32 1116352408), .lit (.int .u32 1899447441), .lit (.int .u32 3049323471), .lit (.int .u32 3921009573), .lit (.int .u32 961987163), .lit (.int .u32 1508970993), .lit (.int .u32 2453635748), .lit (.int .u32 2870763221), .lit (.int .u32 3624381080), .lit (.int .u32 310598401), .lit (.int .u32 607225278), .lit (.int .u32 1426881987), .lit (.int .u32 1925078388), .lit (.int .u32 2162078206), .lit (.int .u32 2614888103), .lit (.int .u32 3248222580), .lit (.int .u32 3835390401), .lit (.int .u32 4022224774), .lit (.int .u32 264347078), .lit (.int .u32 604807628), .lit (.int .u32 770255983), .lit (.int .u32 1249150122), .lit (.int .u32 1555081692), .lit (.int .u32 1996064986), .lit (.int .u32 2554220882), .lit (.int .u32 2821834349), .lit (.int .u32 2952996808), .lit (.int .u32 3210313671), .lit (.int .u32 3336571891), .lit (.int .u32 3584528711), .lit (.int .u32 113926993), .lit (.int .u32 338241895), .lit (.int .u32 666307205), .lit (.int .u32 773529912), .lit (.int .u32 1294757372), .lit (.int .u32 1396182291), .lit (.int .u32 1695183700), .lit (.int .u32 1986661051), .lit (.int .u32 2177026350), .lit (.int .u32 2456956037), .lit (.int .u32 2730485921), .lit (.int .u32 2820302411), .lit (.int .u32 3259730800), .lit (.int .u32 3345764771), .lit (.int .u32 3516065817), .lit (.int .u32 3600352804), .lit (.int .u32 4094571909), .lit (.int .u32 275423344), .lit (.int .u32 430227734), .lit (.int .u32 506948616), .lit (.int .u32 659060556), .lit (.int .u32 883997877), .lit (.int .u32 958139571), .lit (.int .u32 1322822218), .lit (.int .u32 1537002063), .lit (.int .u32 1747873779), .lit (.int .u32 1955562222), .lit (.int .u32 2024104815), .lit (.int .u32 2227730452), .lit (.int .u32 2361852424), .lit (.int .u32 2428436474), .lit (.int .u32 2756734187), .lit (.int .u32 3204031479), .lit (.int .u32 3329325298)]
def laid_unicode_utf8_acceptRanges {H : Type} : DataW H := .agg [.agg [.lit (.int .u8 128), .lit (.int .u8 191)], .agg [.lit (.int .u8 160), .lit (.int .u8 191)], .agg [.lit (.int .u8 128), .lit (.int .u8 159)], .agg [.lit (.int .u8 144), .lit (.int .u8 191)], .agg [.lit (.int .u8 128), .lit (.int .u8 143)], .agg [.lit (.int .u8 0), .lit (.int .u8 0)], .agg [.lit (.int .u8 0), .lit (.int .u8 0)], .agg [.lit (.int .u8 0), .lit (.int .u8 0)], .agg [.lit (.int .u8 0), .lit (.int .u8 0)], .agg [.lit (.int .u8 0), .lit (.int .u8 0)], .agg [.lit (.int .u8 0), .lit (.int .u8 0)], .agg [.lit (.int .u8 0), .lit (.int .u8 0)], .agg [.lit (.int .u8 0), .lit (.int .u8 0)], .agg [.lit (.int .u8 0), .lit (.int .u8 0)], .agg [.lit (.int .u8 0), .lit (.int .u8 0)], .agg [.lit (.int .u8 0), .lit (.int .u8 0)]]
/-- One of Go's own tables, pinned by name: the form's constant. -/
def laid_unicode_utf8_first : DataW Unit := Go.Pinned.utf8First
def laid_lodestone_lex_marks {H : Type} : DataW H := .agg [.lit (.string [45, 62]), .lit (.string [60, 45]), .lit (.string [33, 61]), .lit (.string [60, 61]), .lit (.string [62, 61]), .lit (.string [40]), .lit (.string [41]), .lit (.string [91]), .lit (.string [93]), .lit (.string [123]), .lit (.string [125]), .lit (.string [58]), .lit (.string [44]), .lit (.string [46]), .lit (.string [45]), .lit (.string [60]), .lit (.string [62]), .lit (.string [61])]
def laid_lodestone_query_ops {H : Type} : DataW H := .agg [.lit (.string [60]), .lit (.string [60, 61]), .lit (.string [61]), .lit (.string [33, 61]), .lit (.string [62, 61]), .lit (.string [62])]
def laid_lodestone_query_plain {H : Type} : DataW H := .agg [.lit (.string [110, 111, 116, 104, 105, 110, 103]), .lit (.string [102, 97, 108, 115, 101]), .lit (.string [116, 114, 117, 101])]

/-- 'lodestonelaw15.WalChains': WHATEVER THE INPUT: true; the input reads as it did. -/
def walChainsSpec : ChangeSpec := { name := "walChains", fn := fun _ => fun
  | [d1, d2] => { results := [.lit (.bool true)], args := [d1, d2] }
  | _ => none }
def walChainsRow : OpenClaim := { program := "ytdhboldmffiklabdoor", sum := "4b14ff7937cd4e811958e6b14466dd0873819f429976ecedc3c1c4bafcb87252", func := "lodestone/lodestonelaw15.WalChains", spec := "walChains", inPlace := ["internal/abi.NoEscape"], named := ["lodestone/sha.salts"], apart := false, laid := [("lodestone/sha.salts", laid_lodestone_sha_salts)] }
def WalChainsSaid : Prop := walChainsRow.holds Tryd.pinned (OpenSpec.ofChange walChainsSpec)

/-- ITS FALSE NEIGHBOUR: 'it returns false'. Refute it at one input. -/
def walChainsWrong : ChangeSpec := { name := "walChains", fn := fun _ => fun
  | [d1, d2] => { results := [.lit (.bool false)], args := [d1, d2] }
  | _ => none }
def WalChainsWrongFalsely : Prop := walChainsRow.holds Tryd.pinned (OpenSpec.ofChange walChainsWrong)

/-- 'lodestonelaw23.ValueOrders': WHATEVER THE INPUT: true; the input reads as it did. -/
def valueOrdersSpec : ChangeSpec := { name := "valueOrders", fn := fun _ => fun
  | [d1, d2] => { results := [.lit (.bool true)], args := [d1, d2] }
  | _ => none }
def valueOrdersRow : OpenClaim := { program := "ytdhboldmffiklabdoor", sum := "4b14ff7937cd4e811958e6b14466dd0873819f429976ecedc3c1c4bafcb87252", func := "lodestone/lodestonelaw23.ValueOrders", spec := "valueOrders", inPlace := ["internal/bytealg.IndexByteString", "internal/bytealg.IndexString", "internal/bytealg.CountString", "internal/abi.NoEscape", "internal/bytealg.MakeNoZero"], named := ["unicode/utf8.first", "unicode/utf8.acceptRanges", "internal/bytealg.MaxLen"], apart := false, laid := [("unicode/utf8.acceptRanges", laid_unicode_utf8_acceptRanges), ("unicode/utf8.first", laid_unicode_utf8_first)] }
def ValueOrdersSaid : Prop := valueOrdersRow.holds Tryd.pinned (OpenSpec.ofChange valueOrdersSpec)

/-- ITS FALSE NEIGHBOUR: 'it returns false'. Refute it at one input. -/
def valueOrdersWrong : ChangeSpec := { name := "valueOrders", fn := fun _ => fun
  | [d1, d2] => { results := [.lit (.bool false)], args := [d1, d2] }
  | _ => none }
def ValueOrdersWrongFalsely : Prop := valueOrdersRow.holds Tryd.pinned (OpenSpec.ofChange valueOrdersWrong)

/-- 'lodestonelaw11.BlockPuts': WHATEVER THE INPUT: true; the input reads as it did. -/
def blockPutsSpec : ChangeSpec := { name := "blockPuts", fn := fun _ => fun
  | [d1, d2, d3] => { results := [.lit (.bool true)], args := [d1, d2, d3] }
  | _ => none }
def blockPutsRow : OpenClaim := { program := "ytdhboldmffiklabdoor", sum := "4b14ff7937cd4e811958e6b14466dd0873819f429976ecedc3c1c4bafcb87252", func := "lodestone/lodestonelaw11.BlockPuts", spec := "blockPuts", inPlace := ["internal/abi.NoEscape", "internal/bytealg.MakeNoZero", "internal/bytealg.IndexByteString", "internal/bytealg.IndexString"], named := ["lodestone/sha.salts", "unicode/utf8.first", "unicode/utf8.acceptRanges", "internal/bytealg.MaxLen"], apart := false, laid := [("lodestone/sha.salts", laid_lodestone_sha_salts), ("unicode/utf8.acceptRanges", laid_unicode_utf8_acceptRanges), ("unicode/utf8.first", laid_unicode_utf8_first)] }
def BlockPutsSaid : Prop := blockPutsRow.holds Tryd.pinned (OpenSpec.ofChange blockPutsSpec)

/-- ITS FALSE NEIGHBOUR: 'it returns false'. Refute it at one input. -/
def blockPutsWrong : ChangeSpec := { name := "blockPuts", fn := fun _ => fun
  | [d1, d2, d3] => { results := [.lit (.bool false)], args := [d1, d2, d3] }
  | _ => none }
def BlockPutsWrongFalsely : Prop := blockPutsRow.holds Tryd.pinned (OpenSpec.ofChange blockPutsWrong)

/-- 'lodestonelaw11.BlockGets': WHATEVER THE INPUT: true; the input reads as it did. -/
def blockGetsSpec : ChangeSpec := { name := "blockGets", fn := fun _ => fun
  | [d1, d2, d3] => { results := [.lit (.bool true)], args := [d1, d2, d3] }
  | _ => none }
def blockGetsRow : OpenClaim := { program := "ytdhboldmffiklabdoor", sum := "4b14ff7937cd4e811958e6b14466dd0873819f429976ecedc3c1c4bafcb87252", func := "lodestone/lodestonelaw11.BlockGets", spec := "blockGets", inPlace := ["internal/abi.NoEscape", "internal/bytealg.MakeNoZero", "internal/bytealg.IndexByteString", "internal/bytealg.IndexString"], named := ["lodestone/sha.salts", "unicode/utf8.first", "unicode/utf8.acceptRanges", "internal/bytealg.MaxLen"], apart := false, laid := [("lodestone/sha.salts", laid_lodestone_sha_salts), ("unicode/utf8.acceptRanges", laid_unicode_utf8_acceptRanges), ("unicode/utf8.first", laid_unicode_utf8_first)] }
def BlockGetsSaid : Prop := blockGetsRow.holds Tryd.pinned (OpenSpec.ofChange blockGetsSpec)

/-- ITS FALSE NEIGHBOUR: 'it returns false'. Refute it at one input. -/
def blockGetsWrong : ChangeSpec := { name := "blockGets", fn := fun _ => fun
  | [d1, d2, d3] => { results := [.lit (.bool false)], args := [d1, d2, d3] }
  | _ => none }
def BlockGetsWrongFalsely : Prop := blockGetsRow.holds Tryd.pinned (OpenSpec.ofChange blockGetsWrong)

/-- 'lodestonelaw11.BlockPlaces': WHATEVER THE INPUT: true; the input reads as it did. -/
def blockPlacesSpec : ChangeSpec := { name := "blockPlaces", fn := fun _ => fun
  | [d1, d2, d3] => { results := [.lit (.bool true)], args := [d1, d2, d3] }
  | _ => none }
def blockPlacesRow : OpenClaim := { program := "ytdhboldmffiklabdoor", sum := "4b14ff7937cd4e811958e6b14466dd0873819f429976ecedc3c1c4bafcb87252", func := "lodestone/lodestonelaw11.BlockPlaces", spec := "blockPlaces", inPlace := ["internal/abi.NoEscape", "internal/bytealg.MakeNoZero", "internal/bytealg.IndexByteString", "internal/bytealg.IndexString"], named := ["lodestone/sha.salts", "unicode/utf8.first", "unicode/utf8.acceptRanges", "internal/bytealg.MaxLen"], apart := false, laid := [("lodestone/sha.salts", laid_lodestone_sha_salts), ("unicode/utf8.acceptRanges", laid_unicode_utf8_acceptRanges), ("unicode/utf8.first", laid_unicode_utf8_first)] }
def BlockPlacesSaid : Prop := blockPlacesRow.holds Tryd.pinned (OpenSpec.ofChange blockPlacesSpec)

/-- ITS FALSE NEIGHBOUR: 'it returns false'. Refute it at one input. -/
def blockPlacesWrong : ChangeSpec := { name := "blockPlaces", fn := fun _ => fun
  | [d1, d2, d3] => { results := [.lit (.bool false)], args := [d1, d2, d3] }
  | _ => none }
def BlockPlacesWrongFalsely : Prop := blockPlacesRow.holds Tryd.pinned (OpenSpec.ofChange blockPlacesWrong)

/-- 'lodestonelaw33.QueryParses': WHATEVER THE INPUT: true; the input reads as it did. -/
def queryParsesSpec : ChangeSpec := { name := "queryParses", fn := fun _ => fun
  | [d] => { results := [.lit (.bool true)], args := [d] }
  | _ => none }
def queryParsesRow : OpenClaim := { program := "ytdhboldmffiklabdoor", sum := "4b14ff7937cd4e811958e6b14466dd0873819f429976ecedc3c1c4bafcb87252", func := "lodestone/lodestonelaw33.QueryParses", spec := "queryParses", inPlace := ["internal/bytealg.IndexByteString"], named := ["lodestone/lex.marks", "lodestone/query.plain", "lodestone/query.ops"], apart := false, laid := [("lodestone/lex.marks", laid_lodestone_lex_marks), ("lodestone/query.ops", laid_lodestone_query_ops), ("lodestone/query.plain", laid_lodestone_query_plain)] }
def QueryParsesSaid : Prop := queryParsesRow.holds Tryd.pinned (OpenSpec.ofChange queryParsesSpec)

/-- ITS FALSE NEIGHBOUR: 'it returns false'. Refute it at one input. -/
def queryParsesWrong : ChangeSpec := { name := "queryParses", fn := fun _ => fun
  | [d] => { results := [.lit (.bool false)], args := [d] }
  | _ => none }
def QueryParsesWrongFalsely : Prop := queryParsesRow.holds Tryd.pinned (OpenSpec.ofChange queryParsesWrong)

/-- 'lodestonelaw33.QueryMost': WHATEVER THE INPUT: true; the input reads as it did. -/
def queryMostSpec : ChangeSpec := { name := "queryMost", fn := fun _ => fun
  | [d1, d2, d3] => { results := [.lit (.bool true)], args := [d1, d2, d3] }
  | _ => none }
def queryMostRow : OpenClaim := { program := "ytdhboldmffiklabdoor", sum := "4b14ff7937cd4e811958e6b14466dd0873819f429976ecedc3c1c4bafcb87252", func := "lodestone/lodestonelaw33.QueryMost", spec := "queryMost", inPlace := ["internal/bytealg.IndexByteString"], named := ["lodestone/lex.marks", "lodestone/query.plain", "lodestone/query.ops"], apart := false, laid := [("lodestone/lex.marks", laid_lodestone_lex_marks), ("lodestone/query.ops", laid_lodestone_query_ops), ("lodestone/query.plain", laid_lodestone_query_plain)] }
def QueryMostSaid : Prop := queryMostRow.holds Tryd.pinned (OpenSpec.ofChange queryMostSpec)

/-- ITS FALSE NEIGHBOUR: 'it returns false'. Refute it at one input. -/
def queryMostWrong : ChangeSpec := { name := "queryMost", fn := fun _ => fun
  | [d1, d2, d3] => { results := [.lit (.bool false)], args := [d1, d2, d3] }
  | _ => none }
def QueryMostWrongFalsely : Prop := queryMostRow.holds Tryd.pinned (OpenSpec.ofChange queryMostWrong)

/- THE SECOND FORM. 'bulk': how many values and letters a reading holds, each counted each time it is reached (what is shared counts as often as it is met; a slice's spare places count too). A statement '..UptoSaid' is the law's where the arguments, and the package variables that the reading takes, are together of bulk at most 1048576: NARROWER than '..Said'. Prove '..Said' where nothing that the law and all that it calls make is longer than what came in: it says more and counts as full. Else prove '..UptoSaid'. A law counts once. -/
mutual
def uptoBulk {H : Type} : DataW H → Nat
  | .lit (.string bytes) => bytes.length + 1
  | .lit _ => 1
  | .nil => 1
  | .ptr d => uptoBulk d + 1
  | .slice elems spare => uptoBulkAll elems + uptoBulkAll spare + 1
  | .agg parts => uptoBulkAll parts + 1
  | .iface _ d => uptoBulk d + 1
  | .map entries => uptoBulkEntries entries + 1
  | .held _ => 1
def uptoBulkAll {H : Type} : List (DataW H) → Nat
  | [] => 0
  | d :: r => uptoBulk d + uptoBulkAll r
def uptoBulkEntries {H : Type} : List (Lit × DataW H) → Nat
  | [] => 0
  | x :: r => uptoBulkEntry x + uptoBulkEntries r
def uptoBulkEntry {H : Type} : Lit × DataW H → Nat
  | (.string bytes, d) => bytes.length + uptoBulk d + 1
  | (_, d) => uptoBulk d + 1
 end
def uptoSmall : (H : Type) → List (DataW H) → Bool := fun _ ds => decide (uptoBulkAll ds ≤ 1048576)
def OpenSpec.upto (s : _root_.Go.ChangeSpec) : _root_.Go.OpenSpec := { _root_.Go.OpenSpec.ofChange s with cond := some uptoSmall }

/-- 'lodestonelaw15.WalChains', WHERE WHAT IT READS IS OF BULK AT MOST 1048576: true; the input reads as it did. -/
def walChainsUptoRow : OpenClaim := { program := "ytdhboldmffiklabdoor", sum := "4b14ff7937cd4e811958e6b14466dd0873819f429976ecedc3c1c4bafcb87252", func := "lodestone/lodestonelaw15.WalChains", spec := "walChains", inPlace := ["internal/abi.NoEscape"], named := ["lodestone/sha.salts"], apart := false, laid := [("lodestone/sha.salts", laid_lodestone_sha_salts)], narrowed := true }
def WalChainsUptoSaid : Prop := walChainsUptoRow.holds Tryd.pinned (OpenSpec.upto walChainsSpec)

/-- 'lodestonelaw23.ValueOrders', WHERE WHAT IT READS IS OF BULK AT MOST 1048576: true; the input reads as it did. -/
def valueOrdersUptoRow : OpenClaim := { program := "ytdhboldmffiklabdoor", sum := "4b14ff7937cd4e811958e6b14466dd0873819f429976ecedc3c1c4bafcb87252", func := "lodestone/lodestonelaw23.ValueOrders", spec := "valueOrders", inPlace := ["internal/bytealg.IndexByteString", "internal/bytealg.IndexString", "internal/bytealg.CountString", "internal/abi.NoEscape", "internal/bytealg.MakeNoZero"], named := ["unicode/utf8.first", "unicode/utf8.acceptRanges", "internal/bytealg.MaxLen"], apart := false, laid := [("unicode/utf8.acceptRanges", laid_unicode_utf8_acceptRanges), ("unicode/utf8.first", laid_unicode_utf8_first)], narrowed := true }
def ValueOrdersUptoSaid : Prop := valueOrdersUptoRow.holds Tryd.pinned (OpenSpec.upto valueOrdersSpec)

/-- 'lodestonelaw11.BlockPuts', WHERE WHAT IT READS IS OF BULK AT MOST 1048576: true; the input reads as it did. -/
def blockPutsUptoRow : OpenClaim := { program := "ytdhboldmffiklabdoor", sum := "4b14ff7937cd4e811958e6b14466dd0873819f429976ecedc3c1c4bafcb87252", func := "lodestone/lodestonelaw11.BlockPuts", spec := "blockPuts", inPlace := ["internal/abi.NoEscape", "internal/bytealg.MakeNoZero", "internal/bytealg.IndexByteString", "internal/bytealg.IndexString"], named := ["lodestone/sha.salts", "unicode/utf8.first", "unicode/utf8.acceptRanges", "internal/bytealg.MaxLen"], apart := false, laid := [("lodestone/sha.salts", laid_lodestone_sha_salts), ("unicode/utf8.acceptRanges", laid_unicode_utf8_acceptRanges), ("unicode/utf8.first", laid_unicode_utf8_first)], narrowed := true }
def BlockPutsUptoSaid : Prop := blockPutsUptoRow.holds Tryd.pinned (OpenSpec.upto blockPutsSpec)

/-- 'lodestonelaw11.BlockGets', WHERE WHAT IT READS IS OF BULK AT MOST 1048576: true; the input reads as it did. -/
def blockGetsUptoRow : OpenClaim := { program := "ytdhboldmffiklabdoor", sum := "4b14ff7937cd4e811958e6b14466dd0873819f429976ecedc3c1c4bafcb87252", func := "lodestone/lodestonelaw11.BlockGets", spec := "blockGets", inPlace := ["internal/abi.NoEscape", "internal/bytealg.MakeNoZero", "internal/bytealg.IndexByteString", "internal/bytealg.IndexString"], named := ["lodestone/sha.salts", "unicode/utf8.first", "unicode/utf8.acceptRanges", "internal/bytealg.MaxLen"], apart := false, laid := [("lodestone/sha.salts", laid_lodestone_sha_salts), ("unicode/utf8.acceptRanges", laid_unicode_utf8_acceptRanges), ("unicode/utf8.first", laid_unicode_utf8_first)], narrowed := true }
def BlockGetsUptoSaid : Prop := blockGetsUptoRow.holds Tryd.pinned (OpenSpec.upto blockGetsSpec)

/-- 'lodestonelaw11.BlockPlaces', WHERE WHAT IT READS IS OF BULK AT MOST 1048576: true; the input reads as it did. -/
def blockPlacesUptoRow : OpenClaim := { program := "ytdhboldmffiklabdoor", sum := "4b14ff7937cd4e811958e6b14466dd0873819f429976ecedc3c1c4bafcb87252", func := "lodestone/lodestonelaw11.BlockPlaces", spec := "blockPlaces", inPlace := ["internal/abi.NoEscape", "internal/bytealg.MakeNoZero", "internal/bytealg.IndexByteString", "internal/bytealg.IndexString"], named := ["lodestone/sha.salts", "unicode/utf8.first", "unicode/utf8.acceptRanges", "internal/bytealg.MaxLen"], apart := false, laid := [("lodestone/sha.salts", laid_lodestone_sha_salts), ("unicode/utf8.acceptRanges", laid_unicode_utf8_acceptRanges), ("unicode/utf8.first", laid_unicode_utf8_first)], narrowed := true }
def BlockPlacesUptoSaid : Prop := blockPlacesUptoRow.holds Tryd.pinned (OpenSpec.upto blockPlacesSpec)

/-- 'lodestonelaw33.QueryParses', WHERE WHAT IT READS IS OF BULK AT MOST 1048576: true; the input reads as it did. -/
def queryParsesUptoRow : OpenClaim := { program := "ytdhboldmffiklabdoor", sum := "4b14ff7937cd4e811958e6b14466dd0873819f429976ecedc3c1c4bafcb87252", func := "lodestone/lodestonelaw33.QueryParses", spec := "queryParses", inPlace := ["internal/bytealg.IndexByteString"], named := ["lodestone/lex.marks", "lodestone/query.plain", "lodestone/query.ops"], apart := false, laid := [("lodestone/lex.marks", laid_lodestone_lex_marks), ("lodestone/query.ops", laid_lodestone_query_ops), ("lodestone/query.plain", laid_lodestone_query_plain)], narrowed := true }
def QueryParsesUptoSaid : Prop := queryParsesUptoRow.holds Tryd.pinned (OpenSpec.upto queryParsesSpec)

/-- 'lodestonelaw33.QueryMost', WHERE WHAT IT READS IS OF BULK AT MOST 1048576: true; the input reads as it did. -/
def queryMostUptoRow : OpenClaim := { program := "ytdhboldmffiklabdoor", sum := "4b14ff7937cd4e811958e6b14466dd0873819f429976ecedc3c1c4bafcb87252", func := "lodestone/lodestonelaw33.QueryMost", spec := "queryMost", inPlace := ["internal/bytealg.IndexByteString"], named := ["lodestone/lex.marks", "lodestone/query.plain", "lodestone/query.ops"], apart := false, laid := [("lodestone/lex.marks", laid_lodestone_lex_marks), ("lodestone/query.ops", laid_lodestone_query_ops), ("lodestone/query.plain", laid_lodestone_query_plain)], narrowed := true }
def QueryMostUptoSaid : Prop := queryMostUptoRow.holds Tryd.pinned (OpenSpec.upto queryMostSpec)

end Rows
end Go.Proofs.YtdhboldmffiklabDoor
