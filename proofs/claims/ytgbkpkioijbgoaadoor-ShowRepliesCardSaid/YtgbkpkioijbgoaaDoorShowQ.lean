/- A reply that came in, as lists: its numbers, its nodes and edges, its rows, and where they lie. No condition. -/
import Derived.Test.YtgbkpkioijbgoaaDoorShowO
import Derived.Test.YtgbkpkioijbgoaaDoorShowP
namespace Go.Proofs.YtgbkpkioijbgoaaDoor.show
open Go.RowKit
set_option linter.unusedVariables false
set_option linter.unusedSimpArgs false
set_option maxRecDepth 100000
theorem wf_u64 {a : Int} (h : (Lit.int .u64 a).wf = true) : 0 ≤ a ∧ a < 18446744073709551616 := by
  have : 0 ≤ a ∧ a ≤ 18446744073709551615 := by simpa [Lit.wf, IntKind.min, IntKind.max, IntKind.signed, IntKind.bits] using h
  omega
theorem wf_i64 {a : Int} (h : (Lit.int .i64 a).wf = true) : -9223372036854775808 ≤ a ∧ a ≤ 9223372036854775807 := by
  simpa [Lit.wf, IntKind.min, IntKind.max, IntKind.signed, IntKind.bits] using h
/-- numbers -/
theorem slv_nums {W : World} {v : Value} (h : SlV W 1 qU64 v) : ∃ (a : Option Addr) (l : List Int) (c : Nat), v = .slice a l.length c ∧ (∀ x ∈ l, 0 ≤ x ∧ x < 18446744073709551616) ∧ Sl W (.slice a l.length c) l.length (l.map (Value.int .u64)) := by
  obtain ⟨a, n, c, rfl, h, hn⟩ := h
  obtain ⟨l, rfl, hs⟩ := SliceArg.sl (cap := c) h (fun x : { x : Int // 0 ≤ x ∧ x < 18446744073709551616 } => [.int .u64 x.1]) (fun _ => rfl) (by decide) hn (fun vs hq => by
    obtain ⟨x, hx, hw⟩ := hq 0 (by decide)
    exact ⟨⟨x, wf_u64 hw⟩, fun j hj => by obtain rfl : j = 0 := by omega
                                          rw [hx]; rfl⟩)
  refine ⟨a, l.map (·.1), c, by rw [List.length_map], fun x hx => ?_, ?_⟩
  · obtain ⟨y, _, rfl⟩ := List.mem_map.mp hx; exact y.2
  · rw [List.length_map, List.map_map]
    have e : l.flatMap (fun x => [Value.int .u64 x.1]) = l.map (Value.int .u64 ∘ (·.1)) := by
      clear hs hn h
      induction l with
      | nil => rfl
      | cons x t ih => rw [List.flatMap_cons, List.map_cons, ih]; rfl
    rw [← e]; exact hs
/-- texts -/
theorem slv_strs {W : World} {v : Value} (h : SlV W 1 qStr v) : ∃ (a : Option Addr) (l : List ByteArray) (c : Nat), v = .slice a l.length c ∧ Sl W (.slice a l.length c) l.length (l.map Value.string) := by
  obtain ⟨a, n, c, rfl, h, hn⟩ := h
  obtain ⟨l, rfl, hs⟩ := SliceArg.sl (cap := c) h (fun x : ByteArray => [.string x]) (fun _ => rfl) (by decide) hn (fun vs hq => by
    obtain ⟨x, hx, hw⟩ := hq 0 (by decide)
    exact ⟨x, fun j hj => by obtain rfl : j = 0 := by omega
                             rw [hx]; rfl⟩)
  refine ⟨a, l, c, rfl, ?_⟩
  have e : l.flatMap (fun x => [Value.string x]) = l.map Value.string := by
    clear hs hn h
    induction l with
    | nil => rfl
    | cons x t ih => rw [List.flatMap_cons, List.map_cons, ih]; rfl
  rw [← e]; exact hs
def V3.wf (x : V3) : Prop := -9223372036854775808 ≤ x.n ∧ x.n ≤ 9223372036854775807
theorem flat_vals {p : V3 → Prop} : ∀ l : List { x : V3 // p x }, l.flatMap (fun x => x.1.cells) = (l.map (·.1)).flatMap V3.cells
  | [] => rfl
  | x :: t => by rw [List.flatMap_cons, flat_vals t]; rfl
/-- values -/
theorem slv_vals {W : World} {v : Value} (h : SlV W 3 qVal v) : ∃ (a : Option Addr) (l : List V3) (c : Nat), v = .slice a l.length c ∧ (∀ x ∈ l, x.wf) ∧ Sl W (.slice a l.length c) l.length (l.flatMap V3.cells) := by
  obtain ⟨a, n, c, rfl, h, hn⟩ := h
  obtain ⟨l, rfl, hs⟩ := SliceArg.sl (cap := c) h (fun x : { x : V3 // x.wf } => x.1.cells) (fun _ => rfl) (by decide) hn (fun vs hq => by
    obtain ⟨x0, h0, _⟩ := hq 0 (by decide)
    obtain ⟨x1, h1, w1⟩ := hq 1 (by decide)
    obtain ⟨x2, h2, _⟩ := hq 2 (by decide)
    refine ⟨⟨⟨x0, x1, x2⟩, wf_i64 w1⟩, fun j hj => ?_⟩
    have hc : j = 0 ∨ j = 1 ∨ j = 2 := by omega
    rcases hc with rfl | rfl | rfl
    · rw [h0]; rfl
    · rw [h1]; rfl
    · rw [h2]; rfl)
  refine ⟨a, l.map (·.1), c, by rw [List.length_map], fun x hx => ?_, ?_⟩
  · obtain ⟨y, _, rfl⟩ := List.mem_map.mp hx; exact y.2
  · rw [List.length_map, ← flat_vals]; exact hs
def P4.wf (x : P4) : Prop := -9223372036854775808 ≤ x.val.n ∧ x.val.n ≤ 9223372036854775807
theorem flat_pairs {p : P4 → Prop} : ∀ l : List { x : P4 // p x }, l.flatMap (fun x => x.1.cells) = (l.map (·.1)).flatMap P4.cells
  | [] => rfl
  | x :: t => by rw [List.flatMap_cons, flat_pairs t]; rfl
/-- properties -/
theorem slv_pairs {W : World} {v : Value} (h : SlV W 4 qPair v) : ∃ (a : Option Addr) (l : List P4) (c : Nat), v = .slice a l.length c ∧ (∀ x ∈ l, x.wf) ∧ Sl W (.slice a l.length c) l.length (l.flatMap P4.cells) := by
  obtain ⟨a, n, c, rfl, h, hn⟩ := h
  obtain ⟨l, rfl, hs⟩ := SliceArg.sl (cap := c) h (fun x : { x : P4 // x.wf } => x.1.cells) (fun _ => rfl) (by decide) hn (fun vs hq => by
    obtain ⟨x0, h0, _⟩ := hq 0 (by decide)
    obtain ⟨x1, h1, _⟩ := hq 1 (by decide)
    obtain ⟨x2, h2, w2⟩ := hq 2 (by decide)
    obtain ⟨x3, h3, _⟩ := hq 3 (by decide)
    refine ⟨⟨⟨x0, ⟨x1, x2, x3⟩⟩, wf_i64 w2⟩, fun j hj => ?_⟩
    have hc : j = 0 ∨ j = 1 ∨ j = 2 ∨ j = 3 := by omega
    rcases hc with rfl | rfl | rfl | rfl
    · rw [h0]; rfl
    · rw [h1]; rfl
    · rw [h2]; rfl
    · rw [h3]; rfl)
  refine ⟨a, l.map (·.1), c, by rw [List.length_map], fun x hx => ?_, ?_⟩
  · obtain ⟨y, _, rfl⟩ := List.mem_map.mp hx; exact y.2
  · rw [List.length_map, ← flat_pairs]; exact hs
/-- a node or an edge that came in -/
structure InV.raw (y : InV) (w : World) : Prop where
  id : 0 ≤ y.x.id ∧ y.x.id < 18446744073709551616
  fr : 0 ≤ y.x.fr ∧ y.x.fr < 18446744073709551616
  dst : 0 ≤ y.x.dst ∧ y.x.dst < 18446744073709551616
  wf : ∀ z ∈ y.x.props, z.wf
  labels : Sl w (.slice y.la y.x.labels.length y.lc) y.x.labels.length (y.x.labels.map Value.string)
  props : Sl w (.slice y.pa y.x.props.length y.pc) y.x.props.length (y.x.props.flatMap P4.cells)
theorem flat_ins {p : InV → Prop} : ∀ l : List { x : InV // p x }, l.flatMap (fun x => x.1.cells) = (l.map (·.1)).flatMap InV.cells
  | [] => rfl
  | x :: t => by rw [List.flatMap_cons, flat_ins t]; rfl
/-- nodes and edges -/
theorem slv_infos {W : World} {v : Value} (h : SlV W 7 (qInfo W) v) : ∃ (a : Option Addr) (l : List InV) (c : Nat), v = .slice a l.length c ∧ (∀ x ∈ l, x.raw W) ∧ Sl W (.slice a l.length c) l.length (l.flatMap InV.cells) := by
  obtain ⟨a, n, c, rfl, h, hn⟩ := h
  obtain ⟨l, rfl, hs⟩ := SliceArg.sl (cap := c) h (fun x : { x : InV // x.raw W } => x.1.cells) (fun _ => rfl) (by decide) hn (fun vs hq => by
    obtain ⟨x0, h0, w0⟩ := hq 0 (by decide)
    obtain ⟨x1, h1⟩ := hq 1 (by decide)
    obtain ⟨la, L, lc, h2, s2⟩ := slv_strs (hq 2 (by decide))
    obtain ⟨x3, h3, _⟩ := hq 3 (by decide)
    obtain ⟨x4, h4, w4⟩ := hq 4 (by decide)
    obtain ⟨x5, h5, w5⟩ := hq 5 (by decide)
    obtain ⟨pa, P, pc, h6, p6, s6⟩ := slv_pairs (hq 6 (by decide))
    refine ⟨⟨⟨⟨x0, x1, L, x3, x4, x5, P⟩, la, lc, pa, pc⟩, ⟨wf_u64 w0, wf_u64 w4, wf_u64 w5, p6, s2, s6⟩⟩, fun j hj => ?_⟩
    have hc : j = 0 ∨ j = 1 ∨ j = 2 ∨ j = 3 ∨ j = 4 ∨ j = 5 ∨ j = 6 := by omega
    rcases hc with rfl | rfl | rfl | rfl | rfl | rfl | rfl
    · rw [h0]; rfl
    · rw [h1]; rfl
    · rw [h2]; rfl
    · rw [h3]; rfl
    · rw [h4]; rfl
    · rw [h5]; rfl
    · rw [h6]; rfl)
  refine ⟨a, l.map (·.1), c, by rw [List.length_map], fun x hx => ?_, ?_⟩
  · obtain ⟨y, _, rfl⟩ := List.mem_map.mp hx; exact y.2
  · rw [List.length_map, ← flat_ins]; exact hs
/-- a row that came in -/
structure RwV.raw (y : RwV) (w : World) : Prop where
  wf : ∀ z ∈ y.l, z.wf
  at_ : Sl w (.slice y.a y.l.length y.c) y.l.length (y.l.flatMap V3.cells)
theorem flat_rows {p : RwV → Prop} : ∀ l : List { x : RwV // p x }, l.flatMap (fun x => x.1.cells) = (l.map (·.1)).flatMap RwV.cells
  | [] => rfl
  | x :: t => by rw [List.flatMap_cons, flat_rows t]; rfl
/-- rows -/
theorem slv_rows {W : World} {v : Value} (h : SlV W 1 (qRow W) v) : ∃ (a : Option Addr) (l : List RwV) (c : Nat), v = .slice a l.length c ∧ (∀ x ∈ l, x.raw W) ∧ Sl W (.slice a l.length c) l.length (l.flatMap RwV.cells) := by
  obtain ⟨a, n, c, rfl, h, hn⟩ := h
  obtain ⟨l, rfl, hs⟩ := SliceArg.sl (cap := c) h (fun x : { x : RwV // x.raw W } => x.1.cells) (fun _ => rfl) (by decide) hn (fun vs hq => by
    obtain ⟨ra, L, rc, h0, p0, s0⟩ := slv_vals (hq 0 (by decide))
    refine ⟨⟨⟨L, ra, rc⟩, ⟨p0, s0⟩⟩, fun j hj => ?_⟩
    obtain rfl : j = 0 := by omega
    rw [h0]; rfl)
  refine ⟨a, l.map (·.1), c, by rw [List.length_map], fun x hx => ?_, ?_⟩
  · obtain ⟨y, _, rfl⟩ := List.mem_map.mp hx; exact y.2
  · rw [List.length_map, ← flat_rows]; exact hs
end Go.Proofs.YtgbkpkioijbgoaaDoor.show
