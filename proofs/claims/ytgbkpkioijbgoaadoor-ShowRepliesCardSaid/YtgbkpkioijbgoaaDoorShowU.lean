/- A reply's parts that are not too great: what lodestonelaw41.near and lodestonelaw23.Near make of all that came in, and where it lies. No condition. -/
import Derived.Test.YtgbkpkioijbgoaaDoorShowM
import Derived.Test.YtgbkpkioijbgoaaDoorShowQ
import Derived.Test.YtgbkpkioijbgoaaDoorShowT
namespace Go.Proofs.YtgbkpkioijbgoaaDoor.show
open Go.RowKit
set_option linter.unusedVariables false
set_option linter.unusedSimpArgs false
set_option maxRecDepth 100000

/-- what becomes of a node or an edge -/
def NIp (w : World) (y : InV) (z : In) : Prop := z.near ∧ ∀ W, Below w.heap.size w W → Calls Tryd.prog 12 #[.agg #[.int .u64 y.x.id, .bool y.x.edge, .slice y.la y.x.labels.length y.lc, .string y.x.typ, .int .u64 y.x.fr, .int .u64 y.x.dst, .slice y.pa y.x.props.length y.pc]] W fun e w' => ∃ la' lc' pa' pc', e = .returned (.agg #[.int .u64 z.id, .bool z.edge, .slice la' z.labels.length lc', .string z.typ, .int .u64 z.fr, .int .u64 z.dst, .slice pa' z.props.length pc']) ∧ Hp W [] [.row 9 1 (.slice la' z.labels.length lc') z.labels.length (z.labels.map Value.string), .row 98 4 (.slice pa' z.props.length pc') z.props.length (z.props.flatMap P4.cells)] w'
theorem near_one (w : World) (y : InV) (h : y.raw w) : ∃ z, NIp w y z := by
  obtain ⟨z, h1, h2, h3⟩ := lnear_any y.x.id y.x.edge y.x.labels y.x.typ y.x.fr y.x.dst y.x.props h.id h.fr h.dst h.wf
  exact ⟨z, h1, fun W hb => h3 y.la y.lc y.pa y.pc W (h.labels.below hb) (h.props.below hb)⟩
theorem near_list (w : World) (ins : List InV) (h : ∀ y ∈ ins, y.raw w) : ∃ Zs : List In, Zs.length = min ins.length 3 ∧ ∀ (i : Nat) (z : In), Zs[i]? = some z → ∃ y, ins[i]? = some y ∧ NIp w y z :=
  list_of (fun i z => ∃ y, ins[i]? = some y ∧ NIp w y z) (min ins.length 3) (fun i hi => by
    have hi2 : i < ins.length := by omega
    obtain ⟨z, hz⟩ := near_one w ins[i] (h _ (List.getElem_mem hi2))
    exact ⟨z, ins[i], List.getElem?_eq_getElem hi2, hz⟩)
/-- what becomes of a value -/
def NVp (u v : V3) : Prop := v.near ∧ ∀ W, Calls Tryd.prog 14 #[.agg #[.int .i64 u.k, .int .i64 u.n, .string u.s]] W fun e w' => e = .returned (.agg #[.int .i64 v.k, .int .i64 v.n, .string v.s]) ∧ Below W.heap.size W w'
/-- what becomes of a row -/
def NRp (y : RwV) (r : List V3) : Prop := r.length = min y.l.length 3 ∧ ∀ (k : Nat) (v : V3), r[k]? = some v → ∃ u, y.l[k]? = some u ∧ NVp u v
theorem near_row (y : RwV) (h : ∀ u ∈ y.l, u.wf) : ∃ r, NRp y r :=
  (list_of (fun k v => ∃ u, y.l[k]? = some u ∧ NVp u v) (min y.l.length 3) (fun k hk => by
    have hk2 : k < y.l.length := by omega
    obtain ⟨k', n', s', hv, hc⟩ := near_val y.l[k].k y.l[k].n y.l[k].s (h _ (List.getElem_mem hk2))
    exact ⟨⟨k', n', s'⟩, y.l[k], List.getElem?_eq_getElem hk2, hv, hc⟩)).imp fun r h => h
theorem near_rows (rows : List RwV) (h : ∀ y ∈ rows, ∀ u ∈ y.l, u.wf) : ∃ Rs : List (List V3), Rs.length = min rows.length 3 ∧ ∀ (i : Nat) (r : List V3), Rs[i]? = some r → ∃ y, rows[i]? = some y ∧ NRp y r :=
  list_of (fun i r => ∃ y, rows[i]? = some y ∧ NRp y r) (min rows.length 3) (fun i hi => by
    have hi2 : i < rows.length := by omega
    obtain ⟨r, hr⟩ := near_row rows[i] (h _ (List.getElem_mem hi2))
    exact ⟨r, rows[i], List.getElem?_eq_getElem hi2, hr⟩)
/-- where a node or an edge that was made lies -/
def inAt (nrs : List Rs) (y : InV) : Prop := Rs.row 9 1 (.slice y.la y.x.labels.length y.lc) y.x.labels.length (y.x.labels.map Value.string) ∈ nrs ∧ Rs.row 98 4 (.slice y.pa y.x.props.length y.pc) y.x.props.length (y.x.props.flatMap P4.cells) ∈ nrs
theorem inAt.mono {nrs nrs' : List Rs} {y : InV} (h : inAt nrs y) (hs : ∀ r ∈ nrs, r ∈ nrs') : inAt nrs' y := ⟨hs _ h.1, hs _ h.2⟩
def rwAt (nrs : List Rs) (y : RwV) : Prop := Rs.row 53 3 (.slice y.a y.l.length y.c) y.l.length (y.l.flatMap V3.cells) ∈ nrs
theorem rwAt.mono {nrs nrs' : List Rs} {y : RwV} (h : rwAt nrs y) (hs : ∀ r ∈ nrs, r ∈ nrs') : rwAt nrs' y := hs _ h
theorem sl_mem {w W : World} {X : List Nat} {rs : List Rs} {e : TypeId} {size n : Nat} {v : Value} {xs : List Value} (h : Hp w X rs W) (hm : Rs.row e size v n xs ∈ rs) (hn : n ≤ 100) : Sl W v n xs := by
  obtain ⟨i, hi⟩ := List.getElem?_of_mem hm
  exact h.sl hi (by omega)
theorem in_ok {w W : World} {X : List Nat} {rs nrs : List Rs} {y : InV} (h : Hp w X rs W) (hy : inAt nrs y) (hs : ∀ r ∈ nrs, r ∈ rs) (hn : y.x.near) : y.ok W :=
  ⟨hn, sl_mem h (hs _ hy.1) (by have := hn.labels.1; omega), sl_mem h (hs _ hy.2) (by have := hn.props.1; omega)⟩
theorem rw_ok {w W : World} {X : List Nat} {rs nrs : List Rs} {y : RwV} (h : Hp w X rs W) (hy : rwAt nrs y) (hs : ∀ r ∈ nrs, r ∈ rs) (hn : ∀ z ∈ y.l, z.near) (hl : y.l.length ≤ 3) : y.ok W :=
  ⟨hl, hn, sl_mem h (hs _ hy) (by omega)⟩
theorem hpFront {w W : World} {X : List Nat} {rs : List Rs} (h : Hp w X rs W) (i : Nat) {r : Rs} (hi : rs[i]? = some r) : Hp w X (r :: rs.eraseIdx i) W := by
  refine h.perm ?_
  clear h
  induction rs generalizing i with
  | nil => simp at hi
  | cons a rs ih =>
    cases i with
    | zero => simp at hi; subst hi; simp
    | succ i => exact ((ih i (by simpa using hi)).cons a).trans (by rw [List.eraseIdx_cons_succ]; exact List.Perm.swap _ _ _)
theorem turn24 {w W : World} {X : List Nat} {r1 r2 a b c d : Rs} {nrs : List Rs} (h : Hp w X (r1 :: r2 :: a :: b :: c :: d :: nrs) W) : Hp w X (a :: b :: c :: d :: r1 :: r2 :: nrs) W :=
  have h1 : Hp w X (d :: r1 :: r2 :: a :: b :: c :: nrs) W := hpFront h 5 rfl
  have h2 : Hp w X (c :: d :: r1 :: r2 :: a :: b :: nrs) W := hpFront h1 5 rfl
  have h3 : Hp w X (b :: c :: d :: r1 :: r2 :: a :: nrs) W := hpFront h2 5 rfl
  hpFront h3 5 rfl
theorem turn15 {w W : World} {X : List Nat} {v a b c d e : Rs} {nrs : List Rs} (h : Hp w X (v :: a :: b :: c :: d :: e :: nrs) W) : Hp w X (a :: b :: c :: d :: e :: v :: nrs) W :=
  have h1 : Hp w X (e :: v :: a :: b :: c :: d :: nrs) W := hpFront h 5 rfl
  have h2 : Hp w X (d :: e :: v :: a :: b :: c :: nrs) W := hpFront h1 5 rfl
  have h3 : Hp w X (c :: d :: e :: v :: a :: b :: nrs) W := hpFront h2 5 rfl
  have h4 : Hp w X (b :: c :: d :: e :: v :: a :: nrs) W := hpFront h3 5 rfl
  hpFront h4 5 rfl
theorem u64Info : (Tryd.prog.info? 38).map (fun i => (i.zero, i.size, i.bytes)) = some (some (.int .u64 0), 1, 8) := by kernel_rfl
theorem infInfo : (Tryd.prog.info? 48).map (fun i => (i.zero, i.size, i.bytes)) = some (some (.agg #[.int .u64 0, .bool false, .slice none 0 0, .string ⟨#[]⟩, .int .u64 0, .int .u64 0, .slice none 0 0]), 7, 96) := by kernel_rfl
theorem valsInfo : (Tryd.prog.info? 51).map (fun i => (i.zero, i.size, i.bytes)) = some (some (.slice none 0 0), 1, 24) := by kernel_rfl
theorem valInfo : (Tryd.prog.info? 53).map (fun i => (i.zero, i.size, i.bytes)) = some (some (.agg #[.int .i64 0, .int .i64 0, .string ⟨#[]⟩]), 3, 32) := by kernel_rfl
end Go.Proofs.YtgbkpkioijbgoaaDoor.show
