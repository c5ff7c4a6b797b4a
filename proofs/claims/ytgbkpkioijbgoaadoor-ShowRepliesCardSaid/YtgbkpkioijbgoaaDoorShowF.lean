/- A node or an edge as a text (show.Info). The table of powers of ten is a premise; things as lodestonelaw41.near gives them. -/
import Derived.Test.YtgbkpkioijbgoaaDoorShowR
import Derived.Test.YtgbkpkioijbgoaaDoorAppS
namespace Go.Proofs.YtgbkpkioijbgoaaDoor.show
open Go.RowKit
attribute [local go_sem ↓] Go.wp_at_zero Go.wp_at_succ
set_option linter.unusedVariables false
set_option linter.unusedSimpArgs false
set_option maxRecDepth 100000

/-- a property -/
structure P4 where
  name : ByteArray
  val : V3
def P4.cells (x : P4) : List Value := [.string x.name, .int .i64 x.val.k, .int .i64 x.val.n, .string x.val.s]
theorem P4.cells_len (x : P4) : x.cells.length = 4 := rfl
def P4.text (x : P4) : ByteArray := (x.name ++ ⟨#[58, 32]⟩) ++ x.val.text
def P4.near (x : P4) : Prop := x.name.size ≤ 10 ∧ x.val.near
theorem P4.text_size (x : P4) (h : x.near) : x.text.size ≤ 142 := by
  have h1 := show.text_size x.val h.2
  have h2 := h.1
  have e : (⟨#[58, 32]⟩ : ByteArray).size = 2 := rfl
  unfold P4.text
  simp only [ByteArray.size_append]
  omega
/-- a node or an edge -/
structure In where
  id : Int
  edge : Bool
  labels : List ByteArray
  typ : ByteArray
  fr : Int
  dst : Int
  props : List P4
structure In.near (x : In) : Prop where
  id : 0 ≤ x.id ∧ x.id < 18446744073709551616
  fr : 0 ≤ x.fr ∧ x.fr < 18446744073709551616
  dst : 0 ≤ x.dst ∧ x.dst < 18446744073709551616
  typ : x.typ.size ≤ 10
  labels : x.labels.length ≤ 4 ∧ ∀ y ∈ x.labels, y.size ≤ 10
  props : x.props.length ≤ 4 ∧ ∀ y ∈ x.props, y.near
def labT (s : ByteArray) (l : List ByteArray) : ByteArray := l.foldl (fun s x => s ++ ((⟨#[58]⟩ : ByteArray) ++ x)) s
theorem labT_size (l : List ByteArray) (h : ∀ y ∈ l, y.size ≤ 10) : ∀ s : ByteArray, (labT s l).size ≤ s.size + 11 * l.length := by
  induction l with
  | nil => intro s; simp [labT]
  | cons y l ih =>
    intro s
    have h1 := ih (fun z hz => h z (by simp [hz])) (s ++ ((⟨#[58]⟩ : ByteArray) ++ y))
    have h2 := h y (by simp)
    have e : (⟨#[58]⟩ : ByteArray).size = 1 := rfl
    simp only [ByteArray.size_append, e] at h1
    simp only [labT, List.foldl_cons, List.length_cons] at h1 ⊢
    omega
def headE (a f t ty : ByteArray) : ByteArray := ((((((⟨#[101, 100, 103, 101, 32]⟩ : ByteArray) ++ a) ++ ⟨#[32]⟩) ++ f) ++ ⟨#[45]⟩) ++ ty) ++ ⟨#[45, 62]⟩ ++ t
def In.head (x : In) : ByteArray := if x.edge then headE (numT x.id) (numT x.fr) (numT x.dst) x.typ else labT ((⟨#[110, 111, 100, 101, 32]⟩ : ByteArray) ++ numT x.id) x.labels
def In.text (x : In) : ByteArray := if x.props = [] then x.head else ((x.head ++ ⟨#[32, 123]⟩) ++ joinS (x.props.map P4.text) ⟨#[44, 32]⟩) ++ ⟨#[125]⟩
theorem In.head_size (x : In) (h : x.near) : x.head.size ≤ 200 := by
  have h1 := numT_lenU _ h.id; have h2 := numT_lenU _ h.fr; have h3 := numT_lenU _ h.dst; have h4 := h.typ
  have h5 := h.labels.1
  have e1 : (⟨#[101, 100, 103, 101, 32]⟩ : ByteArray).size = 5 := rfl
  have e2 : (⟨#[32]⟩ : ByteArray).size = 1 := rfl
  have e3 : (⟨#[45]⟩ : ByteArray).size = 1 := rfl
  have e4 : (⟨#[45, 62]⟩ : ByteArray).size = 2 := rfl
  have e5 : (⟨#[110, 111, 100, 101, 32]⟩ : ByteArray).size = 5 := rfl
  unfold In.head
  split
  · unfold headE; simp only [ByteArray.size_append]; omega
  · have := labT_size x.labels h.labels.2 ((⟨#[110, 111, 100, 101, 32]⟩ : ByteArray) ++ numT x.id)
    simp only [ByteArray.size_append] at this
    omega
theorem props_size (l : List P4) (hn : l.length ≤ 4) (hl : ∀ x ∈ l, x.near) : (joinS (l.map P4.text) ⟨#[44, 32]⟩).size ≤ 1000 := by
  have h := joinS_size (l.map P4.text) ⟨#[44, 32]⟩ 142 (fun y hy => by
    obtain ⟨z, hz, rfl⟩ := List.mem_map.mp hy
    exact P4.text_size z (hl z hz))
  have e : (⟨#[44, 32]⟩ : ByteArray).size = 2 := rfl
  rw [e, List.length_map] at h
  omega
theorem labT_take (s : ByteArray) (l : List ByteArray) (i : Nat) (x : ByteArray) (h : l[i]? = some x) : labT s (l.take (i + 1)) = labT s (l.take i) ++ ((⟨#[58]⟩ : ByteArray) ++ x) := by
  rw [List.take_add_one, h]; simp [labT, List.foldl_append]
theorem slAt {w : World} {a : Option Addr} {n cap : Nat} {vs : List Value} (h : Sl w (.slice a n cap) n vs) : n = 0 ∨ ∃ b o, a = some ⟨b, o, none⟩ ∧ RowAt w b o vs := by
  obtain ⟨a', c', e, hm, h⟩ := h
  cases e
  exact h
set_option maxHeartbeats 8000000 in
theorem info_any (x : In) (la : Option Addr) (lc : Nat) (pa : Option Addr) (pc : Nat) (w : World) (hT : Tab w) (hN : x.near) (hl : Sl w (.slice la x.labels.length lc) x.labels.length (x.labels.map Value.string)) (hP : Sl w (.slice pa x.props.length pc) x.props.length (x.props.flatMap P4.cells)) :
    Calls Tryd.prog 44 #[.agg #[.int .u64 x.id, .bool x.edge, .slice la x.labels.length lc, .string x.typ, .int .u64 x.fr, .int .u64 x.dst, .slice pa x.props.length pc]] w fun e w' => e = .returned (.string x.text) ∧ Below w.heap.size w w' := by
  have hhs := x.head_size hN
  have hps := props_size x.props hN.props.1 hN.props.2
  have kI : ∀ y : Int, 0 ≤ y ∧ y < 18446744073709551616 → ∀ W, Below w.heap.size w W → Calls Tryd.prog 43 #[.int .u64 y] W fun e w' => e = .returned (.string (numT y)) ∧ Below W.heap.size W w' := fun y hy W hb => by
    obtain ⟨u, rfl⟩ : ∃ u : Nat, y = (u : Int) := ⟨y.toNat, by omega⟩
    exact id_any u (by omega) W (hT.keep hb)
  have k1 := kI x.id hN.id
  have k2 := kI x.fr hN.fr
  have k3 := kI x.dst hN.dst
  have z1 := numT_lenU _ hN.id; have z2 := numT_lenU _ hN.fr; have z3 := numT_lenU _ hN.dst; have z4 := hN.typ
  have kv : ∀ y, y ∈ x.props → ∀ W, Below w.heap.size w W → Calls Tryd.prog 81 #[.agg #[.int .i64 y.val.k, .int .i64 y.val.n, .string y.val.s]] W fun e w' => e = .returned (.string y.val.text) ∧ Below W.heap.size W w' := fun y hy W hb =>
    sval_any y.val.k y.val.n y.val.s (hN.props.2 y hy).2.hn (fun e => by have := (hN.props.2 y hy).2.hs e; omega) W (hT.keep hb)
  have kj : ∀ (W : World) (v : Value), SRow W 0 v (x.props.map P4.text) → Calls Tryd.prog 46 #[v, .string ⟨#[44, 32]⟩] W fun e w' => e = .returned (.string (joinS (x.props.map P4.text) ⟨#[44, 32]⟩)) ∧ Below W.heap.size W w' :=
    fun W v hr => joinS_any _ _ (by omega) (by have := hN.props.1; simp; omega) W v hr
  have hlz := hN.labels
  have hpz := hN.props
  obtain ⟨id, edge, labels, typ, fr, dst, props⟩ := x
  simp only at *
  obtain ⟨J, hJ⟩ : ∃ J, J = joinS (props.map P4.text) ⟨#[44, 32]⟩ := ⟨_, rfl⟩
  rw [← hJ] at kj hps
  have hT0 : props.length = 0 → In.text ⟨id, edge, labels, typ, fr, dst, props⟩ = In.head ⟨id, edge, labels, typ, fr, dst, props⟩ := fun h => by unfold In.text; rw [if_pos (List.eq_nil_of_length_eq_zero h)]
  have hT1 : ¬ props.length = 0 → In.text ⟨id, edge, labels, typ, fr, dst, props⟩ = ((In.head ⟨id, edge, labels, typ, fr, dst, props⟩ ++ ⟨#[32, 123]⟩) ++ J) ++ ⟨#[125]⟩ := fun h => by unfold In.text; rw [if_neg (fun e => h (by simp at e; simp [e])), hJ]
  obtain ⟨R, hR⟩ : ∃ R, R = In.text ⟨id, edge, labels, typ, fr, dst, props⟩ := ⟨_, rfl⟩
  rw [← hR] at hT0 hT1 ⊢
  have hH : In.head ⟨id, edge, labels, typ, fr, dst, props⟩ = if edge then headE (numT id) (numT fr) (numT dst) typ else labT ((⟨#[110, 111, 100, 101, 32]⟩ : ByteArray) ++ numT id) labels := rfl
  obtain ⟨H, hH2⟩ : ∃ H, H = In.head ⟨id, edge, labels, typ, fr, dst, props⟩ := ⟨_, rfl⟩
  rw [← hH2] at hT0 hT1 hH hhs
  obtain ⟨A, hA⟩ : ∃ A, A = numT id := ⟨_, rfl⟩
  obtain ⟨F, hF⟩ : ∃ F, F = numT fr := ⟨_, rfl⟩
  obtain ⟨T, hTo⟩ : ∃ T, T = numT dst := ⟨_, rfl⟩
  rw [← hA] at k1 z1 hH
  rw [← hF] at k2 z2 hH
  rw [← hTo] at k3 z3 hH
  obtain ⟨ln, hln⟩ : ∃ n, n = labels.length := ⟨_, rfl⟩
  obtain ⟨np, hnp⟩ : ∃ n, n = props.length := ⟨_, rfl⟩
  rw [← hln] at hl hlz ⊢
  rw [← hnp] at hP hpz hT0 hT1 ⊢
  have hp0 := (Hp.none_ w []).alloc #[.int .u64 id, .bool edge, .slice la ln lc, .string typ, .int .u64 fr, .int .u64 dst, .slice pa np pc] 48
  clear hR hJ hH2 hA hF hTo kI hT hN
  replace hl := slAt hl
  replace hP := slAt hP
  obtain ⟨hln1, hlz2⟩ := hlz
  obtain ⟨hnp1, hpz2⟩ := hpz
  replace hp0 := Lib.hid hp0; replace k1 := Lib.hid k1; replace k2 := Lib.hid k2; replace k3 := Lib.hid k3; replace kv := Lib.hid kv; replace kj := Lib.hid kj; replace hT0 := Lib.hid hT0; replace hT1 := Lib.hid hT1; replace hH := Lib.hid hH
  replace hl := Lib.hid hl; replace hP := Lib.hid hP; replace hlz2 := Lib.hid hlz2; replace hpz2 := Lib.hid hpz2; replace hln := Lib.hid hln; replace hnp := Lib.hid hnp; replace hhs := Lib.hid hhs; replace hps := Lib.hid hps
  go_enter Tryd.func44, Tryd.ntmps44
  go_upto_region 1 with fail
  generalize w.alloc _ = W at hp0 ⊢
  generalize hq2 : w.heap.size = q at hp0 ⊢
  clear hq2
  have c0 := hp0.out.cell (i := 0) rfl 0; have c1 := hp0.out.cell (i := 0) rfl 1; have c2 := hp0.out.cell (i := 0) rfl 2; have c3 := hp0.out.cell (i := 0) rfl 3; have c4 := hp0.out.cell (i := 0) rfl 4; have c5 := hp0.out.cell (i := 0) rfl 5; have c6 := hp0.out.cell (i := 0) rfl 6
  simp at c0 c1 c2 c3 c4 c5 c6
  cases edge with
  | true =>
    have hH1 := hH.out
    rw [if_pos rfl] at hH1
    unfold headE at hH1
    replace hH1 := Lib.hid hH1
    go_upto_region 3 with (go_at_call 43; (with_reducible refine (k1.out _ hp0.out.bel).mono ?_); rintro e w1 ⟨rfl, b1⟩; replace hp0 := Lib.hid (hp0.out.below b1); have c0 := hp0.out.cell (i := 0) rfl 0; have c1 := hp0.out.cell (i := 0) rfl 1; have c2 := hp0.out.cell (i := 0) rfl 2; have c3 := hp0.out.cell (i := 0) rfl 3; have c4 := hp0.out.cell (i := 0) rfl 4; have c5 := hp0.out.cell (i := 0) rfl 5; have c6 := hp0.out.cell (i := 0) rfl 6; simp at c0 c1 c2 c3 c4 c5 c6)
    have hw := Lib.hid (show ∀ (W w1 : World), Hp w [] [.box q #[.int .u64 id, .bool true, .slice la ln lc, .string typ, .int .u64 fr, .int .u64 dst, .slice pa np pc] 48] W → Below W.heap.size W w1 → (Hp w [] [.box q #[.int .u64 id, .bool true, .slice la ln lc, .string typ, .int .u64 fr, .int .u64 dst, .slice pa np pc] 48] w1 ∧ w1.cell? ⟨q, 0, none⟩ = some (.int .u64 id) ∧ w1.cell? ⟨q, 3, none⟩ = some (.string typ) ∧ w1.cell? ⟨q, 4, none⟩ = some (.int .u64 fr) ∧ w1.cell? ⟨q, 5, none⟩ = some (.int .u64 dst)) from fun W w1 h b => by have hq := h.below b; exact ⟨hq, hq.cell (i := 0) rfl 0, hq.cell (i := 0) rfl 3, hq.cell (i := 0) rfl 4, hq.cell (i := 0) rfl 5⟩)
    have g1 : ¬9223372036854775807 < 5 + A.size := by omega
    have g2 : ¬9223372036854775807 < 5 + A.size + 1 := by omega
    have g3 : ¬9223372036854775807 < 5 + A.size + 1 + F.size := by omega
    have g4 : ¬9223372036854775807 < 5 + A.size + 1 + F.size + 1 := by omega
    have g5 : ¬9223372036854775807 < 5 + A.size + 1 + F.size + 1 + typ.size := by omega
    have g6 : ¬9223372036854775807 < 5 + A.size + 1 + F.size + 1 + typ.size + 2 := by omega
    have g7 : ¬9223372036854775807 < 5 + A.size + 1 + F.size + 1 + typ.size + 2 + T.size := by omega
    go_region_held3 (fun W' => Hp w [] [.box q #[.int .u64 id, .bool true, .slice la ln lc, .string typ, .int .u64 fr, .int .u64 dst, .slice pa np pc] 48] W' ∧ W'.cell? ⟨q, 0, none⟩ = some (.int .u64 id) ∧ W'.cell? ⟨q, 3, none⟩ = some (.string typ) ∧ W'.cell? ⟨q, 4, none⟩ = some (.int .u64 fr) ∧ W'.cell? ⟨q, 5, none⟩ = some (.int .u64 dst))
      (first
        | exact ⟨hp0.out.drew, c0, c3, c4, c5⟩
        | (go_split_ands; exact ⟨by assumption, by assumption, by assumption, by assumption, by assumption⟩)
        | (go_split_ands; exact hw.out _ _ (by assumption) (by assumption)))
      (first
        | (go_at_call 43; (with_reducible refine (k1.out _ (by go_split_ands; exact Hp.bel (by assumption))).mono ?_); rintro e' w1 ⟨rfl, hb⟩)
        | (go_at_call 43; (with_reducible refine (k2.out _ (by go_split_ands; exact Hp.bel (by assumption))).mono ?_); rintro e' w1 ⟨rfl, hb⟩)
        | (go_at_call 43; (with_reducible refine (k3.out _ (by go_split_ands; exact Hp.bel (by assumption))).mono ?_); rintro e' w1 ⟨rfl, hb⟩))
    obtain ⟨hp, -, -, -, -⟩ := ‹Hp _ _ _ _ ∧ _›
    rw [← hH1.out]
    have c6 := hp.cell (i := 0) rfl 6
    simp at c6
    replace hp := Lib.hid hp
    clear g1 g2 g3 g4 g5 g6 g7 hw hp0 k1 k2 k3
    by_cases hz : np = 0
    · have hx := hT0.out (by exact hz)
      subst hz
      go_wp2
      go_ret
      exact ⟨by first | rfl | (rw [hx]; rfl), hp.out.bel⟩
    · have hx := hT1.out hz
      have hz2 : ((np : Int) == 0) = false := by rw [beq_eq_false_iff_ne]; omega
      have hpr := hp.out.rowNil 9 1
      replace hpr := Lib.hid hpr
      replace hx := Lib.hid hx
      clear hp hT0 hT1
      go_wp2
      go_loopg [6, 53] np (fun kk s6 s53 wr => ∃ (i : Nat) (ad : Option Addr) (cp : Nat), s53 = .int .i64 (i : Int) ∧ i + kk = np ∧ s6 = .slice ad i cp ∧ Hp w [] [.row 9 1 (.slice ad i cp) i (((props.take i).map P4.text).map Value.string), .box q #[.int .u64 id, .bool true, .slice la ln lc, .string typ, .int .u64 fr, .int .u64 dst, .slice pa np pc] 48] wr)
      case atStart => exact ⟨0, _, _, rfl, by omega, rfl, by simpa using hpr.out⟩
      case round =>
        clear hpr c6
        obtain ⟨i, ad, cp2, rfl, hi, rfl, hp⟩ := hrel
        by_cases hlt : i < np
        · obtain ⟨K, rfl⟩ : ∃ K : Nat, gk = K + 1 := ⟨gk - 1, by omega⟩
          obtain ⟨b, o, rfl, hr⟩ := hP.out.resolve_left (by omega)
          obtain ⟨y, hy⟩ : ∃ y, props[i]? = some y := ⟨_, List.getElem?_eq_getElem (by have := hnp.out; omega)⟩
          have hf : ((props.take (i + 1)).map P4.text).map Value.string = ((props.take i).map P4.text).map Value.string ++ [.string y.text] := by rw [List.take_add_one, hy]; simp
          have hcx := kv.out y (List.mem_of_getElem? hy)
          have hys := hpz2.out y (List.mem_of_getElem? hy)
          have hsz := show.text_size _ hys.2
          have hnz := hys.1
          have d0 : wr.cell? ⟨b, o + i * 4, none⟩ = some (.string y.name) := (hp.bel.cell hr.1).trans (hr.elem0 P4.cells_len hy rfl)
          have d1 : wr.cell? ⟨b, o + i * 4 + 1, none⟩ = some (.int .i64 y.val.k) := (hp.bel.cell hr.1).trans (hr.elem P4.cells_len hy rfl)
          have d2 : wr.cell? ⟨b, o + i * 4 + 2, none⟩ = some (.int .i64 y.val.n) := (hp.bel.cell hr.1).trans (hr.elem P4.cells_len hy rfl)
          have d3 : wr.cell? ⟨b, o + i * 4 + 3, none⟩ = some (.string y.val.s) := (hp.bel.cell hr.1).trans (hr.elem P4.cells_len hy rfl)
          have e1 : (0 : Int) ≤ (i : Int) := by omega
          have e2 : (i : Int) < (np : Int) := by omega
          have hi9 : i < 100000000 := by omega
          obtain ⟨nm, xk, xn, xs⟩ := y
          have hte : P4.text ⟨nm, xk, xn, xs⟩ = (nm ++ ⟨#[58, 32]⟩) ++ V3.text ⟨xk, xn, xs⟩ := rfl
          rw [hte] at hf
          obtain ⟨Y, hY⟩ : ∃ Y, Y = V3.text ⟨xk, xn, xs⟩ := ⟨_, rfl⟩
          simp only at hcx d0 d1 d2 d3 hnz hsz
          rw [← hY] at hcx hf hsz
          obtain ⟨M, hM⟩ : ∃ M, M = ((props.take i).map P4.text).map Value.string := ⟨_, rfl⟩
          rw [← hM] at hf hp
          have hp2 := Lib.hid (hp.alloc #[.string nm, .int .i64 xk, .int .i64 xn, .string xs] 98)
          replace hf := Lib.hid hf; replace hcx := Lib.hid hcx; replace hi9 := Lib.hid hi9; replace hi := Lib.hid hi
          have g1 : ¬9223372036854775807 < nm.size + 2 := by omega
          have g2 : ¬9223372036854775807 < nm.size + 2 + Y.size := by omega
          have hql : q < wr.heap.size := hp.lt (i := 1) rfl
          clear hy hr hM hp hY hys hte
          go_upto_region 15 with fail
          generalize wr.alloc _ = W5 at hp2 ⊢
          have hd := Lib.hid hp2.out.drew
          have p0 : W5.drew.cell? ⟨wr.heap.size, 0, none⟩ = some (.string nm) := (hd.out.cell (i := 0) rfl 0).trans rfl
          have p1 : W5.drew.cell? ⟨wr.heap.size, 1, none⟩ = some (.int .i64 xk) := (hd.out.cell (i := 0) rfl 1).trans rfl
          have p2 : W5.drew.cell? ⟨wr.heap.size, 2, none⟩ = some (.int .i64 xn) := (hd.out.cell (i := 0) rfl 2).trans rfl
          have p3 : W5.drew.cell? ⟨wr.heap.size, 3, none⟩ = some (.string xs) := (hd.out.cell (i := 0) rfl 3).trans rfl
          have hsl := Lib.hid (show ∀ W : World, Sl (W.alloc (.cells #[.string ((nm ++ ⟨#[58, 32]⟩) ++ Y)] 9)) (.slice (some ⟨W.heap.size, 0, none⟩) 1 1) 1 [.string ((nm ++ ⟨#[58, 32]⟩) ++ Y)] from fun W => ⟨_, _, rfl, by omega, Or.inr ⟨_, _, rfl, ⟨by simp, fun j u hj => by rw [Nat.zero_add]; exact (newCell W _ _ j).trans (by simpa using hj)⟩⟩⟩)
          have hon := Lib.hid (show ∀ u ∈ [Value.string ((nm ++ ⟨#[58, 32]⟩) ++ Y)], u.oneCell' = true from fun u hu => by simp at hu; rcases hu with rfl; rfl)
          have hnb := Lib.hid (show i + 1 ≤ 100000000 by omega)
          go_region_law (first
            | (go_simp; go_at_call 81; (with_reducible refine (hcx.out _ hd.out.bel).mono ?_); rintro e w3 ⟨rfl, b3⟩; have hp3 := Lib.hid (hd.out.below b3); clear b3; have r0 : w3.cell? ⟨wr.heap.size, 0, none⟩ = some (.string nm) := (hp3.out.cell (i := 0) rfl 0).trans rfl; dsimp only)
            | (refine step_append_sl_hpk rfl _ _ rfl Tryd.underlying45 strInfo rfl (by decide) (by decide) (hp3.out.alloc_ (.cells #[.string ((nm ++ ⟨#[58, 32]⟩) ++ Y)] 9)) 1 rfl rfl rfl (hsl.out _) rfl hon.out hnb.out rfl rfl ?_; intro v5 w9 h5 hv5; obtain ⟨ad5, cp5, rfl⟩ := hv5; replace h5 := Lib.hid h5))
          all_goals go_wp2
          all_goals
            go_roundg K
            case measure => omega
            case rel => exact ⟨i + 1, _, _, by go_num, by have := hi.out; omega, rfl, by rw [hf.out]; exact h5.out.drop 0⟩
        · have hk0 : gk = 0 := by omega
          subst hk0
          obtain rfl : np = i := by omega
          clear hi
          rw [List.take_of_length_le (by rw [← hnp.out]; exact Nat.le_refl _)] at hp
          have hrow := hp.row (i := 0) rfl
          have hrow2 : SRow wr 0 (.slice ad np cp2) (props.map P4.text) := by unfold SRow; simpa [← hnp.out] using hrow
          have kk := Lib.hid (kj.out _ _ hrow2)
          replace hp := Lib.hid hp
          clear hrow hrow2
          have j1 := hhs.out
          have j2 := hps.out
          go_wp2_with (go_at_call 46; (with_reducible refine (kk.out).mono ?_); rintro e w1 ⟨rfl, b1⟩; replace hp := Lib.hid (hp.out.below b1); clear b1)
          go_ret
          exact ⟨by rw [hx.out]; rfl, hp.out.bel⟩
  | false =>
    have hH1 := hH.out
    rw [if_neg (by decide)] at hH1
    obtain ⟨H0, hH0⟩ : ∃ H0, H0 = (⟨#[110, 111, 100, 101, 32]⟩ : ByteArray) ++ A := ⟨_, rfl⟩
    rw [← hH0] at hH1
    have hz0 : H0.size ≤ 30 := by rw [hH0, ByteArray.size_append]; have e5 : (⟨#[110, 111, 100, 101, 32]⟩ : ByteArray).size = 5 := rfl; omega
    have hlab := labT_size labels hlz2.out H0
    replace hH1 := Lib.hid hH1; replace hH0 := Lib.hid hH0
    go_upto_region 4 with (go_at_call 43; (with_reducible refine (k1.out _ hp0.out.bel).mono ?_); rintro e w1 ⟨rfl, b1⟩; replace hp0 := Lib.hid (hp0.out.below b1); have c1 := hp0.out.cell (i := 0) rfl 1; have c2 := hp0.out.cell (i := 0) rfl 2; have c6 := hp0.out.cell (i := 0) rfl 6; simp at c1 c2 c6)
    rw [← hH0.out]
    clear k1 k2 k3
    go_wp2
    go_loopg [3, 36] ln (fun kk s3 s36 wr => ∃ (i : Nat), s36 = .int .i64 (i : Int) ∧ i + kk = ln ∧ s3 = .string (labT H0 (labels.take i)) ∧ wr = w1)
    case atStart => exact ⟨0, rfl, by omega, rfl, rfl⟩
    case round =>
      obtain ⟨i, rfl, hi, rfl, rfl⟩ := hrel
      by_cases hlt : i < ln
      · obtain ⟨K, rfl⟩ : ∃ K : Nat, gk = K + 1 := ⟨gk - 1, by omega⟩
        obtain ⟨b, o, rfl, hr⟩ := hl.out.resolve_left (by omega)
        obtain ⟨y, hy⟩ : ∃ y, labels[i]? = some y := ⟨_, List.getElem?_eq_getElem (by have := hln.out; omega)⟩
        have hf := labT_take H0 labels i y hy
        have hys := hlz2.out y (List.mem_of_getElem? hy)
        have hls := labT_size (labels.take i) (fun z hz => hlz2.out z (List.mem_of_mem_take hz)) H0
        have hlt2 : (labels.take i).length ≤ 4 := by rw [List.length_take]; omega
        have d0 : wr.cell? ⟨b, o + i, none⟩ = some (.string y) := (hp0.out.bel.cell hr.1).trans (hr.2 i _ (by simp [hy]))
        have e1 : (0 : Int) ≤ (i : Int) := by omega
        have e2 : (i : Int) < (ln : Int) := by omega
        obtain ⟨M, hM⟩ : ∃ M, M = labT H0 (labels.take i) := ⟨_, rfl⟩
        rw [← hM] at hf hls ⊢
        have hMz : M.size ≤ 100 := by omega
        replace hf := Lib.hid hf; replace hi := Lib.hid hi
        clear hy hr hM hls hlt2 hlab
        go_wp2
        go_roundg K
        case measure => omega
        case rel => exact ⟨i + 1, by go_num, by have := hi.out; omega, by rw [hf.out], rfl⟩
      · have hk0 : gk = 0 := by omega
        subst hk0
        obtain rfl : ln = i := by omega
        clear hi
        rw [List.take_of_length_le (by rw [← hln.out]; exact Nat.le_refl _), ← hH1.out]
        have hp := hp0
        clear hp0 hlab
        by_cases hz : np = 0
        · have hx := hT0.out (by exact hz)
          subst hz
          go_wp2
          go_ret
          exact ⟨by first | rfl | (rw [hx]; rfl), hp.out.bel⟩
        · have hx := hT1.out hz
          have hz2 : ((np : Int) == 0) = false := by rw [beq_eq_false_iff_ne]; omega
          have hpr := hp.out.rowNil 9 1
          replace hpr := Lib.hid hpr
          replace hx := Lib.hid hx
          clear hp hT0 hT1
          go_wp2
          go_loopg [6, 53] np (fun kk s6 s53 wr => ∃ (i : Nat) (ad : Option Addr) (cp : Nat), s53 = .int .i64 (i : Int) ∧ i + kk = np ∧ s6 = .slice ad i cp ∧ Hp w [] [.row 9 1 (.slice ad i cp) i (((props.take i).map P4.text).map Value.string), .box q #[.int .u64 id, .bool false, .slice la ln lc, .string typ, .int .u64 fr, .int .u64 dst, .slice pa np pc] 48] wr)
          case atStart => exact ⟨0, _, _, rfl, by omega, rfl, by simpa using hpr.out⟩
          case round =>
            clear hpr c6
            obtain ⟨i, ad, cp2, rfl, hi, rfl, hp⟩ := hrel
            by_cases hlt : i < np
            · obtain ⟨K, rfl⟩ : ∃ K : Nat, gk = K + 1 := ⟨gk - 1, by omega⟩
              obtain ⟨b, o, rfl, hr⟩ := hP.out.resolve_left (by omega)
              obtain ⟨y, hy⟩ : ∃ y, props[i]? = some y := ⟨_, List.getElem?_eq_getElem (by have := hnp.out; omega)⟩
              have hf : ((props.take (i + 1)).map P4.text).map Value.string = ((props.take i).map P4.text).map Value.string ++ [.string y.text] := by rw [List.take_add_one, hy]; simp
              have hcx := kv.out y (List.mem_of_getElem? hy)
              have hys := hpz2.out y (List.mem_of_getElem? hy)
              have hsz := show.text_size _ hys.2
              have hnz := hys.1
              have d0 : wr.cell? ⟨b, o + i * 4, none⟩ = some (.string y.name) := (hp.bel.cell hr.1).trans (hr.elem0 P4.cells_len hy rfl)
              have d1 : wr.cell? ⟨b, o + i * 4 + 1, none⟩ = some (.int .i64 y.val.k) := (hp.bel.cell hr.1).trans (hr.elem P4.cells_len hy rfl)
              have d2 : wr.cell? ⟨b, o + i * 4 + 2, none⟩ = some (.int .i64 y.val.n) := (hp.bel.cell hr.1).trans (hr.elem P4.cells_len hy rfl)
              have d3 : wr.cell? ⟨b, o + i * 4 + 3, none⟩ = some (.string y.val.s) := (hp.bel.cell hr.1).trans (hr.elem P4.cells_len hy rfl)
              have e1 : (0 : Int) ≤ (i : Int) := by omega
              have e2 : (i : Int) < (np : Int) := by omega
              have hi9 : i < 100000000 := by omega
              obtain ⟨nm, xk, xn, xs⟩ := y
              have hte : P4.text ⟨nm, xk, xn, xs⟩ = (nm ++ ⟨#[58, 32]⟩) ++ V3.text ⟨xk, xn, xs⟩ := rfl
              rw [hte] at hf
              obtain ⟨Y, hY⟩ : ∃ Y, Y = V3.text ⟨xk, xn, xs⟩ := ⟨_, rfl⟩
              simp only at hcx d0 d1 d2 d3 hnz hsz
              rw [← hY] at hcx hf hsz
              obtain ⟨M, hM⟩ : ∃ M, M = ((props.take i).map P4.text).map Value.string := ⟨_, rfl⟩
              rw [← hM] at hf hp
              have hp2 := Lib.hid (hp.alloc #[.string nm, .int .i64 xk, .int .i64 xn, .string xs] 98)
              replace hf := Lib.hid hf; replace hcx := Lib.hid hcx; replace hi9 := Lib.hid hi9; replace hi := Lib.hid hi
              have g1 : ¬9223372036854775807 < nm.size + 2 := by omega
              have g2 : ¬9223372036854775807 < nm.size + 2 + Y.size := by omega
              have hql : q < wr.heap.size := hp.lt (i := 1) rfl
              clear hy hr hM hp hY hys hte
              go_upto_region 15 with fail
              generalize wr.alloc _ = W5 at hp2 ⊢
              have hd := Lib.hid hp2.out.drew
              have p0 : W5.drew.cell? ⟨wr.heap.size, 0, none⟩ = some (.string nm) := (hd.out.cell (i := 0) rfl 0).trans rfl
              have p1 : W5.drew.cell? ⟨wr.heap.size, 1, none⟩ = some (.int .i64 xk) := (hd.out.cell (i := 0) rfl 1).trans rfl
              have p2 : W5.drew.cell? ⟨wr.heap.size, 2, none⟩ = some (.int .i64 xn) := (hd.out.cell (i := 0) rfl 2).trans rfl
              have p3 : W5.drew.cell? ⟨wr.heap.size, 3, none⟩ = some (.string xs) := (hd.out.cell (i := 0) rfl 3).trans rfl
              have hsl := Lib.hid (show ∀ W : World, Sl (W.alloc (.cells #[.string ((nm ++ ⟨#[58, 32]⟩) ++ Y)] 9)) (.slice (some ⟨W.heap.size, 0, none⟩) 1 1) 1 [.string ((nm ++ ⟨#[58, 32]⟩) ++ Y)] from fun W => ⟨_, _, rfl, by omega, Or.inr ⟨_, _, rfl, ⟨by simp, fun j u hj => by rw [Nat.zero_add]; exact (newCell W _ _ j).trans (by simpa using hj)⟩⟩⟩)
              have hon := Lib.hid (show ∀ u ∈ [Value.string ((nm ++ ⟨#[58, 32]⟩) ++ Y)], u.oneCell' = true from fun u hu => by simp at hu; rcases hu with rfl; rfl)
              have hnb := Lib.hid (show i + 1 ≤ 100000000 by omega)
              go_region_law (first
                | (go_simp; go_at_call 81; (with_reducible refine (hcx.out _ hd.out.bel).mono ?_); rintro e w3 ⟨rfl, b3⟩; have hp3 := Lib.hid (hd.out.below b3); clear b3; have r0 : w3.cell? ⟨wr.heap.size, 0, none⟩ = some (.string nm) := (hp3.out.cell (i := 0) rfl 0).trans rfl; dsimp only)
                | (refine step_append_sl_hpk rfl _ _ rfl Tryd.underlying45 strInfo rfl (by decide) (by decide) (hp3.out.alloc_ (.cells #[.string ((nm ++ ⟨#[58, 32]⟩) ++ Y)] 9)) 1 rfl rfl rfl (hsl.out _) rfl hon.out hnb.out rfl rfl ?_; intro v5 w9 h5 hv5; obtain ⟨ad5, cp5, rfl⟩ := hv5; replace h5 := Lib.hid h5))
              all_goals go_wp2
              all_goals
                go_roundg K
                case measure => omega
                case rel => exact ⟨i + 1, _, _, by go_num, by have := hi.out; omega, rfl, by rw [hf.out]; exact h5.out.drop 0⟩
            · have hk0 : gk = 0 := by omega
              subst hk0
              obtain rfl : np = i := by omega
              clear hi
              rw [List.take_of_length_le (by rw [← hnp.out]; exact Nat.le_refl _)] at hp
              have hrow := hp.row (i := 0) rfl
              have hrow2 : SRow wr 0 (.slice ad np cp2) (props.map P4.text) := by unfold SRow; simpa [← hnp.out] using hrow
              have kk := Lib.hid (kj.out _ _ hrow2)
              replace hp := Lib.hid hp
              clear hrow hrow2
              have j1 := hhs.out
              have j2 := hps.out
              go_wp2_with (go_at_call 46; (with_reducible refine (kk.out).mono ?_); rintro e w1 ⟨rfl, b1⟩; replace hp := Lib.hid (hp.out.below b1); clear b1)
              go_ret
              exact ⟨by rw [hx.out]; rfl, hp.out.bel⟩
end Go.Proofs.YtgbkpkioijbgoaaDoor.show
