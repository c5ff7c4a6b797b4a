/- What a reply tells (show.Reply). The table of powers of ten is a premise. -/
import Derived.Test.YtgbkpkioijbgoaaDoorShowF
namespace Go.Proofs.YtgbkpkioijbgoaaDoor.show
open Go.RowKit
attribute [local go_sem ↓] Go.wp_at_zero Go.wp_at_succ
set_option linter.unusedVariables false
set_option linter.unusedSimpArgs false
set_option maxRecDepth 100000

/-- a node or an edge, and where its slices lie -/
structure InV where
  x : In
  la : Option Addr
  lc : Nat
  pa : Option Addr
  pc : Nat
def InV.agg (y : InV) : Value := .agg #[.int .u64 y.x.id, .bool y.x.edge, .slice y.la y.x.labels.length y.lc, .string y.x.typ, .int .u64 y.x.fr, .int .u64 y.x.dst, .slice y.pa y.x.props.length y.pc]
def InV.cells (y : InV) : List Value := [.int .u64 y.x.id, .bool y.x.edge, .slice y.la y.x.labels.length y.lc, .string y.x.typ, .int .u64 y.x.fr, .int .u64 y.x.dst, .slice y.pa y.x.props.length y.pc]
theorem InV.cells_len (y : InV) : y.cells.length = 7 := rfl
structure InV.ok (y : InV) (w : World) : Prop where
  near : y.x.near
  labels : Sl w (.slice y.la y.x.labels.length y.lc) y.x.labels.length (y.x.labels.map Value.string)
  props : Sl w (.slice y.pa y.x.props.length y.pc) y.x.props.length (y.x.props.flatMap P4.cells)
theorem InV.ok.below {y : InV} {w w' : World} (h : y.ok w) (b : Below w.heap.size w w') : y.ok w' := ⟨h.near, h.labels.below b, h.props.below b⟩
/-- a row of values, and where it lies -/
structure RwV where
  l : List V3
  a : Option Addr
  c : Nat
def RwV.v (y : RwV) : Value := .slice y.a y.l.length y.c
def RwV.cells (y : RwV) : List Value := [.slice y.a y.l.length y.c]
theorem RwV.cells_len (y : RwV) : y.cells.length = 1 := rfl
structure RwV.ok (y : RwV) (w : World) : Prop where
  len : y.l.length ≤ 3
  near : ∀ z ∈ y.l, z.near
  at_ : Sl w (.slice y.a y.l.length y.c) y.l.length (y.l.flatMap V3.cells)
theorem RwV.ok.below {y : RwV} {w w' : World} (h : y.ok w) (b : Below w.heap.size w w') : y.ok w' := ⟨h.len, h.near, h.at_.below b⟩
def headW (id : Int) (ids : List Int) : List ByteArray := ([⟨#[111, 107]⟩] ++ if id = 0 then [] else [numT id]) ++ if ids = [] then [] else [idsT ids]
/-- all that a reply without an error tells -/
def repT (id : Int) (ids : List Int) (ins : List In) (rows : List (List V3)) : ByteArray := joinS ((headW id ids ++ ins.map In.text) ++ rows.map rowT) ⟨#[32]⟩
theorem In.text_size (x : In) (h : x.near) : x.text.size ≤ 1300 := by
  have h1 := x.head_size h
  have h2 := props_size x.props h.props.1 h.props.2
  have e1 : (⟨#[32, 123]⟩ : ByteArray).size = 2 := rfl
  have e2 : (⟨#[125]⟩ : ByteArray).size = 1 := rfl
  unfold In.text
  split
  · omega
  · simp only [ByteArray.size_append]; omega
theorem idsT_len (l : List Int) (hn : l.length ≤ 20) (hl : ∀ x ∈ l, 0 ≤ x ∧ x < 18446744073709551616) : (idsT l).size ≤ 1010 := by
  have := idsT_size l hn hl
  have e1 : (⟨#[91]⟩ : ByteArray).size = 1 := rfl
  have e2 : (⟨#[93]⟩ : ByteArray).size = 1 := rfl
  unfold idsT
  simp only [ByteArray.size_append]; omega
theorem rowT_len (l : List V3) (hn : l.length ≤ 20) (hl : ∀ x ∈ l, x.near) : (rowT l).size ≤ 5010 := by
  have := rowT_size l hn hl
  have e1 : (⟨#[40]⟩ : ByteArray).size = 1 := rfl
  have e2 : (⟨#[41]⟩ : ByteArray).size = 1 := rfl
  unfold rowT
  simp only [ByteArray.size_append]; omega
theorem repW_size (id : Int) (ids : List Int) (ins : List In) (rows : List (List V3)) (hid : 0 ≤ id ∧ id < 18446744073709551616) (h1 : ids.length ≤ 5) (h2 : ∀ x ∈ ids, 0 ≤ x ∧ x < 18446744073709551616) (h3 : ins.length ≤ 3) (h4 : ∀ y ∈ ins, y.near) (h5 : rows.length ≤ 3) (h6 : ∀ y ∈ rows, y.length ≤ 3 ∧ ∀ z ∈ y, z.near) :
    (repT id ids ins rows).size ≤ 60000 ∧ ((headW id ids ++ ins.map In.text) ++ rows.map rowT).length ≤ 9 := by
  have hn : ((headW id ids ++ ins.map In.text) ++ rows.map rowT).length ≤ 9 := by
    unfold headW
    simp only [List.length_append, List.length_map]
    have e1 : (if id = 0 then ([] : List ByteArray) else [numT id]).length ≤ 1 := by split <;> simp
    have e2 : (if ids = [] then ([] : List ByteArray) else [idsT ids]).length ≤ 1 := by split <;> simp
    have e3 : ([⟨#[111, 107]⟩] : List ByteArray).length = 1 := rfl
    omega
  have h := joinS_size ((headW id ids ++ ins.map In.text) ++ rows.map rowT) ⟨#[32]⟩ 5010 (fun y hy => by
    simp only [List.mem_append, List.mem_map, headW, List.mem_singleton] at hy
    rcases hy with (((rfl | hy) | hy) | ⟨z, hz, rfl⟩) | ⟨z, hz, rfl⟩
    · decide
    · split at hy
      · cases hy
      · simp at hy; subst hy; have := numT_lenU id hid; omega
    · split at hy
      · cases hy
      · simp at hy; subst hy; have := idsT_len ids (by omega) h2; omega
    · have := In.text_size z (h4 z hz); omega
    · exact rowT_len z (by have := (h6 z hz).1; omega) (h6 z hz).2)
  have e : (⟨#[32]⟩ : ByteArray).size = 1 := rfl
  rw [e] at h
  refine ⟨?_, hn⟩
  unfold repT
  have : ((headW id ids ++ ins.map In.text) ++ rows.map rowT).length * (5010 + 1) ≤ 9 * 5011 := Nat.mul_le_mul_right _ hn
  omega
set_option maxHeartbeats 8000000 in
theorem reply_any (er id : Int) (ids : List Int) (ins : List InV) (rows : List RwV) (ia : Option Addr) (ic : Nat) (na : Option Addr) (nc : Nat) (ra : Option Addr) (rc : Nat) (w : World) (hT : Tab w) (hid : 0 ≤ id ∧ id < 18446744073709551616) (her : -9223372036854775808 ≤ er ∧ er ≤ 9223372036854775807)
    (h1 : ids.length ≤ 5) (h2 : ∀ x ∈ ids, 0 ≤ x ∧ x < 18446744073709551616) (h3 : ins.length ≤ 3) (h4 : ∀ y ∈ ins, y.ok w) (h5 : rows.length ≤ 3) (h6 : ∀ y ∈ rows, y.ok w)
    (hI : Sl w (.slice ia ids.length ic) ids.length (ids.map (Value.int .u64))) (hN : Sl w (.slice na ins.length nc) ins.length (ins.flatMap InV.cells)) (hR : Sl w (.slice ra rows.length rc) rows.length (rows.flatMap RwV.cells)) :
    Calls Tryd.prog 18 #[.agg #[.int .i64 er, .int .u64 id, .slice ia ids.length ic, .slice na ins.length nc, .slice ra rows.length rc]] w fun e w' => e = .returned (.string (if er = 0 then repT id ids (ins.map InV.x) (rows.map RwV.l) else errT er)) ∧ Below w.heap.size w w' := by
  have kE : ∀ W, Below w.heap.size w W → Calls Tryd.prog 42 #[.int .i64 er] W fun e w' => e = .returned (.string (errT er)) ∧ Below W.heap.size W w' := fun W hb => errno_any er her W (hT.keep hb)
  have kD : ∀ W, Below w.heap.size w W → Calls Tryd.prog 43 #[.int .u64 id] W fun e w' => e = .returned (.string (numT id)) ∧ Below W.heap.size W w' := fun W hb => by
    obtain ⟨u, rfl⟩ : ∃ u : Nat, id = (u : Int) := ⟨id.toNat, by omega⟩
    exact id_any u (by omega) W (hT.keep hb)
  have kS : ∀ W, Below w.heap.size w W → Calls Tryd.prog 20 #[.slice ia ids.length ic] W fun e w' => e = .returned (.string (idsT ids)) ∧ Below W.heap.size W w' := fun W hb => ids_any _ ids W (hT.keep hb) (hI.below hb) (by omega) h2
  have kN : ∀ y, y ∈ ins → ∀ W, Below w.heap.size w W → Calls Tryd.prog 44 #[y.agg] W fun e w' => e = .returned (.string y.x.text) ∧ Below W.heap.size W w' := fun y hy W hb =>
    info_any y.x y.la y.lc y.pa y.pc W (hT.keep hb) (h4 y hy).near ((h4 y hy).labels.below hb) ((h4 y hy).props.below hb)
  have kR : ∀ y, y ∈ rows → ∀ W, Below w.heap.size w W → Calls Tryd.prog 45 #[.slice y.a y.l.length y.c] W fun e w' => e = .returned (.string (rowT y.l)) ∧ Below W.heap.size W w' := fun y hy W hb =>
    row_any _ y.l W (hT.keep hb) ((h6 y hy).at_.below hb) (by have := (h6 y hy).len; omega) (h6 y hy).near
  obtain ⟨hsz, hln⟩ := repW_size id ids (ins.map InV.x) (rows.map RwV.l) hid h1 h2 (by simpa using h3) (fun y hy => by obtain ⟨z, hz, rfl⟩ := List.mem_map.mp hy; exact (h4 z hz).near) (by simpa using h5) (fun y hy => by obtain ⟨z, hz, rfl⟩ := List.mem_map.mp hy; exact ⟨(h6 z hz).len, (h6 z hz).near⟩)
  obtain ⟨R, hRe⟩ : ∃ R, R = repT id ids (ins.map InV.x) (rows.map RwV.l) := ⟨_, rfl⟩
  have hRe2 : R = joinS ((headW id ids ++ ins.map fun y => y.x.text) ++ rows.map fun y => rowT y.l) ⟨#[32]⟩ := by
    rw [hRe]; unfold repT; rw [List.map_map, List.map_map]; rfl
  have hln2 : ((headW id ids ++ ins.map fun y => y.x.text) ++ rows.map fun y => rowT y.l).length ≤ 9 := by
    rw [List.map_map, List.map_map] at hln; exact hln
  rw [← hRe] at hsz ⊢
  have kJ : ∀ (W : World) (v : Value), SRow W 0 v ((headW id ids ++ ins.map fun y => y.x.text) ++ rows.map fun y => rowT y.l) → Calls Tryd.prog 46 #[v, .string ⟨#[32]⟩] W fun e w' => e = .returned (.string R) ∧ Below W.heap.size W w' := fun W v hr => by
    rw [hRe2] at hsz ⊢
    exact joinS_any _ _ (by omega) (by omega) W v hr
  obtain ⟨Wh, hWh⟩ : ∃ W, W = headW id ids := ⟨_, rfl⟩
  rw [← hWh] at kJ hln2
  have hWh2 : Wh = ([⟨#[111, 107]⟩] ++ if id = 0 then [] else [numT id]) ++ if ids.length = 0 then [] else [idsT ids] := by
    rw [hWh]; unfold headW; congr 1
    by_cases e : ids = []
    · rw [if_pos e, if_pos (by rw [e]; rfl)]
    · rw [if_neg e, if_neg (fun e2 => e (List.eq_nil_of_length_eq_zero e2))]
  clear hRe hRe2 hsz hln hWh hid her h1 h2 hT
  obtain ⟨A, hA⟩ : ∃ A, A = numT id := ⟨_, rfl⟩
  rw [← hA] at kD hWh2
  obtain ⟨S, hS⟩ : ∃ A, A = idsT ids := ⟨_, rfl⟩
  rw [← hS] at kS hWh2
  obtain ⟨ni, hni⟩ : ∃ n, n = ids.length := ⟨_, rfl⟩
  rw [← hni] at kS hWh2 ⊢
  obtain ⟨nn, hnn⟩ : ∃ n, n = ins.length := ⟨_, rfl⟩
  rw [← hnn] at hN h3 ⊢
  obtain ⟨nr, hnr⟩ : ∃ n, n = rows.length := ⟨_, rfl⟩
  rw [← hnr] at hR h5 ⊢
  replace hN := Lib.hid (slAt hN)
  replace hR := Lib.hid (slAt hR)
  have hp0 := (Hp.none_ w []).alloc #[.int .i64 er, .int .u64 id, .slice ia ni ic, .slice na nn nc, .slice ra nr rc] 43
  clear hA hS hni hI h4 h6
  replace hp0 := Lib.hid hp0; replace kE := Lib.hid kE; replace kD := Lib.hid kD; replace kS := Lib.hid kS; replace kN := Lib.hid kN; replace kR := Lib.hid kR; replace kJ := Lib.hid kJ; replace hln2 := Lib.hid hln2; replace hWh2 := Lib.hid hWh2; replace hnn := Lib.hid hnn; replace hnr := Lib.hid hnr
  by_cases he : er = 0
  · subst he
    rw [if_pos rfl]
    go_enter Tryd.func18, Tryd.ntmps18
    go_upto_region 1 with fail
    generalize w.alloc _ = W at hp0 ⊢
    generalize hq2 : w.heap.size = q at hp0 ⊢
    clear hq2
    have c0 := hp0.out.cell (i := 0) rfl 0
    simp at c0
    go_upto_region 3 with fail
    have hp1 := Lib.hid (hp0.out.rowLit #[.string ⟨#[111, 107]⟩] 9 1 1 (by decide) rfl)
    clear c0 hp0
    have c1 := hp1.out.cell (i := 1) rfl 1
    simp at c1
    go_upto_region 4 with fail
    generalize W.alloc _ = W1 at hp1 c1 ⊢
    generalize W.heap.size = q1 at hp1 c1 ⊢
    by_cases hd : id = 0
    · have hw2 := hWh2.out
      rw [if_pos hd, List.append_nil] at hw2
      have hd2 : (id == 0) = true := by rw [hd]; rfl
      go_upto_region 6 with fail
      have hp := Lib.hid (show Hp w [] [.row 9 1 (.slice (some ⟨q1, 0, none⟩) 1 1) 1 (([⟨#[111, 107]⟩] : List ByteArray).map Value.string), .box q #[.int .i64 0, .int .u64 id, .slice ia ni ic, .slice na nn nc, .slice ra nr rc] 43] W1 from hp1.out)
      clear hp1 c1
      by_cases hz : ni = 0
      · rw [if_pos hz] at hw2
        subst hz
        have c2 := hp.out.cell (i := 1) rfl 2
        simp at c2
        go_upto_region 8 with fail
        clear c2
        have hn := Lib.hid (show 1 = Wh.length by rw [hw2]; rfl)
        have hp9 : Hp w [] [.row 9 1 (.slice (some ⟨q1, 0, none⟩) 1 1) 1 (Wh.map Value.string), .box q #[.int .i64 0, .int .u64 id, .slice ia 0 ic, .slice na nn nc, .slice ra nr rc] 43] W1 := by rw [hw2]; exact hp.out
        replace hp := Lib.hid hp9
        clear hp9 hw2
        have c3 := hp.out.cell (i := 1) rfl 3
        simp at c3
        go_wp2
        clear c3
        go_loopg [3, 37] nn (fun kk s3 s37 wr => ∃ (i : Nat) (ad : Option Addr) (cp : Nat), s37 = .int .i64 (i : Int) ∧ i + kk = nn ∧ s3 = .slice ad (1 + i) cp ∧ Hp w [] [.row 9 1 (.slice ad (1 + i) cp) (1 + i) ((Wh ++ (ins.take i).map fun y => y.x.text).map Value.string), .box q #[.int .i64 0, .int .u64 id, .slice ia 0 ic, .slice na nn nc, .slice ra nr rc] 43] wr)
        case atStart => exact ⟨0, _, _, rfl, by omega, rfl, by simpa using hp.out⟩
        case round =>
          clear hp
          obtain ⟨i, ad, cp2, rfl, hik, rfl, hp⟩ := hrel
          by_cases hlt : i < nn
          · obtain ⟨K, rfl⟩ : ∃ K : Nat, gk = K + 1 := ⟨gk - 1, by omega⟩
            obtain ⟨b, o, rfl, hr⟩ := hN.out.resolve_left (by omega)
            obtain ⟨y, hy⟩ : ∃ y, ins[i]? = some y := ⟨_, List.getElem?_eq_getElem (by have := hnn.out; omega)⟩
            have hf : (Wh ++ (ins.take (i + 1)).map fun y => y.x.text).map Value.string = (Wh ++ (ins.take i).map fun y => y.x.text).map Value.string ++ [.string y.x.text] := by rw [List.take_add_one, hy]; simp
            have hcx := kN.out y (List.mem_of_getElem? hy)
            have d0 : wr.cell? ⟨b, o + i * 7, none⟩ = some (.int .u64 y.x.id) := (hp.bel.cell hr.1).trans (hr.elem0 InV.cells_len hy rfl)
            have d1 : wr.cell? ⟨b, o + i * 7 + 1, none⟩ = some (.bool y.x.edge) := (hp.bel.cell hr.1).trans (hr.elem InV.cells_len hy rfl)
            have d2 : wr.cell? ⟨b, o + i * 7 + 2, none⟩ = some (.slice y.la y.x.labels.length y.lc) := (hp.bel.cell hr.1).trans (hr.elem InV.cells_len hy rfl)
            have d3 : wr.cell? ⟨b, o + i * 7 + 3, none⟩ = some (.string y.x.typ) := (hp.bel.cell hr.1).trans (hr.elem InV.cells_len hy rfl)
            have d4 : wr.cell? ⟨b, o + i * 7 + 4, none⟩ = some (.int .u64 y.x.fr) := (hp.bel.cell hr.1).trans (hr.elem InV.cells_len hy rfl)
            have d5 : wr.cell? ⟨b, o + i * 7 + 5, none⟩ = some (.int .u64 y.x.dst) := (hp.bel.cell hr.1).trans (hr.elem InV.cells_len hy rfl)
            have d6 : wr.cell? ⟨b, o + i * 7 + 6, none⟩ = some (.slice y.pa y.x.props.length y.pc) := (hp.bel.cell hr.1).trans (hr.elem InV.cells_len hy rfl)
            have e1 : (0 : Int) ≤ (i : Int) := by omega
            have e2 : (i : Int) < (nn : Int) := by omega
            have hi9 : 1 + i < 100000000 := by omega
            obtain ⟨⟨xi, xe, xl, xt, xf, xd, xp⟩, la, lc, pa, pc⟩ := y
            simp only [InV.agg] at hcx d0 d1 d2 d3 d4 d5 d6 hf
            obtain ⟨T, hT⟩ : ∃ T, T = In.text ⟨xi, xe, xl, xt, xf, xd, xp⟩ := ⟨_, rfl⟩
            rw [← hT] at hcx hf
            obtain ⟨M, hM⟩ : ∃ M, M = (Wh ++ (ins.take i).map fun y => y.x.text).map Value.string := ⟨_, rfl⟩
            rw [← hM] at hf hp
            obtain ⟨xll, hxl⟩ : ∃ k, k = xl.length := ⟨_, rfl⟩
            obtain ⟨xpl, hxp⟩ : ∃ k, k = xp.length := ⟨_, rfl⟩
            rw [← hxl] at hcx d2
            rw [← hxp] at hcx d6
            have hp2 := Lib.hid (hp.alloc #[.int .u64 xi, .bool xe, .slice la xll lc, .string xt, .int .u64 xf, .int .u64 xd, .slice pa xpl pc] 48)
            replace hf := Lib.hid hf; replace hcx := Lib.hid hcx; replace hi9 := Lib.hid hi9; replace hik := Lib.hid hik
            clear hy hr hM hp hT hxl hxp
            go_wp2_with (first
              | (go_at_call 44; (with_reducible refine (hcx.out _ hp2.out.bel).mono ?_); rintro e w1 ⟨rfl, b1⟩; replace hp2 := Lib.hid (hp2.out.below b1); clear b1)
              | (at_builtin; go_loud (refine wpList_append_hp rfl _ _ rfl Tryd.underlying45 strInfo rfl (by decide) (by decide) (hp2.out.alloc_ (.cells #[.string T] 9)) 1 rfl rfl _ _ [.string T] rfl rfl (block_cells (heap_alloc_new _ _)) (by intro u hu; simp at hu; rcases hu with rfl; rfl) hi9.out ?_; intro v5 w5 hp5 hv5; replace hp5 := Lib.hid hp5; obtain ⟨b5, cp5, rfl⟩ := hv5)))
            go_roundg K
            case measure => omega
            case rel => exact ⟨i + 1, _, _, by go_num, by have := hik.out; omega, rfl, by rw [hf.out]; exact hp5.out.drop 0⟩
          · have hk0 : gk = 0 := by omega
            subst hk0
            obtain rfl : nn = i := by omega
            rw [List.take_of_length_le (by rw [← hnn.out]; exact Nat.le_refl _)] at hp
            clear hik hlt
            obtain ⟨Wi, hWi⟩ : ∃ l, l = Wh ++ ins.map fun y => y.x.text := ⟨_, rfl⟩
            rw [← hWi] at hp kJ hln2
            obtain ⟨m, hm⟩ : ∃ m, m = 1 + nn := ⟨_, rfl⟩
            rw [← hm] at hp ⊢
            have hmw : m = Wi.length := by rw [hm, hWi, List.length_append, List.length_map, ← hnn.out, ← hn.out]
            replace hmw := Lib.hid hmw; clear hm
            clear hWi hN kN
            replace hp := Lib.hid hp
            have c4 := hp.out.cell (i := 1) rfl 4
            simp at c4
            go_wp2
            clear c4
            go_loopg [3, 50] nr (fun kk s3 s50 wr => ∃ (i : Nat) (ad : Option Addr) (cp : Nat), s50 = .int .i64 (i : Int) ∧ i + kk = nr ∧ s3 = .slice ad (m + i) cp ∧ Hp w [] [.row 9 1 (.slice ad (m + i) cp) (m + i) ((Wi ++ (rows.take i).map fun y => rowT y.l).map Value.string), .box q #[.int .i64 0, .int .u64 id, .slice ia 0 ic, .slice na nn nc, .slice ra nr rc] 43] wr)
            case atStart => exact ⟨0, _, _, rfl, by omega, rfl, by simpa using hp.out⟩
            case round =>
              clear hp
              obtain ⟨i, ad, cp3, rfl, hik, rfl, hp⟩ := hrel
              by_cases hlt : i < nr
              · obtain ⟨K, rfl⟩ : ∃ K : Nat, gk = K + 1 := ⟨gk - 1, by omega⟩
                obtain ⟨b, o, rfl, hr⟩ := hR.out.resolve_left (by omega)
                obtain ⟨y, hy⟩ : ∃ y, rows[i]? = some y := ⟨_, List.getElem?_eq_getElem (by have := hnr.out; omega)⟩
                have hf : (Wi ++ (rows.take (i + 1)).map fun y => rowT y.l).map Value.string = (Wi ++ (rows.take i).map fun y => rowT y.l).map Value.string ++ [.string (rowT y.l)] := by rw [List.take_add_one, hy]; simp
                have hcx := kR.out y (List.mem_of_getElem? hy)
                have d0 : wr.cell? ⟨b, o + i, none⟩ = some (.slice y.a y.l.length y.c) := by have h0 : wr.cell? ⟨b, o + i * 1, none⟩ = some (.slice y.a y.l.length y.c) := (hp.bel.cell hr.1).trans (hr.elem0 RwV.cells_len hy rfl); rwa [Nat.mul_one] at h0
                have e1 : (0 : Int) ≤ (i : Int) := by omega
                have e2 : (i : Int) < (nr : Int) := by omega
                have hi9 : m + i < 100000000 := by have := hln2.out; rw [List.length_append, ← hmw.out] at this; omega
                obtain ⟨yl, ya, yc⟩ := y
                simp only at hcx d0 hf
                obtain ⟨T, hT⟩ : ∃ T, T = rowT yl := ⟨_, rfl⟩
                rw [← hT] at hcx hf
                obtain ⟨M, hM⟩ : ∃ M, M = (Wi ++ (rows.take i).map fun y => rowT y.l).map Value.string := ⟨_, rfl⟩
                rw [← hM] at hf hp
                obtain ⟨yll, hyl⟩ : ∃ k, k = yl.length := ⟨_, rfl⟩
                rw [← hyl] at hcx d0
                replace hp := Lib.hid hp
                replace hf := Lib.hid hf; replace hcx := Lib.hid hcx; replace hi9 := Lib.hid hi9; replace hik := Lib.hid hik
                clear hy hr hM hT hyl
                go_wp2_with (first
                  | (go_at_call 45; (with_reducible refine (hcx.out _ hp.out.bel).mono ?_); rintro e w1 ⟨rfl, b1⟩; replace hp := Lib.hid (hp.out.below b1); clear b1)
                  | (at_builtin; go_loud (refine wpList_append_hp rfl _ _ rfl Tryd.underlying45 strInfo rfl (by decide) (by decide) (hp.out.alloc_ (.cells #[.string T] 9)) 0 rfl rfl _ _ [.string T] rfl rfl (block_cells (heap_alloc_new _ _)) (by intro u hu; simp at hu; rcases hu with rfl; rfl) hi9.out ?_; intro v5 w5 hp5 hv5; replace hp5 := Lib.hid hp5; obtain ⟨b5, cp5, rfl⟩ := hv5)))
                go_roundg K
                case measure => omega
                case rel => exact ⟨i + 1, _, _, by go_num, by have := hik.out; omega, rfl, by rw [hf.out]; exact hp5.out⟩
              · have hk0 : gk = 0 := by omega
                subst hk0
                obtain rfl : nr = i := by omega
                rw [List.take_of_length_le (by rw [← hnr.out]; exact Nat.le_refl _)] at hp
                have hrow := hp.row (i := 0) rfl
                have hlen : (Wi ++ rows.map fun y => rowT y.l).length = m + nr := by rw [List.length_append, List.length_map, ← hnr.out, ← hmw.out]
                have hrow2 : SRow wr 0 (.slice ad (m + nr) cp3) (Wi ++ rows.map fun y => rowT y.l) := by unfold SRow; rw [hlen]; exact hrow
                have kk := Lib.hid (kJ.out _ _ hrow2)
                replace hp := Lib.hid hp
                clear hrow hrow2 hlen hik
                go_wp2_with (go_at_call 46; (with_reducible refine (kk.out).mono ?_); rintro e w1 ⟨rfl, b1⟩; replace hp := Lib.hid (hp.out.below b1); clear b1)
                go_ret
                exact ⟨rfl, hp.out.bel⟩
      · rw [if_neg hz] at hw2
        have hz2 : (0 : Int) < (ni : Int) := by omega
        have c2 := hp.out.cell (i := 1) rfl 2
        simp at c2
        go_upto_region 8 with (first
          | (go_at_call 20; (with_reducible refine (kS.out _ hp.out.bel).mono ?_); rintro e w1 ⟨rfl, b1⟩; replace hp := Lib.hid (hp.out.below b1); clear b1)
          | (at_builtin; go_loud (refine wpList_append_hp rfl _ _ rfl Tryd.underlying45 strInfo rfl (by decide) (by decide) (hp.out.alloc_ (.cells #[.string S] 9)) 0 rfl rfl _ _ [.string S] rfl rfl (block_cells (heap_alloc_new _ _)) (by intro u hu; simp at hu; rcases hu with rfl; rfl) (by decide) ?_; intro v5 w5 hp5 hv5; replace hp5 := Lib.hid hp5; obtain ⟨b5, cp5, rfl⟩ := hv5)))
        clear c2 hp
        have hn := Lib.hid (show 2 = Wh.length by rw [hw2]; rfl)
        have hp9 : Hp w [] [.row 9 1 (.slice (some ⟨b5, 0, none⟩) 2 cp5) 2 (Wh.map Value.string), .box q #[.int .i64 0, .int .u64 id, .slice ia ni ic, .slice na nn nc, .slice ra nr rc] 43] w5 := by rw [hw2]; exact hp5.out
        have hp := Lib.hid hp9
        clear hp9 hw2 hp5
        have c3 := hp.out.cell (i := 1) rfl 3
        simp at c3
        go_wp2
        clear c3
        go_loopg [3, 37] nn (fun kk s3 s37 wr => ∃ (i : Nat) (ad : Option Addr) (cp : Nat), s37 = .int .i64 (i : Int) ∧ i + kk = nn ∧ s3 = .slice ad (2 + i) cp ∧ Hp w [] [.row 9 1 (.slice ad (2 + i) cp) (2 + i) ((Wh ++ (ins.take i).map fun y => y.x.text).map Value.string), .box q #[.int .i64 0, .int .u64 id, .slice ia ni ic, .slice na nn nc, .slice ra nr rc] 43] wr)
        case atStart => exact ⟨0, _, _, rfl, by omega, rfl, by simpa using hp.out⟩
        case round =>
          clear hp
          obtain ⟨i, ad, cp2, rfl, hik, rfl, hp⟩ := hrel
          by_cases hlt : i < nn
          · obtain ⟨K, rfl⟩ : ∃ K : Nat, gk = K + 1 := ⟨gk - 1, by omega⟩
            obtain ⟨b, o, rfl, hr⟩ := hN.out.resolve_left (by omega)
            obtain ⟨y, hy⟩ : ∃ y, ins[i]? = some y := ⟨_, List.getElem?_eq_getElem (by have := hnn.out; omega)⟩
            have hf : (Wh ++ (ins.take (i + 1)).map fun y => y.x.text).map Value.string = (Wh ++ (ins.take i).map fun y => y.x.text).map Value.string ++ [.string y.x.text] := by rw [List.take_add_one, hy]; simp
            have hcx := kN.out y (List.mem_of_getElem? hy)
            have d0 : wr.cell? ⟨b, o + i * 7, none⟩ = some (.int .u64 y.x.id) := (hp.bel.cell hr.1).trans (hr.elem0 InV.cells_len hy rfl)
            have d1 : wr.cell? ⟨b, o + i * 7 + 1, none⟩ = some (.bool y.x.edge) := (hp.bel.cell hr.1).trans (hr.elem InV.cells_len hy rfl)
            have d2 : wr.cell? ⟨b, o + i * 7 + 2, none⟩ = some (.slice y.la y.x.labels.length y.lc) := (hp.bel.cell hr.1).trans (hr.elem InV.cells_len hy rfl)
            have d3 : wr.cell? ⟨b, o + i * 7 + 3, none⟩ = some (.string y.x.typ) := (hp.bel.cell hr.1).trans (hr.elem InV.cells_len hy rfl)
            have d4 : wr.cell? ⟨b, o + i * 7 + 4, none⟩ = some (.int .u64 y.x.fr) := (hp.bel.cell hr.1).trans (hr.elem InV.cells_len hy rfl)
            have d5 : wr.cell? ⟨b, o + i * 7 + 5, none⟩ = some (.int .u64 y.x.dst) := (hp.bel.cell hr.1).trans (hr.elem InV.cells_len hy rfl)
            have d6 : wr.cell? ⟨b, o + i * 7 + 6, none⟩ = some (.slice y.pa y.x.props.length y.pc) := (hp.bel.cell hr.1).trans (hr.elem InV.cells_len hy rfl)
            have e1 : (0 : Int) ≤ (i : Int) := by omega
            have e2 : (i : Int) < (nn : Int) := by omega
            have hi9 : 2 + i < 100000000 := by omega
            obtain ⟨⟨xi, xe, xl, xt, xf, xd, xp⟩, la, lc, pa, pc⟩ := y
            simp only [InV.agg] at hcx d0 d1 d2 d3 d4 d5 d6 hf
            obtain ⟨T, hT⟩ : ∃ T, T = In.text ⟨xi, xe, xl, xt, xf, xd, xp⟩ := ⟨_, rfl⟩
            rw [← hT] at hcx hf
            obtain ⟨M, hM⟩ : ∃ M, M = (Wh ++ (ins.take i).map fun y => y.x.text).map Value.string := ⟨_, rfl⟩
            rw [← hM] at hf hp
            obtain ⟨xll, hxl⟩ : ∃ k, k = xl.length := ⟨_, rfl⟩
            obtain ⟨xpl, hxp⟩ : ∃ k, k = xp.length := ⟨_, rfl⟩
            rw [← hxl] at hcx d2
            rw [← hxp] at hcx d6
            have hp2 := Lib.hid (hp.alloc #[.int .u64 xi, .bool xe, .slice la xll lc, .string xt, .int .u64 xf, .int .u64 xd, .slice pa xpl pc] 48)
            replace hf := Lib.hid hf; replace hcx := Lib.hid hcx; replace hi9 := Lib.hid hi9; replace hik := Lib.hid hik
            clear hy hr hM hp hT hxl hxp
            go_wp2_with (first
              | (go_at_call 44; (with_reducible refine (hcx.out _ hp2.out.bel).mono ?_); rintro e w1 ⟨rfl, b1⟩; replace hp2 := Lib.hid (hp2.out.below b1); clear b1)
              | (at_builtin; go_loud (refine wpList_append_hp rfl _ _ rfl Tryd.underlying45 strInfo rfl (by decide) (by decide) (hp2.out.alloc_ (.cells #[.string T] 9)) 1 rfl rfl _ _ [.string T] rfl rfl (block_cells (heap_alloc_new _ _)) (by intro u hu; simp at hu; rcases hu with rfl; rfl) hi9.out ?_; intro v5 w5 hp5 hv5; replace hp5 := Lib.hid hp5; obtain ⟨b5, cp5, rfl⟩ := hv5)))
            go_roundg K
            case measure => omega
            case rel => exact ⟨i + 1, _, _, by go_num, by have := hik.out; omega, rfl, by rw [hf.out]; exact hp5.out.drop 0⟩
          · have hk0 : gk = 0 := by omega
            subst hk0
            obtain rfl : nn = i := by omega
            rw [List.take_of_length_le (by rw [← hnn.out]; exact Nat.le_refl _)] at hp
            clear hik hlt
            obtain ⟨Wi, hWi⟩ : ∃ l, l = Wh ++ ins.map fun y => y.x.text := ⟨_, rfl⟩
            rw [← hWi] at hp kJ hln2
            obtain ⟨m, hm⟩ : ∃ m, m = 2 + nn := ⟨_, rfl⟩
            rw [← hm] at hp ⊢
            have hmw : m = Wi.length := by rw [hm, hWi, List.length_append, List.length_map, ← hnn.out, ← hn.out]
            replace hmw := Lib.hid hmw; clear hm
            clear hWi hN kN
            replace hp := Lib.hid hp
            have c4 := hp.out.cell (i := 1) rfl 4
            simp at c4
            go_wp2
            clear c4
            go_loopg [3, 50] nr (fun kk s3 s50 wr => ∃ (i : Nat) (ad : Option Addr) (cp : Nat), s50 = .int .i64 (i : Int) ∧ i + kk = nr ∧ s3 = .slice ad (m + i) cp ∧ Hp w [] [.row 9 1 (.slice ad (m + i) cp) (m + i) ((Wi ++ (rows.take i).map fun y => rowT y.l).map Value.string), .box q #[.int .i64 0, .int .u64 id, .slice ia ni ic, .slice na nn nc, .slice ra nr rc] 43] wr)
            case atStart => exact ⟨0, _, _, rfl, by omega, rfl, by simpa using hp.out⟩
            case round =>
              clear hp
              obtain ⟨i, ad, cp3, rfl, hik, rfl, hp⟩ := hrel
              by_cases hlt : i < nr
              · obtain ⟨K, rfl⟩ : ∃ K : Nat, gk = K + 1 := ⟨gk - 1, by omega⟩
                obtain ⟨b, o, rfl, hr⟩ := hR.out.resolve_left (by omega)
                obtain ⟨y, hy⟩ : ∃ y, rows[i]? = some y := ⟨_, List.getElem?_eq_getElem (by have := hnr.out; omega)⟩
                have hf : (Wi ++ (rows.take (i + 1)).map fun y => rowT y.l).map Value.string = (Wi ++ (rows.take i).map fun y => rowT y.l).map Value.string ++ [.string (rowT y.l)] := by rw [List.take_add_one, hy]; simp
                have hcx := kR.out y (List.mem_of_getElem? hy)
                have d0 : wr.cell? ⟨b, o + i, none⟩ = some (.slice y.a y.l.length y.c) := by have h0 : wr.cell? ⟨b, o + i * 1, none⟩ = some (.slice y.a y.l.length y.c) := (hp.bel.cell hr.1).trans (hr.elem0 RwV.cells_len hy rfl); rwa [Nat.mul_one] at h0
                have e1 : (0 : Int) ≤ (i : Int) := by omega
                have e2 : (i : Int) < (nr : Int) := by omega
                have hi9 : m + i < 100000000 := by have := hln2.out; rw [List.length_append, ← hmw.out] at this; omega
                obtain ⟨yl, ya, yc⟩ := y
                simp only at hcx d0 hf
                obtain ⟨T, hT⟩ : ∃ T, T = rowT yl := ⟨_, rfl⟩
                rw [← hT] at hcx hf
                obtain ⟨M, hM⟩ : ∃ M, M = (Wi ++ (rows.take i).map fun y => rowT y.l).map Value.string := ⟨_, rfl⟩
                rw [← hM] at hf hp
                obtain ⟨yll, hyl⟩ : ∃ k, k = yl.length := ⟨_, rfl⟩
                rw [← hyl] at hcx d0
                replace hp := Lib.hid hp
                replace hf := Lib.hid hf; replace hcx := Lib.hid hcx; replace hi9 := Lib.hid hi9; replace hik := Lib.hid hik
                clear hy hr hM hT hyl
                go_wp2_with (first
                  | (go_at_call 45; (with_reducible refine (hcx.out _ hp.out.bel).mono ?_); rintro e w1 ⟨rfl, b1⟩; replace hp := Lib.hid (hp.out.below b1); clear b1)
                  | (at_builtin; go_loud (refine wpList_append_hp rfl _ _ rfl Tryd.underlying45 strInfo rfl (by decide) (by decide) (hp.out.alloc_ (.cells #[.string T] 9)) 0 rfl rfl _ _ [.string T] rfl rfl (block_cells (heap_alloc_new _ _)) (by intro u hu; simp at hu; rcases hu with rfl; rfl) hi9.out ?_; intro v5 w5 hp5 hv5; replace hp5 := Lib.hid hp5; obtain ⟨b5, cp5, rfl⟩ := hv5)))
                go_roundg K
                case measure => omega
                case rel => exact ⟨i + 1, _, _, by go_num, by have := hik.out; omega, rfl, by rw [hf.out]; exact hp5.out⟩
              · have hk0 : gk = 0 := by omega
                subst hk0
                obtain rfl : nr = i := by omega
                rw [List.take_of_length_le (by rw [← hnr.out]; exact Nat.le_refl _)] at hp
                have hrow := hp.row (i := 0) rfl
                have hlen : (Wi ++ rows.map fun y => rowT y.l).length = m + nr := by rw [List.length_append, List.length_map, ← hnr.out, ← hmw.out]
                have hrow2 : SRow wr 0 (.slice ad (m + nr) cp3) (Wi ++ rows.map fun y => rowT y.l) := by unfold SRow; rw [hlen]; exact hrow
                have kk := Lib.hid (kJ.out _ _ hrow2)
                replace hp := Lib.hid hp
                clear hrow hrow2 hlen hik
                go_wp2_with (go_at_call 46; (with_reducible refine (kk.out).mono ?_); rintro e w1 ⟨rfl, b1⟩; replace hp := Lib.hid (hp.out.below b1); clear b1)
                go_ret
                exact ⟨rfl, hp.out.bel⟩
    · have hw2 := hWh2.out
      rw [if_neg hd] at hw2
      have hd2 : (id == 0) = false := by rw [beq_eq_false_iff_ne]; exact hd
      go_upto_region 6 with (first
        | (go_at_call 43; (with_reducible refine (kD.out _ hp1.out.bel).mono ?_); rintro e w1 ⟨rfl, b1⟩; replace hp1 := Lib.hid (hp1.out.below b1); clear b1)
        | (at_builtin; go_loud (refine wpList_append_hp rfl _ _ rfl Tryd.underlying45 strInfo rfl (by decide) (by decide) (hp1.out.alloc_ (.cells #[.string A] 9)) 0 rfl rfl _ _ [.string A] rfl rfl (block_cells (heap_alloc_new _ _)) (by intro u hu; simp at hu; rcases hu with rfl; rfl) (by decide) ?_; intro v5 w5 hp5 hv5; replace hp5 := Lib.hid hp5; obtain ⟨b5, cp5, rfl⟩ := hv5)))
      have hp := Lib.hid (show Hp w [] [.row 9 1 (.slice (some ⟨b5, 0, none⟩) 2 cp5) 2 (([⟨#[111, 107]⟩, A] : List ByteArray).map Value.string), .box q #[.int .i64 0, .int .u64 id, .slice ia ni ic, .slice na nn nc, .slice ra nr rc] 43] w5 from hp5.out)
      clear hp1 c1 hp5
      by_cases hz : ni = 0
      · rw [if_pos hz] at hw2
        subst hz
        have c2 := hp.out.cell (i := 1) rfl 2
        simp at c2
        go_upto_region 8 with fail
        clear c2
        have hn := Lib.hid (show 2 = Wh.length by rw [hw2]; rfl)
        have hp9 : Hp w [] [.row 9 1 (.slice (some ⟨b5, 0, none⟩) 2 cp5) 2 (Wh.map Value.string), .box q #[.int .i64 0, .int .u64 id, .slice ia 0 ic, .slice na nn nc, .slice ra nr rc] 43] w5 := by rw [hw2]; exact hp.out
        replace hp := Lib.hid hp9
        clear hp9 hw2
        have c3 := hp.out.cell (i := 1) rfl 3
        simp at c3
        go_wp2
        clear c3
        go_loopg [3, 37] nn (fun kk s3 s37 wr => ∃ (i : Nat) (ad : Option Addr) (cp : Nat), s37 = .int .i64 (i : Int) ∧ i + kk = nn ∧ s3 = .slice ad (2 + i) cp ∧ Hp w [] [.row 9 1 (.slice ad (2 + i) cp) (2 + i) ((Wh ++ (ins.take i).map fun y => y.x.text).map Value.string), .box q #[.int .i64 0, .int .u64 id, .slice ia 0 ic, .slice na nn nc, .slice ra nr rc] 43] wr)
        case atStart => exact ⟨0, _, _, rfl, by omega, rfl, by simpa using hp.out⟩
        case round =>
          clear hp
          obtain ⟨i, ad, cp2, rfl, hik, rfl, hp⟩ := hrel
          by_cases hlt : i < nn
          · obtain ⟨K, rfl⟩ : ∃ K : Nat, gk = K + 1 := ⟨gk - 1, by omega⟩
            obtain ⟨b, o, rfl, hr⟩ := hN.out.resolve_left (by omega)
            obtain ⟨y, hy⟩ : ∃ y, ins[i]? = some y := ⟨_, List.getElem?_eq_getElem (by have := hnn.out; omega)⟩
            have hf : (Wh ++ (ins.take (i + 1)).map fun y => y.x.text).map Value.string = (Wh ++ (ins.take i).map fun y => y.x.text).map Value.string ++ [.string y.x.text] := by rw [List.take_add_one, hy]; simp
            have hcx := kN.out y (List.mem_of_getElem? hy)
            have d0 : wr.cell? ⟨b, o + i * 7, none⟩ = some (.int .u64 y.x.id) := (hp.bel.cell hr.1).trans (hr.elem0 InV.cells_len hy rfl)
            have d1 : wr.cell? ⟨b, o + i * 7 + 1, none⟩ = some (.bool y.x.edge) := (hp.bel.cell hr.1).trans (hr.elem InV.cells_len hy rfl)
            have d2 : wr.cell? ⟨b, o + i * 7 + 2, none⟩ = some (.slice y.la y.x.labels.length y.lc) := (hp.bel.cell hr.1).trans (hr.elem InV.cells_len hy rfl)
            have d3 : wr.cell? ⟨b, o + i * 7 + 3, none⟩ = some (.string y.x.typ) := (hp.bel.cell hr.1).trans (hr.elem InV.cells_len hy rfl)
            have d4 : wr.cell? ⟨b, o + i * 7 + 4, none⟩ = some (.int .u64 y.x.fr) := (hp.bel.cell hr.1).trans (hr.elem InV.cells_len hy rfl)
            have d5 : wr.cell? ⟨b, o + i * 7 + 5, none⟩ = some (.int .u64 y.x.dst) := (hp.bel.cell hr.1).trans (hr.elem InV.cells_len hy rfl)
            have d6 : wr.cell? ⟨b, o + i * 7 + 6, none⟩ = some (.slice y.pa y.x.props.length y.pc) := (hp.bel.cell hr.1).trans (hr.elem InV.cells_len hy rfl)
            have e1 : (0 : Int) ≤ (i : Int) := by omega
            have e2 : (i : Int) < (nn : Int) := by omega
            have hi9 : 2 + i < 100000000 := by omega
            obtain ⟨⟨xi, xe, xl, xt, xf, xd, xp⟩, la, lc, pa, pc⟩ := y
            simp only [InV.agg] at hcx d0 d1 d2 d3 d4 d5 d6 hf
            obtain ⟨T, hT⟩ : ∃ T, T = In.text ⟨xi, xe, xl, xt, xf, xd, xp⟩ := ⟨_, rfl⟩
            rw [← hT] at hcx hf
            obtain ⟨M, hM⟩ : ∃ M, M = (Wh ++ (ins.take i).map fun y => y.x.text).map Value.string := ⟨_, rfl⟩
            rw [← hM] at hf hp
            obtain ⟨xll, hxl⟩ : ∃ k, k = xl.length := ⟨_, rfl⟩
            obtain ⟨xpl, hxp⟩ : ∃ k, k = xp.length := ⟨_, rfl⟩
            rw [← hxl] at hcx d2
            rw [← hxp] at hcx d6
            have hp2 := Lib.hid (hp.alloc #[.int .u64 xi, .bool xe, .slice la xll lc, .string xt, .int .u64 xf, .int .u64 xd, .slice pa xpl pc] 48)
            replace hf := Lib.hid hf; replace hcx := Lib.hid hcx; replace hi9 := Lib.hid hi9; replace hik := Lib.hid hik
            clear hy hr hM hp hT hxl hxp
            go_wp2_with (first
              | (go_at_call 44; (with_reducible refine (hcx.out _ hp2.out.bel).mono ?_); rintro e w1 ⟨rfl, b1⟩; replace hp2 := Lib.hid (hp2.out.below b1); clear b1)
              | (at_builtin; go_loud (refine wpList_append_hp rfl _ _ rfl Tryd.underlying45 strInfo rfl (by decide) (by decide) (hp2.out.alloc_ (.cells #[.string T] 9)) 1 rfl rfl _ _ [.string T] rfl rfl (block_cells (heap_alloc_new _ _)) (by intro u hu; simp at hu; rcases hu with rfl; rfl) hi9.out ?_; intro v5 w5 hp5 hv5; replace hp5 := Lib.hid hp5; obtain ⟨b5, cp5, rfl⟩ := hv5)))
            go_roundg K
            case measure => omega
            case rel => exact ⟨i + 1, _, _, by go_num, by have := hik.out; omega, rfl, by rw [hf.out]; exact hp5.out.drop 0⟩
          · have hk0 : gk = 0 := by omega
            subst hk0
            obtain rfl : nn = i := by omega
            rw [List.take_of_length_le (by rw [← hnn.out]; exact Nat.le_refl _)] at hp
            clear hik hlt
            obtain ⟨Wi, hWi⟩ : ∃ l, l = Wh ++ ins.map fun y => y.x.text := ⟨_, rfl⟩
            rw [← hWi] at hp kJ hln2
            obtain ⟨m, hm⟩ : ∃ m, m = 2 + nn := ⟨_, rfl⟩
            rw [← hm] at hp ⊢
            have hmw : m = Wi.length := by rw [hm, hWi, List.length_append, List.length_map, ← hnn.out, ← hn.out]
            replace hmw := Lib.hid hmw; clear hm
            clear hWi hN kN
            replace hp := Lib.hid hp
            have c4 := hp.out.cell (i := 1) rfl 4
            simp at c4
            go_wp2
            clear c4
            go_loopg [3, 50] nr (fun kk s3 s50 wr => ∃ (i : Nat) (ad : Option Addr) (cp : Nat), s50 = .int .i64 (i : Int) ∧ i + kk = nr ∧ s3 = .slice ad (m + i) cp ∧ Hp w [] [.row 9 1 (.slice ad (m + i) cp) (m + i) ((Wi ++ (rows.take i).map fun y => rowT y.l).map Value.string), .box q #[.int .i64 0, .int .u64 id, .slice ia 0 ic, .slice na nn nc, .slice ra nr rc] 43] wr)
            case atStart => exact ⟨0, _, _, rfl, by omega, rfl, by simpa using hp.out⟩
            case round =>
              clear hp
              obtain ⟨i, ad, cp3, rfl, hik, rfl, hp⟩ := hrel
              by_cases hlt : i < nr
              · obtain ⟨K, rfl⟩ : ∃ K : Nat, gk = K + 1 := ⟨gk - 1, by omega⟩
                obtain ⟨b, o, rfl, hr⟩ := hR.out.resolve_left (by omega)
                obtain ⟨y, hy⟩ : ∃ y, rows[i]? = some y := ⟨_, List.getElem?_eq_getElem (by have := hnr.out; omega)⟩
                have hf : (Wi ++ (rows.take (i + 1)).map fun y => rowT y.l).map Value.string = (Wi ++ (rows.take i).map fun y => rowT y.l).map Value.string ++ [.string (rowT y.l)] := by rw [List.take_add_one, hy]; simp
                have hcx := kR.out y (List.mem_of_getElem? hy)
                have d0 : wr.cell? ⟨b, o + i, none⟩ = some (.slice y.a y.l.length y.c) := by have h0 : wr.cell? ⟨b, o + i * 1, none⟩ = some (.slice y.a y.l.length y.c) := (hp.bel.cell hr.1).trans (hr.elem0 RwV.cells_len hy rfl); rwa [Nat.mul_one] at h0
                have e1 : (0 : Int) ≤ (i : Int) := by omega
                have e2 : (i : Int) < (nr : Int) := by omega
                have hi9 : m + i < 100000000 := by have := hln2.out; rw [List.length_append, ← hmw.out] at this; omega
                obtain ⟨yl, ya, yc⟩ := y
                simp only at hcx d0 hf
                obtain ⟨T, hT⟩ : ∃ T, T = rowT yl := ⟨_, rfl⟩
                rw [← hT] at hcx hf
                obtain ⟨M, hM⟩ : ∃ M, M = (Wi ++ (rows.take i).map fun y => rowT y.l).map Value.string := ⟨_, rfl⟩
                rw [← hM] at hf hp
                obtain ⟨yll, hyl⟩ : ∃ k, k = yl.length := ⟨_, rfl⟩
                rw [← hyl] at hcx d0
                replace hp := Lib.hid hp
                replace hf := Lib.hid hf; replace hcx := Lib.hid hcx; replace hi9 := Lib.hid hi9; replace hik := Lib.hid hik
                clear hy hr hM hT hyl
                go_wp2_with (first
                  | (go_at_call 45; (with_reducible refine (hcx.out _ hp.out.bel).mono ?_); rintro e w1 ⟨rfl, b1⟩; replace hp := Lib.hid (hp.out.below b1); clear b1)
                  | (at_builtin; go_loud (refine wpList_append_hp rfl _ _ rfl Tryd.underlying45 strInfo rfl (by decide) (by decide) (hp.out.alloc_ (.cells #[.string T] 9)) 0 rfl rfl _ _ [.string T] rfl rfl (block_cells (heap_alloc_new _ _)) (by intro u hu; simp at hu; rcases hu with rfl; rfl) hi9.out ?_; intro v5 w5 hp5 hv5; replace hp5 := Lib.hid hp5; obtain ⟨b5, cp5, rfl⟩ := hv5)))
                go_roundg K
                case measure => omega
                case rel => exact ⟨i + 1, _, _, by go_num, by have := hik.out; omega, rfl, by rw [hf.out]; exact hp5.out⟩
              · have hk0 : gk = 0 := by omega
                subst hk0
                obtain rfl : nr = i := by omega
                rw [List.take_of_length_le (by rw [← hnr.out]; exact Nat.le_refl _)] at hp
                have hrow := hp.row (i := 0) rfl
                have hlen : (Wi ++ rows.map fun y => rowT y.l).length = m + nr := by rw [List.length_append, List.length_map, ← hnr.out, ← hmw.out]
                have hrow2 : SRow wr 0 (.slice ad (m + nr) cp3) (Wi ++ rows.map fun y => rowT y.l) := by unfold SRow; rw [hlen]; exact hrow
                have kk := Lib.hid (kJ.out _ _ hrow2)
                replace hp := Lib.hid hp
                clear hrow hrow2 hlen hik
                go_wp2_with (go_at_call 46; (with_reducible refine (kk.out).mono ?_); rintro e w1 ⟨rfl, b1⟩; replace hp := Lib.hid (hp.out.below b1); clear b1)
                go_ret
                exact ⟨rfl, hp.out.bel⟩
      · rw [if_neg hz] at hw2
        have hz2 : (0 : Int) < (ni : Int) := by omega
        have c2 := hp.out.cell (i := 1) rfl 2
        simp at c2
        go_upto_region 8 with (first
          | (go_at_call 20; (with_reducible refine (kS.out _ hp.out.bel).mono ?_); rintro e w1 ⟨rfl, b1⟩; replace hp := Lib.hid (hp.out.below b1); clear b1)
          | (at_builtin; go_loud (refine wpList_append_hp rfl _ _ rfl Tryd.underlying45 strInfo rfl (by decide) (by decide) (hp.out.alloc_ (.cells #[.string S] 9)) 0 rfl rfl _ _ [.string S] rfl rfl (block_cells (heap_alloc_new _ _)) (by intro u hu; simp at hu; rcases hu with rfl; rfl) (by decide) ?_; intro v5 w5 hp5 hv5; replace hp5 := Lib.hid hp5; obtain ⟨b5, cp5, rfl⟩ := hv5)))
        clear c2 hp
        have hn := Lib.hid (show 3 = Wh.length by rw [hw2]; rfl)
        have hp9 : Hp w [] [.row 9 1 (.slice (some ⟨b5, 0, none⟩) 3 cp5) 3 (Wh.map Value.string), .box q #[.int .i64 0, .int .u64 id, .slice ia ni ic, .slice na nn nc, .slice ra nr rc] 43] w5 := by rw [hw2]; exact hp5.out
        have hp := Lib.hid hp9
        clear hp9 hw2 hp5
        have c3 := hp.out.cell (i := 1) rfl 3
        simp at c3
        go_wp2
        clear c3
        go_loopg [3, 37] nn (fun kk s3 s37 wr => ∃ (i : Nat) (ad : Option Addr) (cp : Nat), s37 = .int .i64 (i : Int) ∧ i + kk = nn ∧ s3 = .slice ad (3 + i) cp ∧ Hp w [] [.row 9 1 (.slice ad (3 + i) cp) (3 + i) ((Wh ++ (ins.take i).map fun y => y.x.text).map Value.string), .box q #[.int .i64 0, .int .u64 id, .slice ia ni ic, .slice na nn nc, .slice ra nr rc] 43] wr)
        case atStart => exact ⟨0, _, _, rfl, by omega, rfl, by simpa using hp.out⟩
        case round =>
          clear hp
          obtain ⟨i, ad, cp2, rfl, hik, rfl, hp⟩ := hrel
          by_cases hlt : i < nn
          · obtain ⟨K, rfl⟩ : ∃ K : Nat, gk = K + 1 := ⟨gk - 1, by omega⟩
            obtain ⟨b, o, rfl, hr⟩ := hN.out.resolve_left (by omega)
            obtain ⟨y, hy⟩ : ∃ y, ins[i]? = some y := ⟨_, List.getElem?_eq_getElem (by have := hnn.out; omega)⟩
            have hf : (Wh ++ (ins.take (i + 1)).map fun y => y.x.text).map Value.string = (Wh ++ (ins.take i).map fun y => y.x.text).map Value.string ++ [.string y.x.text] := by rw [List.take_add_one, hy]; simp
            have hcx := kN.out y (List.mem_of_getElem? hy)
            have d0 : wr.cell? ⟨b, o + i * 7, none⟩ = some (.int .u64 y.x.id) := (hp.bel.cell hr.1).trans (hr.elem0 InV.cells_len hy rfl)
            have d1 : wr.cell? ⟨b, o + i * 7 + 1, none⟩ = some (.bool y.x.edge) := (hp.bel.cell hr.1).trans (hr.elem InV.cells_len hy rfl)
            have d2 : wr.cell? ⟨b, o + i * 7 + 2, none⟩ = some (.slice y.la y.x.labels.length y.lc) := (hp.bel.cell hr.1).trans (hr.elem InV.cells_len hy rfl)
            have d3 : wr.cell? ⟨b, o + i * 7 + 3, none⟩ = some (.string y.x.typ) := (hp.bel.cell hr.1).trans (hr.elem InV.cells_len hy rfl)
            have d4 : wr.cell? ⟨b, o + i * 7 + 4, none⟩ = some (.int .u64 y.x.fr) := (hp.bel.cell hr.1).trans (hr.elem InV.cells_len hy rfl)
            have d5 : wr.cell? ⟨b, o + i * 7 + 5, none⟩ = some (.int .u64 y.x.dst) := (hp.bel.cell hr.1).trans (hr.elem InV.cells_len hy rfl)
            have d6 : wr.cell? ⟨b, o + i * 7 + 6, none⟩ = some (.slice y.pa y.x.props.length y.pc) := (hp.bel.cell hr.1).trans (hr.elem InV.cells_len hy rfl)
            have e1 : (0 : Int) ≤ (i : Int) := by omega
            have e2 : (i : Int) < (nn : Int) := by omega
            have hi9 : 3 + i < 100000000 := by omega
            obtain ⟨⟨xi, xe, xl, xt, xf, xd, xp⟩, la, lc, pa, pc⟩ := y
            simp only [InV.agg] at hcx d0 d1 d2 d3 d4 d5 d6 hf
            obtain ⟨T, hT⟩ : ∃ T, T = In.text ⟨xi, xe, xl, xt, xf, xd, xp⟩ := ⟨_, rfl⟩
            rw [← hT] at hcx hf
            obtain ⟨M, hM⟩ : ∃ M, M = (Wh ++ (ins.take i).map fun y => y.x.text).map Value.string := ⟨_, rfl⟩
            rw [← hM] at hf hp
            obtain ⟨xll, hxl⟩ : ∃ k, k = xl.length := ⟨_, rfl⟩
            obtain ⟨xpl, hxp⟩ : ∃ k, k = xp.length := ⟨_, rfl⟩
            rw [← hxl] at hcx d2
            rw [← hxp] at hcx d6
            have hp2 := Lib.hid (hp.alloc #[.int .u64 xi, .bool xe, .slice la xll lc, .string xt, .int .u64 xf, .int .u64 xd, .slice pa xpl pc] 48)
            replace hf := Lib.hid hf; replace hcx := Lib.hid hcx; replace hi9 := Lib.hid hi9; replace hik := Lib.hid hik
            clear hy hr hM hp hT hxl hxp
            go_wp2_with (first
              | (go_at_call 44; (with_reducible refine (hcx.out _ hp2.out.bel).mono ?_); rintro e w1 ⟨rfl, b1⟩; replace hp2 := Lib.hid (hp2.out.below b1); clear b1)
              | (at_builtin; go_loud (refine wpList_append_hp rfl _ _ rfl Tryd.underlying45 strInfo rfl (by decide) (by decide) (hp2.out.alloc_ (.cells #[.string T] 9)) 1 rfl rfl _ _ [.string T] rfl rfl (block_cells (heap_alloc_new _ _)) (by intro u hu; simp at hu; rcases hu with rfl; rfl) hi9.out ?_; intro v5 w5 hp5 hv5; replace hp5 := Lib.hid hp5; obtain ⟨b5, cp5, rfl⟩ := hv5)))
            go_roundg K
            case measure => omega
            case rel => exact ⟨i + 1, _, _, by go_num, by have := hik.out; omega, rfl, by rw [hf.out]; exact hp5.out.drop 0⟩
          · have hk0 : gk = 0 := by omega
            subst hk0
            obtain rfl : nn = i := by omega
            rw [List.take_of_length_le (by rw [← hnn.out]; exact Nat.le_refl _)] at hp
            clear hik hlt
            obtain ⟨Wi, hWi⟩ : ∃ l, l = Wh ++ ins.map fun y => y.x.text := ⟨_, rfl⟩
            rw [← hWi] at hp kJ hln2
            obtain ⟨m, hm⟩ : ∃ m, m = 3 + nn := ⟨_, rfl⟩
            rw [← hm] at hp ⊢
            have hmw : m = Wi.length := by rw [hm, hWi, List.length_append, List.length_map, ← hnn.out, ← hn.out]
            replace hmw := Lib.hid hmw; clear hm
            clear hWi hN kN
            replace hp := Lib.hid hp
            have c4 := hp.out.cell (i := 1) rfl 4
            simp at c4
            go_wp2
            clear c4
            go_loopg [3, 50] nr (fun kk s3 s50 wr => ∃ (i : Nat) (ad : Option Addr) (cp : Nat), s50 = .int .i64 (i : Int) ∧ i + kk = nr ∧ s3 = .slice ad (m + i) cp ∧ Hp w [] [.row 9 1 (.slice ad (m + i) cp) (m + i) ((Wi ++ (rows.take i).map fun y => rowT y.l).map Value.string), .box q #[.int .i64 0, .int .u64 id, .slice ia ni ic, .slice na nn nc, .slice ra nr rc] 43] wr)
            case atStart => exact ⟨0, _, _, rfl, by omega, rfl, by simpa using hp.out⟩
            case round =>
              clear hp
              obtain ⟨i, ad, cp3, rfl, hik, rfl, hp⟩ := hrel
              by_cases hlt : i < nr
              · obtain ⟨K, rfl⟩ : ∃ K : Nat, gk = K + 1 := ⟨gk - 1, by omega⟩
                obtain ⟨b, o, rfl, hr⟩ := hR.out.resolve_left (by omega)
                obtain ⟨y, hy⟩ : ∃ y, rows[i]? = some y := ⟨_, List.getElem?_eq_getElem (by have := hnr.out; omega)⟩
                have hf : (Wi ++ (rows.take (i + 1)).map fun y => rowT y.l).map Value.string = (Wi ++ (rows.take i).map fun y => rowT y.l).map Value.string ++ [.string (rowT y.l)] := by rw [List.take_add_one, hy]; simp
                have hcx := kR.out y (List.mem_of_getElem? hy)
                have d0 : wr.cell? ⟨b, o + i, none⟩ = some (.slice y.a y.l.length y.c) := by have h0 : wr.cell? ⟨b, o + i * 1, none⟩ = some (.slice y.a y.l.length y.c) := (hp.bel.cell hr.1).trans (hr.elem0 RwV.cells_len hy rfl); rwa [Nat.mul_one] at h0
                have e1 : (0 : Int) ≤ (i : Int) := by omega
                have e2 : (i : Int) < (nr : Int) := by omega
                have hi9 : m + i < 100000000 := by have := hln2.out; rw [List.length_append, ← hmw.out] at this; omega
                obtain ⟨yl, ya, yc⟩ := y
                simp only at hcx d0 hf
                obtain ⟨T, hT⟩ : ∃ T, T = rowT yl := ⟨_, rfl⟩
                rw [← hT] at hcx hf
                obtain ⟨M, hM⟩ : ∃ M, M = (Wi ++ (rows.take i).map fun y => rowT y.l).map Value.string := ⟨_, rfl⟩
                rw [← hM] at hf hp
                obtain ⟨yll, hyl⟩ : ∃ k, k = yl.length := ⟨_, rfl⟩
                rw [← hyl] at hcx d0
                replace hp := Lib.hid hp
                replace hf := Lib.hid hf; replace hcx := Lib.hid hcx; replace hi9 := Lib.hid hi9; replace hik := Lib.hid hik
                clear hy hr hM hT hyl
                go_wp2_with (first
                  | (go_at_call 45; (with_reducible refine (hcx.out _ hp.out.bel).mono ?_); rintro e w1 ⟨rfl, b1⟩; replace hp := Lib.hid (hp.out.below b1); clear b1)
                  | (at_builtin; go_loud (refine wpList_append_hp rfl _ _ rfl Tryd.underlying45 strInfo rfl (by decide) (by decide) (hp.out.alloc_ (.cells #[.string T] 9)) 0 rfl rfl _ _ [.string T] rfl rfl (block_cells (heap_alloc_new _ _)) (by intro u hu; simp at hu; rcases hu with rfl; rfl) hi9.out ?_; intro v5 w5 hp5 hv5; replace hp5 := Lib.hid hp5; obtain ⟨b5, cp5, rfl⟩ := hv5)))
                go_roundg K
                case measure => omega
                case rel => exact ⟨i + 1, _, _, by go_num, by have := hik.out; omega, rfl, by rw [hf.out]; exact hp5.out⟩
              · have hk0 : gk = 0 := by omega
                subst hk0
                obtain rfl : nr = i := by omega
                rw [List.take_of_length_le (by rw [← hnr.out]; exact Nat.le_refl _)] at hp
                have hrow := hp.row (i := 0) rfl
                have hlen : (Wi ++ rows.map fun y => rowT y.l).length = m + nr := by rw [List.length_append, List.length_map, ← hnr.out, ← hmw.out]
                have hrow2 : SRow wr 0 (.slice ad (m + nr) cp3) (Wi ++ rows.map fun y => rowT y.l) := by unfold SRow; rw [hlen]; exact hrow
                have kk := Lib.hid (kJ.out _ _ hrow2)
                replace hp := Lib.hid hp
                clear hrow hrow2 hlen hik
                go_wp2_with (go_at_call 46; (with_reducible refine (kk.out).mono ?_); rintro e w1 ⟨rfl, b1⟩; replace hp := Lib.hid (hp.out.below b1); clear b1)
                go_ret
                exact ⟨rfl, hp.out.bel⟩
  · rw [if_neg he]
    have he2 : (er == 0) = false := by rw [beq_eq_false_iff_ne]; exact he
    go_enter Tryd.func18, Tryd.ntmps18
    go_upto_region 1 with fail
    generalize w.alloc _ = W at hp0 ⊢
    generalize hq2 : w.heap.size = q at hp0 ⊢
    have c0 := hp0.out.cell (i := 0) rfl 0
    simp at c0
    go_wp2_with (go_at_call 42; (with_reducible refine (kE.out _ hp0.out.bel).mono ?_); rintro e w1 ⟨rfl, b1⟩; replace hp0 := Lib.hid (hp0.out.below b1); clear b1)
    go_ret
    exact ⟨rfl, hq2 ▸ hp0.out.bel⟩
end Go.Proofs.YtgbkpkioijbgoaaDoor.show
