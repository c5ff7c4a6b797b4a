/- Which questions may be (query.Vars, named, few, May). No condition but where the question lies. -/
import Derived.Test.YtgbkpkioijbgoaaDoorQry6
namespace Go.Proofs.YtgbkpkioijbgoaaDoor.qry
open Go.RowKit
open lex (W wv)
open names (Nm mayN nmC nmC_len nmC_at nmC_append)
attribute [local go_sem ↓] Go.wp_at_zero Go.wp_at_succ
attribute [local go_sem] str_size str_bl
set_option linter.unusedVariables false
set_option linter.unusedSimpArgs false
set_option maxRecDepth 100000

theorem textInfo : (Tryd.prog.info? 9).map (fun i => (i.zero, i.size, i.bytes)) = some (some (.string ⟨#[]⟩), 1, 16) := by kernel_rfl
theorem slAt {w : World} {a : Option Addr} {n cap : Nat} {vs : List Value} (h : Sl w (.slice a n cap) n vs) : n = 0 ∨ ∃ b o, a = some ⟨b, o, none⟩ ∧ RowAt w b o vs := by
  obtain ⟨a2, c2, e, _, h⟩ := h
  injection e with e1 e2 e3
  subst e1 e3
  exact h
theorem Ed.cells_len (x : Ed) : x.cells.length = 3 := rfl
theorem NdV.cells_len (x : NdV) : x.cells.length = 3 := rfl
theorem Cd.cells_len (x : Cd) : x.cells.length = 6 := rfl
theorem It.cells_len (x : It) : x.cells.length = 2 := rfl
/-- a question, and where its slices lie -/
structure Qv where
  N : List NdV
  E : List Ed
  C : List Cd
  I : List It
  lim : Int
  na : Option Addr
  nc : Nat
  ea : Option Addr
  ec : Nat
  ca : Option Addr
  cc : Nat
  ia : Option Addr
  ic : Nat
def Qv.cs (q : Qv) : Array Value := #[.slice q.na q.N.length q.nc, .slice q.ea q.E.length q.ec, .slice q.ca q.C.length q.cc, .slice q.ia q.I.length q.ic, .int .i64 q.lim]
def Qv.a (q : Qv) : Value := .agg q.cs
structure Qv.ok (q : Qv) (w : World) : Prop where
  n : Sl w (.slice q.na q.N.length q.nc) q.N.length (q.N.flatMap NdV.cells)
  e : Sl w (.slice q.ea q.E.length q.ec) q.E.length (q.E.flatMap Ed.cells)
  c : Sl w (.slice q.ca q.C.length q.cc) q.C.length (q.C.flatMap Cd.cells)
  i : Sl w (.slice q.ia q.I.length q.ic) q.I.length (q.I.flatMap It.cells)
  ln : q.N.length ≤ 1100
  le : q.E.length ≤ 1100
  lc : q.C.length ≤ 1100
  li : q.I.length ≤ 1100
theorem Qv.ok.below {q : Qv} {w w' : World} (h : q.ok w) (k : Below w.heap.size w w') : q.ok w' := ⟨h.n.below k, h.e.below k, h.c.below k, h.i.below k, h.ln, h.le, h.lc, h.li⟩
theorem contains_any (v : Value) (l : List Nm) (s : Nm) (w : World) (h : Sl w v l.length (nmC l)) (hn : l.length ≤ 1000000) :
    Calls Tryd.prog 37 #[v, .string (str s)] w fun e w' => e = .returned (.bool (decide (s ∈ l))) ∧ w' = w := by
  have c := names.index_any v l s w h hn
  by_cases hs : s ∈ l
  · rw [if_pos hs] at c
    have hd : decide (s ∈ l) = true := by simp [hs]
    rw [hd]
    obtain ⟨i, hi⟩ : ∃ i, i = l.idxOf s := ⟨_, rfl⟩
    rw [← hi] at c
    have e1 : (0 : Int) ≤ (i : Int) := by omega
    replace c := Lib.hid c
    clear hd hs hi h
    go_enter Tryd.func37, Tryd.ntmps37
    go_wp2_with (go_at_call 73; (with_reducible refine c.out.mono ?_); rintro e w1 ⟨rfl, rfl⟩)
    go_ret
    exact ⟨rfl, rfl⟩
  · rw [if_neg hs] at c
    have hd : decide (s ∈ l) = false := by simp [hs]
    rw [hd]
    replace c := Lib.hid c
    clear hd hs h
    go_enter Tryd.func37, Tryd.ntmps37
    go_wp2_with (go_at_call 73; (with_reducible refine c.out.mono ?_); rintro e w1 ⟨rfl, rfl⟩)
    go_ret
    exact ⟨rfl, rfl⟩
def Qv.vars (q : Qv) : List Nm := q.N.map (fun y => y.nd.var) ++ q.E.map Ed.var
set_option maxHeartbeats 4000000 in
theorem vars_any (q : Qv) (w : World) (h : q.ok w) :
    Calls Tryd.prog 72 #[q.a] w fun e w' => ∃ (ad : Option Addr) (cp : Nat), e = .returned (.slice ad q.vars.length cp) ∧ Hp w [] [.row 9 1 (.slice ad q.vars.length cp) q.vars.length (nmC q.vars)] w' := by
  have hn := slAt h.n
  have he := slAt h.e
  have ln := h.ln
  have le := h.le
  obtain ⟨V, hV⟩ : ∃ V, V = q.vars := ⟨_, rfl⟩
  have hV2 : V = q.N.map (fun y => y.nd.var) ++ q.E.map Ed.var := hV
  rw [← hV]
  unfold Qv.a Qv.cs
  obtain ⟨N, E, C, I, lim, na, nc, ea, ec, ca, cc, ia, ic⟩ := q
  simp only at hn he ln le hV2 ⊢
  obtain ⟨n, hnN⟩ : ∃ n, n = N.length := ⟨_, rfl⟩
  obtain ⟨m, hmE⟩ : ∃ n, n = E.length := ⟨_, rfl⟩
  rw [← hnN] at hn ln ⊢
  rw [← hmE] at he le ⊢
  clear hV h
  have hp := ((Hp.none_ w []).alloc #[.slice na n nc, .slice ea m ec, .slice ca C.length cc, .slice ia I.length ic, .int .i64 lim] 27).rowNil 9 1
  replace hp := Lib.hid hp; replace hn := Lib.hid hn; replace he := Lib.hid he; replace ln := Lib.hid ln; replace le := Lib.hid le; replace hV2 := Lib.hid hV2; replace hnN := Lib.hid hnN; replace hmE := Lib.hid hmE
  go_enter Tryd.func72, Tryd.ntmps72
  go_upto_region 1 with fail
  generalize w.alloc _ = W1 at hp ⊢
  generalize w.heap.size = q1 at hp ⊢
  have c0 := hp.out.cell (i := 1) rfl 0
  simp at c0
  go_wp2
  clear c0
  go_loopg [3, 11] n (fun kk s3 s11 wr => ∃ (i : Nat) (ad : Option Addr) (cp : Nat), s11 = .int .i64 (i : Int) ∧ i + kk = n ∧ s3 = .slice ad i cp ∧ Hp w [] [.row 9 1 (.slice ad i cp) i (nmC ((N.take i).map (fun y => y.nd.var))), .box q1 #[.slice na n nc, .slice ea m ec, .slice ca C.length cc, .slice ia I.length ic, .int .i64 lim] 27] wr)
  case atStart => exact ⟨0, _, _, rfl, by omega, rfl, hp.out⟩
  case round =>
    clear hp
    obtain ⟨i, ad, cp, rfl, hik, rfl, hp⟩ := hrel
    by_cases hlt : i < n
    · obtain ⟨K, rfl⟩ : ∃ K : Nat, gk = K + 1 := ⟨gk - 1, by omega⟩
      obtain ⟨b, o, rfl, hr⟩ := hn.out.resolve_left (by omega)
      obtain ⟨y, hy⟩ : ∃ y, N[i]? = some y := ⟨_, List.getElem?_eq_getElem (by have := hnN.out; omega)⟩
      have hf : nmC ((N.take (i + 1)).map (fun y => y.nd.var)) = nmC ((N.take i).map (fun y => y.nd.var)) ++ [.string (str y.nd.var)] := by rw [List.take_add_one, hy]; simp [nmC]
      have d0 : wr.cell? ⟨b, o + i * 3, none⟩ = some (.string (str y.nd.var)) := (hp.bel.cell hr.1).trans (hr.elem0 NdV.cells_len hy rfl)
      have d1 : wr.cell? ⟨b, o + i * 3 + 1, none⟩ = some (.string (str y.nd.label)) := (hp.bel.cell hr.1).trans (hr.elem NdV.cells_len hy rfl)
      have d2 : wr.cell? ⟨b, o + i * 3 + 2, none⟩ = some (.slice y.ad y.nd.props.length y.cp) := (hp.bel.cell hr.1).trans (hr.elem NdV.cells_len hy rfl)
      have e1 : (0 : Int) ≤ (i : Int) := by omega
      have e2 : (i : Int) < (n : Int) := by omega
      have hib : i < 1100 := by have := ln.out; omega
      have hl9 := Lib.hid (show i < 100000000 by have := ln.out; omega)
      obtain ⟨yv, hyv⟩ : ∃ s, s = str y.nd.var := ⟨_, rfl⟩
      obtain ⟨yl, hyl⟩ : ∃ s, s = str y.nd.label := ⟨_, rfl⟩
      obtain ⟨yn, hyn⟩ : ∃ s, s = y.nd.props.length := ⟨_, rfl⟩
      obtain ⟨ya, hya⟩ : ∃ s, s = y.ad := ⟨_, rfl⟩
      obtain ⟨yc, hyc⟩ : ∃ s, s = y.cp := ⟨_, rfl⟩
      rw [← hyv] at hf d0
      rw [← hyl] at d1
      rw [← hyn, ← hya, ← hyc] at d2
      obtain ⟨M, hM⟩ : ∃ M, M = nmC ((N.take i).map (fun y => y.nd.var)) := ⟨_, rfl⟩
      rw [← hM] at hf hp
      clear hy hr hM hyv hyl hyn hya hyc hlt
      have hp2 := Lib.hid (hp.alloc #[.string yv, .string yl, .slice ya yn yc] 79)
      replace hf := Lib.hid hf; replace hik := Lib.hid hik; replace hp := Lib.hid hp
      go_upto_region 5 with fail
      clear d0 d1 d2 hp
      generalize wr.alloc _ = W2 at hp2 ⊢
      generalize wr.heap.size = q2 at hp2 ⊢
      have y0 := hp2.out.cell (i := 0) rfl 0
      simp at y0
      go_wp2_with (at_builtin; go_loud (refine wpList_append_hp rfl _ _ rfl Tryd.underlying45 textInfo rfl (by decide) (by decide) (hp2.out.alloc_ (.cells #[.string yv] 9)) 1 rfl rfl _ _ [.string yv] rfl rfl (block_cells (heap_alloc_new _ _)) (by intro u hu; simp at hu; rcases hu with rfl; rfl) hl9.out ?_; intro v5 w5 hp5 hv5; replace hp5 := Lib.hid hp5; obtain ⟨ad5, cp5, rfl⟩ := hv5))
      go_roundg K
      case measure => omega
      case rel => exact ⟨i + 1, _, _, by go_num, by have := hik.out; omega, rfl, by rw [hf.out]; exact hp5.out.drop 0⟩
    · have hk0 : gk = 0 := by omega
      subst hk0
      obtain rfl : n = i := by omega
      rw [List.take_of_length_le (by rw [← hnN.out]; exact Nat.le_refl _)] at hp
      clear hik hlt
      have c1 := hp.cell (i := 1) rfl 1
      simp at c1
      obtain ⟨M, hM⟩ : ∃ M, M = N.map (fun y => y.nd.var) := ⟨_, rfl⟩
      have hML : M.length = n := by rw [hM, List.length_map]; exact hnN.out.symm
      have hV3 := hV2.out
      rw [← hM] at hp hV3
      replace hp := Lib.hid hp; replace hM := Lib.hid hM; replace hML := Lib.hid hML; replace hV3 := Lib.hid hV3
      clear hV2
      go_wp2
      clear c1
      go_loopg [3, 24] m (fun kk s3 s24 wr => ∃ (i : Nat) (ad : Option Addr) (cp : Nat), s24 = .int .i64 (i : Int) ∧ i + kk = m ∧ s3 = .slice ad (n + i) cp ∧ Hp w [] [.row 9 1 (.slice ad (n + i) cp) (n + i) (nmC (M ++ (E.take i).map Ed.var)), .box q1 #[.slice na n nc, .slice ea m ec, .slice ca C.length cc, .slice ia I.length ic, .int .i64 lim] 27] wr)
      case atStart => exact ⟨0, _, _, rfl, by omega, rfl, by simpa using hp.out⟩
      case round =>
        clear hp
        obtain ⟨i, ad, cp, rfl, hik, rfl, hp⟩ := hrel
        by_cases hlt : i < m
        · obtain ⟨K, rfl⟩ : ∃ K : Nat, gk = K + 1 := ⟨gk - 1, by omega⟩
          obtain ⟨b, o, rfl, hr⟩ := he.out.resolve_left (by omega)
          obtain ⟨y, hy⟩ : ∃ y, E[i]? = some y := ⟨_, List.getElem?_eq_getElem (by have := hmE.out; omega)⟩
          have hf : nmC (M ++ (E.take (i + 1)).map Ed.var) = nmC (M ++ (E.take i).map Ed.var) ++ [.string (str y.var)] := by rw [List.take_add_one, hy]; simp [nmC]
          have d0 : wr.cell? ⟨b, o + i * 3, none⟩ = some (.string (str y.var)) := (hp.bel.cell hr.1).trans (hr.elem0 Ed.cells_len hy rfl)
          have d1 : wr.cell? ⟨b, o + i * 3 + 1, none⟩ = some (.string (str y.typ)) := (hp.bel.cell hr.1).trans (hr.elem Ed.cells_len hy rfl)
          have d2 : wr.cell? ⟨b, o + i * 3 + 2, none⟩ = some (.bool y.out) := (hp.bel.cell hr.1).trans (hr.elem Ed.cells_len hy rfl)
          have e1 : (0 : Int) ≤ (i : Int) := by omega
          have e2 : (i : Int) < (m : Int) := by omega
          have hib : i < 1100 := by have := le.out; omega
          have hl9 := Lib.hid (show n + i < 100000000 by have := ln.out; have := le.out; omega)
          obtain ⟨yv, hyv⟩ : ∃ s, s = str y.var := ⟨_, rfl⟩
          obtain ⟨yl, hyl⟩ : ∃ s, s = str y.typ := ⟨_, rfl⟩
          obtain ⟨yo, hyo⟩ : ∃ s, s = y.out := ⟨_, rfl⟩
          rw [← hyv] at hf d0
          rw [← hyl] at d1
          rw [← hyo] at d2
          obtain ⟨M2, hM2⟩ : ∃ M2, M2 = nmC (M ++ (E.take i).map Ed.var) := ⟨_, rfl⟩
          rw [← hM2] at hf hp
          clear hy hr hM2 hyv hyl hyo hlt
          have hp2 := Lib.hid (hp.alloc #[.string yv, .string yl, .bool yo] 84)
          replace hf := Lib.hid hf; replace hik := Lib.hid hik; replace hp := Lib.hid hp
          go_upto_region 10 with fail
          clear d0 d1 d2 hp
          generalize wr.alloc _ = W2 at hp2 ⊢
          generalize wr.heap.size = q2 at hp2 ⊢
          have y0 := hp2.out.cell (i := 0) rfl 0
          simp at y0
          go_wp2_with (at_builtin; go_loud (refine wpList_append_hp rfl _ _ rfl Tryd.underlying45 textInfo rfl (by decide) (by decide) (hp2.out.alloc_ (.cells #[.string yv] 9)) 1 rfl rfl _ _ [.string yv] rfl rfl (block_cells (heap_alloc_new _ _)) (by intro u hu; simp at hu; rcases hu with rfl; rfl) hl9.out ?_; intro v5 w5 hp5 hv5; replace hp5 := Lib.hid hp5; obtain ⟨ad5, cp5, rfl⟩ := hv5))
          go_roundg K
          case measure => omega
          case rel => exact ⟨i + 1, _, _, by go_num, by have := hik.out; omega, rfl, by rw [hf.out]; exact hp5.out.drop 0⟩
        · have hk0 : gk = 0 := by omega
          subst hk0
          obtain rfl : m = i := by omega
          rw [List.take_of_length_le (by rw [← hmE.out]; exact Nat.le_refl _)] at hp
          have hVl : V.length = n + m := by rw [hV3.out, List.length_append, hML.out, List.length_map, ← hmE.out]
          have hp3 := Lib.hid (hp.drop 1)
          replace hVl := Lib.hid hVl
          clear hik hlt hp
          go_wp2
          go_ret
          have hfin : Hp w [] [.row 9 1 (.slice ad V.length cp) V.length (nmC V)] wr := by rw [hVl.out, hV3.out]; exact hp3.out
          exact ⟨ad, cp, by rw [hVl.out]; rfl, hfin⟩
end Go.Proofs.YtgbkpkioijbgoaaDoor.qry
