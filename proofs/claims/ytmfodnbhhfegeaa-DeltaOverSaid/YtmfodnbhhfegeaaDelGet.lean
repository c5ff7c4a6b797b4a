/- Delta's readers: Len, Get, New, Clear; what none does. No condition but the rising keys. -/
import Derived.Test.YtmfodnbhhfegeaaDelPut
import Derived.Laws.Rows
namespace Go.Proofs.Ytmfodnbhhfegeaa.delta
open Go.RowKit
attribute [local go_sem ↓] Go.wp_at_zero Go.wp_at_succ
set_option linter.unusedVariables false
set_option maxRecDepth 100000

theorem new_any (w : World) : Calls Try.prog 47 #[] w fun e w' => e = .returned (.pointer (some ⟨w.heap.size, 0, none⟩)) ∧ Hp w [] [Rs.bxrow 144 93 3 w.heap.size 0 (chC [])] w' := by
  have hp := Lib.hid ((((Hp.none_ w []).alloc #[.slice none 0 0] 144).rowNil 93 3).perm (List.Perm.swap _ _ _)).shutRow
  go_enter Try.func47, Try.ntmps47
  go_wp2
  go_ret
  exact ⟨rfl, hp.out⟩
theorem len_any (d n cp : Nat) (ad : Option Addr) (w : World) (hd : w.heap[d]? = some (.cells #[.slice ad n cp] 144 (0, 0))) : Calls Try.prog 52 #[.pointer (some ⟨d, 0, none⟩)] w fun e w' => e = .returned (.int .i64 (n : Int)) ∧ w' = w := by
  have d0 : w.cell? ⟨d, 0, none⟩ = some (.slice ad n cp) := cell_of_row _ _ 0 _ _ _ hd
  clear hd
  go_enter Try.func52, Try.ntmps52
  go_wp2
  go_ret
  exact ⟨rfl, rfl⟩
theorem len_nil (w : World) : Calls Try.prog 52 #[.pointer none] w fun e w' => e = .returned (.int .i64 0) ∧ w' = w := by
  go_enter Try.func52, Try.ntmps52
  go_wp2
  go_ret
  exact ⟨rfl, rfl⟩
theorem clear_any (d n : Nat) (xs : List Value) (w : World) (fp : List Nat) (h : (Rs.bxrow 144 93 3 d n xs).holds w fp) :
    Calls Try.prog 58 #[.pointer (some ⟨d, 0, none⟩)] w fun e w' => e = .returned (.tuple #[]) ∧ Hp w fp [Rs.bxrow 144 93 3 d 0 (chC [])] w' := by
  obtain ⟨v, hp⟩ := Hp.openRow h
  have d0 := hp.cell (i := 0) rfl 0
  simp at d0
  have f0 := hp.free (i := 0) rfl 0
  have hfin := Lib.hid ((((hp.put (i := 0) rfl 0 (.slice none 0 0)).drop 1).rowNil 93 3).perm (List.Perm.swap _ _ _)).shutRow
  clear hp h
  go_enter Try.func58, Try.ntmps58
  go_wp2
  go_end0
  exact ⟨rfl, hfin.out⟩
theorem clear_nil (w : World) : Calls Try.prog 58 #[.pointer none] w fun e w' => e = .returned (.tuple #[]) ∧ w' = w := by
  go_enter Try.func58, Try.ntmps58
  go_wp2
  go_end0
  exact ⟨rfl, rfl⟩
theorem put_nil (c : Ch) (w : World) : Calls Try.prog 49 #[.pointer none, c.a] w fun e w' => e = .returned (.tuple #[]) ∧ Below w.heap.size w w' := by
  have hb := Lib.hid ((Below.refl w.heap.size w).alloc (Nat.le_refl _) (.cells #[.string c.k, .string c.v, .bool c.g] 93))
  obtain ⟨k, vv, g⟩ := c
  unfold Ch.a
  simp only at *
  go_enter Try.func49, Try.ntmps49
  go_wp2
  exact bodyPost_ret (v := .tuple #[]) (results_none rfl _ _ _) rfl ⟨rfl, hb.out⟩
theorem put_empty (d : Nat) (c : Ch) (w : World) (hk : eqB c.k ⟨#[]⟩ = true) : Calls Try.prog 49 #[.pointer (some ⟨d, 0, none⟩), c.a] w fun e w' => e = .returned (.tuple #[]) ∧ Below w.heap.size w w' := by
  have hb := Lib.hid ((Below.refl w.heap.size w).alloc (Nat.le_refl _) (.cells #[.string c.k, .string c.v, .bool c.g] 93))
  have e := eqB_iff.1 hk
  obtain ⟨k, vv, g⟩ := c
  unfold Ch.a
  simp only at *
  subst e
  clear hk
  go_enter Try.func49, Try.ntmps49
  go_wp2
  exact bodyPost_ret (v := .tuple #[]) (results_none rfl _ _ _) rfl ⟨rfl, hb.out⟩
theorem get_results (tmps : Array Value) (W' : World) (g : Nat) (cs : Array Value) (b : Value) (h4 : tmps.getD 4 undef = .pointer (some ⟨g, 0, none⟩)) (h5 : tmps.getD 5 undef = b) (hg : W'.heap[g]? = some (.cells cs 93 (0, 0))) (hi : cs.size = 3) :
    (results Try.f51 tmps).run Try.prog W' = .ok (.tuple #[.agg cs, b]) W' := by
  have h4' : tmps[4]?.getD undef = .pointer (some ⟨g, 0, none⟩) := by simpa using h4
  have h5' : tmps[5]?.getD undef = b := by simpa using h5
  have hs : (Try.prog.info? 93).map (·.size) = some cs.size := by rw [hi]; kernel_rfl
  simp [results, Try.results51, h4', h5', asAddr, run_loadVar_row W' g 93 93 cs (0, 0) _ hg Try.underlying93 rfl hs]
theorem get_nil (key : ByteArray) (w : World) : Calls Try.prog 51 #[.pointer none, .string key] w fun e w' => e = .returned (.tuple #[.agg #[.string ⟨#[]⟩, .string ⟨#[]⟩, .bool false], .bool false]) ∧ Below w.heap.size w w' := by
  have hp := (Hp.none_ w []).alloc #[.string ⟨#[]⟩, .string ⟨#[]⟩, .bool false] 93
  have x0 := hp.cell (i := 0) rfl 0; have x1 := hp.cell (i := 0) rfl 1; have x2 := hp.cell (i := 0) rfl 2
  have f0 := hp.free (i := 0) rfl 0; have f1 := hp.free (i := 0) rfl 1; have f2 := hp.free (i := 0) rfl 2
  simp at x0 x1 x2
  have hq := Lib.hid hp
  clear hp
  go_enter Try.func51, Try.ntmps51
  go_wp2
  exact bodyPost_ret (get_results _ _ w.heap.size #[.string ⟨#[]⟩, .string ⟨#[]⟩, .bool false] _ rfl rfl (hq.out.box (i := 0) rfl) rfl) rfl ⟨rfl, hq.out.bel⟩
def zCh : Ch := ⟨⟨#[]⟩, ⟨#[]⟩, false⟩
def getC (key : ByteArray) (L : List Ch) : Ch := if atB key L then (L[pos key L]?).getD zCh else zCh
set_option maxHeartbeats 2000000 in
theorem get_any (d : Nat) (key : ByteArray) (v : Value) (L : List Ch) (w : World) (hd : w.heap[d]? = some (.cells #[v] 144 (0, 0))) (h : w.ownsRow 0 93 3 v L.length (chC L)) (hs : Srt L) (hn : L.length ≤ 100000) :
    Calls Try.prog 51 #[.pointer (some ⟨d, 0, none⟩), .string key] w fun e w' => e = .returned (.tuple #[(getC key L).a, .bool (atB key L)]) ∧ Below w.heap.size w w' := by
  have hp := (Hp.none_ w []).alloc #[.string ⟨#[]⟩, .string ⟨#[]⟩, .bool false] 93
  have hb1 := hp.bel
  have hd1 := (hb1.block _ (block_lt hd)).trans hd
  have h1 := rowBelow h hb1
  obtain ⟨W, hW⟩ : ∃ W, W = w.alloc (.cells #[.string ⟨#[]⟩, .string ⟨#[]⟩, .bool false] 93) := ⟨_, rfl⟩
  rw [← hW] at hp hb1 hd1 h1
  have hpl := place_any d key v L W hd1 (Sl.ofRow h1 (by omega)) hn hs
  have hdl := block_lt hd1
  have hde : d ≠ w.heap.size := by have := block_lt hd; omega
  obtain ⟨P, hP⟩ : ∃ P, P = pos key L := ⟨_, rfl⟩
  have hPl : P ≤ L.length := by rw [hP]; exact pos_le _ _
  rw [← hP] at hpl
  obtain ⟨ad, cp, rfl⟩ := rowShape h
  obtain ⟨n, hln⟩ : ∃ n, n = L.length := ⟨_, rfl⟩
  have hat0 : atB key L = match L[P]? with | some x => eqB x.k key | none => false := by rw [hP]; rfl
  have hgc : getC key L = if atB key L then (L[P]?).getD zCh else zCh := by rw [hP]; rfl
  obtain ⟨B, hB⟩ : ∃ B, B = atB key L := ⟨_, rfl⟩
  obtain ⟨C, hC⟩ : ∃ C, C = getC key L := ⟨_, rfl⟩
  rw [← hB, ← hC]
  rw [← hB] at hat0
  rw [← hB, ← hC] at hgc
  rw [← hln] at hd1 h1 hPl
  have hp1 := Lib.hid hp; have hq1 := Lib.hid hd1; have hr1 := Lib.hid h1; have hl1 := Lib.hid hpl
  clear hp hpl hd1 h1 hd h hP hs hB hC
  by_cases hlt : P < n
  · obtain ⟨x, hx⟩ : ∃ x, L[P]? = some x := ⟨_, List.getElem?_eq_getElem (by omega)⟩
    rw [hx] at hat0 hgc
    simp only at hat0
    rw [Option.getD_some] at hgc
    obtain ⟨b, cap, hv, _, _⟩ := hr1.out.form (by omega)
    injection hv with hv1 hv2 hv3
    subst hv1 hv3
    have hbl := rowLt hr1.out
    have g1 : (0 : Int) ≤ (P : Int) := by omega
    have g2 : (P : Int) < (n : Int) := by omega
    have g3 : ((P : Int) == (n : Int)) = false := by simp; omega
    replace hx := Lib.hid hx
    rw [hW] at hp1 hq1 hr1 hl1 hb1 hdl hbl
    replace hln := Lib.hid hln
    clear hW
    cases hq : eqB x.k key with
    | true =>
      have hq2 : (x.k.toList == key.toList) = true := hq
      have hq3 : (x.k.toList != key.toList) = false := by rw [bne, hq2]; rfl
      rw [hq] at hat0
      subst hat0
      rw [if_pos rfl] at hgc
      replace hgc := Lib.hid hgc
      clear hq hlt hn hPl
      go_enter Try.func51, Try.ntmps51
      go_wp2_with (go_at_call 97; (with_reducible refine (hl1.out).mono ?_); rintro e w1 ⟨rfl, b1⟩; replace hp1 := Lib.hid (hp1.out.below b1); replace hr1 := Lib.hid (rowBelow hr1.out b1); replace hq1 := Lib.hid ((b1.block _ hdl).trans hq1.out); have y := rowC hr1.out hx.out hln.out.symm; obtain ⟨y0, y1, y2⟩ := y; have d0 := cell_of_row _ _ 0 _ _ _ hq1.out; simp at d0; have x0 := hp1.out.cell (i := 0) rfl 0; have x1 := hp1.out.cell (i := 0) rfl 1; have x2 := hp1.out.cell (i := 0) rfl 2; have f0 := hp1.out.free (i := 0) rfl 0; have f1 := hp1.out.free (i := 0) rfl 1; have f2 := hp1.out.free (i := 0) rfl 2; simp at x0 x1 x2; clear b1)
      have hfin := ((hp1.out.put (i := 0) rfl 0 (.string x.k)).put (i := 0) rfl 1 (.string x.v)).put (i := 0) rfl 2 (.bool x.g)
      exact bodyPost_ret (get_results _ _ w.heap.size #[.string x.k, .string x.v, .bool x.g] _ rfl rfl (hfin.box (i := 0) rfl) rfl) rfl ⟨by rw [hgc.out]; rfl, hfin.bel⟩
    | false =>
      have hq2 : (x.k.toList == key.toList) = false := hq
      have hq3 : (x.k.toList != key.toList) = true := by rw [bne, hq2]; rfl
      rw [hq] at hat0
      subst hat0
      rw [if_neg (by decide)] at hgc
      replace hgc := Lib.hid hgc
      clear hq hlt hn hPl
      go_enter Try.func51, Try.ntmps51
      go_wp2_with (go_at_call 97; (with_reducible refine (hl1.out).mono ?_); rintro e w1 ⟨rfl, b1⟩; replace hp1 := Lib.hid (hp1.out.below b1); replace hr1 := Lib.hid (rowBelow hr1.out b1); replace hq1 := Lib.hid ((b1.block _ hdl).trans hq1.out); have y := rowC hr1.out hx.out hln.out.symm; obtain ⟨y0, y1, y2⟩ := y; have d0 := cell_of_row _ _ 0 _ _ _ hq1.out; simp at d0; have x0 := hp1.out.cell (i := 0) rfl 0; have x1 := hp1.out.cell (i := 0) rfl 1; have x2 := hp1.out.cell (i := 0) rfl 2; have f0 := hp1.out.free (i := 0) rfl 0; have f1 := hp1.out.free (i := 0) rfl 1; have f2 := hp1.out.free (i := 0) rfl 2; simp at x0 x1 x2; clear b1)
      have hfin := ((hp1.out.put (i := 0) rfl 0 (.string ⟨#[]⟩)).put (i := 0) rfl 1 (.string ⟨#[]⟩)).put (i := 0) rfl 2 (.bool false)
      exact bodyPost_ret (get_results _ _ w.heap.size #[.string ⟨#[]⟩, .string ⟨#[]⟩, .bool false] _ rfl rfl (hfin.box (i := 0) rfl) rfl) rfl ⟨by rw [hgc.out]; rfl, hfin.bel⟩
  · obtain rfl : P = n := by omega
    rw [List.getElem?_eq_none (by omega)] at hat0 hgc
    simp only at hat0
    subst hat0
    rw [if_neg (by decide)] at hgc
    replace hgc := Lib.hid hgc
    rw [hW] at hp1 hq1 hr1 hl1 hb1 hdl
    replace hln := Lib.hid hln
    clear hW hlt hn hPl
    go_enter Try.func51, Try.ntmps51
    go_wp2_with (go_at_call 97; (with_reducible refine (hl1.out).mono ?_); rintro e w1 ⟨rfl, b1⟩; replace hp1 := Lib.hid (hp1.out.below b1); replace hr1 := Lib.hid (rowBelow hr1.out b1); replace hq1 := Lib.hid ((b1.block _ hdl).trans hq1.out); have d0 := cell_of_row _ _ 0 _ _ _ hq1.out; simp at d0; have x0 := hp1.out.cell (i := 0) rfl 0; have x1 := hp1.out.cell (i := 0) rfl 1; have x2 := hp1.out.cell (i := 0) rfl 2; have f0 := hp1.out.free (i := 0) rfl 0; have f1 := hp1.out.free (i := 0) rfl 1; have f2 := hp1.out.free (i := 0) rfl 2; simp at x0 x1 x2; clear b1)
    have hfin := ((hp1.out.put (i := 0) rfl 0 (.string ⟨#[]⟩)).put (i := 0) rfl 1 (.string ⟨#[]⟩)).put (i := 0) rfl 2 (.bool false)
    exact bodyPost_ret (get_results _ _ w.heap.size #[.string ⟨#[]⟩, .string ⟨#[]⟩, .bool false] _ rfl rfl (hfin.box (i := 0) rfl) rfl) rfl ⟨by rw [hgc.out]; rfl, hfin.bel⟩
end Go.Proofs.Ytmfodnbhhfegeaa.delta
