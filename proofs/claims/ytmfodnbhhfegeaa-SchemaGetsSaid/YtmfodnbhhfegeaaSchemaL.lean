/- The law SchemaGets: whatever bytes come, they are indexes that may be, in order, and have these bytes; or the error. No condition. -/
import Derived.Test.YtmfodnbhhfegeaaSchemaG
import Derived.Test.YtmfodnbhhfegeaaSchema6
import Derived.Test.YtmfodnbhhfegeaaRegTwoN
import Derived.Deep.DeepCutAuto
import Derived.Laws.Rows
import Derived.StillTailTactics
namespace Go.Proofs.Ytmfodnbhhfegeaa.schema
open Go.RowKit
attribute [local go_sem ↓] Go.wp_at_zero Go.wp_at_succ
attribute [local go_sem] str_size str_bl str_append
set_option linter.unusedVariables false
set_option maxRecDepth 100000

theorem and_1' (x : Int) : bits .and .i64 x 1 = x % 2 := and_mask x 1 1 (by decide) (by decide)
def fewI (x : Ix) : Ix := if x.d % 8 = 7 then x else ⟨x.l % 8, x.k % 8, 1 + x.d % 2⟩
theorem fewI_wf (x : Ix) (h : x.wf) : (fewI x).wf := by
  unfold fewI
  split
  · exact h
  · refine ⟨?_, ?_, ?_⟩ <;> dsimp only <;> omega
theorem al2 (w : World) (A O : Obj) : ((w.alloc A).alloc O).heap[w.heap.size + 1]? = some O := by
  have := heap_alloc_new (w.alloc A) O
  simpa using this
theorem be2 (w : World) (A O : Obj) : Below w.heap.size w ((w.alloc A).alloc O) := ((Below.refl _ _).alloc (Nat.le_refl _) _).alloc (by simp) _
theorem few_any (x : Ix) (w : World) : Calls Try.prog 37 #[x.v] w fun e w' => e = .returned (fewI x).v ∧ Below w.heap.size w w' := by
  obtain ⟨l, k, d⟩ := x
  obtain ⟨L, hL, hL2⟩ : ∃ L : Nat, bits .and .i64 l 7 = (L : Int) ∧ l % 8 = (L : Int) := ⟨(l % 8).toNat, by rw [and_7]; omega, by omega⟩
  obtain ⟨K, hK, hK2⟩ : ∃ K : Nat, bits .and .i64 k 7 = (K : Int) ∧ k % 8 = (K : Int) := ⟨(k % 8).toNat, by rw [and_7]; omega, by omega⟩
  obtain ⟨D, hD, hD2⟩ : ∃ D : Nat, bits .and .i64 d 7 = (D : Int) ∧ d % 8 = (D : Int) := ⟨(d % 8).toNat, by rw [and_7]; omega, by omega⟩
  obtain ⟨M, hM, hM2, hM3⟩ : ∃ M : Nat, bits .and .i64 d 1 = (M : Int) ∧ d % 2 = (M : Int) ∧ M ≤ 1 := ⟨(d % 2).toNat, by rw [and_1']; omega, by omega, by omega⟩
  have hf : fewI ⟨l, k, d⟩ = if (D : Int) = 7 then ⟨l, k, d⟩ else ⟨L, K, 1 + M⟩ := by unfold fewI; simp only [hL2, hK2, hD2, hM2]
  have hw : IntKind.i64.wrap (1 + (M : Int)) = 1 + (M : Int) := by rw [IntKind.wrap_i64]; omega
  have hM0 : (0 : Int) ≤ (M : Int) := by omega
  have hM1 : (M : Int) ≤ 1 := by omega
  have hp := ((Hp.none_ w []).alloc #[.int .i64 l, .int .i64 k, .int .i64 d] 73).alloc #[.int .i64 0, .int .i64 0, .int .i64 0] 73
  rw [show (w.alloc (.cells #[.int .i64 l, .int .i64 k, .int .i64 d] 73)).heap.size = w.heap.size + 1 by simp] at hp
  have x0 := hp.cell (i := 1) rfl 0; have x1 := hp.cell (i := 1) rfl 1; have x2 := hp.cell (i := 1) rfl 2
  have f0 := hp.free (i := 0) rfl 0
  have y0 := hp.cell (i := 0) rfl 0; have y1 := hp.cell (i := 0) rfl 1; have y2 := hp.cell (i := 0) rfl 2
  simp at x0 x1 x2 y0 y1 y2
  have hb := hp.box (i := 0) rfl
  have hbe := hp.bel
  by_cases h7 : (D : Int) = 7
  · rw [hf, if_pos h7]
    have t1 : ((D : Int) == 7) = true := by simpa using h7
    replace hb := Lib.hid hb; replace hbe := Lib.hid hbe
    clear hf hp hL2 hK2 hD2 hM2 hM3 h7
    unfold Ix.v
    simp only
    go_enter Try.func37, Try.ntmps37
    go_wp2
    refine bodyPost_ret (v := .agg #[.int .i64 l, .int .i64 k, .int .i64 d]) (results_cell_row rfl _ _ (w.heap.size + 1) 73 #[.int .i64 l, .int .i64 k, .int .i64 d] (0, 0) _ rfl (al2 _ _ _) Try.underlying73 rfl (by kernel_rfl)) rfl ?_
    exact ⟨rfl, be2 _ _ _⟩
  · rw [hf, if_neg h7]
    have t1 : ((D : Int) == 7) = false := by simpa using h7
    replace hb := Lib.hid hb; replace hbe := Lib.hid hbe
    clear hf hp hL2 hK2 hD2 hM2 hM3 h7
    unfold Ix.v
    simp only
    go_enter Try.func37, Try.ntmps37
    go_wp2
    refine bodyPost_ret (v := .agg #[.int .i64 L, .int .i64 K, .int .i64 (1 + M)]) (results_cell_row rfl _ _ (w.heap.size + 1) 73 #[.int .i64 L, .int .i64 K, .int .i64 (1 + M)] (0, 0) _ rfl (al2 _ _ _) Try.underlying73 rfl (by kernel_rfl)) rfl ?_
    exact ⟨rfl, be2 _ _ _⟩
theorem lmay_any (x : Ix) (w : World) : Calls Try.prog 40 #[x.v] w fun e w' => e = .returned (.bool (mayB x)) ∧ Below w.heap.size w w' := by
  obtain ⟨l, k, d⟩ := x
  have hp := (Hp.none_ w []).alloc #[.int .i64 l, .int .i64 k, .int .i64 d] 73
  have x0 := hp.cell (i := 0) rfl 0; have x1 := hp.cell (i := 0) rfl 1; have x2 := hp.cell (i := 0) rfl 2
  simp at x0 x1 x2
  have hbe := hp.bel
  have hm : mayB ⟨l, k, d⟩ = decide (0 ≤ l ∧ l < 64 ∧ 0 ≤ k ∧ k < 64 ∧ (d = 1 ∨ d = 2)) := by
    unfold mayB nameB
    rw [Bool.eq_iff_iff]; simp only [Bool.and_eq_true, decide_eq_true_eq]; omega
  rw [hm]
  unfold Ix.v
  simp only
  replace hbe := Lib.hid hbe
  clear hp hm
  by_cases h1 : 0 ≤ l
  · by_cases h2 : l < 64
    · by_cases h3 : 0 ≤ k
      · by_cases h4 : k < 64
        · by_cases h5 : d = 1
          · have t5 : (d == 1) = true := by simpa using h5
            have hd : decide (0 ≤ l ∧ l < 64 ∧ 0 ≤ k ∧ k < 64 ∧ (d = 1 ∨ d = 2)) = true := decide_eq_true ⟨h1, h2, h3, h4, .inl h5⟩
            rw [hd]
            clear hd h5
            go_enter Try.func40, Try.ntmps40
            go_wp2
            go_ret
            exact ⟨rfl, hbe.out⟩
          · have t5 : (d == 1) = false := by simpa using h5
            obtain ⟨z, t6⟩ : ∃ z, (d == 2) = z := ⟨_, rfl⟩
            have hd : decide (0 ≤ l ∧ l < 64 ∧ 0 ≤ k ∧ k < 64 ∧ (d = 1 ∨ d = 2)) = z := by rw [← t6, Bool.eq_iff_iff]; simp; omega
            rw [hd]
            clear hd h5
            go_enter Try.func40, Try.ntmps40
            go_wp2
            go_ret
            exact ⟨rfl, hbe.out⟩
        · have hd : decide (0 ≤ l ∧ l < 64 ∧ 0 ≤ k ∧ k < 64 ∧ (d = 1 ∨ d = 2)) = false := decide_eq_false (by omega)
          rw [hd]
          clear hd
          go_enter Try.func40, Try.ntmps40
          go_wp2
          go_ret
          exact ⟨rfl, hbe.out⟩
      · have hd : decide (0 ≤ l ∧ l < 64 ∧ 0 ≤ k ∧ k < 64 ∧ (d = 1 ∨ d = 2)) = false := decide_eq_false (by omega)
        rw [hd]
        clear hd
        go_enter Try.func40, Try.ntmps40
        go_wp2
        go_ret
        exact ⟨rfl, hbe.out⟩
    · have hd : decide (0 ≤ l ∧ l < 64 ∧ 0 ≤ k ∧ k < 64 ∧ (d = 1 ∨ d = 2)) = false := decide_eq_false (by omega)
      rw [hd]
      clear hd
      go_enter Try.func40, Try.ntmps40
      go_wp2
      go_ret
      exact ⟨rfl, hbe.out⟩
  · have hd : decide (0 ≤ l ∧ l < 64 ∧ 0 ≤ k ∧ k < 64 ∧ (d = 1 ∨ d = 2)) = false := decide_eq_false (by omega)
    rw [hd]
    clear hd
    go_enter Try.func40, Try.ntmps40
    go_wp2
    go_ret
    exact ⟨rfl, hbe.out⟩

/-- what a law's indexes are, the first so many -/
theorem arg_list {w : World} {a : Option Addr} {len : Nat} (h : SliceArg w a len 3 (fun _ v => ∃ x, v = .int .i64 x ∧ (Lit.int .i64 x).wf = true)) (k : Nat) (hk : k ≤ len) :
    ∃ X : List Ix, X.length = k ∧ (∀ x ∈ X, x.wf) ∧ ∀ (i : Nat) (x : Ix), X[i]? = some x → ∃ b o, a = some ⟨b, o, none⟩ ∧ b < w.heap.size ∧ w.cell? ⟨b, o + i * 3, none⟩ = some (.int .i64 x.l) ∧ w.cell? ⟨b, o + i * 3 + 1, none⟩ = some (.int .i64 x.k) ∧ w.cell? ⟨b, o + i * 3 + 2, none⟩ = some (.int .i64 x.d) := by
  obtain ⟨X, hX, hR⟩ := list_of (fun i (x : Ix) => x.wf ∧ ∃ b o, a = some ⟨b, o, none⟩ ∧ b < w.heap.size ∧ w.cell? ⟨b, o + i * 3, none⟩ = some (.int .i64 x.l) ∧ w.cell? ⟨b, o + i * 3 + 1, none⟩ = some (.int .i64 x.k) ∧ w.cell? ⟨b, o + i * 3 + 2, none⟩ = some (.int .i64 x.d)) k (fun i hi => by
    obtain ⟨_, h2⟩ := h
    obtain ⟨b, o, ha, hb, hc⟩ := h2.resolve_left (by omega)
    obtain ⟨v0, c0, x0, rfl, w0⟩ := hc i (by omega) 0 (by omega)
    obtain ⟨v1, c1, x1, rfl, w1⟩ := hc i (by omega) 1 (by omega)
    obtain ⟨v2, c2, x2, rfl, w2⟩ := hc i (by omega) 2 (by omega)
    exact ⟨⟨x0, x1, x2⟩, ⟨of_wf_i64 w0, of_wf_i64 w1, of_wf_i64 w2⟩, b, o, ha, hb, by simpa using c0, c1, c2⟩)
  refine ⟨X, hX, fun x hx => ?_, fun i x hi => (hR i x hi).2⟩
  obtain ⟨i, hi⟩ := List.mem_iff_getElem?.1 hx
  exact (hR i x hi).1
theorem rawB_len (x : Ix) : (bitsB x.l).length ≤ 10 ∧ (bitsB x.k).length ≤ 10 ∧ (bitsB x.d).length ≤ 10 :=
  ⟨code.numL_len64 _ (by omega), code.numL_len64 _ (by omega), code.numL_len64 _ (by omega)⟩
theorem flat_raw_len : ∀ l : List Ix, (l.flatMap rawB).length ≤ l.length * 30
  | [] => by simp
  | x :: l => by
    rw [List.flatMap_cons, List.length_append, List.length_cons]
    have := rawB_len x; have := flat_raw_len l
    simp only [rawB, List.length_append]; omega
theorem bits_num (n : Int) (W : World) : ∃ u : Nat, IntKind.u64.wrap n = (u : Int) ∧ ∀ W, Calls Try.prog 34 #[.int .u64 (u : Int)] W fun e w' => e = .returned (.string (str (bitsB n))) ∧ Below W.heap.size W w' :=
  ⟨(n % 18446744073709551616).toNat, by rw [IntKind.wrap_u64]; omega, fun W => code.refNum_any _ (by omega) W⟩
theorem cut_min3 (s : ByteArray) : s.extract 0 (min (s.size : Int) 3).toNat = str (s.data.toList.take 3) := by
  have hl : s.data.toList.length = s.size := by rw [Array.length_toList]; rfl
  rw [cut_text]
  congr 1
  rw [List.take_eq_take_iff]; omega
structure All7 (l : Array Bool) : Prop where
  h0 : has l 0
  h1 : has l 1
  h2 : has l 2
  h3 : has l 3
  h6 : has l 6
  h7 : has l 7
  h8 : has l 8
theorem All7.mono {l : Array Bool} {i : Nat} (h : All7 l) : All7 (l.setIfInBounds i true) :=
  ⟨getD_set_true h.h0, getD_set_true h.h1, getD_set_true h.h2, getD_set_true h.h3, getD_set_true h.h6, getD_set_true h.h7, getD_set_true h.h8⟩
set_option maxHeartbeats 16000000 in
theorem schemaGets_of (hgetA : ∀ (s : ByteArray) (w : World), Calls Try.prog 44 #[.string s] w (GetRet w (getL s.data.toList))) (a0 : Option Addr) (len0 cap0 : Nat) (a1 : ByteArray) (w : World) (w0 : SliceArg w a0 len0 3 (fun _ v => ∃ x, v = .int .i64 x ∧ (Lit.int .i64 x).wf = true)) (w1 : a1.size ≤ maxLen) :
    Calls Try.prog 8 #[.slice a0 len0 cap0, .string a1] w fun e w' => e = .returned (.bool true) ∧ Below w.heap.size w w' := by
  obtain ⟨k, hk⟩ : ∃ k, k = min len0 9 := ⟨_, rfl⟩
  obtain ⟨X, hX, hwf, hcell⟩ := arg_list w0 k (by omega)
  obtain ⟨Y, hY⟩ : ∃ Y, Y = X.map fewI := ⟨_, rfl⟩
  have hYl : Y.length = k := by rw [hY, List.length_map, hX]
  have hYwf : ∀ x ∈ Y, x.wf := by
    rw [hY]; intro y hy
    obtain ⟨x, hx, rfl⟩ := List.mem_map.1 hy
    exact fewI_wf x (hwf x hx)
  obtain ⟨B3, hB3⟩ : ∃ B3, B3 = a1.data.toList.take 3 := ⟨_, rfl⟩
  have hB3l : B3.length ≤ 3 := by rw [hB3, List.length_take]; omega
  have hB3n : B3 = [] ↔ a1 = ⟨#[]⟩ := by
    rw [hB3]
    constructor
    · intro h
      have hl : a1.data.toList.length = 0 := by
        have := congrArg List.length h
        rw [List.length_take] at this; simp at this ⊢
        exact this
      obtain ⟨d⟩ := a1
      congr 1
      exact Array.eq_empty_of_size_eq_zero (by simpa using hl)
    · rintro rfl; rfl
  have hx3 : a1.extract 0 (min (a1.size : Int) 3).toNat = str B3 := by rw [hB3]; exact cut_min3 a1
  obtain ⟨S, hS⟩ : ∃ S, S = code.numL k ++ Y.flatMap rawB ++ B3 := ⟨_, rfl⟩
  obtain ⟨⟨Rl, Re⟩, hR⟩ : ∃ R, R = getL S := ⟨_, rfl⟩
  have hfit := getL_raw Y B3 (by omega) hYwf
  rw [hYl, ← hS, ← hR, okFrom_split] at hfit
  have hA : Re = 0 → Rl = Y ∧ allMay Y = true ∧ riseB Y = true ∧ a1 = ⟨#[]⟩ ∧ putB Y = S := by
    intro h0
    by_cases hg : (allMay Y && riseB Y) = true ∧ B3 = []
    · have h1 := hfit.1 hg
      injection h1 with h1 _
      obtain ⟨g1, g2⟩ := hg
      have g3 := g1
      rw [Bool.and_eq_true] at g1
      refine ⟨h1, g1.1, g1.2, hB3n.1 g2, ?_⟩
      rw [put_raw Y (by rw [okFrom_split]; exact g3), hS, g2, hYl, List.append_nil]
    · obtain ⟨e, he, h1⟩ := hfit.2 hg
      injection h1 with _ h1
      exact absurd (h1.symm.trans h0) he
  have hBd : Re ≠ 0 → Rl = [] ∧ (a1 ≠ ⟨#[]⟩ ∨ riseB Y = false ∨ allMay Y = false) := by
    intro h0
    by_cases hg : (allMay Y && riseB Y) = true ∧ B3 = []
    · have h1 := hfit.1 hg
      injection h1 with _ h1
      exact absurd h1 h0
    · obtain ⟨e, he, h1⟩ := hfit.2 hg
      injection h1 with h1 _
      refine ⟨h1, ?_⟩
      by_cases q1 : a1 = ⟨#[]⟩
      · right
        have := fun g => hg ⟨g, hB3n.2 q1⟩
        cases h3 : riseB Y with
        | false => exact .inl rfl
        | true => right; cases h4 : allMay Y with
          | false => rfl
          | true => rw [h3, h4] at this; exact absurd rfl this
      · exact .inl q1
  have hSl : S.length ≤ 1000 := by
    have h1 := code.numL_len64 k (by omega); have h2 := flat_raw_len Y
    rw [hS]; simp only [List.length_append]; omega
  have hget : ∀ W, Calls Try.prog 44 #[.string (str S)] W (GetRet W (Rl, Re)) := fun W => by have := hgetA (str S) W; rw [str_toList, ← hR] at this; exact this
  have hput : ∀ v W, Sl W v Y.length (ixCells Y) → Calls Try.prog 45 #[v] W fun e w' => e = .returned (.string (str (putB Y))) ∧ Below W.heap.size W w' := fun v W h => put_any v Y W h (by omega) hYwf
  have hnum : ∀ W, Calls Try.prog 34 #[.int .u64 (k : Int)] W fun e w' => e = .returned (.string (str (code.numL k))) ∧ Below W.heap.size W w' := fun W => code.refNum_any k (by omega) W
  have hkw : IntKind.u64.wrap (k : Int) = (k : Int) := IntWalk.u64_in _ (by omega)
  have hmin : min (len0 : Int) 9 = (k : Int) := by omega
  have hnl := code.numL_len64 k (by omega)
  have m1 : (0 : Int) ≤ min (a1.size : Int) 3 := by omega
  have m2 : min (a1.size : Int) 3 ≤ (a1.size : Int) := by omega
  have hfl := fun i => flat_raw_len (Y.take i)
  have hnext := fun i x (h : Y[i]? = some x) => flat_take rawB Y i x h
  have hstep : ∀ i x, X[i]? = some x → Y[i]? = some (fewI x) := fun i x h => by rw [hY, List.getElem?_map, h]; rfl
  have hb0 := Below.refl w.heap.size w
  replace hb0 := Lib.hid hb0; replace hk := Lib.hid hk; replace hX := Lib.hid hX; replace hwf := Lib.hid hwf; replace hcell := Lib.hid hcell; replace hY := Lib.hid hY; replace hYl := Lib.hid hYl; replace hYwf := Lib.hid hYwf; replace hB3l := Lib.hid hB3l; replace hS := Lib.hid hS; replace hA := Lib.hid hA; replace hBd := Lib.hid hBd; replace hSl := Lib.hid hSl; replace hget := Lib.hid hget; replace hput := Lib.hid hput; replace hnum := Lib.hid hnum; replace hnl := Lib.hid hnl; replace hfl := Lib.hid hfl; replace hnext := Lib.hid hnext; replace hstep := Lib.hid hstep
  clear hR hfit hB3n hB3 w0 w1 hgetA
  go_enter Try.func8, Try.ntmps8
  go_wp2_with (go_at_call 34; (with_reducible refine (hnum.out _).mono ?_); rintro e w1 ⟨rfl, b1⟩; replace hb0 := Lib.hid (belowCont hb0.out b1); clear b1)
  go_loopg [5, 6] k (fun gn s5 s6 wr => ∃ i : Nat, s6 = .int .i64 (i : Int) ∧ i + gn = k ∧ s5 = .string (str (code.numL k ++ (Y.take i).flatMap rawB)) ∧ Below w.heap.size w wr)
  case atStart => exact ⟨0, rfl, by omega, by simp, hb0.out⟩
  case round =>
    clear hb0
    obtain ⟨i, rfl, hik, rfl, hb⟩ := hrel
    by_cases hi : i < k
    · obtain ⟨K, rfl⟩ : ∃ K : Nat, gk = K + 1 := ⟨gk - 1, by omega⟩
      obtain ⟨x, hx⟩ : ∃ x, X[i]? = some x := ⟨_, List.getElem?_eq_getElem (by have := hX.out; omega)⟩
      obtain ⟨b, o, rfl, hbl, c0, c1, c2⟩ := hcell.out i x hx
      have hyx := hstep.out i x hx
      have hnx := hnext.out i _ hyx
      have hfx := fun W => few_any x W
      have hPl : (code.numL k ++ (Y.take i).flatMap rawB).length ≤ 1000 := by
        have h1 := hnl.out; have h2 := hfl.out i
        have h3 : (Y.take i).length ≤ i := List.length_take_le _ _
        rw [List.length_append]; have := hk.out; omega
      generalize fewI x = y at *
      obtain ⟨xl, xk, xd⟩ := x
      obtain ⟨yl, yk, yd⟩ := y
      unfold Ix.v at hfx
      simp only at hfx c0 c1 c2
      have d0 : wr.cell? ⟨b, o + i * 3, none⟩ = some (.int .i64 xl) := (hb.cell hbl).trans c0
      have d1 : wr.cell? ⟨b, o + i * 3 + 1, none⟩ = some (.int .i64 xk) := (hb.cell hbl).trans c1
      have d2 : wr.cell? ⟨b, o + i * 3 + 2, none⟩ = some (.int .i64 xd) := (hb.cell hbl).trans c2
      have i0 : (0 : Int) ≤ (i : Int) := by omega
      have i1 : (i : Int) < (len0 : Int) := by have := hk.out; omega
      have i2 : (i : Int) < 9 := by have := hk.out; omega
      obtain ⟨u1, hu1, f1⟩ := bits_num yl w
      obtain ⟨u2, hu2, f2⟩ := bits_num yk w
      obtain ⟨u3, hu3, f3⟩ := bits_num yd w
      have hrl := rawB_len ⟨yl, yk, yd⟩
      have hraw : rawB ⟨yl, yk, yd⟩ = bitsB yl ++ bitsB yk ++ bitsB yd := rfl
      rw [hraw] at hnx
      simp only at hrl
      obtain ⟨l1, l2, l3⟩ := hrl
      generalize bitsB yl = B1 at *
      generalize bitsB yk = B2 at *
      generalize bitsB yd = B4 at *
      obtain ⟨P, hP⟩ : ∃ P, P = code.numL k ++ (Y.take i).flatMap rawB := ⟨_, rfl⟩
      rw [← hP] at hPl ⊢
      have r1 : ¬ 9223372036854775807 < B1.length + B2.length := by omega
      have r2 : ¬ 9223372036854775807 < B1.length + B2.length + B4.length := by omega
      have r2' : ¬ 9223372036854775807 < (B1 ++ B2).length + B4.length := by rw [List.length_append]; omega
      have r3 : ¬ 9223372036854775807 < P.length + (B1 ++ B2 ++ B4).length := by simp only [List.length_append]; omega
      have r4 : ¬ 9223372036854775807 < P.length + (B1.length + B2.length + B4.length) := by omega
      have r5 : ¬ 9223372036854775807 < P.length + (B1.length + (B2.length + B4.length)) := by omega
      replace hb := Lib.hid hb; replace hP := Lib.hid hP; replace hnx := Lib.hid hnx; replace hfx := Lib.hid hfx; replace f1 := Lib.hid f1; replace f2 := Lib.hid f2; replace f3 := Lib.hid f3; replace hik := Lib.hid hik
      clear hx c0 c1 c2 hyx hPl hi hraw l1 l2 l3
      go_upto_region 6 with (go_at_call 37; (with_reducible refine (hfx.out _).mono ?_); rintro e w2 ⟨rfl, b2⟩; have hp2 := Lib.hid (((Hp.none_ w []).below (belowCont hb.out b2)).alloc #[.int .i64 yl, .int .i64 yk, .int .i64 yd] 73); clear b2)
      clear d0 d1 d2
      generalize w2.alloc _ = W at hp2 ⊢
      generalize w2.heap.size = q at hp2 ⊢
      have d0 := hp2.out.cell (i := 0) rfl 0; have d1 := hp2.out.cell (i := 0) rfl 1; have d2 := hp2.out.cell (i := 0) rfl 2
      simp at d0 d1 d2
      go_region_with (go_at_call 34; (first | (with_reducible refine (f1.out _).mono ?_) | (with_reducible refine (f2.out _).mono ?_) | (with_reducible refine (f3.out _).mono ?_)); rintro e w1 ⟨rfl, b1⟩; (first | replace hp2 := Lib.hid (hp2.out.below b1) | replace hp2 := Lib.hid (hp2.out.drew.below b1)); clear b1; have d0 := hp2.out.cell (i := 0) rfl 0; have d1 := hp2.out.cell (i := 0) rfl 1; have d2 := hp2.out.cell (i := 0) rfl 2; simp at d0 d1 d2)
      all_goals
        go_wp2
        go_roundg K
        case measure => have := hik.out; omega
        case rel => exact ⟨i + 1, by go_num, by have := hik.out; omega, by rw [hnx.out, hP.out]; simp [List.append_assoc], hp2.out.bel⟩
    · have hk0 : gk = 0 := by omega
      subst hk0
      obtain rfl : i = k := by omega
      rw [List.take_of_length_le (by have := hYl.out; omega)]
      have hcase : ((i : Int) < (len0 : Int) ∧ ¬ (i : Int) < 9) ∨ ¬ (i : Int) < (len0 : Int) := by have := hk.out; omega
      have hPS : code.numL i ++ Y.flatMap rawB ++ B3 = S := by rw [hS.out]
      have hroom : ¬ 9223372036854775807 < (code.numL i ++ Y.flatMap rawB).length + B3.length := by
        have := congrArg List.length hPS
        rw [List.length_append] at this
        have := hSl.out; omega
      have hgetB := hget.out
      unfold GetRet RowRet at hgetB
      simp only at hgetB
      generalize code.numL i ++ Y.flatMap rawB = P at *
      replace hgetB := Lib.hid hgetB; replace hb := Lib.hid hb
      clear hget hnum hi
      rcases hcase with ⟨g1, g2⟩ | g1
      all_goals
        go_upto_region 9 with (go_at_call 44; (with_reducible refine (hgetB.out _).mono ?_); rintro e w3 ⟨v, rfl, ⟨ad, cp, rfl⟩, hrow⟩; replace hb := Lib.hid (belowCont hb.out hrow.bel); replace hrow := Lib.hid hrow)
        obtain ⟨W0, h0⟩ : ∃ W0, Hp W0 [] [.row 73 3 (.slice ad Rl.length cp) Rl.length (ixCells Rl)] w3 := ⟨_, hrow.out⟩
        clear hrow
        have hW := hb.out
        clear g1
        go_wp2
        go_loopg [10, 11, 12] i (fun gn s10 s11 s12 wr => ∃ j : Nat, s12 = .int .i64 (j : Int) ∧ j + gn = i ∧ s10 = .bool (riseB (Y.take j)) ∧ s11 = .bool (allMay (Y.take j)) ∧ Below w.heap.size w wr ∧ Hp W0 [] [.row 73 3 (.slice ad Rl.length cp) Rl.length (ixCells Rl)] wr)
        case atStart => exact ⟨0, rfl, by omega, rfl, rfl, hW, h0⟩
        case round =>
          clear hW h0 hb
          obtain ⟨j, rfl, hji, rfl, rfl, hb, h0⟩ := hrel
          by_cases hj : j < i
          · obtain ⟨K, rfl⟩ : ∃ K : Nat, gk = K + 1 := ⟨gk - 1, by omega⟩
            obtain ⟨x, hx⟩ : ∃ x, X[j]? = some x := ⟨_, List.getElem?_eq_getElem (by have := hX.out; omega)⟩
            obtain ⟨b, o, rfl, hbl, c0, c1, c2⟩ := hcell.out j x hx
            have hyx := hstep.out j x hx
            have hfx := fun W => few_any x W
            have hmx := fun W => lmay_any (fewI x) W
            obtain ⟨y, hy⟩ : ∃ y, y = fewI x := ⟨_, rfl⟩
            rw [← hy] at hfx hmx hyx
            have hall : allMay (Y.take (j + 1)) = (allMay (Y.take j) && mayB y) := by
              unfold allMay
              rw [List.take_add_one, hyx]; simp
            have hprev : 0 < j → ∃ p x', j = p + 1 ∧ X[p]? = some x' ∧ riseB (Y.take (j + 1)) = (riseB (Y.take j) && lessB (fewI x') y) := fun h => by
              obtain ⟨x', hx'⟩ : ∃ x, X[j - 1]? = some x := ⟨_, List.getElem?_eq_getElem (by have := hX.out; omega)⟩
              have hy' := hstep.out _ _ hx'
              refine ⟨j - 1, x', by omega, hx', ?_⟩
              rw [List.take_add_one, hyx]
              refine rise_snoc _ _ _ ?_
              rw [List.getLast?_take]
              rw [if_neg (by omega), hy']; rfl
            have hfirst : j = 0 → riseB (Y.take (j + 1)) = true ∧ riseB (Y.take j) = true := fun h => by
              subst h
              rw [List.take_add_one, hyx]; exact ⟨rfl, rfl⟩
            clear hy
            obtain ⟨xl, xk, xd⟩ := x
            obtain ⟨yl, yk, yd⟩ := y
            unfold Ix.v at hfx hmx
            simp only at hfx hmx c0 c1 c2
            have d0 : wr.cell? ⟨b, o + j * 3, none⟩ = some (.int .i64 xl) := (hb.cell hbl).trans c0
            have d1 : wr.cell? ⟨b, o + j * 3 + 1, none⟩ = some (.int .i64 xk) := (hb.cell hbl).trans c1
            have d2 : wr.cell? ⟨b, o + j * 3 + 2, none⟩ = some (.int .i64 xd) := (hb.cell hbl).trans c2
            have i0 : (0 : Int) ≤ (j : Int) := by omega
            have i1 : (j : Int) < (len0 : Int) := by have := hk.out; omega
            have i2 : (j : Int) < 9 := by have := hk.out; omega
            obtain ⟨z, hz⟩ : ∃ z, z = mayB ⟨yl, yk, yd⟩ := ⟨_, rfl⟩
            obtain ⟨ok, hok⟩ : ∃ ok, ok = allMay (Y.take j) := ⟨_, rfl⟩
            rw [← hz] at hmx hall
            rw [← hok] at hall ⊢
            replace hb := Lib.hid hb; replace h0 := Lib.hid h0; replace hfx := Lib.hid hfx; replace hmx := Lib.hid hmx; replace hall := Lib.hid hall; replace hprev := Lib.hid hprev; replace hfirst := Lib.hid hfirst; replace hji := Lib.hid hji
            clear hx hyx hz hok
            go_upto_region 13 with fail
            go_cut [11] (fun s11 wx => s11 = .bool (ok && z) ∧ Below w.heap.size w wx ∧ Hp W0 [] [.row 73 3 (.slice ad Rl.length cp) Rl.length (ixCells Rl)] wx)
            case first =>
              cases ok with
              | false =>
                go_wp2_with fail
                go_meet
                exact ⟨rfl, hb.out, h0.out⟩
              | true =>
                go_wp2_with (first
                  | (go_at_call 37; (with_reducible refine (hfx.out _).mono ?_); rintro e w4 ⟨rfl, b4⟩; replace hb := Lib.hid (belowCont hb.out b4); replace h0 := Lib.hid (h0.out.below b4); clear b4)
                  | (go_at_call 40; (with_reducible refine (hmx.out _).mono ?_); rintro e w4 ⟨rfl, b4⟩; replace hb := Lib.hid (belowCont hb.out b4); replace h0 := Lib.hid (h0.out.below b4); clear b4))
                go_meet
                exact ⟨by simp, hb.out, h0.out⟩
            case rest =>
              obtain ⟨rfl, hb1, h1⟩ := hcut
              clear hb h0 d0 d1 d2
              have k3 : IntKind.i64.wrap ((j : Int) + 1) = (j : Int) + 1 := by rw [IntKind.wrap_i64]; omega
              by_cases hj0 : j = 0
              · obtain ⟨q1, q2⟩ := hfirst.out hj0
                have j0 : ¬ (0 : Int) < (j : Int) := by omega
                have hf := Lib.hid hall.out
                replace q1 := Lib.hid q1; replace q2 := Lib.hid q2; replace hb1 := Lib.hid hb1; replace h1 := Lib.hid h1
                clear hj0 hfirst hprev hall hj
                go_wp2
                go_roundg K
                case measure => have := hji.out; omega
                case rel => exact ⟨j + 1, by go_num, by have := hji.out; omega, by rw [q1.out, q2.out], by rw [hf.out], hb1.out, h1.out⟩
              · obtain ⟨p, x', hjp, hx', hri⟩ := hprev.out (by omega)
                obtain ⟨b', o', hbo, hbl', c0', c1', c2'⟩ := hcell.out p x' hx'
                simp only [Option.some.injEq, Addr.mk.injEq, and_true] at hbo
                obtain ⟨rfl, rfl⟩ := hbo
                have hfx' := fun W => few_any x' W
                obtain ⟨y', hy'⟩ : ∃ y, y = fewI x' := ⟨_, rfl⟩
                rw [← hy'] at hri hfx'
                clear hy'
                obtain ⟨xl', xk', xd'⟩ := x'
                obtain ⟨yl', yk', yd'⟩ := y'
                unfold Ix.v at hfx'
                simp only at hfx' c0' c1' c2'
                have d0 : wc.cell? ⟨b, o + j * 3, none⟩ = some (.int .i64 xl) := (hb1.cell hbl).trans c0
                have d1 : wc.cell? ⟨b, o + j * 3 + 1, none⟩ = some (.int .i64 xk) := (hb1.cell hbl).trans c1
                have d2 : wc.cell? ⟨b, o + j * 3 + 2, none⟩ = some (.int .i64 xd) := (hb1.cell hbl).trans c2
                have d0' : wc.cell? ⟨b, o + p * 3, none⟩ = some (.int .i64 xl') := (hb1.cell hbl).trans c0'
                have d1' : wc.cell? ⟨b, o + p * 3 + 1, none⟩ = some (.int .i64 xk') := (hb1.cell hbl).trans c1'
                have d2' : wc.cell? ⟨b, o + p * 3 + 2, none⟩ = some (.int .i64 xd') := (hb1.cell hbl).trans c2'
                have j0 : (0 : Int) < (j : Int) := by omega
                have jd : decide (0 < j) = true := decide_eq_true (by omega)
                have p0 : (0 : Int) ≤ (p : Int) := by omega
                have p1 : (p : Int) < (len0 : Int) := by omega
                have jp : (1 : Int) ≤ (j : Int) := by omega
                have jp4 : (j : Int) - 1 < (len0 : Int) := by omega
                have jp3 : IntKind.i64.wrap (p : Int) = (p : Int) := by rw [IntKind.wrap_i64]; omega
                have jp2 : IntKind.i64.wrap ((j : Int) - 1) = (p : Int) := by rw [IntKind.wrap_i64]; omega
                replace hri := Lib.hid hri; replace hb1 := Lib.hid hb1; replace h1 := Lib.hid h1; replace hfx' := Lib.hid hfx'
                clear hj0 hfirst hprev hjp hx' hj
                go_upto_region 15 with fail
                go_cut [13, 14] from 84 to 94 (fun p13 p14 wx => ∃ g h : Nat, p13 = .pointer (some ⟨g, 0, none⟩) ∧ p14 = .pointer (some ⟨h, 0, none⟩) ∧ wx.heap[g]? = some (.cells #[.int .i64 yl', .int .i64 yk', .int .i64 yd'] 73 (0, 0)) ∧ wx.heap[h]? = some (.cells #[.int .i64 yl, .int .i64 yk, .int .i64 yd] 73 (0, 0)) ∧ Below w.heap.size w wx ∧ Hp W0 [] [.row 73 3 (.slice ad Rl.length cp) Rl.length (ixCells Rl)] wx)
                case first =>
                  have hcs : ∀ W', Below wc.heap.size wc W' → W'.cell? ⟨b, o + j * 3, none⟩ = some (.int .i64 xl) ∧ W'.cell? ⟨b, o + j * 3 + 1, none⟩ = some (.int .i64 xk) ∧ W'.cell? ⟨b, o + j * 3 + 2, none⟩ = some (.int .i64 xd) ∧ W'.cell? ⟨b, o + p * 3, none⟩ = some (.int .i64 xl') ∧ W'.cell? ⟨b, o + p * 3 + 1, none⟩ = some (.int .i64 xk') ∧ W'.cell? ⟨b, o + p * 3 + 2, none⟩ = some (.int .i64 xd') := fun W' k => by
                    have hbw : b < wc.heap.size := Nat.lt_of_lt_of_le hbl hb1.out.size
                    exact ⟨(k.cell (p := ⟨b, o + j * 3, none⟩) hbw).trans d0, (k.cell (p := ⟨b, o + j * 3 + 1, none⟩) hbw).trans d1, (k.cell (p := ⟨b, o + j * 3 + 2, none⟩) hbw).trans d2, (k.cell (p := ⟨b, o + p * 3, none⟩) hbw).trans d0', (k.cell (p := ⟨b, o + p * 3 + 1, none⟩) hbw).trans d1', (k.cell (p := ⟨b, o + p * 3 + 2, none⟩) hbw).trans d2'⟩
                  replace hcs := Lib.hid hcs
                  clear d0 d1 d2 d0' d1' d2'
                  refine wp_region_any (by kernel_rfl) ?_
                  (try (change wpAny _ _ _ _ _ _ _ (World.drew _)))
                  (refine wpAny_take (i := 0) (oi := _) (v := ?_) rfl (by kernel_rfl) (by kernel_rfl) (by kernel_rfl) (fun _ _ _ h => h) (Or.inl ⟨by rfl, ?_⟩) ?_; rotate_left; (focus (intro w0; go_simp; (try with_reducible rfl); done)); (try simp only [Act.put, List.getElem_toArray, List.getElem_cons_zero, List.getElem_cons_succ, List.setIfInBounds_toArray, List.set_cons_zero, List.set_cons_succ]))
                  (refine wpAny_take (i := 1) (oi := _) (v := ?_) rfl (by kernel_rfl) (by kernel_rfl) (by kernel_rfl) (fun _ _ _ h => h) (Or.inl ⟨by rfl, ?_⟩) ?_; rotate_left; (focus (intro w0; go_simp; (try with_reducible rfl); done)); (try simp only [Act.put, List.getElem_toArray, List.getElem_cons_zero, List.getElem_cons_succ, List.setIfInBounds_toArray, List.set_cons_zero, List.set_cons_succ]))
                  (refine wpAny_take (i := 2) (oi := _) (v := ?_) rfl (by kernel_rfl) (by kernel_rfl) (by kernel_rfl) (fun _ _ _ h => h) (Or.inl ⟨by rfl, ?_⟩) ?_; rotate_left; (focus (intro w0; go_simp; (try with_reducible rfl); done)); (try simp only [Act.put, List.getElem_toArray, List.getElem_cons_zero, List.getElem_cons_succ, List.setIfInBounds_toArray, List.set_cons_zero, List.set_cons_succ]))
                  (refine wpAny_take (i := 3) (oi := _) (v := ?_) rfl (by kernel_rfl) (by kernel_rfl) (by kernel_rfl) (fun _ _ _ h => h) (Or.inl ⟨by rfl, ?_⟩) ?_; rotate_left; (focus (intro w0; go_simp; (try with_reducible rfl); done)); (try simp only [Act.put, List.getElem_toArray, List.getElem_cons_zero, List.getElem_cons_succ, List.setIfInBounds_toArray, List.set_cons_zero, List.set_cons_succ]))
                  (refine wpAny_take (i := 6) (oi := _) (v := ?_) rfl (by kernel_rfl) (by kernel_rfl) (by kernel_rfl) (fun _ _ _ h => h) (Or.inl ⟨by rfl, ?_⟩) ?_; rotate_left; (focus (intro w0; go_simp; (try with_reducible rfl); done)); (try simp only [Act.put, List.getElem_toArray, List.getElem_cons_zero, List.getElem_cons_succ, List.setIfInBounds_toArray, List.set_cons_zero, List.set_cons_succ]))
                  (refine wpAny_take (i := 7) (oi := _) (v := ?_) rfl (by kernel_rfl) (by kernel_rfl) (by kernel_rfl) (fun _ _ _ h => h) (Or.inl ⟨by rfl, ?_⟩) ?_; rotate_left; (focus (intro w0; go_simp; (try with_reducible rfl); done)); (try simp only [Act.put, List.getElem_toArray, List.getElem_cons_zero, List.getElem_cons_succ, List.setIfInBounds_toArray, List.set_cons_zero, List.set_cons_succ]))
                  (refine wpAny_take (i := 8) (oi := _) (v := ?_) rfl (by kernel_rfl) (by kernel_rfl) (by kernel_rfl) (fun _ _ _ h => h) (Or.inl ⟨by rfl, ?_⟩) ?_; rotate_left; (focus (intro w0; go_simp; (try with_reducible rfl); done)); (try simp only [Act.put, List.getElem_toArray, List.getElem_cons_zero, List.getElem_cons_succ, List.setIfInBounds_toArray, List.set_cons_zero, List.set_cons_succ]))
                  have hix : ixOK (fun k => #[4, 5, 9, 10, 11, 12, 13, 14].getD k 0) := by unfold ixOK; decide
                  refine wpAny_inv_at (fun act0 l a w' => All7 l ∧ ∃ s13 s14 s88 s89 s93 s94 : Value, a = (((((act0.put (some 13) s13).put (some 14) s14).put (some 88) s88).put (some 89) s89).put (some 93) s93).put (some 94) s94 ∧ XJ wc 73 (.agg #[.int .i64 xl', .int .i64 xk', .int .i64 xd']) (.agg #[.int .i64 xl, .int .i64 xk, .int .i64 xd]) (.agg #[.int .i64 yl', .int .i64 yk', .int .i64 yd']) (.agg #[.int .i64 yl, .int .i64 yk, .int .i64 yd]) #[.int .i64 yl', .int .i64 yk', .int .i64 yd'] #[.int .i64 yl, .int .i64 yk, .int .i64 yd] (fun k => has l (#[4, 5, 9, 10, 11, 12, 13, 14].getD k 0)) s13 s14 s88 s89 s93 s94 w') (by kernel_rfl) (by kernel_rfl) (by kernel_rfl) ?_ ?_ ?_
                  · refine ⟨⟨rfl, rfl, rfl, rfl, rfl, rfl, rfl⟩, u13, u14, u88, u89, u93, u94, ?_, XJ.start (by intro k hk; have hk8 : k = 0 ∨ k = 1 ∨ k = 2 ∨ k = 3 ∨ k = 4 ∨ k = 5 ∨ k = 6 ∨ k = 7 := (by omega); rcases hk8 with rfl | rfl | rfl | rfl | rfl | rfl | rfl | rfl <;> (intro hh; cases hh))⟩
                    simp only [Act.put, List.setIfInBounds_toArray, List.set_cons_zero, List.set_cons_succ, jd]
                  · intro l a w' hinv0 i hun hrd K hK
                    have hT := hinv0.1
                    have hinv := hinv0.2
                    clear hinv0
                    refine hinv.elim fun s13 hinv => ?_
                    refine hinv.elim fun s14 hinv => ?_
                    refine hinv.elim fun s88 hinv => ?_
                    refine hinv.elim fun s89 hinv => ?_
                    refine hinv.elim fun s93 hinv => ?_
                    refine hinv.elim fun s94 hinv => ?_
                    have ha := hinv.1
                    have hx := hinv.2
                    clear hinv
                    subst ha
                    refine hrd.elim fun o hrd => ?_
                    have ho := hrd.1
                    have hdep := hrd.2
                    clear hrd
                    have hi8 : i < 15 := by
                      have := (Array.getElem?_eq_some_iff.1 ho).1
                      simpa using this
                    have hc : i = 0 ∨ i = 1 ∨ i = 2 ∨ i = 3 ∨ i = 6 ∨ i = 7 ∨ i = 8 ∨ i = 4 ∨ i = 5 ∨ i = 9 ∨ i = 10 ∨ i = 11 ∨ i = 12 ∨ i = 13 ∨ i = 14 := by omega
                    have hxy := hcs.out w' hx.bel
                    have c0 := hxy.1
                    have c1 := hxy.2.1
                    have c2 := hxy.2.2.1
                    have d0 := hxy.2.2.2.1
                    have d1 := hxy.2.2.2.2.1
                    have d2 := hxy.2.2.2.2.2
                    clear hi8 hxy
                    replace hx := Lib.hid hx; replace hT := Lib.hid hT; replace hix := Lib.hid hix
                    rcases hc with rfl | rfl | rfl | rfl | rfl | rfl | rfl | rfl | rfl | rfl | rfl | rfl | rfl | rfl | rfl
                    · exact absurd hT.out.h0 (has_not hun)
                    · exact absurd hT.out.h1 (has_not hun)
                    · exact absurd hT.out.h2 (has_not hun)
                    · exact absurd hT.out.h3 (has_not hun)
                    · exact absurd hT.out.h6 (has_not hun)
                    · exact absurd hT.out.h7 (has_not hun)
                    · exact absurd hT.out.h8 (has_not hun)
                    · have e := Option.some.inj ho
                      subst e
                      refine wpOp_of ho rfl ?_
                      clear ho hdep
                      go_simp
                      refine hK _ _ ⟨hT.out.mono, s13, s14, _, s89, s93, s94, ?_, hx.out.t0 (ix_other hix.out l 0 (by decide))⟩
                      simp only [Act.put, List.setIfInBounds_toArray, List.set_cons_zero, List.set_cons_succ, jd]
                    · have e := Option.some.inj ho
                      subst e
                      have d := hx.out.v13 (hdep _ (Array.mem_of_getElem? (i := 0) rfl) rfl)
                      subst d
                      refine wpOp_of ho rfl ?_
                      clear ho hdep
                      go_wp2_with (go_at_call 37; (with_reducible refine (hfx'.out _).mono ?_); rintro e w5 ⟨rfl, b5⟩; replace b5 := Lib.hid b5)
                      refine ⟨hT.out.mono, s13, s14, _, _, s93, s94, ?_, hx.out.t1 (ix_other hix.out l 1 (by decide)) b5.out⟩
                      simp only [Act.put, List.setIfInBounds_toArray, List.set_cons_zero, List.set_cons_succ, jd]
                    · have e := Option.some.inj ho
                      subst e
                      refine wpOp_of ho rfl ?_
                      clear ho hdep
                      go_simp
                      refine hK _ _ ⟨hT.out.mono, s13, s14, s88, s89, _, s94, ?_, hx.out.t2 (ix_other hix.out l 2 (by decide))⟩
                      simp only [Act.put, List.setIfInBounds_toArray, List.set_cons_zero, List.set_cons_succ, jd]
                    · have e := Option.some.inj ho
                      subst e
                      have d := hx.out.v15 (hdep _ (Array.mem_of_getElem? (i := 0) rfl) rfl)
                      subst d
                      refine wpOp_of ho rfl ?_
                      clear ho hdep
                      go_wp2_with (go_at_call 37; (with_reducible refine (hfx.out _).mono ?_); rintro e w5 ⟨rfl, b5⟩; replace b5 := Lib.hid b5)
                      refine ⟨hT.out.mono, s13, s14, s88, s89, _, _, ?_, hx.out.t3 (ix_other hix.out l 3 (by decide)) b5.out⟩
                      simp only [Act.put, List.setIfInBounds_toArray, List.set_cons_zero, List.set_cons_succ, jd]
                    · have e := Option.some.inj ho
                      subst e
                      refine wpOp_of ho rfl ?_
                      clear ho hdep
                      go_simp
                      refine hK _ _ ⟨hT.out.mono, _, s14, s88, s89, s93, s94, ?_, hx.out.t4 (ix_other hix.out l 4 (by decide)) (has_self hun) (has_not hun) _ _ _⟩
                      simp only [Act.put, List.setIfInBounds_toArray, List.set_cons_zero, List.set_cons_succ, jd]
                    · have e := Option.some.inj ho
                      subst e
                      refine wpOp_of ho rfl ?_
                      clear ho hdep
                      go_simp
                      refine hK _ _ ⟨hT.out.mono, s13, _, s88, s89, s93, s94, ?_, hx.out.t5 (ix_other hix.out l 5 (by decide)) (has_self hun) (has_not hun) _ _ _⟩
                      simp only [Act.put, List.setIfInBounds_toArray, List.set_cons_zero, List.set_cons_succ, jd]
                    · have e := Option.some.inj ho
                      subst e
                      have h4 := (hdep _ (Array.mem_of_getElem? (i := 0) rfl) rfl)
                      have d := hx.out.v14 (hdep _ (Array.mem_of_getElem? (i := 1) rfl) rfl)
                      subst d
                      refine (hx.out.b5 h4).elim fun g hb => ?_
                      refine hb.elim fun p0 hb => ?_
                      refine hb.elim fun q0 hb => ?_
                      refine hb.elim fun r0 hb => ?_
                      have e1 := hb.1
                      have e2 := hb.2.1
                      have e3 := hb.2.2.1
                      clear hb
                      subst e1
                      have r3 := row3T e3
                      have y0 := r3.1
                      have y1 := r3.2.1
                      have y2 := r3.2.2.1
                      have f0 := r3.2.2.2.1
                      have f1 := r3.2.2.2.2.1
                      have f2 := r3.2.2.2.2.2
                      clear r3
                      replace e2 := Lib.hid e2; replace e3 := Lib.hid e3
                      clear c0 c1 c2 d0 d1 d2
                      refine wpOp_of ho rfl ?_
                      clear ho hdep
                      go_simp
                      refine hK _ _ ⟨hT.out.mono, _, s14, s88, _, s93, s94, ?_, hx.out.t6 (ix_other hix.out l 6 (by decide)) (has_self hun) (has_not hun) h4 rfl e2.out e3.out⟩
                      simp only [Act.put, List.setIfInBounds_toArray, List.set_cons_zero, List.set_cons_succ, jd]
                    · have e := Option.some.inj ho
                      subst e
                      have h5 := (hdep _ (Array.mem_of_getElem? (i := 0) rfl) rfl)
                      have d := hx.out.v16 (hdep _ (Array.mem_of_getElem? (i := 1) rfl) rfl)
                      subst d
                      refine (hx.out.b6 h5).elim fun g hb => ?_
                      refine hb.elim fun p0 hb => ?_
                      refine hb.elim fun q0 hb => ?_
                      refine hb.elim fun r0 hb => ?_
                      have e1 := hb.1
                      have e2 := hb.2.1
                      have e3 := hb.2.2.1
                      clear hb
                      subst e1
                      have r3 := row3T e3
                      have y0 := r3.1
                      have y1 := r3.2.1
                      have y2 := r3.2.2.1
                      have f0 := r3.2.2.2.1
                      have f1 := r3.2.2.2.2.1
                      have f2 := r3.2.2.2.2.2
                      clear r3
                      replace e2 := Lib.hid e2; replace e3 := Lib.hid e3
                      clear c0 c1 c2 d0 d1 d2
                      refine wpOp_of ho rfl ?_
                      clear ho hdep
                      go_simp
                      refine hK _ _ ⟨hT.out.mono, s13, _, s88, s89, s93, _, ?_, hx.out.t7 (ix_other hix.out l 7 (by decide)) (has_self hun) (has_not hun) h5 rfl e2.out e3.out⟩
                      simp only [Act.put, List.setIfInBounds_toArray, List.set_cons_zero, List.set_cons_succ, jd]
                  · intro l a w' hinv0 hall
                    have hinv := hinv0.2
                    clear hinv0
                    refine hinv.elim fun s13 hinv => ?_
                    refine hinv.elim fun s14 hinv => ?_
                    refine hinv.elim fun s88 hinv => ?_
                    refine hinv.elim fun s89 hinv => ?_
                    refine hinv.elim fun s93 hinv => ?_
                    refine hinv.elim fun s94 hinv => ?_
                    have ha := hinv.1
                    have hx := hinv.2
                    clear hinv
                    subst ha
                    have a0 : ∀ j, j < 15 → has l j := hall
                    refine (hx.b5 (a0 11 (by decide))).elim fun g hb => ?_
                    refine hb.elim fun p0 hb => ?_
                    refine hb.elim fun q0 hb => ?_
                    refine hb.elim fun r0 hb => ?_
                    have e1 := hb.1
                    have e3 := hb.2.2.1
                    have e4 := hb.2.2.2 (a0 13 (by decide))
                    rw [e4] at e3
                    clear hb
                    refine (hx.b6 (a0 12 (by decide))).elim fun h' hb => ?_
                    refine hb.elim fun p1 hb => ?_
                    refine hb.elim fun q1 hb => ?_
                    refine hb.elim fun r1 hb => ?_
                    have g1 := hb.1
                    have g3 := hb.2.2.1
                    have g4 := hb.2.2.2 (a0 14 (by decide))
                    rw [g4] at g3
                    clear hb
                    subst e1 g1
                    have hB := Lib.hid (belowCont hb1.out hx.bel)
                    have hH := Lib.hid (h1.out.below hx.bel)
                    replace e3 := Lib.hid e3; replace g3 := Lib.hid g3
                    clear hx e4 g4 hall a0
                    simp only [Act.put, List.setIfInBounds_toArray, List.set_cons_zero, List.set_cons_succ]
                    go_wp2_with (fail)
                    go_meet
                    exact ⟨_, _, rfl, rfl, e3.out, g3.out, hB.out, hH.out⟩
                case rest =>
                  obtain ⟨g, h, rfl, rfl, e3, g3, hb2, h2⟩ := hcut
                  have q := row3T e3
                  have q0 := q.1; have q1 := q.2.1
                  have r := row3T g3
                  have r0 := r.1; have r1 := r.2.1
                  clear q r e3 g3 d0 d1 d2 d0' d1' d2' hb1 h1 hfx hfx' hmx
                  replace hb2 := Lib.hid hb2; replace h2 := Lib.hid h2
                  obtain ⟨rb, hrb⟩ : ∃ rb, rb = riseB (Y.take j) := ⟨_, rfl⟩
                  rw [← hrb]
                  have hri2 := hri.out
                  rw [← hrb] at hri2
                  replace hri2 := Lib.hid hri2
                  clear hrb hri
                  cases rb with
                  | false =>
                    go_wp2
                    go_roundg K
                    case measure => have := hji.out; omega
                    case rel => exact ⟨j + 1, by go_num, by have := hji.out; omega, by rw [hri2.out]; rfl, by rw [hall.out], hb2.out, h2.out⟩
                  | true =>
                    by_cases m1 : yl' < yl
                    · have hle : lessB ⟨yl', yk', yd'⟩ ⟨yl, yk, yd⟩ = true := by simp [lessB, m1]
                      replace hle := Lib.hid hle
                      go_wp2
                      go_roundg K
                      case measure => have := hji.out; omega
                      case rel => exact ⟨j + 1, by go_num, by have := hji.out; omega, by rw [hri2.out, hle.out]; rfl, by rw [hall.out], hb2.out, h2.out⟩
                    · by_cases m2 : yl' = yl
                      · subst m2
                        by_cases m3 : yk' < yk
                        · have hle : lessB ⟨yl', yk', yd'⟩ ⟨yl', yk, yd⟩ = true := by simp [lessB, m3]
                          replace hle := Lib.hid hle
                          go_wp2
                          go_roundg K
                          case measure => have := hji.out; omega
                          case rel => exact ⟨j + 1, by go_num, by have := hji.out; omega, by rw [hri2.out, hle.out]; rfl, by rw [hall.out], hb2.out, h2.out⟩
                        · have hle : lessB ⟨yl', yk', yd'⟩ ⟨yl', yk, yd⟩ = false := by simp [lessB, m3]
                          replace hle := Lib.hid hle
                          go_wp2
                          go_roundg K
                          case measure => have := hji.out; omega
                          case rel => exact ⟨j + 1, by go_num, by have := hji.out; omega, by rw [hri2.out, hle.out]; rfl, by rw [hall.out], hb2.out, h2.out⟩
                      · have hle : lessB ⟨yl', yk', yd'⟩ ⟨yl, yk, yd⟩ = false := by simp [lessB, m1, m2]
                        have m4 : (yl' == yl) = false := by simpa using m2
                        replace hle := Lib.hid hle
                        go_wp2
                        go_roundg K
                        case measure => have := hji.out; omega
                        case rel => exact ⟨j + 1, by go_num, by have := hji.out; omega, by rw [hri2.out, hle.out]; rfl, by rw [hall.out], hb2.out, h2.out⟩
          · have hk0 : gk = 0 := by omega
            subst hk0
            obtain rfl : j = i := by omega
            rw [List.take_of_length_le (by have := hYl.out; omega)]
            have hcase2 : ((j : Int) < (len0 : Int) ∧ ¬ (j : Int) < 9) ∨ ¬ (j : Int) < (len0 : Int) := by have := hk.out; omega
            replace hb := Lib.hid hb; replace h0 := Lib.hid h0
            by_cases hre : Re = 0
            · obtain ⟨q1, q2, q3, q4, q5⟩ := hA.out hre
              rw [q2, q3]
              subst hre q1 q4
              have hpt : ∀ W, Hp W0 [] [.row 73 3 (.slice ad Rl.length cp) Rl.length (ixCells Rl)] W → Calls Try.prog 45 #[.slice ad Rl.length cp] W fun e w' => e = .returned (.string (str S)) ∧ Below W.heap.size W w' := fun W hh => by
                have := hput.out (.slice ad Rl.length cp) W (hh.sl (i := 0) rfl (by have := hYl.out; have := hk.out; omega))
                rwa [q5] at this
              replace hpt := Lib.hid hpt
              clear q2 q3 q5 hA hBd hput hcell hwf hX hY hYwf
              rcases hcase2 with ⟨t1, t2⟩ | t1
              all_goals
                go_wp2_with (first
                  | (go_at_call 36; (with_reducible refine (awake_any _).mono ?_); rintro e w7 ⟨rfl, b7⟩; replace hb := Lib.hid (belowCont hb.out b7); replace h0 := Lib.hid (h0.out.below b7); clear b7)
                  | (go_at_call 45; (with_reducible refine (hpt.out _ h0.out).mono ?_); rintro e w8 ⟨rfl, b8⟩; replace hb := Lib.hid (belowCont hb.out b8); clear b8))
                go_ret
                exact ⟨rfl, hb.out⟩
            · obtain ⟨q1, q2⟩ := hBd.out hre
              have z1 : (Re != 0) = true := by simpa using hre
              have z2 : Rl.length = 0 := by rw [q1]; rfl
              rw [z2]
              obtain ⟨rb, hrb⟩ : ∃ rb, rb = riseB Y := ⟨_, rfl⟩
              obtain ⟨am, ham⟩ : ∃ am, am = allMay Y := ⟨_, rfl⟩
              rw [← hrb, ← ham] at q2
              rw [← hrb, ← ham]
              clear hA hBd hput hcell hwf hX hY hYwf q1 z2 hrb ham h0 hre
              by_cases q3 : a1 = ⟨#[]⟩
              · subst q3
                rcases q2 with q | q | q
                · exact absurd rfl q
                · subst q
                  rcases hcase2 with ⟨t1, t2⟩ | t1
                  all_goals
                    go_wp2_with (go_at_call 36; (with_reducible refine (awake_any _).mono ?_); rintro e w7 ⟨rfl, b7⟩; replace hb := Lib.hid (belowCont hb.out b7); clear b7)
                    all_goals go_ret
                    all_goals exact ⟨rfl, hb.out⟩
                · subst q
                  cases rb
                  all_goals
                    rcases hcase2 with ⟨t1, t2⟩ | t1
                    all_goals
                      go_wp2_with (go_at_call 36; (with_reducible refine (awake_any _).mono ?_); rintro e w7 ⟨rfl, b7⟩; replace hb := Lib.hid (belowCont hb.out b7); clear b7)
                      all_goals go_ret
                      all_goals exact ⟨rfl, hb.out⟩
              · have l0 : a1.toList ≠ [] := by
                  rw [ByteArray.toList_eq]
                  intro h
                  apply q3
                  obtain ⟨d⟩ := a1
                  congr 1
                  exact Array.toList_eq_nil_iff.1 h
                have l1 : (a1.toList == []) = false := beq_eq_false_iff_ne.mpr l0
                have l2 : (a1.toList != []) = true := by simpa using l0
                have l3 : a1.toList.isEmpty = false := by simpa using l0
                have l4 : (a1.toList == (⟨#[]⟩ : ByteArray).toList) = false := by rw [show (⟨#[]⟩ : ByteArray).toList = [] by rw [ByteArray.toList_eq]]; exact l1
                have l5 : (a1.toList != (⟨#[]⟩ : ByteArray).toList) = true := by rw [show (⟨#[]⟩ : ByteArray).toList = [] by rw [ByteArray.toList_eq]]; exact l2
                clear q2 q3
                rcases hcase2 with ⟨t1, t2⟩ | t1
                all_goals
                  go_wp2_with (go_at_call 36; (with_reducible refine (awake_any _).mono ?_); rintro e w7 ⟨rfl, b7⟩; replace hb := Lib.hid (belowCont hb.out b7); clear b7)
                  all_goals go_ret
                  all_goals exact ⟨rfl, hb.out⟩
end Go.Proofs.Ytmfodnbhhfegeaa.schema
