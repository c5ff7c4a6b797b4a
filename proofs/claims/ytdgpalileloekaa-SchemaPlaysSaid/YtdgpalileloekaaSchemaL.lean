/- The law SchemaGets: whatever bytes come, they are indexes that may be, in order, and have these bytes; or the error. No condition. -/
import Derived.Test.YtdgpalileloekaaSchemaG
import Derived.Test.YtdgpalileloekaaSchema6
import Derived.Test.YtdgpalileloekaaRegTwoN
import Derived.Deep.DeepCutAuto
import Derived.Laws.Rows
import Derived.StillTailTactics
namespace Go.Proofs.Ytdgpalileloekaa.schema
open Go.RowKit
attribute [local go_sem ↓] Go.wp_at_zero Go.wp_at_succ
attribute [local go_sem] str_size str_bl str_append
set_option linter.unusedVariables false
set_option maxRecDepth 100000

theorem and_1' (x : Int) : bits .and .i64 x 1 = x % 2 := and_mask x 1 1 (by decide) (by decide)
def fewI (x : Ix) : Ix := if x.d % 8 = 7 then x else ⟨x.l % 8, x.k % 8, 1 + x.d % 2⟩
theorem fewI_wf (x : Ix) (h : x.wf) : (fewI x).wf := by
  unfold fewI
  split
  · exact h
  · refine ⟨?_, ?_, ?_⟩ <;> dsimp only <;> omega
theorem al2 (w : World) (A O : Obj) : ((w.alloc A).alloc O).heap[w.heap.size + 1]? = some O := by
  have := heap_alloc_new (w.alloc A) O
  simpa using this
theorem be2 (w : World) (A O : Obj) : Below w.heap.size w ((w.alloc A).alloc O) := ((Below.refl _ _).alloc (Nat.le_refl _) _).alloc (by simp) _
theorem few_any (x : Ix) (w : World) : Calls Try.prog 33 #[x.v] w fun e w' => e = .returned (fewI x).v ∧ Below w.heap.size w w' := by
  obtain ⟨l, k, d⟩ := x
  obtain ⟨L, hL, hL2⟩ : ∃ L : Nat, bits .and .i64 l 7 = (L : Int) ∧ l % 8 = (L : Int) := ⟨(l % 8).toNat, by rw [and_7]; omega, by omega⟩
  obtain ⟨K, hK, hK2⟩ : ∃ K : Nat, bits .and .i64 k 7 = (K : Int) ∧ k % 8 = (K : Int) := ⟨(k % 8).toNat, by rw [and_7]; omega, by omega⟩
  obtain ⟨D, hD, hD2⟩ : ∃ D : Nat, bits .and .i64 d 7 = (D : Int) ∧ d % 8 = (D : Int) := ⟨(d % 8).toNat, by rw [and_7]; omega, by omega⟩
  obtain ⟨M, hM, hM2, hM3⟩ : ∃ M : Nat, bits .and .i64 d 1 = (M : Int) ∧ d % 2 = (M : Int) ∧ M ≤ 1 := ⟨(d % 2).toNat, by rw [and_1']; omega, by omega, by omega⟩
  have hf : fewI ⟨l, k, d⟩ = if (D : Int) = 7 then ⟨l, k, d⟩ else ⟨L, K, 1 + M⟩ := by unfold fewI; simp only [hL2, hK2, hD2, hM2]
  have hw : IntKind.i64.wrap (1 + (M : Int)) = 1 + (M : Int) := by rw [IntKind.wrap_i64]; omega
  have hM0 : (0 : Int) ≤ (M : Int) := by omega
  have hM1 : (M : Int) ≤ 1 := by omega
  have hp := ((Hp.none_ w []).alloc #[.int .i64 l, .int .i64 k, .int .i64 d] 73).alloc #[.int .i64 0, .int .i64 0, .int .i64 0] 73
  rw [show (w.alloc (.cells #[.int .i64 l, .int .i64 k, .int .i64 d] 73)).heap.size = w.heap.size + 1 by simp] at hp
  have x0 := hp.cell (i := 1) rfl 0; have x1 := hp.cell (i := 1) rfl 1; have x2 := hp.cell (i := 1) rfl 2
  have f0 := hp.free (i := 0) rfl 0
  have y0 := hp.cell (i := 0) rfl 0; have y1 := hp.cell (i := 0) rfl 1; have y2 := hp.cell (i := 0) rfl 2
  simp at x0 x1 x2 y0 y1 y2
  have hb := hp.box (i := 0) rfl
  have hbe := hp.bel
  by_cases h7 : (D : Int) = 7
  · rw [hf, if_pos h7]
    have t1 : ((D : Int) == 7) = true := by simpa using h7
    replace hb := Lib.hid hb; replace hbe := Lib.hid hbe
    clear hf hp hL2 hK2 hD2 hM2 hM3 h7
    unfold Ix.v
    simp only
    go_enter Try.func33, Try.ntmps33
    go_wp2
    refine bodyPost_ret (v := .agg #[.int .i64 l, .int .i64 k, .int .i64 d]) (results_cell_row rfl _ _ (w.heap.size + 1) 73 #[.int .i64 l, .int .i64 k, .int .i64 d] (0, 0) _ rfl (al2 _ _ _) Try.underlying73 rfl (by kernel_rfl)) rfl ?_
    exact ⟨rfl, be2 _ _ _⟩
  · rw [hf, if_neg h7]
    have t1 : ((D : Int) == 7) = false := by simpa using h7
    replace hb := Lib.hid hb; replace hbe := Lib.hid hbe
    clear hf hp hL2 hK2 hD2 hM2 hM3 h7
    unfold Ix.v
    simp only
    go_enter Try.func33, Try.ntmps33
    go_wp2
    refine bodyPost_ret (v := .agg #[.int .i64 L, .int .i64 K, .int .i64 (1 + M)]) (results_cell_row rfl _ _ (w.heap.size + 1) 73 #[.int .i64 L, .int .i64 K, .int .i64 (1 + M)] (0, 0) _ rfl (al2 _ _ _) Try.underlying73 rfl (by kernel_rfl)) rfl ?_
    exact ⟨rfl, be2 _ _ _⟩
theorem lmay_any (x : Ix) (w : World) : Calls Try.prog 36 #[x.v] w fun e w' => e = .returned (.bool (mayB x)) ∧ Below w.heap.size w w' := by
  obtain ⟨l, k, d⟩ := x
  have hp := (Hp.none_ w []).alloc #[.int .i64 l, .int .i64 k, .int .i64 d] 73
  have x0 := hp.cell (i := 0) rfl 0; have x1 := hp.cell (i := 0) rfl 1; have x2 := hp.cell (i := 0) rfl 2
  simp at x0 x1 x2
  have hbe := hp.bel
  have hm : mayB ⟨l, k, d⟩ = decide (0 ≤ l ∧ l < 64 ∧ 0 ≤ k ∧ k < 64 ∧ (d = 1 ∨ d = 2)) := by
    unfold mayB nameB
    rw [Bool.eq_iff_iff]; simp only [Bool.and_eq_true, decide_eq_true_eq]; omega
  rw [hm]
  unfold Ix.v
  simp only
  replace hbe := Lib.hid hbe
  clear hp hm
  by_cases h1 : 0 ≤ l
  · by_cases h2 : l < 64
    · by_cases h3 : 0 ≤ k
      · by_cases h4 : k < 64
        · by_cases h5 : d = 1
          · have t5 : (d == 1) = true := by simpa using h5
            have hd : decide (0 ≤ l ∧ l < 64 ∧ 0 ≤ k ∧ k < 64 ∧ (d = 1 ∨ d = 2)) = true := decide_eq_true ⟨h1, h2, h3, h4, .inl h5⟩
            rw [hd]
            clear hd h5
            go_enter Try.func36, Try.ntmps36
            go_wp2
            go_ret
            exact ⟨rfl, hbe.out⟩
          · have t5 : (d == 1) = false := by simpa using h5
            obtain ⟨z, t6⟩ : ∃ z, (d == 2) = z := ⟨_, rfl⟩
            have hd : decide (0 ≤ l ∧ l < 64 ∧ 0 ≤ k ∧ k < 64 ∧ (d = 1 ∨ d = 2)) = z := by rw [← t6, Bool.eq_iff_iff]; simp; omega
            rw [hd]
            clear hd h5
            go_enter Try.func36, Try.ntmps36
            go_wp2
            go_ret
            exact ⟨rfl, hbe.out⟩
        · have hd : decide (0 ≤ l ∧ l < 64 ∧ 0 ≤ k ∧ k < 64 ∧ (d = 1 ∨ d = 2)) = false := decide_eq_false (by omega)
          rw [hd]
          clear hd
          go_enter Try.func36, Try.ntmps36
          go_wp2
          go_ret
          exact ⟨rfl, hbe.out⟩
      · have hd : decide (0 ≤ l ∧ l < 64 ∧ 0 ≤ k ∧ k < 64 ∧ (d = 1 ∨ d = 2)) = false := decide_eq_false (by omega)
        rw [hd]
        clear hd
        go_enter Try.func36, Try.ntmps36
        go_wp2
        go_ret
        exact ⟨rfl, hbe.out⟩
    · have hd : decide (0 ≤ l ∧ l < 64 ∧ 0 ≤ k ∧ k < 64 ∧ (d = 1 ∨ d = 2)) = false := decide_eq_false (by omega)
      rw [hd]
      clear hd
      go_enter Try.func36, Try.ntmps36
      go_wp2
      go_ret
      exact ⟨rfl, hbe.out⟩
  · have hd : decide (0 ≤ l ∧ l < 64 ∧ 0 ≤ k ∧ k < 64 ∧ (d = 1 ∨ d = 2)) = false := decide_eq_false (by omega)
    rw [hd]
    clear hd
    go_enter Try.func36, Try.ntmps36
    go_wp2
    go_ret
    exact ⟨rfl, hbe.out⟩

/-- what a law's indexes are, the first so many -/
theorem arg_list {w : World} {a : Option Addr} {len : Nat} (h : SliceArg w a len 3 (fun _ v => ∃ x, v = .int .i64 x ∧ (Lit.int .i64 x).wf = true)) (k : Nat) (hk : k ≤ len) :
    ∃ X : List Ix, X.length = k ∧ (∀ x ∈ X, x.wf) ∧ ∀ (i : Nat) (x : Ix), X[i]? = some x → ∃ b o, a = some ⟨b, o, none⟩ ∧ b < w.heap.size ∧ w.cell? ⟨b, o + i * 3, none⟩ = some (.int .i64 x.l) ∧ w.cell? ⟨b, o + i * 3 + 1, none⟩ = some (.int .i64 x.k) ∧ w.cell? ⟨b, o + i * 3 + 2, none⟩ = some (.int .i64 x.d) := by
  obtain ⟨X, hX, hR⟩ := list_of (fun i (x : Ix) => x.wf ∧ ∃ b o, a = some ⟨b, o, none⟩ ∧ b < w.heap.size ∧ w.cell? ⟨b, o + i * 3, none⟩ = some (.int .i64 x.l) ∧ w.cell? ⟨b, o + i * 3 + 1, none⟩ = some (.int .i64 x.k) ∧ w.cell? ⟨b, o + i * 3 + 2, none⟩ = some (.int .i64 x.d)) k (fun i hi => by
    obtain ⟨_, h2⟩ := h
    obtain ⟨b, o, ha, hb, hc⟩ := h2.resolve_left (by omega)
    obtain ⟨v0, c0, x0, rfl, w0⟩ := hc i (by omega) 0 (by omega)
    obtain ⟨v1, c1, x1, rfl, w1⟩ := hc i (by omega) 1 (by omega)
    obtain ⟨v2, c2, x2, rfl, w2⟩ := hc i (by omega) 2 (by omega)
    exact ⟨⟨x0, x1, x2⟩, ⟨of_wf_i64 w0, of_wf_i64 w1, of_wf_i64 w2⟩, b, o, ha, hb, by simpa using c0, c1, c2⟩)
  refine ⟨X, hX, fun x hx => ?_, fun i x hi => (hR i x hi).2⟩
  obtain ⟨i, hi⟩ := List.mem_iff_getElem?.1 hx
  exact (hR i x hi).1
theorem rawB_len (x : Ix) : (bitsB x.l).length ≤ 10 ∧ (bitsB x.k).length ≤ 10 ∧ (bitsB x.d).length ≤ 10 :=
  ⟨code.numL_len64 _ (by omega), code.numL_len64 _ (by omega), code.numL_len64 _ (by omega)⟩
theorem flat_raw_len : ∀ l : List Ix, (l.flatMap rawB).length ≤ l.length * 30
  | [] => by simp
  | x :: l => by
    rw [List.flatMap_cons, List.length_append, List.length_cons]
    have := rawB_len x; have := flat_raw_len l
    simp only [rawB, List.length_append]; omega
theorem bits_num (n : Int) (W : World) : ∃ u : Nat, IntKind.u64.wrap n = (u : Int) ∧ ∀ W, Calls Try.prog 30 #[.int .u64 (u : Int)] W fun e w' => e = .returned (.string (str (bitsB n))) ∧ Below W.heap.size W w' :=
  ⟨(n % 18446744073709551616).toNat, by rw [IntKind.wrap_u64]; omega, fun W => code.refNum_any _ (by omega) W⟩
theorem cut_min3 (s : ByteArray) : s.extract 0 (min (s.size : Int) 3).toNat = str (s.data.toList.take 3) := by
  have hl : s.data.toList.length = s.size := by rw [Array.length_toList]; rfl
  rw [cut_text]
  congr 1
  rw [List.take_eq_take_iff]; omega
structure All7 (l : Array Bool) : Prop where
  h0 : has l 0
  h1 : has l 1
  h2 : has l 2
  h3 : has l 3
  h6 : has l 6
  h7 : has l 7
  h8 : has l 8
theorem All7.mono {l : Array Bool} {i : Nat} (h : All7 l) : All7 (l.setIfInBounds i true) :=
  ⟨getD_set_true h.h0, getD_set_true h.h1, getD_set_true h.h2, getD_set_true h.h3, getD_set_true h.h6, getD_set_true h.h7, getD_set_true h.h8⟩
end Go.Proofs.Ytdgpalileloekaa.schema
