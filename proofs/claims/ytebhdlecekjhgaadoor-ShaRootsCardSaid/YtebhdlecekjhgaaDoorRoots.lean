/- What the salts are made of (lodestoneref01: times, above, cube, square, primes, Salts, Begin, Right): a model on numbers, reckoned by the kernel, and the code's walks. No condition. -/
import Derived.Test.YtebhdlecekjhgaaDoorWRows
namespace Go.Proofs.YtebhdlecekjhgaaDoor.roots
open Go.RowKit
attribute [local go_sem ↓] Go.wp_at_zero Go.wp_at_succ
set_option linter.unusedVariables false
set_option maxRecDepth 100000

/-- the first so many steps of a row: number m of a times p, onto place m + j of o -/
def inner (a : List Nat) (p j : Nat) (o : List Nat) : Nat → List Nat × Nat
  | 0 => (o, 0)
  | m + 1 => ((inner a p j o m).1.set (m + j) (((inner a p j o m).1.getD (m + j) 0 + a.getD m 0 * p + (inner a p j o m).2) % 4294967296), ((inner a p j o m).1.getD (m + j) 0 + a.getD m 0 * p + (inner a p j o m).2) / 4294967296)
def rowsL (a : List Nat) (k : Nat) : Nat → List Nat
  | 0 => [0, 0, 0, 0]
  | j + 1 => (inner a ([k % 4294967296, k / 4294967296].getD j 0) j (rowsL a k j) (4 - j)).1
def timesL (a : List Nat) (k : Nat) : List Nat := rowsL a k 2

/-- numbers below 2^32, four of them -/
def Four (l : List Nat) : Prop := l.length = 4 ∧ ∀ i, l.getD i 0 < 4294967296
theorem Four.mk4 {a b c d : Nat} (h0 : a < 4294967296) (h1 : b < 4294967296) (h2 : c < 4294967296) (h3 : d < 4294967296) : Four [a, b, c, d] := by
  refine ⟨rfl, fun i => ?_⟩
  match i with
  | 0 => exact h0
  | 1 => exact h1
  | 2 => exact h2
  | 3 => exact h3
  | i + 4 => simp [List.getD]
theorem Four.form {l : List Nat} (h : Four l) : ∃ a b c d, l = [a, b, c, d] ∧ a < 4294967296 ∧ b < 4294967296 ∧ c < 4294967296 ∧ d < 4294967296 := by
  obtain ⟨h1, h2⟩ := h
  match l, h1 with
  | [a, b, c, d], _ => exact ⟨a, b, c, d, rfl, h2 0, h2 1, h2 2, h2 3⟩
theorem step_lt {o a p c : Nat} (ho : o < 4294967296) (ha : a < 4294967296) (hp : p < 4294967296) (hc : c < 4294967296) :
    a * p ≤ 18446744065119617025 ∧ o + a * p < 18446744073709551616 ∧ o + a * p + c < 18446744073709551616 := by
  have : a * p ≤ 4294967295 * 4294967295 := Nat.mul_le_mul (by omega) (by omega)
  omega
theorem inner_ok (a : List Nat) (p j : Nat) (o : List Nat) (ha : ∀ i, a.getD i 0 < 4294967296) (hp : p < 4294967296) (ho : Four o) : ∀ m, Four (inner a p j o m).1 ∧ (inner a p j o m).2 < 4294967296
  | 0 => ⟨ho, by show 0 < 4294967296; decide⟩
  | m + 1 => by
    obtain ⟨⟨h1, h2⟩, h3⟩ := inner_ok a p j o ha hp ho m
    have hs := (step_lt (h2 (m + j)) (ha m) hp h3).2.2
    refine ⟨⟨by simp [inner, h1], fun i => ?_⟩, by show _ / 4294967296 < _; omega⟩
    show (List.set _ _ _).getD i 0 < _
    rw [List.getD_eq_getElem?_getD, List.getElem?_set]
    by_cases hi : m + j = i
    · rw [if_pos hi]
      by_cases hl : m + j < (inner a p j o m).1.length
      · rw [if_pos hl]; exact Nat.mod_lt _ (by decide)
      · rw [if_neg hl]; simp
    · rw [if_neg hi, ← List.getD_eq_getElem?_getD]; exact h2 i
theorem part_lt (k j : Nat) (hk : k < 18446744073709551616) : [k % 4294967296, k / 4294967296].getD j 0 < 4294967296 := by
  match j with
  | 0 => exact Nat.mod_lt _ (by decide)
  | 1 => show k / 4294967296 < _; omega
  | j + 2 => simp [List.getD]
theorem rows_ok (a : List Nat) (k : Nat) (ha : Four a) (hk : k < 18446744073709551616) : ∀ j, Four (rowsL a k j)
  | 0 => Four.mk4 (by decide) (by decide) (by decide) (by decide)
  | j + 1 => (inner_ok a _ j _ ha.2 (part_lt k j hk) (rows_ok a k ha hk j) (4 - j)).1
theorem times_ok (a : List Nat) (k : Nat) (ha : Four a) (hk : k < 18446744073709551616) : Four (timesL a k) := rows_ok a k ha hk 2

/-! ### rows of numbers in memory -/
def dw (n : Nat) : Value := .int .u64 (n : Int)
def DW (w : World) (g : Nat) (t : TypeId) (xs : List Nat) : Prop := w.heap[g]? = some (.cells (xs.map dw).toArray t (0, 0))
section
variable {w w' : World} {g : Nat} {t : TypeId} {xs : List Nat}
theorem DW.keep (h : DW w g t xs) {X : List Nat} (k : Keeps X w w') (hg : g ∉ X) : DW w' g t xs := (k.block _ (block_lt h) hg).trans h
theorem DW.below (h : DW w g t xs) (k : Below w.heap.size w w') : DW w' g t xs := h.keep (Keeps.ofBelow k []) (by simp)
theorem DW.cell (h : DW w g t xs) {i : Nat} (hi : i < xs.length) : w.cell? ⟨g, i, none⟩ = some (.int .u64 ((xs.getD i 0 : Nat) : Int)) := by
  rw [cell_of_row _ _ i _ _ _ h]; simp [dw, List.getElem?_eq_getElem hi, List.getD]
theorem DW.free (h : DW w g t xs) (i : Nat) : w.frozen? ⟨g, i, none⟩ = false := by unfold DW at h; simp [World.frozen?, h]
theorem DW.put (h : DW w g t xs) (i n : Nat) : DW (w.setCell ⟨g, i, none⟩ (.int .u64 (n : Int))) g t (xs.set i n) := by
  unfold DW at h ⊢; simp [World.setCell, Array.getElem?_modify, h, List.map_set, dw]
theorem DW.far (h : DW w g t xs) {b : Nat} (hb : g ≠ b) (i : Nat) (v : Value) : DW (w.setCell ⟨b, i, none⟩ v) g t xs := (Below.heap_setCell w _ _ g hb).trans h
end
/-- 'times' on its way -/
structure TS (w : World) (a p o : List Nat) (W : World) : Prop where
  a : DW W w.heap.size 142 a
  r : DW W (w.heap.size + 1) 142 [0, 0, 0, 0]
  o : DW W (w.heap.size + 1 + 1) 142 o
  p : DW W (w.heap.size + 1 + 1 + 1) 161 p
  bel : Below w.heap.size w W
namespace TS
variable {w W : World} {a p o : List Nat}
theorem drewN (h : TS w a p o W) (n : Nat) : TS w a p o (W.drewN n) := ⟨h.a, h.r, h.o, h.p, belowDrewN h.bel n⟩
theorem drew (h : TS w a p o W) : TS w a p o W.drew := ⟨h.a, h.r, h.o, h.p, h.bel.drew⟩
theorem put (h : TS w a p o W) (i n : Nat) : TS w a p (o.set i n) (W.setCell ⟨w.heap.size + 1 + 1, i, none⟩ (.int .u64 (n : Int))) :=
  ⟨h.a.far (by omega) _ _, h.r.far (by omega) _ _, h.o.put i n, h.p.far (by omega) _ _, h.bel.setCell (p := ⟨w.heap.size + 1 + 1, i, none⟩) (Nat.le_trans (Nat.le_succ _) (Nat.le_succ _)) _⟩
theorem start (w : World) (a p : List Nat) : TS w a p [0, 0, 0, 0] ((((w.alloc (.cells (a.map dw).toArray 142)).alloc (.cells #[.int .u64 0, .int .u64 0, .int .u64 0, .int .u64 0] 142)).alloc (.cells #[.int .u64 0, .int .u64 0, .int .u64 0, .int .u64 0] 142)).alloc (.cells (p.map dw).toArray 161)) := by
  have s1 : (w.alloc (.cells (a.map dw).toArray 142)).heap.size = w.heap.size + 1 := by simp
  have s2 : ((w.alloc (.cells (a.map dw).toArray 142)).alloc (.cells #[.int .u64 0, .int .u64 0, .int .u64 0, .int .u64 0] 142)).heap.size = w.heap.size + 1 + 1 := by simp
  have s3 : (((w.alloc (.cells (a.map dw).toArray 142)).alloc (.cells #[.int .u64 0, .int .u64 0, .int .u64 0, .int .u64 0] 142)).alloc (.cells #[.int .u64 0, .int .u64 0, .int .u64 0, .int .u64 0] 142)).heap.size = w.heap.size + 1 + 1 + 1 := by simp
  refine ⟨?_, ?_, ?_, ?_, ?_⟩
  · unfold DW
    rw [Below.heap_alloc _ _ _ (by rw [s3]; omega), Below.heap_alloc _ _ _ (by rw [s2]; omega), Below.heap_alloc _ _ _ (by rw [s1]; omega)]
    exact heap_alloc_new w _
  · unfold DW
    rw [Below.heap_alloc _ _ _ (by rw [s3]; omega), Below.heap_alloc _ _ _ (by rw [s2]; omega), ← s1]
    exact heap_alloc_new _ _
  · unfold DW
    rw [Below.heap_alloc _ _ _ (by rw [s3]; omega), ← s2]
    exact heap_alloc_new _ _
  · unfold DW
    rw [← s3]
    exact heap_alloc_new _ _
  · exact ((((Below.refl _ _).alloc (Nat.le_refl _) _).alloc (by simp) _).alloc (by rw [s2]; omega) _).alloc (by rw [s3]; omega) _
end TS
set_option maxHeartbeats 4000000 in
theorem times_any (a0 a1 a2 a3 k : Nat) (ha : Four [a0, a1, a2, a3]) (hk : k < 18446744073709551616) (o0 o1 o2 o3 : Nat) (ho : timesL [a0, a1, a2, a3] k = [o0, o1, o2, o3]) (w : World) :
    Calls Tryd.prog 111 #[.agg #[.int .u64 (a0 : Int), .int .u64 (a1 : Int), .int .u64 (a2 : Int), .int .u64 (a3 : Int)], .int .u64 (k : Int)] w fun e w' => e = .returned (.agg #[.int .u64 (o0 : Int), .int .u64 (o1 : Int), .int .u64 (o2 : Int), .int .u64 (o3 : Int)]) ∧ Below w.heap.size w w' := by
  have hpl := fun j => part_lt k j hk
  obtain ⟨p0, hp0⟩ : ∃ p : Nat, p = k % 4294967296 := ⟨_, rfl⟩
  obtain ⟨p1, hp1⟩ : ∃ p : Nat, p = k / 4294967296 := ⟨_, rfl⟩
  have e0 : (k : Int) % 4294967296 = (p0 : Int) := by omega
  have e1 : (k : Int) / 4294967296 = (p1 : Int) := by omega
  have hro := rows_ok [a0, a1, a2, a3] k ha hk
  have hin := fun p j o hp ho m => inner_ok [a0, a1, a2, a3] p j o ha.2 hp ho m
  have hst : ∀ j, rowsL [a0, a1, a2, a3] k (j + 1) = (inner [a0, a1, a2, a3] ([p0, p1].getD j 0) j (rowsL [a0, a1, a2, a3] k j) (4 - j)).1 := fun j => by rw [hp0, hp1]; rfl
  have h0 : rowsL [a0, a1, a2, a3] k 0 = [0, 0, 0, 0] := rfl
  rw [← hp0, ← hp1] at hpl
  replace hpl := Lib.hid hpl; replace hro := Lib.hid hro; replace hin := Lib.hid hin; replace hst := Lib.hid hst; replace h0 := Lib.hid h0; replace ho := Lib.hid ho; replace ha := Lib.hid ha
  have e1w : IntKind.u64.wrap (p1 : Int) = (p1 : Int) := IntWalk.u64_in _ (by omega)
  clear hp0 hp1
  have hk0 : (0 : Int) ≤ (k : Int) := Int.natCast_nonneg _
  replace hk := Lib.hid hk
  go_enter Tryd.func111, Tryd.ntmps111
  go_upto_region 3 with (fail)
  have ts := TS.start w [a0, a1, a2, a3] [p0, p1]
  simp only [List.map_cons, List.map_nil, dw] at ts
  generalize (((w.alloc (.cells #[.int .u64 (a0 : Int), .int .u64 (a1 : Int), .int .u64 (a2 : Int), .int .u64 (a3 : Int)] 142)).alloc (.cells #[.int .u64 0, .int .u64 0, .int .u64 0, .int .u64 0] 142)).alloc (.cells #[.int .u64 0, .int .u64 0, .int .u64 0, .int .u64 0] 142)).alloc (.cells #[.int .u64 (p0 : Int), .int .u64 (p1 : Int)] 161) = W at ts ⊢
  clear e0 e1 e1w hk0
  generalize hA : [a0, a1, a2, a3] = A at *
  generalize hP : [p0, p1] = P at *
  replace hA := Lib.hid hA; replace hP := Lib.hid hP
  go_loopw [7] (fun i wr => ∃ j : Nat, j ≤ 2 ∧ i = .int .i64 j ∧ TS w A P (rowsL A k j) wr) (fun i _ => 2 - (intOf i).toNat)
  case atStart => exact ⟨0, by omega, rfl, by rw [h0.out]; exact ts⟩
  case round =>
    clear ts
    obtain ⟨j, hj, rfl, ts⟩ := hrel
    by_cases hlt : j < 2
    · have hj0 : (0 : Int) ≤ (j : Int) := Int.natCast_nonneg _
      have hjd : decide ((j : Int) < 2) = true := by simp; omega
      have hpj := hpl.out j
      have hR := hro.out j
      have hs1 := hst.out j
      obtain ⟨R, hRe⟩ : ∃ R, R = rowsL A k j := ⟨_, rfl⟩
      obtain ⟨pj, hpe⟩ : ∃ p, p = P.getD j 0 := ⟨_, rfl⟩
      rw [← hRe] at hR hs1 ts
      rw [← hpe] at hpj hs1
      have hPl : P.length = 2 := by rw [← hP.out]; rfl
      have hAl : A.length = 4 := by rw [← hA.out]; rfl
      replace hs1 := Lib.hid hs1; replace hpe := Lib.hid hpe; replace hRe := Lib.hid hRe; replace hpj := Lib.hid hpj; replace hR := Lib.hid hR; replace hPl := Lib.hid hPl; replace hAl := Lib.hid hAl
      have hAlt := ha.out.2
      replace hAlt := Lib.hid hAlt
      go_upto_region 7 with (fail)
      go_loopw [8, 9, 10] (fun over i n wr2 => ∃ m : Nat, m + j ≤ 4 ∧ i = .int .i64 m ∧ over = .int .u64 ((inner A pj j R m).2 : Int) ∧ TS w A P (inner A pj j R m).1 wr2) (fun _ i _ _ => 4 - (intOf i).toNat)
      case atStart => exact ⟨0, by omega, rfl, rfl, ts⟩
      case round =>
        clear ts
        obtain ⟨m, hm, rfl, rfl, ts⟩ := hrel
        obtain ⟨hI, hc⟩ := hin.out pj j R hpj.out hR.out m
        have hstep : inner A pj j R (m + 1) = ((inner A pj j R m).1.set (m + j) (((inner A pj j R m).1.getD (m + j) 0 + A.getD m 0 * pj + (inner A pj j R m).2) % 4294967296), ((inner A pj j R m).1.getD (m + j) 0 + A.getD m 0 * pj + (inner A pj j R m).2) / 4294967296) := rfl
        have hm0 : (0 : Int) ≤ (m : Int) := Int.natCast_nonneg _
        obtain ⟨q, hq⟩ : ∃ q, q = m + j := ⟨_, rfl⟩
        have hqi : (m : Int) + (j : Int) = (q : Int) := by omega
        have hqw : IntKind.i64.wrap (q : Int) = (q : Int) := IntWalk.i64_in _ (by omega)
        rw [← hq] at hstep hm
        by_cases hq4 : q < 4
        · have hqd : decide ((q : Int) < 4) = true := by simp; omega
          have hbd := step_lt (hI.2 q) (hAlt.out m) hpj.out hc
          have co := ts.o.cell (i := q) (by rw [hI.1]; exact hq4)
          have ca := ts.a.cell (i := m) (by rw [hAl.out]; omega)
          have cp := ts.p.cell (i := j) (by rw [hPl.out]; exact hlt)
          rw [← hpe.out] at cp
          have fo := ts.o.free q
          obtain ⟨O, hO⟩ : ∃ O, O = (inner A pj j R m).1 := ⟨_, rfl⟩
          obtain ⟨c, hcc⟩ : ∃ c, c = (inner A pj j R m).2 := ⟨_, rfl⟩
          rw [← hO] at hstep hbd co hI ts
          rw [← hcc] at hstep hbd hc ⊢
          obtain ⟨x, hx⟩ : ∃ x, x = O.getD q 0 := ⟨_, rfl⟩
          obtain ⟨y, hy⟩ : ∃ y, y = A.getD m 0 := ⟨_, rfl⟩
          rw [← hx, ← hy] at hstep hbd
          rw [← hx] at co
          rw [← hy] at ca
          obtain ⟨M, hM⟩ : ∃ M, M = y * pj := ⟨_, rfl⟩
          have e1 : (y : Int) * (pj : Int) = (M : Int) := by rw [hM]; simp
          rw [← hM] at hstep hbd
          obtain ⟨S, hS⟩ : ∃ S, S = x + M := ⟨_, rfl⟩
          rw [← hS] at hstep hbd
          obtain ⟨N, hN⟩ : ∃ N, N = S + c := ⟨_, rfl⟩
          rw [← hN] at hstep hbd
          have e2 : IntKind.u64.wrap (M : Int) = (M : Int) := IntWalk.u64_in _ (by omega)
          have e3 : (x : Int) + (M : Int) = (S : Int) := by omega
          have e4 : IntKind.u64.wrap (S : Int) = (S : Int) := IntWalk.u64_in _ (by omega)
          have e5 : (S : Int) + (c : Int) = (N : Int) := by omega
          have e6 : IntKind.u64.wrap (N : Int) = (N : Int) := IntWalk.u64_in _ (by omega)
          have f2 : (M : Int) % 18446744073709551616 = (M : Int) := by omega
          have f4 : (S : Int) % 18446744073709551616 = (S : Int) := by omega
          have f6 : (N : Int) % 18446744073709551616 = (N : Int) := by omega
          obtain ⟨lo, hlo⟩ : ∃ l, l = N % 4294967296 := ⟨_, rfl⟩
          obtain ⟨hi, hhi⟩ : ∃ l, l = N / 4294967296 := ⟨_, rfl⟩
          have e7 : (N : Int) % 4294967296 = (lo : Int) := by omega
          have e8 : (N : Int) / 4294967296 = (hi : Int) := by omega
          have hl64 : lo < 4294967296 := by omega
          have hh64 : hi < 18446744073709551616 := by omega
          rw [← hlo, ← hhi] at hstep
          have e9 : IntKind.u64.wrap (lo : Int) = (lo : Int) := IntWalk.u64_in _ (by omega)
          have e10 : IntKind.u64.wrap (hi : Int) = (hi : Int) := IntWalk.u64_in _ (by omega)
          clear hx hy hM hS hN hlo hhi hO hcc hI hc hbd hl64 hh64 hpj
          replace hstep := Lib.hid hstep; replace ts := Lib.hid ts; replace hq := Lib.hid hq; replace hm := Lib.hid hm
          go_upto_region 9 with (fail)
          go_quiet (fail)
          go_wp2
          go_roundw
          case rel => exact ⟨m + 1, by have := hq.out; omega, by go_num, by rw [hstep.out], by rw [hstep.out]; exact (ts.out.drewN _).put q lo⟩
          case measure => have := hm.out; simp [intOf]; omega
        · obtain rfl : q = 4 := by omega
          have hm4 : m = 4 - j := by omega
          have hqd : decide ((4 : Int) < 4) = false := by simp
          have hq4i : (m : Int) + (j : Int) = 4 := by omega
          have hs2 : rowsL A k (j + 1) = (inner A pj j R m).1 := by rw [hs1.out, hm4]
          clear hm4 hq4 hqi hstep hI hc hqw
          replace hs2 := Lib.hid hs2; replace ts := Lib.hid ts; replace hq := Lib.hid hq; replace hm := Lib.hid hm
          generalize (inner A pj j R m).2 = c
          go_wp2
          go_roundw
          case rel => exact ⟨j + 1, by omega, by go_num, by rw [hs2.out]; exact ts.out⟩
          case measure => simp [intOf]; omega
    · obtain rfl : j = 2 := by omega
      have htl : rowsL A k 2 = [o0, o1, o2, o3] := ho.out
      rw [htl] at ts
      have c0 := ts.o.cell (i := 0) (by simp)
      have c1 := ts.o.cell (i := 1) (by simp)
      have c2 := ts.o.cell (i := 2) (by simp)
      have c3 := ts.o.cell (i := 3) (by simp)
      simp only [List.getD_cons_zero, List.getD_cons_succ] at c0 c1 c2 c3
      have r0 := ts.r.cell (i := 0) (by simp)
      have r1 := ts.r.cell (i := 1) (by simp)
      have r2 := ts.r.cell (i := 2) (by simp)
      have r3 := ts.r.cell (i := 3) (by simp)
      have f0 := ts.r.free 0
      have f1 := ts.r.free 1
      have f2 := ts.r.free 2
      have f3 := ts.r.free 3
      clear htl hj hlt
      replace ts := Lib.hid ts
      go_wp2
      have hr := ts.out.r
      unfold DW at hr
      exact bodyPost_ret (v := .agg #[.int .u64 (o0 : Int), .int .u64 (o1 : Int), .int .u64 (o2 : Int), .int .u64 (o3 : Int)]) (results_cell_row rfl _ _ (w.heap.size + 1) 142 #[.int .u64 (o0 : Int), .int .u64 (o1 : Int), .int .u64 (o2 : Int), .int .u64 (o3 : Int)] (0, 0) _ rfl (by simp [World.setCell, Array.getElem?_modify, hr, dw]) Tryd.underlying142 rfl (by kernel_rfl)) rfl ⟨rfl, (((ts.out.bel.setCell (p := ⟨w.heap.size + 1, 0, none⟩) (Nat.le_succ _) _).setCell (p := ⟨w.heap.size + 1, 1, none⟩) (Nat.le_succ _) _).setCell (p := ⟨w.heap.size + 1, 2, none⟩) (Nat.le_succ _) _).setCell (p := ⟨w.heap.size + 1, 3, none⟩) (Nat.le_succ _) _⟩
end Go.Proofs.YtebhdlecekjhgaaDoor.roots
