/- record.Get of the bytes of the node of the labels 1 and 3; the law's awake. No condition. -/
import Derived.Test.YtcdgnhhciccoeaaDoorRecord2
import Derived.Test.YtcdgnhhciccoeaaDoorBytes3
import Derived.Deep.RegionLaw
namespace Go.Proofs.YtcdgnhhciccoeaaDoor.rec
open Go.RowKit
attribute [local go_sem ↓] Go.wp_at_zero Go.wp_at_succ
attribute [local go_sem] str_size
set_option linter.unusedVariables false
set_option maxRecDepth 100000

theorem sizeAlloc (w : World) (o : Obj) : (w.alloc o).heap.size = w.heap.size + 1 := by simp
theorem take_lit {w : World} {g : Nat} {r : List UInt8} (n : Nat) (hn : n < 128) (h : code.RdAt w g (UInt8.ofNat n :: r) 0) (most : Nat) (hm : n ≤ most) (hm2 : most < 18446744073709551616) :
    Calls Tryd.prog 39 #[.pointer (some ⟨g, 0, none⟩), .int .u64 (most : Int)] w fun e w' => e = .returned (.int .u64 (n : Int)) ∧ code.RdAt w' g r 0 ∧ Keeps [g] w w' := by
  have := code.takeNum_any h most (by omega)
  have e : code.takeNum most (UInt8.ofNat n :: r) = (n, r, 0) := by
    have := code.takeNum_numL n most r (by omega) hm
    rwa [code.numL_small n hn] at this
  rwa [e] at this
theorem bool_lit {w : World} {g : Nat} {r : List UInt8} (h : code.RdAt w g (0 :: r) 0) :
    Calls Tryd.prog 37 #[.pointer (some ⟨g, 0, none⟩)] w fun e w' => e = .returned (.bool false) ∧ code.RdAt w' g r 0 ∧ Keeps [g] w w' := by
  have c : Calls Tryd.prog 39 #[.pointer (some ⟨g, 0, none⟩), .int .u64 1] w fun e w' => e = .returned (.int .u64 0) ∧ code.RdAt w' g r 0 ∧ Keeps [g] w w' := take_lit 0 (by decide) h 1 (by decide) (by decide)
  clear h
  go_enter Tryd.func37, Tryd.ntmps37
  go_wp2_with (go_at_call 39; (with_reducible refine c.mono ?_); rintro e w1 ⟨rfl, b1, k1⟩)
  go_ret
  exact ⟨rfl, b1, k1⟩
theorem name_lit {w : World} {g : Nat} {r : List UInt8} (n : Nat) (hn : n < 64) (h : code.RdAt w g (UInt8.ofNat n :: r) 0) :
    Calls Tryd.prog 38 #[.pointer (some ⟨g, 0, none⟩)] w fun e w' => e = .returned (.int .i64 (n : Int)) ∧ code.RdAt w' g r 0 ∧ Keeps [g] w w' := by
  have c : Calls Tryd.prog 39 #[.pointer (some ⟨g, 0, none⟩), .int .u64 64] w fun e w' => e = .returned (.int .u64 (n : Int)) ∧ code.RdAt w' g r 0 ∧ Keeps [g] w w' := take_lit n (by omega) h 64 (by omega) (by decide)
  have hw : IntKind.i64.wrap (n : Int) = (n : Int) := IntWalk.i64_in _ (by omega)
  clear h
  replace c := Lib.hid c
  go_enter Tryd.func38, Tryd.ntmps38
  go_wp2_with (go_at_call 39; (with_reducible refine c.out.mono ?_); rintro e w1 ⟨rfl, b1, k1⟩)
  go_ret
  exact ⟨rfl, b1, k1⟩

theorem intInfo : (Tryd.prog.info? 3).map (fun i => (i.zero, i.size, i.bytes)) = some (some (.int .i64 0), 1, 8) := by kernel_rfl
theorem step_append_int {w : World} {ops : Array Oper} {o : Oper} {a : Act} {K : Act → World → Prop} {Q : Exit → Act → World → Prop} {E : Prop} (hgd : o.guard = none) (s x : Operand)
    (ho : o.op = .call { callee := .builtin .append, args := #[s, x], argTypes := #[22, 22] })
    (base : Nat) (v : Value) (n : Nat) (xs : List Value) (hs : a.eval s = v) (hown : w.ownsRow base 3 1 v n xs) (g c : Nat) (z : Int) (hx : a.eval x = .slice (some ⟨g, 0, none⟩) 1 c) (hc : w.cell? ⟨g, 0, none⟩ = some (.int .i64 z))
    (hl : n < 1000000) (hbase : base ≤ w.heap.size)
    (h : ∀ g' cap w', w'.ownsRow base 3 1 (.slice (some ⟨g', 0, none⟩) (n + 1) cap) (n + 1) (xs ++ [.int .i64 z]) → w.grownBy w' v.ownBlock → K (a.put o.dst (.slice (some ⟨g', 0, none⟩) (n + 1) cap)) w') :
    if Region.wanted o (yielded ops a.tmps) = true then Oper.wp Tryd.prog o a w K Q else E := by
  obtain ⟨i, hi, hz, hsz, hby⟩ := info_parts intInfo
  refine step_append_lies w hgd s x 22 ho base 3 i (.int .i64 0) 1 8 Tryd.underlying22 hi hz hsz hby rfl (by decide) v n xs hs hown ⟨g, 0, none⟩ 1 c [.int .i64 z] hx rfl ?_ ?_ (by decide) ?_ ?_ hbase _ rfl ?_
  · intro j u hj
    match j, hj with
    | 0, hj => simp at hj; subst hj; simpa [Addr.add] using hc
  · intro u hu; simp at hu; subst hu; rfl
  · unfold maxLen; omega
  · omega
  · intro g' cap w' h1 h2 _ _
    exact h g' cap w' h1 h2

/-- a thing's cells: a node of these labels -/
def cellsT (v : Value) : Array Value := #[.bool false, v, .int .i64 0, .int .u64 0, .int .u64 0, .slice none 0 0]
/-- 'Get' on its way -/
structure GS (w : World) (g gx : Nat) (l : List UInt8) (v : Value) (xs : List Value) (W : World) : Prop where
  res : W.heap[w.heap.size]? = some (.cells (cellsT (.slice none 0 0)) 26 (0, 0))
  rd : code.RdAt W g l 0
  box : W.heap[gx]? = some (.cells (cellsT v) 26 (0, 0))
  row : W.ownsRow (gx + 1) 3 1 v xs.length xs
  bel : Below w.heap.size w W
  lt1 : w.heap.size < g
  lt2 : g < gx
namespace GS
variable {w W W' : World} {g gx : Nat} {l l' : List UInt8} {v : Value} {xs : List Value}
theorem ltx (h : GS w g gx l v xs W) : gx < W.heap.size := block_lt h.box
theorem own (h : GS w g gx l v xs W) {k : Nat} (hk : v.ownBlock = some k) : gx + 1 ≤ k := (World.ownsRow.lt h.row k hk).1
theorem drew (h : GS w g gx l v xs W) : GS w g gx l v xs W.drew := ⟨h.res, h.rd, h.box, h.row, h.bel.drew, h.lt1, h.lt2⟩
theorem keeps (h : GS w g gx l v xs W) (r : code.RdAt W' g l' 0) (k : Keeps [g] W W') : GS w g gx l' v xs W' := by
  have h1 := h.lt1
  have h2 := h.lt2
  refine ⟨(k.block _ (block_lt h.res) (by simp; omega)).trans h.res, r, (k.block _ (block_lt h.box) (by simp; omega)).trans h.box, ?_, h.bel.trans (k.below h.bel.size (by simp; omega)), h1, h2⟩
  refine World.ownsRow.kept h.row (row := some g) ⟨k.os, k.tape, k.output, k.size, fun i hi hne => k.block i hi (by simpa using hne)⟩ ?_
  cases hv : v.ownBlock with
  | none => exact Or.inl rfl
  | some b => refine Or.inr ?_; have := h.own hv; simp; omega
theorem put (h : GS w g gx l v xs W) {o : Obj} {v2 : Value} {x : Value} {W2 : World} (hrow : W2.ownsRow (gx + 1) 3 1 v2 (xs.length + 1) (xs ++ [x])) (hg : (W.alloc o).grownBy W2 v.ownBlock) :
    GS w g gx l v2 (xs ++ [x]) (W2.setCell ⟨gx, 1, none⟩ v2) ∧ W2.cell? ⟨gx, 1, none⟩ = some v ∧ W2.frozen? ⟨gx, 1, none⟩ = false := by
  have h1 := h.lt1
  have h2 := h.lt2
  have h3 := h.ltx
  have hb : ∀ b, b ≤ gx → W2.heap[b]? = W.heap[b]? := fun b hb => by
    rw [hg.block b (by simp; omega) (fun e => by have := h.own e.symm; omega)]
    exact Below.heap_alloc W o b (by omega)
  have hx : W2.heap[gx]? = some (.cells (cellsT v) 26 (0, 0)) := (hb gx (Nat.le_refl _)).trans h.box
  have hs : ∀ b, b ≠ gx → (W2.setCell ⟨gx, 1, none⟩ v2).heap[b]? = W2.heap[b]? := fun b hb => Below.heap_setCell W2 _ _ b hb
  have hB : Below w.heap.size w W2 := (h.bel.alloc h.bel.size o).grown hg (by have := h.bel.size; simp; omega) (fun k hk => by have := h.own hk; omega)
  refine ⟨⟨?_, ?_, ?_, ?_, hB.setCell (p := ⟨gx, 1, none⟩) (by simp; omega) _, h1, h2⟩, cell_of_row _ _ 1 _ _ _ hx, by simp [World.frozen?, hx]⟩
  · rw [hs _ (by omega), hb _ (by omega)]; exact h.res
  · unfold code.RdAt; rw [hs _ (by omega), hb _ (by omega)]; exact h.rd
  · simp [World.setCell, Array.getElem?_modify, hx, cellsT]
  · refine World.ownsRow.kept (w := W2) (by simpa using hrow) (row := some gx) ⟨rfl, rfl, rfl, by simp [World.setCell], fun i hi hne => hs i (fun e => hne (by simp [e]))⟩ ?_
    cases hv : v2.ownBlock with
    | none => exact Or.inl rfl
    | some b => refine Or.inr ?_; have := (World.ownsRow.lt hrow b hv).1; simp; omega
theorem c0 (h : GS w g gx l v xs W) : W.cell? ⟨gx, 0, none⟩ = some (.bool false) := cell_of_row _ _ 0 _ _ _ h.box
theorem c1 (h : GS w g gx l v xs W) : W.cell? ⟨gx, 1, none⟩ = some v := cell_of_row _ _ 1 _ _ _ h.box
theorem c1a (h : GS w g gx l v xs W) (o : Obj) : (W.alloc o).cell? ⟨gx, 1, none⟩ = some v := (World.cell?_alloc_some W _ o (by rw [h.c1]; rfl)).trans h.c1
theorem c2 (h : GS w g gx l v xs W) : W.cell? ⟨gx, 2, none⟩ = some (.int .i64 0) := cell_of_row _ _ 2 _ _ _ h.box
theorem c3 (h : GS w g gx l v xs W) : W.cell? ⟨gx, 3, none⟩ = some (.int .u64 0) := cell_of_row _ _ 3 _ _ _ h.box
theorem c4 (h : GS w g gx l v xs W) : W.cell? ⟨gx, 4, none⟩ = some (.int .u64 0) := cell_of_row _ _ 4 _ _ _ h.box
theorem c5 (h : GS w g gx l v xs W) : W.cell? ⟨gx, 5, none⟩ = some (.slice none 0 0) := cell_of_row _ _ 5 _ _ _ h.box
theorem pure (h : GS w g gx l v xs W) (k : Below W.heap.size W W') : GS w g gx l v xs W' := by
  refine ⟨(k.block _ (block_lt h.res)).trans h.res, h.rd.below k, (k.block _ (block_lt h.box)).trans h.box, ?_, belowCont h.bel k, h.lt1, h.lt2⟩
  refine World.ownsRow.kept h.row (row := none) ⟨k.os, k.tape, k.output, k.size, fun i hi _ => k.block i hi⟩ ?_
  cases hv : v.ownBlock with
  | none => exact Or.inl rfl
  | some b => exact Or.inr (by simp)
theorem two {a b : Value} (h : GS w g gx l v [a, b] W) : ∃ q c, v = .slice (some ⟨q, 0, none⟩) 2 c ∧ gx + 1 ≤ q ∧ W.cell? ⟨q, 0, none⟩ = some a ∧ W.cell? ⟨q, 1, none⟩ = some b := by
  have hr := h.row
  rcases hr.2 with ⟨_, h0⟩ | ⟨g', cap, cur, rfl, hb, hg, _⟩
  · simp at h0
  · refine ⟨g', cap, rfl, hb, ?_, ?_⟩
    · exact World.ownsRow.cells hr (g := g') (by simp [Value.ownBlock]) 0 a rfl
    · exact World.ownsRow.cells hr (g := g') (by simp [Value.ownBlock]) 1 b rfl
theorem cells2 {q c : Nat} {a b : Value} (h : GS w g gx l (.slice (some ⟨q, 0, none⟩) 2 c) [a, b] W) : W.cell? ⟨q, 0, none⟩ = some a ∧ W.cell? ⟨q, 1, none⟩ = some b :=
  ⟨World.ownsRow.cells h.row (g := q) (by simp [Value.ownBlock]) 0 a rfl, World.ownsRow.cells h.row (g := q) (by simp [Value.ownBlock]) 1 b rfl⟩
theorem r (h : GS w g gx l v xs W) : W.cell? ⟨w.heap.size, 0, none⟩ = some (.bool false) ∧ W.cell? ⟨w.heap.size, 1, none⟩ = some (.slice none 0 0) ∧ W.cell? ⟨w.heap.size, 2, none⟩ = some (.int .i64 0) ∧ W.cell? ⟨w.heap.size, 3, none⟩ = some (.int .u64 0) ∧ W.cell? ⟨w.heap.size, 4, none⟩ = some (.int .u64 0) ∧ W.cell? ⟨w.heap.size, 5, none⟩ = some (.slice none 0 0) :=
  ⟨cell_of_row _ _ 0 _ _ _ h.res, cell_of_row _ _ 1 _ _ _ h.res, cell_of_row _ _ 2 _ _ _ h.res, cell_of_row _ _ 3 _ _ _ h.res, cell_of_row _ _ 4 _ _ _ h.res, cell_of_row _ _ 5 _ _ _ h.res⟩
theorem fr (h : GS w g gx l v xs W) (i : Nat) : W.frozen? ⟨w.heap.size, i, none⟩ = false := by simp [World.frozen?, h.res]
end GS
theorem get_results (tmps : Array Value) (W' : World) (g : Nat) (cs : Array Value) (h2 : tmps.getD 2 undef = .pointer (some ⟨g, 0, none⟩)) (h3 : tmps.getD 3 undef = .int .i64 0) (hg : W'.heap[g]? = some (.cells cs 26 (0, 0))) (hi : cs.size = 6) :
    (results Tryd.f9 tmps).run Tryd.prog W' = .ok (.tuple #[.agg cs, .int .i64 0]) W' := by
  have h2' : tmps[2]?.getD undef = .pointer (some ⟨g, 0, none⟩) := by simpa using h2
  have h3' : tmps[3]?.getD undef = .int .i64 0 := by simpa using h3
  have hs : (Tryd.prog.info? 26).map (·.size) = some cs.size := by rw [hi]; kernel_rfl
  simp [results, Tryd.results9, h2', h3', asAddr, run_loadVar_row W' g 26 26 cs (0, 0) _ hg Tryd.underlying26 rfl hs]
theorem end_ok {w : World} {g : Nat} (h : code.RdAt w g [] 0) : Calls Tryd.prog 41 #[.pointer (some ⟨g, 0, none⟩)] w fun e w' => e = .returned (.int .i64 0) ∧ Below w.heap.size w w' := by
  have hl : Calls Tryd.prog 86 #[.pointer (some ⟨g, 0, none⟩)] w fun e' w' => e' = .returned (.int .i64 0) ∧ Below w.heap.size w w' := code.left_any h
  replace h := Lib.hid h
  go_enter Tryd.func41, Tryd.ntmps41
  go_wp2_with (first | (go_at_call 86; (with_reducible refine hl.mono ?_); rintro e w1 ⟨rfl, b1⟩; have he := code.err_any (h.out.below b1); replace b1 := Lib.hid b1) | (go_at_call 85; (with_reducible refine he.mono ?_); rintro e w2 ⟨rfl, b2⟩; replace b2 := Lib.hid b2))
  go_ret
  exact ⟨rfl, belowCont b1.out b2.out⟩
def restL : Nat → List UInt8
  | 0 => [1, 3, 0]
  | 1 => [3, 0]
  | _ => [0]
def labV : Nat → List Value
  | 0 => []
  | 1 => [.int .i64 1]
  | _ => [.int .i64 1, .int .i64 3]
set_option maxHeartbeats 4000000 in
theorem get_13 (w : World) : Calls Tryd.prog 9 #[.string (str [0, 2, 1, 3, 0])] w fun e w' => ∃ q c : Nat, e = .returned (.tuple #[.agg #[.bool false, .slice (some ⟨q, 0, none⟩) 2 c, .int .i64 0, .int .u64 0, .int .u64 0, .slice none 0 0], .int .i64 0]) ∧ w'.cell? ⟨q, 0, none⟩ = some (.int .i64 1) ∧ w'.cell? ⟨q, 1, none⟩ = some (.int .i64 3) ∧ Below w.heap.size w w' := by
  have t2 : ∀ (W : World) (g : Nat) (r : List UInt8), code.RdAt W g (2 :: r) 0 → Calls Tryd.prog 39 #[.pointer (some ⟨g, 0, none⟩), .int .u64 8] W fun e w' => e = .returned (.int .u64 2) ∧ code.RdAt w' g r 0 ∧ Keeps [g] W w' := fun W g r h => take_lit 2 (by decide) h 8 (by decide) (by decide)
  have t0 : ∀ (W : World) (g : Nat) (r : List UInt8), code.RdAt W g (0 :: r) 0 → Calls Tryd.prog 39 #[.pointer (some ⟨g, 0, none⟩), .int .u64 16] W fun e w' => e = .returned (.int .u64 0) ∧ code.RdAt w' g r 0 ∧ Keeps [g] W w' := fun W g r h => take_lit 0 (by decide) h 16 (by decide) (by decide)
  have n1 : ∀ (W : World) (g : Nat) (r : List UInt8), code.RdAt W g (1 :: r) 0 → Calls Tryd.prog 38 #[.pointer (some ⟨g, 0, none⟩)] W fun e w' => e = .returned (.int .i64 1) ∧ code.RdAt w' g r 0 ∧ Keeps [g] W w' := fun W g r h => name_lit 1 (by decide) h
  have n3 : ∀ (W : World) (g : Nat) (r : List UInt8), code.RdAt W g (3 :: r) 0 → Calls Tryd.prog 38 #[.pointer (some ⟨g, 0, none⟩)] W fun e w' => e = .returned (.int .i64 3) ∧ code.RdAt w' g r 0 ∧ Keeps [g] W w' := fun W g r h => name_lit 3 (by decide) h
  replace t2 := Lib.hid t2; replace t0 := Lib.hid t0; replace n1 := Lib.hid n1; replace n3 := Lib.hid n3
  go_enter Tryd.func9, Tryd.ntmps9
  go_upto_region 3 with (first
    | (go_at_call 36; (with_reducible refine (code.read_any _ _).mono ?_); rintro e w1 ⟨rfl, r1, b1⟩; rw [str_toList, sizeAlloc] at r1; have r1x := Lib.hid r1; replace b1 := Lib.hid b1; clear r1)
    | (go_at_call 37; (with_reducible refine (bool_lit r1x.out).mono ?_); rintro e w2 ⟨rfl, r2, k2⟩; replace r2 := Lib.hid r2; replace k2 := Lib.hid k2))
  have gs : GS w (w.heap.size + 1) w2.heap.size [2, 1, 3, 0] (.slice none 0 0) [] (w2.alloc (.cells (cellsT (.slice none 0 0)) 26)) := by
    have h := boxRow b1.out
    have hl1 := block_lt h.1
    have hk := k2.out
    have hl2 := hk.size
    have hr := block_lt r1x.out
    refine ⟨(Below.heap_alloc w2 _ _ (by omega)).trans ((hk.block _ hl1 (by simp)).trans h.1), r2.out.below ((Below.refl _ _).alloc (Nat.le_refl _) _), heap_alloc_new w2 _, World.ownsRow_nil _ _ _ _, ?_, by omega, by omega⟩
    exact (h.2.2.2.trans (hk.below h.2.2.2.size (by simp))).alloc (by omega) _
  clear b1 k2 r1x r2
  unfold cellsT at gs
  generalize w2.alloc (.cells #[.bool false, .slice none 0 0, .int .i64 0, .int .u64 0, .int .u64 0, .slice none 0 0] 26) = W at gs ⊢
  generalize w2.heap.size = gx at gs ⊢
  generalize hg : w.heap.size + 1 = g at gs ⊢
  clear w2 hg
  have c0 := gs.c0
  replace gs := Lib.hid gs
  go_upto_region 8 with (go_at_call 39; (with_reducible refine (t2.out _ _ _ gs.out.rd).mono ?_); rintro e w3 ⟨rfl, r3, k3⟩; replace gs := Lib.hid (gs.out.keeps r3 k3); clear r3 k3)
  clear c0
  go_loopw [25] (fun i wr => ∃ (k : Nat) (v : Value), k ≤ 2 ∧ i = .int .u64 k ∧ GS w g gx (restL k) v (labV k) wr) (fun i _ => 2 - (intOf i).toNat)
  case atStart => exact ⟨0, _, by omega, rfl, gs.out⟩
  case round =>
    clear gs
    obtain ⟨k, v, hk, rfl, gs⟩ := hrel
    have : k = 0 ∨ k = 1 ∨ k = 2 := by omega
    clear hk
    rcases this with rfl | rfl | rfl
    · have c1 := gs.c1
      replace gs := Lib.hid gs
      go_upto_region 9 with (fail)
      have gd := Lib.hid gs.out.drew
      have d1 := gd.out.c1
      go_region_law (first
        | (go_simp; go_at_call 38; (with_reducible refine (n1.out _ _ _ gd.out.rd).mono ?_); rintro e w3 ⟨rfl, r3, k3⟩; have g3 := Lib.hid (gd.out.keeps r3 k3); clear r3 k3; have d3 := g3.out.c1; have d4 := g3.out.c1a; dsimp only)
        | (refine step_append_int rfl _ _ rfl (gx + 1) _ _ _ rfl (g3.out.row.alloc _) _ _ _ rfl (newCell _ _ _ 0) ?ha ?hb ?_; (case ha => decide); (case hb => have := g3.out.ltx; simp; omega); intro g' cap w4 hrow hgrow; obtain ⟨g4, e4, e5⟩ := g3.out.put hrow hgrow; replace g4 := Lib.hid g4; clear hrow hgrow))
      all_goals go_wp2
      all_goals
        go_roundw
        case rel => exact ⟨1, _, by omega, rfl, g4.out⟩
        case measure => simp [intOf]
    · have c1 := gs.c1
      replace gs := Lib.hid gs
      go_upto_region 9 with (fail)
      have gd := Lib.hid gs.out.drew
      have d1 := gd.out.c1
      go_region_law (first
        | (go_simp; go_at_call 38; (with_reducible refine (n3.out _ _ _ gd.out.rd).mono ?_); rintro e w3 ⟨rfl, r3, k3⟩; have g3 := Lib.hid (gd.out.keeps r3 k3); clear r3 k3; have d3 := g3.out.c1; have d4 := g3.out.c1a; dsimp only)
        | (refine step_append_int rfl _ _ rfl (gx + 1) _ _ _ rfl (g3.out.row.alloc _) _ _ _ rfl (newCell _ _ _ 0) ?ha ?hb ?_; (case ha => decide); (case hb => have := g3.out.ltx; simp; omega); intro g' cap w4 hrow hgrow; obtain ⟨g4, e4, e5⟩ := g3.out.put hrow hgrow; replace g4 := Lib.hid g4; clear hrow hgrow))
      all_goals go_wp2
      all_goals
        go_roundw
        case rel => exact ⟨2, _, by omega, rfl, g4.out⟩
        case measure => simp [intOf]
    · obtain ⟨q, c, rfl, hq, hc0, hc1⟩ := gs.two
      have gs2 : GS w g gx [0] (.slice (some ⟨q, 0, none⟩) 2 c) [.int .i64 1, .int .i64 3] wr := gs
      clear gs
      have gs := Lib.hid gs2
      clear gs2 hc0 hc1
      replace hq := Lib.hid hq
      go_upto_region 12 with (go_at_call 39; (with_reducible refine (t0.out _ _ _ gs.out.rd).mono ?_); rintro e w3 ⟨rfl, r3, k3⟩; replace gs := Lib.hid (gs.out.keeps r3 k3); clear r3 k3)
      go_loopw [37] (fun i wr => i = .int .u64 0 ∧ GS w g gx [] (.slice (some ⟨q, 0, none⟩) 2 c) [.int .i64 1, .int .i64 3] wr) (fun i _ => 0)
      case atStart => exact ⟨rfl, gs.out⟩
      case round =>
        clear gs
        obtain ⟨rfl, gs⟩ := hrel
        replace gs := Lib.hid gs
        go_upto_region 18 with (go_at_call 41; (with_reducible refine (end_ok gs.out.rd).mono ?_); rintro e w3 ⟨rfl, b3⟩; have g3 := Lib.hid (gs.out.pure b3); clear b3; have c0 := g3.out.c0; have c1 := g3.out.c1; have c2 := g3.out.c2; have c3 := g3.out.c3; have c4 := g3.out.c4; have c5 := g3.out.c5)
        obtain ⟨x0, x1⟩ := g3.out.cells2
        have hmay := may_13 q c w3 x0 x1
        clear x0 x1
        replace hmay := Lib.hid hmay
        go_upto_region 20 with (go_at_call 12; (with_reducible refine hmay.out.mono ?_); rintro e w4 ⟨rfl, b4⟩; have g4 := Lib.hid (g3.out.pure b4); clear b4; replace c0 := g4.out.c0; replace c1 := g4.out.c1; replace c2 := g4.out.c2; replace c3 := g4.out.c3; replace c4 := g4.out.c4; replace c5 := g4.out.c5)
        clear hmay
        obtain ⟨r0, r1, r2, r3, r4, r5⟩ := g4.out.r
        have fz0 := g4.out.fr 0
        have fz1 := g4.out.fr 1
        have fz2 := g4.out.fr 2
        have fz3 := g4.out.fr 3
        have fz4 := g4.out.fr 4
        have fz5 := g4.out.fr 5
        go_wp2
        have hres := g4.out.res
        obtain ⟨x0, x1⟩ := g4.out.cells2
        have h1 := g4.out.lt1
        have h2 := g4.out.lt2
        have h3 := hq.out
        refine bodyPost_ret (get_results _ _ w.heap.size #[.bool false, .slice (some ⟨q, 0, none⟩) 2 c, .int .i64 0, .int .u64 0, .int .u64 0, .slice none 0 0] rfl rfl (by simp [World.setCell, Array.getElem?_modify, hres, cellsT]) rfl) rfl ?_
        refine ⟨q, c, rfl, ?_, ?_, ?_⟩
        · simp [World.cell?_setCell_far, x0, Nat.ne_of_lt (show w.heap.size < q by omega)]
        · simp [World.cell?_setCell_far, x1, Nat.ne_of_lt (show w.heap.size < q by omega)]
        · exact ((((((g4.out.bel.setCell (p := ⟨w.heap.size, 0, none⟩) (Nat.le_refl _) _).setCell (p := ⟨w.heap.size, 1, none⟩) (Nat.le_refl _) _).setCell (p := ⟨w.heap.size, 2, none⟩) (Nat.le_refl _) _).setCell (p := ⟨w.heap.size, 3, none⟩) (Nat.le_refl _) _).setCell (p := ⟨w.heap.size, 4, none⟩) (Nat.le_refl _) _).setCell (p := ⟨w.heap.size, 5, none⟩) (Nat.le_refl _) _)
end Go.Proofs.YtcdgnhhciccoeaaDoor.rec
