/- What sessions hold: Take, where nobody is against it. No condition but the table's own. -/
import Derived.Test.YtmeaidkbkelclabLock3
import Derived.Deep.DeepCutAuto
namespace Go.Proofs.Ytmeaidkbkelclab.lock
open Go.RowKit
attribute [local go_sem ↓] Go.wp_at_zero Go.wp_at_succ
attribute [local go_sem] str_size
set_option linter.unusedVariables false
set_option maxRecDepth 100000

section
variable {w w' : World} {g m N : Nat} {T : List UInt8 → Nat → Nat} {held : Nat → Nat} {things : Nat}
set_option maxHeartbeats 4000000 in
/-- nobody is against it -/
theorem take_ok (h : LockAt w g m N T held things) (who : Nat) (hw : who < 16) (k : List UInt8) (hk0 : k ≠ []) (hk : k.length ≤ 1000000000) (al : Bool) (hm : ¬ (T k who = 0 ∧ 512 ≤ held who)) (hag : agK (T k) who al 16 = []) (hN : N ≤ 1000000) (hh : held who ≤ 1000000) :
    Calls Try.prog 16 #[.pointer (some ⟨g, 0, none⟩), .int .i64 (who : Int), .agg #[.string (str k), .bool al]] w fun e w' => e = .returned (.tuple #[.slice none 0 0, .int .i64 0]) ∧ LockAt w' g m (N + 1) (newT T k (newH (T k) who al)) (heldUp held (T k) who) (upThings things (T k)) ∧ Keeps [g, m] w w' := by
  have hcal : ∀ W, Calls Try.prog 25 #[holdV (T k), .int .i64 (who : Int), .agg #[.string (str k), .bool al]] W fun e w' => ∃ ad cp, e = .returned (.slice ad 0 cp) ∧ Below W.heap.size W w' := fun W => (against_any (T k) who al (str k) W).mono fun e w' ⟨v, he, hp⟩ => by
    rw [hag] at hp
    obtain ⟨ad, cp, rfl⟩ := rowShape (hp.row (i := 0) rfl)
    exact ⟨ad, cp, he, hp.bel⟩
  unfold holdV at hcal
  have hn1 : (w.alloc (.cells #[.string (str k), .bool al] 56)).cell? ⟨w.heap.size, 1, none⟩ = some (.bool al) := (newCell w #[.string (str k), .bool al] 56 1).trans rfl
  have hglt := h.lt
  have hgm := h.ne
  clear hag
  have hs := session_yes (who : Int) ⟨by omega, by omega⟩
  have hb : Below w.heap.size w (w.alloc (.cells #[.string (str k), .bool al] 56)) := (Below.refl _ _).alloc (Nat.le_refl _) _
  have h1 := h.below hb
  have he : (str k).toList.isEmpty = false := by rw [str_bl]; cases k <;> simp at hk0 ⊢
  have c0 := h1.cell0
  have hlk := fun W (hW : LockAt W g m N T held things) => hW.look k hk
  have hn0 : (w.alloc (.cells #[.string (str k), .bool al] 56)).cell? ⟨w.heap.size, 0, none⟩ = some (.string (str k)) := (newCell w #[.string (str k), .bool al] 56 0).trans rfl
  have hs16 : (cells16 (T k)).toArray.size = 16 := by simp [cells16_len]
  have hC1 := cells16_one (T k)
  have hTk : (cells16 (T k))[who]? = some (.int .i64 (T k who : Int)) := cells16_at _ hw
  unfold holdV at hlk
  obtain ⟨C, hC⟩ : ∃ C, C = cells16 (T k) := ⟨_, rfl⟩
  have hCl : C.length = 16 := by rw [hC]; exact cells16_len _
  have hCi : (Try.prog.info? 73).map (·.size) = some C.length := by rw [hCl]; kernel_rfl
  have hone : ∀ v : Value, v ∈ C → v.oneCell' = true := fun v hv => by
    rw [Array.all_eq_true_iff_forall_mem] at hC1
    exact hC1 v (by rw [← hC]; simpa using hv)
  rw [← hC] at hlk hcal
  replace hcal := Lib.hid hcal
  have hlt0 : w.heap.size < (w.alloc (.cells #[.string (str k), .bool al] 56)).heap.size := by simp
  replace hlt0 := Lib.hid hlt0; replace hs := Lib.hid hs; replace hC := Lib.hid hC; replace h1 := Lib.hid h1; replace hlk := Lib.hid hlk
  have l0 := hlk.out _ h1.out
  replace hn1 := Lib.hid hn1
  clear h hs16 hC1 hTk
  go_enter Try.func16, Try.ntmps16
  go_wp2_with (go_at_call 24; (with_reducible refine (hs.out _).mono ?_); rintro e w1 ⟨rfl, rfl⟩)
  generalize w.alloc (.cells #[.string (str k), .bool al] 56) = W0 at *
  have hS : ∀ W', Below W0.heap.size W0 W' → LockAt W' g m N T held things ∧ Below w.heap.size w W' ∧ W'.cell? ⟨g, 0, none⟩ = some (.map (some m)) ∧ W'.cell? ⟨w.heap.size, 0, none⟩ = some (.string (str k)) ∧ (Instr.lookup 69 (.map (some m)) (.string (str k)) false).run Try.prog W' = .ok (.agg C.toArray) W' := fun W' b => by
    have h2 := h1.out.below b
    exact ⟨h2, belowCont hb b, h2.cell0, (b.cell (p := ⟨w.heap.size, 0, none⟩) hlt0.out).trans hn0, hlk.out _ h2⟩
  have hth : (W0.alloc (.cells #[.int .i64 0, .int .i64 0, .int .i64 0, .int .i64 0, .int .i64 0, .int .i64 0, .int .i64 0, .int .i64 0, .int .i64 0, .int .i64 0, .int .i64 0, .int .i64 0, .int .i64 0, .int .i64 0, .int .i64 0, .int .i64 0] 73)).drew.there W0.heap.size 0 16 := fun j hj => by
    have hj2 : j < 16 := hj
    have hq := heap_alloc_new W0 (.cells #[.int .i64 0, .int .i64 0, .int .i64 0, .int .i64 0, .int .i64 0, .int .i64 0, .int .i64 0, .int .i64 0, .int .i64 0, .int .i64 0, .int .i64 0, .int .i64 0, .int .i64 0, .int .i64 0, .int .i64 0, .int .i64 0] 73)
    refine ⟨?_, ?_⟩
    · rw [Nat.zero_add]
      have := cell_of_row _ _ j _ _ _ hq
      show (World.cell? (W0.alloc _) _).isSome = true
      rw [this]; simp [hj2]
    · exact frozen_of_row _ _ _ _ _ hq
  replace hS := Lib.hid hS
  first | (go_loud (go_region_held3 (fun W' => LockAt W' g m N T held things ∧ Below w.heap.size w W' ∧ W'.cell? ⟨g, 0, none⟩ = some (.map (some m)) ∧ W'.cell? ⟨w.heap.size, 0, none⟩ = some (.string (str k)) ∧ (Instr.lookup 69 (.map (some m)) (.string (str k)) false).run Try.prog W' = .ok (.agg C.toArray) W') (first | exact hS.out _ ((Below.refl _ _).drew) | exact hS.out _ (((Below.refl _ _).alloc (Nat.le_refl _) _).drew) | exact hS.out _ (belowCells _ _ _ (((Below.refl _ _).alloc (Nat.le_refl _) _).drew) (Nat.le_refl _))) (fail))) | fail
  all_goals
    have hq3 := heap_allCells (W := (W0.alloc (.cells #[.int .i64 0, .int .i64 0, .int .i64 0, .int .i64 0, .int .i64 0, .int .i64 0, .int .i64 0, .int .i64 0, .int .i64 0, .int .i64 0, .int .i64 0, .int .i64 0, .int .i64 0, .int .i64 0, .int .i64 0, .int .i64 0] 73)).drew) (heap_alloc_new W0 _) C (by rw [hCl]; rfl)
    have hb3 := belowCells (B := W0.heap.size) (g := W0.heap.size) C 0 _ (((Below.refl W0.heap.size W0).alloc (Nat.le_refl _) (.cells #[.int .i64 0, .int .i64 0, .int .i64 0, .int .i64 0, .int .i64 0, .int .i64 0, .int .i64 0, .int .i64 0, .int .i64 0, .int .i64 0, .int .i64 0, .int .i64 0, .int .i64 0, .int .i64 0, .int .i64 0, .int .i64 0] 73)).drew) (Nat.le_refl _)
    generalize ((W0.alloc (.cells #[.int .i64 0, .int .i64 0, .int .i64 0, .int .i64 0, .int .i64 0, .int .i64 0, .int .i64 0, .int .i64 0, .int .i64 0, .int .i64 0, .int .i64 0, .int .i64 0, .int .i64 0, .int .i64 0, .int .i64 0, .int .i64 0] 73)).drew).setCells W0.heap.size 0 C = W3 at *
    obtain ⟨hL3, hw3, c0, n0, _⟩ := hS.out _ hb3
    have cH := hL3.cellH' hw
    have d0 := (cell_of_row _ _ who _ _ _ hq3).trans (show C.toArray[who]? = some (.int .i64 (T k who : Int)) by rw [hC.out]; simpa using cells16_at (T k) hw)
    have i0 : (0 : Int) ≤ (who : Int) := by omega
    have i1 : (who : Int) < 16 := by omega
    have n1 := (hb3.cell (p := ⟨w.heap.size, 1, none⟩) hlt0.out).trans hn1.out
    have hi16 : (Try.prog.info? 73).map (·.size) = some C.toArray.size := by rw [List.size_toArray]; exact hCi
    have hqlt : w.heap.size < W0.heap.size := hlt0.out
    have nA : ¬ w.heap.size = g := by omega
    have nB : ¬ w.heap.size = W0.heap.size := by omega
    have nC : ¬ g = W0.heap.size := by omega
    have nA' : ¬ g = w.heap.size := by omega
    have nB' : ¬ W0.heap.size = w.heap.size := by omega
    have nC' : ¬ W0.heap.size = g := by omega
    replace hq3 := Lib.hid hq3; replace hL3 := Lib.hid hL3; replace hw3 := Lib.hid hw3; replace hglt := Lib.hid hglt; replace hqlt := Lib.hid hqlt; replace hN := Lib.hid hN
    clear hS hth hb3 hCi hone
    by_cases h0 : T k who = 0
    · have t0 : ((T k who : Int) == 0) = true := by simpa using (by omega : (T k who : Int) = 0)
      have t1 : ¬ (512 : Int) ≤ (held who : Int) := by omega
      replace h0 := Lib.hid h0
      clear hm
      cases al with
      | false =>
        go_wp2_with (first
          | (refine wpList_load_row rfl 73 (.tmp 8) rfl W0.heap.size rfl 73 C.toArray (0, 0) _ hq3.out Try.underlying73 rfl hi16 ?_)
          | (go_at_call 25; (with_reducible refine (hcal.out _).mono ?_); rintro e w4 ⟨ad, cp, rfl, b4⟩; replace hL3 := Lib.hid (hL3.out.below b4); replace hw3 := Lib.hid (belowCont hw3.out b4); replace hq3 := Lib.hid ((b4.block _ (block_lt hq3.out)).trans hq3.out); have c4 := hL3.out.cell0; have cH4 := hL3.out.cellH' hw; have f4 := hL3.out.free (1 + who); have m0 := (b4.cell (p := ⟨w.heap.size, 0, none⟩) (block_lt_of_cell n0)).trans n0; have m1 := (b4.cell (p := ⟨w.heap.size, 1, none⟩) (block_lt_of_cell n1)).trans n1; have d4 := (b4.cell (p := ⟨W0.heap.size, who, none⟩) (block_lt_of_cell d0)).trans d0; have fq : w4.frozen? ⟨W0.heap.size, who, none⟩ = false := frozen_of_row _ _ _ _ _ hq3.out; have hnm := fun W => nilMap m W; clear n0 n1 d0 c0 cH b4))

        have e1 : IntKind.i64.wrap ((held who : Int) + 1) = (held who : Int) + 1 := IntWalk.i64_in _ (by omega)
        refine wp_region_still_tail 10 (by kernel_rfl) (by kernel_rfl) ?_
        simp only [List.take_succ_cons, List.take_zero, List.drop_succ_cons, List.drop_zero]
        repeat still_step
        try refine wpStill_nil ?_
        change wpList _ _ _ _ _ w4.drew
        go_wp2
        have hX : LockAt (((w4.setCell ⟨g, 1 + who, none⟩ (.int .i64 ((held who : Int) + 1))).setCell ⟨W0.heap.size, who, none⟩ (.int .i64 1)).drew) g m N T (heldUp held (T k) who) things ∧ (((w4.setCell ⟨g, 1 + who, none⟩ (.int .i64 ((held who : Int) + 1))).setCell ⟨W0.heap.size, who, none⟩ (.int .i64 1)).drew).heap[W0.heap.size]? = some (.cells (cells16 (newH (T k) who false)).toArray 73 (0, 0)) ∧ Keeps [g] w (((w4.setCell ⟨g, 1 + who, none⟩ (.int .i64 ((held who : Int) + 1))).setCell ⟨W0.heap.size, who, none⟩ (.int .i64 1)).drew) ∧ (((w4.setCell ⟨g, 1 + who, none⟩ (.int .i64 ((held who : Int) + 1))).setCell ⟨W0.heap.size, who, none⟩ (.int .i64 1)).drew).cell? ⟨w.heap.size, 0, none⟩ = some (.string (str k)) := by
          have zh : LockAt (w4.setCell ⟨g, 1 + who, none⟩ (.int .i64 ((held who : Int) + 1))) g m N T (heldUp held (T k) who) things := by
            have z1 := hL3.out.setHeld hw (held who + 1) ((held who : Int) + 1) (by omega)
            have e : (fun y => if y = who then held who + 1 else held y) = heldUp held (T k) who := by funext y; unfold heldUp; rw [if_pos h0.out]
            rw [e] at z1; exact z1
          have zq : (w4.setCell ⟨g, 1 + who, none⟩ (.int .i64 ((held who : Int) + 1))).heap[W0.heap.size]? = some (.cells (cells16 (T k)).toArray 73 (0, 0)) := by rw [← hC.out]; exact (Below.heap_setCell w4 _ _ _ (fun e => nC e.symm)).trans hq3.out
          have kY : Keeps [g] w (w4.setCell ⟨g, 1 + who, none⟩ (.int .i64 ((held who : Int) + 1))) := (Keeps.ofBelow hw3.out [g]).setCell (p := ⟨g, 1 + who, none⟩) (Or.inl (by simp)) _
          have zn : (w4.setCell ⟨g, 1 + who, none⟩ (.int .i64 ((held who : Int) + 1))).cell? ⟨w.heap.size, 0, none⟩ = some (.string (str k)) := (((Keeps.refl [g] w4).setCell (p := ⟨g, 1 + who, none⟩) (Or.inl (by simp)) _).cell (p := ⟨w.heap.size, 0, none⟩) (block_lt_of_cell m0) (by simpa using nA)).trans m0
          generalize w4.setCell ⟨g, 1 + who, none⟩ (.int .i64 ((held who : Int) + 1)) = Y at zh zq kY zn ⊢
          have zq2 := heap_setCell_same _ _ who _ _ (.int .i64 1) zq
          rw [cells16_set _ hw 1 1 rfl] at zq2
          have zh2 := zh.keep ((Keeps.refl [W0.heap.size] Y).setCell (p := ⟨W0.heap.size, who, none⟩) (Or.inl (by simp)) (.int .i64 1)) (by simpa using nC) (by have := hglt.out; have := hqlt.out; simp; omega)
          have kY2 := kY.setCell (p := ⟨W0.heap.size, who, none⟩) (Or.inr (Nat.le_of_lt hqlt.out)) (.int .i64 1)
          have zn2 : (Y.setCell ⟨W0.heap.size, who, none⟩ (.int .i64 1)).cell? ⟨w.heap.size, 0, none⟩ = some (.string (str k)) := (((Keeps.refl [W0.heap.size] Y).setCell (p := ⟨W0.heap.size, who, none⟩) (Or.inl (by simp)) _).cell (p := ⟨w.heap.size, 0, none⟩) (block_lt_of_cell zn) (by simpa using nB)).trans zn
          clear zq zh kY zn
          generalize Y.setCell ⟨W0.heap.size, who, none⟩ (.int .i64 1) = Z at zq2 zh2 kY2 zn2 ⊢
          clear Y
          obtain ⟨Y, rfl⟩ : ∃ Y, Y = Z := ⟨_, rfl⟩
          have zq := zq2; have zh := zh2; have kY := kY2; have zn := zn2; clear zq2 zh2 kY2 zn2
          rw [cells16_ext (k := newH (T k) who false) (fun y hy => by unfold newH; by_cases hyw : y = who <;> simp [hyw, h0.out])] at zq
          exact ⟨by simpa using zh.below (Below.refl _ _).drew, zq, kY.drew, zn⟩
        generalize ((w4.setCell ⟨g, 1 + who, none⟩ (.int .i64 ((held who : Int) + 1))).setCell ⟨W0.heap.size, who, none⟩ (.int .i64 1)).drew = X at hX ⊢
        obtain ⟨hX1, hX2, hX3, hX4⟩ := hX
        have x0 := hX1.cell0
        have hkey := keyStr k hk
        have hnA := newH_any (T k) hw false
        have hX0 := hX1.below (Below.refl _ _).drew
        obtain ⟨D, c, q1, q2, q3, q4, q5⟩ := hX0.own
        replace q2 := Lib.hid q2; replace q3 := Lib.hid q3; replace q4 := Lib.hid q4; replace q5 := Lib.hid q5; replace q1 := Lib.hid q1; replace hnA := Lib.hid hnA; replace hX0 := Lib.hid hX0
        replace hX1 := Lib.hid hX1; replace hX2 := Lib.hid hX2; replace hX3 := Lib.hid hX3
        clear hL3 hw3 hq3 c4 cH4 f4 m0 m1 d4 fq hlk l0 h1 hn0 hn1 c0
        refine wp_region_still_tail 7 (by kernel_rfl) (by kernel_rfl) ?_
        simp only [List.take_succ_cons, List.take_zero, List.drop_succ_cons, List.drop_zero]
        repeat still_step
        refine still_load_row _ (by rw [List.size_toArray, cells16_len]; kernel_rfl) Try.underlying73 rfl (.tmp 8) rfl W0.heap.size rfl hX2.out ?_
        repeat still_step
        try refine wpStill_nil ?_
        change wpList _ _ _ _ _ X.drew
        go_wp2_with (at_mapUpdate; go_loud (refine wpList_mapUpdate_in _ rfl _ _ _ 69 rfl 9 73 keyedStr Try.underlying69 holdElem m c D rfl q1.out (by have := q2.out; have := hN.out; unfold maxLen; omega) _ _ (.string k) rfl rfl hkey _ [] (holdElem_mk (newH (T k) who false)) ?_; intro w8 hown8 hturn8; have hfin := hX0.out.laid hnA.out q1.out q2.out q3.out q4.out q5.out hown8 hturn8; replace hfin := Lib.hid hfin))
        go_ret2
        exact ⟨rfl, hfin.out.1, hX3.out.drew.more (by simp) |>.trans (hfin.out.2.more (by simp))⟩
      | true =>
        go_wp2_with (first
          | (refine wpList_load_row rfl 73 (.tmp 8) rfl W0.heap.size rfl 73 C.toArray (0, 0) _ hq3.out Try.underlying73 rfl hi16 ?_)
          | (go_at_call 25; (with_reducible refine (hcal.out _).mono ?_); rintro e w4 ⟨ad, cp, rfl, b4⟩; replace hL3 := Lib.hid (hL3.out.below b4); replace hw3 := Lib.hid (belowCont hw3.out b4); replace hq3 := Lib.hid ((b4.block _ (block_lt hq3.out)).trans hq3.out); have c4 := hL3.out.cell0; have cH4 := hL3.out.cellH' hw; have f4 := hL3.out.free (1 + who); have m0 := (b4.cell (p := ⟨w.heap.size, 0, none⟩) (block_lt_of_cell n0)).trans n0; have m1 := (b4.cell (p := ⟨w.heap.size, 1, none⟩) (block_lt_of_cell n1)).trans n1; have d4 := (b4.cell (p := ⟨W0.heap.size, who, none⟩) (block_lt_of_cell d0)).trans d0; have fq : w4.frozen? ⟨W0.heap.size, who, none⟩ = false := frozen_of_row _ _ _ _ _ hq3.out; have hnm := fun W => nilMap m W; clear n0 n1 d0 c0 cH b4))

        have e1 : IntKind.i64.wrap ((held who : Int) + 1) = (held who : Int) + 1 := IntWalk.i64_in _ (by omega)
        refine wp_region_still_tail 10 (by kernel_rfl) (by kernel_rfl) ?_
        simp only [List.take_succ_cons, List.take_zero, List.drop_succ_cons, List.drop_zero]
        repeat still_step
        try refine wpStill_nil ?_
        change wpList _ _ _ _ _ w4.drew
        go_wp2
        have hX : LockAt ((((w4.setCell ⟨g, 1 + who, none⟩ (.int .i64 ((held who : Int) + 1))).setCell ⟨W0.heap.size, who, none⟩ (.int .i64 1)).setCell ⟨W0.heap.size, who, none⟩ (.int .i64 2)).drew) g m N T (heldUp held (T k) who) things ∧ ((((w4.setCell ⟨g, 1 + who, none⟩ (.int .i64 ((held who : Int) + 1))).setCell ⟨W0.heap.size, who, none⟩ (.int .i64 1)).setCell ⟨W0.heap.size, who, none⟩ (.int .i64 2)).drew).heap[W0.heap.size]? = some (.cells (cells16 (newH (T k) who true)).toArray 73 (0, 0)) ∧ Keeps [g] w ((((w4.setCell ⟨g, 1 + who, none⟩ (.int .i64 ((held who : Int) + 1))).setCell ⟨W0.heap.size, who, none⟩ (.int .i64 1)).setCell ⟨W0.heap.size, who, none⟩ (.int .i64 2)).drew) ∧ ((((w4.setCell ⟨g, 1 + who, none⟩ (.int .i64 ((held who : Int) + 1))).setCell ⟨W0.heap.size, who, none⟩ (.int .i64 1)).setCell ⟨W0.heap.size, who, none⟩ (.int .i64 2)).drew).cell? ⟨w.heap.size, 0, none⟩ = some (.string (str k)) := by
          have zh : LockAt (w4.setCell ⟨g, 1 + who, none⟩ (.int .i64 ((held who : Int) + 1))) g m N T (heldUp held (T k) who) things := by
            have z1 := hL3.out.setHeld hw (held who + 1) ((held who : Int) + 1) (by omega)
            have e : (fun y => if y = who then held who + 1 else held y) = heldUp held (T k) who := by funext y; unfold heldUp; rw [if_pos h0.out]
            rw [e] at z1; exact z1
          have zq : (w4.setCell ⟨g, 1 + who, none⟩ (.int .i64 ((held who : Int) + 1))).heap[W0.heap.size]? = some (.cells (cells16 (T k)).toArray 73 (0, 0)) := by rw [← hC.out]; exact (Below.heap_setCell w4 _ _ _ (fun e => nC e.symm)).trans hq3.out
          have kY : Keeps [g] w (w4.setCell ⟨g, 1 + who, none⟩ (.int .i64 ((held who : Int) + 1))) := (Keeps.ofBelow hw3.out [g]).setCell (p := ⟨g, 1 + who, none⟩) (Or.inl (by simp)) _
          have zn : (w4.setCell ⟨g, 1 + who, none⟩ (.int .i64 ((held who : Int) + 1))).cell? ⟨w.heap.size, 0, none⟩ = some (.string (str k)) := (((Keeps.refl [g] w4).setCell (p := ⟨g, 1 + who, none⟩) (Or.inl (by simp)) _).cell (p := ⟨w.heap.size, 0, none⟩) (block_lt_of_cell m0) (by simpa using nA)).trans m0
          generalize w4.setCell ⟨g, 1 + who, none⟩ (.int .i64 ((held who : Int) + 1)) = Y at zh zq kY zn ⊢
          have zq2 := heap_setCell_same _ _ who _ _ (.int .i64 1) zq
          rw [cells16_set _ hw 1 1 rfl] at zq2
          have zh2 := zh.keep ((Keeps.refl [W0.heap.size] Y).setCell (p := ⟨W0.heap.size, who, none⟩) (Or.inl (by simp)) (.int .i64 1)) (by simpa using nC) (by have := hglt.out; have := hqlt.out; simp; omega)
          have kY2 := kY.setCell (p := ⟨W0.heap.size, who, none⟩) (Or.inr (Nat.le_of_lt hqlt.out)) (.int .i64 1)
          have zn2 : (Y.setCell ⟨W0.heap.size, who, none⟩ (.int .i64 1)).cell? ⟨w.heap.size, 0, none⟩ = some (.string (str k)) := (((Keeps.refl [W0.heap.size] Y).setCell (p := ⟨W0.heap.size, who, none⟩) (Or.inl (by simp)) _).cell (p := ⟨w.heap.size, 0, none⟩) (block_lt_of_cell zn) (by simpa using nB)).trans zn
          clear zq zh kY zn
          generalize Y.setCell ⟨W0.heap.size, who, none⟩ (.int .i64 1) = Z at zq2 zh2 kY2 zn2 ⊢
          clear Y
          obtain ⟨Y, rfl⟩ : ∃ Y, Y = Z := ⟨_, rfl⟩
          have zq := zq2; have zh := zh2; have kY := kY2; have zn := zn2; clear zq2 zh2 kY2 zn2
          have zq2 := heap_setCell_same _ _ who _ _ (.int .i64 2) zq
          rw [cells16_set _ hw 2 2 rfl] at zq2
          have zh2 := zh.keep ((Keeps.refl [W0.heap.size] Y).setCell (p := ⟨W0.heap.size, who, none⟩) (Or.inl (by simp)) (.int .i64 2)) (by simpa using nC) (by have := hglt.out; have := hqlt.out; simp; omega)
          have kY2 := kY.setCell (p := ⟨W0.heap.size, who, none⟩) (Or.inr (Nat.le_of_lt hqlt.out)) (.int .i64 2)
          have zn2 : (Y.setCell ⟨W0.heap.size, who, none⟩ (.int .i64 2)).cell? ⟨w.heap.size, 0, none⟩ = some (.string (str k)) := (((Keeps.refl [W0.heap.size] Y).setCell (p := ⟨W0.heap.size, who, none⟩) (Or.inl (by simp)) _).cell (p := ⟨w.heap.size, 0, none⟩) (block_lt_of_cell zn) (by simpa using nB)).trans zn
          clear zq zh kY zn
          generalize Y.setCell ⟨W0.heap.size, who, none⟩ (.int .i64 2) = Z at zq2 zh2 kY2 zn2 ⊢
          clear Y
          obtain ⟨Y, rfl⟩ : ∃ Y, Y = Z := ⟨_, rfl⟩
          have zq := zq2; have zh := zh2; have kY := kY2; have zn := zn2; clear zq2 zh2 kY2 zn2
          rw [cells16_ext (k := newH (T k) who true) (fun y hy => by unfold newH; by_cases hyw : y = who <;> simp [hyw, h0.out])] at zq
          exact ⟨by simpa using zh.below (Below.refl _ _).drew, zq, kY.drew, zn⟩
        generalize (((w4.setCell ⟨g, 1 + who, none⟩ (.int .i64 ((held who : Int) + 1))).setCell ⟨W0.heap.size, who, none⟩ (.int .i64 1)).setCell ⟨W0.heap.size, who, none⟩ (.int .i64 2)).drew = X at hX ⊢
        obtain ⟨hX1, hX2, hX3, hX4⟩ := hX
        have x0 := hX1.cell0
        have hkey := keyStr k hk
        have hnA := newH_any (T k) hw true
        have hX0 := hX1.below (Below.refl _ _).drew
        obtain ⟨D, c, q1, q2, q3, q4, q5⟩ := hX0.own
        replace q2 := Lib.hid q2; replace q3 := Lib.hid q3; replace q4 := Lib.hid q4; replace q5 := Lib.hid q5; replace q1 := Lib.hid q1; replace hnA := Lib.hid hnA; replace hX0 := Lib.hid hX0
        replace hX1 := Lib.hid hX1; replace hX2 := Lib.hid hX2; replace hX3 := Lib.hid hX3
        clear hL3 hw3 hq3 c4 cH4 f4 m0 m1 d4 fq hlk l0 h1 hn0 hn1 c0
        refine wp_region_still_tail 7 (by kernel_rfl) (by kernel_rfl) ?_
        simp only [List.take_succ_cons, List.take_zero, List.drop_succ_cons, List.drop_zero]
        repeat still_step
        refine still_load_row _ (by rw [List.size_toArray, cells16_len]; kernel_rfl) Try.underlying73 rfl (.tmp 8) rfl W0.heap.size rfl hX2.out ?_
        repeat still_step
        try refine wpStill_nil ?_
        change wpList _ _ _ _ _ X.drew
        go_wp2_with (at_mapUpdate; go_loud (refine wpList_mapUpdate_in _ rfl _ _ _ 69 rfl 9 73 keyedStr Try.underlying69 holdElem m c D rfl q1.out (by have := q2.out; have := hN.out; unfold maxLen; omega) _ _ (.string k) rfl rfl hkey _ [] (holdElem_mk (newH (T k) who true)) ?_; intro w8 hown8 hturn8; have hfin := hX0.out.laid hnA.out q1.out q2.out q3.out q4.out q5.out hown8 hturn8; replace hfin := Lib.hid hfin))
        go_ret2
        exact ⟨rfl, hfin.out.1, hX3.out.drew.more (by simp) |>.trans (hfin.out.2.more (by simp))⟩
    · have t0 : ((T k who : Int) == 0) = false := by simpa using (by omega : (T k who : Int) ≠ 0)
      replace h0 := Lib.hid h0
      clear hm
      cases al with
      | false =>
        go_wp2_with (first
          | (refine wpList_load_row rfl 73 (.tmp 8) rfl W0.heap.size rfl 73 C.toArray (0, 0) _ hq3.out Try.underlying73 rfl hi16 ?_)
          | (go_at_call 25; (with_reducible refine (hcal.out _).mono ?_); rintro e w4 ⟨ad, cp, rfl, b4⟩; replace hL3 := Lib.hid (hL3.out.below b4); replace hw3 := Lib.hid (belowCont hw3.out b4); replace hq3 := Lib.hid ((b4.block _ (block_lt hq3.out)).trans hq3.out); have c4 := hL3.out.cell0; have cH4 := hL3.out.cellH' hw; have f4 := hL3.out.free (1 + who); have m0 := (b4.cell (p := ⟨w.heap.size, 0, none⟩) (block_lt_of_cell n0)).trans n0; have m1 := (b4.cell (p := ⟨w.heap.size, 1, none⟩) (block_lt_of_cell n1)).trans n1; have d4 := (b4.cell (p := ⟨W0.heap.size, who, none⟩) (block_lt_of_cell d0)).trans d0; have fq : w4.frozen? ⟨W0.heap.size, who, none⟩ = false := frozen_of_row _ _ _ _ _ hq3.out; have hnm := fun W => nilMap m W; clear n0 n1 d0 c0 cH b4))
        have hX : LockAt (w4) g m N T (heldUp held (T k) who) things ∧ (w4).heap[W0.heap.size]? = some (.cells (cells16 (newH (T k) who false)).toArray 73 (0, 0)) ∧ Keeps [g] w (w4) ∧ (w4).cell? ⟨w.heap.size, 0, none⟩ = some (.string (str k)) := by
          have zh : LockAt w4 g m N T (heldUp held (T k) who) things := by
            have e : held = heldUp held (T k) who := by funext y; unfold heldUp; rw [if_neg h0.out]; split <;> simp_all
            rw [← e]; exact hL3.out
          have zq : w4.heap[W0.heap.size]? = some (.cells (cells16 (T k)).toArray 73 (0, 0)) := by rw [← hC.out]; exact hq3.out
          have kY : Keeps [g] w w4 := Keeps.ofBelow hw3.out [g]
          have zn : w4.cell? ⟨w.heap.size, 0, none⟩ = some (.string (str k)) := m0
          generalize w4 = Y at zh zq kY zn ⊢
          rw [cells16_ext (k := newH (T k) who false) (fun y hy => by unfold newH; by_cases hyw : y = who <;> simp [hyw, h0.out])] at zq
          exact ⟨zh, zq, kY, zn⟩
        generalize w4 = X at hX ⊢
        obtain ⟨hX1, hX2, hX3, hX4⟩ := hX
        have x0 := hX1.cell0
        have hkey := keyStr k hk
        have hnA := newH_any (T k) hw false
        have hX0 := hX1.below (Below.refl _ _).drew
        obtain ⟨D, c, q1, q2, q3, q4, q5⟩ := hX0.own
        replace q2 := Lib.hid q2; replace q3 := Lib.hid q3; replace q4 := Lib.hid q4; replace q5 := Lib.hid q5; replace q1 := Lib.hid q1; replace hnA := Lib.hid hnA; replace hX0 := Lib.hid hX0
        replace hX1 := Lib.hid hX1; replace hX2 := Lib.hid hX2; replace hX3 := Lib.hid hX3
        clear hL3 hw3 hq3 c4 cH4 f4 m0 m1 d4 fq hlk l0 h1 hn0 hn1 c0
        refine wp_region_still_tail 7 (by kernel_rfl) (by kernel_rfl) ?_
        simp only [List.take_succ_cons, List.take_zero, List.drop_succ_cons, List.drop_zero]
        repeat still_step
        refine still_load_row _ (by rw [List.size_toArray, cells16_len]; kernel_rfl) Try.underlying73 rfl (.tmp 8) rfl W0.heap.size rfl hX2.out ?_
        repeat still_step
        try refine wpStill_nil ?_
        change wpList _ _ _ _ _ X.drew
        go_wp2_with (at_mapUpdate; go_loud (refine wpList_mapUpdate_in _ rfl _ _ _ 69 rfl 9 73 keyedStr Try.underlying69 holdElem m c D rfl q1.out (by have := q2.out; have := hN.out; unfold maxLen; omega) _ _ (.string k) rfl rfl hkey _ [] (holdElem_mk (newH (T k) who false)) ?_; intro w8 hown8 hturn8; have hfin := hX0.out.laid hnA.out q1.out q2.out q3.out q4.out q5.out hown8 hturn8; replace hfin := Lib.hid hfin))
        go_ret2
        exact ⟨rfl, hfin.out.1, hX3.out.drew.more (by simp) |>.trans (hfin.out.2.more (by simp))⟩
      | true =>
        go_wp2_with (first
          | (refine wpList_load_row rfl 73 (.tmp 8) rfl W0.heap.size rfl 73 C.toArray (0, 0) _ hq3.out Try.underlying73 rfl hi16 ?_)
          | (go_at_call 25; (with_reducible refine (hcal.out _).mono ?_); rintro e w4 ⟨ad, cp, rfl, b4⟩; replace hL3 := Lib.hid (hL3.out.below b4); replace hw3 := Lib.hid (belowCont hw3.out b4); replace hq3 := Lib.hid ((b4.block _ (block_lt hq3.out)).trans hq3.out); have c4 := hL3.out.cell0; have cH4 := hL3.out.cellH' hw; have f4 := hL3.out.free (1 + who); have m0 := (b4.cell (p := ⟨w.heap.size, 0, none⟩) (block_lt_of_cell n0)).trans n0; have m1 := (b4.cell (p := ⟨w.heap.size, 1, none⟩) (block_lt_of_cell n1)).trans n1; have d4 := (b4.cell (p := ⟨W0.heap.size, who, none⟩) (block_lt_of_cell d0)).trans d0; have fq : w4.frozen? ⟨W0.heap.size, who, none⟩ = false := frozen_of_row _ _ _ _ _ hq3.out; have hnm := fun W => nilMap m W; clear n0 n1 d0 c0 cH b4))
        have hX : LockAt (w4.setCell ⟨W0.heap.size, who, none⟩ (.int .i64 2)) g m N T (heldUp held (T k) who) things ∧ (w4.setCell ⟨W0.heap.size, who, none⟩ (.int .i64 2)).heap[W0.heap.size]? = some (.cells (cells16 (newH (T k) who true)).toArray 73 (0, 0)) ∧ Keeps [g] w (w4.setCell ⟨W0.heap.size, who, none⟩ (.int .i64 2)) ∧ (w4.setCell ⟨W0.heap.size, who, none⟩ (.int .i64 2)).cell? ⟨w.heap.size, 0, none⟩ = some (.string (str k)) := by
          have zh : LockAt w4 g m N T (heldUp held (T k) who) things := by
            have e : held = heldUp held (T k) who := by funext y; unfold heldUp; rw [if_neg h0.out]; split <;> simp_all
            rw [← e]; exact hL3.out
          have zq : w4.heap[W0.heap.size]? = some (.cells (cells16 (T k)).toArray 73 (0, 0)) := by rw [← hC.out]; exact hq3.out
          have kY : Keeps [g] w w4 := Keeps.ofBelow hw3.out [g]
          have zn : w4.cell? ⟨w.heap.size, 0, none⟩ = some (.string (str k)) := m0
          generalize w4 = Y at zh zq kY zn ⊢
          have zq2 := heap_setCell_same _ _ who _ _ (.int .i64 2) zq
          rw [cells16_set _ hw 2 2 rfl] at zq2
          have zh2 := zh.keep ((Keeps.refl [W0.heap.size] Y).setCell (p := ⟨W0.heap.size, who, none⟩) (Or.inl (by simp)) (.int .i64 2)) (by simpa using nC) (by have := hglt.out; have := hqlt.out; simp; omega)
          have kY2 := kY.setCell (p := ⟨W0.heap.size, who, none⟩) (Or.inr (Nat.le_of_lt hqlt.out)) (.int .i64 2)
          have zn2 : (Y.setCell ⟨W0.heap.size, who, none⟩ (.int .i64 2)).cell? ⟨w.heap.size, 0, none⟩ = some (.string (str k)) := (((Keeps.refl [W0.heap.size] Y).setCell (p := ⟨W0.heap.size, who, none⟩) (Or.inl (by simp)) _).cell (p := ⟨w.heap.size, 0, none⟩) (block_lt_of_cell zn) (by simpa using nB)).trans zn
          clear zq zh kY zn
          generalize Y.setCell ⟨W0.heap.size, who, none⟩ (.int .i64 2) = Z at zq2 zh2 kY2 zn2 ⊢
          clear Y
          obtain ⟨Y, rfl⟩ : ∃ Y, Y = Z := ⟨_, rfl⟩
          have zq := zq2; have zh := zh2; have kY := kY2; have zn := zn2; clear zq2 zh2 kY2 zn2
          rw [cells16_ext (k := newH (T k) who true) (fun y hy => by unfold newH; by_cases hyw : y = who <;> simp [hyw, h0.out])] at zq
          exact ⟨zh, zq, kY, zn⟩
        generalize w4.setCell ⟨W0.heap.size, who, none⟩ (.int .i64 2) = X at hX ⊢
        obtain ⟨hX1, hX2, hX3, hX4⟩ := hX
        have x0 := hX1.cell0
        have hkey := keyStr k hk
        have hnA := newH_any (T k) hw true
        have hX0 := hX1.below (Below.refl _ _).drew
        obtain ⟨D, c, q1, q2, q3, q4, q5⟩ := hX0.own
        replace q2 := Lib.hid q2; replace q3 := Lib.hid q3; replace q4 := Lib.hid q4; replace q5 := Lib.hid q5; replace q1 := Lib.hid q1; replace hnA := Lib.hid hnA; replace hX0 := Lib.hid hX0
        replace hX1 := Lib.hid hX1; replace hX2 := Lib.hid hX2; replace hX3 := Lib.hid hX3
        clear hL3 hw3 hq3 c4 cH4 f4 m0 m1 d4 fq hlk l0 h1 hn0 hn1 c0
        refine wp_region_still_tail 7 (by kernel_rfl) (by kernel_rfl) ?_
        simp only [List.take_succ_cons, List.take_zero, List.drop_succ_cons, List.drop_zero]
        repeat still_step
        refine still_load_row _ (by rw [List.size_toArray, cells16_len]; kernel_rfl) Try.underlying73 rfl (.tmp 8) rfl W0.heap.size rfl hX2.out ?_
        repeat still_step
        try refine wpStill_nil ?_
        change wpList _ _ _ _ _ X.drew
        go_wp2_with (at_mapUpdate; go_loud (refine wpList_mapUpdate_in _ rfl _ _ _ 69 rfl 9 73 keyedStr Try.underlying69 holdElem m c D rfl q1.out (by have := q2.out; have := hN.out; unfold maxLen; omega) _ _ (.string k) rfl rfl hkey _ [] (holdElem_mk (newH (T k) who true)) ?_; intro w8 hown8 hturn8; have hfin := hX0.out.laid hnA.out q1.out q2.out q3.out q4.out q5.out hown8 hturn8; replace hfin := Lib.hid hfin))
        go_ret2
        exact ⟨rfl, hfin.out.1, hX3.out.drew.more (by simp) |>.trans (hfin.out.2.more (by simp))⟩
end
end Go.Proofs.Ytmeaidkbkelclab.lock
