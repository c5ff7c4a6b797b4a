/- The law RecordWith, given its awake. Condition: awake answers true. -/
import Derived.Test.YtdgpalileloekaaDoorRecW8
import Derived.Laws.StructEq
import Derived.Deep.Cut
namespace Go.Proofs.YtdgpalileloekaaDoor.recw
open Go.RowKit
attribute [local go_sem ↓] Go.wp_at_zero Go.wp_at_succ
set_option linter.unusedVariables false
set_option linter.unusedSimpArgs false
set_option maxRecDepth 100000

theorem rise_lt {l : List Pr} {m : Nat} {x z : Pr} (h : Rise l) (hz : l[m]? = some z) (hx : l[m + 1]? = some x) : z.key < x.key := by
  obtain ⟨h1, e1⟩ := List.getElem?_eq_some_iff.1 hz
  obtain ⟨h2, e2⟩ := List.getElem?_eq_some_iff.1 hx
  have := List.pairwise_iff_getElem.1 h m (m + 1) h1 h2 (Nat.lt_succ_self m)
  rw [e1, e2] at this
  exact this
set_option maxHeartbeats 32000000 in
theorem recordWith_law (ed : Bool) (la0 : Value) (ty0 fm0 tw0 : Int) (pr0 : Value) (LL : List Int) (PP : List Pr) (key vk vn : Int) (vs : ByteArray) (w : World) (hla : Sl w la0 LL.length (inC LL)) (hpr : Sl w pr0 PP.length (prC PP))
    (hAw : ∀ w', Calls Tryd.prog 11 #[] w' fun e w2 => e = .returned (.bool true) ∧ Below w'.heap.size w' w2) :
    Calls Tryd.prog 4 #[thV ed la0 ty0 fm0 tw0 pr0, .int .i64 key, .agg #[.int .i64 vk, .int .i64 vn, .string vs]] w fun e w' => e = .returned (.bool true) ∧ Below w.heap.size w w' := by
  obtain ⟨⟨yk, yn, ys⟩, hy0, hnear⟩ := near_any vk vn vs
  replace hnear : ∀ W, Calls Tryd.prog 16 #[.agg #[.int .i64 vk, .int .i64 vn, .string vs]] W fun e w' => e = .returned (.agg #[.int .i64 yk, .int .i64 yn, .string ys]) ∧ Below W.heap.size W w' := hnear
  have h0 := ((Hp.none_ w []).alloc #[.bool ed, la0, .int .i64 ty0, .int .u64 fm0, .int .u64 tw0, pr0] 26).alloc #[.int .i64 vk, .int .i64 vn, .string vs] 37
  have hsz : ∀ (u : World) o, (u.alloc o).heap.size = u.heap.size + 1 := fun u o => by simp
  rw [hsz] at h0
  clear hsz
  replace h0 := Lib.hid h0; replace hla := Lib.hid hla; replace hpr := Lib.hid hpr; replace hnear := Lib.hid hnear; replace hy0 := Lib.hid hy0; replace hAw := Lib.hid hAw
  unfold thV
  go_enter Tryd.func4, Tryd.ntmps4
  go_upto_region 1 with fail
  generalize (w.alloc _).alloc _ = W at h0 ⊢
  generalize hq5 : w.heap.size + 1 = q5 at h0 ⊢
  generalize hq3 : w.heap.size = q3 at h0 ⊢
  clear hq5 hq3
  go_cut [7, 8] from 14 (fun p q wx => ∃ (la pr : Value) (L : List Int) (P : List Pr) (ty fm tw : Int) (g7 g8 : Nat), p = .pointer (some ⟨g7, 0, none⟩) ∧ q = .pointer (some ⟨g8, 0, none⟩) ∧ L.length ≤ 10 ∧ P.length ≤ 18 ∧ Rise P ∧ Hp w [] [.row 3 1 la L.length (inC L), .row 42 4 pr P.length (prC P), .box g7 #[.bool ed, la, .int .i64 ty, .int .u64 fm, .int .u64 tw, pr] 26, .box g8 #[.int .i64 yk, .int .i64 yn, .string ys] 37] wx)
  case first =>
    refine wp_region_inv (fun act0 l a w' => ∃ s7 s8 s14 s15 s16 s17 : Value, a = (((((act0.put (some 7) s7).put (some 8) s8).put (some 14) s14).put (some 15) s15).put (some 16) s16).put (some 17) s17 ∧ ∃ (la pr : Value) (L : List Int) (P : List Pr) (ty fm tw : Int) (g7 g8 : Nat) (b1 b4 b5 b6 b7 : Bool), I1 w [.box q5 #[.int .i64 vk, .int .i64 vn, .string vs] 37, .box q3 #[.bool ed, la0, .int .i64 ty0, .int .u64 fm0, .int .u64 tw0, pr0] 26] (.agg #[.bool ed, la0, .int .i64 ty0, .int .u64 fm0, .int .u64 tw0, pr0]) (.agg #[.int .i64 vk, .int .i64 vn, .string vs]) (.agg #[.int .i64 yk, .int .i64 yn, .string ys]) ed #[.int .i64 yk, .int .i64 yn, .string ys] l s7 s8 s14 s15 s16 s17 w' la pr L P ty fm tw g7 g8 b1 b4 b5 b6 b7) (by kernel_rfl) (by kernel_rfl) ?_ ?_ ?_
    · refine ⟨undef, undef, undef, undef, undef, undef, ?_, _, _, _, _, _, _, _, _, _, _, _, _, _, _, I1.start h0.out.drew⟩
      simp only [Act.put, List.setIfInBounds_toArray, List.set_cons_zero, List.set_cons_succ]
    · intro l a w' hinv i hun hrd K hK
      obtain ⟨s7, s8, s14, s15, s16, s17, ha, la, pr, L, P, ty, fm, tw, g7, g8, b1, b4, b5, b6, b7, hx⟩ := hinv
      subst ha
      obtain ⟨o, ho, hdep⟩ := hrd
      have hi8 : i < 8 := by
        have := (Array.getElem?_eq_some_iff.1 ho).1
        simpa using this
      have hc : i = 0 ∨ i = 1 ∨ i = 2 ∨ i = 3 ∨ i = 4 ∨ i = 5 ∨ i = 6 ∨ i = 7 := by omega
      have hb := hx.base_
      have c0 := hb.cell (i := 1) rfl 0; have c1 := hb.cell (i := 1) rfl 1; have c2 := hb.cell (i := 1) rfl 2; have c3 := hb.cell (i := 1) rfl 3; have c4 := hb.cell (i := 1) rfl 4; have c5 := hb.cell (i := 1) rfl 5
      have d0 := hb.cell (i := 0) rfl 0; have d1 := hb.cell (i := 0) rfl 1; have d2 := hb.cell (i := 0) rfl 2
      simp at c0 c1 c2 c3 c4 c5 d0 d1 d2
      clear hi8 hb
      replace hx := Lib.hid hx
      rcases hc with rfl | rfl | rfl | rfl | rfl | rfl | rfl | rfl
      · have e := Option.some.inj ho
        subst e
        refine wpOp_of ho rfl ?_
        clear ho hdep
        go_simp
        refine hK _ _ ⟨s7, s8, _, s15, s16, s17, ?_, _, _, _, _, _, _, _, _, _, _, _, _, _, _, hx.out.t0⟩
        simp only [Act.put, List.setIfInBounds_toArray, List.set_cons_zero, List.set_cons_succ]
      · have e := Option.some.inj ho
        subst e
        have d := hx.out.v14 (hdep _ (Array.mem_of_getElem? (i := 0) rfl) rfl)
        subst d
        refine wpOp_of ho rfl ?_
        clear ho hdep
        have hbel := Lib.hid hx.out.base_.bel
        have hmade := made_any ed la0 ty0 fm0 tw0 pr0 LL PP _ (hla.out.below hbel.out) (hpr.out.below hbel.out)
        unfold thV at hmade
        replace hmade := Lib.hid hmade
        go_wp2_with (go_at_call 8; (with_reducible refine (hmade.out).mono ?_); rintro e w1 ⟨la', pr', L', P', ty', fm', tw', rfl, hL', hP', hR', k1⟩; replace k1 := Lib.hid k1)
        refine ⟨s7, s8, _, .agg #[.bool ed, la', .int .i64 ty', .int .u64 fm', .int .u64 tw', pr'], s16, s17, ?_, la', pr', L', P', ty', fm', tw', g7, g8, true, b4, b5, false, b7, hx.out.t1 hun hL' hP' hR' k1.out⟩
        simp only [Act.put, List.setIfInBounds_toArray, List.set_cons_zero, List.set_cons_succ]
      · have e := Option.some.inj ho
        subst e
        refine wpOp_of ho rfl ?_
        clear ho hdep
        go_simp
        refine hK _ _ ⟨s7, s8, s14, s15, _, s17, ?_, _, _, _, _, _, _, _, _, _, _, _, _, _, _, hx.out.t2⟩
        simp only [Act.put, List.setIfInBounds_toArray, List.set_cons_zero, List.set_cons_succ]
      · have e := Option.some.inj ho
        subst e
        have d := hx.out.v16 (hdep _ (Array.mem_of_getElem? (i := 0) rfl) rfl)
        subst d
        refine wpOp_of ho rfl ?_
        clear ho hdep
        go_wp2_with (go_at_call 16; (with_reducible refine (hnear.out _).mono ?_); rintro e w1 ⟨rfl, k1⟩; replace k1 := Lib.hid k1)
        refine ⟨s7, s8, s14, s15, _, _, ?_, _, _, _, _, _, _, _, _, _, _, _, _, _, _, hx.out.t3 k1.out⟩
        simp only [Act.put, List.setIfInBounds_toArray, List.set_cons_zero, List.set_cons_succ]
      · have e := Option.some.inj ho
        subst e
        refine wpOp_of ho rfl ?_
        clear ho hdep
        go_simp
        refine hK _ _ ⟨_, s8, s14, s15, s16, s17, ?_, _, _, _, _, _, _, _, _, _, _, _, _, _, _, hx.out.t4 hun⟩
        simp only [Act.put, List.setIfInBounds_toArray, List.set_cons_zero, List.set_cons_succ]
      · have e := Option.some.inj ho
        subst e
        refine wpOp_of ho rfl ?_
        clear ho hdep
        go_simp
        refine hK _ _ ⟨s7, _, s14, s15, s16, s17, ?_, _, _, _, _, _, _, _, _, _, _, _, _, _, _, hx.out.t5 hun⟩
        simp only [Act.put, List.setIfInBounds_toArray, List.set_cons_zero, List.set_cons_succ]
      · have e := Option.some.inj ho
        subst e
        have h4 := hx.out.h4.1 (hdep _ (Array.mem_of_getElem? (i := 0) rfl) rfl)
        have h1 := hx.out.h1.1 (hdep _ (Array.mem_of_getElem? (i := 1) rfl) rfl)
        obtain ⟨adL, cpL, hlaE⟩ := hx.out.rowL_ h1
        obtain ⟨adP, cpP, hprE⟩ := hx.out.rowP_ h1
        subst hlaE hprE
        have e15 := (hx.out.s1 h1).1
        have e7 := hx.out.s4 h4
        have hbx := hx.out.boxT_ h4 (un hun hx.out.h6)
        unfold thZ at hbx
        unfold thV at e15
        subst e15 e7
        have y0 := block_cells hbx 0 _ rfl; have y1 := block_cells hbx 1 _ rfl; have y2 := block_cells hbx 2 _ rfl; have y3 := block_cells hbx 3 _ rfl; have y4 := block_cells hbx 4 _ rfl; have y5 := block_cells hbx 5 _ rfl
        have hfr : ∀ j, w'.frozen? ⟨g7, j, none⟩ = false := fun j => by simp [World.frozen?, hbx]
        have f0 := hfr 0; have f1 := hfr 1; have f2 := hfr 2; have f3 := hfr 3; have f4 := hfr 4; have f5 := hfr 5
        replace hbx := Lib.hid hbx
        clear hfr
        refine wpOp_of ho rfl ?_
        clear ho hdep c0 c1 c2 c3 c4 c5 d0 d1 d2
        go_simp
        refine hK _ _ ⟨_, s8, s14, _, s16, s17, ?_, _, _, _, _, _, _, _, _, _, _, _, _, _, _, hx.out.t6 hun h1 h4⟩
        simp only [Act.put, List.setIfInBounds_toArray, List.set_cons_zero, List.set_cons_succ]
      · have e := Option.some.inj ho
        subst e
        have h5 := hx.out.h5.1 (hdep _ (Array.mem_of_getElem? (i := 0) rfl) rfl)
        have e17 := hx.out.v17 (hdep _ (Array.mem_of_getElem? (i := 1) rfl) rfl)
        have e8 := hx.out.s5 h5
        have hbx := hx.out.boxV_ h5 (un hun hx.out.h7)
        subst e17 e8
        have y0 := block_cells hbx 0 _ rfl; have y1 := block_cells hbx 1 _ rfl; have y2 := block_cells hbx 2 _ rfl
        have hfr : ∀ j, w'.frozen? ⟨g8, j, none⟩ = false := fun j => by simp [World.frozen?, hbx]
        have f0 := hfr 0; have f1 := hfr 1; have f2 := hfr 2
        replace hbx := Lib.hid hbx
        clear hfr
        refine wpOp_of ho rfl ?_
        clear ho hdep c0 c1 c2 c3 c4 c5 d0 d1 d2
        go_simp
        refine hK _ _ ⟨s7, _, s14, s15, s16, _, ?_, _, _, _, _, _, _, _, _, _, _, _, _, _, _, hx.out.t7 hun h5⟩
        simp only [Act.put, List.setIfInBounds_toArray, List.set_cons_zero, List.set_cons_succ]
    · intro l a w' hinv hall
      obtain ⟨s7, s8, s14, s15, s16, s17, ha, la, pr, L, P, ty, fm, tw, g7, g8, b1, b4, b5, b6, b7, hx⟩ := hinv
      subst ha
      have a0 : ∀ j, j < 8 → has l j := hall
      have q1 := hx.h1.1 (a0 1 (by decide)); have q4 := hx.h4.1 (a0 4 (by decide)); have q5' := hx.h5.1 (a0 5 (by decide)); have q6 := hx.h6.1 (a0 6 (by decide)); have q7 := hx.h7.1 (a0 7 (by decide))
      subst q1 q4 q5' q6 q7
      obtain ⟨_, hL, hP, hR⟩ := hx.s1 rfl
      have e7 := hx.s4 rfl
      have e8 := hx.s5 rfl
      subst e7 e8
      have hf := Lib.hid ((hx.hp.drop 4).drop 4)
      clear hx hall a0
      simp only [Act.put, List.setIfInBounds_toArray, List.set_cons_zero, List.set_cons_succ]
      go_wp2_with (fail)
      go_meet
      exact ⟨la, pr, L, P, ty, fm, tw, g7, g8, rfl, rfl, hL, hP, hR, hf.out⟩
  case rest =>
  clear h0
  obtain ⟨la, pr, L, P, ty, fm, tw, g7, g8, rfl, rfl, hL, hP, hR, hp⟩ := hcut
  obtain ⟨adL, cpL, rfl⟩ := rowShape (hp.row (i := 0) rfl)
  obtain ⟨adP, cpP, rfl⟩ := rowShape (hp.row (i := 1) rfl)
  replace hp := Lib.hid hp; replace hL := Lib.hid hL; replace hP := Lib.hid hP; replace hR := Lib.hid hR
  obtain ⟨k, hk⟩ : ∃ k, bits .and .i64 key 63 = k := ⟨_, rfl⟩
  go_upto_region 3 with fail
  clear hla hpr
  have c0 := hp.out.cell (i := 2) rfl 0; have c1 := hp.out.cell (i := 2) rfl 1; have c2 := hp.out.cell (i := 2) rfl 2; have c3 := hp.out.cell (i := 2) rfl 3; have c4 := hp.out.cell (i := 2) rfl 4; have c5 := hp.out.cell (i := 2) rfl 5
  have d0 := hp.out.cell (i := 3) rfl 0; have d1 := hp.out.cell (i := 3) rfl 1; have d2 := hp.out.cell (i := 3) rfl 2
  simp at c0 c1 c2 c3 c4 c5 d0 d1 d2
  have hwith := fun W (hb : Below wc.heap.size wc W) => with_any ed (.slice adL L.length cpL) ty fm tw (.slice adP P.length cpP) L.length (inC L) P k (yk, yn, ys) W ((hp.out.sl (i := 0) rfl (by have := hL.out; omega)).below hb) (by simp [inC]) (inC_one L) (by have := hL.out; omega) ((hp.out.sl (i := 1) rfl (by have := hP.out; omega)).below hb) (by have := hP.out; omega)
  obtain ⟨R, hRe⟩ : ∃ R, R = withL P k (yk, yn, ys) := ⟨_, rfl⟩
  unfold thV Vl.v at hwith
  rw [← hRe] at hwith
  replace hwith := Lib.hid hwith; replace hRe := Lib.hid hRe
  have hwc := Lib.hid (hwith.out wc (Below.refl _ _))
  go_upto_region 4 with (go_at_call 17; (with_reducible refine (hwc.out).mono ?_); rintro e w1 ⟨la2, pr2, rfl, h1⟩; obtain ⟨adM, cpM, rfl⟩ := rowShape (h1.row (i := 0) rfl); obtain ⟨adR, cpR, rfl⟩ := rowShape (h1.row (i := 1) rfl); replace hp := Lib.hid (hp.out.take h1); clear h1; have hz := hp.out.alloc #[.bool false, .slice none 0 0, .int .i64 0, .int .u64 0, .int .u64 0, .slice none 0 0] 26; have y0 := hz.free (i := 0) rfl 0; have y1 := hz.free (i := 0) rfl 1; have y2 := hz.free (i := 0) rfl 2; have y3 := hz.free (i := 0) rfl 3; have y4 := hz.free (i := 0) rfl 4; have y5 := hz.free (i := 0) rfl 5; clear hz)
  have hp1 := Lib.hid (hp.out.alloc #[.bool ed, .slice adM L.length cpM, .int .i64 ty, .int .u64 fm, .int .u64 tw, .slice adR R.length cpR] 26)
  clear hp y0 y1 y2 y3 y4 y5 c0 c1 c2 c3 c4 c5 d0 d1 d2 hwith hwc
  generalize w1.alloc _ = W1 at hp1 ⊢
  generalize w1.heap.size = g10 at hp1 ⊢
  have hp2 : Hp w [] [.box g10 #[.bool ed, .slice adM L.length cpM, .int .i64 ty, .int .u64 fm, .int .u64 tw, .slice adR R.length cpR] 26, .row 3 1 (.slice adM L.length cpM) L.length (inC L), .row 42 4 (.slice adR R.length cpR) R.length (prC R), .row 3 1 (.slice adL L.length cpL) L.length (inC L), .row 42 4 (.slice adP P.length cpP) P.length (prC P), .box g7 #[.bool ed, .slice adL L.length cpL, .int .i64 ty, .int .u64 fm, .int .u64 tw, .slice adP P.length cpP] 26, .box g8 #[.int .i64 yk, .int .i64 yn, .string ys] 37] W1 := hp1.out
  clear hp1
  have hall := fun W' (hb : Below W1.heap.size W1 W') => hp2.below hb
  have hS : ∀ W', Below W1.heap.size W1 W' → (W'.cell? ⟨g10, 0, none⟩ = some (.bool ed) ∧ W'.cell? ⟨g10, 1, none⟩ = some (.slice adM L.length cpM) ∧ W'.cell? ⟨g10, 2, none⟩ = some (.int .i64 ty) ∧ W'.cell? ⟨g10, 3, none⟩ = some (.int .u64 fm) ∧ W'.cell? ⟨g10, 4, none⟩ = some (.int .u64 tw) ∧ W'.cell? ⟨g10, 5, none⟩ = some (.slice adR R.length cpR) ∧ W'.cell? ⟨g7, 0, none⟩ = some (.bool ed) ∧ W'.cell? ⟨g7, 1, none⟩ = some (.slice adL L.length cpL) ∧ W'.cell? ⟨g7, 2, none⟩ = some (.int .i64 ty) ∧ W'.cell? ⟨g7, 3, none⟩ = some (.int .u64 fm) ∧ W'.cell? ⟨g7, 4, none⟩ = some (.int .u64 tw) ∧ W'.cell? ⟨g7, 5, none⟩ = some (.slice adP P.length cpP) ∧ W'.cell? ⟨g8, 0, none⟩ = some (.int .i64 yk) ∧ W'.cell? ⟨g8, 1, none⟩ = some (.int .i64 yn) ∧ W'.cell? ⟨g8, 2, none⟩ = some (.string ys)) := fun W' hb => have h := hall W' hb; ⟨h.cell (i := 0) rfl 0, h.cell (i := 0) rfl 1, h.cell (i := 0) rfl 2, h.cell (i := 0) rfl 3, h.cell (i := 0) rfl 4, h.cell (i := 0) rfl 5, h.cell (i := 5) rfl 0, h.cell (i := 5) rfl 1, h.cell (i := 5) rfl 2, h.cell (i := 5) rfl 3, h.cell (i := 5) rfl 4, h.cell (i := 5) rfl 5, h.cell (i := 6) rfl 0, h.cell (i := 6) rfl 1, h.cell (i := 6) rfl 2⟩
  have hRl : R.length ≤ 19 := by rw [hRe.out]; have := with_len P k (yk, yn, ys); have := hP.out; omega
  have hRr : Rise R := by rw [hRe.out]; exact with_rise hR.out k _
  have hfy : ∀ (i : Int) W', Below W1.heap.size W1 W' → Calls Tryd.prog 18 #[.agg #[.bool ed, .slice adM L.length cpM, .int .i64 ty, .int .u64 fm, .int .u64 tw, .slice adR R.length cpR], .int .i64 i] W' fun e w' => e = .returned (findL R i).v ∧ Below W'.heap.size W' w' := fun i W' hb => find_any ed _ ty fm tw _ R i W' ((hall W' hb).sl (i := 2) rfl (by omega)) (by omega)
  have hft : ∀ (i : Int) W', Below W1.heap.size W1 W' → Calls Tryd.prog 18 #[.agg #[.bool ed, .slice adL L.length cpL, .int .i64 ty, .int .u64 fm, .int .u64 tw, .slice adP P.length cpP], .int .i64 i] W' fun e w' => e = .returned (findL P i).v ∧ Below W'.heap.size W' w' := fun i W' hb => find_any ed _ ty fm tw _ P i W' ((hall W' hb).sl (i := 4) rfl (by have := hP.out; omega)) (by have := hP.out; omega)
  have hfk : ∀ W', Below W1.heap.size W1 W' → Calls Tryd.prog 18 #[.agg #[.bool ed, .slice adM L.length cpM, .int .i64 ty, .int .u64 fm, .int .u64 tw, .slice adR R.length cpR], .int .i64 k] W' fun e w' => e = .returned (.agg #[.int .i64 yk, .int .i64 yn, .string ys]) ∧ Below W'.heap.size W' w' := fun W' hb => by
    have := hfy k W' hb
    rw [hRe.out, with_find_same P k (yk, yn, ys) hy0.out, ← hRe.out] at this
    exact this
  have hb := Lib.hid ((Below.refl W1.heap.size W1).drew)
  replace hp2 := Lib.hid hp2; replace hall := Lib.hid hall; replace hS := Lib.hid hS; replace hRl := Lib.hid hRl; replace hRr := Lib.hid hRr; replace hfy := Lib.hid hfy; replace hft := Lib.hid hft; replace hfk := Lib.hid hfk
  refine wp_region_noPanic ?_; refine wp_region_held_drew (S := (fun W' => W'.cell? ⟨g10, 0, none⟩ = some (.bool ed) ∧ W'.cell? ⟨g10, 1, none⟩ = some (.slice adM L.length cpM) ∧ W'.cell? ⟨g10, 2, none⟩ = some (.int .i64 ty) ∧ W'.cell? ⟨g10, 3, none⟩ = some (.int .u64 fm) ∧ W'.cell? ⟨g10, 4, none⟩ = some (.int .u64 tw) ∧ W'.cell? ⟨g10, 5, none⟩ = some (.slice adR R.length cpR) ∧ W'.cell? ⟨g7, 0, none⟩ = some (.bool ed) ∧ W'.cell? ⟨g7, 1, none⟩ = some (.slice adL L.length cpL) ∧ W'.cell? ⟨g7, 2, none⟩ = some (.int .i64 ty) ∧ W'.cell? ⟨g7, 3, none⟩ = some (.int .u64 fm) ∧ W'.cell? ⟨g7, 4, none⟩ = some (.int .u64 tw) ∧ W'.cell? ⟨g7, 5, none⟩ = some (.slice adP P.length cpP) ∧ W'.cell? ⟨g8, 0, none⟩ = some (.int .i64 yk) ∧ W'.cell? ⟨g8, 1, none⟩ = some (.int .i64 yn) ∧ W'.cell? ⟨g8, 2, none⟩ = some (.string ys))) (by kernel_rfl) ?_ (fun hHeld => ?_); (focus ((try dsimp only); (exact hS.out _ hb.out); done))
  (refine wpAnyH_ready (rs := [0]) (by kernel_rfl) (by simp) ?_; refine AllReadyH.cons (o := _) rfl (fun K' hK => ?_) AllReadyH.nil; go_simp; (go_at_call 11; (with_reducible refine (hAw.out _).mono ?_); rintro e w2 ⟨rfl, b2⟩; replace hb := Lib.hid (belowCont hb.out b2); clear b2); (try dsimp only); refine hK.out _ _ ?_ (fun hHeld2 => ?_); (focus ((try dsimp only); (exact hS.out _ hb.out); done)); clear hK K'; clear hHeld; have hHeld := hHeld2; clear hHeld2; try simp only [Act.put, List.setIfInBounds_toArray, List.set_cons_zero, List.set_cons_succ]); (refine take_t (i := 1) (d := 25) (oi := _) (v := ?_) rfl rfl (by kernel_rfl) (by kernel_rfl) (by kernel_rfl) (by rfl) ?_ (by assumption) ?_; rotate_left; (focus (intro w0 hSw; (try dsimp only at hSw); go_simp; (try with_reducible rfl); done)); try simp only [Act.put, List.setIfInBounds_toArray, List.set_cons_zero, List.set_cons_succ]); (refine take_t (i := 2) (d := 26) (oi := _) (v := ?_) rfl rfl (by kernel_rfl) (by kernel_rfl) (by kernel_rfl) (by rfl) ?_ (by assumption) ?_; rotate_left; (focus (intro w0 hSw; (try dsimp only at hSw); go_simp; (try with_reducible rfl); done)); try simp only [Act.put, List.setIfInBounds_toArray, List.set_cons_zero, List.set_cons_succ]); (refine take_t (i := 3) (d := 27) (oi := _) (v := ?_) rfl rfl (by kernel_rfl) (by kernel_rfl) (by kernel_rfl) (by rfl) ?_ (by assumption) ?_; rotate_left; (focus (intro w0 hSw; (try dsimp only at hSw); go_simp; (try with_reducible rfl); done)); try simp only [Act.put, List.setIfInBounds_toArray, List.set_cons_zero, List.set_cons_succ]); (refine take_t (i := 4) (d := 28) (oi := _) (v := ?_) rfl rfl (by kernel_rfl) (by kernel_rfl) (by kernel_rfl) (by rfl) ?_ (by assumption) ?_; rotate_left; (focus (intro w0 hSw; (try dsimp only at hSw); go_simp; (try with_reducible rfl); done)); try simp only [Act.put, List.setIfInBounds_toArray, List.set_cons_zero, List.set_cons_succ]); (refine take_t (i := 6) (d := 30) (oi := _) (v := ?_) rfl rfl (by kernel_rfl) (by kernel_rfl) (by kernel_rfl) (by rfl) ?_ (by assumption) ?_; rotate_left; (focus (intro w0 hSw; (try dsimp only at hSw); go_simp; (try with_reducible rfl); done)); try simp only [Act.put, List.setIfInBounds_toArray, List.set_cons_zero, List.set_cons_succ]); (refine wpAnyH_ready (rs := [5]) (by kernel_rfl) (by simp) ?_; refine AllReadyH.cons (o := _) rfl (fun K' hK => ?_) AllReadyH.nil; go_simp; (go_at_call 18; (with_reducible refine (hfk.out _ hb.out).mono ?_); rintro e w2 ⟨rfl, b2⟩; replace hb := Lib.hid (belowCont hb.out b2); clear b2); (try dsimp only); refine hK.out _ _ ?_ (fun hHeld2 => ?_); (focus ((try dsimp only); (exact hS.out _ hb.out); done)); clear hK K'; clear hHeld; have hHeld := hHeld2; clear hHeld2; try simp only [Act.put, List.setIfInBounds_toArray, List.set_cons_zero, List.set_cons_succ]); (refine take_t (i := 7) (d := 31) (oi := _) (v := ?_) rfl rfl (by kernel_rfl) (by kernel_rfl) (by kernel_rfl) (by rfl) ?_ (by assumption) ?_; rotate_left; (focus (intro w0 hSw; (try dsimp only at hSw); go_simp; (try with_reducible rfl); done)); try simp only [Act.put, List.setIfInBounds_toArray, List.set_cons_zero, List.set_cons_succ]); (refine take_t (i := 8) (d := 32) (oi := _) (v := ?_) rfl rfl (by kernel_rfl) (by kernel_rfl) (by kernel_rfl) (by rfl) ?_ (by assumption) ?_; rotate_left; (focus (intro w0 hSw; (try dsimp only at hSw); go_simp; (try with_reducible rfl); done)); try simp only [Act.put, List.setIfInBounds_toArray, List.set_cons_zero, List.set_cons_succ])
  refine wpAnyH_done (by kernel_rfl) ?_ _; refine NoPanic.normal ?_
  go_wp2
  go_loopg [11] 64 (fun gi s11 wr => ∃ i : Nat, s11 = .int .i64 (i : Int) ∧ i + gi = 64 ∧ Below W1.heap.size W1 wr)
  case atStart => exact ⟨0, rfl, by omega, hb.out⟩
  case round =>
    clear hb
    obtain ⟨i, rfl, hi, hb⟩ := hrel
    replace hb := Lib.hid hb
    cases gk with
    | succ u =>
      have hi2 : (i : Int) < 64 := by omega
      by_cases hik : (i : Int) = k
      · subst hik
        go_upto_region 9 with fail
        replace hb := Lib.hid hb.out.drew
        refine wp_region_noPanic ?_; refine wp_region_held_drew (S := (fun W' => W'.cell? ⟨g10, 0, none⟩ = some (.bool ed) ∧ W'.cell? ⟨g10, 1, none⟩ = some (.slice adM L.length cpM) ∧ W'.cell? ⟨g10, 2, none⟩ = some (.int .i64 ty) ∧ W'.cell? ⟨g10, 3, none⟩ = some (.int .u64 fm) ∧ W'.cell? ⟨g10, 4, none⟩ = some (.int .u64 tw) ∧ W'.cell? ⟨g10, 5, none⟩ = some (.slice adR R.length cpR) ∧ W'.cell? ⟨g7, 0, none⟩ = some (.bool ed) ∧ W'.cell? ⟨g7, 1, none⟩ = some (.slice adL L.length cpL) ∧ W'.cell? ⟨g7, 2, none⟩ = some (.int .i64 ty) ∧ W'.cell? ⟨g7, 3, none⟩ = some (.int .u64 fm) ∧ W'.cell? ⟨g7, 4, none⟩ = some (.int .u64 tw) ∧ W'.cell? ⟨g7, 5, none⟩ = some (.slice adP P.length cpP) ∧ W'.cell? ⟨g8, 0, none⟩ = some (.int .i64 yk) ∧ W'.cell? ⟨g8, 1, none⟩ = some (.int .i64 yn) ∧ W'.cell? ⟨g8, 2, none⟩ = some (.string ys))) (by kernel_rfl) ?_ (fun hHeld => ?_); (focus ((try dsimp only); (exact hS.out _ hb.out); done))
        (refine take_t (i := 0) (d := 37) (oi := _) (v := ?_) rfl rfl (by kernel_rfl) (by kernel_rfl) (by kernel_rfl) (by rfl) ?_ (by assumption) ?_; rotate_left; (focus (intro w0 hSw; (try dsimp only at hSw); go_simp; (try with_reducible rfl); done)); try simp only [Act.put, List.setIfInBounds_toArray, List.set_cons_zero, List.set_cons_succ]); (refine take_t (i := 1) (d := 38) (oi := _) (v := ?_) rfl rfl (by kernel_rfl) (by kernel_rfl) (by kernel_rfl) (by rfl) ?_ (by assumption) ?_; rotate_left; (focus (intro w0 hSw; (try dsimp only at hSw); go_simp; (try with_reducible rfl); done)); try simp only [Act.put, List.setIfInBounds_toArray, List.set_cons_zero, List.set_cons_succ]); (refine take_t (i := 2) (d := 39) (oi := _) (v := ?_) rfl rfl (by kernel_rfl) (by kernel_rfl) (by kernel_rfl) (by rfl) ?_ (by assumption) ?_; rotate_left; (focus (intro w0 hSw; (try dsimp only at hSw); go_simp; (try with_reducible rfl); done)); try simp only [Act.put, List.setIfInBounds_toArray, List.set_cons_zero, List.set_cons_succ]); (refine take_t (i := 3) (d := 40) (oi := _) (v := ?_) rfl rfl (by kernel_rfl) (by kernel_rfl) (by kernel_rfl) (by rfl) ?_ (by assumption) ?_; rotate_left; (focus (intro w0 hSw; (try dsimp only at hSw); go_simp; (try with_reducible rfl); done)); try simp only [Act.put, List.setIfInBounds_toArray, List.set_cons_zero, List.set_cons_succ]); (refine take_u (i := 4) (d := 41) (oi := _) rfl rfl (by kernel_rfl) (by kernel_rfl) (by kernel_rfl) (by rfl) (by assumption) ?_; try simp only [Act.put, List.setIfInBounds_toArray, List.set_cons_zero, List.set_cons_succ]); (refine take_u (i := 5) (d := 42) (oi := _) rfl rfl (by kernel_rfl) (by kernel_rfl) (by kernel_rfl) (by rfl) (by assumption) ?_; try simp only [Act.put, List.setIfInBounds_toArray, List.set_cons_zero, List.set_cons_succ]); (refine take_u (i := 6) (d := 43) (oi := _) rfl rfl (by kernel_rfl) (by kernel_rfl) (by kernel_rfl) (by rfl) (by assumption) ?_; try simp only [Act.put, List.setIfInBounds_toArray, List.set_cons_zero, List.set_cons_succ]); (refine take_u (i := 7) (d := 44) (oi := _) rfl rfl (by kernel_rfl) (by kernel_rfl) (by kernel_rfl) (by rfl) (by assumption) ?_; try simp only [Act.put, List.setIfInBounds_toArray, List.set_cons_zero, List.set_cons_succ]); (refine take_u (i := 8) (d := 45) (oi := _) rfl rfl (by kernel_rfl) (by kernel_rfl) (by kernel_rfl) (by rfl) (by assumption) ?_; try simp only [Act.put, List.setIfInBounds_toArray, List.set_cons_zero, List.set_cons_succ]); (refine take_u (i := 9) (d := 46) (oi := _) rfl rfl (by kernel_rfl) (by kernel_rfl) (by kernel_rfl) (by rfl) (by assumption) ?_; try simp only [Act.put, List.setIfInBounds_toArray, List.set_cons_zero, List.set_cons_succ]); (refine take_u (i := 10) (d := 47) (oi := _) rfl rfl (by kernel_rfl) (by kernel_rfl) (by kernel_rfl) (by rfl) (by assumption) ?_; try simp only [Act.put, List.setIfInBounds_toArray, List.set_cons_zero, List.set_cons_succ]); (refine take_t (i := 11) (d := 48) (oi := _) (v := ?_) rfl rfl (by kernel_rfl) (by kernel_rfl) (by kernel_rfl) (by rfl) ?_ (by assumption) ?_; rotate_left; (focus (intro w0 hSw; (try dsimp only at hSw); go_simp; (try with_reducible rfl); done)); try simp only [Act.put, List.setIfInBounds_toArray, List.set_cons_zero, List.set_cons_succ])
        refine wpAnyH_done (by kernel_rfl) ?_ _; refine NoPanic.normal ?_
        go_wp2
        go_roundg u
        case rel => exact ⟨i + 1, by go_num, by omega, hb.out⟩
        case measure => omega
      · have hne : ((i : Int) != k) = true := by simp [hik]
        obtain ⟨⟨fa, fb, fc⟩, hF⟩ : ∃ F, F = findL P (i : Int) := ⟨_, rfl⟩
        have hF2 : findL R (i : Int) = (fa, fb, fc) := by rw [hRe.out, with_find_ne P k _ _ hik, ← hF]
        have hyi : ∀ W', Below W1.heap.size W1 W' → Calls Tryd.prog 18 #[.agg #[.bool ed, .slice adM L.length cpM, .int .i64 ty, .int .u64 fm, .int .u64 tw, .slice adR R.length cpR], .int .i64 (i : Int)] W' fun e w' => e = .returned (.agg #[.int .i64 fa, .int .i64 fb, .string fc]) ∧ Below W'.heap.size W' w' := fun W' h => by have := hfy.out (i : Int) W' h; rw [hF2] at this; exact this
        have hti : ∀ W', Below W1.heap.size W1 W' → Calls Tryd.prog 18 #[.agg #[.bool ed, .slice adL L.length cpL, .int .i64 ty, .int .u64 fm, .int .u64 tw, .slice adP P.length cpP], .int .i64 (i : Int)] W' fun e w' => e = .returned (.agg #[.int .i64 fa, .int .i64 fb, .string fc]) ∧ Below W'.heap.size W' w' := fun W' h => by have := hft.out (i : Int) W' h; rw [← hF] at this; exact this
        replace hyi := Lib.hid hyi; replace hti := Lib.hid hti
        clear hF hF2 hik
        go_upto_region 9 with fail
        replace hb := Lib.hid hb.out.drew
        refine wp_region_noPanic ?_; refine wp_region_held_drew (S := (fun W' => W'.cell? ⟨g10, 0, none⟩ = some (.bool ed) ∧ W'.cell? ⟨g10, 1, none⟩ = some (.slice adM L.length cpM) ∧ W'.cell? ⟨g10, 2, none⟩ = some (.int .i64 ty) ∧ W'.cell? ⟨g10, 3, none⟩ = some (.int .u64 fm) ∧ W'.cell? ⟨g10, 4, none⟩ = some (.int .u64 tw) ∧ W'.cell? ⟨g10, 5, none⟩ = some (.slice adR R.length cpR) ∧ W'.cell? ⟨g7, 0, none⟩ = some (.bool ed) ∧ W'.cell? ⟨g7, 1, none⟩ = some (.slice adL L.length cpL) ∧ W'.cell? ⟨g7, 2, none⟩ = some (.int .i64 ty) ∧ W'.cell? ⟨g7, 3, none⟩ = some (.int .u64 fm) ∧ W'.cell? ⟨g7, 4, none⟩ = some (.int .u64 tw) ∧ W'.cell? ⟨g7, 5, none⟩ = some (.slice adP P.length cpP) ∧ W'.cell? ⟨g8, 0, none⟩ = some (.int .i64 yk) ∧ W'.cell? ⟨g8, 1, none⟩ = some (.int .i64 yn) ∧ W'.cell? ⟨g8, 2, none⟩ = some (.string ys))) (by kernel_rfl) ?_ (fun hHeld => ?_); (focus ((try dsimp only); (exact hS.out _ hb.out); done))
        (refine take_t (i := 0) (d := 37) (oi := _) (v := ?_) rfl rfl (by kernel_rfl) (by kernel_rfl) (by kernel_rfl) (by rfl) ?_ (by assumption) ?_; rotate_left; (focus (intro w0 hSw; (try dsimp only at hSw); go_simp; (try with_reducible rfl); done)); try simp only [Act.put, List.setIfInBounds_toArray, List.set_cons_zero, List.set_cons_succ]); (refine take_t (i := 1) (d := 38) (oi := _) (v := ?_) rfl rfl (by kernel_rfl) (by kernel_rfl) (by kernel_rfl) (by rfl) ?_ (by assumption) ?_; rotate_left; (focus (intro w0 hSw; (try dsimp only at hSw); go_simp; (try with_reducible rfl); done)); try simp only [Act.put, List.setIfInBounds_toArray, List.set_cons_zero, List.set_cons_succ]); (refine take_t (i := 2) (d := 39) (oi := _) (v := ?_) rfl rfl (by kernel_rfl) (by kernel_rfl) (by kernel_rfl) (by rfl) ?_ (by assumption) ?_; rotate_left; (focus (intro w0 hSw; (try dsimp only at hSw); go_simp; (try with_reducible rfl); done)); try simp only [Act.put, List.setIfInBounds_toArray, List.set_cons_zero, List.set_cons_succ]); (refine take_t (i := 3) (d := 40) (oi := _) (v := ?_) rfl rfl (by kernel_rfl) (by kernel_rfl) (by kernel_rfl) (by rfl) ?_ (by assumption) ?_; rotate_left; (focus (intro w0 hSw; (try dsimp only at hSw); go_simp; (try with_reducible rfl); done)); try simp only [Act.put, List.setIfInBounds_toArray, List.set_cons_zero, List.set_cons_succ]); (refine take_t (i := 4) (d := 41) (oi := _) (v := ?_) rfl rfl (by kernel_rfl) (by kernel_rfl) (by kernel_rfl) (by rfl) ?_ (by assumption) ?_; rotate_left; (focus (intro w0 hSw; (try dsimp only at hSw); go_simp; (try with_reducible rfl); done)); try simp only [Act.put, List.setIfInBounds_toArray, List.set_cons_zero, List.set_cons_succ]); (refine take_t (i := 5) (d := 42) (oi := _) (v := ?_) rfl rfl (by kernel_rfl) (by kernel_rfl) (by kernel_rfl) (by rfl) ?_ (by assumption) ?_; rotate_left; (focus (intro w0 hSw; (try dsimp only at hSw); go_simp; (try with_reducible rfl); done)); try simp only [Act.put, List.setIfInBounds_toArray, List.set_cons_zero, List.set_cons_succ]); (refine take_t (i := 7) (d := 44) (oi := _) (v := ?_) rfl rfl (by kernel_rfl) (by kernel_rfl) (by kernel_rfl) (by rfl) ?_ (by assumption) ?_; rotate_left; (focus (intro w0 hSw; (try dsimp only at hSw); go_simp; (try with_reducible rfl); done)); try simp only [Act.put, List.setIfInBounds_toArray, List.set_cons_zero, List.set_cons_succ]); (refine take_t (i := 8) (d := 45) (oi := _) (v := ?_) rfl rfl (by kernel_rfl) (by kernel_rfl) (by kernel_rfl) (by rfl) ?_ (by assumption) ?_; rotate_left; (focus (intro w0 hSw; (try dsimp only at hSw); go_simp; (try with_reducible rfl); done)); try simp only [Act.put, List.setIfInBounds_toArray, List.set_cons_zero, List.set_cons_succ]); (refine wpAnyH_ready (rs := [6]) (by kernel_rfl) (by simp) ?_; refine AllReadyH.cons (o := _) rfl (fun K' hK => ?_) AllReadyH.nil; go_simp; (go_at_call 18; (with_reducible refine (hyi.out _ hb.out).mono ?_); rintro e w2 ⟨rfl, b2⟩; replace hb := Lib.hid (belowCont hb.out b2); clear b2); (try dsimp only); refine hK.out _ _ ?_ (fun hHeld2 => ?_); (focus ((try dsimp only); (exact hS.out _ hb.out); done)); clear hK K'; clear hHeld; have hHeld := hHeld2; clear hHeld2; try simp only [Act.put, List.setIfInBounds_toArray, List.set_cons_zero, List.set_cons_succ]); (refine wpAnyH_ready (rs := [9]) (by kernel_rfl) (by simp) ?_; refine AllReadyH.cons (o := _) rfl (fun K' hK => ?_) AllReadyH.nil; go_simp; (go_at_call 18; (with_reducible refine (hti.out _ hb.out).mono ?_); rintro e w2 ⟨rfl, b2⟩; replace hb := Lib.hid (belowCont hb.out b2); clear b2); (try dsimp only); refine hK.out _ _ ?_ (fun hHeld2 => ?_); (focus ((try dsimp only); (exact hS.out _ hb.out); done)); clear hK K'; clear hHeld; have hHeld := hHeld2; clear hHeld2; try simp only [Act.put, List.setIfInBounds_toArray, List.set_cons_zero, List.set_cons_succ]); (refine take_t (i := 10) (d := 47) (oi := _) (v := ?_) rfl rfl (by kernel_rfl) (by kernel_rfl) (by kernel_rfl) (by rfl) ?_ (by assumption) ?_; rotate_left; (focus (intro w0 hSw; (try dsimp only at hSw); go_simp; (try with_reducible rfl); done)); try simp only [Act.put, List.setIfInBounds_toArray, List.set_cons_zero, List.set_cons_succ]); (refine take_t (i := 11) (d := 48) (oi := _) (v := ?_) rfl rfl (by kernel_rfl) (by kernel_rfl) (by kernel_rfl) (by rfl) ?_ (by assumption) ?_; rotate_left; (focus (intro w0 hSw; (try dsimp only at hSw); go_simp; (try with_reducible rfl); done)); try simp only [Act.put, List.setIfInBounds_toArray, List.set_cons_zero, List.set_cons_succ])
        refine wpAnyH_done (by kernel_rfl) ?_ _; refine NoPanic.normal ?_
        go_wp2
        go_roundg u
        case rel => exact ⟨i + 1, by go_num, by omega, hb.out⟩
        case measure => omega
    | zero =>
      obtain rfl : i = 64 := by omega
      clear hi
      go_wp2
      go_loopg [12] (R.length + 1) (fun gi s12 wr => ∃ j : Nat, s12 = .int .i64 (j : Int) ∧ j + gi = R.length + 2 ∧ 1 ≤ j ∧ Below W1.heap.size W1 wr)
      case atStart => exact ⟨1, rfl, by omega, by omega, hb.out⟩
      case round =>
        clear hb
        obtain ⟨j, rfl, hi, hj1, hb⟩ := hrel
        have u5 := (hS.out _ hb).2.2.2.2.2.1
        obtain ⟨n, hn⟩ : ∃ n, n = R.length := ⟨_, rfl⟩
        have hn19 : n ≤ 19 := by rw [hn]; exact hRl.out
        rw [← hn] at u5 hi
        by_cases hlt : j < n
        · obtain ⟨u, rfl⟩ : ∃ u, gk = u + 1 := ⟨gk - 1, by omega⟩
          obtain ⟨m, rfl⟩ : ∃ m, j = m + 1 := ⟨j - 1, by omega⟩
          obtain ⟨x, hx⟩ : ∃ x, R[m + 1]? = some x := ⟨_, List.getElem?_eq_getElem (by omega)⟩
          obtain ⟨z, hz⟩ : ∃ z, R[m]? = some z := ⟨_, List.getElem?_eq_getElem (by omega)⟩
          have hrow := (hall.out _ hb).row (i := 2) rfl
          obtain ⟨b, cap, hv1, hc1, hc2⟩ := hrow.form (by omega)
          injection hv1 with hv1 hv2 hv3
          subst hv1 hv3
          have y0 : wr.cell? ⟨b, (m + 1) * 4, none⟩ = some (.int .i64 x.key) := (hrow.cellAt ((m + 1) * 4) (by omega)).trans (prC_key hx)
          have y1 : wr.cell? ⟨b, m * 4, none⟩ = some (.int .i64 z.key) := (hrow.cellAt (m * 4) (by omega)).trans (prC_key hz)
          have hle : ¬ x.key ≤ z.key := by
            have := rise_lt hRr.out hz hx
            omega
          have hle2 : decide (x.key ≤ z.key) = false := by simpa using hle
          obtain ⟨j, hj⟩ : ∃ j, j = m + 1 := ⟨_, rfl⟩
          rw [← hj] at y0 hlt hi ⊢
          have e1 : (0 : Int) ≤ (j : Int) := by omega
          have e2 : (j : Int) < (n : Int) := by omega
          have e3 : (0 : Int) ≤ (m : Int) := by omega
          have e4 : (m : Int) < (n : Int) := by omega
          have w1 : IntKind.i64.wrap ((j : Int) - 1) = (m : Int) := by rw [IntWalk.i64_in _ (by omega)]; omega
          clear hrow hc1 hc2 hv2 hx hz hle hj1 hlt
          replace hn := Lib.hid hn; replace hb := Lib.hid hb; replace hj := Lib.hid hj; replace hi := Lib.hid hi; replace w1 := Lib.hid w1
          go_upto_region 14 with fail
          have w1 := w1.out
          go_quiet (fail)
          clear w1
          have hj5 : j ≤ 30 := by omega
          go_wp2
          go_roundg u
          case rel => exact ⟨j + 1, by go_num, by have := hi.out; have := hn.out; omega, by omega, belowDrewN hb.out _⟩
          case measure => omega
        · have g2 : ¬ (j : Int) < (n : Int) := by omega
          replace hb := Lib.hid hb
          clear hi hj1
          go_upto_region 16 with fail
          obtain ⟨c0, c1, c2, c3, c4, c5, _, _, _, _, _, _, _, _, _⟩ := hS.out _ hb.out
          have hp := hall.out _ hb.out
          obtain ⟨Z, hZ⟩ : ∃ Z, Z = withL R k vl0 := ⟨_, rfl⟩
          have hwz := with_any ed (.slice adM L.length cpM) ty fm tw (.slice adR R.length cpR) L.length (inC L) R k vl0 wr (hp.sl (i := 1) rfl (by have := hL.out; omega)) (by simp [inC]) (inC_one L) (by have := hL.out; omega) (hp.sl (i := 2) rfl (by have := hRl.out; omega)) (by have := hRl.out; omega)
          rw [← hZ] at hwz
          have hZf : findL Z k = vl0 := by rw [hZ]; exact with_find_same R k vl0 (fun _ => rfl)
          have hZl : Z.length ≤ P.length := by rw [hZ, hRe.out]; exact with_out P k (yk, yn, ys)
          have hPl := hP.out
          unfold thV Vl.v vl0 at hwz
          replace hwz := Lib.hid hwz; replace hp := Lib.hid hp; replace hZf := Lib.hid hZf; replace hZl := Lib.hid hZl; replace hPl := Lib.hid hPl
          clear hZ u5 g2 hlt
          go_upto_region 17 with (go_at_call 17; (with_reducible refine (hwz.out).mono ?_); rintro e w3 ⟨la3, pr3, rfl, h3⟩; obtain ⟨adN, cpN, rfl⟩ := rowShape (h3.row (i := 0) rfl); obtain ⟨adZ, cpZ, rfl⟩ := rowShape (h3.row (i := 1) rfl); replace hp := Lib.hid (hp.out.take h3); clear h3; have hz := hp.out.alloc #[.bool false, .slice none 0 0, .int .i64 0, .int .u64 0, .int .u64 0, .slice none 0 0] 26; have y0 := hz.free (i := 0) rfl 0; have y1 := hz.free (i := 0) rfl 1; have y2 := hz.free (i := 0) rfl 2; have y3 := hz.free (i := 0) rfl 3; have y4 := hz.free (i := 0) rfl 4; have y5 := hz.free (i := 0) rfl 5; clear hz)
          have hp9 := Lib.hid (hp.out.alloc #[.bool ed, .slice adN L.length cpN, .int .i64 ty, .int .u64 fm, .int .u64 tw, .slice adZ Z.length cpZ] 26)
          clear hp y0 y1 y2 y3 y4 y5 c0 c1 c2 c3 c4 c5 hwz
          generalize w3.alloc _ = W3 at hp9 ⊢
          generalize w3.heap.size = g13 at hp9 ⊢
          have c0 := hp9.out.cell (i := 0) rfl 0; have c1 := hp9.out.cell (i := 0) rfl 1; have c2 := hp9.out.cell (i := 0) rfl 2; have c3 := hp9.out.cell (i := 0) rfl 3; have c4 := hp9.out.cell (i := 0) rfl 4; have c5 := hp9.out.cell (i := 0) rfl 5
          simp at c0 c1 c2 c3 c4 c5
          have hfz : Calls Tryd.prog 18 #[.agg #[.bool ed, .slice adN L.length cpN, .int .i64 ty, .int .u64 fm, .int .u64 tw, .slice adZ Z.length cpZ], .int .i64 k] W3 fun e w' => e = .returned (.agg #[.int .i64 0, .int .i64 0, .string ⟨#[]⟩]) ∧ Below W3.heap.size W3 w' := by
            have := find_any ed (.slice adN L.length cpN) ty fm tw (.slice adZ Z.length cpZ) Z k W3 (hp9.out.sl (i := 2) rfl (by have := hZl.out; have := hPl.out; omega)) (by have := hZl.out; have := hPl.out; omega)
            rw [hZf.out] at this
            exact this
          have hle : (Z.length : Int) ≤ (P.length : Int) := by have := hZl.out; omega
          have hle2 : decide (Z.length ≤ P.length) = true := by simpa using hZl.out
          replace hfz := Lib.hid hfz
          clear hp2 hall hS hfy hft hfk hRe hRr
          go_wp2_with (go_at_call 18; (with_reducible refine (hfz.out).mono ?_); rintro e w4 ⟨rfl, b4⟩; replace hp9 := Lib.hid (hp9.out.below b4); clear b4; have c5 := hp9.out.cell (i := 0) rfl 5; have a5 := hp9.out.cell (i := 8) rfl 5; simp at c5 a5)
          go_ret
          exact ⟨rfl, hp9.out.bel⟩
end Go.Proofs.YtdgpalileloekaaDoor.recw
