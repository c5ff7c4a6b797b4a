/- The document's parser of questions (lodestoneref33.P): a value. No condition but where the words lie. -/
import Derived.Test.YtgbkpkioijbgoaaDoorRq4
namespace Go.Proofs.YtgbkpkioijbgoaaDoor.qry
open Go.RowKit
open lex (W)
open names (Nm mayN)
attribute [local go_sem ↓] Go.wp_at_zero Go.wp_at_succ
attribute [local go_sem] str_size str_bl
set_option linter.unusedVariables false
set_option linter.unusedSimpArgs false
set_option maxRecDepth 100000

theorem rval_results {fn : Func} (hfn : fn.results = #[.cell 2 76, .cell 3 53]) (tmps : Array Value) (W' : World) (g d : Nat) (cs ds : Array Value) (h2 : tmps.getD 2 undef = .pointer (some ⟨g, 0, none⟩)) (h3 : tmps.getD 3 undef = .pointer (some ⟨d, 0, none⟩)) (hg : W'.heap[g]? = some (.cells cs 76 (0, 0))) (hd : W'.heap[d]? = some (.cells ds 53 (0, 0))) (hi : cs.size = 3) (hj : ds.size = 3) :
    (results fn tmps).run Tryd.prog W' = .ok (.tuple #[.agg cs, .agg ds]) W' := by
  have h2' : tmps[2]?.getD undef = .pointer (some ⟨g, 0, none⟩) := by simpa using h2
  have h3' : tmps[3]?.getD undef = .pointer (some ⟨d, 0, none⟩) := by simpa using h3
  have hs : (Tryd.prog.info? 76).map (·.size) = some cs.size := by rw [hi]; kernel_rfl
  have ht : (Tryd.prog.info? 53).map (·.size) = some ds.size := by rw [hj]; kernel_rfl
  simp [results, hfn, h2', h3', asAddr, run_loadVar_row W' g 76 76 cs (0, 0) _ hg Tryd.underlying76 rfl hs, run_loadVar_row W' d 53 53 ds (0, 0) _ hd Tryd.underlying53 rfl ht]
theorem rval_lt {ws : List W} {p : Rp} (h : p.at_ < ws.length) : (rval ws p).1.at_ < ws.length := by
  have h1 : (if ris ws 4 [45] p then rnext ws p else p).at_ < ws.length := by split; exact rnext_lt h; exact h
  unfold rval
  simp only
  generalize (if ris ws 4 [45] p then rnext ws p else p) = p1 at h1 ⊢
  have h2 := rnext_lt h1
  repeat' split
  all_goals first | exact h2 | (rw [rwrong_at]; exact h2)
set_option maxHeartbeats 16000000 in
theorem rval_any {ws : List W} {b : Nat} {p : Rp} {w : World} (h : Rz ws b p w) (cap : Nat) :
    Calls Tryd.prog 69 #[rpA b cap ws.length p] w fun e w' => e = .returned (.tuple #[rpA b cap ws.length (rval ws p).1, (rval ws p).2.a]) ∧ Below w.heap.size w w' := by
  have ci := fun W (hb : Below w.heap.size w W) => ris_any (h.below hb) cap 4 4 rfl [45]
  have e45 : str [45] = (⟨#[45]⟩ : ByteArray) := rfl
  rw [e45] at ci
  obtain ⟨R, hR⟩ : ∃ R, R = rval ws p := ⟨_, rfl⟩
  rw [← hR]
  unfold rval at hR
  simp only at hR
  obtain ⟨m, hm⟩ : ∃ m, m = ris ws 4 [45] p := ⟨_, rfl⟩
  rw [← hm] at ci hR
  have hlen := h.wf.len
  have cx0 := fun W => rnext_any ws b cap p W h.lt hlen
  obtain ⟨p1, hp1⟩ : ∃ r, r = if m = true then rnext ws p else p := ⟨_, rfl⟩
  rw [← hp1] at hR
  have hl1 : p1.at_ < ws.length := by rw [hp1]; split; exact rnext_lt h.lt; exact h.lt
  have hz1 : Rz ws b p1 w := ⟨h.wf, h.at_, hl1⟩
  have cn := fun W (hb : Below w.heap.size w W) => rnow_any (hz1.below hb) cap
  have cx := fun W => rnext_any ws b cap p1 W hl1 hlen
  have cw := fun W => rwrong_any b cap ws.length (rnext ws p1) ((rnow ws p1).pos : Int) W
  have hxn : (rnow ws p1).n ≤ 9223372036854775807 := by
    rw [rnow_eq hl1]
    have hat : ws[p1.at_]? = some (wd ws p1.at_) := by unfold wd; rw [List.getD_eq_getElem?_getD, List.getElem?_eq_getElem hl1]; rfl
    exact h.wf.num _ (List.mem_of_getElem? hat)
  obtain ⟨x, hx⟩ : ∃ x, x = rnow ws p1 := ⟨_, rfl⟩
  rw [← hx] at cn cw hR hxn
  obtain ⟨xk, xs, xn, xp⟩ := x
  simp only at cn cw hR hxn
  obtain ⟨⟨ai, ab⟩, ha⟩ : ∃ r, r = rnext ws p1 := ⟨_, rfl⟩
  rw [← ha] at cx cw hR
  obtain ⟨⟨bi, bb⟩, hb⟩ : ∃ r, r = rwrong ⟨ai, ab⟩ (xp : Int) := ⟨_, rfl⟩
  rw [← hb] at cw hR
  obtain ⟨⟨zi, zb⟩, hz⟩ : ∃ r, r = rnext ws p := ⟨_, rfl⟩
  rw [← hz] at cx0 hp1
  obtain ⟨i, bd⟩ := p
  obtain ⟨i1, bd1⟩ := p1
  simp only [rpA] at ci cn cx cx0 cw ⊢
  obtain ⟨n, hn⟩ : ∃ n, n = ws.length := ⟨_, rfl⟩
  rw [← hn] at ci cn cx cx0 cw ⊢
  have i4 : IntKind.i64.wrap (-(xn : Int)) = -(xn : Int) := IntWalk.i64_in _ (by omega)
  have hp := (((Hp.none_ w []).alloc #[.slice (some ⟨b, 0, none⟩) n cap, .int .i64 (i : Int), .int .i64 bd] 76).alloc #[.slice none 0 0, .int .i64 0, .int .i64 0] 76).alloc #[.int .i64 0, .int .i64 0, .string ⟨#[]⟩] 53
  have hsz : ∀ (u : World) o, (u.alloc o).heap.size = u.heap.size + 1 := fun u o => by simp
  rw [hsz, hsz] at hp
  clear hsz hn hx ha hb hz h hz1 hl1 hlen hm hxn e45
  replace hp := Lib.hid hp; replace ci := Lib.hid ci; replace cn := Lib.hid cn; replace cx := Lib.hid cx; replace cx0 := Lib.hid cx0; replace cw := Lib.hid cw
  replace hR := Lib.hid hR
  go_enter Tryd.func69, Tryd.ntmps69
  go_upto_region 1 with fail
  generalize ((w.alloc _).alloc _).alloc _ = W1 at hp ⊢
  generalize w.heap.size + 1 + 1 = q3 at hp ⊢
  generalize w.heap.size + 1 = q2 at hp ⊢
  generalize w.heap.size = q1 at hp ⊢
  have c0 := hp.out.cell (i := 2) rfl 0; have c1 := hp.out.cell (i := 2) rfl 1; have c2 := hp.out.cell (i := 2) rfl 2
  simp at c0 c1 c2
  cases m with
  | true =>
    have hpe : i1 = zi ∧ bd1 = zb := by rw [if_pos rfl] at hp1; injection hp1 with h1 h2; exact ⟨h1, h2⟩
    obtain ⟨rfl, rfl⟩ := hpe
    clear hp1
    go_upto_region 4 with (first | (go_at_call 27; (with_reducible refine (ci.out _ hp.out.bel).mono ?_); rintro e w2 ⟨rfl, b2⟩; replace hp := Lib.hid (hp.out.below b2); clear b2 c0 c1 c2; have c0 := hp.out.cell (i := 2) rfl 0; have c1 := hp.out.cell (i := 2) rfl 1; have c2 := hp.out.cell (i := 2) rfl 2; have e0 := hp.out.free (i := 2) rfl 0; have e1 := hp.out.free (i := 2) rfl 1; have e2 := hp.out.free (i := 2) rfl 2; simp at c0 c1 c2) | (go_at_call 29; (with_reducible refine (cx0.out _).mono ?_); rintro e w3 ⟨rfl, b3⟩; replace hp := Lib.hid (hp.out.below b3); clear b3 c0 c1 c2 e0 e1 e2; have c0 := hp.out.cell (i := 2) rfl 0; have c1 := hp.out.cell (i := 2) rfl 1; have c2 := hp.out.cell (i := 2) rfl 2; have e0 := hp.out.free (i := 2) rfl 0; have e1 := hp.out.free (i := 2) rfl 1; have e2 := hp.out.free (i := 2) rfl 2; simp at c0 c1 c2))
    replace hp := Lib.hid (((hp.out.put (i := 2) rfl 0 (.slice (some ⟨b, 0, none⟩) n cap)).put (i := 2) rfl 1 (.int .i64 (i1 : Int))).put (i := 2) rfl 2 (.int .i64 bd1))
    clear c0 c1 c2 e0 e1 e2
    generalize World.setCell (World.setCell (World.setCell _ _ _) _ _) _ _ = W2 at hp ⊢
    have c0 := hp.out.cell (i := 2) rfl 0; have c1 := hp.out.cell (i := 2) rfl 1; have c2 := hp.out.cell (i := 2) rfl 2
    simp at c0 c1 c2
    go_upto_region 5 with (go_at_call 32; (with_reducible refine (cn.out _ hp.out.bel).mono ?_); rintro e w4 ⟨rfl, b4⟩; replace hp := Lib.hid (hp.out.below b4); clear b4)
    clear c0 c1 c2
    replace hp := Lib.hid (hp.out.alloc #[.int .i64 (xk : Int), .string (str xs), .int .i64 (xn : Int), .int .i64 (xp : Int)] 71)
    generalize w4.alloc _ = W4 at hp ⊢
    generalize w4.heap.size = q5 at hp ⊢
    have c0 := hp.out.cell (i := 3) rfl 0; have c1 := hp.out.cell (i := 3) rfl 1; have c2 := hp.out.cell (i := 3) rfl 2
    simp at c0 c1 c2
    go_upto_region 6 with (go_at_call 29; (with_reducible refine (cx.out _).mono ?_); rintro e w5 ⟨rfl, b5⟩; replace hp := Lib.hid (hp.out.below b5); clear b5)
    clear c0 c1 c2
    replace hp := Lib.hid (hp.out.alloc #[.slice (some ⟨b, 0, none⟩) n cap, .int .i64 (ai : Int), .int .i64 ab] 76)
    generalize w5.alloc _ = W5 at hp ⊢
    generalize w5.heap.size = q6 at hp ⊢
    by_cases h2 : xk = 2
    · skip
      have n2 : ((xk : Int) == 2) = true := by rw [beq_iff_eq]; omega
      have hf : R = (⟨ai, ab⟩, ⟨2, -(xn : Int), []⟩) := by rw [hR.out, if_pos ⟨h2, trivial⟩]
      clear hR
      subst hf
      have z0 := hp.out.cell (i := 0) rfl 0; have z1 := hp.out.cell (i := 0) rfl 1; have z2 := hp.out.cell (i := 0) rfl 2
      have y0 := hp.out.cell (i := 3) rfl 0; have y1 := hp.out.cell (i := 3) rfl 1; have y2 := hp.out.cell (i := 3) rfl 2
      have g0 := hp.out.free (i := 3) rfl 0; have g1 := hp.out.free (i := 3) rfl 1; have g2 := hp.out.free (i := 3) rfl 2
      have v0 := hp.out.cell (i := 2) rfl 0; have v1 := hp.out.cell (i := 2) rfl 1; have v2 := hp.out.cell (i := 2) rfl 2
      have u0 := hp.out.free (i := 2) rfl 0; have u1 := hp.out.free (i := 2) rfl 1; have u2 := hp.out.free (i := 2) rfl 2
      have x0 := hp.out.cell (i := 1) rfl 0; have x1 := hp.out.cell (i := 1) rfl 1; have x2 := hp.out.cell (i := 1) rfl 2; have x3 := hp.out.cell (i := 1) rfl 3
      simp at z0 z1 z2 y0 y1 y2 v0 v1 v2 x0 x1 x2 x3
      have n20 : ¬ q2 = q3 := hp.out.ne (i := 3) (j := 2) rfl rfl (by decide)
      have n30 : ¬ q3 = q2 := fun e => n20 e.symm
      go_upto_region 7 with fail
      clear z0 z1 z2 x0 x1 x2 x3 n20 n30
      have hsk := Lib.hid (show ∀ (rs : List Rs) (W' : World), Hp w [] rs W' → rs[0]? = some (.box q6 #[.slice (some ⟨b, 0, none⟩) n cap, .int .i64 (ai : Int), .int .i64 ab] 76) → rs[1]? = some (.box q5 #[.int .i64 (xk : Int), .string (str xs), .int .i64 (xn : Int), .int .i64 (xp : Int)] 71) → (fun W' => W'.cell? ⟨q6, 0, none⟩ = some (.slice (some ⟨b, 0, none⟩) n cap) ∧ W'.cell? ⟨q6, 1, none⟩ = some (.int .i64 (ai : Int)) ∧ W'.cell? ⟨q6, 2, none⟩ = some (.int .i64 ab) ∧ W'.cell? ⟨q5, 2, none⟩ = some (.int .i64 (xn : Int))) W' from fun rs W' h hi hj => ⟨(h.cell hi 0).trans rfl, (h.cell hi 1).trans rfl, (h.cell hi 2).trans rfl, (h.cell hj 2).trans rfl⟩)
      refine wp_region_noPanic ?_; refine wp_region_held_drew (S := (fun W' => W'.cell? ⟨q6, 0, none⟩ = some (.slice (some ⟨b, 0, none⟩) n cap) ∧ W'.cell? ⟨q6, 1, none⟩ = some (.int .i64 (ai : Int)) ∧ W'.cell? ⟨q6, 2, none⟩ = some (.int .i64 ab) ∧ W'.cell? ⟨q5, 2, none⟩ = some (.int .i64 (xn : Int)))) (by kernel_rfl) ?_ (fun hHeld => ?_); (focus ((try dsimp only); (first | exact hsk.out _ _ hp.out rfl rfl | exact hsk.out _ _ hp.out.drew rfl rfl); done))
      (refine take_t (i := 0) (d := 23) (oi := _) (v := ?_) rfl rfl (by kernel_rfl) (by kernel_rfl) (by kernel_rfl) (by rfl) ?_ (by assumption) ?_; rotate_left; (focus (intro w0 hSw; (try dsimp only at hSw); go_simp; (try with_reducible rfl); done)); try simp only [Act.put, List.setIfInBounds_toArray, List.set_cons_zero, List.set_cons_succ]); (refine take_t (i := 1) (d := 24) (oi := _) (v := ?_) rfl rfl (by kernel_rfl) (by kernel_rfl) (by kernel_rfl) (by rfl) ?_ (by assumption) ?_; rotate_left; (focus (intro w0 hSw; (try dsimp only at hSw); go_simp; (try with_reducible rfl); done)); try simp only [Act.put, List.setIfInBounds_toArray, List.set_cons_zero, List.set_cons_succ]); (refine take_t (i := 2) (d := 25) (oi := _) (v := ?_) rfl rfl (by kernel_rfl) (by kernel_rfl) (by kernel_rfl) (by rfl) ?_ (by assumption) ?_; rotate_left; (focus (intro w0 hSw; (try dsimp only at hSw); go_simp; (try with_reducible rfl); done)); try simp only [Act.put, List.setIfInBounds_toArray, List.set_cons_zero, List.set_cons_succ]); (refine take_t (i := 3) (d := 26) (oi := _) (v := ?_) rfl rfl (by kernel_rfl) (by kernel_rfl) (by kernel_rfl) (by rfl) ?_ (by assumption) ?_; rotate_left; (focus (intro w0 hSw; (try dsimp only at hSw); go_simp; (try with_reducible rfl); done)); try simp only [Act.put, List.setIfInBounds_toArray, List.set_cons_zero, List.set_cons_succ]); (refine take_t (i := 4) (d := 27) (oi := _) (v := ?_) rfl rfl (by kernel_rfl) (by kernel_rfl) (by kernel_rfl) (by rfl) ?_ (by assumption) ?_; rotate_left; (focus (intro w0 hSw; (try dsimp only at hSw); go_simp; (try with_reducible rfl); done)); try simp only [Act.put, List.setIfInBounds_toArray, List.set_cons_zero, List.set_cons_succ]); (refine wpAnyH_ready (rs := [5]) (by kernel_rfl) (by simp) ?_; refine AllReadyH.cons (o := _) rfl (fun K' hK => ?_) AllReadyH.nil; go_simp; (replace hp := Lib.hid ((((hp.out.put (i := 3) rfl 0 (.slice (some ⟨b, 0, none⟩) n cap)).put (i := 3) rfl 1 (.int .i64 (ai : Int))).put (i := 3) rfl 2 (.int .i64 ab))).drew; clear y0 y1 y2 g0 g1 g2 v0 v1 v2 u0 u1 u2); (try dsimp only); refine hK.out _ _ ?_ (fun hHeld2 => ?_); (focus ((try dsimp only); (first | exact hsk.out _ _ hp.out rfl rfl | exact hsk.out _ _ hp.out.drew rfl rfl); done)); clear hK K'; clear hHeld; have hHeld := hHeld2; clear hHeld2; try simp only [Act.put, List.setIfInBounds_toArray, List.set_cons_zero, List.set_cons_succ])
      generalize World.drew _ = W8 at hp hHeld ⊢
      have v0 := hp.out.cell (i := 2) rfl 0; have v1 := hp.out.cell (i := 2) rfl 1; have v2 := hp.out.cell (i := 2) rfl 2
      have u0 := hp.out.free (i := 2) rfl 0; have u1 := hp.out.free (i := 2) rfl 1; have u2 := hp.out.free (i := 2) rfl 2
      simp at v0 v1 v2
      (refine wpAnyH_ready (rs := [6]) (by kernel_rfl) (by simp) ?_; refine AllReadyH.cons (o := _) rfl (fun K' hK => ?_) AllReadyH.nil; go_simp; (replace hp := Lib.hid (((hp.out.put (i := 2) rfl 0 (.int .i64 2)).put (i := 2) rfl 1 (.int .i64 (-(xn : Int)))).put (i := 2) rfl 2 (.string ⟨#[]⟩))); (try dsimp only); refine hK.out _ _ ?_ (fun hHeld2 => ?_); (focus ((try dsimp only); (first | exact hsk.out _ _ hp.out rfl rfl | exact hsk.out _ _ hp.out.drew rfl rfl); done)); clear hK K'; clear hHeld; have hHeld := hHeld2; clear hHeld2; try simp only [Act.put, List.setIfInBounds_toArray, List.set_cons_zero, List.set_cons_succ])
      refine wpAnyH_done (by kernel_rfl) ?_ _; refine NoPanic.normal ?_
      go_wp2
      have hpg := hp.out
      exact bodyPost_ret (v := .tuple #[.agg #[.slice (some ⟨b, 0, none⟩) n cap, .int .i64 (ai : Int), .int .i64 ab], .agg #[.int .i64 2, .int .i64 (-(xn : Int)), .string ⟨#[]⟩]]) (rval_results rfl _ _ q2 q3 #[.slice (some ⟨b, 0, none⟩) n cap, .int .i64 (ai : Int), .int .i64 ab] #[.int .i64 2, .int .i64 (-(xn : Int)), .string ⟨#[]⟩] rfl rfl (hpg.box (i := 3) rfl) (hpg.box (i := 2) rfl) rfl rfl) rfl ⟨rfl, hpg.bel⟩
    · skip
      have n2 : ((xk : Int) == 2) = false := by rw [beq_eq_false_iff_ne]; omega
      have hf : R = (⟨bi, bb⟩, ⟨0, 0, []⟩) := by rw [hR.out, if_neg (fun h => h2 h.1), if_neg h2, if_pos trivial]
      clear hR
      subst hf
      have z0 := hp.out.cell (i := 0) rfl 0; have z1 := hp.out.cell (i := 0) rfl 1; have z2 := hp.out.cell (i := 0) rfl 2
      have y0 := hp.out.cell (i := 3) rfl 0; have y1 := hp.out.cell (i := 3) rfl 1; have y2 := hp.out.cell (i := 3) rfl 2
      have g0 := hp.out.free (i := 3) rfl 0; have g1 := hp.out.free (i := 3) rfl 1; have g2 := hp.out.free (i := 3) rfl 2
      have v0 := hp.out.cell (i := 2) rfl 0; have v1 := hp.out.cell (i := 2) rfl 1; have v2 := hp.out.cell (i := 2) rfl 2
      have u0 := hp.out.free (i := 2) rfl 0; have u1 := hp.out.free (i := 2) rfl 1; have u2 := hp.out.free (i := 2) rfl 2
      have x0 := hp.out.cell (i := 1) rfl 0; have x1 := hp.out.cell (i := 1) rfl 1; have x2 := hp.out.cell (i := 1) rfl 2; have x3 := hp.out.cell (i := 1) rfl 3
      simp at z0 z1 z2 y0 y1 y2 v0 v1 v2 x0 x1 x2 x3
      have n20 : ¬ q2 = q3 := hp.out.ne (i := 3) (j := 2) rfl rfl (by decide)
      have n30 : ¬ q3 = q2 := fun e => n20 e.symm
      go_wp2_with (go_at_call 31; (with_reducible refine (cw.out _).mono ?_); rintro e w8 ⟨rfl, b8⟩; replace hp := Lib.hid (hp.out.below b8); clear b8 z0 z1 z2 y0 y1 y2 g0 g1 g2 v0 v1 v2 u0 u1 u2 x0 x1 x2 x3; have y0 := hp.out.cell (i := 3) rfl 0; have y1 := hp.out.cell (i := 3) rfl 1; have y2 := hp.out.cell (i := 3) rfl 2; have g0 := hp.out.free (i := 3) rfl 0; have g1 := hp.out.free (i := 3) rfl 1; have g2 := hp.out.free (i := 3) rfl 2; have v0 := hp.out.cell (i := 2) rfl 0; have v1 := hp.out.cell (i := 2) rfl 1; have v2 := hp.out.cell (i := 2) rfl 2; have u0 := hp.out.free (i := 2) rfl 0; have u1 := hp.out.free (i := 2) rfl 1; have u2 := hp.out.free (i := 2) rfl 2; simp at y0 y1 y2 v0 v1 v2)
      replace hp := Lib.hid ((((((hp.out.put (i := 3) rfl 0 (.slice (some ⟨b, 0, none⟩) n cap)).put (i := 3) rfl 1 (.int .i64 (bi : Int))).put (i := 3) rfl 2 (.int .i64 bb)).put (i := 2) rfl 0 (.int .i64 0)).put (i := 2) rfl 1 (.int .i64 0)).put (i := 2) rfl 2 (.string ⟨#[]⟩))
      have hpg := hp.out
      exact bodyPost_ret (v := .tuple #[.agg #[.slice (some ⟨b, 0, none⟩) n cap, .int .i64 (bi : Int), .int .i64 bb], .agg #[.int .i64 0, .int .i64 0, .string ⟨#[]⟩]]) (rval_results rfl _ _ q2 q3 #[.slice (some ⟨b, 0, none⟩) n cap, .int .i64 (bi : Int), .int .i64 bb] #[.int .i64 0, .int .i64 0, .string ⟨#[]⟩] rfl rfl (hpg.box (i := 3) rfl) (hpg.box (i := 2) rfl) rfl rfl) rfl ⟨rfl, hpg.bel⟩
  | false =>
    have hpe : i1 = i ∧ bd1 = bd := by rw [if_neg (by decide)] at hp1; injection hp1 with h1 h2; exact ⟨h1, h2⟩
    obtain ⟨rfl, rfl⟩ := hpe
    clear hp1
    go_upto_region 4 with (go_at_call 27; (with_reducible refine (ci.out _ hp.out.bel).mono ?_); rintro e w2 ⟨rfl, b2⟩; replace hp := Lib.hid (hp.out.below b2); clear b2 c0 c1 c2; have c0 := hp.out.cell (i := 2) rfl 0; have c1 := hp.out.cell (i := 2) rfl 1; have c2 := hp.out.cell (i := 2) rfl 2; have e0 := hp.out.free (i := 2) rfl 0; have e1 := hp.out.free (i := 2) rfl 1; have e2 := hp.out.free (i := 2) rfl 2; simp at c0 c1 c2)
    clear e0 e1 e2
    go_upto_region 5 with (go_at_call 32; (with_reducible refine (cn.out _ hp.out.bel).mono ?_); rintro e w4 ⟨rfl, b4⟩; replace hp := Lib.hid (hp.out.below b4); clear b4)
    clear c0 c1 c2
    replace hp := Lib.hid (hp.out.alloc #[.int .i64 (xk : Int), .string (str xs), .int .i64 (xn : Int), .int .i64 (xp : Int)] 71)
    generalize w4.alloc _ = W4 at hp ⊢
    generalize w4.heap.size = q5 at hp ⊢
    have c0 := hp.out.cell (i := 3) rfl 0; have c1 := hp.out.cell (i := 3) rfl 1; have c2 := hp.out.cell (i := 3) rfl 2
    simp at c0 c1 c2
    go_upto_region 6 with (go_at_call 29; (with_reducible refine (cx.out _).mono ?_); rintro e w5 ⟨rfl, b5⟩; replace hp := Lib.hid (hp.out.below b5); clear b5)
    clear c0 c1 c2
    replace hp := Lib.hid (hp.out.alloc #[.slice (some ⟨b, 0, none⟩) n cap, .int .i64 (ai : Int), .int .i64 ab] 76)
    generalize w5.alloc _ = W5 at hp ⊢
    generalize w5.heap.size = q6 at hp ⊢
    by_cases h2 : xk = 2
    · skip
      have n2 : ((xk : Int) == 2) = true := by rw [beq_iff_eq]; omega
      have hf : R = (⟨ai, ab⟩, ⟨2, (xn : Int), []⟩) := by rw [hR.out, if_neg (fun h => by cases h.2), if_pos h2]
      clear hR
      subst hf
      have z0 := hp.out.cell (i := 0) rfl 0; have z1 := hp.out.cell (i := 0) rfl 1; have z2 := hp.out.cell (i := 0) rfl 2
      have y0 := hp.out.cell (i := 3) rfl 0; have y1 := hp.out.cell (i := 3) rfl 1; have y2 := hp.out.cell (i := 3) rfl 2
      have g0 := hp.out.free (i := 3) rfl 0; have g1 := hp.out.free (i := 3) rfl 1; have g2 := hp.out.free (i := 3) rfl 2
      have v0 := hp.out.cell (i := 2) rfl 0; have v1 := hp.out.cell (i := 2) rfl 1; have v2 := hp.out.cell (i := 2) rfl 2
      have u0 := hp.out.free (i := 2) rfl 0; have u1 := hp.out.free (i := 2) rfl 1; have u2 := hp.out.free (i := 2) rfl 2
      have x0 := hp.out.cell (i := 1) rfl 0; have x1 := hp.out.cell (i := 1) rfl 1; have x2 := hp.out.cell (i := 1) rfl 2; have x3 := hp.out.cell (i := 1) rfl 3
      simp at z0 z1 z2 y0 y1 y2 v0 v1 v2 x0 x1 x2 x3
      have n20 : ¬ q2 = q3 := hp.out.ne (i := 3) (j := 2) rfl rfl (by decide)
      have n30 : ¬ q3 = q2 := fun e => n20 e.symm
      go_upto_region 9 with fail
      clear z0 z1 z2 x0 x1 x2 x3 n20 n30
      have hsk := Lib.hid (show ∀ (rs : List Rs) (W' : World), Hp w [] rs W' → rs[0]? = some (.box q6 #[.slice (some ⟨b, 0, none⟩) n cap, .int .i64 (ai : Int), .int .i64 ab] 76) → rs[1]? = some (.box q5 #[.int .i64 (xk : Int), .string (str xs), .int .i64 (xn : Int), .int .i64 (xp : Int)] 71) → (fun W' => W'.cell? ⟨q6, 0, none⟩ = some (.slice (some ⟨b, 0, none⟩) n cap) ∧ W'.cell? ⟨q6, 1, none⟩ = some (.int .i64 (ai : Int)) ∧ W'.cell? ⟨q6, 2, none⟩ = some (.int .i64 ab) ∧ W'.cell? ⟨q5, 2, none⟩ = some (.int .i64 (xn : Int))) W' from fun rs W' h hi hj => ⟨(h.cell hi 0).trans rfl, (h.cell hi 1).trans rfl, (h.cell hi 2).trans rfl, (h.cell hj 2).trans rfl⟩)
      refine wp_region_noPanic ?_; refine wp_region_held_drew (S := (fun W' => W'.cell? ⟨q6, 0, none⟩ = some (.slice (some ⟨b, 0, none⟩) n cap) ∧ W'.cell? ⟨q6, 1, none⟩ = some (.int .i64 (ai : Int)) ∧ W'.cell? ⟨q6, 2, none⟩ = some (.int .i64 ab) ∧ W'.cell? ⟨q5, 2, none⟩ = some (.int .i64 (xn : Int)))) (by kernel_rfl) ?_ (fun hHeld => ?_); (focus ((try dsimp only); (first | exact hsk.out _ _ hp.out rfl rfl | exact hsk.out _ _ hp.out.drew rfl rfl); done))
      (refine take_t (i := 0) (d := 32) (oi := _) (v := ?_) rfl rfl (by kernel_rfl) (by kernel_rfl) (by kernel_rfl) (by rfl) ?_ (by assumption) ?_; rotate_left; (focus (intro w0 hSw; (try dsimp only at hSw); go_simp; (try with_reducible rfl); done)); try simp only [Act.put, List.setIfInBounds_toArray, List.set_cons_zero, List.set_cons_succ]); (refine take_t (i := 1) (d := 33) (oi := _) (v := ?_) rfl rfl (by kernel_rfl) (by kernel_rfl) (by kernel_rfl) (by rfl) ?_ (by assumption) ?_; rotate_left; (focus (intro w0 hSw; (try dsimp only at hSw); go_simp; (try with_reducible rfl); done)); try simp only [Act.put, List.setIfInBounds_toArray, List.set_cons_zero, List.set_cons_succ]); (refine take_t (i := 2) (d := 34) (oi := _) (v := ?_) rfl rfl (by kernel_rfl) (by kernel_rfl) (by kernel_rfl) (by rfl) ?_ (by assumption) ?_; rotate_left; (focus (intro w0 hSw; (try dsimp only at hSw); go_simp; (try with_reducible rfl); done)); try simp only [Act.put, List.setIfInBounds_toArray, List.set_cons_zero, List.set_cons_succ]); (refine take_t (i := 3) (d := 35) (oi := _) (v := ?_) rfl rfl (by kernel_rfl) (by kernel_rfl) (by kernel_rfl) (by rfl) ?_ (by assumption) ?_; rotate_left; (focus (intro w0 hSw; (try dsimp only at hSw); go_simp; (try with_reducible rfl); done)); try simp only [Act.put, List.setIfInBounds_toArray, List.set_cons_zero, List.set_cons_succ]); (refine wpAnyH_ready (rs := [4]) (by kernel_rfl) (by simp) ?_; refine AllReadyH.cons (o := _) rfl (fun K' hK => ?_) AllReadyH.nil; go_simp; (replace hp := Lib.hid ((((hp.out.put (i := 3) rfl 0 (.slice (some ⟨b, 0, none⟩) n cap)).put (i := 3) rfl 1 (.int .i64 (ai : Int))).put (i := 3) rfl 2 (.int .i64 ab))).drew; clear y0 y1 y2 g0 g1 g2 v0 v1 v2 u0 u1 u2); (try dsimp only); refine hK.out _ _ ?_ (fun hHeld2 => ?_); (focus ((try dsimp only); (first | exact hsk.out _ _ hp.out rfl rfl | exact hsk.out _ _ hp.out.drew rfl rfl); done)); clear hK K'; clear hHeld; have hHeld := hHeld2; clear hHeld2; try simp only [Act.put, List.setIfInBounds_toArray, List.set_cons_zero, List.set_cons_succ])
      generalize World.drew _ = W8 at hp hHeld ⊢
      have v0 := hp.out.cell (i := 2) rfl 0; have v1 := hp.out.cell (i := 2) rfl 1; have v2 := hp.out.cell (i := 2) rfl 2
      have u0 := hp.out.free (i := 2) rfl 0; have u1 := hp.out.free (i := 2) rfl 1; have u2 := hp.out.free (i := 2) rfl 2
      simp at v0 v1 v2
      (refine wpAnyH_ready (rs := [5]) (by kernel_rfl) (by simp) ?_; refine AllReadyH.cons (o := _) rfl (fun K' hK => ?_) AllReadyH.nil; go_simp; (replace hp := Lib.hid (((hp.out.put (i := 2) rfl 0 (.int .i64 2)).put (i := 2) rfl 1 (.int .i64 (xn : Int))).put (i := 2) rfl 2 (.string ⟨#[]⟩))); (try dsimp only); refine hK.out _ _ ?_ (fun hHeld2 => ?_); (focus ((try dsimp only); (first | exact hsk.out _ _ hp.out rfl rfl | exact hsk.out _ _ hp.out.drew rfl rfl); done)); clear hK K'; clear hHeld; have hHeld := hHeld2; clear hHeld2; try simp only [Act.put, List.setIfInBounds_toArray, List.set_cons_zero, List.set_cons_succ])
      refine wpAnyH_done (by kernel_rfl) ?_ _; refine NoPanic.normal ?_
      go_wp2
      have hpg := hp.out
      exact bodyPost_ret (v := .tuple #[.agg #[.slice (some ⟨b, 0, none⟩) n cap, .int .i64 (ai : Int), .int .i64 ab], .agg #[.int .i64 2, .int .i64 (xn : Int), .string ⟨#[]⟩]]) (rval_results rfl _ _ q2 q3 #[.slice (some ⟨b, 0, none⟩) n cap, .int .i64 (ai : Int), .int .i64 ab] #[.int .i64 2, .int .i64 (xn : Int), .string ⟨#[]⟩] rfl rfl (hpg.box (i := 3) rfl) (hpg.box (i := 2) rfl) rfl rfl) rfl ⟨rfl, hpg.bel⟩
    · by_cases h3 : xk = 3
      · skip
        have n2 : ((xk : Int) == 2) = false := by rw [beq_eq_false_iff_ne]; omega
        have n3 : ((xk : Int) == 3) = true := by rw [beq_iff_eq]; omega
        have hf : R = (⟨ai, ab⟩, ⟨3, 0, xs⟩) := by rw [hR.out, if_neg (fun h => by cases h.2), if_neg h2, if_neg (fun h => by cases h), if_pos h3]
        clear hR
        subst hf
        have z0 := hp.out.cell (i := 0) rfl 0; have z1 := hp.out.cell (i := 0) rfl 1; have z2 := hp.out.cell (i := 0) rfl 2
        have y0 := hp.out.cell (i := 3) rfl 0; have y1 := hp.out.cell (i := 3) rfl 1; have y2 := hp.out.cell (i := 3) rfl 2
        have g0 := hp.out.free (i := 3) rfl 0; have g1 := hp.out.free (i := 3) rfl 1; have g2 := hp.out.free (i := 3) rfl 2
        have v0 := hp.out.cell (i := 2) rfl 0; have v1 := hp.out.cell (i := 2) rfl 1; have v2 := hp.out.cell (i := 2) rfl 2
        have u0 := hp.out.free (i := 2) rfl 0; have u1 := hp.out.free (i := 2) rfl 1; have u2 := hp.out.free (i := 2) rfl 2
        have x0 := hp.out.cell (i := 1) rfl 0; have x1 := hp.out.cell (i := 1) rfl 1; have x2 := hp.out.cell (i := 1) rfl 2; have x3 := hp.out.cell (i := 1) rfl 3
        simp at z0 z1 z2 y0 y1 y2 v0 v1 v2 x0 x1 x2 x3
        have n20 : ¬ q2 = q3 := hp.out.ne (i := 3) (j := 2) rfl rfl (by decide)
        have n30 : ¬ q3 = q2 := fun e => n20 e.symm
        go_upto_region 12 with fail
        clear z0 z1 z2 x0 x1 x2 x3 n20 n30
        have hsk := Lib.hid (show ∀ (rs : List Rs) (W' : World), Hp w [] rs W' → rs[0]? = some (.box q6 #[.slice (some ⟨b, 0, none⟩) n cap, .int .i64 (ai : Int), .int .i64 ab] 76) → rs[1]? = some (.box q5 #[.int .i64 (xk : Int), .string (str xs), .int .i64 (xn : Int), .int .i64 (xp : Int)] 71) → (fun W' => W'.cell? ⟨q6, 0, none⟩ = some (.slice (some ⟨b, 0, none⟩) n cap) ∧ W'.cell? ⟨q6, 1, none⟩ = some (.int .i64 (ai : Int)) ∧ W'.cell? ⟨q6, 2, none⟩ = some (.int .i64 ab) ∧ W'.cell? ⟨q5, 1, none⟩ = some (.string (str xs))) W' from fun rs W' h hi hj => ⟨(h.cell hi 0).trans rfl, (h.cell hi 1).trans rfl, (h.cell hi 2).trans rfl, (h.cell hj 1).trans rfl⟩)
        refine wp_region_noPanic ?_; refine wp_region_held_drew (S := (fun W' => W'.cell? ⟨q6, 0, none⟩ = some (.slice (some ⟨b, 0, none⟩) n cap) ∧ W'.cell? ⟨q6, 1, none⟩ = some (.int .i64 (ai : Int)) ∧ W'.cell? ⟨q6, 2, none⟩ = some (.int .i64 ab) ∧ W'.cell? ⟨q5, 1, none⟩ = some (.string (str xs)))) (by kernel_rfl) ?_ (fun hHeld => ?_); (focus ((try dsimp only); (first | exact hsk.out _ _ hp.out rfl rfl | exact hsk.out _ _ hp.out.drew rfl rfl); done))
        (refine take_t (i := 0) (d := 42) (oi := _) (v := ?_) rfl rfl (by kernel_rfl) (by kernel_rfl) (by kernel_rfl) (by rfl) ?_ (by assumption) ?_; rotate_left; (focus (intro w0 hSw; (try dsimp only at hSw); go_simp; (try with_reducible rfl); done)); try simp only [Act.put, List.setIfInBounds_toArray, List.set_cons_zero, List.set_cons_succ]); (refine take_t (i := 1) (d := 43) (oi := _) (v := ?_) rfl rfl (by kernel_rfl) (by kernel_rfl) (by kernel_rfl) (by rfl) ?_ (by assumption) ?_; rotate_left; (focus (intro w0 hSw; (try dsimp only at hSw); go_simp; (try with_reducible rfl); done)); try simp only [Act.put, List.setIfInBounds_toArray, List.set_cons_zero, List.set_cons_succ]); (refine take_t (i := 2) (d := 44) (oi := _) (v := ?_) rfl rfl (by kernel_rfl) (by kernel_rfl) (by kernel_rfl) (by rfl) ?_ (by assumption) ?_; rotate_left; (focus (intro w0 hSw; (try dsimp only at hSw); go_simp; (try with_reducible rfl); done)); try simp only [Act.put, List.setIfInBounds_toArray, List.set_cons_zero, List.set_cons_succ]); (refine take_t (i := 3) (d := 45) (oi := _) (v := ?_) rfl rfl (by kernel_rfl) (by kernel_rfl) (by kernel_rfl) (by rfl) ?_ (by assumption) ?_; rotate_left; (focus (intro w0 hSw; (try dsimp only at hSw); go_simp; (try with_reducible rfl); done)); try simp only [Act.put, List.setIfInBounds_toArray, List.set_cons_zero, List.set_cons_succ]); (refine wpAnyH_ready (rs := [4]) (by kernel_rfl) (by simp) ?_; refine AllReadyH.cons (o := _) rfl (fun K' hK => ?_) AllReadyH.nil; go_simp; (replace hp := Lib.hid ((((hp.out.put (i := 3) rfl 0 (.slice (some ⟨b, 0, none⟩) n cap)).put (i := 3) rfl 1 (.int .i64 (ai : Int))).put (i := 3) rfl 2 (.int .i64 ab))).drew; clear y0 y1 y2 g0 g1 g2 v0 v1 v2 u0 u1 u2); (try dsimp only); refine hK.out _ _ ?_ (fun hHeld2 => ?_); (focus ((try dsimp only); (first | exact hsk.out _ _ hp.out rfl rfl | exact hsk.out _ _ hp.out.drew rfl rfl); done)); clear hK K'; clear hHeld; have hHeld := hHeld2; clear hHeld2; try simp only [Act.put, List.setIfInBounds_toArray, List.set_cons_zero, List.set_cons_succ])
        generalize World.drew _ = W8 at hp hHeld ⊢
        have v0 := hp.out.cell (i := 2) rfl 0; have v1 := hp.out.cell (i := 2) rfl 1; have v2 := hp.out.cell (i := 2) rfl 2
        have u0 := hp.out.free (i := 2) rfl 0; have u1 := hp.out.free (i := 2) rfl 1; have u2 := hp.out.free (i := 2) rfl 2
        simp at v0 v1 v2
        (refine wpAnyH_ready (rs := [5]) (by kernel_rfl) (by simp) ?_; refine AllReadyH.cons (o := _) rfl (fun K' hK => ?_) AllReadyH.nil; go_simp; (replace hp := Lib.hid (((hp.out.put (i := 2) rfl 0 (.int .i64 3)).put (i := 2) rfl 1 (.int .i64 0)).put (i := 2) rfl 2 (.string (str xs)))); (try dsimp only); refine hK.out _ _ ?_ (fun hHeld2 => ?_); (focus ((try dsimp only); (first | exact hsk.out _ _ hp.out rfl rfl | exact hsk.out _ _ hp.out.drew rfl rfl); done)); clear hK K'; clear hHeld; have hHeld := hHeld2; clear hHeld2; try simp only [Act.put, List.setIfInBounds_toArray, List.set_cons_zero, List.set_cons_succ])
        refine wpAnyH_done (by kernel_rfl) ?_ _; refine NoPanic.normal ?_
        go_wp2
        have hpg := hp.out
        exact bodyPost_ret (v := .tuple #[.agg #[.slice (some ⟨b, 0, none⟩) n cap, .int .i64 (ai : Int), .int .i64 ab], .agg #[.int .i64 3, .int .i64 0, .string (str xs)]]) (rval_results rfl _ _ q2 q3 #[.slice (some ⟨b, 0, none⟩) n cap, .int .i64 (ai : Int), .int .i64 ab] #[.int .i64 3, .int .i64 0, .string (str xs)] rfl rfl (hpg.box (i := 3) rfl) (hpg.box (i := 2) rfl) rfl rfl) rfl ⟨rfl, hpg.bel⟩
      · by_cases h1 : xk = 1
        · by_cases s1 : xs = [116, 114, 117, 101]
          · skip
            have n2 : ((xk : Int) == 2) = false := by rw [beq_eq_false_iff_ne]; omega
            have n3 : ((xk : Int) == 3) = false := by rw [beq_eq_false_iff_ne]; omega
            have n1 : ((xk : Int) == 1) = true := by rw [beq_iff_eq]; omega
            have m1 : (xs == [116, 114, 117, 101]) = true := by rw [s1]; rfl
            have hf : R = (⟨ai, ab⟩, ⟨1, 1, []⟩) := by rw [hR.out, if_neg (fun h => by cases h.2), if_neg h2, if_neg (fun h => by cases h), if_neg h3, if_pos ⟨h1, s1⟩]
            clear hR
            subst hf
            have z0 := hp.out.cell (i := 0) rfl 0; have z1 := hp.out.cell (i := 0) rfl 1; have z2 := hp.out.cell (i := 0) rfl 2
            have y0 := hp.out.cell (i := 3) rfl 0; have y1 := hp.out.cell (i := 3) rfl 1; have y2 := hp.out.cell (i := 3) rfl 2
            have g0 := hp.out.free (i := 3) rfl 0; have g1 := hp.out.free (i := 3) rfl 1; have g2 := hp.out.free (i := 3) rfl 2
            have v0 := hp.out.cell (i := 2) rfl 0; have v1 := hp.out.cell (i := 2) rfl 1; have v2 := hp.out.cell (i := 2) rfl 2
            have u0 := hp.out.free (i := 2) rfl 0; have u1 := hp.out.free (i := 2) rfl 1; have u2 := hp.out.free (i := 2) rfl 2
            have x0 := hp.out.cell (i := 1) rfl 0; have x1 := hp.out.cell (i := 1) rfl 1; have x2 := hp.out.cell (i := 1) rfl 2; have x3 := hp.out.cell (i := 1) rfl 3
            simp at z0 z1 z2 y0 y1 y2 v0 v1 v2 x0 x1 x2 x3
            have n20 : ¬ q2 = q3 := hp.out.ne (i := 3) (j := 2) rfl rfl (by decide)
            have n30 : ¬ q3 = q2 := fun e => n20 e.symm
            go_wp2
            replace hp := Lib.hid ((((((hp.out.put (i := 3) rfl 0 (.slice (some ⟨b, 0, none⟩) n cap)).put (i := 3) rfl 1 (.int .i64 (ai : Int))).put (i := 3) rfl 2 (.int .i64 ab)).put (i := 2) rfl 0 (.int .i64 1)).put (i := 2) rfl 1 (.int .i64 1)).put (i := 2) rfl 2 (.string ⟨#[]⟩))
            have hpg := hp.out
            exact bodyPost_ret (v := .tuple #[.agg #[.slice (some ⟨b, 0, none⟩) n cap, .int .i64 (ai : Int), .int .i64 ab], .agg #[.int .i64 1, .int .i64 1, .string ⟨#[]⟩]]) (rval_results rfl _ _ q2 q3 #[.slice (some ⟨b, 0, none⟩) n cap, .int .i64 (ai : Int), .int .i64 ab] #[.int .i64 1, .int .i64 1, .string ⟨#[]⟩] rfl rfl (hpg.box (i := 3) rfl) (hpg.box (i := 2) rfl) rfl rfl) rfl ⟨rfl, hpg.bel⟩
          · by_cases s2 : xs = [102, 97, 108, 115, 101]
            · skip
              have n2 : ((xk : Int) == 2) = false := by rw [beq_eq_false_iff_ne]; omega
              have n3 : ((xk : Int) == 3) = false := by rw [beq_eq_false_iff_ne]; omega
              have n1 : ((xk : Int) == 1) = true := by rw [beq_iff_eq]; omega
              have m1 : (xs == [116, 114, 117, 101]) = false := by simp [s1]
              have m2 : (xs == [102, 97, 108, 115, 101]) = true := by rw [s2]; rfl
              have hf : R = (⟨ai, ab⟩, ⟨1, 0, []⟩) := by rw [hR.out, if_neg (fun h => by cases h.2), if_neg h2, if_neg (fun h => by cases h), if_neg h3, if_neg (fun h => s1 h.2), if_pos ⟨h1, s2⟩]
              clear hR
              subst hf
              have z0 := hp.out.cell (i := 0) rfl 0; have z1 := hp.out.cell (i := 0) rfl 1; have z2 := hp.out.cell (i := 0) rfl 2
              have y0 := hp.out.cell (i := 3) rfl 0; have y1 := hp.out.cell (i := 3) rfl 1; have y2 := hp.out.cell (i := 3) rfl 2
              have g0 := hp.out.free (i := 3) rfl 0; have g1 := hp.out.free (i := 3) rfl 1; have g2 := hp.out.free (i := 3) rfl 2
              have v0 := hp.out.cell (i := 2) rfl 0; have v1 := hp.out.cell (i := 2) rfl 1; have v2 := hp.out.cell (i := 2) rfl 2
              have u0 := hp.out.free (i := 2) rfl 0; have u1 := hp.out.free (i := 2) rfl 1; have u2 := hp.out.free (i := 2) rfl 2
              have x0 := hp.out.cell (i := 1) rfl 0; have x1 := hp.out.cell (i := 1) rfl 1; have x2 := hp.out.cell (i := 1) rfl 2; have x3 := hp.out.cell (i := 1) rfl 3
              simp at z0 z1 z2 y0 y1 y2 v0 v1 v2 x0 x1 x2 x3
              have n20 : ¬ q2 = q3 := hp.out.ne (i := 3) (j := 2) rfl rfl (by decide)
              have n30 : ¬ q3 = q2 := fun e => n20 e.symm
              go_wp2
              replace hp := Lib.hid ((((((hp.out.put (i := 3) rfl 0 (.slice (some ⟨b, 0, none⟩) n cap)).put (i := 3) rfl 1 (.int .i64 (ai : Int))).put (i := 3) rfl 2 (.int .i64 ab)).put (i := 2) rfl 0 (.int .i64 1)).put (i := 2) rfl 1 (.int .i64 0)).put (i := 2) rfl 2 (.string ⟨#[]⟩))
              have hpg := hp.out
              exact bodyPost_ret (v := .tuple #[.agg #[.slice (some ⟨b, 0, none⟩) n cap, .int .i64 (ai : Int), .int .i64 ab], .agg #[.int .i64 1, .int .i64 0, .string ⟨#[]⟩]]) (rval_results rfl _ _ q2 q3 #[.slice (some ⟨b, 0, none⟩) n cap, .int .i64 (ai : Int), .int .i64 ab] #[.int .i64 1, .int .i64 0, .string ⟨#[]⟩] rfl rfl (hpg.box (i := 3) rfl) (hpg.box (i := 2) rfl) rfl rfl) rfl ⟨rfl, hpg.bel⟩
            · by_cases s3 : xs = [110, 111, 116, 104, 105, 110, 103]
              · skip
                have n2 : ((xk : Int) == 2) = false := by rw [beq_eq_false_iff_ne]; omega
                have n3 : ((xk : Int) == 3) = false := by rw [beq_eq_false_iff_ne]; omega
                have n1 : ((xk : Int) == 1) = true := by rw [beq_iff_eq]; omega
                have m1 : (xs == [116, 114, 117, 101]) = false := by simp [s1]
                have m2 : (xs == [102, 97, 108, 115, 101]) = false := by simp [s2]
                have m3 : (xs == [110, 111, 116, 104, 105, 110, 103]) = true := by rw [s3]; rfl
                have hf : R = (⟨ai, ab⟩, ⟨0, 0, []⟩) := by rw [hR.out, if_neg (fun h => by cases h.2), if_neg h2, if_neg (fun h => by cases h), if_neg h3, if_neg (fun h => s1 h.2), if_neg (fun h => s2 h.2), if_pos ⟨h1, s3⟩]
                clear hR
                subst hf
                have z0 := hp.out.cell (i := 0) rfl 0; have z1 := hp.out.cell (i := 0) rfl 1; have z2 := hp.out.cell (i := 0) rfl 2
                have y0 := hp.out.cell (i := 3) rfl 0; have y1 := hp.out.cell (i := 3) rfl 1; have y2 := hp.out.cell (i := 3) rfl 2
                have g0 := hp.out.free (i := 3) rfl 0; have g1 := hp.out.free (i := 3) rfl 1; have g2 := hp.out.free (i := 3) rfl 2
                have v0 := hp.out.cell (i := 2) rfl 0; have v1 := hp.out.cell (i := 2) rfl 1; have v2 := hp.out.cell (i := 2) rfl 2
                have u0 := hp.out.free (i := 2) rfl 0; have u1 := hp.out.free (i := 2) rfl 1; have u2 := hp.out.free (i := 2) rfl 2
                have x0 := hp.out.cell (i := 1) rfl 0; have x1 := hp.out.cell (i := 1) rfl 1; have x2 := hp.out.cell (i := 1) rfl 2; have x3 := hp.out.cell (i := 1) rfl 3
                simp at z0 z1 z2 y0 y1 y2 v0 v1 v2 x0 x1 x2 x3
                have n20 : ¬ q2 = q3 := hp.out.ne (i := 3) (j := 2) rfl rfl (by decide)
                have n30 : ¬ q3 = q2 := fun e => n20 e.symm
                go_wp2
                replace hp := Lib.hid ((((((hp.out.put (i := 3) rfl 0 (.slice (some ⟨b, 0, none⟩) n cap)).put (i := 3) rfl 1 (.int .i64 (ai : Int))).put (i := 3) rfl 2 (.int .i64 ab)).put (i := 2) rfl 0 (.int .i64 0)).put (i := 2) rfl 1 (.int .i64 0)).put (i := 2) rfl 2 (.string ⟨#[]⟩))
                have hpg := hp.out
                exact bodyPost_ret (v := .tuple #[.agg #[.slice (some ⟨b, 0, none⟩) n cap, .int .i64 (ai : Int), .int .i64 ab], .agg #[.int .i64 0, .int .i64 0, .string ⟨#[]⟩]]) (rval_results rfl _ _ q2 q3 #[.slice (some ⟨b, 0, none⟩) n cap, .int .i64 (ai : Int), .int .i64 ab] #[.int .i64 0, .int .i64 0, .string ⟨#[]⟩] rfl rfl (hpg.box (i := 3) rfl) (hpg.box (i := 2) rfl) rfl rfl) rfl ⟨rfl, hpg.bel⟩
              · skip
                have n2 : ((xk : Int) == 2) = false := by rw [beq_eq_false_iff_ne]; omega
                have n3 : ((xk : Int) == 3) = false := by rw [beq_eq_false_iff_ne]; omega
                have n1 : ((xk : Int) == 1) = true := by rw [beq_iff_eq]; omega
                have m1 : (xs == [116, 114, 117, 101]) = false := by simp [s1]
                have m2 : (xs == [102, 97, 108, 115, 101]) = false := by simp [s2]
                have m3 : (xs == [110, 111, 116, 104, 105, 110, 103]) = false := by simp [s3]
                have hf : R = (⟨bi, bb⟩, ⟨0, 0, []⟩) := by rw [hR.out, if_neg (fun h => by cases h.2), if_neg h2, if_neg (fun h => by cases h), if_neg h3, if_neg (fun h => s1 h.2), if_neg (fun h => s2 h.2), if_neg (fun h => s3 h.2)]
                clear hR
                subst hf
                have z0 := hp.out.cell (i := 0) rfl 0; have z1 := hp.out.cell (i := 0) rfl 1; have z2 := hp.out.cell (i := 0) rfl 2
                have y0 := hp.out.cell (i := 3) rfl 0; have y1 := hp.out.cell (i := 3) rfl 1; have y2 := hp.out.cell (i := 3) rfl 2
                have g0 := hp.out.free (i := 3) rfl 0; have g1 := hp.out.free (i := 3) rfl 1; have g2 := hp.out.free (i := 3) rfl 2
                have v0 := hp.out.cell (i := 2) rfl 0; have v1 := hp.out.cell (i := 2) rfl 1; have v2 := hp.out.cell (i := 2) rfl 2
                have u0 := hp.out.free (i := 2) rfl 0; have u1 := hp.out.free (i := 2) rfl 1; have u2 := hp.out.free (i := 2) rfl 2
                have x0 := hp.out.cell (i := 1) rfl 0; have x1 := hp.out.cell (i := 1) rfl 1; have x2 := hp.out.cell (i := 1) rfl 2; have x3 := hp.out.cell (i := 1) rfl 3
                simp at z0 z1 z2 y0 y1 y2 v0 v1 v2 x0 x1 x2 x3
                have n20 : ¬ q2 = q3 := hp.out.ne (i := 3) (j := 2) rfl rfl (by decide)
                have n30 : ¬ q3 = q2 := fun e => n20 e.symm
                go_wp2_with (go_at_call 31; (with_reducible refine (cw.out _).mono ?_); rintro e w8 ⟨rfl, b8⟩; replace hp := Lib.hid (hp.out.below b8); clear b8 z0 z1 z2 y0 y1 y2 g0 g1 g2 v0 v1 v2 u0 u1 u2 x0 x1 x2 x3; have y0 := hp.out.cell (i := 3) rfl 0; have y1 := hp.out.cell (i := 3) rfl 1; have y2 := hp.out.cell (i := 3) rfl 2; have g0 := hp.out.free (i := 3) rfl 0; have g1 := hp.out.free (i := 3) rfl 1; have g2 := hp.out.free (i := 3) rfl 2; have v0 := hp.out.cell (i := 2) rfl 0; have v1 := hp.out.cell (i := 2) rfl 1; have v2 := hp.out.cell (i := 2) rfl 2; have u0 := hp.out.free (i := 2) rfl 0; have u1 := hp.out.free (i := 2) rfl 1; have u2 := hp.out.free (i := 2) rfl 2; simp at y0 y1 y2 v0 v1 v2)
                replace hp := Lib.hid ((((((hp.out.put (i := 3) rfl 0 (.slice (some ⟨b, 0, none⟩) n cap)).put (i := 3) rfl 1 (.int .i64 (bi : Int))).put (i := 3) rfl 2 (.int .i64 bb)).put (i := 2) rfl 0 (.int .i64 0)).put (i := 2) rfl 1 (.int .i64 0)).put (i := 2) rfl 2 (.string ⟨#[]⟩))
                have hpg := hp.out
                exact bodyPost_ret (v := .tuple #[.agg #[.slice (some ⟨b, 0, none⟩) n cap, .int .i64 (bi : Int), .int .i64 bb], .agg #[.int .i64 0, .int .i64 0, .string ⟨#[]⟩]]) (rval_results rfl _ _ q2 q3 #[.slice (some ⟨b, 0, none⟩) n cap, .int .i64 (bi : Int), .int .i64 bb] #[.int .i64 0, .int .i64 0, .string ⟨#[]⟩] rfl rfl (hpg.box (i := 3) rfl) (hpg.box (i := 2) rfl) rfl rfl) rfl ⟨rfl, hpg.bel⟩
        · skip
          have n2 : ((xk : Int) == 2) = false := by rw [beq_eq_false_iff_ne]; omega
          have n3 : ((xk : Int) == 3) = false := by rw [beq_eq_false_iff_ne]; omega
          have n1 : ((xk : Int) == 1) = false := by rw [beq_eq_false_iff_ne]; omega
          have hf : R = (⟨bi, bb⟩, ⟨0, 0, []⟩) := by rw [hR.out, if_neg (fun h => by cases h.2), if_neg h2, if_neg (fun h => by cases h), if_neg h3, if_neg (fun h => h1 h.1), if_neg (fun h => h1 h.1), if_neg (fun h => h1 h.1)]
          clear hR
          subst hf
          have z0 := hp.out.cell (i := 0) rfl 0; have z1 := hp.out.cell (i := 0) rfl 1; have z2 := hp.out.cell (i := 0) rfl 2
          have y0 := hp.out.cell (i := 3) rfl 0; have y1 := hp.out.cell (i := 3) rfl 1; have y2 := hp.out.cell (i := 3) rfl 2
          have g0 := hp.out.free (i := 3) rfl 0; have g1 := hp.out.free (i := 3) rfl 1; have g2 := hp.out.free (i := 3) rfl 2
          have v0 := hp.out.cell (i := 2) rfl 0; have v1 := hp.out.cell (i := 2) rfl 1; have v2 := hp.out.cell (i := 2) rfl 2
          have u0 := hp.out.free (i := 2) rfl 0; have u1 := hp.out.free (i := 2) rfl 1; have u2 := hp.out.free (i := 2) rfl 2
          have x0 := hp.out.cell (i := 1) rfl 0; have x1 := hp.out.cell (i := 1) rfl 1; have x2 := hp.out.cell (i := 1) rfl 2; have x3 := hp.out.cell (i := 1) rfl 3
          simp at z0 z1 z2 y0 y1 y2 v0 v1 v2 x0 x1 x2 x3
          have n20 : ¬ q2 = q3 := hp.out.ne (i := 3) (j := 2) rfl rfl (by decide)
          have n30 : ¬ q3 = q2 := fun e => n20 e.symm
          go_wp2_with (go_at_call 31; (with_reducible refine (cw.out _).mono ?_); rintro e w8 ⟨rfl, b8⟩; replace hp := Lib.hid (hp.out.below b8); clear b8 z0 z1 z2 y0 y1 y2 g0 g1 g2 v0 v1 v2 u0 u1 u2 x0 x1 x2 x3; have y0 := hp.out.cell (i := 3) rfl 0; have y1 := hp.out.cell (i := 3) rfl 1; have y2 := hp.out.cell (i := 3) rfl 2; have g0 := hp.out.free (i := 3) rfl 0; have g1 := hp.out.free (i := 3) rfl 1; have g2 := hp.out.free (i := 3) rfl 2; have v0 := hp.out.cell (i := 2) rfl 0; have v1 := hp.out.cell (i := 2) rfl 1; have v2 := hp.out.cell (i := 2) rfl 2; have u0 := hp.out.free (i := 2) rfl 0; have u1 := hp.out.free (i := 2) rfl 1; have u2 := hp.out.free (i := 2) rfl 2; simp at y0 y1 y2 v0 v1 v2)
          replace hp := Lib.hid ((((((hp.out.put (i := 3) rfl 0 (.slice (some ⟨b, 0, none⟩) n cap)).put (i := 3) rfl 1 (.int .i64 (bi : Int))).put (i := 3) rfl 2 (.int .i64 bb)).put (i := 2) rfl 0 (.int .i64 0)).put (i := 2) rfl 1 (.int .i64 0)).put (i := 2) rfl 2 (.string ⟨#[]⟩))
          have hpg := hp.out
          exact bodyPost_ret (v := .tuple #[.agg #[.slice (some ⟨b, 0, none⟩) n cap, .int .i64 (bi : Int), .int .i64 bb], .agg #[.int .i64 0, .int .i64 0, .string ⟨#[]⟩]]) (rval_results rfl _ _ q2 q3 #[.slice (some ⟨b, 0, none⟩) n cap, .int .i64 (bi : Int), .int .i64 bb] #[.int .i64 0, .int .i64 0, .string ⟨#[]⟩] rfl rfl (hpg.box (i := 3) rfl) (hpg.box (i := 2) rfl) rfl rfl) rfl ⟨rfl, hpg.bel⟩
end Go.Proofs.YtgbkpkioijbgoaaDoor.qry
