/- The document's parser of questions (lodestoneref33.P): a name. No condition but where the words lie. -/
import Derived.Test.YtgbkpkioijbgoaaDoorRq3
namespace Go.Proofs.YtgbkpkioijbgoaaDoor.qry
open Go.RowKit
open lex (W)
open names (Nm mayN)
attribute [local go_sem ↓] Go.wp_at_zero Go.wp_at_succ
attribute [local go_sem] str_size str_bl
set_option linter.unusedVariables false
set_option linter.unusedSimpArgs false
set_option maxRecDepth 100000

theorem rname_results {fn : Func} (hfn : fn.results = #[.cell 4 76, .tmp 5]) (tmps : Array Value) (W' : World) (g : Nat) (cs : Array Value) (v : Value) (h2 : tmps.getD 4 undef = .pointer (some ⟨g, 0, none⟩)) (h3 : tmps.getD 5 undef = v) (hg : W'.heap[g]? = some (.cells cs 76 (0, 0))) (hi : cs.size = 3) :
    (results fn tmps).run Tryd.prog W' = .ok (.tuple #[.agg cs, v]) W' := by
  have h2' : tmps[4]?.getD undef = .pointer (some ⟨g, 0, none⟩) := by simpa using h2
  have h3' : tmps[5]?.getD undef = v := by simpa using h3
  have hs : (Tryd.prog.info? 76).map (·.size) = some cs.size := by rw [hi]; kernel_rfl
  simp [results, hfn, h2', h3', asAddr, run_loadVar_row W' g 76 76 cs (0, 0) _ hg Tryd.underlying76 rfl hs]
theorem rname_lt {ws : List W} {m : Bool} {p : Rp} (h : p.at_ < ws.length) : (rname ws m p).1.at_ < ws.length := by
  unfold rname
  split
  · exact rnext_lt h
  · split
    · rw [rwrong_at]; exact h
    · exact h
set_option maxHeartbeats 8000000 in
theorem rname_any {ws : List W} {b : Nat} {p : Rp} {w : World} (h : Rz ws b p w) (cap : Nat) (mu : Bool) :
    Calls Tryd.prog 33 #[rpA b cap ws.length p, .bool mu] w fun e w' => e = .returned (.tuple #[rpA b cap ws.length (rname ws mu p).1, .string (str (rname ws mu p).2)]) ∧ Below w.heap.size w w' := by
  have cn := fun W (hb : Below w.heap.size w W) => rnow_any (h.below hb) cap
  have cx := fun W => rnext_any ws b cap p W h.lt h.wf.len
  have cw := fun W => rwrong_any b cap ws.length p ((rnow ws p).pos : Int) W
  have hxl : (rnow ws p).s.length ≤ 1000 := by
    rw [rnow_eq h.lt]
    have hat : ws[p.at_]? = some (wd ws p.at_) := by unfold wd; rw [List.getD_eq_getElem?_getD, List.getElem?_eq_getElem h.lt]; rfl
    exact h.wf.txt _ (List.mem_of_getElem? hat)
  have cm := fun W => rName_any (rnow ws p).s (by omega) W
  obtain ⟨R, hR⟩ : ∃ R, R = rname ws mu p := ⟨_, rfl⟩
  rw [← hR]
  unfold rname rcan at hR
  obtain ⟨x, hx⟩ : ∃ x, x = rnow ws p := ⟨_, rfl⟩
  rw [← hx] at cn cw cm hR
  obtain ⟨xk, xs, xn, xp⟩ := x
  simp only at cn cw cm hR
  obtain ⟨⟨ai, ab⟩, ha⟩ : ∃ r, r = rnext ws p := ⟨_, rfl⟩
  obtain ⟨⟨bi, bb⟩, hb⟩ : ∃ r, r = rwrong p (xp : Int) := ⟨_, rfl⟩
  rw [← ha] at cx hR
  rw [← hb] at cw hR
  obtain ⟨nb, hnb⟩ : ∃ r, r = (mayN xs && !resB xs) := ⟨_, rfl⟩
  rw [← hnb] at cm
  rw [show (!resB xs && mayN xs) = nb by rw [hnb, Bool.and_comm]] at hR
  obtain ⟨i, bd⟩ := p
  simp only [rpA] at cn cx cw hR ⊢
  obtain ⟨n, hn⟩ : ∃ n, n = ws.length := ⟨_, rfl⟩
  rw [← hn] at cn cx cw ⊢
  have f3 := fun W => field_pos W (xk : Int) (str xs) (xn : Int) (xp : Int)
  have hp := ((Hp.none_ w []).alloc #[.slice (some ⟨b, 0, none⟩) n cap, .int .i64 (i : Int), .int .i64 bd] 76).alloc #[.slice none 0 0, .int .i64 0, .int .i64 0] 76
  have hsz : ∀ (u : World) o, (u.alloc o).heap.size = u.heap.size + 1 := fun u o => by simp
  rw [hsz] at hp
  clear hsz hn hx ha hb h hxl hnb
  replace hp := Lib.hid hp; replace cn := Lib.hid cn; replace cx := Lib.hid cx; replace cw := Lib.hid cw; replace cm := Lib.hid cm
  go_enter Tryd.func33, Tryd.ntmps33
  go_upto_region 1 with fail
  generalize (w.alloc _).alloc _ = W1 at hp ⊢
  generalize w.heap.size + 1 = q2 at hp ⊢
  generalize w.heap.size = q1 at hp ⊢
  have c0 := hp.out.cell (i := 1) rfl 0; have c1 := hp.out.cell (i := 1) rfl 1; have c2 := hp.out.cell (i := 1) rfl 2
  simp at c0 c1 c2
  go_upto_region 2 with (go_at_call 32; (with_reducible refine (cn.out _ hp.out.bel).mono ?_); rintro e w2 ⟨rfl, b2⟩; replace hp := Lib.hid (hp.out.below b2); clear b2)
  clear c0 c1 c2
  replace hp := Lib.hid (hp.out.alloc #[.int .i64 (xk : Int), .string (str xs), .int .i64 (xn : Int), .int .i64 (xp : Int)] 71)
  generalize w2.alloc _ = W3 at hp ⊢
  generalize w2.heap.size = q6 at hp ⊢
  have x0 := hp.out.cell (i := 0) rfl 0; have x1 := hp.out.cell (i := 0) rfl 1
  simp at x0 x1
  have key : (xk = 1 ∧ nb = true ∧ R = (⟨ai, ab⟩, xs)) ∨ ((xk ≠ 1 ∨ (xk = 1 ∧ nb = false)) ∧ R = if mu = true then (⟨bi, bb⟩, []) else (⟨i, bd⟩, [])) := by
    by_cases h1 : xk = 1
    · cases nb
      · exact Or.inr ⟨Or.inr ⟨h1, rfl⟩, by rw [hR, decide_eq_true h1]; rfl⟩
      · exact Or.inl ⟨h1, rfl, by rw [hR, decide_eq_true h1]; rfl⟩
    · exact Or.inr ⟨Or.inl h1, by rw [hR, decide_eq_false h1]; rfl⟩
  clear hR
  rcases key with ⟨h1, rfl, hf⟩ | ⟨hno, hf⟩
  · have n1 : ((xk : Int) == 1) = true := by rw [h1]; rfl
    replace h1 := Lib.hid h1
    subst hf
    go_upto_region 3 with (go_at_call 70; (with_reducible refine (cm.out _).mono ?_); rintro e w4 ⟨rfl, b4⟩; replace hp := Lib.hid (hp.out.below b4); clear b4)
    clear x0 x1
    have hsk := Lib.hid (show ∀ (rs : List Rs) (W' : World), Hp w [] rs W' → rs[2]? = some (.box q1 #[.slice (some ⟨b, 0, none⟩) n cap, .int .i64 (i : Int), .int .i64 bd] 76) → rs[0]? = some (.box q6 #[.int .i64 (xk : Int), .string (str xs), .int .i64 (xn : Int), .int .i64 (xp : Int)] 71) → (W'.cell? ⟨q1, 0, none⟩ = some (.slice (some ⟨b, 0, none⟩) n cap) ∧ W'.cell? ⟨q1, 1, none⟩ = some (.int .i64 (i : Int)) ∧ W'.cell? ⟨q1, 2, none⟩ = some (.int .i64 bd) ∧ W'.cell? ⟨q6, 1, none⟩ = some (.string (str xs))) from fun rs W' h hi hj => ⟨(h.cell hi 0).trans rfl, (h.cell hi 1).trans rfl, (h.cell hi 2).trans rfl, (h.cell hj 1).trans rfl⟩)
    replace hp := Lib.hid hp.out.drew
    refine wp_region_noPanic ?_; refine wp_region_held_drew (S := (fun W' => W'.cell? ⟨q1, 0, none⟩ = some (.slice (some ⟨b, 0, none⟩) n cap) ∧ W'.cell? ⟨q1, 1, none⟩ = some (.int .i64 (i : Int)) ∧ W'.cell? ⟨q1, 2, none⟩ = some (.int .i64 bd) ∧ W'.cell? ⟨q6, 1, none⟩ = some (.string (str xs)))) (by kernel_rfl) ?_ (fun hHeld => ?_); (focus ((try dsimp only); (exact hsk.out _ _ hp.out rfl rfl); done)); (refine take_t (i := 0) (d := 17) (oi := _) (v := ?_) rfl rfl (by kernel_rfl) (by kernel_rfl) (by kernel_rfl) (by rfl) ?_ (by assumption) ?_; rotate_left; (focus (intro w0 hSw; (try dsimp only at hSw); go_simp; (try with_reducible rfl); done)); try simp only [Act.put, List.setIfInBounds_toArray, List.set_cons_zero, List.set_cons_succ]); (refine take_t (i := 2) (d := 19) (oi := _) (v := ?_) rfl rfl (by kernel_rfl) (by kernel_rfl) (by kernel_rfl) (by rfl) ?_ (by assumption) ?_; rotate_left; (focus (intro w0 hSw; (try dsimp only at hSw); go_simp; (try with_reducible rfl); done)); try simp only [Act.put, List.setIfInBounds_toArray, List.set_cons_zero, List.set_cons_succ]); (refine take_t (i := 3) (d := 20) (oi := _) (v := ?_) rfl rfl (by kernel_rfl) (by kernel_rfl) (by kernel_rfl) (by rfl) ?_ (by assumption) ?_; rotate_left; (focus (intro w0 hSw; (try dsimp only at hSw); go_simp; (try with_reducible rfl); done)); try simp only [Act.put, List.setIfInBounds_toArray, List.set_cons_zero, List.set_cons_succ]); (refine wpAnyH_ready (rs := [1]) (by kernel_rfl) (by simp) ?_; refine AllReadyH.cons (o := _) rfl (fun K' hK => ?_) AllReadyH.nil; go_simp; (go_at_call 29; (with_reducible refine (cx.out _).mono ?_); rintro e w5 ⟨rfl, b5⟩; replace hp := Lib.hid (hp.out.below b5); clear b5; have y0 := hp.out.cell (i := 1) rfl 0; have y1 := hp.out.cell (i := 1) rfl 1; have y2 := hp.out.cell (i := 1) rfl 2; have g0 := hp.out.free (i := 1) rfl 0; have g1 := hp.out.free (i := 1) rfl 1; have g2 := hp.out.free (i := 1) rfl 2; simp at y0 y1 y2); (try dsimp only); refine hK.out _ _ ?_ (fun hHeld2 => ?_); (focus ((try dsimp only); (exact hsk.out _ _ hp.out rfl rfl); done)); clear hK K'; clear hHeld; have hHeld := hHeld2; clear hHeld2; try simp only [Act.put, List.setIfInBounds_toArray, List.set_cons_zero, List.set_cons_succ]); (refine wpAnyH_ready (rs := [4]) (by kernel_rfl) (by simp) ?_; refine AllReadyH.cons (o := _) rfl (fun K' hK => ?_) AllReadyH.nil; go_simp; (replace hp := Lib.hid (((hp.out.put (i := 1) rfl 0 (.slice (some ⟨b, 0, none⟩) n cap)).put (i := 1) rfl 1 (.int .i64 (ai : Int))).put (i := 1) rfl 2 (.int .i64 ab))); (try dsimp only); refine hK.out _ _ ?_ (fun hHeld2 => ?_); (focus ((try dsimp only); (exact hsk.out _ _ hp.out rfl rfl); done)); clear hK K'; clear hHeld; have hHeld := hHeld2; clear hHeld2; try simp only [Act.put, List.setIfInBounds_toArray, List.set_cons_zero, List.set_cons_succ]); (refine take_t (i := 5) (d := 5) (oi := _) (v := ?_) rfl rfl (by kernel_rfl) (by kernel_rfl) (by kernel_rfl) (by rfl) ?_ (by assumption) ?_; rotate_left; (focus (intro w0 hSw; (try dsimp only at hSw); go_simp; (try with_reducible rfl); done)); try simp only [Act.put, List.setIfInBounds_toArray, List.set_cons_zero, List.set_cons_succ]); refine wpAnyH_done (by kernel_rfl) ?_ _; refine NoPanic.normal ?_
    go_wp2
    have hpg := hp.out
    exact bodyPost_ret (v := .tuple #[.agg #[.slice (some ⟨b, 0, none⟩) n cap, .int .i64 (ai : Int), .int .i64 ab], .string (str xs)]) (rname_results rfl _ _ q2 #[.slice (some ⟨b, 0, none⟩) n cap, .int .i64 (ai : Int), .int .i64 ab] (.string (str xs)) rfl rfl (hpg.box (i := 1) rfl) rfl) rfl ⟨rfl, hpg.bel⟩
  · rcases hno with h1 | ⟨h1, rfl⟩
    · have n1 : ((xk : Int) == 1) = false := by rw [beq_eq_false_iff_ne]; omega
      have n3 : ¬ (xk : Int) = 1 := by omega
      replace h1 := Lib.hid h1
      cases mu with
      | true =>
        have hf2 : R = (⟨bi, bb⟩, []) := hf
        clear hf
        subst hf2
        go_upto_region 5 with fail
        clear x0 x1
        have c0 := hp.out.cell (i := 2) rfl 0; have c1 := hp.out.cell (i := 2) rfl 1; have c2 := hp.out.cell (i := 2) rfl 2; have e0 := hp.out.free (i := 2) rfl 0; have e1 := hp.out.free (i := 2) rfl 1; have e2 := hp.out.free (i := 2) rfl 2; simp at c0 c1 c2
        replace hp := Lib.hid hp.out.drew
        refine wp_region_noPanic ?_; refine wp_region_held_drew (S := (fun _ => True)) (by kernel_rfl) ?_ (fun hHeld => ?_); (focus ((try dsimp only); (first | done | trivial); done))
        refine wpAnyH_ready (rs := [0, 1]) (by kernel_rfl) (by simp) ?_; refine AllReadyH.cons (o := _) rfl (fun K' hK => ?_) (AllReadyH.cons (o := _) rfl (fun K' hK => ?_) AllReadyH.nil)
        · go_simp; (skip); (try dsimp only); refine hK.out _ _ ?_ (fun hHeld2 => ?_); (focus ((try dsimp only); (first | done | trivial); done)); clear hK K'; clear hHeld; have hHeld := hHeld2; clear hHeld2; try simp only [Act.put, List.setIfInBounds_toArray, List.set_cons_zero, List.set_cons_succ]
          (refine wpAnyH_ready (rs := [1]) (by kernel_rfl) (by simp) ?_; refine AllReadyH.cons (o := _) rfl (fun K' hK => ?_) AllReadyH.nil; go_simp; (skip); (try dsimp only); refine hK.out _ _ ?_ (fun hHeld2 => ?_); (focus ((try dsimp only); (first | done | trivial); done)); clear hK K'; clear hHeld; have hHeld := hHeld2; clear hHeld2; try simp only [Act.put, List.setIfInBounds_toArray, List.set_cons_zero, List.set_cons_succ]); (refine wpAnyH_ready (rs := [2]) (by kernel_rfl) (by simp) ?_; refine AllReadyH.cons (o := _) rfl (fun K' hK => ?_) AllReadyH.nil; go_simp; (go_at_call 32; (with_reducible refine (cn.out _ hp.out.bel).mono ?_); rintro e w5 ⟨rfl, b5⟩; replace hp := Lib.hid (hp.out.below b5); clear b5 c0 c1 c2 e0 e1 e2; have c0 := hp.out.cell (i := 2) rfl 0; have c1 := hp.out.cell (i := 2) rfl 1; have c2 := hp.out.cell (i := 2) rfl 2; have e0 := hp.out.free (i := 2) rfl 0; have e1 := hp.out.free (i := 2) rfl 1; have e2 := hp.out.free (i := 2) rfl 2; simp at c0 c1 c2); (try dsimp only); refine hK.out _ _ ?_ (fun hHeld2 => ?_); (focus ((try dsimp only); (first | done | trivial); done)); clear hK K'; clear hHeld; have hHeld := hHeld2; clear hHeld2; try simp only [Act.put, List.setIfInBounds_toArray, List.set_cons_zero, List.set_cons_succ]); (refine take_t (i := 3) (d := 25) (oi := _) (v := ?_) rfl rfl (by kernel_rfl) (by kernel_rfl) (by kernel_rfl) (by rfl) ?_ (by assumption) ?_; rotate_left; (focus (intro w0 hSw; (try dsimp only at hSw); go_simp; (try with_reducible rfl); done)); try simp only [Act.put, List.setIfInBounds_toArray, List.set_cons_zero, List.set_cons_succ]); (refine wpAnyH_ready (rs := [4]) (by kernel_rfl) (by simp) ?_; refine AllReadyH.cons (o := _) rfl (fun K' hK => ?_) AllReadyH.nil; go_simp; (go_at_call 31; (with_reducible refine (cw.out _).mono ?_); rintro e w6 ⟨rfl, b6⟩; replace hp := Lib.hid (hp.out.below b6); clear b6 c0 c1 c2 e0 e1 e2; have c0 := hp.out.cell (i := 2) rfl 0; have c1 := hp.out.cell (i := 2) rfl 1; have c2 := hp.out.cell (i := 2) rfl 2; have e0 := hp.out.free (i := 2) rfl 0; have e1 := hp.out.free (i := 2) rfl 1; have e2 := hp.out.free (i := 2) rfl 2; simp at c0 c1 c2); (try dsimp only); refine hK.out _ _ ?_ (fun hHeld2 => ?_); (focus ((try dsimp only); (first | done | trivial); done)); clear hK K'; clear hHeld; have hHeld := hHeld2; clear hHeld2; try simp only [Act.put, List.setIfInBounds_toArray, List.set_cons_zero, List.set_cons_succ]); (refine wpAnyH_ready (rs := [5]) (by kernel_rfl) (by simp) ?_; refine AllReadyH.cons (o := _) rfl (fun K' hK => ?_) AllReadyH.nil; go_simp; (replace hp := Lib.hid (((hp.out.put (i := 2) rfl 0 (.slice (some ⟨b, 0, none⟩) n cap)).put (i := 2) rfl 1 (.int .i64 (bi : Int))).put (i := 2) rfl 2 (.int .i64 bb))); (try dsimp only); refine hK.out _ _ ?_ (fun hHeld2 => ?_); (focus ((try dsimp only); (first | done | trivial); done)); clear hK K'; clear hHeld; have hHeld := hHeld2; clear hHeld2; try simp only [Act.put, List.setIfInBounds_toArray, List.set_cons_zero, List.set_cons_succ])
          refine wpAnyH_done (by kernel_rfl) ?_ _; refine NoPanic.normal ?_
          clear c0 c1 c2 e0 e1 e2
          generalize World.setCell (World.setCell (World.setCell _ _ _) _ _) _ _ = W8 at hp ⊢
          skip
          have z0 := hp.out.cell (i := 2) rfl 0; have z1 := hp.out.cell (i := 2) rfl 1; have z2 := hp.out.cell (i := 2) rfl 2
          have y0 := hp.out.cell (i := 1) rfl 0; have y1 := hp.out.cell (i := 1) rfl 1; have y2 := hp.out.cell (i := 1) rfl 2; have g0 := hp.out.free (i := 1) rfl 0; have g1 := hp.out.free (i := 1) rfl 1; have g2 := hp.out.free (i := 1) rfl 2
          simp at z0 z1 z2 y0 y1 y2
          go_wp2
          replace hp := Lib.hid (((hp.out.put (i := 1) rfl 0 (.slice (some ⟨b, 0, none⟩) n cap)).put (i := 1) rfl 1 (.int .i64 (bi : Int))).put (i := 1) rfl 2 (.int .i64 bb))
          have hpg := hp.out
          exact bodyPost_ret (v := .tuple #[.agg #[.slice (some ⟨b, 0, none⟩) n cap, .int .i64 (bi : Int), .int .i64 bb], .string ⟨#[]⟩]) (rname_results rfl _ _ q2 #[.slice (some ⟨b, 0, none⟩) n cap, .int .i64 (bi : Int), .int .i64 bb] (.string ⟨#[]⟩) rfl rfl (hpg.box (i := 1) rfl) rfl) rfl ⟨rfl, hpg.bel⟩
        · go_simp; (skip); (try dsimp only); refine hK.out _ _ ?_ (fun hHeld2 => ?_); (focus ((try dsimp only); (first | done | trivial); done)); clear hK K'; clear hHeld; have hHeld := hHeld2; clear hHeld2; try simp only [Act.put, List.setIfInBounds_toArray, List.set_cons_zero, List.set_cons_succ]
          refine wpAnyH_ready (rs := [0, 2]) (by kernel_rfl) (by simp) ?_; refine AllReadyH.cons (o := _) rfl (fun K' hK => ?_) (AllReadyH.cons (o := _) rfl (fun K' hK => ?_) AllReadyH.nil)
          · go_simp; (skip); (try dsimp only); refine hK.out _ _ ?_ (fun hHeld2 => ?_); (focus ((try dsimp only); (first | done | trivial); done)); clear hK K'; clear hHeld; have hHeld := hHeld2; clear hHeld2; try simp only [Act.put, List.setIfInBounds_toArray, List.set_cons_zero, List.set_cons_succ]
            (refine wpAnyH_ready (rs := [2]) (by kernel_rfl) (by simp) ?_; refine AllReadyH.cons (o := _) rfl (fun K' hK => ?_) AllReadyH.nil; go_simp; (go_at_call 32; (with_reducible refine (cn.out _ hp.out.bel).mono ?_); rintro e w5 ⟨rfl, b5⟩; replace hp := Lib.hid (hp.out.below b5); clear b5 c0 c1 c2 e0 e1 e2; have c0 := hp.out.cell (i := 2) rfl 0; have c1 := hp.out.cell (i := 2) rfl 1; have c2 := hp.out.cell (i := 2) rfl 2; have e0 := hp.out.free (i := 2) rfl 0; have e1 := hp.out.free (i := 2) rfl 1; have e2 := hp.out.free (i := 2) rfl 2; simp at c0 c1 c2); (try dsimp only); refine hK.out _ _ ?_ (fun hHeld2 => ?_); (focus ((try dsimp only); (first | done | trivial); done)); clear hK K'; clear hHeld; have hHeld := hHeld2; clear hHeld2; try simp only [Act.put, List.setIfInBounds_toArray, List.set_cons_zero, List.set_cons_succ]); (refine take_t (i := 3) (d := 25) (oi := _) (v := ?_) rfl rfl (by kernel_rfl) (by kernel_rfl) (by kernel_rfl) (by rfl) ?_ (by assumption) ?_; rotate_left; (focus (intro w0 hSw; (try dsimp only at hSw); go_simp; (try with_reducible rfl); done)); try simp only [Act.put, List.setIfInBounds_toArray, List.set_cons_zero, List.set_cons_succ]); (refine wpAnyH_ready (rs := [4]) (by kernel_rfl) (by simp) ?_; refine AllReadyH.cons (o := _) rfl (fun K' hK => ?_) AllReadyH.nil; go_simp; (go_at_call 31; (with_reducible refine (cw.out _).mono ?_); rintro e w6 ⟨rfl, b6⟩; replace hp := Lib.hid (hp.out.below b6); clear b6 c0 c1 c2 e0 e1 e2; have c0 := hp.out.cell (i := 2) rfl 0; have c1 := hp.out.cell (i := 2) rfl 1; have c2 := hp.out.cell (i := 2) rfl 2; have e0 := hp.out.free (i := 2) rfl 0; have e1 := hp.out.free (i := 2) rfl 1; have e2 := hp.out.free (i := 2) rfl 2; simp at c0 c1 c2); (try dsimp only); refine hK.out _ _ ?_ (fun hHeld2 => ?_); (focus ((try dsimp only); (first | done | trivial); done)); clear hK K'; clear hHeld; have hHeld := hHeld2; clear hHeld2; try simp only [Act.put, List.setIfInBounds_toArray, List.set_cons_zero, List.set_cons_succ]); (refine wpAnyH_ready (rs := [5]) (by kernel_rfl) (by simp) ?_; refine AllReadyH.cons (o := _) rfl (fun K' hK => ?_) AllReadyH.nil; go_simp; (replace hp := Lib.hid (((hp.out.put (i := 2) rfl 0 (.slice (some ⟨b, 0, none⟩) n cap)).put (i := 2) rfl 1 (.int .i64 (bi : Int))).put (i := 2) rfl 2 (.int .i64 bb))); (try dsimp only); refine hK.out _ _ ?_ (fun hHeld2 => ?_); (focus ((try dsimp only); (first | done | trivial); done)); clear hK K'; clear hHeld; have hHeld := hHeld2; clear hHeld2; try simp only [Act.put, List.setIfInBounds_toArray, List.set_cons_zero, List.set_cons_succ])
            refine wpAnyH_done (by kernel_rfl) ?_ _; refine NoPanic.normal ?_
            clear c0 c1 c2 e0 e1 e2
            generalize World.setCell (World.setCell (World.setCell _ _ _) _ _) _ _ = W8 at hp ⊢
            skip
            have z0 := hp.out.cell (i := 2) rfl 0; have z1 := hp.out.cell (i := 2) rfl 1; have z2 := hp.out.cell (i := 2) rfl 2
            have y0 := hp.out.cell (i := 1) rfl 0; have y1 := hp.out.cell (i := 1) rfl 1; have y2 := hp.out.cell (i := 1) rfl 2; have g0 := hp.out.free (i := 1) rfl 0; have g1 := hp.out.free (i := 1) rfl 1; have g2 := hp.out.free (i := 1) rfl 2
            simp at z0 z1 z2 y0 y1 y2
            go_wp2
            replace hp := Lib.hid (((hp.out.put (i := 1) rfl 0 (.slice (some ⟨b, 0, none⟩) n cap)).put (i := 1) rfl 1 (.int .i64 (bi : Int))).put (i := 1) rfl 2 (.int .i64 bb))
            have hpg := hp.out
            exact bodyPost_ret (v := .tuple #[.agg #[.slice (some ⟨b, 0, none⟩) n cap, .int .i64 (bi : Int), .int .i64 bb], .string ⟨#[]⟩]) (rname_results rfl _ _ q2 #[.slice (some ⟨b, 0, none⟩) n cap, .int .i64 (bi : Int), .int .i64 bb] (.string ⟨#[]⟩) rfl rfl (hpg.box (i := 1) rfl) rfl) rfl ⟨rfl, hpg.bel⟩
          · go_simp; (go_at_call 32; (with_reducible refine (cn.out _ hp.out.bel).mono ?_); rintro e w5 ⟨rfl, b5⟩; replace hp := Lib.hid (hp.out.below b5); clear b5 c0 c1 c2 e0 e1 e2; have c0 := hp.out.cell (i := 2) rfl 0; have c1 := hp.out.cell (i := 2) rfl 1; have c2 := hp.out.cell (i := 2) rfl 2; have e0 := hp.out.free (i := 2) rfl 0; have e1 := hp.out.free (i := 2) rfl 1; have e2 := hp.out.free (i := 2) rfl 2; simp at c0 c1 c2); (try dsimp only); refine hK.out _ _ ?_ (fun hHeld2 => ?_); (focus ((try dsimp only); (first | done | trivial); done)); clear hK K'; clear hHeld; have hHeld := hHeld2; clear hHeld2; try simp only [Act.put, List.setIfInBounds_toArray, List.set_cons_zero, List.set_cons_succ]
            (refine take_t (i := 3) (d := 25) (oi := _) (v := ?_) rfl rfl (by kernel_rfl) (by kernel_rfl) (by kernel_rfl) (by rfl) ?_ (by assumption) ?_; rotate_left; (focus (intro w0 hSw; (try dsimp only at hSw); go_simp; (try with_reducible rfl); done)); try simp only [Act.put, List.setIfInBounds_toArray, List.set_cons_zero, List.set_cons_succ]); (refine wpAnyH_ready (rs := [0]) (by kernel_rfl) (by simp) ?_; refine AllReadyH.cons (o := _) rfl (fun K' hK => ?_) AllReadyH.nil; go_simp; (skip); (try dsimp only); refine hK.out _ _ ?_ (fun hHeld2 => ?_); (focus ((try dsimp only); (first | done | trivial); done)); clear hK K'; clear hHeld; have hHeld := hHeld2; clear hHeld2; try simp only [Act.put, List.setIfInBounds_toArray, List.set_cons_zero, List.set_cons_succ]); (refine wpAnyH_ready (rs := [4]) (by kernel_rfl) (by simp) ?_; refine AllReadyH.cons (o := _) rfl (fun K' hK => ?_) AllReadyH.nil; go_simp; (go_at_call 31; (with_reducible refine (cw.out _).mono ?_); rintro e w6 ⟨rfl, b6⟩; replace hp := Lib.hid (hp.out.below b6); clear b6 c0 c1 c2 e0 e1 e2; have c0 := hp.out.cell (i := 2) rfl 0; have c1 := hp.out.cell (i := 2) rfl 1; have c2 := hp.out.cell (i := 2) rfl 2; have e0 := hp.out.free (i := 2) rfl 0; have e1 := hp.out.free (i := 2) rfl 1; have e2 := hp.out.free (i := 2) rfl 2; simp at c0 c1 c2); (try dsimp only); refine hK.out _ _ ?_ (fun hHeld2 => ?_); (focus ((try dsimp only); (first | done | trivial); done)); clear hK K'; clear hHeld; have hHeld := hHeld2; clear hHeld2; try simp only [Act.put, List.setIfInBounds_toArray, List.set_cons_zero, List.set_cons_succ]); (refine wpAnyH_ready (rs := [5]) (by kernel_rfl) (by simp) ?_; refine AllReadyH.cons (o := _) rfl (fun K' hK => ?_) AllReadyH.nil; go_simp; (replace hp := Lib.hid (((hp.out.put (i := 2) rfl 0 (.slice (some ⟨b, 0, none⟩) n cap)).put (i := 2) rfl 1 (.int .i64 (bi : Int))).put (i := 2) rfl 2 (.int .i64 bb))); (try dsimp only); refine hK.out _ _ ?_ (fun hHeld2 => ?_); (focus ((try dsimp only); (first | done | trivial); done)); clear hK K'; clear hHeld; have hHeld := hHeld2; clear hHeld2; try simp only [Act.put, List.setIfInBounds_toArray, List.set_cons_zero, List.set_cons_succ])
            refine wpAnyH_done (by kernel_rfl) ?_ _; refine NoPanic.normal ?_
            clear c0 c1 c2 e0 e1 e2
            generalize World.setCell (World.setCell (World.setCell _ _ _) _ _) _ _ = W8 at hp ⊢
            skip
            have z0 := hp.out.cell (i := 2) rfl 0; have z1 := hp.out.cell (i := 2) rfl 1; have z2 := hp.out.cell (i := 2) rfl 2
            have y0 := hp.out.cell (i := 1) rfl 0; have y1 := hp.out.cell (i := 1) rfl 1; have y2 := hp.out.cell (i := 1) rfl 2; have g0 := hp.out.free (i := 1) rfl 0; have g1 := hp.out.free (i := 1) rfl 1; have g2 := hp.out.free (i := 1) rfl 2
            simp at z0 z1 z2 y0 y1 y2
            go_wp2
            replace hp := Lib.hid (((hp.out.put (i := 1) rfl 0 (.slice (some ⟨b, 0, none⟩) n cap)).put (i := 1) rfl 1 (.int .i64 (bi : Int))).put (i := 1) rfl 2 (.int .i64 bb))
            have hpg := hp.out
            exact bodyPost_ret (v := .tuple #[.agg #[.slice (some ⟨b, 0, none⟩) n cap, .int .i64 (bi : Int), .int .i64 bb], .string ⟨#[]⟩]) (rname_results rfl _ _ q2 #[.slice (some ⟨b, 0, none⟩) n cap, .int .i64 (bi : Int), .int .i64 bb] (.string ⟨#[]⟩) rfl rfl (hpg.box (i := 1) rfl) rfl) rfl ⟨rfl, hpg.bel⟩
      | false =>
        have hf2 : R = (⟨i, bd⟩, []) := hf
        clear hf
        subst hf2
        go_upto_region 6 with fail
        clear x0 x1
        skip
        have z0 := hp.out.cell (i := 2) rfl 0; have z1 := hp.out.cell (i := 2) rfl 1; have z2 := hp.out.cell (i := 2) rfl 2
        have y0 := hp.out.cell (i := 1) rfl 0; have y1 := hp.out.cell (i := 1) rfl 1; have y2 := hp.out.cell (i := 1) rfl 2; have g0 := hp.out.free (i := 1) rfl 0; have g1 := hp.out.free (i := 1) rfl 1; have g2 := hp.out.free (i := 1) rfl 2
        simp at z0 z1 z2 y0 y1 y2
        go_wp2
        replace hp := Lib.hid (((hp.out.put (i := 1) rfl 0 (.slice (some ⟨b, 0, none⟩) n cap)).put (i := 1) rfl 1 (.int .i64 (i : Int))).put (i := 1) rfl 2 (.int .i64 bd))
        have hpg := hp.out
        exact bodyPost_ret (v := .tuple #[.agg #[.slice (some ⟨b, 0, none⟩) n cap, .int .i64 (i : Int), .int .i64 bd], .string ⟨#[]⟩]) (rname_results rfl _ _ q2 #[.slice (some ⟨b, 0, none⟩) n cap, .int .i64 (i : Int), .int .i64 bd] (.string ⟨#[]⟩) rfl rfl (hpg.box (i := 1) rfl) rfl) rfl ⟨rfl, hpg.bel⟩
    · have n1 : ((xk : Int) == 1) = true := by rw [h1]; rfl
      replace h1 := Lib.hid h1
      cases mu with
      | true =>
        have hf2 : R = (⟨bi, bb⟩, []) := hf
        clear hf
        subst hf2
        go_upto_region 5 with (go_at_call 70; (with_reducible refine (cm.out _).mono ?_); rintro e w4 ⟨rfl, b4⟩; replace hp := Lib.hid (hp.out.below b4); clear b4)
        clear x0 x1
        have c0 := hp.out.cell (i := 2) rfl 0; have c1 := hp.out.cell (i := 2) rfl 1; have c2 := hp.out.cell (i := 2) rfl 2; have e0 := hp.out.free (i := 2) rfl 0; have e1 := hp.out.free (i := 2) rfl 1; have e2 := hp.out.free (i := 2) rfl 2; simp at c0 c1 c2
        replace hp := Lib.hid hp.out.drew
        refine wp_region_noPanic ?_; refine wp_region_held_drew (S := (fun _ => True)) (by kernel_rfl) ?_ (fun hHeld => ?_); (focus ((try dsimp only); (first | done | trivial); done))
        refine wpAnyH_ready (rs := [0, 1]) (by kernel_rfl) (by simp) ?_; refine AllReadyH.cons (o := _) rfl (fun K' hK => ?_) (AllReadyH.cons (o := _) rfl (fun K' hK => ?_) AllReadyH.nil)
        · go_simp; (skip); (try dsimp only); refine hK.out _ _ ?_ (fun hHeld2 => ?_); (focus ((try dsimp only); (first | done | trivial); done)); clear hK K'; clear hHeld; have hHeld := hHeld2; clear hHeld2; try simp only [Act.put, List.setIfInBounds_toArray, List.set_cons_zero, List.set_cons_succ]
          (refine wpAnyH_ready (rs := [1]) (by kernel_rfl) (by simp) ?_; refine AllReadyH.cons (o := _) rfl (fun K' hK => ?_) AllReadyH.nil; go_simp; (skip); (try dsimp only); refine hK.out _ _ ?_ (fun hHeld2 => ?_); (focus ((try dsimp only); (first | done | trivial); done)); clear hK K'; clear hHeld; have hHeld := hHeld2; clear hHeld2; try simp only [Act.put, List.setIfInBounds_toArray, List.set_cons_zero, List.set_cons_succ]); (refine wpAnyH_ready (rs := [2]) (by kernel_rfl) (by simp) ?_; refine AllReadyH.cons (o := _) rfl (fun K' hK => ?_) AllReadyH.nil; go_simp; (go_at_call 32; (with_reducible refine (cn.out _ hp.out.bel).mono ?_); rintro e w5 ⟨rfl, b5⟩; replace hp := Lib.hid (hp.out.below b5); clear b5 c0 c1 c2 e0 e1 e2; have c0 := hp.out.cell (i := 2) rfl 0; have c1 := hp.out.cell (i := 2) rfl 1; have c2 := hp.out.cell (i := 2) rfl 2; have e0 := hp.out.free (i := 2) rfl 0; have e1 := hp.out.free (i := 2) rfl 1; have e2 := hp.out.free (i := 2) rfl 2; simp at c0 c1 c2); (try dsimp only); refine hK.out _ _ ?_ (fun hHeld2 => ?_); (focus ((try dsimp only); (first | done | trivial); done)); clear hK K'; clear hHeld; have hHeld := hHeld2; clear hHeld2; try simp only [Act.put, List.setIfInBounds_toArray, List.set_cons_zero, List.set_cons_succ]); (refine take_t (i := 3) (d := 25) (oi := _) (v := ?_) rfl rfl (by kernel_rfl) (by kernel_rfl) (by kernel_rfl) (by rfl) ?_ (by assumption) ?_; rotate_left; (focus (intro w0 hSw; (try dsimp only at hSw); go_simp; (try with_reducible rfl); done)); try simp only [Act.put, List.setIfInBounds_toArray, List.set_cons_zero, List.set_cons_succ]); (refine wpAnyH_ready (rs := [4]) (by kernel_rfl) (by simp) ?_; refine AllReadyH.cons (o := _) rfl (fun K' hK => ?_) AllReadyH.nil; go_simp; (go_at_call 31; (with_reducible refine (cw.out _).mono ?_); rintro e w6 ⟨rfl, b6⟩; replace hp := Lib.hid (hp.out.below b6); clear b6 c0 c1 c2 e0 e1 e2; have c0 := hp.out.cell (i := 2) rfl 0; have c1 := hp.out.cell (i := 2) rfl 1; have c2 := hp.out.cell (i := 2) rfl 2; have e0 := hp.out.free (i := 2) rfl 0; have e1 := hp.out.free (i := 2) rfl 1; have e2 := hp.out.free (i := 2) rfl 2; simp at c0 c1 c2); (try dsimp only); refine hK.out _ _ ?_ (fun hHeld2 => ?_); (focus ((try dsimp only); (first | done | trivial); done)); clear hK K'; clear hHeld; have hHeld := hHeld2; clear hHeld2; try simp only [Act.put, List.setIfInBounds_toArray, List.set_cons_zero, List.set_cons_succ]); (refine wpAnyH_ready (rs := [5]) (by kernel_rfl) (by simp) ?_; refine AllReadyH.cons (o := _) rfl (fun K' hK => ?_) AllReadyH.nil; go_simp; (replace hp := Lib.hid (((hp.out.put (i := 2) rfl 0 (.slice (some ⟨b, 0, none⟩) n cap)).put (i := 2) rfl 1 (.int .i64 (bi : Int))).put (i := 2) rfl 2 (.int .i64 bb))); (try dsimp only); refine hK.out _ _ ?_ (fun hHeld2 => ?_); (focus ((try dsimp only); (first | done | trivial); done)); clear hK K'; clear hHeld; have hHeld := hHeld2; clear hHeld2; try simp only [Act.put, List.setIfInBounds_toArray, List.set_cons_zero, List.set_cons_succ])
          refine wpAnyH_done (by kernel_rfl) ?_ _; refine NoPanic.normal ?_
          clear c0 c1 c2 e0 e1 e2
          generalize World.setCell (World.setCell (World.setCell _ _ _) _ _) _ _ = W8 at hp ⊢
          skip
          have z0 := hp.out.cell (i := 2) rfl 0; have z1 := hp.out.cell (i := 2) rfl 1; have z2 := hp.out.cell (i := 2) rfl 2
          have y0 := hp.out.cell (i := 1) rfl 0; have y1 := hp.out.cell (i := 1) rfl 1; have y2 := hp.out.cell (i := 1) rfl 2; have g0 := hp.out.free (i := 1) rfl 0; have g1 := hp.out.free (i := 1) rfl 1; have g2 := hp.out.free (i := 1) rfl 2
          simp at z0 z1 z2 y0 y1 y2
          go_wp2
          replace hp := Lib.hid (((hp.out.put (i := 1) rfl 0 (.slice (some ⟨b, 0, none⟩) n cap)).put (i := 1) rfl 1 (.int .i64 (bi : Int))).put (i := 1) rfl 2 (.int .i64 bb))
          have hpg := hp.out
          exact bodyPost_ret (v := .tuple #[.agg #[.slice (some ⟨b, 0, none⟩) n cap, .int .i64 (bi : Int), .int .i64 bb], .string ⟨#[]⟩]) (rname_results rfl _ _ q2 #[.slice (some ⟨b, 0, none⟩) n cap, .int .i64 (bi : Int), .int .i64 bb] (.string ⟨#[]⟩) rfl rfl (hpg.box (i := 1) rfl) rfl) rfl ⟨rfl, hpg.bel⟩
        · go_simp; (skip); (try dsimp only); refine hK.out _ _ ?_ (fun hHeld2 => ?_); (focus ((try dsimp only); (first | done | trivial); done)); clear hK K'; clear hHeld; have hHeld := hHeld2; clear hHeld2; try simp only [Act.put, List.setIfInBounds_toArray, List.set_cons_zero, List.set_cons_succ]
          refine wpAnyH_ready (rs := [0, 2]) (by kernel_rfl) (by simp) ?_; refine AllReadyH.cons (o := _) rfl (fun K' hK => ?_) (AllReadyH.cons (o := _) rfl (fun K' hK => ?_) AllReadyH.nil)
          · go_simp; (skip); (try dsimp only); refine hK.out _ _ ?_ (fun hHeld2 => ?_); (focus ((try dsimp only); (first | done | trivial); done)); clear hK K'; clear hHeld; have hHeld := hHeld2; clear hHeld2; try simp only [Act.put, List.setIfInBounds_toArray, List.set_cons_zero, List.set_cons_succ]
            (refine wpAnyH_ready (rs := [2]) (by kernel_rfl) (by simp) ?_; refine AllReadyH.cons (o := _) rfl (fun K' hK => ?_) AllReadyH.nil; go_simp; (go_at_call 32; (with_reducible refine (cn.out _ hp.out.bel).mono ?_); rintro e w5 ⟨rfl, b5⟩; replace hp := Lib.hid (hp.out.below b5); clear b5 c0 c1 c2 e0 e1 e2; have c0 := hp.out.cell (i := 2) rfl 0; have c1 := hp.out.cell (i := 2) rfl 1; have c2 := hp.out.cell (i := 2) rfl 2; have e0 := hp.out.free (i := 2) rfl 0; have e1 := hp.out.free (i := 2) rfl 1; have e2 := hp.out.free (i := 2) rfl 2; simp at c0 c1 c2); (try dsimp only); refine hK.out _ _ ?_ (fun hHeld2 => ?_); (focus ((try dsimp only); (first | done | trivial); done)); clear hK K'; clear hHeld; have hHeld := hHeld2; clear hHeld2; try simp only [Act.put, List.setIfInBounds_toArray, List.set_cons_zero, List.set_cons_succ]); (refine take_t (i := 3) (d := 25) (oi := _) (v := ?_) rfl rfl (by kernel_rfl) (by kernel_rfl) (by kernel_rfl) (by rfl) ?_ (by assumption) ?_; rotate_left; (focus (intro w0 hSw; (try dsimp only at hSw); go_simp; (try with_reducible rfl); done)); try simp only [Act.put, List.setIfInBounds_toArray, List.set_cons_zero, List.set_cons_succ]); (refine wpAnyH_ready (rs := [4]) (by kernel_rfl) (by simp) ?_; refine AllReadyH.cons (o := _) rfl (fun K' hK => ?_) AllReadyH.nil; go_simp; (go_at_call 31; (with_reducible refine (cw.out _).mono ?_); rintro e w6 ⟨rfl, b6⟩; replace hp := Lib.hid (hp.out.below b6); clear b6 c0 c1 c2 e0 e1 e2; have c0 := hp.out.cell (i := 2) rfl 0; have c1 := hp.out.cell (i := 2) rfl 1; have c2 := hp.out.cell (i := 2) rfl 2; have e0 := hp.out.free (i := 2) rfl 0; have e1 := hp.out.free (i := 2) rfl 1; have e2 := hp.out.free (i := 2) rfl 2; simp at c0 c1 c2); (try dsimp only); refine hK.out _ _ ?_ (fun hHeld2 => ?_); (focus ((try dsimp only); (first | done | trivial); done)); clear hK K'; clear hHeld; have hHeld := hHeld2; clear hHeld2; try simp only [Act.put, List.setIfInBounds_toArray, List.set_cons_zero, List.set_cons_succ]); (refine wpAnyH_ready (rs := [5]) (by kernel_rfl) (by simp) ?_; refine AllReadyH.cons (o := _) rfl (fun K' hK => ?_) AllReadyH.nil; go_simp; (replace hp := Lib.hid (((hp.out.put (i := 2) rfl 0 (.slice (some ⟨b, 0, none⟩) n cap)).put (i := 2) rfl 1 (.int .i64 (bi : Int))).put (i := 2) rfl 2 (.int .i64 bb))); (try dsimp only); refine hK.out _ _ ?_ (fun hHeld2 => ?_); (focus ((try dsimp only); (first | done | trivial); done)); clear hK K'; clear hHeld; have hHeld := hHeld2; clear hHeld2; try simp only [Act.put, List.setIfInBounds_toArray, List.set_cons_zero, List.set_cons_succ])
            refine wpAnyH_done (by kernel_rfl) ?_ _; refine NoPanic.normal ?_
            clear c0 c1 c2 e0 e1 e2
            generalize World.setCell (World.setCell (World.setCell _ _ _) _ _) _ _ = W8 at hp ⊢
            skip
            have z0 := hp.out.cell (i := 2) rfl 0; have z1 := hp.out.cell (i := 2) rfl 1; have z2 := hp.out.cell (i := 2) rfl 2
            have y0 := hp.out.cell (i := 1) rfl 0; have y1 := hp.out.cell (i := 1) rfl 1; have y2 := hp.out.cell (i := 1) rfl 2; have g0 := hp.out.free (i := 1) rfl 0; have g1 := hp.out.free (i := 1) rfl 1; have g2 := hp.out.free (i := 1) rfl 2
            simp at z0 z1 z2 y0 y1 y2
            go_wp2
            replace hp := Lib.hid (((hp.out.put (i := 1) rfl 0 (.slice (some ⟨b, 0, none⟩) n cap)).put (i := 1) rfl 1 (.int .i64 (bi : Int))).put (i := 1) rfl 2 (.int .i64 bb))
            have hpg := hp.out
            exact bodyPost_ret (v := .tuple #[.agg #[.slice (some ⟨b, 0, none⟩) n cap, .int .i64 (bi : Int), .int .i64 bb], .string ⟨#[]⟩]) (rname_results rfl _ _ q2 #[.slice (some ⟨b, 0, none⟩) n cap, .int .i64 (bi : Int), .int .i64 bb] (.string ⟨#[]⟩) rfl rfl (hpg.box (i := 1) rfl) rfl) rfl ⟨rfl, hpg.bel⟩
          · go_simp; (go_at_call 32; (with_reducible refine (cn.out _ hp.out.bel).mono ?_); rintro e w5 ⟨rfl, b5⟩; replace hp := Lib.hid (hp.out.below b5); clear b5 c0 c1 c2 e0 e1 e2; have c0 := hp.out.cell (i := 2) rfl 0; have c1 := hp.out.cell (i := 2) rfl 1; have c2 := hp.out.cell (i := 2) rfl 2; have e0 := hp.out.free (i := 2) rfl 0; have e1 := hp.out.free (i := 2) rfl 1; have e2 := hp.out.free (i := 2) rfl 2; simp at c0 c1 c2); (try dsimp only); refine hK.out _ _ ?_ (fun hHeld2 => ?_); (focus ((try dsimp only); (first | done | trivial); done)); clear hK K'; clear hHeld; have hHeld := hHeld2; clear hHeld2; try simp only [Act.put, List.setIfInBounds_toArray, List.set_cons_zero, List.set_cons_succ]
            (refine take_t (i := 3) (d := 25) (oi := _) (v := ?_) rfl rfl (by kernel_rfl) (by kernel_rfl) (by kernel_rfl) (by rfl) ?_ (by assumption) ?_; rotate_left; (focus (intro w0 hSw; (try dsimp only at hSw); go_simp; (try with_reducible rfl); done)); try simp only [Act.put, List.setIfInBounds_toArray, List.set_cons_zero, List.set_cons_succ]); (refine wpAnyH_ready (rs := [0]) (by kernel_rfl) (by simp) ?_; refine AllReadyH.cons (o := _) rfl (fun K' hK => ?_) AllReadyH.nil; go_simp; (skip); (try dsimp only); refine hK.out _ _ ?_ (fun hHeld2 => ?_); (focus ((try dsimp only); (first | done | trivial); done)); clear hK K'; clear hHeld; have hHeld := hHeld2; clear hHeld2; try simp only [Act.put, List.setIfInBounds_toArray, List.set_cons_zero, List.set_cons_succ]); (refine wpAnyH_ready (rs := [4]) (by kernel_rfl) (by simp) ?_; refine AllReadyH.cons (o := _) rfl (fun K' hK => ?_) AllReadyH.nil; go_simp; (go_at_call 31; (with_reducible refine (cw.out _).mono ?_); rintro e w6 ⟨rfl, b6⟩; replace hp := Lib.hid (hp.out.below b6); clear b6 c0 c1 c2 e0 e1 e2; have c0 := hp.out.cell (i := 2) rfl 0; have c1 := hp.out.cell (i := 2) rfl 1; have c2 := hp.out.cell (i := 2) rfl 2; have e0 := hp.out.free (i := 2) rfl 0; have e1 := hp.out.free (i := 2) rfl 1; have e2 := hp.out.free (i := 2) rfl 2; simp at c0 c1 c2); (try dsimp only); refine hK.out _ _ ?_ (fun hHeld2 => ?_); (focus ((try dsimp only); (first | done | trivial); done)); clear hK K'; clear hHeld; have hHeld := hHeld2; clear hHeld2; try simp only [Act.put, List.setIfInBounds_toArray, List.set_cons_zero, List.set_cons_succ]); (refine wpAnyH_ready (rs := [5]) (by kernel_rfl) (by simp) ?_; refine AllReadyH.cons (o := _) rfl (fun K' hK => ?_) AllReadyH.nil; go_simp; (replace hp := Lib.hid (((hp.out.put (i := 2) rfl 0 (.slice (some ⟨b, 0, none⟩) n cap)).put (i := 2) rfl 1 (.int .i64 (bi : Int))).put (i := 2) rfl 2 (.int .i64 bb))); (try dsimp only); refine hK.out _ _ ?_ (fun hHeld2 => ?_); (focus ((try dsimp only); (first | done | trivial); done)); clear hK K'; clear hHeld; have hHeld := hHeld2; clear hHeld2; try simp only [Act.put, List.setIfInBounds_toArray, List.set_cons_zero, List.set_cons_succ])
            refine wpAnyH_done (by kernel_rfl) ?_ _; refine NoPanic.normal ?_
            clear c0 c1 c2 e0 e1 e2
            generalize World.setCell (World.setCell (World.setCell _ _ _) _ _) _ _ = W8 at hp ⊢
            skip
            have z0 := hp.out.cell (i := 2) rfl 0; have z1 := hp.out.cell (i := 2) rfl 1; have z2 := hp.out.cell (i := 2) rfl 2
            have y0 := hp.out.cell (i := 1) rfl 0; have y1 := hp.out.cell (i := 1) rfl 1; have y2 := hp.out.cell (i := 1) rfl 2; have g0 := hp.out.free (i := 1) rfl 0; have g1 := hp.out.free (i := 1) rfl 1; have g2 := hp.out.free (i := 1) rfl 2
            simp at z0 z1 z2 y0 y1 y2
            go_wp2
            replace hp := Lib.hid (((hp.out.put (i := 1) rfl 0 (.slice (some ⟨b, 0, none⟩) n cap)).put (i := 1) rfl 1 (.int .i64 (bi : Int))).put (i := 1) rfl 2 (.int .i64 bb))
            have hpg := hp.out
            exact bodyPost_ret (v := .tuple #[.agg #[.slice (some ⟨b, 0, none⟩) n cap, .int .i64 (bi : Int), .int .i64 bb], .string ⟨#[]⟩]) (rname_results rfl _ _ q2 #[.slice (some ⟨b, 0, none⟩) n cap, .int .i64 (bi : Int), .int .i64 bb] (.string ⟨#[]⟩) rfl rfl (hpg.box (i := 1) rfl) rfl) rfl ⟨rfl, hpg.bel⟩
      | false =>
        have hf2 : R = (⟨i, bd⟩, []) := hf
        clear hf
        subst hf2
        go_upto_region 6 with (go_at_call 70; (with_reducible refine (cm.out _).mono ?_); rintro e w4 ⟨rfl, b4⟩; replace hp := Lib.hid (hp.out.below b4); clear b4)
        clear x0 x1
        skip
        have z0 := hp.out.cell (i := 2) rfl 0; have z1 := hp.out.cell (i := 2) rfl 1; have z2 := hp.out.cell (i := 2) rfl 2
        have y0 := hp.out.cell (i := 1) rfl 0; have y1 := hp.out.cell (i := 1) rfl 1; have y2 := hp.out.cell (i := 1) rfl 2; have g0 := hp.out.free (i := 1) rfl 0; have g1 := hp.out.free (i := 1) rfl 1; have g2 := hp.out.free (i := 1) rfl 2
        simp at z0 z1 z2 y0 y1 y2
        go_wp2
        replace hp := Lib.hid (((hp.out.put (i := 1) rfl 0 (.slice (some ⟨b, 0, none⟩) n cap)).put (i := 1) rfl 1 (.int .i64 (i : Int))).put (i := 1) rfl 2 (.int .i64 bd))
        have hpg := hp.out
        exact bodyPost_ret (v := .tuple #[.agg #[.slice (some ⟨b, 0, none⟩) n cap, .int .i64 (i : Int), .int .i64 bd], .string ⟨#[]⟩]) (rname_results rfl _ _ q2 #[.slice (some ⟨b, 0, none⟩) n cap, .int .i64 (i : Int), .int .i64 bd] (.string ⟨#[]⟩) rfl rfl (hpg.box (i := 1) rfl) rfl) rfl ⟨rfl, hpg.bel⟩
end Go.Proofs.YtgbkpkioijbgoaaDoor.qry
