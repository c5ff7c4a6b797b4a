/- The document's parser of questions (lodestoneref33.P): a condition. No condition but where the words lie. -/
import Derived.Test.YtgbkpkioijbgoaaDoorRqN
import Derived.Deep.CutBlock
import Derived.BigQuiet
namespace Go.Proofs.YtgbkpkioijbgoaaDoor.qry
open Go.RowKit
open lex (W)
open names (Nm mayN)
attribute [local go_sem ↓] Go.wp_at_zero Go.wp_at_succ
attribute [local go_sem] str_size str_bl
set_option linter.unusedVariables false
set_option linter.unusedSimpArgs false
set_option maxRecDepth 100000

theorem rcond_results {fn : Func} (hfn : fn.results = #[.cell 2 76, .cell 3 88]) (tmps : Array Value) (W' : World) (g d : Nat) (cs ds : Array Value) (h2 : tmps.getD 2 undef = .pointer (some ⟨g, 0, none⟩)) (h3 : tmps.getD 3 undef = .pointer (some ⟨d, 0, none⟩)) (hg : W'.heap[g]? = some (.cells cs 76 (0, 0))) (hd : W'.heap[d]? = some (.cells ds 88 (0, 0))) (hi : cs.size = 3) (hj : ds.size = 6) :
    (results fn tmps).run Tryd.prog W' = .ok (.tuple #[.agg cs, .agg ds]) W' := by
  have h2' : tmps[2]?.getD undef = .pointer (some ⟨g, 0, none⟩) := by simpa using h2
  have h3' : tmps[3]?.getD undef = .pointer (some ⟨d, 0, none⟩) := by simpa using h3
  have hs : (Tryd.prog.info? 76).map (·.size) = some cs.size := by rw [hi]; kernel_rfl
  have ht : (Tryd.prog.info? 88).map (·.size) = some ds.size := by rw [hj]; kernel_rfl
  simp [results, hfn, h2', h3', asAddr, run_loadVar_row W' g 76 76 cs (0, 0) _ hg Tryd.underlying76 rfl hs, run_loadVar_row W' d 88 88 ds (0, 0) _ hd Tryd.underlying88 rfl ht]
theorem ropF_step (x : W) {L : List Nm} {i : Nat} {m : Nm} (h : L[i]? = some m) (k : Nat) : ropF x (L.drop i) k = if x.kind = 4 ∧ x.s = m then some k else ropF x (L.drop (i + 1)) (k + 1) := by
  obtain ⟨hi, rfl⟩ := List.getElem?_eq_some_iff.1 h
  rw [List.drop_eq_getElem_cons hi, ropF]
set_option maxHeartbeats 16000000 in
theorem rcond_any {ws : List W} {b : Nat} {p : Rp} {w : World} (h : Rz ws b p w) (cap : Nat) :
    Calls Tryd.prog 30 #[rpA b cap ws.length p] w fun e w' => e = .returned (.tuple #[rpA b cap ws.length (rcond ws p).1, .agg #[.string (str (rcond ws p).2.var), .string (str (rcond ws p).2.key), .int .i64 ((rcond ws p).2.op : Int), .int .i64 ((rcond ws p).2.val.k : Int), .int .i64 (rcond ws p).2.val.n, .string (str (rcond ws p).2.val.s)]]) ∧ Below w.heap.size w w' := by
  have hzz : ∀ (q : Rp), q.at_ < ws.length → ∀ W, Below w.heap.size w W → Rz ws b q W := fun q hq W hb => ⟨h.wf, h.at_.below hb, hq⟩
  have hwl := h.wf.len
  have lp := h.lt
  clear h
  obtain ⟨R, hR⟩ : ∃ R, R = rcond ws p := ⟨_, rfl⟩
  rw [← hR]
  unfold rcond at hR
  simp only at hR
  have kc1 := fun W (hb : Below w.heap.size w W) => rname_any (hzz p lp W hb) cap true
  have lp1 : (rname ws true p).1.at_ < ws.length := rname_lt lp
  obtain ⟨⟨p1, nv⟩, hx⟩ : ∃ r, r = rname ws true p := ⟨_, rfl⟩
  rw [← hx] at kc1 lp1 hR
  simp only at kc1 lp1 hR
  clear hx
  have kc2 := fun W (hb : Below w.heap.size w W) => rmust_any (hzz p1 lp1 W hb) cap 4 4 rfl [46]
  have ee : str [46] = (⟨#[46]⟩ : ByteArray) := rfl
  rw [ee] at kc2
  clear ee
  have lp2 : (rmust ws 4 [46] p1).at_ < ws.length := rmust_lt lp1
  obtain ⟨p2, hx⟩ : ∃ r, r = rmust ws 4 [46] p1 := ⟨_, rfl⟩
  rw [← hx] at kc2 lp2 hR
  clear hx
  have kc3 := fun W (hb : Below w.heap.size w W) => rname_any (hzz p2 lp2 W hb) cap true
  have lp3 : (rname ws true p2).1.at_ < ws.length := rname_lt lp2
  obtain ⟨⟨p3, nl⟩, hx⟩ : ∃ r, r = rname ws true p2 := ⟨_, rfl⟩
  rw [← hx] at kc3 lp3 hR
  simp only at kc3 lp3 hR
  clear hx
  have kc4 := fun W (hb : Below w.heap.size w W) => rnow_any (hzz p3 lp3 W hb) cap
  have kc5 := fun W => rwrong_any b cap ws.length p3 ((rnow ws p3).pos : Int) W
  obtain ⟨x, hx⟩ : ∃ x, x = rnow ws p3 := ⟨_, rfl⟩
  rw [← hx] at kc4 kc5 hR
  clear hx
  have kc6 := fun W => rnext_any ws b cap p3 W lp3 hwl
  have lp4 : (rnext ws p3).at_ < ws.length := rnext_lt lp3
  obtain ⟨p4, hx⟩ : ∃ r, r = rnext ws p3 := ⟨_, rfl⟩
  rw [← hx] at kc6 lp4 hR
  clear hx
  have kc7 := fun W (hb : Below w.heap.size w W) => rval_any (hzz p4 lp4 W hb) cap
  obtain ⟨⟨p5, vl⟩, hx⟩ : ∃ r, r = rval ws p4 := ⟨_, rfl⟩
  rw [← hx] at kc7 hR
  simp only at kc7 hR
  clear hx
  obtain ⟨RES, hRES⟩ : ∃ r, r = ropF x opsL 0 := ⟨_, rfl⟩
  rw [← hRES] at hR
  obtain ⟨vk, vn, vs⟩ := vl
  unfold V.a at kc7
  simp only at kc7
  obtain ⟨p6, hx⟩ : ∃ r, r = rwrong p3 (x.pos : Int) := ⟨_, rfl⟩
  rw [← hx] at kc5 hR
  clear hx
  obtain ⟨xk, xs, xn, xp⟩ := x
  simp only at kc4 kc5 hR
  have hfl := fun W => field_pos W (xk : Int) (str xs) (xn : Int) (xp : Int)
  obtain ⟨n, hn⟩ : ∃ n, n = ws.length := ⟨_, rfl⟩
  simp only [rpA] at kc1 kc2 kc3 kc4 kc5 kc6 kc7 ⊢
  rw [← hn] at kc1 kc2 kc3 kc4 kc5 kc6 kc7 ⊢
  unfold wA at kc4
  simp only at kc4
  replace kc1 := Lib.hid kc1; replace kc2 := Lib.hid kc2; replace kc3 := Lib.hid kc3; replace kc4 := Lib.hid kc4; replace kc5 := Lib.hid kc5; replace kc6 := Lib.hid kc6; replace kc7 := Lib.hid kc7
  replace hn := Lib.hid hn; replace hR := Lib.hid hR; replace hRES := Lib.hid hRES
  clear lp lp1 lp2 lp3 lp4 hwl hzz
  have hp := ((((Hp.none_ w []).alloc #[.slice (some ⟨b, 0, none⟩) n cap, .int .i64 (p.at_ : Int), .int .i64 p.bad] 76).alloc #[.slice none 0 0, .int .i64 0, .int .i64 0] 76).alloc #[.string ⟨#[]⟩, .string ⟨#[]⟩, .int .i64 0, .int .i64 0, .int .i64 0, .string ⟨#[]⟩] 88).alloc #[.string ⟨#[]⟩, .string ⟨#[]⟩, .int .i64 0, .int .i64 0, .int .i64 0, .string ⟨#[]⟩] 88
  have hsz : ∀ (u : World) o, (u.alloc o).heap.size = u.heap.size + 1 := fun u o => by simp
  rw [hsz, hsz, hsz] at hp
  clear hsz
  replace hp := Lib.hid hp
  go_enter Tryd.func30, Tryd.ntmps30
  go_upto_region 2 with fail
  generalize (((w.alloc _).alloc _).alloc _).alloc _ = W1 at hp ⊢
  generalize w.heap.size + 1 + 1 + 1 = q4 at hp ⊢
  generalize w.heap.size + 1 + 1 = q3 at hp ⊢
  generalize w.heap.size + 1 = q2 at hp ⊢
  generalize w.heap.size = q1 at hp ⊢
  have n14 : ¬ q1 = q4 := hp.out.ne (i := 3) (j := 0) rfl rfl (by decide)
  have n41 : ¬ q4 = q1 := fun e => n14 e.symm
  have c0 := hp.out.cell (i := 3) rfl 0; have c1 := hp.out.cell (i := 3) rfl 1; have c2 := hp.out.cell (i := 3) rfl 2; simp at c0 c1 c2
  go_upto_region 3 with (go_at_call 33; (with_reducible refine (kc1.out _ hp.out.bel).mono ?_); rintro e wa ⟨rfl, ba⟩; replace hp := Lib.hid (hp.out.below ba); clear ba c0 c1 c2; have c0 := hp.out.cell (i := 3) rfl 0; have c1 := hp.out.cell (i := 3) rfl 1; have c2 := hp.out.cell (i := 3) rfl 2; simp at c0 c1 c2; have e0 := hp.out.free (i := 3) rfl 0; have e1 := hp.out.free (i := 3) rfl 1; have e2 := hp.out.free (i := 3) rfl 2; have y0 := hp.out.cell (i := 0) rfl 0; simp at y0; have f0 := hp.out.free (i := 0) rfl 0)
  replace hp := Lib.hid ((((hp.out.put (i := 3) rfl 0 (.slice (some ⟨b, 0, none⟩) n cap)).put (i := 3) rfl 1 (.int .i64 (p1.at_ : Int))).put (i := 3) rfl 2 (.int .i64 p1.bad)).put (i := 0) rfl 0 (.string (str nv)))
  clear c0 c1 c2 e0 e1 e2 y0 f0
  generalize World.setCell (World.setCell (World.setCell (World.setCell _ _ _) _ _) _ _) _ _ = W2 at hp ⊢
  replace hp := Lib.hid (show Hp w [] (.box q4 #[.string (str nv), .string ⟨#[]⟩, .int .i64 0, .int .i64 0, .int .i64 0, .string ⟨#[]⟩] 88 :: .box q3 #[.string ⟨#[]⟩, .string ⟨#[]⟩, .int .i64 0, .int .i64 0, .int .i64 0, .string ⟨#[]⟩] 88 :: .box q2 #[.slice none 0 0, .int .i64 0, .int .i64 0] 76 :: .box q1 #[.slice (some ⟨b, 0, none⟩) n cap, .int .i64 (p1.at_ : Int), .int .i64 p1.bad] 76 :: []) W2 from hp.out)
  have c0 := hp.out.cell (i := 3) rfl 0; have c1 := hp.out.cell (i := 3) rfl 1; have c2 := hp.out.cell (i := 3) rfl 2; simp at c0 c1 c2
  go_upto_region 4 with (go_at_call 25; (with_reducible refine (kc2.out _ hp.out.bel).mono ?_); rintro e wb ⟨rfl, bb⟩; replace hp := Lib.hid (hp.out.below bb); clear bb c0 c1 c2; have c0 := hp.out.cell (i := 3) rfl 0; have c1 := hp.out.cell (i := 3) rfl 1; have c2 := hp.out.cell (i := 3) rfl 2; simp at c0 c1 c2; have e0 := hp.out.free (i := 3) rfl 0; have e1 := hp.out.free (i := 3) rfl 1; have e2 := hp.out.free (i := 3) rfl 2)
  replace hp := Lib.hid (((hp.out.put (i := 3) rfl 0 (.slice (some ⟨b, 0, none⟩) n cap)).put (i := 3) rfl 1 (.int .i64 (p2.at_ : Int))).put (i := 3) rfl 2 (.int .i64 p2.bad))
  clear c0 c1 c2 e0 e1 e2
  generalize World.setCell (World.setCell (World.setCell _ _ _) _ _) _ _ = W3 at hp ⊢
  replace hp := Lib.hid (show Hp w [] (.box q4 #[.string (str nv), .string ⟨#[]⟩, .int .i64 0, .int .i64 0, .int .i64 0, .string ⟨#[]⟩] 88 :: .box q3 #[.string ⟨#[]⟩, .string ⟨#[]⟩, .int .i64 0, .int .i64 0, .int .i64 0, .string ⟨#[]⟩] 88 :: .box q2 #[.slice none 0 0, .int .i64 0, .int .i64 0] 76 :: .box q1 #[.slice (some ⟨b, 0, none⟩) n cap, .int .i64 (p2.at_ : Int), .int .i64 p2.bad] 76 :: []) W3 from hp.out)
  have c0 := hp.out.cell (i := 3) rfl 0; have c1 := hp.out.cell (i := 3) rfl 1; have c2 := hp.out.cell (i := 3) rfl 2; simp at c0 c1 c2
  go_upto_region 5 with (go_at_call 33; (with_reducible refine (kc3.out _ hp.out.bel).mono ?_); rintro e wd ⟨rfl, bd⟩; replace hp := Lib.hid (hp.out.below bd); clear bd c0 c1 c2; have c0 := hp.out.cell (i := 3) rfl 0; have c1 := hp.out.cell (i := 3) rfl 1; have c2 := hp.out.cell (i := 3) rfl 2; simp at c0 c1 c2; have e0 := hp.out.free (i := 3) rfl 0; have e1 := hp.out.free (i := 3) rfl 1; have e2 := hp.out.free (i := 3) rfl 2; have y0 := hp.out.cell (i := 0) rfl 0; have y1 := hp.out.cell (i := 0) rfl 1; simp at y0 y1; have f0 := hp.out.free (i := 0) rfl 0; have f1 := hp.out.free (i := 0) rfl 1)
  replace hp := Lib.hid ((((hp.out.put (i := 3) rfl 0 (.slice (some ⟨b, 0, none⟩) n cap)).put (i := 3) rfl 1 (.int .i64 (p3.at_ : Int))).put (i := 3) rfl 2 (.int .i64 p3.bad)).put (i := 0) rfl 1 (.string (str nl)))
  clear c0 c1 c2 e0 e1 e2 y0 y1 f0 f1
  generalize World.setCell (World.setCell (World.setCell (World.setCell _ _ _) _ _) _ _) _ _ = W4 at hp ⊢
  have hpq : Hp w [] (.box q4 #[.string (str nv), .string (str nl), .int .i64 0, .int .i64 0, .int .i64 0, .string ⟨#[]⟩] 88 :: .box q3 #[.string ⟨#[]⟩, .string ⟨#[]⟩, .int .i64 0, .int .i64 0, .int .i64 0, .string ⟨#[]⟩] 88 :: .box q2 #[.slice none 0 0, .int .i64 0, .int .i64 0] 76 :: .box q1 #[.slice (some ⟨b, 0, none⟩) n cap, .int .i64 (p3.at_ : Int), .int .i64 p3.bad] 76 :: []) W4 := hp.out
  replace hp := Lib.hid (hpq.rowLit #[.string ⟨#[60]⟩, .string ⟨#[60, 61]⟩, .string ⟨#[61]⟩, .string ⟨#[33, 61]⟩, .string ⟨#[62, 61]⟩, .string ⟨#[62]⟩] 9 1 6 (by decide) rfl)
  clear hpq
  go_upto_region 6 with fail
  generalize W4.alloc _ = W5 at hp ⊢
  generalize W4.heap.size = q5 at hp ⊢
  go_wp2
  go_loopg [6] 6 (fun kk s6 wr => ∃ i : Nat, s6 = .int .i64 (i : Int) ∧ i + kk = 6 ∧ ropF ⟨xk, xs, xn, xp⟩ (opsL.drop i) i = RES ∧ Hp w [] (.row 9 1 (.slice (some ⟨q5, 0, none⟩) 6 6) 6 (names.nmC opsL) :: .box q4 #[.string (str nv), .string (str nl), .int .i64 0, .int .i64 0, .int .i64 0, .string ⟨#[]⟩] 88 :: .box q3 #[.string ⟨#[]⟩, .string ⟨#[]⟩, .int .i64 0, .int .i64 0, .int .i64 0, .string ⟨#[]⟩] 88 :: .box q2 #[.slice none 0 0, .int .i64 0, .int .i64 0] 76 :: .box q1 #[.slice (some ⟨b, 0, none⟩) n cap, .int .i64 (p3.at_ : Int), .int .i64 p3.bad] 76 :: []) wr)
  case atStart => exact ⟨0, rfl, rfl, hRES.out.symm, hp.out⟩
  case round =>
    clear hp hRES
    obtain ⟨i, rfl, hik, hrf, hp⟩ := hrel
    by_cases hlt : i < 6
    · skip
      obtain ⟨K, rfl⟩ : ∃ K : Nat, gk = K + 1 := ⟨gk - 1, by omega⟩
      obtain ⟨m, hm⟩ : ∃ m, opsL[i]? = some m := ⟨_, List.getElem?_eq_getElem hlt⟩
      rw [ropF_step _ hm] at hrf
      simp only at hrf
      obtain ⟨b5, o5, hbe, hr⟩ := (slAt (hp.sl (i := 0) rfl (by decide))).resolve_left (by decide)
      injection hbe with hbe
      injection hbe with hb1 hb2 hb3
      subst hb1 hb2
      clear hr hb3
      have e1 : (0 : Int) ≤ (i : Int) := by omega
      have e2 : (i : Int) < 6 := by omega
      replace hp := Lib.hid hp; replace hik := Lib.hid hik
      have c0 := hp.out.cell (i := 4) rfl 0; have c1 := hp.out.cell (i := 4) rfl 1; have c2 := hp.out.cell (i := 4) rfl 2; simp at c0 c1 c2
      go_upto_region 10 with (go_at_call 32; (with_reducible refine (kc4.out _ hp.out.bel).mono ?_); rintro e we ⟨rfl, be⟩; replace hp := Lib.hid (hp.out.below be); clear be c0 c1 c2; skip)
      replace hp := Lib.hid (hp.out.alloc #[.int .i64 (xk : Int), .string (str xs), .int .i64 (xn : Int), .int .i64 (xp : Int)] 71)
      generalize we.alloc _ = W6 at hp ⊢
      generalize we.heap.size = q6 at hp ⊢
      obtain ⟨b5, o5, hbe, hr⟩ := (slAt (hp.out.sl (i := 1) rfl (by decide))).resolve_left (by decide)
      injection hbe with hbe
      injection hbe with hb1 hb2 hb3
      subst hb1 hb2
      have d0 : W6.cell? ⟨q5, 0 + i, none⟩ = some (.string (str m)) := hr.2 i _ (names.nmC_at opsL i m hm)
      have d1 : W6.cell? ⟨q5, i, none⟩ = some (.string (str m)) := by rw [Nat.zero_add] at d0; exact d0
      clear hm hr d0
      have z0 := hp.out.cell (i := 0) rfl 0; have z1 := hp.out.cell (i := 0) rfl 1; simp at z0 z1
      obtain ⟨B, hB⟩ : ∃ B : Bool, B = decide (xk = 4 ∧ xs = m) := ⟨_, rfl⟩
      replace hrf := Lib.hid hrf; replace hR := Lib.hid hR
      go_cut [43] from 32 to 43 (fun s43 wx => s43 = .bool B ∧ Hp w [] (.box q6 #[.int .i64 (xk : Int), .string (str xs), .int .i64 (xn : Int), .int .i64 (xp : Int)] 71 :: .row 9 1 (.slice (some ⟨q5, 0, none⟩) 6 6) 6 (names.nmC opsL) :: .box q4 #[.string (str nv), .string (str nl), .int .i64 0, .int .i64 0, .int .i64 0, .string ⟨#[]⟩] 88 :: .box q3 #[.string ⟨#[]⟩, .string ⟨#[]⟩, .int .i64 0, .int .i64 0, .int .i64 0, .string ⟨#[]⟩] 88 :: .box q2 #[.slice none 0 0, .int .i64 0, .int .i64 0] 76 :: .box q1 #[.slice (some ⟨b, 0, none⟩) n cap, .int .i64 (p3.at_ : Int), .int .i64 p3.bad] 76 :: []) wx)
      case first =>
        clear hrf hR
        by_cases h4 : xk = 4
        · have n4 : ((xk : Int) == 4) = true := by rw [beq_iff_eq]; omega
          by_cases hms : xs = m
          · have n1 : (xs == m) = true := by rw [hms]; simp
            have hB2 : B = true := by rw [hB, decide_eq_true ⟨h4, hms⟩]
            clear hB hms h4
            subst hB2
            go_quiet (fail)
            go_wp2
            go_meet
            exact ⟨rfl, hp.out.drewN _⟩
          · have n1 : (xs == m) = false := by simp [hms]
            have hB2 : B = false := by rw [hB, decide_eq_false (fun h => hms h.2)]
            clear hB hms h4
            subst hB2
            go_quiet (fail)
            go_wp2
            go_meet
            exact ⟨rfl, hp.out.drewN _⟩
        · have n4 : ((xk : Int) == 4) = false := by rw [beq_eq_false_iff_ne]; omega
          have hB2 : B = false := by rw [hB, decide_eq_false (fun h => h4 h.1)]
          clear hB h4
          subst hB2
          go_quiet (fail)
          go_wp2
          go_meet
          exact ⟨rfl, hp.out.drewN _⟩
      case rest =>
        obtain ⟨rfl, hp3⟩ := hcut
        replace hp := Lib.hid (hp3.drop 0)
        clear hp3 z0 z1 d1
        replace hrf := hrf.out; replace hR := hR.out
        cases B with
        | true =>
          rw [if_pos (of_decide_eq_true hB.symm)] at hrf
          subst hrf
          have hRf : R = (p5, ⟨nv, nl, i, ⟨vk, vn, vs⟩⟩) := hR
          clear hR hB e1 e2 hlt hfl
          subst hRf
          have y2 := hp.out.cell (i := 1) rfl 2; have f2 := hp.out.free (i := 1) rfl 2; simp at y2
          go_upto_region 12 with fail
          replace hp := Lib.hid (hp.out.put (i := 1) rfl 2 (.int .i64 (i : Int)))
          clear y2 f2
          generalize World.setCell _ _ _ = W7 at hp ⊢
          replace hp := Lib.hid (show Hp w [] (.row 9 1 (.slice (some ⟨q5, 0, none⟩) 6 6) 6 (names.nmC opsL) :: .box q4 #[.string (str nv), .string (str nl), .int .i64 (i : Int), .int .i64 0, .int .i64 0, .string ⟨#[]⟩] 88 :: .box q3 #[.string ⟨#[]⟩, .string ⟨#[]⟩, .int .i64 0, .int .i64 0, .int .i64 0, .string ⟨#[]⟩] 88 :: .box q2 #[.slice none 0 0, .int .i64 0, .int .i64 0] 76 :: .box q1 #[.slice (some ⟨b, 0, none⟩) n cap, .int .i64 (p3.at_ : Int), .int .i64 p3.bad] 76 :: []) W7 from hp.out)
          have c0 := hp.out.cell (i := 4) rfl 0; have c1 := hp.out.cell (i := 4) rfl 1; have c2 := hp.out.cell (i := 4) rfl 2; simp at c0 c1 c2
          go_upto_region 13 with (first | (go_at_call 29; (with_reducible refine (kc6.out _).mono ?_); rintro e wf ⟨rfl, bf⟩; replace hp := Lib.hid (hp.out.below bf); clear bf c0 c1 c2; skip) | (go_at_call 69; (with_reducible refine (kc7.out _ hp.out.bel).mono ?_); rintro e wg ⟨rfl, bg⟩; replace hp := Lib.hid (hp.out.below bg); clear bg; have c0 := hp.out.cell (i := 4) rfl 0; have c1 := hp.out.cell (i := 4) rfl 1; have c2 := hp.out.cell (i := 4) rfl 2; simp at c0 c1 c2; have e0 := hp.out.free (i := 4) rfl 0; have e1 := hp.out.free (i := 4) rfl 1; have e2 := hp.out.free (i := 4) rfl 2; have y3 := hp.out.cell (i := 1) rfl 3; have f3 := hp.out.free (i := 1) rfl 3; have y4 := hp.out.cell (i := 1) rfl 4; have f4 := hp.out.free (i := 1) rfl 4; have y5 := hp.out.cell (i := 1) rfl 5; have f5 := hp.out.free (i := 1) rfl 5; simp at y3 y4 y5))
          replace hp := Lib.hid ((((((hp.out.put (i := 4) rfl 0 (.slice (some ⟨b, 0, none⟩) n cap)).put (i := 4) rfl 1 (.int .i64 (p5.at_ : Int))).put (i := 4) rfl 2 (.int .i64 p5.bad)).put (i := 1) rfl 3 (.int .i64 (vk : Int))).put (i := 1) rfl 4 (.int .i64 vn)).put (i := 1) rfl 5 (.string (str vs)))
          clear c0 c1 c2 e0 e1 e2 y3 y4 y5 f3 f4 f5
          generalize World.setCell (World.setCell (World.setCell (World.setCell (World.setCell (World.setCell _ _ _) _ _) _ _) _ _) _ _) _ _ = W8 at hp ⊢
          replace hp := Lib.hid (show Hp w [] (.row 9 1 (.slice (some ⟨q5, 0, none⟩) 6 6) 6 (names.nmC opsL) :: .box q4 #[.string (str nv), .string (str nl), .int .i64 (i : Int), .int .i64 (vk : Int), .int .i64 vn, .string (str vs)] 88 :: .box q3 #[.string ⟨#[]⟩, .string ⟨#[]⟩, .int .i64 0, .int .i64 0, .int .i64 0, .string ⟨#[]⟩] 88 :: .box q2 #[.slice none 0 0, .int .i64 0, .int .i64 0] 76 :: .box q1 #[.slice (some ⟨b, 0, none⟩) n cap, .int .i64 (p5.at_ : Int), .int .i64 p5.bad] 76 :: []) W8 from hp.out)
          have hsk := Lib.hid (show ∀ (rs : List Rs) (W' : World), Hp w [] rs W' → rs[4]? = some (.box q1 #[.slice (some ⟨b, 0, none⟩) n cap, .int .i64 (p5.at_ : Int), .int .i64 p5.bad] 76) → rs[1]? = some (.box q4 #[.string (str nv), .string (str nl), .int .i64 (i : Int), .int .i64 (vk : Int), .int .i64 vn, .string (str vs)] 88) → (fun W' => W'.cell? ⟨q1, 0, none⟩ = some (.slice (some ⟨b, 0, none⟩) n cap) ∧ W'.cell? ⟨q1, 1, none⟩ = some (.int .i64 (p5.at_ : Int)) ∧ W'.cell? ⟨q1, 2, none⟩ = some (.int .i64 p5.bad) ∧ W'.cell? ⟨q4, 0, none⟩ = some (.string (str nv)) ∧ W'.cell? ⟨q4, 1, none⟩ = some (.string (str nl)) ∧ W'.cell? ⟨q4, 2, none⟩ = some (.int .i64 (i : Int)) ∧ W'.cell? ⟨q4, 3, none⟩ = some (.int .i64 (vk : Int)) ∧ W'.cell? ⟨q4, 4, none⟩ = some (.int .i64 vn) ∧ W'.cell? ⟨q4, 5, none⟩ = some (.string (str vs))) W' from fun rs W' h hi hj => ⟨(h.cell hi 0).trans rfl, (h.cell hi 1).trans rfl, (h.cell hi 2).trans rfl, (h.cell hj 0).trans rfl, (h.cell hj 1).trans rfl, (h.cell hj 2).trans rfl, (h.cell hj 3).trans rfl, (h.cell hj 4).trans rfl, (h.cell hj 5).trans rfl⟩)
          have y0 := hp.out.cell (i := 3) rfl 0; have y1 := hp.out.cell (i := 3) rfl 1; have y2 := hp.out.cell (i := 3) rfl 2; simp at y0 y1 y2; have g0 := hp.out.free (i := 3) rfl 0; have g1 := hp.out.free (i := 3) rfl 1; have g2 := hp.out.free (i := 3) rfl 2
          refine wp_region_noPanic ?_; refine wp_region_held_drew (S := (fun W' => W'.cell? ⟨q1, 0, none⟩ = some (.slice (some ⟨b, 0, none⟩) n cap) ∧ W'.cell? ⟨q1, 1, none⟩ = some (.int .i64 (p5.at_ : Int)) ∧ W'.cell? ⟨q1, 2, none⟩ = some (.int .i64 p5.bad) ∧ W'.cell? ⟨q4, 0, none⟩ = some (.string (str nv)) ∧ W'.cell? ⟨q4, 1, none⟩ = some (.string (str nl)) ∧ W'.cell? ⟨q4, 2, none⟩ = some (.int .i64 (i : Int)) ∧ W'.cell? ⟨q4, 3, none⟩ = some (.int .i64 (vk : Int)) ∧ W'.cell? ⟨q4, 4, none⟩ = some (.int .i64 vn) ∧ W'.cell? ⟨q4, 5, none⟩ = some (.string (str vs)))) (by kernel_rfl) ?_ (fun hHeld => ?_); (focus ((try dsimp only); (first | exact hsk.out _ _ hp.out rfl rfl | exact hsk.out _ _ hp.out.drew rfl rfl); done))
          (refine take_t (i := 0) (d := 53) (oi := _) (v := ?_) rfl rfl (by kernel_rfl) (by kernel_rfl) (by kernel_rfl) (by rfl) ?_ (by assumption) ?_; rotate_left; (focus (intro w0 hSw; (try dsimp only at hSw); go_simp; (try with_reducible rfl); done)); try simp only [Act.put, List.setIfInBounds_toArray, List.set_cons_zero, List.set_cons_succ]); (refine take_t (i := 1) (d := 54) (oi := _) (v := ?_) rfl rfl (by kernel_rfl) (by kernel_rfl) (by kernel_rfl) (by rfl) ?_ (by assumption) ?_; rotate_left; (focus (intro w0 hSw; (try dsimp only at hSw); go_simp; (try with_reducible rfl); done)); try simp only [Act.put, List.setIfInBounds_toArray, List.set_cons_zero, List.set_cons_succ]); (refine wpAnyH_ready (rs := [2]) (by kernel_rfl) (by simp) ?_; refine AllReadyH.cons (o := _) rfl (fun K' hK => ?_) AllReadyH.nil; go_simp; (replace hp := Lib.hid ((((hp.out.put (i := 3) rfl 0 (.slice (some ⟨b, 0, none⟩) n cap)).put (i := 3) rfl 1 (.int .i64 (p5.at_ : Int))).put (i := 3) rfl 2 (.int .i64 p5.bad))).drew; clear y0 y1 y2 g0 g1 g2); (try dsimp only); refine hK.out _ _ ?_ (fun hHeld2 => ?_); (focus ((try dsimp only); (first | exact hsk.out _ _ hp.out rfl rfl | exact hsk.out _ _ hp.out.drew rfl rfl); done)); clear hK K'; clear hHeld; have hHeld := hHeld2; clear hHeld2; try simp only [Act.put, List.setIfInBounds_toArray, List.set_cons_zero, List.set_cons_succ])
          generalize World.drew _ = W9 at hp hHeld ⊢
          replace hp := Lib.hid (show Hp w [] (.row 9 1 (.slice (some ⟨q5, 0, none⟩) 6 6) 6 (names.nmC opsL) :: .box q4 #[.string (str nv), .string (str nl), .int .i64 (i : Int), .int .i64 (vk : Int), .int .i64 vn, .string (str vs)] 88 :: .box q3 #[.string ⟨#[]⟩, .string ⟨#[]⟩, .int .i64 0, .int .i64 0, .int .i64 0, .string ⟨#[]⟩] 88 :: .box q2 #[.slice (some ⟨b, 0, none⟩) n cap, .int .i64 (p5.at_ : Int), .int .i64 p5.bad] 76 :: .box q1 #[.slice (some ⟨b, 0, none⟩) n cap, .int .i64 (p5.at_ : Int), .int .i64 p5.bad] 76 :: []) W9 from hp.out)
          have v0 := hp.out.cell (i := 2) rfl 0; have v1 := hp.out.cell (i := 2) rfl 1; have v2 := hp.out.cell (i := 2) rfl 2; have v3 := hp.out.cell (i := 2) rfl 3; have v4 := hp.out.cell (i := 2) rfl 4; have v5 := hp.out.cell (i := 2) rfl 5; simp at v0 v1 v2 v3 v4 v5; have u0 := hp.out.free (i := 2) rfl 0; have u1 := hp.out.free (i := 2) rfl 1; have u2 := hp.out.free (i := 2) rfl 2; have u3 := hp.out.free (i := 2) rfl 3; have u4 := hp.out.free (i := 2) rfl 4; have u5 := hp.out.free (i := 2) rfl 5
          (refine wpAnyH_ready (rs := [3]) (by kernel_rfl) (by simp) ?_; refine AllReadyH.cons (o := _) rfl (fun K' hK => ?_) AllReadyH.nil; go_simp; (replace hp := Lib.hid ((((((hp.out.put (i := 2) rfl 0 (.string (str nv))).put (i := 2) rfl 1 (.string (str nl))).put (i := 2) rfl 2 (.int .i64 (i : Int))).put (i := 2) rfl 3 (.int .i64 (vk : Int))).put (i := 2) rfl 4 (.int .i64 vn)).put (i := 2) rfl 5 (.string (str vs)))); (try dsimp only); refine hK.out _ _ ?_ (fun hHeld2 => ?_); (focus ((try dsimp only); (first | exact hsk.out _ _ hp.out rfl rfl | exact hsk.out _ _ hp.out.drew rfl rfl); done)); clear hK K'; clear hHeld; have hHeld := hHeld2; clear hHeld2; try simp only [Act.put, List.setIfInBounds_toArray, List.set_cons_zero, List.set_cons_succ])
          refine wpAnyH_done (by kernel_rfl) ?_ _; refine NoPanic.normal ?_
          go_wp2
          have hpg := hp.out
          exact bodyPost_ret (v := .tuple #[.agg #[.slice (some ⟨b, 0, none⟩) n cap, .int .i64 (p5.at_ : Int), .int .i64 p5.bad], .agg #[.string (str nv), .string (str nl), .int .i64 (i : Int), .int .i64 (vk : Int), .int .i64 vn, .string (str vs)]]) (rcond_results rfl _ _ q2 q3 #[.slice (some ⟨b, 0, none⟩) n cap, .int .i64 (p5.at_ : Int), .int .i64 p5.bad] #[.string (str nv), .string (str nl), .int .i64 (i : Int), .int .i64 (vk : Int), .int .i64 vn, .string (str vs)] rfl rfl (hpg.box (i := 3) rfl) (hpg.box (i := 2) rfl) rfl rfl) rfl ⟨rfl, hpg.bel⟩
        | false =>
          rw [if_neg (fun h => by rw [decide_eq_true h] at hB; cases hB)] at hrf
          replace hrf := Lib.hid hrf; clear hR hB
          go_wp2
          go_roundg K
          case measure => omega
          case rel => exact ⟨i + 1, by go_num, by have := hik.out; omega, hrf.out, hp.out⟩
    · skip
      have hk0 : gk = 0 := by omega
      subst hk0
      obtain rfl : i = 6 := by omega
      have hrf2 : none = RES := hrf
      subst hrf2
      have hRf : R = (p6, ⟨nv, nl, 0, ⟨0, 0, []⟩⟩) := hR.out
      clear hR hrf hik hlt
      subst hRf
      replace hp := Lib.hid hp
      have e2 : ¬ ((6 : Nat) : Int) < 6 := by omega
      go_upto_region 14 with fail
      clear e2
      replace hp := Lib.hid hp.out.drew
      have hsk := Lib.hid (show ∀ (rs : List Rs) (W' : World), Hp w [] rs W' → rs[4]? = some (.box q1 #[.slice (some ⟨b, 0, none⟩) n cap, .int .i64 (p3.at_ : Int), .int .i64 p3.bad] 76) → rs[1]? = some (.box q4 #[.string (str nv), .string (str nl), .int .i64 0, .int .i64 0, .int .i64 0, .string ⟨#[]⟩] 88) → (fun W' => W'.cell? ⟨q1, 0, none⟩ = some (.slice (some ⟨b, 0, none⟩) n cap) ∧ W'.cell? ⟨q1, 1, none⟩ = some (.int .i64 (p3.at_ : Int)) ∧ W'.cell? ⟨q1, 2, none⟩ = some (.int .i64 p3.bad) ∧ W'.cell? ⟨q4, 0, none⟩ = some (.string (str nv)) ∧ W'.cell? ⟨q4, 1, none⟩ = some (.string (str nl)) ∧ W'.cell? ⟨q4, 2, none⟩ = some (.int .i64 0) ∧ W'.cell? ⟨q4, 3, none⟩ = some (.int .i64 0) ∧ W'.cell? ⟨q4, 4, none⟩ = some (.int .i64 0) ∧ W'.cell? ⟨q4, 5, none⟩ = some (.string ⟨#[]⟩)) W' from fun rs W' h hi hj => ⟨(h.cell hi 0).trans rfl, (h.cell hi 1).trans rfl, (h.cell hi 2).trans rfl, (h.cell hj 0).trans rfl, (h.cell hj 1).trans rfl, (h.cell hj 2).trans rfl, (h.cell hj 3).trans rfl, (h.cell hj 4).trans rfl, (h.cell hj 5).trans rfl⟩)
      refine wp_region_noPanic ?_; refine wp_region_held_drew (S := (fun W' => W'.cell? ⟨q1, 0, none⟩ = some (.slice (some ⟨b, 0, none⟩) n cap) ∧ W'.cell? ⟨q1, 1, none⟩ = some (.int .i64 (p3.at_ : Int)) ∧ W'.cell? ⟨q1, 2, none⟩ = some (.int .i64 p3.bad) ∧ W'.cell? ⟨q4, 0, none⟩ = some (.string (str nv)) ∧ W'.cell? ⟨q4, 1, none⟩ = some (.string (str nl)) ∧ W'.cell? ⟨q4, 2, none⟩ = some (.int .i64 0) ∧ W'.cell? ⟨q4, 3, none⟩ = some (.int .i64 0) ∧ W'.cell? ⟨q4, 4, none⟩ = some (.int .i64 0) ∧ W'.cell? ⟨q4, 5, none⟩ = some (.string ⟨#[]⟩))) (by kernel_rfl) ?_ (fun hHeld => ?_); (focus ((try dsimp only); (first | exact hsk.out _ _ hp.out rfl rfl | exact hsk.out _ _ hp.out.drew rfl rfl); done))
      (refine take_t (i := 0) (d := 55) (oi := _) (v := ?_) rfl rfl (by kernel_rfl) (by kernel_rfl) (by kernel_rfl) (by rfl) ?_ (by assumption) ?_; rotate_left; (focus (intro w0 hSw; (try dsimp only at hSw); go_simp; (try with_reducible rfl); done)); try simp only [Act.put, List.setIfInBounds_toArray, List.set_cons_zero, List.set_cons_succ]); (refine take_t (i := 1) (d := 56) (oi := _) (v := ?_) rfl rfl (by kernel_rfl) (by kernel_rfl) (by kernel_rfl) (by rfl) ?_ (by assumption) ?_; rotate_left; (focus (intro w0 hSw; (try dsimp only at hSw); go_simp; (try with_reducible rfl); done)); try simp only [Act.put, List.setIfInBounds_toArray, List.set_cons_zero, List.set_cons_succ]); (refine take_t (i := 5) (d := 60) (oi := _) (v := ?_) rfl rfl (by kernel_rfl) (by kernel_rfl) (by kernel_rfl) (by rfl) ?_ (by assumption) ?_; rotate_left; (focus (intro w0 hSw; (try dsimp only at hSw); go_simp; (try with_reducible rfl); done)); try simp only [Act.put, List.setIfInBounds_toArray, List.set_cons_zero, List.set_cons_succ]); (refine wpAnyH_ready (rs := [2]) (by kernel_rfl) (by simp) ?_; refine AllReadyH.cons (o := _) rfl (fun K' hK => ?_) AllReadyH.nil; go_simp; ((go_at_call 32; (with_reducible refine (kc4.out _ hp.out.bel).mono ?_); rintro e we ⟨rfl, be⟩; replace hp := Lib.hid (hp.out.below be); clear be; skip)); (try dsimp only); refine hK.out _ _ ?_ (fun hHeld2 => ?_); (focus ((try dsimp only); (first | exact hsk.out _ _ hp.out rfl rfl | exact hsk.out _ _ hp.out.drew rfl rfl); done)); clear hK K'; clear hHeld; have hHeld := hHeld2; clear hHeld2; try simp only [Act.put, List.setIfInBounds_toArray, List.set_cons_zero, List.set_cons_succ]); (refine take_t (i := 3) (d := 58) (oi := _) (v := ?_) rfl rfl (by kernel_rfl) (by kernel_rfl) (by kernel_rfl) (by rfl) ?_ (by assumption) ?_; rotate_left; (focus (intro w0 hSw; (try dsimp only at hSw); go_simp; (try with_reducible rfl); done)); try simp only [Act.put, List.setIfInBounds_toArray, List.set_cons_zero, List.set_cons_succ]); (refine wpAnyH_ready (rs := [4]) (by kernel_rfl) (by simp) ?_; refine AllReadyH.cons (o := _) rfl (fun K' hK => ?_) AllReadyH.nil; go_simp; ((go_at_call 31; (with_reducible refine (kc5.out _).mono ?_); rintro e wf ⟨rfl, bf⟩; replace hp := Lib.hid (hp.out.below bf); clear bf; have y0 := hp.out.cell (i := 3) rfl 0; have y1 := hp.out.cell (i := 3) rfl 1; have y2 := hp.out.cell (i := 3) rfl 2; simp at y0 y1 y2; have g0 := hp.out.free (i := 3) rfl 0; have g1 := hp.out.free (i := 3) rfl 1; have g2 := hp.out.free (i := 3) rfl 2)); (try dsimp only); refine hK.out _ _ ?_ (fun hHeld2 => ?_); (focus ((try dsimp only); (first | exact hsk.out _ _ hp.out rfl rfl | exact hsk.out _ _ hp.out.drew rfl rfl); done)); clear hK K'; clear hHeld; have hHeld := hHeld2; clear hHeld2; try simp only [Act.put, List.setIfInBounds_toArray, List.set_cons_zero, List.set_cons_succ]); (refine wpAnyH_ready (rs := [6]) (by kernel_rfl) (by simp) ?_; refine AllReadyH.cons (o := _) rfl (fun K' hK => ?_) AllReadyH.nil; go_simp; (replace hp := Lib.hid (((hp.out.put (i := 3) rfl 0 (.slice (some ⟨b, 0, none⟩) n cap)).put (i := 3) rfl 1 (.int .i64 (p6.at_ : Int))).put (i := 3) rfl 2 (.int .i64 p6.bad)); clear y0 y1 y2 g0 g1 g2); (try dsimp only); refine hK.out _ _ ?_ (fun hHeld2 => ?_); (focus ((try dsimp only); (first | exact hsk.out _ _ hp.out rfl rfl | exact hsk.out _ _ hp.out.drew rfl rfl); done)); clear hK K'; clear hHeld; have hHeld := hHeld2; clear hHeld2; try simp only [Act.put, List.setIfInBounds_toArray, List.set_cons_zero, List.set_cons_succ])
      generalize World.setCell (World.setCell (World.setCell _ _ _) _ _) _ _ = W9 at hp hHeld ⊢
      have v0 := hp.out.cell (i := 2) rfl 0; have v1 := hp.out.cell (i := 2) rfl 1; have v2 := hp.out.cell (i := 2) rfl 2; have v3 := hp.out.cell (i := 2) rfl 3; have v4 := hp.out.cell (i := 2) rfl 4; have v5 := hp.out.cell (i := 2) rfl 5; simp at v0 v1 v2 v3 v4 v5; have u0 := hp.out.free (i := 2) rfl 0; have u1 := hp.out.free (i := 2) rfl 1; have u2 := hp.out.free (i := 2) rfl 2; have u3 := hp.out.free (i := 2) rfl 3; have u4 := hp.out.free (i := 2) rfl 4; have u5 := hp.out.free (i := 2) rfl 5
      (refine wpAnyH_ready (rs := [7]) (by kernel_rfl) (by simp) ?_; refine AllReadyH.cons (o := _) rfl (fun K' hK => ?_) AllReadyH.nil; go_simp; (replace hp := Lib.hid ((((((hp.out.put (i := 2) rfl 0 (.string (str nv))).put (i := 2) rfl 1 (.string (str nl))).put (i := 2) rfl 2 (.int .i64 0)).put (i := 2) rfl 3 (.int .i64 0)).put (i := 2) rfl 4 (.int .i64 0)).put (i := 2) rfl 5 (.string ⟨#[]⟩))); (try dsimp only); refine hK.out _ _ ?_ (fun hHeld2 => ?_); (focus ((try dsimp only); (first | exact hsk.out _ _ hp.out rfl rfl | exact hsk.out _ _ hp.out.drew rfl rfl); done)); clear hK K'; clear hHeld; have hHeld := hHeld2; clear hHeld2; try simp only [Act.put, List.setIfInBounds_toArray, List.set_cons_zero, List.set_cons_succ])
      refine wpAnyH_done (by kernel_rfl) ?_ _; refine NoPanic.normal ?_
      go_wp2
      have hpg := hp.out
      exact bodyPost_ret (v := .tuple #[.agg #[.slice (some ⟨b, 0, none⟩) n cap, .int .i64 (p6.at_ : Int), .int .i64 p6.bad], .agg #[.string (str nv), .string (str nl), .int .i64 0, .int .i64 0, .int .i64 0, .string ⟨#[]⟩]]) (rcond_results rfl _ _ q2 q3 #[.slice (some ⟨b, 0, none⟩) n cap, .int .i64 (p6.at_ : Int), .int .i64 p6.bad] #[.string (str nv), .string (str nl), .int .i64 0, .int .i64 0, .int .i64 0, .string ⟨#[]⟩] rfl rfl (hpg.box (i := 3) rfl) (hpg.box (i := 2) rfl) rfl rfl) rfl ⟨rfl, hpg.bel⟩
end Go.Proofs.YtgbkpkioijbgoaaDoor.qry
