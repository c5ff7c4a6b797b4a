/- The document's parser of questions (lodestoneref33.P): an edge. No condition but where the words lie. -/
import Derived.Test.YtgbkpkioijbgoaaDoorRqN
import Derived.Deep.CutBlock
namespace Go.Proofs.YtgbkpkioijbgoaaDoor.qry
open Go.RowKit
open lex (W)
open names (Nm mayN)
attribute [local go_sem ↓] Go.wp_at_zero Go.wp_at_succ
attribute [local go_sem] str_size str_bl
set_option linter.unusedVariables false
set_option linter.unusedSimpArgs false
set_option maxRecDepth 100000

theorem redge_results {fn : Func} (hfn : fn.results = #[.cell 2 76, .cell 3 84]) (tmps : Array Value) (W' : World) (g d : Nat) (cs ds : Array Value) (h2 : tmps.getD 2 undef = .pointer (some ⟨g, 0, none⟩)) (h3 : tmps.getD 3 undef = .pointer (some ⟨d, 0, none⟩)) (hg : W'.heap[g]? = some (.cells cs 76 (0, 0))) (hd : W'.heap[d]? = some (.cells ds 84 (0, 0))) (hi : cs.size = 3) (hj : ds.size = 3) :
    (results fn tmps).run Tryd.prog W' = .ok (.tuple #[.agg cs, .agg ds]) W' := by
  have h2' : tmps[2]?.getD undef = .pointer (some ⟨g, 0, none⟩) := by simpa using h2
  have h3' : tmps[3]?.getD undef = .pointer (some ⟨d, 0, none⟩) := by simpa using h3
  have hs : (Tryd.prog.info? 76).map (·.size) = some cs.size := by rw [hi]; kernel_rfl
  have ht : (Tryd.prog.info? 84).map (·.size) = some ds.size := by rw [hj]; kernel_rfl
  simp [results, hfn, h2', h3', asAddr, run_loadVar_row W' g 76 76 cs (0, 0) _ hg Tryd.underlying76 rfl hs, run_loadVar_row W' d 84 84 ds (0, 0) _ hd Tryd.underlying84 rfl ht]
set_option maxHeartbeats 16000000 in
theorem redge_any {ws : List W} {b : Nat} {p : Rp} {w : World} (h : Rz ws b p w) (cap : Nat) :
    Calls Tryd.prog 28 #[rpA b cap ws.length p] w fun e w' => e = .returned (.tuple #[rpA b cap ws.length (redge ws p).1, .agg #[.string (str (redge ws p).2.var), .string (str (redge ws p).2.typ), .bool (redge ws p).2.out]]) ∧ Below w.heap.size w w' := by
  have hzz : ∀ (q : Rp), q.at_ < ws.length → ∀ W, Below w.heap.size w W → Rz ws b q W := fun q hq W hb => ⟨h.wf, h.at_.below hb, hq⟩
  have hwl := h.wf.len
  have lp := h.lt
  clear h
  obtain ⟨R, hR⟩ : ∃ R, R = redge ws p := ⟨_, rfl⟩
  rw [← hR]
  unfold redge at hR
  simp only at hR
  have kc0 := fun W (hb : Below w.heap.size w W) => ris_any (hzz p lp W hb) cap 4 4 rfl [60, 45]
  have ee : str [60, 45] = (⟨#[60, 45]⟩ : ByteArray) := rfl
  rw [ee] at kc0
  clear ee
  obtain ⟨m0, hxm0⟩ : ∃ r, r = ris ws 4 [60, 45] p := ⟨_, rfl⟩
  rw [← hxm0] at kc0 hR
  clear hxm0
  obtain ⟨fs, hfs⟩ : ∃ r : Nm, r = if !m0 then [45] else [60, 45] := ⟨_, rfl⟩
  obtain ⟨ls, hls⟩ : ∃ r : Nm, r = if !m0 then [45, 62] else [45] := ⟨_, rfl⟩
  rw [← hfs, ← hls] at hR
  have kc1 := fun W (hb : Below w.heap.size w W) => rmust_any (hzz p lp W hb) cap 4 4 rfl fs
  have lp0 : (rmust ws 4 fs p).at_ < ws.length := rmust_lt lp
  obtain ⟨p0, hx⟩ : ∃ r, r = rmust ws 4 fs p := ⟨_, rfl⟩
  rw [← hx] at kc1 lp0 hR
  clear hx
  have kc2 := fun W (hb : Below w.heap.size w W) => rmust_any (hzz p0 lp0 W hb) cap 4 4 rfl [91]
  have ee : str [91] = (⟨#[91]⟩ : ByteArray) := rfl
  rw [ee] at kc2
  clear ee
  have lp1 : (rmust ws 4 [91] p0).at_ < ws.length := rmust_lt lp0
  obtain ⟨p1, hx⟩ : ∃ r, r = rmust ws 4 [91] p0 := ⟨_, rfl⟩
  rw [← hx] at kc2 lp1 hR
  clear hx
  have kc3 := fun W (hb : Below w.heap.size w W) => rname_any (hzz p1 lp1 W hb) cap false
  have lp2 : (rname ws false p1).1.at_ < ws.length := rname_lt lp1
  obtain ⟨⟨p2, nv⟩, hx⟩ : ∃ r, r = rname ws false p1 := ⟨_, rfl⟩
  rw [← hx] at kc3 lp2 hR
  simp only at kc3 lp2 hR
  clear hx
  have kc4 := fun W (hb : Below w.heap.size w W) => ris_any (hzz p2 lp2 W hb) cap 4 4 rfl [58]
  have ee : str [58] = (⟨#[58]⟩ : ByteArray) := rfl
  rw [ee] at kc4
  clear ee
  obtain ⟨m3, hxm3⟩ : ∃ r, r = ris ws 4 [58] p2 := ⟨_, rfl⟩
  rw [← hxm3] at kc4
  have lp4 : (rlab ws p2).1.at_ < ws.length := rlab_lt lp2
  obtain ⟨⟨p4, nl⟩, hlab⟩ : ∃ r, r = rlab ws p2 := ⟨_, rfl⟩
  rw [← hlab] at hR lp4
  simp only at hR lp4
  unfold rlab at hlab
  rw [← hxm3] at hlab
  clear hxm3
  have kc7 := fun W (hb : Below w.heap.size w W) => rmust_any (hzz p4 lp4 W hb) cap 4 4 rfl [93]
  have ee : str [93] = (⟨#[93]⟩ : ByteArray) := rfl
  rw [ee] at kc7
  clear ee
  have lp6 : (rmust ws 4 [93] p4).at_ < ws.length := rmust_lt lp4
  obtain ⟨p6, hx⟩ : ∃ r, r = rmust ws 4 [93] p4 := ⟨_, rfl⟩
  rw [← hx] at kc7 lp6 hR
  clear hx
  have kc8 := fun W (hb : Below w.heap.size w W) => rmust_any (hzz p6 lp6 W hb) cap 4 4 rfl ls
  have lp7 : (rmust ws 4 ls p6).at_ < ws.length := rmust_lt lp6
  obtain ⟨p7, hx⟩ : ∃ r, r = rmust ws 4 ls p6 := ⟨_, rfl⟩
  rw [← hx] at kc8 lp7 hR
  clear hx
  obtain ⟨n, hn⟩ : ∃ n, n = ws.length := ⟨_, rfl⟩
  simp only [rpA] at kc0 kc1 kc2 kc3 kc4 kc7 kc8 ⊢
  rw [← hn] at kc0 kc1 kc2 kc3 kc4 kc7 kc8 ⊢
  replace kc0 := Lib.hid kc0; replace kc1 := Lib.hid kc1; replace kc2 := Lib.hid kc2; replace kc3 := Lib.hid kc3; replace kc4 := Lib.hid kc4; replace kc7 := Lib.hid kc7; replace kc8 := Lib.hid kc8
  replace hn := Lib.hid hn; replace hzz := Lib.hid hzz; replace hR := Lib.hid hR; replace hlab := Lib.hid hlab; replace hwl := Lib.hid hwl; replace lp4 := Lib.hid lp4; replace lp2 := Lib.hid lp2; replace hfs := Lib.hid hfs; replace hls := Lib.hid hls
  clear lp lp0 lp1 lp6 lp7
  have hp := (((Hp.none_ w []).alloc #[.slice (some ⟨b, 0, none⟩) n cap, .int .i64 (p.at_ : Int), .int .i64 p.bad] 76).alloc #[.slice none 0 0, .int .i64 0, .int .i64 0] 76).alloc #[.string ⟨#[]⟩, .string ⟨#[]⟩, .bool false] 84
  have hsz : ∀ (u : World) o, (u.alloc o).heap.size = u.heap.size + 1 := fun u o => by simp
  rw [hsz, hsz] at hp
  clear hsz
  replace hp := Lib.hid hp
  go_enter Tryd.func28, Tryd.ntmps28
  go_upto_region 1 with fail
  generalize ((w.alloc _).alloc _).alloc _ = W1 at hp ⊢
  generalize w.heap.size + 1 + 1 = q3 at hp ⊢
  generalize w.heap.size + 1 = q2 at hp ⊢
  generalize w.heap.size = q1 at hp ⊢
  have c0 := hp.out.cell (i := 2) rfl 0; have c1 := hp.out.cell (i := 2) rfl 1; have c2 := hp.out.cell (i := 2) rfl 2; simp at c0 c1 c2
  go_upto_region 2 with (go_at_call 27; (with_reducible refine (kc0.out _ hp.out.bel).mono ?_); rintro e w0 ⟨rfl, b0⟩; replace hp := Lib.hid (hp.out.below b0); clear b0 c0 c1 c2; skip)
  replace hp := Lib.hid (hp.out.alloc #[.string ⟨#[]⟩, .string ⟨#[]⟩, .bool (!m0)] 84)
  generalize w0.alloc _ = W2 at hp ⊢
  generalize w0.heap.size = q4 at hp ⊢
  have n14 : ¬ q1 = q4 := hp.out.ne (i := 3) (j := 0) rfl rfl (by decide)
  have n41 : ¬ q4 = q1 := fun e => n14 e.symm
  have c0 := hp.out.cell (i := 0) rfl 0; have c1 := hp.out.cell (i := 0) rfl 1; have c2 := hp.out.cell (i := 0) rfl 2; simp at c0 c1 c2
  go_upto_if 13 with fail
  clear c0 c1 c2
  go_cut [5, 6] from 14 to 14 (fun s5 s6 wx => s5 = .string (str fs) ∧ s6 = .string (str ls) ∧ Hp w [] (.box q4 #[.string ⟨#[]⟩, .string ⟨#[]⟩, .bool (!m0)] 84 :: .box q3 #[.string ⟨#[]⟩, .string ⟨#[]⟩, .bool false] 84 :: .box q2 #[.slice none 0 0, .int .i64 0, .int .i64 0] 76 :: .box q1 #[.slice (some ⟨b, 0, none⟩) n cap, .int .i64 (p.at_ : Int), .int .i64 p.bad] 76 :: []) wx)
  case first =>
    cases m0 with
    | false =>
      have hf := hfs.out; have hl := hls.out; simp at hf hl; subst hf hl
      go_wp2
      go_meet
      exact ⟨rfl, rfl, hp.out⟩
    | true =>
      have hf := hfs.out; have hl := hls.out; simp at hf hl; subst hf hl
      go_wp2
      go_meet
      exact ⟨rfl, rfl, hp.out⟩
  case rest =>
    clear hp kc0 hfs hls
    obtain ⟨rfl, rfl, hp⟩ := hcut
    replace hp := Lib.hid hp
    have c0 := hp.out.cell (i := 3) rfl 0; have c1 := hp.out.cell (i := 3) rfl 1; have c2 := hp.out.cell (i := 3) rfl 2; simp at c0 c1 c2
    go_upto_region 6 with (first | (go_at_call 25; (with_reducible refine (kc1.out _ hp.out.bel).mono ?_); rintro e w1 ⟨rfl, b1⟩; replace hp := Lib.hid (hp.out.below b1); clear b1 c0 c1 c2; skip) | (go_at_call 25; (with_reducible refine (kc2.out _ hp.out.bel).mono ?_); rintro e w2 ⟨rfl, b2⟩; replace hp := Lib.hid (hp.out.below b2); clear b2; have c0 := hp.out.cell (i := 3) rfl 0; have c1 := hp.out.cell (i := 3) rfl 1; have c2 := hp.out.cell (i := 3) rfl 2; simp at c0 c1 c2; have e0 := hp.out.free (i := 3) rfl 0; have e1 := hp.out.free (i := 3) rfl 1; have e2 := hp.out.free (i := 3) rfl 2))
    replace hp := Lib.hid (((hp.out.put (i := 3) rfl 0 (.slice (some ⟨b, 0, none⟩) n cap)).put (i := 3) rfl 1 (.int .i64 (p1.at_ : Int))).put (i := 3) rfl 2 (.int .i64 p1.bad))
    clear c0 c1 c2 e0 e1 e2
    generalize World.setCell (World.setCell (World.setCell _ _ _) _ _) _ _ = W3 at hp ⊢
    have c0 := hp.out.cell (i := 3) rfl 0; have c1 := hp.out.cell (i := 3) rfl 1; have c2 := hp.out.cell (i := 3) rfl 2; simp at c0 c1 c2
    go_upto_region 7 with (go_at_call 33; (with_reducible refine (kc3.out _ hp.out.bel).mono ?_); rintro e wb ⟨rfl, bb⟩; replace hp := Lib.hid (hp.out.below bb); clear bb c0 c1 c2; have c0 := hp.out.cell (i := 3) rfl 0; have c1 := hp.out.cell (i := 3) rfl 1; have c2 := hp.out.cell (i := 3) rfl 2; simp at c0 c1 c2; have e0 := hp.out.free (i := 3) rfl 0; have e1 := hp.out.free (i := 3) rfl 1; have e2 := hp.out.free (i := 3) rfl 2; have y0 := hp.out.cell (i := 0) rfl 0; simp at y0; have f0 := hp.out.free (i := 0) rfl 0)
    replace hp := Lib.hid ((((hp.out.put (i := 3) rfl 0 (.slice (some ⟨b, 0, none⟩) n cap)).put (i := 3) rfl 1 (.int .i64 (p2.at_ : Int))).put (i := 3) rfl 2 (.int .i64 p2.bad)).put (i := 0) rfl 0 (.string (str nv)))
    clear c0 c1 c2 e0 e1 e2 y0 f0
    generalize World.setCell (World.setCell (World.setCell (World.setCell _ _ _) _ _) _ _) _ _ = W4 at hp ⊢
    replace hp := Lib.hid (show Hp w [] (.box q4 #[.string (str nv), .string ⟨#[]⟩, .bool (!m0)] 84 :: .box q3 #[.string ⟨#[]⟩, .string ⟨#[]⟩, .bool false] 84 :: .box q2 #[.slice none 0 0, .int .i64 0, .int .i64 0] 76 :: .box q1 #[.slice (some ⟨b, 0, none⟩) n cap, .int .i64 (p2.at_ : Int), .int .i64 p2.bad] 76 :: []) W4 from hp.out)
    have c0 := hp.out.cell (i := 3) rfl 0; have c1 := hp.out.cell (i := 3) rfl 1; have c2 := hp.out.cell (i := 3) rfl 2; simp at c0 c1 c2
    go_upto_if 25 with (go_at_call 27; (with_reducible refine (kc4.out _ hp.out.bel).mono ?_); rintro e wc ⟨rfl, bc⟩; replace hp := Lib.hid (hp.out.below bc); clear bc c0 c1 c2; skip)
    go_cut [] from 26 to 32 (fun wx => Hp w [] (.box q4 #[.string (str nv), .string (str nl), .bool (!m0)] 84 :: .box q3 #[.string ⟨#[]⟩, .string ⟨#[]⟩, .bool false] 84 :: .box q2 #[.slice none 0 0, .int .i64 0, .int .i64 0] 76 :: .box q1 #[.slice (some ⟨b, 0, none⟩) n cap, .int .i64 (p4.at_ : Int), .int .i64 p4.bad] 76 :: []) wx)
    case first =>
      cases m3 with
      | false =>
        have hf : (p4, nl) = (p2, []) := hlab.out
        injection hf with h1 h2
        subst h1 h2
        clear hlab
        go_wp2
        go_meet
        exact hp.out
      | true =>
        have hf : (p4, nl) = rname ws true (rnext ws p2) := hlab.out
        clear hlab
        have lp2 := lp2.out; have hwl := hwl.out; have hzz := hzz.out; clear lp4
        have kc5 := fun W => rnext_any ws b cap p2 W lp2 hwl
        have lp3 : (rnext ws p2).at_ < ws.length := rnext_lt lp2
        obtain ⟨p3, hx⟩ : ∃ r, r = rnext ws p2 := ⟨_, rfl⟩
        rw [← hx] at kc5 lp3 hf
        clear hx
        have kc6 := fun W (hb : Below w.heap.size w W) => rname_any (hzz p3 lp3 W hb) cap true
        have lp4b : (rname ws true p3).1.at_ < ws.length := rname_lt lp3
        obtain ⟨⟨p4b, nlb⟩, hx⟩ : ∃ r, r = rname ws true p3 := ⟨_, rfl⟩
        rw [← hx] at kc6 lp4b hf
        simp only at kc6 lp4b hf
        clear hx
        injection hf with h1 h2
        subst h1 h2
        simp only [rpA] at kc5 kc6
        rw [← hn.out] at kc5 kc6
        replace kc5 := Lib.hid kc5; replace kc6 := Lib.hid kc6
        clear lp2 hwl lp3 lp4b hzz
        have c0 := hp.out.cell (i := 3) rfl 0; have c1 := hp.out.cell (i := 3) rfl 1; have c2 := hp.out.cell (i := 3) rfl 2; simp at c0 c1 c2
        go_wp2_with (first | (go_at_call 29; (with_reducible refine (kc5.out _).mono ?_); rintro e wd ⟨rfl, bd⟩; replace hp := Lib.hid (hp.out.below bd); clear bd c0 c1 c2; skip) | (go_at_call 33; (with_reducible refine (kc6.out _ hp.out.bel).mono ?_); rintro e wf ⟨rfl, bf⟩; replace hp := Lib.hid (hp.out.below bf); clear bf; have c0 := hp.out.cell (i := 3) rfl 0; have c1 := hp.out.cell (i := 3) rfl 1; have c2 := hp.out.cell (i := 3) rfl 2; simp at c0 c1 c2; have e0 := hp.out.free (i := 3) rfl 0; have e1 := hp.out.free (i := 3) rfl 1; have e2 := hp.out.free (i := 3) rfl 2; have y0 := hp.out.cell (i := 0) rfl 0; have y1 := hp.out.cell (i := 0) rfl 1; simp at y0 y1; have f0 := hp.out.free (i := 0) rfl 0; have f1 := hp.out.free (i := 0) rfl 1))
        go_meet
        exact ((((hp.out.put (i := 3) rfl 0 (.slice (some ⟨b, 0, none⟩) n cap)).put (i := 3) rfl 1 (.int .i64 (p4.at_ : Int))).put (i := 3) rfl 2 (.int .i64 p4.bad)).put (i := 0) rfl 1 (.string (str nl)))
    case rest =>
      clear hp hlab kc1 kc2 kc3 kc4 lp2
      have hp := Lib.hid hcut
      clear hcut
      have hsk := Lib.hid (show ∀ (rs : List Rs) (W' : World), Hp w [] rs W' → rs[3]? = some (.box q1 #[.slice (some ⟨b, 0, none⟩) n cap, .int .i64 (p4.at_ : Int), .int .i64 p4.bad] 76) → rs[0]? = some (.box q4 #[.string (str nv), .string (str nl), .bool (!m0)] 84) → (fun W' => W'.cell? ⟨q1, 0, none⟩ = some (.slice (some ⟨b, 0, none⟩) n cap) ∧ W'.cell? ⟨q1, 1, none⟩ = some (.int .i64 (p4.at_ : Int)) ∧ W'.cell? ⟨q1, 2, none⟩ = some (.int .i64 p4.bad) ∧ W'.cell? ⟨q4, 0, none⟩ = some (.string (str nv)) ∧ W'.cell? ⟨q4, 1, none⟩ = some (.string (str nl)) ∧ W'.cell? ⟨q4, 2, none⟩ = some (.bool (!m0))) W' from fun rs W' h hi hj => ⟨(h.cell hi 0).trans rfl, (h.cell hi 1).trans rfl, (h.cell hi 2).trans rfl, (h.cell hj 0).trans rfl, (h.cell hj 1).trans rfl, (h.cell hj 2).trans rfl⟩)
      go_upto_region 9 with fail
      replace hp := Lib.hid hp.out.drew
      refine wp_region_noPanic ?_; refine wp_region_held_drew (S := (fun W' => W'.cell? ⟨q1, 0, none⟩ = some (.slice (some ⟨b, 0, none⟩) n cap) ∧ W'.cell? ⟨q1, 1, none⟩ = some (.int .i64 (p4.at_ : Int)) ∧ W'.cell? ⟨q1, 2, none⟩ = some (.int .i64 p4.bad) ∧ W'.cell? ⟨q4, 0, none⟩ = some (.string (str nv)) ∧ W'.cell? ⟨q4, 1, none⟩ = some (.string (str nl)) ∧ W'.cell? ⟨q4, 2, none⟩ = some (.bool (!m0)))) (by kernel_rfl) ?_ (fun hHeld => ?_); (focus ((try dsimp only); (first | exact hsk.out _ _ hp.out rfl rfl | exact hsk.out _ _ hp.out.drew rfl rfl); done))
      (refine take_t (i := 0) (d := 33) (oi := _) (v := ?_) rfl rfl (by kernel_rfl) (by kernel_rfl) (by kernel_rfl) (by rfl) ?_ (by assumption) ?_; rotate_left; (focus (intro w0 hSw; (try dsimp only at hSw); go_simp; (try with_reducible rfl); done)); try simp only [Act.put, List.setIfInBounds_toArray, List.set_cons_zero, List.set_cons_succ]); (refine take_t (i := 2) (d := 35) (oi := _) (v := ?_) rfl rfl (by kernel_rfl) (by kernel_rfl) (by kernel_rfl) (by rfl) ?_ (by assumption) ?_; rotate_left; (focus (intro w0 hSw; (try dsimp only at hSw); go_simp; (try with_reducible rfl); done)); try simp only [Act.put, List.setIfInBounds_toArray, List.set_cons_zero, List.set_cons_succ]); (refine take_t (i := 4) (d := 37) (oi := _) (v := ?_) rfl rfl (by kernel_rfl) (by kernel_rfl) (by kernel_rfl) (by rfl) ?_ (by assumption) ?_; rotate_left; (focus (intro w0 hSw; (try dsimp only at hSw); go_simp; (try with_reducible rfl); done)); try simp only [Act.put, List.setIfInBounds_toArray, List.set_cons_zero, List.set_cons_succ]); (refine wpAnyH_ready (rs := [1]) (by kernel_rfl) (by simp) ?_; refine AllReadyH.cons (o := _) rfl (fun K' hK => ?_) AllReadyH.nil; go_simp; ((go_at_call 25; (with_reducible refine (kc7.out _ hp.out.bel).mono ?_); rintro e wj ⟨rfl, bj⟩; replace hp := Lib.hid (hp.out.below bj); clear bj; skip)); (try dsimp only); refine hK.out _ _ ?_ (fun hHeld2 => ?_); (focus ((try dsimp only); (first | exact hsk.out _ _ hp.out rfl rfl | exact hsk.out _ _ hp.out.drew rfl rfl); done)); clear hK K'; clear hHeld; have hHeld := hHeld2; clear hHeld2; try simp only [Act.put, List.setIfInBounds_toArray, List.set_cons_zero, List.set_cons_succ]); (refine wpAnyH_ready (rs := [3]) (by kernel_rfl) (by simp) ?_; refine AllReadyH.cons (o := _) rfl (fun K' hK => ?_) AllReadyH.nil; go_simp; ((go_at_call 25; (with_reducible refine (kc8.out _ hp.out.bel).mono ?_); rintro e wk ⟨rfl, bk⟩; replace hp := Lib.hid (hp.out.below bk); clear bk; have y0 := hp.out.cell (i := 2) rfl 0; have y1 := hp.out.cell (i := 2) rfl 1; have y2 := hp.out.cell (i := 2) rfl 2; simp at y0 y1 y2; have g0 := hp.out.free (i := 2) rfl 0; have g1 := hp.out.free (i := 2) rfl 1; have g2 := hp.out.free (i := 2) rfl 2)); (try dsimp only); refine hK.out _ _ ?_ (fun hHeld2 => ?_); (focus ((try dsimp only); (first | exact hsk.out _ _ hp.out rfl rfl | exact hsk.out _ _ hp.out.drew rfl rfl); done)); clear hK K'; clear hHeld; have hHeld := hHeld2; clear hHeld2; try simp only [Act.put, List.setIfInBounds_toArray, List.set_cons_zero, List.set_cons_succ]); (refine wpAnyH_ready (rs := [5]) (by kernel_rfl) (by simp) ?_; refine AllReadyH.cons (o := _) rfl (fun K' hK => ?_) AllReadyH.nil; go_simp; (replace hp := Lib.hid (((hp.out.put (i := 2) rfl 0 (.slice (some ⟨b, 0, none⟩) n cap)).put (i := 2) rfl 1 (.int .i64 (p7.at_ : Int))).put (i := 2) rfl 2 (.int .i64 p7.bad)); clear y0 y1 y2 g0 g1 g2); (try dsimp only); refine hK.out _ _ ?_ (fun hHeld2 => ?_); (focus ((try dsimp only); (first | exact hsk.out _ _ hp.out rfl rfl | exact hsk.out _ _ hp.out.drew rfl rfl); done)); clear hK K'; clear hHeld; have hHeld := hHeld2; clear hHeld2; try simp only [Act.put, List.setIfInBounds_toArray, List.set_cons_zero, List.set_cons_succ])
      generalize World.setCell (World.setCell (World.setCell _ _ _) _ _) _ _ = W8 at hp hHeld ⊢
      have v0 := hp.out.cell (i := 1) rfl 0; have v1 := hp.out.cell (i := 1) rfl 1; have v2 := hp.out.cell (i := 1) rfl 2; simp at v0 v1 v2; have u0 := hp.out.free (i := 1) rfl 0; have u1 := hp.out.free (i := 1) rfl 1; have u2 := hp.out.free (i := 1) rfl 2
      (refine wpAnyH_ready (rs := [6]) (by kernel_rfl) (by simp) ?_; refine AllReadyH.cons (o := _) rfl (fun K' hK => ?_) AllReadyH.nil; go_simp; (replace hp := Lib.hid (((hp.out.put (i := 1) rfl 0 (.string (str nv))).put (i := 1) rfl 1 (.string (str nl))).put (i := 1) rfl 2 (.bool (!m0)))); (try dsimp only); refine hK.out _ _ ?_ (fun hHeld2 => ?_); (focus ((try dsimp only); (first | exact hsk.out _ _ hp.out rfl rfl | exact hsk.out _ _ hp.out.drew rfl rfl); done)); clear hK K'; clear hHeld; have hHeld := hHeld2; clear hHeld2; try simp only [Act.put, List.setIfInBounds_toArray, List.set_cons_zero, List.set_cons_succ])
      refine wpAnyH_done (by kernel_rfl) ?_ _; refine NoPanic.normal ?_
      go_wp2
      have hpg := hp.out
      have hRf := hR.out
      subst hRf
      exact bodyPost_ret (v := .tuple #[.agg #[.slice (some ⟨b, 0, none⟩) n cap, .int .i64 (p7.at_ : Int), .int .i64 p7.bad], .agg #[.string (str nv), .string (str nl), .bool (!m0)]]) (redge_results rfl _ _ q2 q3 #[.slice (some ⟨b, 0, none⟩) n cap, .int .i64 (p7.at_ : Int), .int .i64 p7.bad] #[.string (str nv), .string (str nl), .bool (!m0)] rfl rfl (hpg.box (i := 2) rfl) (hpg.box (i := 1) rfl) rfl rfl) rfl ⟨rfl, hpg.bel⟩
end Go.Proofs.YtgbkpkioijbgoaaDoor.qry
