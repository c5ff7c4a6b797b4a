/- The document's parser of questions (lodestoneref33.P): a node. No condition but where the words lie. -/
import Derived.Test.YtgbkpkioijbgoaaDoorRqN
import Derived.Deep.CutBlock
namespace Go.Proofs.YtgbkpkioijbgoaaDoor.qry
open Go.RowKit
open lex (W)
open names (Nm mayN)
attribute [local go_sem ↓] Go.wp_at_zero Go.wp_at_succ
attribute [local go_sem] str_size str_bl
set_option linter.unusedVariables false
set_option linter.unusedSimpArgs false
set_option maxRecDepth 100000

theorem rnode_results {fn : Func} (hfn : fn.results = #[.cell 2 76, .cell 3 79]) (tmps : Array Value) (W' : World) (g d : Nat) (cs ds : Array Value) (h2 : tmps.getD 2 undef = .pointer (some ⟨g, 0, none⟩)) (h3 : tmps.getD 3 undef = .pointer (some ⟨d, 0, none⟩)) (hg : W'.heap[g]? = some (.cells cs 76 (0, 0))) (hd : W'.heap[d]? = some (.cells ds 79 (0, 0))) (hi : cs.size = 3) (hj : ds.size = 3) :
    (results fn tmps).run Tryd.prog W' = .ok (.tuple #[.agg cs, .agg ds]) W' := by
  have h2' : tmps[2]?.getD undef = .pointer (some ⟨g, 0, none⟩) := by simpa using h2
  have h3' : tmps[3]?.getD undef = .pointer (some ⟨d, 0, none⟩) := by simpa using h3
  have hs : (Tryd.prog.info? 76).map (·.size) = some cs.size := by rw [hi]; kernel_rfl
  have ht : (Tryd.prog.info? 79).map (·.size) = some ds.size := by rw [hj]; kernel_rfl
  simp [results, hfn, h2', h3', asAddr, run_loadVar_row W' g 76 76 cs (0, 0) _ hg Tryd.underlying76 rfl hs, run_loadVar_row W' d 79 79 ds (0, 0) _ hd Tryd.underlying79 rfl ht]
set_option maxHeartbeats 16000000 in
theorem rnode_any {ws : List W} {b : Nat} {p : Rp} {w : World} (h : Rz ws b p w) (cap : Nat) :
    Calls Tryd.prog 26 #[rpA b cap ws.length p] w fun e w' => ∃ (ad : Option Addr) (cp : Nat), e = .returned (.tuple #[rpA b cap ws.length (rnode ws p).1, .agg #[.string (str (rnode ws p).2.var), .string (str (rnode ws p).2.label), .slice ad (rnode ws p).2.props.length cp]]) ∧ Hp w [] [.row 98 4 (.slice ad (rnode ws p).2.props.length cp) (rnode ws p).2.props.length ((rnode ws p).2.props.flatMap Pp.cells)] w' := by
  have hzz : ∀ (q : Rp), q.at_ < ws.length → ∀ W, Below w.heap.size w W → Rz ws b q W := fun q hq W hb => ⟨h.wf, h.at_.below hb, hq⟩
  have hwl := h.wf.len
  have hwf := h.wf
  have lp := h.lt
  clear h
  obtain ⟨R, hR⟩ : ∃ R, R = rnode ws p := ⟨_, rfl⟩
  rw [← hR]
  unfold rnode at hR
  simp only at hR
  have kc1 := fun W (hb : Below w.heap.size w W) => rmust_any (hzz p lp W hb) cap 4 4 rfl [40]
  have ee : str [40] = (⟨#[40]⟩ : ByteArray) := rfl
  rw [ee] at kc1
  clear ee
  have lp1 : (rmust ws 4 [40] p).at_ < ws.length := rmust_lt lp
  obtain ⟨p1, hx⟩ : ∃ r, r = rmust ws 4 [40] p := ⟨_, rfl⟩
  rw [← hx] at kc1 lp1 hR
  clear hx
  have kc2 := fun W (hb : Below w.heap.size w W) => rname_any (hzz p1 lp1 W hb) cap false
  have lp2 : (rname ws false p1).1.at_ < ws.length := rname_lt lp1
  obtain ⟨⟨p2, nv⟩, hx⟩ : ∃ r, r = rname ws false p1 := ⟨_, rfl⟩
  rw [← hx] at kc2 lp2 hR
  simp only at kc2 lp2 hR
  clear hx
  have kc3 := fun W (hb : Below w.heap.size w W) => ris_any (hzz p2 lp2 W hb) cap 4 4 rfl [58]
  have ee : str [58] = (⟨#[58]⟩ : ByteArray) := rfl
  rw [ee] at kc3
  clear ee
  obtain ⟨m3, hxm3⟩ : ∃ r, r = ris ws 4 [58] p2 := ⟨_, rfl⟩
  rw [← hxm3] at kc3
  have lp4 : (rlab ws p2).1.at_ < ws.length := rlab_lt lp2
  obtain ⟨⟨p4, nl⟩, hlab⟩ : ∃ r, r = rlab ws p2 := ⟨_, rfl⟩
  rw [← hlab] at hR lp4
  simp only at hR lp4
  unfold rlab at hlab
  rw [← hxm3] at hlab
  clear hxm3
  have kc5 := fun W (hb : Below w.heap.size w W) => ris_any (hzz p4 lp4 W hb) cap 4 4 rfl [123]
  have ee : str [123] = (⟨#[123]⟩ : ByteArray) := rfl
  rw [ee] at kc5
  clear ee
  obtain ⟨m5, hxm5⟩ : ∃ r, r = ris ws 4 [123] p4 := ⟨_, rfl⟩
  rw [← hxm5] at kc5
  have lp6 : (rprops ws p4).1.at_ < ws.length := rprops_lt lp4
  obtain ⟨⟨p6, ps⟩, hprs⟩ : ∃ r, r = rprops ws p4 := ⟨_, rfl⟩
  rw [← hprs] at hR lp6
  simp only at hR lp6
  unfold rprops at hprs
  have hxm5b := hxm5.symm
  rw [← hxm5] at hprs
  clear hxm5
  have kc7 := fun W (hb : Below w.heap.size w W) => rmust_any (hzz p6 lp6 W hb) cap 4 4 rfl [41]
  have ee : str [41] = (⟨#[41]⟩ : ByteArray) := rfl
  rw [ee] at kc7
  clear ee
  have lp7 : (rmust ws 4 [41] p6).at_ < ws.length := rmust_lt lp6
  obtain ⟨p7, hx⟩ : ∃ r, r = rmust ws 4 [41] p6 := ⟨_, rfl⟩
  rw [← hx] at kc7 lp7 hR
  clear hx
  obtain ⟨n, hn⟩ : ∃ n, n = ws.length := ⟨_, rfl⟩
  simp only [rpA] at kc1 kc2 kc3 kc5 kc7 ⊢
  rw [← hn] at kc1 kc2 kc3 kc5 kc7 ⊢
  replace kc1 := Lib.hid kc1; replace kc2 := Lib.hid kc2; replace kc3 := Lib.hid kc3; replace kc5 := Lib.hid kc5; replace kc7 := Lib.hid kc7
  replace hn := Lib.hid hn; replace hzz := Lib.hid hzz; replace hR := Lib.hid hR; replace hlab := Lib.hid hlab; replace hprs := Lib.hid hprs; replace hwf := Lib.hid hwf; replace hwl := Lib.hid hwl; replace lp4 := Lib.hid lp4; replace lp2 := Lib.hid lp2; replace lp6 := Lib.hid lp6; clear lp lp1 lp7
  have hp := (((((Hp.none_ w []).rowNil 98 4).alloc #[.slice (some ⟨b, 0, none⟩) n cap, .int .i64 (p.at_ : Int), .int .i64 p.bad] 76).alloc #[.slice none 0 0, .int .i64 0, .int .i64 0] 76).alloc #[.string ⟨#[]⟩, .string ⟨#[]⟩, .slice none 0 0] 79).alloc #[.string ⟨#[]⟩, .string ⟨#[]⟩, .slice none 0 0] 79
  have hsz : ∀ (u : World) o, (u.alloc o).heap.size = u.heap.size + 1 := fun u o => by simp
  rw [hsz, hsz, hsz] at hp
  clear hsz
  replace hp := Lib.hid hp
  go_enter Tryd.func26, Tryd.ntmps26
  go_upto_region 2 with fail
  generalize (((w.alloc _).alloc _).alloc _).alloc _ = W1 at hp ⊢
  generalize w.heap.size + 1 + 1 + 1 = q4 at hp ⊢
  generalize w.heap.size + 1 + 1 = q3 at hp ⊢
  generalize w.heap.size + 1 = q2 at hp ⊢
  generalize w.heap.size = q1 at hp ⊢
  have n14 : ¬ q1 = q4 := hp.out.ne (i := 3) (j := 0) rfl rfl (by decide)
  have n41 : ¬ q4 = q1 := fun e => n14 e.symm
  have c0 := hp.out.cell (i := 3) rfl 0; have c1 := hp.out.cell (i := 3) rfl 1; have c2 := hp.out.cell (i := 3) rfl 2; simp at c0 c1 c2
  go_upto_region 3 with (go_at_call 25; (with_reducible refine (kc1.out _ hp.out.bel).mono ?_); rintro e wa ⟨rfl, ba⟩; replace hp := Lib.hid (hp.out.below ba); clear ba c0 c1 c2; have c0 := hp.out.cell (i := 3) rfl 0; have c1 := hp.out.cell (i := 3) rfl 1; have c2 := hp.out.cell (i := 3) rfl 2; simp at c0 c1 c2; have e0 := hp.out.free (i := 3) rfl 0; have e1 := hp.out.free (i := 3) rfl 1; have e2 := hp.out.free (i := 3) rfl 2)
  replace hp := Lib.hid (((hp.out.put (i := 3) rfl 0 (.slice (some ⟨b, 0, none⟩) n cap)).put (i := 3) rfl 1 (.int .i64 (p1.at_ : Int))).put (i := 3) rfl 2 (.int .i64 p1.bad))
  clear c0 c1 c2 e0 e1 e2
  generalize World.setCell (World.setCell (World.setCell _ _ _) _ _) _ _ = W2 at hp ⊢
  have c0 := hp.out.cell (i := 3) rfl 0; have c1 := hp.out.cell (i := 3) rfl 1; have c2 := hp.out.cell (i := 3) rfl 2; simp at c0 c1 c2
  go_upto_region 4 with (go_at_call 33; (with_reducible refine (kc2.out _ hp.out.bel).mono ?_); rintro e wb ⟨rfl, bb⟩; replace hp := Lib.hid (hp.out.below bb); clear bb c0 c1 c2; have c0 := hp.out.cell (i := 3) rfl 0; have c1 := hp.out.cell (i := 3) rfl 1; have c2 := hp.out.cell (i := 3) rfl 2; simp at c0 c1 c2; have e0 := hp.out.free (i := 3) rfl 0; have e1 := hp.out.free (i := 3) rfl 1; have e2 := hp.out.free (i := 3) rfl 2; have y0 := hp.out.cell (i := 0) rfl 0; simp at y0; have f0 := hp.out.free (i := 0) rfl 0)
  replace hp := Lib.hid ((((hp.out.put (i := 3) rfl 0 (.slice (some ⟨b, 0, none⟩) n cap)).put (i := 3) rfl 1 (.int .i64 (p2.at_ : Int))).put (i := 3) rfl 2 (.int .i64 p2.bad)).put (i := 0) rfl 0 (.string (str nv)))
  clear c0 c1 c2 e0 e1 e2 y0 f0
  generalize World.setCell (World.setCell (World.setCell (World.setCell _ _ _) _ _) _ _) _ _ = W3 at hp ⊢
  replace hp := Lib.hid (show Hp w [] (.box q4 #[.string (str nv), .string ⟨#[]⟩, .slice none 0 0] 79 :: .box q3 #[.string ⟨#[]⟩, .string ⟨#[]⟩, .slice none 0 0] 79 :: .box q2 #[.slice none 0 0, .int .i64 0, .int .i64 0] 76 :: .box q1 #[.slice (some ⟨b, 0, none⟩) n cap, .int .i64 (p2.at_ : Int), .int .i64 p2.bad] 76 :: .row 98 4 (.slice none 0 0) (0) ([]) :: []) W3 from hp.out)
  have c0 := hp.out.cell (i := 3) rfl 0; have c1 := hp.out.cell (i := 3) rfl 1; have c2 := hp.out.cell (i := 3) rfl 2; simp at c0 c1 c2
  go_upto_if 17 with (go_at_call 27; (with_reducible refine (kc3.out _ hp.out.bel).mono ?_); rintro e wc ⟨rfl, bc⟩; replace hp := Lib.hid (hp.out.below bc); clear bc c0 c1 c2; skip)
  go_cut [] from 18 to 24 (fun wx => Hp w [] (.box q4 #[.string (str nv), .string (str nl), .slice none 0 0] 79 :: .box q3 #[.string ⟨#[]⟩, .string ⟨#[]⟩, .slice none 0 0] 79 :: .box q2 #[.slice none 0 0, .int .i64 0, .int .i64 0] 76 :: .box q1 #[.slice (some ⟨b, 0, none⟩) n cap, .int .i64 (p4.at_ : Int), .int .i64 p4.bad] 76 :: .row 98 4 (.slice none 0 0) (0) ([]) :: []) wx)
  case first =>
    cases m3 with
    | false =>
      have hf : (p4, nl) = (p2, []) := hlab.out
      injection hf with h1 h2
      subst h1 h2
      clear hlab
      go_wp2
      go_meet
      exact hp.out
    | true =>
      have hf : (p4, nl) = rname ws true (rnext ws p2) := hlab.out
      clear hlab
      have lp2 := lp2.out; have hwl := hwl.out; have hzz := hzz.out; clear lp4 kc5
      have kc4 := fun W => rnext_any ws b cap p2 W lp2 hwl
      have lp3 : (rnext ws p2).at_ < ws.length := rnext_lt lp2
      obtain ⟨p3, hx⟩ : ∃ r, r = rnext ws p2 := ⟨_, rfl⟩
      rw [← hx] at kc4 lp3 hf
      clear hx
      have kc6 := fun W (hb : Below w.heap.size w W) => rname_any (hzz p3 lp3 W hb) cap true
      have lp4b : (rname ws true p3).1.at_ < ws.length := rname_lt lp3
      obtain ⟨⟨p4b, nlb⟩, hx⟩ : ∃ r, r = rname ws true p3 := ⟨_, rfl⟩
      rw [← hx] at kc6 lp4b hf
      simp only at kc6 lp4b hf
      clear hx
      injection hf with h1 h2
      subst h1 h2
      simp only [rpA] at kc4 kc6
      rw [← hn.out] at kc4 kc6
      replace kc4 := Lib.hid kc4; replace kc6 := Lib.hid kc6
      clear lp2 hwl lp3 lp4b hzz
      have c0 := hp.out.cell (i := 3) rfl 0; have c1 := hp.out.cell (i := 3) rfl 1; have c2 := hp.out.cell (i := 3) rfl 2; simp at c0 c1 c2
      go_wp2_with (first | (go_at_call 29; (with_reducible refine (kc4.out _).mono ?_); rintro e wd ⟨rfl, bd⟩; replace hp := Lib.hid (hp.out.below bd); clear bd c0 c1 c2; skip) | (go_at_call 33; (with_reducible refine (kc6.out _ hp.out.bel).mono ?_); rintro e wf ⟨rfl, bf⟩; replace hp := Lib.hid (hp.out.below bf); clear bf; have c0 := hp.out.cell (i := 3) rfl 0; have c1 := hp.out.cell (i := 3) rfl 1; have c2 := hp.out.cell (i := 3) rfl 2; simp at c0 c1 c2; have e0 := hp.out.free (i := 3) rfl 0; have e1 := hp.out.free (i := 3) rfl 1; have e2 := hp.out.free (i := 3) rfl 2; have y0 := hp.out.cell (i := 0) rfl 0; have y1 := hp.out.cell (i := 0) rfl 1; simp at y0 y1; have f0 := hp.out.free (i := 0) rfl 0; have f1 := hp.out.free (i := 0) rfl 1))
      go_meet
      exact ((((hp.out.put (i := 3) rfl 0 (.slice (some ⟨b, 0, none⟩) n cap)).put (i := 3) rfl 1 (.int .i64 (p4.at_ : Int))).put (i := 3) rfl 2 (.int .i64 p4.bad)).put (i := 0) rfl 1 (.string (str nl)))
  case rest =>
    clear hp hlab kc1 kc2 kc3 lp2
    replace hp := Lib.hid hcut
    clear hcut
    have c0 := hp.out.cell (i := 3) rfl 0; have c1 := hp.out.cell (i := 3) rfl 1; have c2 := hp.out.cell (i := 3) rfl 2; simp at c0 c1 c2
    go_upto_if 26 with (go_at_call 27; (with_reducible refine (kc5.out _ hp.out.bel).mono ?_); rintro e wg ⟨rfl, bg⟩; replace hp := Lib.hid (hp.out.below bg); clear bg c0 c1 c2; skip)
    go_cut [5] from 27 to 58 (fun s5 wx => ∃ (ad : Option Addr) (cp : Nat), Hp w [] (.box q4 #[.string (str nv), .string (str nl), .slice ad ps.length cp] 79 :: .box q3 #[.string ⟨#[]⟩, .string ⟨#[]⟩, .slice none 0 0] 79 :: .box q2 #[.slice none 0 0, .int .i64 0, .int .i64 0] 76 :: .box q1 #[.slice (some ⟨b, 0, none⟩) n cap, .int .i64 (p6.at_ : Int), .int .i64 p6.bad] 76 :: .row 98 4 (.slice ad ps.length cp) (ps.length) (ps.flatMap Pp.cells) :: []) wx)
    case first =>
      cases m5 with
      | false =>
        have hf : (p6, ps) = (p4, []) := hprs.out
        injection hf with h1 h2
        subst h1 h2
        clear hprs
        go_wp2
        go_meet
        exact ⟨_, _, hp.out⟩
      | true =>
        have hf : (p6, ps) = (rmust ws 4 [125] (rpropsF ws (ws.length + 1) p4 []).1, (rpropsF ws (ws.length + 1) p4 []).2) := hprs.out
        clear hprs
        obtain ⟨RES, hRES⟩ : ∃ r, r = rpropsF ws (ws.length + 1) p4 [] := ⟨_, rfl⟩
        rw [← hRES] at hf
        have hst := ris_next hwf.out lp4.out (by decide) hxm5b
        have hlR : RES.1.at_ < ws.length := by rw [hRES]; exact rpropsF_lt _ _ _ lp4.out
        replace hst := Lib.hid hst; replace hRES := Lib.hid hRES; replace hf := Lib.hid hf; clear kc5 hxm5b
        go_wp2
        go_loopg [5] (ws.length + 1) (fun kk s5 wr => ∃ (c : Bool) (q : Rp) (acc : List Pp) (ad : Option Addr) (cp : Nat), s5 = .bool c ∧ Hp w [] (.box q4 #[.string (str nv), .string (str nl), .slice ad acc.length cp] 79 :: .box q3 #[.string ⟨#[]⟩, .string ⟨#[]⟩, .slice none 0 0] 79 :: .box q2 #[.slice none 0 0, .int .i64 0, .int .i64 0] 76 :: .box q1 #[.slice (some ⟨b, 0, none⟩) n cap, .int .i64 (q.at_ : Int), .int .i64 q.bad] 76 :: .row 98 4 (.slice ad acc.length cp) (acc.length) (acc.flatMap Pp.cells) :: []) wr ∧ q.at_ < ws.length ∧ ((c = true ∧ q.bad < 0 ∧ (rnext ws q).at_ = q.at_ + 1 ∧ rpropsF ws kk q acc = RES ∧ ws.length < q.at_ + kk ∧ acc.length ≤ q.at_) ∨ (c = false ∧ RES = (q, acc))))
        case atStart => exact ⟨true, p4, [], none, 0, rfl, hp.out, lp4.out, Or.inl ⟨rfl, hst.out.2.2, hst.out.1, hRES.out.symm, by have := hn.out; omega, Nat.zero_le _⟩⟩
        case round =>
          clear hp hst hRES
          obtain ⟨c, q, acc, ad, cp, rfl, hp, lq, hcase⟩ := hrel
          replace hp := Lib.hid hp
          rcases hcase with ⟨rfl, hgd, hnx, hpf, hfu, hal⟩ | ⟨rfl, hRr⟩
          · skip
            obtain ⟨K, rfl⟩ : ∃ K : Nat, gk = K + 1 := ⟨gk - 1, by omega⟩
            rw [rpropsF] at hpf
            have hle := rprop_le ws q
            have hlr := rprop_lt (ws := ws) (p := q) lq
            have hPd : rprop ws q = ((rval ws (rmust ws 4 [58] (rname ws true (rnext ws q)).1)).1, ⟨(rname ws true (rnext ws q)).2, (rval ws (rmust ws 4 [58] (rname ws true (rnext ws q)).1)).2⟩) := rfl
            have hwl := hwl.out; have hwf := hwf.out; have hzz := hzz.out
            clear lp4 lp6
            rw [hnx] at hle
            have kca := fun W => rnext_any ws b cap q W lq hwl
            have ls1 : (rnext ws q).at_ < ws.length := rnext_lt lq
            obtain ⟨s1, hx⟩ : ∃ r, r = rnext ws q := ⟨_, rfl⟩
            rw [← hx] at kca ls1 hPd
            clear hx
            have kcb := fun W (hb : Below w.heap.size w W) => rname_any (hzz s1 ls1 W hb) cap true
            have ls2 : (rname ws true s1).1.at_ < ws.length := rname_lt ls1
            obtain ⟨⟨s2, nm⟩, hx⟩ : ∃ r, r = rname ws true s1 := ⟨_, rfl⟩
            rw [← hx] at kcb ls2 hPd
            simp only at kcb ls2 hPd
            clear hx
            have kcc := fun W (hb : Below w.heap.size w W) => rmust_any (hzz s2 ls2 W hb) cap 4 4 rfl [58]
            have ee : str [58] = (⟨#[58]⟩ : ByteArray) := rfl
            rw [ee] at kcc
            clear ee
            have ls3 : (rmust ws 4 [58] s2).at_ < ws.length := rmust_lt ls2
            obtain ⟨s3, hx⟩ : ∃ r, r = rmust ws 4 [58] s2 := ⟨_, rfl⟩
            rw [← hx] at kcc ls3 hPd
            clear hx
            have kcd := fun W (hb : Below w.heap.size w W) => rval_any (hzz s3 ls3 W hb) cap
            have lq4 : (rval ws s3).1.at_ < ws.length := rval_lt ls3
            obtain ⟨⟨s9, vl⟩, hx⟩ : ∃ r, r = rval ws s3 := ⟨_, rfl⟩
            rw [← hx] at kcd lq4 hPd
            simp only at kcd lq4 hPd
            clear hx
            rw [hPd] at hpf hle
            simp only at hpf hle
            have kce := fun W (hb : Below w.heap.size w W) => ris_any (hzz s9 lq4 W hb) cap 4 4 rfl [44]
            have ee : str [44] = (⟨#[44]⟩ : ByteArray) := rfl
            rw [ee] at kce
            clear ee
            have hnn : ris ws 4 [44] s9 = true → _ := fun hh => ris_next hwf lq4 (by decide) hh
            obtain ⟨m9, hm9⟩ : ∃ r, r = ris ws 4 [44] s9 := ⟨_, rfl⟩
            rw [← hm9] at kce hpf hnn
            obtain ⟨vk, vn, vs⟩ := vl
            unfold V.a at kcd
            simp only at kcd
            obtain ⟨acc2, hacc⟩ : ∃ a, a = acc ++ [⟨nm, vk, vn, vs⟩] := ⟨_, rfl⟩
            rw [← hacc] at hpf
            have hal2 : acc2.length = acc.length + 1 := by rw [hacc]; simp
            have hcl : acc2.flatMap Pp.cells = acc.flatMap Pp.cells ++ [.string (str nm), .int .i64 (vk : Int), .int .i64 vn, .string (str vs)] := by rw [hacc, List.flatMap_append]; rfl
            have hnext : (m9 = true ∧ s9.bad < 0 ∧ (rnext ws s9).at_ = s9.at_ + 1 ∧ rpropsF ws K s9 acc2 = RES ∧ ws.length < s9.at_ + K ∧ acc2.length ≤ s9.at_) ∨ (m9 = false ∧ RES = (s9, acc2)) := by
              cases m9
              · rw [if_neg (by decide)] at hpf
                exact Or.inr ⟨rfl, hpf.symm⟩
              · rw [if_pos rfl] at hpf
                obtain ⟨i1, i2, i3⟩ := hnn rfl
                exact Or.inl ⟨rfl, i3, i1, hpf, by omega, by omega⟩
            have hl9 := Lib.hid (show acc.length < 100000000 by omega)
            obtain ⟨M, hM⟩ : ∃ M, M = acc.flatMap Pp.cells := ⟨_, rfl⟩
            have hpx := hp.out
            rw [← hM] at hpx hcl
            obtain ⟨na, hna⟩ : ∃ k, k = acc.length := ⟨_, rfl⟩
            rw [← hna] at hpx hal2 hl9
            replace hp := Lib.hid hpx
            clear hpx
            simp only [rpA] at kca kcb kcc kcd kce
            rw [← hn.out] at kca kcb kcc kcd kce
            clear hm9 hPd hM hna hpf hle hlr hfu hacc hal hnx hnn ls1 ls2 ls3 hwl hwf hzz lq
            replace kca := Lib.hid kca; replace kcb := Lib.hid kcb; replace kcc := Lib.hid kcc; replace kcd := Lib.hid kcd; replace kce := Lib.hid kce
            replace hnext := Lib.hid hnext; replace hal2 := Lib.hid hal2; replace hcl := Lib.hid hcl; replace lq4 := Lib.hid lq4
            have c2 := hp.out.cell (i := 3) rfl 2; simp at c2
            go_upto_region 11 with fail
            clear c2 hgd
            replace hp := Lib.hid (hp.out.alloc #[.string ⟨#[]⟩, .int .i64 0, .int .i64 0, .string ⟨#[]⟩] 98)
            generalize wr.alloc _ = W4 at hp ⊢
            generalize wr.heap.size = qx at hp ⊢
            have nx1 : ¬ qx = q1 := hp.out.ne (i := 0) (j := 4) rfl rfl (by decide)
            have n1x : ¬ q1 = qx := fun e => nx1 e.symm
            have c0 := hp.out.cell (i := 4) rfl 0; have c1 := hp.out.cell (i := 4) rfl 1; have c2 := hp.out.cell (i := 4) rfl 2; simp at c0 c1 c2
            go_upto_region 12 with (first | (go_at_call 29; (with_reducible refine (kca.out _).mono ?_); rintro e wd ⟨rfl, bd⟩; replace hp := Lib.hid (hp.out.below bd); clear bd c0 c1 c2; skip) | (go_at_call 33; (with_reducible refine (kcb.out _ hp.out.bel).mono ?_); rintro e wf ⟨rfl, bf⟩; replace hp := Lib.hid (hp.out.below bf); clear bf; have c0 := hp.out.cell (i := 4) rfl 0; have c1 := hp.out.cell (i := 4) rfl 1; have c2 := hp.out.cell (i := 4) rfl 2; simp at c0 c1 c2; have e0 := hp.out.free (i := 4) rfl 0; have e1 := hp.out.free (i := 4) rfl 1; have e2 := hp.out.free (i := 4) rfl 2; have y0 := hp.out.cell (i := 0) rfl 0; simp at y0; have f0 := hp.out.free (i := 0) rfl 0))
            replace hp := Lib.hid ((((hp.out.put (i := 4) rfl 0 (.slice (some ⟨b, 0, none⟩) n cap)).put (i := 4) rfl 1 (.int .i64 (s2.at_ : Int))).put (i := 4) rfl 2 (.int .i64 s2.bad)).put (i := 0) rfl 0 (.string (str nm)))
            clear c0 c1 c2 e0 e1 e2 y0 f0
            generalize World.setCell (World.setCell (World.setCell (World.setCell _ _ _) _ _) _ _) _ _ = W5 at hp ⊢
            replace hp := Lib.hid (show Hp w [] (.box qx #[.string (str nm), .int .i64 0, .int .i64 0, .string ⟨#[]⟩] 98 :: .box q4 #[.string (str nv), .string (str nl), .slice ad na cp] 79 :: .box q3 #[.string ⟨#[]⟩, .string ⟨#[]⟩, .slice none 0 0] 79 :: .box q2 #[.slice none 0 0, .int .i64 0, .int .i64 0] 76 :: .box q1 #[.slice (some ⟨b, 0, none⟩) n cap, .int .i64 (s2.at_ : Int), .int .i64 s2.bad] 76 :: .row 98 4 (.slice ad na cp) (na) (M) :: []) W5 from hp.out)
            have c0 := hp.out.cell (i := 4) rfl 0; have c1 := hp.out.cell (i := 4) rfl 1; have c2 := hp.out.cell (i := 4) rfl 2; simp at c0 c1 c2
            go_upto_region 13 with (go_at_call 25; (with_reducible refine (kcc.out _ hp.out.bel).mono ?_); rintro e wh ⟨rfl, bh⟩; replace hp := Lib.hid (hp.out.below bh); clear bh c0 c1 c2; have c0 := hp.out.cell (i := 4) rfl 0; have c1 := hp.out.cell (i := 4) rfl 1; have c2 := hp.out.cell (i := 4) rfl 2; simp at c0 c1 c2; have e0 := hp.out.free (i := 4) rfl 0; have e1 := hp.out.free (i := 4) rfl 1; have e2 := hp.out.free (i := 4) rfl 2)
            replace hp := Lib.hid (((hp.out.put (i := 4) rfl 0 (.slice (some ⟨b, 0, none⟩) n cap)).put (i := 4) rfl 1 (.int .i64 (s3.at_ : Int))).put (i := 4) rfl 2 (.int .i64 s3.bad))
            clear c0 c1 c2 e0 e1 e2
            generalize World.setCell (World.setCell (World.setCell _ _ _) _ _) _ _ = W6 at hp ⊢
            replace hp := Lib.hid (show Hp w [] (.box qx #[.string (str nm), .int .i64 0, .int .i64 0, .string ⟨#[]⟩] 98 :: .box q4 #[.string (str nv), .string (str nl), .slice ad na cp] 79 :: .box q3 #[.string ⟨#[]⟩, .string ⟨#[]⟩, .slice none 0 0] 79 :: .box q2 #[.slice none 0 0, .int .i64 0, .int .i64 0] 76 :: .box q1 #[.slice (some ⟨b, 0, none⟩) n cap, .int .i64 (s3.at_ : Int), .int .i64 s3.bad] 76 :: .row 98 4 (.slice ad na cp) (na) (M) :: []) W6 from hp.out)
            have c0 := hp.out.cell (i := 4) rfl 0; have c1 := hp.out.cell (i := 4) rfl 1; have c2 := hp.out.cell (i := 4) rfl 2; simp at c0 c1 c2
            go_upto_region 14 with (go_at_call 69; (with_reducible refine (kcd.out _ hp.out.bel).mono ?_); rintro e wi ⟨rfl, bi⟩; replace hp := Lib.hid (hp.out.below bi); clear bi c0 c1 c2; have c0 := hp.out.cell (i := 4) rfl 0; have c1 := hp.out.cell (i := 4) rfl 1; have c2 := hp.out.cell (i := 4) rfl 2; simp at c0 c1 c2; have e0 := hp.out.free (i := 4) rfl 0; have e1 := hp.out.free (i := 4) rfl 1; have e2 := hp.out.free (i := 4) rfl 2; have y0 := hp.out.cell (i := 0) rfl 0; have y1 := hp.out.cell (i := 0) rfl 1; have y2 := hp.out.cell (i := 0) rfl 2; have y3 := hp.out.cell (i := 0) rfl 3; simp at y0 y1 y2 y3; have f0 := hp.out.free (i := 0) rfl 0; have f1 := hp.out.free (i := 0) rfl 1; have f2 := hp.out.free (i := 0) rfl 2; have f3 := hp.out.free (i := 0) rfl 3)
            replace hp := Lib.hid ((((((hp.out.put (i := 4) rfl 0 (.slice (some ⟨b, 0, none⟩) n cap)).put (i := 4) rfl 1 (.int .i64 (s9.at_ : Int))).put (i := 4) rfl 2 (.int .i64 s9.bad)).put (i := 0) rfl 1 (.int .i64 (vk : Int))).put (i := 0) rfl 2 (.int .i64 vn)).put (i := 0) rfl 3 (.string (str vs)))
            clear c0 c1 c2 e0 e1 e2 y0 y1 y2 y3 f0 f1 f2 f3
            generalize World.setCell (World.setCell (World.setCell (World.setCell (World.setCell (World.setCell _ _ _) _ _) _ _) _ _) _ _) _ _ = W7 at hp ⊢
            replace hp := Lib.hid (show Hp w [] (.box qx #[.string (str nm), .int .i64 (vk : Int), .int .i64 vn, .string (str vs)] 98 :: .box q4 #[.string (str nv), .string (str nl), .slice ad na cp] 79 :: .box q3 #[.string ⟨#[]⟩, .string ⟨#[]⟩, .slice none 0 0] 79 :: .box q2 #[.slice none 0 0, .int .i64 0, .int .i64 0] 76 :: .box q1 #[.slice (some ⟨b, 0, none⟩) n cap, .int .i64 (s9.at_ : Int), .int .i64 s9.bad] 76 :: .row 98 4 (.slice ad na cp) (na) (M) :: []) W7 from hp.out)
            have y0 := hp.out.cell (i := 0) rfl 0; have y1 := hp.out.cell (i := 0) rfl 1; have y2 := hp.out.cell (i := 0) rfl 2; have y3 := hp.out.cell (i := 0) rfl 3; simp at y0 y1 y2 y3
            have z2 := hp.out.cell (i := 1) rfl 2; simp at z2
            go_upto_region 9 with (at_builtin; go_loud (refine wpList_append_hp rfl _ _ rfl Tryd.underlying46 pairInfo4 rfl (by decide) (by decide) (hp.out.alloc_ (.cells #[.string (str nm), .int .i64 (vk : Int), .int .i64 vn, .string (str vs)] 98)) 5 rfl rfl _ _ [.string (str nm), .int .i64 (vk : Int), .int .i64 vn, .string (str vs)] rfl rfl (block_cells (heap_alloc_new _ _)) (by intro u hu; simp at hu; rcases hu with rfl | rfl | rfl | rfl <;> rfl) hl9.out ?_; intro v5 w5 hp5 hv5; replace hp := Lib.hid hp5; clear hp5; obtain ⟨ad5, cp5, rfl⟩ := hv5; clear y0 y1 y2 y3 z2; have z2 := hp.out.cell (i := 1) rfl 2; have f2 := hp.out.free (i := 1) rfl 2; simp at z2))
            replace hp := Lib.hid (hp.out.put (i := 1) rfl 2 (.slice (some ⟨ad5, 0, none⟩) (na + 1) cp5))
            clear z2 f2
            generalize World.setCell _ _ _ = W8 at hp ⊢
            replace hp := Lib.hid (show Hp w [] (.box q4 #[.string (str nv), .string (str nl), .slice (some ⟨ad5, 0, none⟩) (na + 1) cp5] 79 :: .box q3 #[.string ⟨#[]⟩, .string ⟨#[]⟩, .slice none 0 0] 79 :: .box q2 #[.slice none 0 0, .int .i64 0, .int .i64 0] 76 :: .box q1 #[.slice (some ⟨b, 0, none⟩) n cap, .int .i64 (s9.at_ : Int), .int .i64 s9.bad] 76 :: .row 98 4 (.slice (some ⟨ad5, 0, none⟩) (na + 1) cp5) ((na + 1)) (M ++ [.string (str nm), .int .i64 (vk : Int), .int .i64 vn, .string (str vs)]) :: []) W8 from hp.out.drop 0)
            have c0 := hp.out.cell (i := 3) rfl 0; have c1 := hp.out.cell (i := 3) rfl 1; have c2 := hp.out.cell (i := 3) rfl 2; simp at c0 c1 c2
            go_wp2_with (go_at_call 27; (with_reducible refine (kce.out _ hp.out.bel).mono ?_); rintro e wj ⟨rfl, bj⟩; replace hp := Lib.hid (hp.out.below bj); clear bj c0 c1 c2; skip)
            go_roundg K
            case measure => omega
            case rel => exact ⟨m9, s9, acc2, _, _, rfl, by rw [hal2.out, hcl.out]; exact hp.out, lq4.out, hnext.out⟩
          · skip
            subst hRr
            have hf := hf.out
            simp only at hf hlR
            have hwl := hwl.out; have hwf := hwf.out; have hzz := hzz.out
            clear lp4 lp6
            have kcm := fun W (hb : Below w.heap.size w W) => rmust_any (hzz q lq W hb) cap 4 4 rfl [125]
            have ee : str [125] = (⟨#[125]⟩ : ByteArray) := rfl
            rw [ee] at kcm
            clear ee
            have lqe : (rmust ws 4 [125] q).at_ < ws.length := rmust_lt lq
            obtain ⟨qe, hx⟩ : ∃ r, r = rmust ws 4 [125] q := ⟨_, rfl⟩
            rw [← hx] at kcm lqe hf
            clear hx
            injection hf with h1 h2
            subst h1 h2
            simp only [rpA] at kcm
            rw [← hn.out] at kcm
            clear hwl hwf hzz lqe hlR
            replace kcm := Lib.hid kcm
            have c0 := hp.out.cell (i := 3) rfl 0; have c1 := hp.out.cell (i := 3) rfl 1; have c2 := hp.out.cell (i := 3) rfl 2; simp at c0 c1 c2
            go_wp2_with (go_at_call 25; (with_reducible refine (kcm.out _ hp.out.bel).mono ?_); rintro e wk ⟨rfl, bk⟩; replace hp := Lib.hid (hp.out.below bk); clear bk c0 c1 c2; have c0 := hp.out.cell (i := 3) rfl 0; have c1 := hp.out.cell (i := 3) rfl 1; have c2 := hp.out.cell (i := 3) rfl 2; simp at c0 c1 c2; have e0 := hp.out.free (i := 3) rfl 0; have e1 := hp.out.free (i := 3) rfl 1; have e2 := hp.out.free (i := 3) rfl 2)
            go_meet
            exact ⟨_, _, (((hp.out.put (i := 3) rfl 0 (.slice (some ⟨b, 0, none⟩) n cap)).put (i := 3) rfl 1 (.int .i64 (p6.at_ : Int))).put (i := 3) rfl 2 (.int .i64 p6.bad))⟩
    case rest =>
      clear hp hprs kc5 lp4 lp6 hxm5b
      obtain ⟨ad, cp, hp⟩ := hcut
      replace hp := Lib.hid hp
      obtain ⟨np, hnp⟩ : ∃ k, k = ps.length := ⟨_, rfl⟩
      obtain ⟨M, hM⟩ : ∃ M, M = ps.flatMap Pp.cells := ⟨_, rfl⟩
      have hpx := hp.out
      rw [← hnp, ← hM] at hpx
      replace hp := Lib.hid hpx
      clear hpx
      replace hnp := Lib.hid hnp; replace hM := Lib.hid hM
      have hsk := Lib.hid (show ∀ (rs : List Rs) (W' : World), Hp w [] rs W' → rs[3]? = some (.box q1 #[.slice (some ⟨b, 0, none⟩) n cap, .int .i64 (p6.at_ : Int), .int .i64 p6.bad] 76) → rs[0]? = some (.box q4 #[.string (str nv), .string (str nl), .slice ad np cp] 79) → (fun W' => W'.cell? ⟨q1, 0, none⟩ = some (.slice (some ⟨b, 0, none⟩) n cap) ∧ W'.cell? ⟨q1, 1, none⟩ = some (.int .i64 (p6.at_ : Int)) ∧ W'.cell? ⟨q1, 2, none⟩ = some (.int .i64 p6.bad) ∧ W'.cell? ⟨q4, 0, none⟩ = some (.string (str nv)) ∧ W'.cell? ⟨q4, 1, none⟩ = some (.string (str nl)) ∧ W'.cell? ⟨q4, 2, none⟩ = some (.slice ad np cp)) W' from fun rs W' h hi hj => ⟨(h.cell hi 0).trans rfl, (h.cell hi 1).trans rfl, (h.cell hi 2).trans rfl, (h.cell hj 0).trans rfl, (h.cell hj 1).trans rfl, (h.cell hj 2).trans rfl⟩)
      go_upto_region 16 with fail
      replace hp := Lib.hid hp.out.drew
      refine wp_region_noPanic ?_; refine wp_region_held_drew (S := (fun W' => W'.cell? ⟨q1, 0, none⟩ = some (.slice (some ⟨b, 0, none⟩) n cap) ∧ W'.cell? ⟨q1, 1, none⟩ = some (.int .i64 (p6.at_ : Int)) ∧ W'.cell? ⟨q1, 2, none⟩ = some (.int .i64 p6.bad) ∧ W'.cell? ⟨q4, 0, none⟩ = some (.string (str nv)) ∧ W'.cell? ⟨q4, 1, none⟩ = some (.string (str nl)) ∧ W'.cell? ⟨q4, 2, none⟩ = some (.slice ad np cp))) (by kernel_rfl) ?_ (fun hHeld => ?_); (focus ((try dsimp only); (first | exact hsk.out _ _ hp.out rfl rfl | exact hsk.out _ _ hp.out.drew rfl rfl); done))
      (refine take_t (i := 0) (d := 59) (oi := _) (v := ?_) rfl rfl (by kernel_rfl) (by kernel_rfl) (by kernel_rfl) (by rfl) ?_ (by assumption) ?_; rotate_left; (focus (intro w0 hSw; (try dsimp only at hSw); go_simp; (try with_reducible rfl); done)); try simp only [Act.put, List.setIfInBounds_toArray, List.set_cons_zero, List.set_cons_succ]); (refine take_t (i := 2) (d := 61) (oi := _) (v := ?_) rfl rfl (by kernel_rfl) (by kernel_rfl) (by kernel_rfl) (by rfl) ?_ (by assumption) ?_; rotate_left; (focus (intro w0 hSw; (try dsimp only at hSw); go_simp; (try with_reducible rfl); done)); try simp only [Act.put, List.setIfInBounds_toArray, List.set_cons_zero, List.set_cons_succ]); (refine wpAnyH_ready (rs := [1]) (by kernel_rfl) (by simp) ?_; refine AllReadyH.cons (o := _) rfl (fun K' hK => ?_) AllReadyH.nil; go_simp; ((go_at_call 25; (with_reducible refine (kc7.out _ hp.out.bel).mono ?_); rintro e wz ⟨rfl, bz⟩; replace hp := Lib.hid (hp.out.below bz); clear bz; have y0 := hp.out.cell (i := 2) rfl 0; have y1 := hp.out.cell (i := 2) rfl 1; have y2 := hp.out.cell (i := 2) rfl 2; simp at y0 y1 y2; have g0 := hp.out.free (i := 2) rfl 0; have g1 := hp.out.free (i := 2) rfl 1; have g2 := hp.out.free (i := 2) rfl 2)); (try dsimp only); refine hK.out _ _ ?_ (fun hHeld2 => ?_); (focus ((try dsimp only); (first | exact hsk.out _ _ hp.out rfl rfl | exact hsk.out _ _ hp.out.drew rfl rfl); done)); clear hK K'; clear hHeld; have hHeld := hHeld2; clear hHeld2; try simp only [Act.put, List.setIfInBounds_toArray, List.set_cons_zero, List.set_cons_succ]); (refine wpAnyH_ready (rs := [3]) (by kernel_rfl) (by simp) ?_; refine AllReadyH.cons (o := _) rfl (fun K' hK => ?_) AllReadyH.nil; go_simp; (replace hp := Lib.hid (((hp.out.put (i := 2) rfl 0 (.slice (some ⟨b, 0, none⟩) n cap)).put (i := 2) rfl 1 (.int .i64 (p7.at_ : Int))).put (i := 2) rfl 2 (.int .i64 p7.bad)); clear y0 y1 y2 g0 g1 g2); (try dsimp only); refine hK.out _ _ ?_ (fun hHeld2 => ?_); (focus ((try dsimp only); (first | exact hsk.out _ _ hp.out rfl rfl | exact hsk.out _ _ hp.out.drew rfl rfl); done)); clear hK K'; clear hHeld; have hHeld := hHeld2; clear hHeld2; try simp only [Act.put, List.setIfInBounds_toArray, List.set_cons_zero, List.set_cons_succ])
      generalize World.setCell (World.setCell (World.setCell _ _ _) _ _) _ _ = W8 at hp hHeld ⊢
      have v0 := hp.out.cell (i := 1) rfl 0; have v1 := hp.out.cell (i := 1) rfl 1; have v2 := hp.out.cell (i := 1) rfl 2; simp at v0 v1 v2; have u0 := hp.out.free (i := 1) rfl 0; have u1 := hp.out.free (i := 1) rfl 1; have u2 := hp.out.free (i := 1) rfl 2
      (refine wpAnyH_ready (rs := [4]) (by kernel_rfl) (by simp) ?_; refine AllReadyH.cons (o := _) rfl (fun K' hK => ?_) AllReadyH.nil; go_simp; (replace hp := Lib.hid (((hp.out.put (i := 1) rfl 0 (.string (str nv))).put (i := 1) rfl 1 (.string (str nl))).put (i := 1) rfl 2 (.slice ad np cp))); (try dsimp only); refine hK.out _ _ ?_ (fun hHeld2 => ?_); (focus ((try dsimp only); (first | exact hsk.out _ _ hp.out rfl rfl | exact hsk.out _ _ hp.out.drew rfl rfl); done)); clear hK K'; clear hHeld; have hHeld := hHeld2; clear hHeld2; try simp only [Act.put, List.setIfInBounds_toArray, List.set_cons_zero, List.set_cons_succ])
      refine wpAnyH_done (by kernel_rfl) ?_ _; refine NoPanic.normal ?_
      go_wp2
      have hpg := hp.out
      have hRf := hR.out
      subst hRf
      have hpf := (((hpg.drop 3).drop 2).drop 1).drop 0
      exact bodyPost_ret (v := .tuple #[.agg #[.slice (some ⟨b, 0, none⟩) n cap, .int .i64 (p7.at_ : Int), .int .i64 p7.bad], .agg #[.string (str nv), .string (str nl), .slice ad np cp]]) (rnode_results rfl _ _ q2 q3 #[.slice (some ⟨b, 0, none⟩) n cap, .int .i64 (p7.at_ : Int), .int .i64 p7.bad] #[.string (str nv), .string (str nl), .slice ad np cp] rfl rfl (hpg.box (i := 2) rfl) (hpg.box (i := 1) rfl) rfl rfl) rfl ⟨ad, cp, by first | rfl | rw [← hnp.out], by first | exact hpf | (rw [← hnp.out, ← hM.out]; try exact hpf)⟩
end Go.Proofs.YtgbkpkioijbgoaaDoor.qry
