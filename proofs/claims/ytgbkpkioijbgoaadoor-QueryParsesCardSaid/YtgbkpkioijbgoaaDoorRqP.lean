/- The document's question of a text (lodestoneref33.Parse). No condition but the text's size. -/
import Derived.Test.YtgbkpkioijbgoaaDoorRqO
import Derived.Test.YtgbkpkioijbgoaaDoorAppS
import Derived.Test.YtgbkpkioijbgoaaDoorRegTill
import Derived.Deep.CutBlock
import Derived.BigQuiet
namespace Go.Proofs.YtgbkpkioijbgoaaDoor.qry
open Go.RowKit
open lex (W wordsL)
open names (Nm mayN)
attribute [local go_sem ↓] Go.wp_at_zero Go.wp_at_succ
attribute [local go_sem] str_size str_bl
set_option linter.unusedVariables false
set_option linter.unusedSimpArgs false
set_option maxRecDepth 100000

theorem hpPar {w W : World} {X : List Nat} {a b c d e f g h : Rs} (hp : Hp w X (a :: b :: h :: c :: d :: e :: f :: g :: []) W) : Hp w X (a :: b :: c :: d :: e :: f :: g :: h :: []) W := by
  refine hp.perm (List.Perm.cons a (List.Perm.cons b ?_))
  exact List.perm_append_comm (l₁ := [h]) (l₂ := [c, d, e, f, g])
set_option maxHeartbeats 16000000 in
theorem rparse_any (l : List UInt8) (w : World) (hlz : l.length ≤ 140737488355328) : Calls Tryd.prog 7 #[.string (str l)] w (RPRet w (rparseL l)) := by
  obtain ⟨R, hR⟩ : ∃ R, R = rparseL l := ⟨_, rfl⟩
  rw [← hR]
  have hp := (((((Hp.none_ w []).rowNil 94 2).rowNil 88 6).rowNil 84 3).rowNil 79 3).alloc #[.slice none 0 0, .slice none 0 0, .slice none 0 0, .slice none 0 0, .int .i64 0] 27
  replace hp := Lib.hid hp
  by_cases h1 : 1000 < l.length
  · have hf : R = .inr (0, 4) := by rw [hR]; unfold rparseL; rw [if_pos h1]
    clear hR
    subst hf
    have kw := fun W => lex.rwords_long l h1 W
    replace kw := Lib.hid kw
    clear h1 hlz
    go_enter Tryd.func7, Tryd.ntmps7
    go_upto_region 1 with fail
    generalize w.alloc _ = W1 at hp ⊢
    generalize w.heap.size = q2 at hp ⊢
    go_upto_region 2 with (go_at_call 24; (with_reducible refine (kw.out _).mono ?_); rintro e w1 ⟨rfl, b1⟩; replace hp := Lib.hid (hp.out.below b1); clear b1)
    have y0 := hp.out.cell (i := 0) rfl 0; have y1 := hp.out.cell (i := 0) rfl 1; have y2 := hp.out.cell (i := 0) rfl 2; have y3 := hp.out.cell (i := 0) rfl 3; have y4 := hp.out.cell (i := 0) rfl 4; have f0 := hp.out.free (i := 0) rfl 0; have f1 := hp.out.free (i := 0) rfl 1; have f2 := hp.out.free (i := 0) rfl 2; have f3 := hp.out.free (i := 0) rfl 3; have f4 := hp.out.free (i := 0) rfl 4
    simp at y0 y1 y2 y3 y4
    go_wp2
    have hpf := hp.out
    replace hpf := Lib.hid (((((hpf.put (i := 0) rfl 0 (.slice none 0 0)).put (i := 0) rfl 1 (.slice none 0 0)).put (i := 0) rfl 2 (.slice none 0 0)).put (i := 0) rfl 3 (.slice none 0 0)).put (i := 0) rfl 4 (.int .i64 0))
    have hpg := hpf.out
    exact bodyPost_ret (v := .tuple #[zeroQ, .int .i64 0, .int .i64 4]) (parse_results rfl _ _ q2 #[.slice none 0 0, .slice none 0 0, .slice none 0 0, .slice none 0 0, .int .i64 0] (.int .i64 0) (.int .i64 4) rfl rfl rfl (hpg.box (i := 0) rfl) rfl) rfl ⟨rfl, hpg.bel⟩
  have hl : l.length ≤ 1000 := by omega
  have kw := fun W => lex.rwords_any l hl W
  unfold lex.RRet at kw
  cases hw : wordsL l with
  | mk r p =>
  cases r with
  | none =>
    have hf : R = .inr ((p : Int), 320) := by rw [hR]; unfold rparseL; rw [if_neg h1, hw]
    clear hR
    subst hf
    rw [hw] at kw
    simp only at kw
    replace kw := Lib.hid kw
    clear h1 hl hw hlz
    go_enter Tryd.func7, Tryd.ntmps7
    go_upto_region 1 with fail
    generalize w.alloc _ = W1 at hp ⊢
    generalize w.heap.size = q2 at hp ⊢
    go_upto_region 2 with (go_at_call 24; (with_reducible refine (kw.out _).mono ?_); rintro e w1 ⟨b1, rfl⟩; replace hp := Lib.hid (hp.out.below b1); clear b1)
    have y0 := hp.out.cell (i := 0) rfl 0; have y1 := hp.out.cell (i := 0) rfl 1; have y2 := hp.out.cell (i := 0) rfl 2; have y3 := hp.out.cell (i := 0) rfl 3; have y4 := hp.out.cell (i := 0) rfl 4; have f0 := hp.out.free (i := 0) rfl 0; have f1 := hp.out.free (i := 0) rfl 1; have f2 := hp.out.free (i := 0) rfl 2; have f3 := hp.out.free (i := 0) rfl 3; have f4 := hp.out.free (i := 0) rfl 4
    simp at y0 y1 y2 y3 y4
    go_wp2
    have hpf := hp.out
    replace hpf := Lib.hid (((((hpf.put (i := 0) rfl 0 (.slice none 0 0)).put (i := 0) rfl 1 (.slice none 0 0)).put (i := 0) rfl 2 (.slice none 0 0)).put (i := 0) rfl 3 (.slice none 0 0)).put (i := 0) rfl 4 (.int .i64 0))
    have hpg := hpf.out
    exact bodyPost_ret (v := .tuple #[zeroQ, .int .i64 (p : Int), .int .i64 320]) (parse_results rfl _ _ q2 #[.slice none 0 0, .slice none 0 0, .slice none 0 0, .slice none 0 0, .int .i64 0] (.int .i64 (p : Int)) (.int .i64 320) rfl rfl rfl (hpg.box (i := 0) rfl) rfl) rfl ⟨rfl, hpg.bel⟩
  | some ws =>
    have hR2 : R = (if (rquest ws).1.bad < 0 then (if mayQ (rquest ws).2 then .inl (rquest ws).2 else .inr ((l.length : Int), 330)) else .inr ((rquest ws).1.bad, 330)) := by rw [hR]; unfold rparseL; rw [if_neg h1, hw]
    rw [hw] at kw
    simp only at kw
    have hwf := fun hn => words_wf l ws p hl hw hn
    clear hR h1 hw
    obtain ⟨L, hL⟩ : ∃ L, L = l.length := ⟨_, rfl⟩
    rw [← hL] at hR2 hl
    have hsz : (str l).size = L := by rw [str_size, hL]
    clear hL hlz
    replace kw := Lib.hid kw; replace hwf := Lib.hid hwf; replace hR2 := Lib.hid hR2; replace hl := Lib.hid hl
    obtain ⟨S, hS⟩ : ∃ S, S = str l := ⟨_, rfl⟩
    rw [← hS] at kw hsz ⊢
    clear hS
    go_enter Tryd.func7, Tryd.ntmps7
    go_upto_region 1 with fail
    generalize w.alloc _ = W1 at hp ⊢
    generalize w.heap.size = q2 at hp ⊢
    go_upto_region 2 with (go_at_call 24; (with_reducible refine (kw.out _).mono ?_); rintro e w1 ⟨b1, v, rfl, hrow, hnw⟩; replace hp := Lib.hid (hpWords hp.out b1 hrow); clear b1)
    obtain ⟨hwf2, hne, -⟩ := hwf.out hnw
    obtain ⟨b, cap, rfl, _, hb, hcells⟩ := hrow.open hne
    have hlen0 : 0 < ws.length := by rcases ws with _ | ⟨x, t⟩; exact absurd rfl hne; simp
    clear hrow hcells hwf hb hne kw
    obtain ⟨AW, hAW⟩ : ∃ A, A = lex.allcells ws := ⟨_, rfl⟩
    obtain ⟨n, hn⟩ : ∃ n, n = ws.length := ⟨_, rfl⟩
    have hwl := hwf2.len
    have hwa : ∀ (rs : List Rs) (Wq : World) (i : Nat), Hp w [] rs Wq → rs[i]? = some (.row 71 4 (.slice (some ⟨b, 0, none⟩) n cap) n AW) → WsAt ws b Wq := fun rs Wq i h hi => wsAt_row h hi hAW (by omega) (by omega)
    have hpx := hp.out
    rw [← hn, ← hAW] at hpx
    replace hp := Lib.hid hpx
    rw [← hn]
    clear hpx
    have hzz : ∀ (q : Rp), q.at_ < ws.length → ∀ W, WsAt ws b W → Rz ws b q W := fun q hq W hw => ⟨hwf2, hw, hq⟩
    replace hn := Lib.hid hn; replace hAW := Lib.hid hAW; replace hwa := Lib.hid hwa
    go_upto_region 4 with fail
    replace hp := Lib.hid ((hp.out.alloc #[.slice (some ⟨b, 0, none⟩) n cap, .int .i64 0, .int .i64 (-1)] 76).alloc #[.slice none 0 0, .slice none 0 0, .slice none 0 0, .slice none 0 0, .int .i64 256] 27)
    have hsz1 : ∀ (u : World) o, (u.alloc o).heap.size = u.heap.size + 1 := fun u o => by simp
    have hpx := hp.out
    rw [hsz1] at hpx
    replace hp := Lib.hid hpx
    clear hpx hsz1
    go_upto_region 5 with fail
    generalize (w1.alloc _).alloc _ = W2 at hp ⊢
    generalize w1.heap.size + 1 = qq at hp ⊢
    generalize w1.heap.size = q1 at hp ⊢
    obtain ⟨p0, hp0⟩ : ∃ p : Rp, p = ⟨0, -1⟩ := ⟨_, rfl⟩
    replace hp := Lib.hid (show Hp w [] (.box qq #[.slice none 0 0, .slice none 0 0, .slice none 0 0, .slice none 0 0, .int .i64 256] 27 :: .box q1 #[.slice (some ⟨b, 0, none⟩) n cap, .int .i64 (p0.at_ : Int), .int .i64 p0.bad] 76 :: .box q2 #[.slice none 0 0, .slice none 0 0, .slice none 0 0, .slice none 0 0, .int .i64 0] 27 :: .row 79 3 (.slice none 0 0) (0) ([]) :: .row 84 3 (.slice none 0 0) (0) ([]) :: .row 88 6 (.slice none 0 0) (0) ([]) :: .row 94 2 (.slice none 0 0) (0) ([]) :: .row 71 4 (.slice (some ⟨b, 0, none⟩) n cap) n AW :: []) W2 from by subst hp0; exact hpPar hp.out)
    obtain ⟨RQ, hRQ⟩ : ∃ r, r = rquest ws := ⟨_, rfl⟩
    have hR3 := hR2.out
    rw [← hRQ] at hR3
    have hln := rquest_len ws hwl
    rw [← hRQ] at hln
    unfold rquest at hRQ
    simp only at hRQ
    rw [← hp0] at hRQ
    have lp0 : p0.at_ < ws.length := by rw [hp0]; exact hlen0
    clear hR2 hp0 hlen0
    replace hR3 := Lib.hid hR3; replace hln := Lib.hid hln
    have kc0 := fun W (hb : WsAt ws b W) => rmust_any (hzz p0 lp0 W hb) cap 1 1 rfl [102, 105, 110, 100]
    have ee : str [102, 105, 110, 100] = (⟨#[102, 105, 110, 100]⟩ : ByteArray) := rfl
    rw [ee] at kc0
    clear ee
    have lp1 : (rmust ws 1 [102, 105, 110, 100] p0).at_ < ws.length := rmust_lt lp0
    obtain ⟨p1, hx⟩ : ∃ r, r = rmust ws 1 [102, 105, 110, 100] p0 := ⟨_, rfl⟩
    rw [← hx] at kc0 lp1 hRQ
    clear hx
    have kcn := fun W (hb : WsAt ws b W) => rnode_any (hzz p1 lp1 W hb) cap
    have lp2 : (rnode ws p1).1.at_ < ws.length := rnode_lt lp1
    obtain ⟨⟨p2, nd0⟩, hx⟩ : ∃ r, r = rnode ws p1 := ⟨_, rfl⟩
    rw [← hx] at kcn lp2 hRQ
    simp only at kcn lp2 hRQ
    clear hx
    obtain ⟨⟨s1, ns, es⟩, hES⟩ : ∃ r, r = redgesF ws (ws.length + 1) p2 [nd0] [] := ⟨_, rfl⟩
    rw [← hES] at hRQ
    have ls1 : s1.at_ < ws.length := by have h := redgesF_lt (ws.length + 1) p2 [nd0] [] lp2; rw [← hES] at h; exact h
    simp only at hRQ
    obtain ⟨⟨s2, cs⟩, hCS⟩ : ∃ r, r = rconds ws s1 := ⟨_, rfl⟩
    rw [← hCS] at hRQ
    have ls2 : s2.at_ < ws.length := by have h := rconds_lt ls1; rw [← hCS] at h; exact h
    simp only at hRQ
    obtain ⟨s3, hTS⟩ : ∃ r, r = rtell ws s2 := ⟨_, rfl⟩
    rw [← hTS] at hRQ
    have ls3 : s3.at_ < ws.length := by rw [hTS]; exact rtell_lt ls2
    have hTN : s3.bad < 0 → (rnext ws s3).at_ = s3.at_ + 1 := by rw [hTS]; exact rtell_next hwf2 ls2
    obtain ⟨⟨s4, is⟩, hIS⟩ : ∃ r, r = ritems ws s3 := ⟨_, rfl⟩
    rw [← hIS] at hRQ
    have ls4 : s4.at_ < ws.length := by have h := ritems_lt ls3; rw [← hIS] at h; exact h
    simp only at hRQ
    obtain ⟨⟨s5, lm⟩, hLS⟩ : ∃ r, r = rlim ws s4 := ⟨_, rfl⟩
    rw [← hLS] at hRQ
    have ls5 : s5.at_ < ws.length := by have h := rlim_lt ls4; rw [← hLS] at h; exact h
    simp only at hRQ
    obtain ⟨s6, hEND⟩ : ∃ r, r = rend ws s5 := ⟨_, rfl⟩
    rw [← hEND] at hRQ
    have ls6 : s6.at_ < ws.length := by rw [hEND]; exact rend_lt ls5
    subst hRQ
    have hR4 := hR3.out
    have hln2 := hln.out
    simp only at hR4 hln2
    clear hR3 hln
    replace hR4 := Lib.hid hR4; replace hln2 := Lib.hid hln2
    simp only [rpA] at kc0 kcn
    rw [← hn.out] at kc0 kcn
    replace kc0 := Lib.hid kc0; replace kcn := Lib.hid kcn
    replace hzz := Lib.hid hzz; replace lp2 := Lib.hid lp2; replace hwf2 := Lib.hid hwf2; replace hwl := Lib.hid hwl; replace hES := Lib.hid hES; replace hCS := Lib.hid hCS; replace hTS := Lib.hid hTS; replace hTN := Lib.hid hTN; replace hIS := Lib.hid hIS; replace hLS := Lib.hid hLS; replace hEND := Lib.hid hEND; replace ls1 := Lib.hid ls1; replace ls2 := Lib.hid ls2; replace ls3 := Lib.hid ls3; replace ls4 := Lib.hid ls4; replace ls5 := Lib.hid ls5; replace ls6 := Lib.hid ls6
    clear lp0 lp1
    have c0 := hp.out.cell (i := 1) rfl 0; have c1 := hp.out.cell (i := 1) rfl 1; have c2 := hp.out.cell (i := 1) rfl 2; simp at c0 c1 c2
    go_upto_region 6 with (go_at_call 25; (with_reducible refine (kc0.out _ (hwa.out _ _ 7 hp.out rfl)).mono ?_); rintro e wa ⟨rfl, ba⟩; replace hp := Lib.hid (hp.out.below ba); clear ba c0 c1 c2; have c0 := hp.out.cell (i := 1) rfl 0; have c1 := hp.out.cell (i := 1) rfl 1; have c2 := hp.out.cell (i := 1) rfl 2; simp at c0 c1 c2; have e0 := hp.out.free (i := 1) rfl 0; have e1 := hp.out.free (i := 1) rfl 1; have e2 := hp.out.free (i := 1) rfl 2)
    replace hp := Lib.hid (((hp.out.put (i := 1) rfl 0 (.slice (some ⟨b, 0, none⟩) n cap)).put (i := 1) rfl 1 (.int .i64 (p1.at_ : Int))).put (i := 1) rfl 2 (.int .i64 p1.bad))
    clear c0 c1 c2 e0 e1 e2
    generalize World.setCell (World.setCell (World.setCell _ _ _) _ _) _ _ = W3 at hp ⊢
    replace hp := Lib.hid (show Hp w [] (.box qq #[.slice none 0 0, .slice none 0 0, .slice none 0 0, .slice none 0 0, .int .i64 256] 27 :: .box q1 #[.slice (some ⟨b, 0, none⟩) n cap, .int .i64 (p1.at_ : Int), .int .i64 p1.bad] 76 :: .box q2 #[.slice none 0 0, .slice none 0 0, .slice none 0 0, .slice none 0 0, .int .i64 0] 27 :: .row 79 3 (.slice none 0 0) (0) ([]) :: .row 84 3 (.slice none 0 0) (0) ([]) :: .row 88 6 (.slice none 0 0) (0) ([]) :: .row 94 2 (.slice none 0 0) (0) ([]) :: .row 71 4 (.slice (some ⟨b, 0, none⟩) n cap) n AW :: []) W3 from hp.out)
    have c0 := hp.out.cell (i := 1) rfl 0; have c1 := hp.out.cell (i := 1) rfl 1; have c2 := hp.out.cell (i := 1) rfl 2; simp at c0 c1 c2
    go_upto_region 7 with (go_at_call 26; (with_reducible refine (kcn.out _ (hwa.out _ _ 7 hp.out rfl)).mono ?_); rintro e wb ⟨nad, ncp, rfl, h5⟩; replace hp := Lib.hid (show Hp w [] (.box qq #[.slice none 0 0, .slice none 0 0, .slice none 0 0, .slice none 0 0, .int .i64 256] 27 :: .box q1 #[.slice (some ⟨b, 0, none⟩) n cap, .int .i64 (p1.at_ : Int), .int .i64 p1.bad] 76 :: .box q2 #[.slice none 0 0, .slice none 0 0, .slice none 0 0, .slice none 0 0, .int .i64 0] 27 :: .row 79 3 (.slice none 0 0) (0) ([]) :: .row 84 3 (.slice none 0 0) (0) ([]) :: .row 88 6 (.slice none 0 0) (0) ([]) :: .row 94 2 (.slice none 0 0) (0) ([]) :: .row 71 4 (.slice (some ⟨b, 0, none⟩) n cap) n AW :: .row 98 4 (.slice nad nd0.props.length ncp) nd0.props.length (nd0.props.flatMap Pp.cells) :: []) wb from hpLast (show Hp w [] (.row 98 4 (.slice nad nd0.props.length ncp) nd0.props.length (nd0.props.flatMap Pp.cells) :: .box qq #[.slice none 0 0, .slice none 0 0, .slice none 0 0, .slice none 0 0, .int .i64 256] 27 :: .box q1 #[.slice (some ⟨b, 0, none⟩) n cap, .int .i64 (p1.at_ : Int), .int .i64 p1.bad] 76 :: .box q2 #[.slice none 0 0, .slice none 0 0, .slice none 0 0, .slice none 0 0, .int .i64 0] 27 :: .row 79 3 (.slice none 0 0) (0) ([]) :: .row 84 3 (.slice none 0 0) (0) ([]) :: .row 88 6 (.slice none 0 0) (0) ([]) :: .row 94 2 (.slice none 0 0) (0) ([]) :: .row 71 4 (.slice (some ⟨b, 0, none⟩) n cap) n AW :: []) wb from hp.out.take h5)); clear h5; clear c0 c1 c2; have hpa := hp.out.alloc #[.string ⟨#[]⟩, .string ⟨#[]⟩, .slice none 0 0] 79; have c0 : (wb.alloc (.cells #[.string ⟨#[]⟩, .string ⟨#[]⟩, .slice none 0 0] 79)).cell? ⟨q1, 0, none⟩ = some (.slice (some ⟨b, 0, none⟩) n cap) := (hpa.cell (i := 2) rfl 0).trans rfl; have e0 : (wb.alloc (.cells #[.string ⟨#[]⟩, .string ⟨#[]⟩, .slice none 0 0] 79)).frozen? ⟨q1, 0, none⟩ = false := hpa.free (i := 2) rfl 0; have c1 : (wb.alloc (.cells #[.string ⟨#[]⟩, .string ⟨#[]⟩, .slice none 0 0] 79)).cell? ⟨q1, 1, none⟩ = some (.int .i64 (p1.at_ : Int)) := (hpa.cell (i := 2) rfl 1).trans rfl; have e1 : (wb.alloc (.cells #[.string ⟨#[]⟩, .string ⟨#[]⟩, .slice none 0 0] 79)).frozen? ⟨q1, 1, none⟩ = false := hpa.free (i := 2) rfl 1; have c2 : (wb.alloc (.cells #[.string ⟨#[]⟩, .string ⟨#[]⟩, .slice none 0 0] 79)).cell? ⟨q1, 2, none⟩ = some (.int .i64 p1.bad) := (hpa.cell (i := 2) rfl 2).trans rfl; have e2 : (wb.alloc (.cells #[.string ⟨#[]⟩, .string ⟨#[]⟩, .slice none 0 0] 79)).frozen? ⟨q1, 2, none⟩ = false := hpa.free (i := 2) rfl 2; have y0 : (wb.alloc (.cells #[.string ⟨#[]⟩, .string ⟨#[]⟩, .slice none 0 0] 79)).cell? ⟨wb.heap.size, 0, none⟩ = some (.string ⟨#[]⟩) := (hpa.cell (i := 0) rfl 0).trans rfl; have g0 : (wb.alloc (.cells #[.string ⟨#[]⟩, .string ⟨#[]⟩, .slice none 0 0] 79)).frozen? ⟨wb.heap.size, 0, none⟩ = false := hpa.free (i := 0) rfl 0; have y1 : (wb.alloc (.cells #[.string ⟨#[]⟩, .string ⟨#[]⟩, .slice none 0 0] 79)).cell? ⟨wb.heap.size, 1, none⟩ = some (.string ⟨#[]⟩) := (hpa.cell (i := 0) rfl 1).trans rfl; have g1 : (wb.alloc (.cells #[.string ⟨#[]⟩, .string ⟨#[]⟩, .slice none 0 0] 79)).frozen? ⟨wb.heap.size, 1, none⟩ = false := hpa.free (i := 0) rfl 1; have y2 : (wb.alloc (.cells #[.string ⟨#[]⟩, .string ⟨#[]⟩, .slice none 0 0] 79)).cell? ⟨wb.heap.size, 2, none⟩ = some (.slice none 0 0) := (hpa.cell (i := 0) rfl 2).trans rfl; have g2 : (wb.alloc (.cells #[.string ⟨#[]⟩, .string ⟨#[]⟩, .slice none 0 0] 79)).frozen? ⟨wb.heap.size, 2, none⟩ = false := hpa.free (i := 0) rfl 2; have n1 : ¬ q1 = wb.heap.size := hpa.ne (i := 2) (j := 0) rfl rfl (by decide); have n2 : ¬ wb.heap.size = q1 := fun e => n1 e.symm; clear hpa)
    replace hp := Lib.hid (((((((hp.out.alloc #[.string ⟨#[]⟩, .string ⟨#[]⟩, .slice none 0 0] 79).put (i := 2) rfl 0 (.slice (some ⟨b, 0, none⟩) n cap)).put (i := 2) rfl 1 (.int .i64 (p2.at_ : Int))).put (i := 2) rfl 2 (.int .i64 p2.bad)).put (i := 0) rfl 0 (.string (str nd0.var))).put (i := 0) rfl 1 (.string (str nd0.label))).put (i := 0) rfl 2 (.slice nad nd0.props.length ncp))
    clear c0 c1 c2 e0 e1 e2 y0 y1 y2 g0 g1 g2 n1 n2
    generalize World.setCell (World.setCell (World.setCell (World.setCell (World.setCell (World.setCell _ _ _) _ _) _ _) _ _) _ _) _ _ = W4 at hp ⊢
    generalize wb.heap.size = qn at hp ⊢
    replace hp := Lib.hid (show Hp w [] (.box qn #[.string (str nd0.var), .string (str nd0.label), .slice nad nd0.props.length ncp] 79 :: .box qq #[.slice none 0 0, .slice none 0 0, .slice none 0 0, .slice none 0 0, .int .i64 256] 27 :: .box q1 #[.slice (some ⟨b, 0, none⟩) n cap, .int .i64 (p2.at_ : Int), .int .i64 p2.bad] 76 :: .box q2 #[.slice none 0 0, .slice none 0 0, .slice none 0 0, .slice none 0 0, .int .i64 0] 27 :: .row 79 3 (.slice none 0 0) (0) ([]) :: .row 84 3 (.slice none 0 0) (0) ([]) :: .row 88 6 (.slice none 0 0) (0) ([]) :: .row 94 2 (.slice none 0 0) (0) ([]) :: .row 71 4 (.slice (some ⟨b, 0, none⟩) n cap) n AW :: .row 98 4 (.slice nad nd0.props.length ncp) nd0.props.length (nd0.props.flatMap Pp.cells) :: []) W4 from hp.out)
    have y0 := hp.out.cell (i := 0) rfl 0; have y1 := hp.out.cell (i := 0) rfl 1; have y2 := hp.out.cell (i := 0) rfl 2; simp at y0 y1 y2
    have z0 := hp.out.cell (i := 1) rfl 0; simp at z0
    have hl0 := Lib.hid (show 0 < 100000000 by decide)
    go_upto_block 0 with (at_builtin; go_loud (refine wpList_append_hp rfl _ _ rfl Tryd.underlying22 nodeInfo rfl (by decide) (by decide) (hp.out.alloc_ (.cells #[.string (str nd0.var), .string (str nd0.label), .slice nad nd0.props.length ncp] 79)) 4 rfl rfl _ _ [.string (str nd0.var), .string (str nd0.label), .slice nad nd0.props.length ncp] rfl rfl (block_cells (heap_alloc_new _ _)) (by intro u hu; simp at hu; rcases hu with rfl | rfl | rfl <;> rfl) hl0.out ?_; intro v5 w5 hp5 hv5; replace hp := Lib.hid hp5; clear hp5; obtain ⟨ad5, cp5, rfl⟩ := hv5; clear y0 y1 y2 z0; have z0 := hp.out.cell (i := 1) rfl 0; have f0 := hp.out.free (i := 1) rfl 0; simp at z0))
    replace hp := Lib.hid (hp.out.put (i := 1) rfl 0 (.slice (some ⟨ad5, 0, none⟩) (0 + 1) cp5))
    clear z0 f0
    generalize World.setCell _ _ _ = W5 at hp ⊢
    replace hp := Lib.hid (show Hp w [] (.box qq #[.slice (some ⟨ad5, 0, none⟩) 1 cp5, .slice none 0 0, .slice none 0 0, .slice none 0 0, .int .i64 256] 27 :: .box q1 #[.slice (some ⟨b, 0, none⟩) n cap, .int .i64 (p2.at_ : Int), .int .i64 p2.bad] 76 :: .box q2 #[.slice none 0 0, .slice none 0 0, .slice none 0 0, .slice none 0 0, .int .i64 0] 27 :: .row 79 3 (.slice (some ⟨ad5, 0, none⟩) 1 cp5) (1) ([.string (str nd0.var), .string (str nd0.label), .slice nad nd0.props.length ncp]) :: .row 84 3 (.slice none 0 0) (0) ([]) :: .row 88 6 (.slice none 0 0) (0) ([]) :: .row 94 2 (.slice none 0 0) (0) ([]) :: .row 71 4 (.slice (some ⟨b, 0, none⟩) n cap) n AW :: .row 98 4 (.slice nad nd0.props.length ncp) nd0.props.length (nd0.props.flatMap Pp.cells) :: []) W5 from hp.out.drop 0)
    go_cut [] from 45 to 74 (fun wx => ∃ (N : List NdV) (nad : Option Addr) (ncp : Nat) (ead : Option Addr) (ecp : Nat) (nrs : List Rs), N.map NdV.nd = ns ∧ (∀ y ∈ N, ndAt nrs y) ∧ Hp w [] (.box qq #[.slice nad N.length ncp, .slice ead es.length ecp, .slice none 0 0, .slice none 0 0, .int .i64 256] 27 :: .box q1 #[.slice (some ⟨b, 0, none⟩) n cap, .int .i64 (s1.at_ : Int), .int .i64 s1.bad] 76 :: .box q2 #[.slice none 0 0, .slice none 0 0, .slice none 0 0, .slice none 0 0, .int .i64 0] 27 :: .row 79 3 (.slice nad N.length ncp) (N.length) (N.flatMap NdV.cells) :: .row 84 3 (.slice ead es.length ecp) (es.length) (es.flatMap Ed.cells) :: .row 88 6 (.slice none 0 0) (0) ([]) :: .row 94 2 (.slice none 0 0) (0) ([]) :: .row 71 4 (.slice (some ⟨b, 0, none⟩) n cap) n AW :: nrs) wx)
    case first =>
      go_wp2
      go_loopg [] (ws.length + 1) (fun kk wr => ∃ (q : Rp) (N : List NdV) (nad : Option Addr) (ncp : Nat) (E : List Ed) (ead : Option Addr) (ecp : Nat) (nrs : List Rs), redgesF ws kk q (N.map NdV.nd) E = (s1, ns, es) ∧ q.at_ < ws.length ∧ ws.length < q.at_ + kk ∧ N.length = E.length + 1 ∧ E.length ≤ q.at_ ∧ (∀ y ∈ N, ndAt nrs y) ∧ Hp w [] (.box qq #[.slice nad N.length ncp, .slice ead E.length ecp, .slice none 0 0, .slice none 0 0, .int .i64 256] 27 :: .box q1 #[.slice (some ⟨b, 0, none⟩) n cap, .int .i64 (q.at_ : Int), .int .i64 q.bad] 76 :: .box q2 #[.slice none 0 0, .slice none 0 0, .slice none 0 0, .slice none 0 0, .int .i64 0] 27 :: .row 79 3 (.slice nad N.length ncp) (N.length) (N.flatMap NdV.cells) :: .row 84 3 (.slice ead E.length ecp) (E.length) (E.flatMap Ed.cells) :: .row 88 6 (.slice none 0 0) (0) ([]) :: .row 94 2 (.slice none 0 0) (0) ([]) :: .row 71 4 (.slice (some ⟨b, 0, none⟩) n cap) n AW :: nrs) wr)
      case atStart => exact ⟨p2, [⟨nd0, nad, ncp⟩], _, _, [], none, 0, _, hES.out.symm, lp2.out, by omega, rfl, Nat.zero_le _, fun y hy => by rw [List.mem_singleton.1 hy]; exact List.mem_cons_self .., hp.out⟩
      case round =>
        clear hp hES lp2 kcn kc0 hl0 hR4 hln2
        obtain ⟨q, N, nad, ncp, E, ead, ecp, nrs, hef, lq, hfu, hNl, hEl, hNn, hp⟩ := hrel
        replace hp := Lib.hid hp; replace hNn := Lib.hid hNn; replace hNl := Lib.hid hNl
        have hwf := hwf2.out; have hwl2 := hwl.out; have hzz := hzz.out
        obtain ⟨K, rfl⟩ : ∃ K : Nat, gk = K + 1 := ⟨gk - 1, by omega⟩
        rw [redgesF] at hef
        have hstep := redge_step hwf lq
        have kca := fun W (hb : WsAt ws b W) => ris_any (hzz q lq W hb) cap 4 4 rfl [45]
        have ee : str [45] = (⟨#[45]⟩ : ByteArray) := rfl
        rw [ee] at kca
        clear ee
        obtain ⟨ma, hxma⟩ : ∃ r, r = ris ws 4 [45] q := ⟨_, rfl⟩
        rw [← hxma] at kca hef hstep
        have kcb := fun W (hb : WsAt ws b W) => ris_any (hzz q lq W hb) cap 4 4 rfl [60, 45]
        have ee : str [60, 45] = (⟨#[60, 45]⟩ : ByteArray) := rfl
        rw [ee] at kcb
        clear ee
        obtain ⟨mb, hxmb⟩ : ∃ r, r = ris ws 4 [60, 45] q := ⟨_, rfl⟩
        rw [← hxmb] at kcb hef hstep
        clear hxma hxmb
        obtain ⟨M8, hM8⟩ : ∃ m, m = (ma || mb) := ⟨_, rfl⟩
        rw [← hM8] at hef hstep
        have kce := fun W (hb : WsAt ws b W) => redge_any (hzz q lq W hb) cap
        have lt1 : (redge ws q).1.at_ < ws.length := redge_lt lq
        obtain ⟨⟨t1, ed⟩, hx⟩ : ∃ r, r = redge ws q := ⟨_, rfl⟩
        rw [← hx] at kce lt1 hef hstep
        simp only at kce lt1 hef hstep
        clear hx
        have kcd := fun W (hb : WsAt ws b W) => rnode_any (hzz t1 lt1 W hb) cap
        have lt2 : (rnode ws t1).1.at_ < ws.length := rnode_lt lt1
        have hle2 := rnode_le ws t1
        obtain ⟨⟨t2, nd⟩, hx⟩ : ∃ r, r = rnode ws t1 := ⟨_, rfl⟩
        rw [← hx] at kcd lt2 hef hle2
        simp only at kcd lt2 hef hle2
        clear hx
        simp only [rpA] at kca kcb kce kcd
        rw [← hn.out] at kca kcb kce kcd
        replace kca := Lib.hid kca; replace kcb := Lib.hid kcb; replace kce := Lib.hid kce; replace kcd := Lib.hid kcd
        have hl9 := Lib.hid (show N.length + 1 ≤ 100000000 by have := hNl.out; omega)
        have hl9e := Lib.hid (show E.length + 1 ≤ 100000000 by omega)
        have hnx : M8 = true → redgesF ws K t2 ((N ++ [(⟨nd, none, 0⟩ : NdV)]).map NdV.nd) (E ++ [ed]) = (s1, ns, es) ∧ ws.length < t2.at_ + K ∧ (E ++ [ed]).length ≤ t2.at_ := fun h => by
          rw [if_pos h] at hef
          have h1 := hstep h
          refine ⟨by rw [List.map_append]; exact hef, by omega, ?_⟩
          rw [List.length_append]; show E.length + 1 ≤ _; omega
        have hend : M8 = false → q = s1 ∧ N.map NdV.nd = ns ∧ E = es := fun h => by
          rw [if_neg (by rw [h]; decide)] at hef
          injection hef with h1 h2
          injection h2 with h2 h3
          exact ⟨h1, h2, h3⟩
        clear hef hstep hle2 hfu hEl lq lt1 hwf hwl2 hzz
        replace hnx := Lib.hid hnx; replace hend := Lib.hid hend; replace lt2 := Lib.hid lt2
        obtain ⟨M, hM⟩ : ∃ M, M = N.flatMap NdV.cells := ⟨_, rfl⟩
        obtain ⟨ME, hME⟩ : ∃ M, M = E.flatMap Ed.cells := ⟨_, rfl⟩
        obtain ⟨nN, hnN⟩ : ∃ n, n = N.length := ⟨_, rfl⟩
        obtain ⟨nE, hnE⟩ : ∃ n, n = E.length := ⟨_, rfl⟩
        have hpx := hp.out
        rw [← hM, ← hME, ← hnN, ← hnE] at hpx
        replace hp := Lib.hid hpx
        clear hpx
        rw [← hnN] at hl9
        rw [← hnE] at hl9e
        replace hM := Lib.hid hM; replace hME := Lib.hid hME; replace hnN := Lib.hid hnN; replace hnE := Lib.hid hnE
        go_upto_region 8 with fail
        go_cut [50] from 45 to 50 (fun s50 wx => s50 = .bool M8 ∧ Hp w [] (.box qq #[.slice nad nN ncp, .slice ead nE ecp, .slice none 0 0, .slice none 0 0, .int .i64 256] 27 :: .box q1 #[.slice (some ⟨b, 0, none⟩) n cap, .int .i64 (q.at_ : Int), .int .i64 q.bad] 76 :: .box q2 #[.slice none 0 0, .slice none 0 0, .slice none 0 0, .slice none 0 0, .int .i64 0] 27 :: .row 79 3 (.slice nad nN ncp) (nN) (M) :: .row 84 3 (.slice ead nE ecp) (nE) (ME) :: .row 88 6 (.slice none 0 0) (0) ([]) :: .row 94 2 (.slice none 0 0) (0) ([]) :: .row 71 4 (.slice (some ⟨b, 0, none⟩) n cap) n AW :: nrs) wx)
        case first =>
          have hm := hM8
          clear hM8 hnx hend
          subst hm
          have c0 := hp.out.cell (i := 1) rfl 0; have c1 := hp.out.cell (i := 1) rfl 1; have c2 := hp.out.cell (i := 1) rfl 2; simp at c0 c1 c2
          cases ma with
          | true =>
            go_wp2_with (go_at_call 27; (with_reducible refine (kca.out _ (hwa.out _ _ 7 hp.out rfl)).mono ?_); rintro e wa ⟨rfl, ba⟩; replace hp := Lib.hid (hp.out.below ba); clear ba; skip)
            go_meet
            exact ⟨rfl, hp.out⟩
          | false =>
            go_wp2_with (first | (go_at_call 27; (with_reducible refine (kca.out _ (hwa.out _ _ 7 hp.out rfl)).mono ?_); rintro e wa ⟨rfl, ba⟩; replace hp := Lib.hid (hp.out.below ba); clear ba c0 c1 c2; have c0 := hp.out.cell (i := 1) rfl 0; have c1 := hp.out.cell (i := 1) rfl 1; have c2 := hp.out.cell (i := 1) rfl 2; simp at c0 c1 c2) | (go_at_call 27; (with_reducible refine (kcb.out _ (hwa.out _ _ 7 hp.out rfl)).mono ?_); rintro e wb ⟨rfl, bb⟩; replace hp := Lib.hid (hp.out.below bb); clear bb; skip))
            go_meet
            exact ⟨by rw [Bool.false_or], hp.out⟩
        case rest =>
          clear hp kca kcb hM8
          obtain ⟨rfl, hp⟩ := hcut
          replace hp := Lib.hid hp
          cases M8 with
          | false =>
            obtain ⟨rfl, rfl, rfl⟩ := hend.out rfl
            clear hnx hend
            go_wp2
            go_meet
            exact ⟨N, _, _, _, _, nrs, rfl, hNn.out, by rw [← hM.out, ← hME.out, ← hnN.out, ← hnE.out]; exact hp.out⟩
          | true =>
            have hnx2 := Lib.hid (hnx.out rfl)
            clear hnx hend
            go_upto_region 9 with fail
            replace hp := Lib.hid ((hp.out.alloc #[.string ⟨#[]⟩, .string ⟨#[]⟩, .bool false] 84).alloc #[.string ⟨#[]⟩, .string ⟨#[]⟩, .slice none 0 0] 79)
            have hsz1 : ∀ (u : World) o, (u.alloc o).heap.size = u.heap.size + 1 := fun u o => by simp
            have hpx := hp.out
            rw [hsz1] at hpx
            replace hp := Lib.hid hpx
            clear hpx hsz1
            go_upto_region 10 with fail
            generalize (World.alloc _ _).alloc _ = W6 at hp ⊢
            generalize wc.heap.size + 1 = qy at hp ⊢
            generalize wc.heap.size = qx at hp ⊢
            have n1 : ¬ q1 = qx := hp.out.ne (i := 3) (j := 1) rfl rfl (by decide); have n1r : ¬ qx = q1 := fun e => n1 e.symm
            have n2 : ¬ q1 = qy := hp.out.ne (i := 3) (j := 0) rfl rfl (by decide); have n2r : ¬ qy = q1 := fun e => n2 e.symm
            have c0 := hp.out.cell (i := 3) rfl 0; have c1 := hp.out.cell (i := 3) rfl 1; have c2 := hp.out.cell (i := 3) rfl 2; simp at c0 c1 c2
            go_upto_region 11 with (go_at_call 28; (with_reducible refine (kce.out _ (hwa.out _ _ 9 hp.out rfl)).mono ?_); rintro e wd ⟨rfl, bd⟩; replace hp := Lib.hid (hp.out.below bd); clear bd c0 c1 c2; have c0 := hp.out.cell (i := 3) rfl 0; have c1 := hp.out.cell (i := 3) rfl 1; have c2 := hp.out.cell (i := 3) rfl 2; simp at c0 c1 c2; have e0 := hp.out.free (i := 3) rfl 0; have e1 := hp.out.free (i := 3) rfl 1; have e2 := hp.out.free (i := 3) rfl 2; have y0 := hp.out.cell (i := 1) rfl 0; have y1 := hp.out.cell (i := 1) rfl 1; have y2 := hp.out.cell (i := 1) rfl 2; simp at y0 y1 y2; have g0 := hp.out.free (i := 1) rfl 0; have g1 := hp.out.free (i := 1) rfl 1; have g2 := hp.out.free (i := 1) rfl 2)
            replace hp := Lib.hid ((((((hp.out.put (i := 3) rfl 0 (.slice (some ⟨b, 0, none⟩) n cap)).put (i := 3) rfl 1 (.int .i64 (t1.at_ : Int))).put (i := 3) rfl 2 (.int .i64 t1.bad)).put (i := 1) rfl 0 (.string (str ed.var))).put (i := 1) rfl 1 (.string (str ed.typ))).put (i := 1) rfl 2 (.bool ed.out))
            clear c0 c1 c2 e0 e1 e2 y0 y1 y2 g0 g1 g2
            generalize World.setCell (World.setCell (World.setCell (World.setCell (World.setCell (World.setCell _ _ _) _ _) _ _) _ _) _ _) _ _ = W7 at hp ⊢
            replace hp := Lib.hid (show Hp w [] (.box qy #[.string ⟨#[]⟩, .string ⟨#[]⟩, .slice none 0 0] 79 :: .box qx #[.string (str ed.var), .string (str ed.typ), .bool ed.out] 84 :: .box qq #[.slice nad nN ncp, .slice ead nE ecp, .slice none 0 0, .slice none 0 0, .int .i64 256] 27 :: .box q1 #[.slice (some ⟨b, 0, none⟩) n cap, .int .i64 (t1.at_ : Int), .int .i64 t1.bad] 76 :: .box q2 #[.slice none 0 0, .slice none 0 0, .slice none 0 0, .slice none 0 0, .int .i64 0] 27 :: .row 79 3 (.slice nad nN ncp) (nN) (M) :: .row 84 3 (.slice ead nE ecp) (nE) (ME) :: .row 88 6 (.slice none 0 0) (0) ([]) :: .row 94 2 (.slice none 0 0) (0) ([]) :: .row 71 4 (.slice (some ⟨b, 0, none⟩) n cap) n AW :: nrs) W7 from hp.out)
            have c0 := hp.out.cell (i := 3) rfl 0; have c1 := hp.out.cell (i := 3) rfl 1; have c2 := hp.out.cell (i := 3) rfl 2; simp at c0 c1 c2
            go_upto_region 12 with (go_at_call 26; (with_reducible refine (kcd.out _ (hwa.out _ _ 9 hp.out rfl)).mono ?_); rintro e wf ⟨nad2, ncp2, rfl, h5⟩; replace hp := Lib.hid (show Hp w [] (.box qy #[.string ⟨#[]⟩, .string ⟨#[]⟩, .slice none 0 0] 79 :: .box qx #[.string (str ed.var), .string (str ed.typ), .bool ed.out] 84 :: .box qq #[.slice nad nN ncp, .slice ead nE ecp, .slice none 0 0, .slice none 0 0, .int .i64 256] 27 :: .box q1 #[.slice (some ⟨b, 0, none⟩) n cap, .int .i64 (t1.at_ : Int), .int .i64 t1.bad] 76 :: .box q2 #[.slice none 0 0, .slice none 0 0, .slice none 0 0, .slice none 0 0, .int .i64 0] 27 :: .row 79 3 (.slice nad nN ncp) (nN) (M) :: .row 84 3 (.slice ead nE ecp) (nE) (ME) :: .row 88 6 (.slice none 0 0) (0) ([]) :: .row 94 2 (.slice none 0 0) (0) ([]) :: .row 71 4 (.slice (some ⟨b, 0, none⟩) n cap) n AW :: (nrs ++ [.row 98 4 (.slice nad2 nd.props.length ncp2) nd.props.length (nd.props.flatMap Pp.cells)])) wf from hpLast (show Hp w [] (.row 98 4 (.slice nad2 nd.props.length ncp2) nd.props.length (nd.props.flatMap Pp.cells) :: .box qy #[.string ⟨#[]⟩, .string ⟨#[]⟩, .slice none 0 0] 79 :: .box qx #[.string (str ed.var), .string (str ed.typ), .bool ed.out] 84 :: .box qq #[.slice nad nN ncp, .slice ead nE ecp, .slice none 0 0, .slice none 0 0, .int .i64 256] 27 :: .box q1 #[.slice (some ⟨b, 0, none⟩) n cap, .int .i64 (t1.at_ : Int), .int .i64 t1.bad] 76 :: .box q2 #[.slice none 0 0, .slice none 0 0, .slice none 0 0, .slice none 0 0, .int .i64 0] 27 :: .row 79 3 (.slice nad nN ncp) (nN) (M) :: .row 84 3 (.slice ead nE ecp) (nE) (ME) :: .row 88 6 (.slice none 0 0) (0) ([]) :: .row 94 2 (.slice none 0 0) (0) ([]) :: .row 71 4 (.slice (some ⟨b, 0, none⟩) n cap) n AW :: nrs) wf from hp.out.take h5)); clear h5; clear c0 c1 c2; have c0 := hp.out.cell (i := 3) rfl 0; have c1 := hp.out.cell (i := 3) rfl 1; have c2 := hp.out.cell (i := 3) rfl 2; simp at c0 c1 c2; have e0 := hp.out.free (i := 3) rfl 0; have e1 := hp.out.free (i := 3) rfl 1; have e2 := hp.out.free (i := 3) rfl 2; have y0 := hp.out.cell (i := 0) rfl 0; have y1 := hp.out.cell (i := 0) rfl 1; have y2 := hp.out.cell (i := 0) rfl 2; simp at y0 y1 y2; have g0 := hp.out.free (i := 0) rfl 0; have g1 := hp.out.free (i := 0) rfl 1; have g2 := hp.out.free (i := 0) rfl 2)
            replace hp := Lib.hid ((((((hp.out.put (i := 3) rfl 0 (.slice (some ⟨b, 0, none⟩) n cap)).put (i := 3) rfl 1 (.int .i64 (t2.at_ : Int))).put (i := 3) rfl 2 (.int .i64 t2.bad)).put (i := 0) rfl 0 (.string (str nd.var))).put (i := 0) rfl 1 (.string (str nd.label))).put (i := 0) rfl 2 (.slice nad2 nd.props.length ncp2))
            clear c0 c1 c2 e0 e1 e2 y0 y1 y2 g0 g1 g2 n1 n1r n2 n2r
            generalize World.setCell (World.setCell (World.setCell (World.setCell (World.setCell (World.setCell _ _ _) _ _) _ _) _ _) _ _) _ _ = W8 at hp ⊢
            replace hp := Lib.hid (show Hp w [] (.box qy #[.string (str nd.var), .string (str nd.label), .slice nad2 nd.props.length ncp2] 79 :: .box qx #[.string (str ed.var), .string (str ed.typ), .bool ed.out] 84 :: .box qq #[.slice nad nN ncp, .slice ead nE ecp, .slice none 0 0, .slice none 0 0, .int .i64 256] 27 :: .box q1 #[.slice (some ⟨b, 0, none⟩) n cap, .int .i64 (t2.at_ : Int), .int .i64 t2.bad] 76 :: .box q2 #[.slice none 0 0, .slice none 0 0, .slice none 0 0, .slice none 0 0, .int .i64 0] 27 :: .row 79 3 (.slice nad nN ncp) (nN) (M) :: .row 84 3 (.slice ead nE ecp) (nE) (ME) :: .row 88 6 (.slice none 0 0) (0) ([]) :: .row 94 2 (.slice none 0 0) (0) ([]) :: .row 71 4 (.slice (some ⟨b, 0, none⟩) n cap) n AW :: (nrs ++ [.row 98 4 (.slice nad2 nd.props.length ncp2) nd.props.length (nd.props.flatMap Pp.cells)])) W8 from hp.out)
            have hl9N : (N ++ [(⟨nd, nad2, ncp2⟩ : NdV)]).length = nN + 1 := by rw [List.length_append, hnN.out]; rfl
            have hl9E : (E ++ [ed]).length = nE + 1 := by rw [List.length_append, hnE.out]; rfl
            have hc9 : (N ++ [(⟨nd, nad2, ncp2⟩ : NdV)]).flatMap NdV.cells = M ++ [.string (str nd.var), .string (str nd.label), .slice nad2 nd.props.length ncp2] := by rw [List.flatMap_append, ← hM.out]; rfl
            have hc9E : (E ++ [ed]).flatMap Ed.cells = ME ++ [.string (str ed.var), .string (str ed.typ), .bool ed.out] := by rw [List.flatMap_append, ← hME.out]; rfl
            have hm9 : (N ++ [(⟨nd, nad2, ncp2⟩ : NdV)]).map NdV.nd = (N ++ [(⟨nd, none, 0⟩ : NdV)]).map NdV.nd := by rw [List.map_append, List.map_append]; rfl
            have hN9 : ∀ y ∈ N ++ [⟨nd, nad2, ncp2⟩], ndAt (nrs ++ [.row 98 4 (.slice nad2 nd.props.length ncp2) nd.props.length (nd.props.flatMap Pp.cells)]) y := fun y hy => by
              rcases List.mem_append.1 hy with h | h
              · exact ndAt.mono (hNn.out y h) (fun r hr => List.mem_append_left _ hr)
              · rw [List.mem_singleton.1 h]; exact List.mem_append_right _ (List.mem_cons_self ..)
            replace hl9N := Lib.hid hl9N; replace hl9E := Lib.hid hl9E; replace hc9 := Lib.hid hc9; replace hc9E := Lib.hid hc9E; replace hm9 := Lib.hid hm9; replace hN9 := Lib.hid hN9
            go_upto_region 12 with fail
            have hone := Lib.hid (show ∀ u ∈ (#[.string (str ed.var), .string (str ed.typ), .bool ed.out] : Array Value).toList, u.oneCell' = true from fun u hu => by simp at hu; rcases hu with rfl | rfl | rfl <;> rfl)
            have honn := Lib.hid (show ∀ u ∈ (#[.string (str nd.var), .string (str nd.label), .slice nad2 nd.props.length ncp2] : Array Value).toList, u.oneCell' = true from fun u hu => by simp at hu; rcases hu with rfl | rfl | rfl <;> rfl)
            have hsk := Lib.hid (show ∀ (rs : List Rs) (W' : World) (k : Nat), Hp w [] rs W' → rs[k + 2]? = some (.box qq #[.slice nad nN ncp, .slice ead nE ecp, .slice none 0 0, .slice none 0 0, .int .i64 256] 27) → rs[k + 1]? = some (.box qx #[.string (str ed.var), .string (str ed.typ), .bool ed.out] 84) → rs[k]? = some (.box qy #[.string (str nd.var), .string (str nd.label), .slice nad2 nd.props.length ncp2] 79) → (fun W' => W'.cell? ⟨qq, 0, none⟩ = some (.slice nad nN ncp) ∧ W'.cell? ⟨qq, 1, none⟩ = some (.slice ead nE ecp) ∧ W'.cell? ⟨qx, 0, none⟩ = some (.string (str ed.var)) ∧ W'.cell? ⟨qx, 1, none⟩ = some (.string (str ed.typ)) ∧ W'.cell? ⟨qx, 2, none⟩ = some (.bool ed.out) ∧ W'.cell? ⟨qy, 0, none⟩ = some (.string (str nd.var)) ∧ W'.cell? ⟨qy, 1, none⟩ = some (.string (str nd.label)) ∧ W'.cell? ⟨qy, 2, none⟩ = some (.slice nad2 nd.props.length ncp2)) W' from fun rs W' k h h1 h2 h3 => ⟨(h.cell h1 0).trans rfl, (h.cell h1 1).trans rfl, (h.cell h2 0).trans rfl, (h.cell h2 1).trans rfl, (h.cell h2 2).trans rfl, (h.cell h3 0).trans rfl, (h.cell h3 1).trans rfl, (h.cell h3 2).trans rfl⟩)
            have hsz1 := Lib.hid (show ∀ (u : World) o, (u.alloc o).heap.size = u.heap.size + 1 from fun u o => by simp)
            replace hp := Lib.hid hp.out.drew
            refine wp_region_noPanic ?_; refine till_region 11 (S := (fun W' => W'.cell? ⟨qq, 0, none⟩ = some (.slice nad nN ncp) ∧ W'.cell? ⟨qq, 1, none⟩ = some (.slice ead nE ecp) ∧ W'.cell? ⟨qx, 0, none⟩ = some (.string (str ed.var)) ∧ W'.cell? ⟨qx, 1, none⟩ = some (.string (str ed.typ)) ∧ W'.cell? ⟨qx, 2, none⟩ = some (.bool ed.out) ∧ W'.cell? ⟨qy, 0, none⟩ = some (.string (str nd.var)) ∧ W'.cell? ⟨qy, 1, none⟩ = some (.string (str nd.label)) ∧ W'.cell? ⟨qy, 2, none⟩ = some (.slice nad2 nd.props.length ncp2))) (by kernel_rfl) ?_ (fun hHeld => ?_); (focus ((try dsimp only); (first | exact hsk.out _ _ 0 hp.out rfl rfl rfl | exact hsk.out _ _ 1 hp.out rfl rfl rfl | exact hsk.out _ _ 2 hp.out rfl rfl rfl); done))
            generalize W8.drew = W9 at hp hHeld ⊢
            (refine till_t (i := 0) (d := 63) (oi := _) (v := ?_) rfl rfl (by kernel_rfl) (by kernel_rfl) (by kernel_rfl) (by kernel_rfl) (by rfl) ?_ (by assumption) ?_; rotate_left; (focus (intro w0 hSw; (try dsimp only at hSw); go_simp; (try with_reducible rfl); done)); try simp only [Act.put, List.setIfInBounds_toArray, List.set_cons_zero, List.set_cons_succ]); (refine till_t (i := 1) (d := 64) (oi := _) (v := ?_) rfl rfl (by kernel_rfl) (by kernel_rfl) (by kernel_rfl) (by kernel_rfl) (by rfl) ?_ (by assumption) ?_; rotate_left; (focus (intro w0 hSw; (try dsimp only at hSw); go_simp; (try with_reducible rfl); done)); try simp only [Act.put, List.setIfInBounds_toArray, List.set_cons_zero, List.set_cons_succ]); (refine till_t (i := 2) (d := 65) (oi := _) (v := ?_) rfl rfl (by kernel_rfl) (by kernel_rfl) (by kernel_rfl) (by kernel_rfl) (by rfl) ?_ (by assumption) ?_; rotate_left; (focus (intro w0 hSw; (try dsimp only at hSw); go_simp; (try with_reducible rfl); done)); try simp only [Act.put, List.setIfInBounds_toArray, List.set_cons_zero, List.set_cons_succ]); (refine till_t (i := 5) (d := 68) (oi := _) (v := ?_) rfl rfl (by kernel_rfl) (by kernel_rfl) (by kernel_rfl) (by kernel_rfl) (by rfl) ?_ (by assumption) ?_; rotate_left; (focus (intro w0 hSw; (try dsimp only at hSw); go_simp; (try with_reducible rfl); done)); try simp only [Act.put, List.setIfInBounds_toArray, List.set_cons_zero, List.set_cons_succ]); (refine till_t (i := 6) (d := 69) (oi := _) (v := ?_) rfl rfl (by kernel_rfl) (by kernel_rfl) (by kernel_rfl) (by kernel_rfl) (by rfl) ?_ (by assumption) ?_; rotate_left; (focus (intro w0 hSw; (try dsimp only at hSw); go_simp; (try with_reducible rfl); done)); try simp only [Act.put, List.setIfInBounds_toArray, List.set_cons_zero, List.set_cons_succ]); (refine till_t (i := 7) (d := 70) (oi := _) (v := ?_) rfl rfl (by kernel_rfl) (by kernel_rfl) (by kernel_rfl) (by kernel_rfl) (by rfl) ?_ (by assumption) ?_; rotate_left; (focus (intro w0 hSw; (try dsimp only at hSw); go_simp; (try with_reducible rfl); done)); try simp only [Act.put, List.setIfInBounds_toArray, List.set_cons_zero, List.set_cons_succ])
            refine till_ready (rs := [3, 8]) (by kernel_rfl) (by simp) ?_; refine TillReady.cons (o := _) rfl (fun K' hK => ?_) (TillReady.cons (o := _) rfl (fun K' hK => ?_) TillReady.nil)
            · go_simp; (replace hp := Lib.hid (hp.out.alloc #[.string (str ed.var), .string (str ed.typ), .bool ed.out] 84); skip); (try dsimp only); refine hK.out _ _ ?_ (fun hHeld2 => ?_); (focus ((try dsimp only); (first | exact hsk.out _ _ 0 hp.out rfl rfl rfl | exact hsk.out _ _ 1 hp.out rfl rfl rfl | exact hsk.out _ _ 2 hp.out rfl rfl rfl); done)); clear hK K'; clear hHeld; have hHeld := hHeld2; clear hHeld2; try simp only [Act.put, List.setIfInBounds_toArray, List.set_cons_zero, List.set_cons_succ]
              refine till_ready (rs := [4, 8]) (by kernel_rfl) (by simp) ?_; refine TillReady.cons (o := _) rfl (fun K' hK => ?_) (TillReady.cons (o := _) rfl (fun K' hK => ?_) TillReady.nil)
              · (refine step_append_sl_hpk rfl _ _ rfl Tryd.underlying23 edgeInfo rfl (by decide) (by decide) hp.out 7 rfl rfl rfl (box_sl2 hp.out (i := 0) rfl) rfl hone.out hl9e.out rfl rfl ?_; intro v6 w6 h6 hv6; obtain ⟨ad5, cp5, rfl⟩ := hv6; replace hp := Lib.hid h6; clear h6; skip); (try dsimp only); refine hK.out _ _ ?_ (fun hHeld2 => ?_); (focus ((try dsimp only); (first | exact hsk.out _ _ 0 hp.out rfl rfl rfl | exact hsk.out _ _ 1 hp.out rfl rfl rfl | exact hsk.out _ _ 2 hp.out rfl rfl rfl); done)); clear hK K'; clear hHeld; have hHeld := hHeld2; clear hHeld2; try simp only [Act.put, List.setIfInBounds_toArray, List.set_cons_zero, List.set_cons_succ]
                (refine till_t (i := 10) (d := 73) (oi := _) (v := ?_) rfl rfl (by kernel_rfl) (by kernel_rfl) (by kernel_rfl) (by kernel_rfl) (by rfl) ?_ (by assumption) ?_; rotate_left; (focus (intro w0 hSw; (try dsimp only at hSw); go_simp; (try with_reducible rfl); done)); try simp only [Act.put, List.setIfInBounds_toArray, List.set_cons_zero, List.set_cons_succ])
                (refine till_ready (rs := [8]) (by kernel_rfl) (by simp) ?_; refine TillReady.cons (o := _) rfl (fun K' hK => ?_) TillReady.nil; go_simp; (replace hp := Lib.hid (hp.out.alloc #[.string (str nd.var), .string (str nd.label), .slice nad2 nd.props.length ncp2] 79); skip); (try dsimp only); refine hK.out _ _ ?_ (fun hHeld2 => ?_); (focus ((try dsimp only); (first | exact hsk.out _ _ 0 hp.out rfl rfl rfl | exact hsk.out _ _ 1 hp.out rfl rfl rfl | exact hsk.out _ _ 2 hp.out rfl rfl rfl); done)); clear hK K'; clear hHeld; have hHeld := hHeld2; clear hHeld2; try simp only [Act.put, List.setIfInBounds_toArray, List.set_cons_zero, List.set_cons_succ])
                (refine till_ready (rs := [9]) (by kernel_rfl) (by simp) ?_; refine TillReady.cons (o := _) rfl (fun K' hK => ?_) TillReady.nil; (refine step_append_sl_hpk rfl _ _ rfl Tryd.underlying22 nodeInfo rfl (by decide) (by decide) hp.out 7 rfl rfl rfl (box_sl2 hp.out (i := 0) rfl) rfl honn.out hl9.out rfl rfl ?_; intro v6 w6 h6 hv6; obtain ⟨ad6, cp6, rfl⟩ := hv6; replace hp := Lib.hid h6; clear h6; skip; have f0 := hp.out.free (i := 4) rfl 0; have f1 := hp.out.free (i := 4) rfl 1; have m0 := hp.out.cell (i := 4) rfl 0; have m1 := hp.out.cell (i := 4) rfl 1; simp at m0 m1); (try dsimp only); refine hK.out _ _ ?_ (fun hHeld2 => ?_); (focus ((try dsimp only); (first | exact hsk.out _ _ 0 hp.out rfl rfl rfl | exact hsk.out _ _ 1 hp.out rfl rfl rfl | exact hsk.out _ _ 2 hp.out rfl rfl rfl); done)); clear hK K'; clear hHeld; have hHeld := hHeld2; clear hHeld2; try simp only [Act.put, List.setIfInBounds_toArray, List.set_cons_zero, List.set_cons_succ])
                (refine till_ready (rs := [11]) (by kernel_rfl) (by simp) ?_; refine TillReady.free (o := _) rfl (by kernel_rfl) (fun K' hK => ?_) TillReady.nil; go_simp; (replace hp := Lib.hid (hp.out.put (i := 4) rfl 1 (.slice ad5 (nE + 1) cp5)); clear m1 f1); (try dsimp only); refine hK.out _ _ ?_; clear hK K'; try simp only [Act.put, List.setIfInBounds_toArray, List.set_cons_zero, List.set_cons_succ])
                (refine till_ready (rs := [12]) (by kernel_rfl) (by simp) ?_; refine TillReady.free (o := _) rfl (by kernel_rfl) (fun K' hK => ?_) TillReady.nil; go_simp; (skip); (try dsimp only); refine hK.out _ _ ?_; clear hK K'; try simp only [Act.put, List.setIfInBounds_toArray, List.set_cons_zero, List.set_cons_succ])
                (refine till_ready (rs := [13]) (by kernel_rfl) (by simp) ?_; refine TillReady.free (o := _) rfl (by kernel_rfl) (fun K' hK => ?_) TillReady.nil; go_simp; (replace hp := Lib.hid (hp.out.put (i := 4) rfl 0 (.slice ad6 (nN + 1) cp6))); (try dsimp only); refine hK.out _ _ ?_; clear hK K'; try simp only [Act.put, List.setIfInBounds_toArray, List.set_cons_zero, List.set_cons_succ])
                refine till_done (by kernel_rfl) ?_ _; refine NoPanic.normal ?_
                have hpf : Hp w [] (.box qq #[.slice ad6 (nN + 1) cp6, .slice ad5 (nE + 1) cp5, .slice none 0 0, .slice none 0 0, .int .i64 256] 27 :: .box q1 #[.slice (some ⟨b, 0, none⟩) n cap, .int .i64 (t2.at_ : Int), .int .i64 t2.bad] 76 :: .box q2 #[.slice none 0 0, .slice none 0 0, .slice none 0 0, .slice none 0 0, .int .i64 0] 27 :: .row 79 3 (.slice ad6 (nN + 1) cp6) (nN + 1) (M ++ [.string (str nd.var), .string (str nd.label), .slice nad2 nd.props.length ncp2]) :: .row 84 3 (.slice ad5 (nE + 1) cp5) (nE + 1) (ME ++ [.string (str ed.var), .string (str ed.typ), .bool ed.out]) :: .row 88 6 (.slice none 0 0) (0) ([]) :: .row 94 2 (.slice none 0 0) (0) ([]) :: .row 71 4 (.slice (some ⟨b, 0, none⟩) n cap) n AW :: (nrs ++ [.row 98 4 (.slice nad2 nd.props.length ncp2) nd.props.length (nd.props.flatMap Pp.cells)])) _ := ((((hp.out.drop 0).drop 0).drop 0).drop 0)
                replace hpf := Lib.hid hpf; clear hp
                go_wp2
                go_roundg K
                case measure => omega
                case rel => exact ⟨t2, N ++ [⟨nd, nad2, ncp2⟩], _, _, E ++ [ed], _, _, _, by rw [hm9.out]; exact hnx2.out.1, lt2.out, hnx2.out.2.1, by rw [hl9N.out, hl9E.out, hnN.out, hnE.out]; have := hNl.out; omega, hnx2.out.2.2, hN9.out, by rw [hl9N.out, hl9E.out, hc9.out, hc9E.out]; exact hpf.out⟩
              · go_simp; (replace hp := Lib.hid (hp.out.alloc #[.string (str nd.var), .string (str nd.label), .slice nad2 nd.props.length ncp2] 79); have hpx := hp.out; rw [hsz1.out] at hpx; replace hp := Lib.hid hpx; clear hpx; skip); (try dsimp only); refine hK.out _ _ ?_ (fun hHeld2 => ?_); (focus ((try dsimp only); (first | exact hsk.out _ _ 0 hp.out rfl rfl rfl | exact hsk.out _ _ 1 hp.out rfl rfl rfl | exact hsk.out _ _ 2 hp.out rfl rfl rfl); done)); clear hK K'; clear hHeld; have hHeld := hHeld2; clear hHeld2; try simp only [Act.put, List.setIfInBounds_toArray, List.set_cons_zero, List.set_cons_succ]
                (refine till_ready (rs := [4]) (by kernel_rfl) (by simp) ?_; refine TillReady.cons (o := _) rfl (fun K' hK => ?_) TillReady.nil; (refine step_append_sl_hpk rfl _ _ rfl Tryd.underlying23 edgeInfo rfl (by decide) (by decide) hp.out 8 rfl rfl rfl (box_sl2 hp.out (i := 1) rfl) rfl hone.out hl9e.out rfl rfl ?_; intro v6 w6 h6 hv6; obtain ⟨ad5, cp5, rfl⟩ := hv6; replace hp := Lib.hid h6; clear h6; skip); (try dsimp only); refine hK.out _ _ ?_ (fun hHeld2 => ?_); (focus ((try dsimp only); (first | exact hsk.out _ _ 0 hp.out rfl rfl rfl | exact hsk.out _ _ 1 hp.out rfl rfl rfl | exact hsk.out _ _ 2 hp.out rfl rfl rfl); done)); clear hK K'; clear hHeld; have hHeld := hHeld2; clear hHeld2; try simp only [Act.put, List.setIfInBounds_toArray, List.set_cons_zero, List.set_cons_succ]); (refine till_t (i := 10) (d := 73) (oi := _) (v := ?_) rfl rfl (by kernel_rfl) (by kernel_rfl) (by kernel_rfl) (by kernel_rfl) (by rfl) ?_ (by assumption) ?_; rotate_left; (focus (intro w0 hSw; (try dsimp only at hSw); go_simp; (try with_reducible rfl); done)); try simp only [Act.put, List.setIfInBounds_toArray, List.set_cons_zero, List.set_cons_succ])
                (refine till_ready (rs := [9]) (by kernel_rfl) (by simp) ?_; refine TillReady.cons (o := _) rfl (fun K' hK => ?_) TillReady.nil; (refine step_append_sl_hpk rfl _ _ rfl Tryd.underlying22 nodeInfo rfl (by decide) (by decide) hp.out 7 rfl rfl rfl (box_sl2 hp.out (i := 0) rfl) rfl honn.out hl9.out rfl rfl ?_; intro v6 w6 h6 hv6; obtain ⟨ad6, cp6, rfl⟩ := hv6; replace hp := Lib.hid h6; clear h6; skip; have f0 := hp.out.free (i := 4) rfl 0; have f1 := hp.out.free (i := 4) rfl 1; have m0 := hp.out.cell (i := 4) rfl 0; have m1 := hp.out.cell (i := 4) rfl 1; simp at m0 m1); (try dsimp only); refine hK.out _ _ ?_ (fun hHeld2 => ?_); (focus ((try dsimp only); (first | exact hsk.out _ _ 0 hp.out rfl rfl rfl | exact hsk.out _ _ 1 hp.out rfl rfl rfl | exact hsk.out _ _ 2 hp.out rfl rfl rfl); done)); clear hK K'; clear hHeld; have hHeld := hHeld2; clear hHeld2; try simp only [Act.put, List.setIfInBounds_toArray, List.set_cons_zero, List.set_cons_succ])
                (refine till_ready (rs := [11]) (by kernel_rfl) (by simp) ?_; refine TillReady.free (o := _) rfl (by kernel_rfl) (fun K' hK => ?_) TillReady.nil; go_simp; (replace hp := Lib.hid (hp.out.put (i := 4) rfl 1 (.slice ad5 (nE + 1) cp5)); clear m1 f1); (try dsimp only); refine hK.out _ _ ?_; clear hK K'; try simp only [Act.put, List.setIfInBounds_toArray, List.set_cons_zero, List.set_cons_succ])
                (refine till_ready (rs := [12]) (by kernel_rfl) (by simp) ?_; refine TillReady.free (o := _) rfl (by kernel_rfl) (fun K' hK => ?_) TillReady.nil; go_simp; (skip); (try dsimp only); refine hK.out _ _ ?_; clear hK K'; try simp only [Act.put, List.setIfInBounds_toArray, List.set_cons_zero, List.set_cons_succ])
                (refine till_ready (rs := [13]) (by kernel_rfl) (by simp) ?_; refine TillReady.free (o := _) rfl (by kernel_rfl) (fun K' hK => ?_) TillReady.nil; go_simp; (replace hp := Lib.hid (hp.out.put (i := 4) rfl 0 (.slice ad6 (nN + 1) cp6))); (try dsimp only); refine hK.out _ _ ?_; clear hK K'; try simp only [Act.put, List.setIfInBounds_toArray, List.set_cons_zero, List.set_cons_succ])
                refine till_done (by kernel_rfl) ?_ _; refine NoPanic.normal ?_
                have hpf : Hp w [] (.box qq #[.slice ad6 (nN + 1) cp6, .slice ad5 (nE + 1) cp5, .slice none 0 0, .slice none 0 0, .int .i64 256] 27 :: .box q1 #[.slice (some ⟨b, 0, none⟩) n cap, .int .i64 (t2.at_ : Int), .int .i64 t2.bad] 76 :: .box q2 #[.slice none 0 0, .slice none 0 0, .slice none 0 0, .slice none 0 0, .int .i64 0] 27 :: .row 79 3 (.slice ad6 (nN + 1) cp6) (nN + 1) (M ++ [.string (str nd.var), .string (str nd.label), .slice nad2 nd.props.length ncp2]) :: .row 84 3 (.slice ad5 (nE + 1) cp5) (nE + 1) (ME ++ [.string (str ed.var), .string (str ed.typ), .bool ed.out]) :: .row 88 6 (.slice none 0 0) (0) ([]) :: .row 94 2 (.slice none 0 0) (0) ([]) :: .row 71 4 (.slice (some ⟨b, 0, none⟩) n cap) n AW :: (nrs ++ [.row 98 4 (.slice nad2 nd.props.length ncp2) nd.props.length (nd.props.flatMap Pp.cells)])) _ := ((((hp.out.drop 0).drop 0).drop 0).drop 0)
                replace hpf := Lib.hid hpf; clear hp
                go_wp2
                go_roundg K
                case measure => omega
                case rel => exact ⟨t2, N ++ [⟨nd, nad2, ncp2⟩], _, _, E ++ [ed], _, _, _, by rw [hm9.out]; exact hnx2.out.1, lt2.out, hnx2.out.2.1, by rw [hl9N.out, hl9E.out, hnN.out, hnE.out]; have := hNl.out; omega, hnx2.out.2.2, hN9.out, by rw [hl9N.out, hl9E.out, hc9.out, hc9E.out]; exact hpf.out⟩
            · go_simp; (replace hp := Lib.hid (hp.out.alloc #[.string (str nd.var), .string (str nd.label), .slice nad2 nd.props.length ncp2] 79); skip); (try dsimp only); refine hK.out _ _ ?_ (fun hHeld2 => ?_); (focus ((try dsimp only); (first | exact hsk.out _ _ 0 hp.out rfl rfl rfl | exact hsk.out _ _ 1 hp.out rfl rfl rfl | exact hsk.out _ _ 2 hp.out rfl rfl rfl); done)); clear hK K'; clear hHeld; have hHeld := hHeld2; clear hHeld2; try simp only [Act.put, List.setIfInBounds_toArray, List.set_cons_zero, List.set_cons_succ]
              (refine till_ready (rs := [3]) (by kernel_rfl) (by simp) ?_; refine TillReady.cons (o := _) rfl (fun K' hK => ?_) TillReady.nil; go_simp; (replace hp := Lib.hid (hp.out.alloc #[.string (str ed.var), .string (str ed.typ), .bool ed.out] 84); have hpx := hp.out; rw [hsz1.out] at hpx; replace hp := Lib.hid hpx; clear hpx; skip); (try dsimp only); refine hK.out _ _ ?_ (fun hHeld2 => ?_); (focus ((try dsimp only); (first | exact hsk.out _ _ 0 hp.out rfl rfl rfl | exact hsk.out _ _ 1 hp.out rfl rfl rfl | exact hsk.out _ _ 2 hp.out rfl rfl rfl); done)); clear hK K'; clear hHeld; have hHeld := hHeld2; clear hHeld2; try simp only [Act.put, List.setIfInBounds_toArray, List.set_cons_zero, List.set_cons_succ])
              (refine till_ready (rs := [4]) (by kernel_rfl) (by simp) ?_; refine TillReady.cons (o := _) rfl (fun K' hK => ?_) TillReady.nil; (refine step_append_sl_hpk rfl _ _ rfl Tryd.underlying23 edgeInfo rfl (by decide) (by decide) hp.out 8 rfl rfl rfl (box_sl2 hp.out (i := 0) rfl) rfl hone.out hl9e.out rfl rfl ?_; intro v6 w6 h6 hv6; obtain ⟨ad5, cp5, rfl⟩ := hv6; replace hp := Lib.hid h6; clear h6; skip); (try dsimp only); refine hK.out _ _ ?_ (fun hHeld2 => ?_); (focus ((try dsimp only); (first | exact hsk.out _ _ 0 hp.out rfl rfl rfl | exact hsk.out _ _ 1 hp.out rfl rfl rfl | exact hsk.out _ _ 2 hp.out rfl rfl rfl); done)); clear hK K'; clear hHeld; have hHeld := hHeld2; clear hHeld2; try simp only [Act.put, List.setIfInBounds_toArray, List.set_cons_zero, List.set_cons_succ]); (refine till_t (i := 10) (d := 73) (oi := _) (v := ?_) rfl rfl (by kernel_rfl) (by kernel_rfl) (by kernel_rfl) (by kernel_rfl) (by rfl) ?_ (by assumption) ?_; rotate_left; (focus (intro w0 hSw; (try dsimp only at hSw); go_simp; (try with_reducible rfl); done)); try simp only [Act.put, List.setIfInBounds_toArray, List.set_cons_zero, List.set_cons_succ])
              (refine till_ready (rs := [9]) (by kernel_rfl) (by simp) ?_; refine TillReady.cons (o := _) rfl (fun K' hK => ?_) TillReady.nil; (refine step_append_sl_hpk rfl _ _ rfl Tryd.underlying22 nodeInfo rfl (by decide) (by decide) hp.out 7 rfl rfl rfl (box_sl2 hp.out (i := 1) rfl) rfl honn.out hl9.out rfl rfl ?_; intro v6 w6 h6 hv6; obtain ⟨ad6, cp6, rfl⟩ := hv6; replace hp := Lib.hid h6; clear h6; skip; have f0 := hp.out.free (i := 4) rfl 0; have f1 := hp.out.free (i := 4) rfl 1; have m0 := hp.out.cell (i := 4) rfl 0; have m1 := hp.out.cell (i := 4) rfl 1; simp at m0 m1); (try dsimp only); refine hK.out _ _ ?_ (fun hHeld2 => ?_); (focus ((try dsimp only); (first | exact hsk.out _ _ 0 hp.out rfl rfl rfl | exact hsk.out _ _ 1 hp.out rfl rfl rfl | exact hsk.out _ _ 2 hp.out rfl rfl rfl); done)); clear hK K'; clear hHeld; have hHeld := hHeld2; clear hHeld2; try simp only [Act.put, List.setIfInBounds_toArray, List.set_cons_zero, List.set_cons_succ])
              (refine till_ready (rs := [11]) (by kernel_rfl) (by simp) ?_; refine TillReady.free (o := _) rfl (by kernel_rfl) (fun K' hK => ?_) TillReady.nil; go_simp; (replace hp := Lib.hid (hp.out.put (i := 4) rfl 1 (.slice ad5 (nE + 1) cp5)); clear m1 f1); (try dsimp only); refine hK.out _ _ ?_; clear hK K'; try simp only [Act.put, List.setIfInBounds_toArray, List.set_cons_zero, List.set_cons_succ])
              (refine till_ready (rs := [12]) (by kernel_rfl) (by simp) ?_; refine TillReady.free (o := _) rfl (by kernel_rfl) (fun K' hK => ?_) TillReady.nil; go_simp; (skip); (try dsimp only); refine hK.out _ _ ?_; clear hK K'; try simp only [Act.put, List.setIfInBounds_toArray, List.set_cons_zero, List.set_cons_succ])
              (refine till_ready (rs := [13]) (by kernel_rfl) (by simp) ?_; refine TillReady.free (o := _) rfl (by kernel_rfl) (fun K' hK => ?_) TillReady.nil; go_simp; (replace hp := Lib.hid (hp.out.put (i := 4) rfl 0 (.slice ad6 (nN + 1) cp6))); (try dsimp only); refine hK.out _ _ ?_; clear hK K'; try simp only [Act.put, List.setIfInBounds_toArray, List.set_cons_zero, List.set_cons_succ])
              refine till_done (by kernel_rfl) ?_ _; refine NoPanic.normal ?_
              have hpf : Hp w [] (.box qq #[.slice ad6 (nN + 1) cp6, .slice ad5 (nE + 1) cp5, .slice none 0 0, .slice none 0 0, .int .i64 256] 27 :: .box q1 #[.slice (some ⟨b, 0, none⟩) n cap, .int .i64 (t2.at_ : Int), .int .i64 t2.bad] 76 :: .box q2 #[.slice none 0 0, .slice none 0 0, .slice none 0 0, .slice none 0 0, .int .i64 0] 27 :: .row 79 3 (.slice ad6 (nN + 1) cp6) (nN + 1) (M ++ [.string (str nd.var), .string (str nd.label), .slice nad2 nd.props.length ncp2]) :: .row 84 3 (.slice ad5 (nE + 1) cp5) (nE + 1) (ME ++ [.string (str ed.var), .string (str ed.typ), .bool ed.out]) :: .row 88 6 (.slice none 0 0) (0) ([]) :: .row 94 2 (.slice none 0 0) (0) ([]) :: .row 71 4 (.slice (some ⟨b, 0, none⟩) n cap) n AW :: (nrs ++ [.row 98 4 (.slice nad2 nd.props.length ncp2) nd.props.length (nd.props.flatMap Pp.cells)])) _ := ((((hp.out.drop 0).drop 0).drop 0).drop 0)
              replace hpf := Lib.hid hpf; clear hp
              go_wp2
              go_roundg K
              case measure => omega
              case rel => exact ⟨t2, N ++ [⟨nd, nad2, ncp2⟩], _, _, E ++ [ed], _, _, _, by rw [hm9.out]; exact hnx2.out.1, lt2.out, hnx2.out.2.1, by rw [hl9N.out, hl9E.out, hnN.out, hnE.out]; have := hNl.out; omega, hnx2.out.2.2, hN9.out, by rw [hl9N.out, hl9E.out, hc9.out, hc9E.out]; exact hpf.out⟩
    case rest =>
      clear hp hES kc0 kcn lp2 hl0
      obtain ⟨N, nad, ncp, ead, ecp, nrs, hNx, hNn, hp⟩ := hcut
      obtain ⟨M, hM⟩ : ∃ M, M = N.flatMap NdV.cells := ⟨_, rfl⟩
      obtain ⟨ME, hME⟩ : ∃ M, M = es.flatMap Ed.cells := ⟨_, rfl⟩
      obtain ⟨nN, hnN⟩ : ∃ n, n = N.length := ⟨_, rfl⟩
      obtain ⟨nE, hnE⟩ : ∃ n, n = es.length := ⟨_, rfl⟩
      rw [← hM, ← hME, ← hnN, ← hnE] at hp
      replace hp := Lib.hid hp; replace hNx := Lib.hid hNx; replace hNn := Lib.hid hNn; replace hM := Lib.hid hM; replace hME := Lib.hid hME; replace hnN := Lib.hid hnN; replace hnE := Lib.hid hnE
      replace ls1 := ls1.out; replace hzz := hzz.out; replace hCS := hCS.out; replace hwf2 := hwf2.out
      have kcw := fun W (hb : WsAt ws b W) => ris_any (hzz s1 ls1 W hb) cap 1 1 rfl [119, 104, 101, 114, 101]
      have ee : str [119, 104, 101, 114, 101] = (⟨#[119, 104, 101, 114, 101]⟩ : ByteArray) := rfl
      rw [ee] at kcw
      clear ee
      obtain ⟨mw, hxmw⟩ : ∃ r, r = ris ws 1 [119, 104, 101, 114, 101] s1 := ⟨_, rfl⟩
      rw [← hxmw] at kcw
      unfold rconds at hCS
      rw [← hxmw] at hCS
      have hxb := hxmw.symm
      clear hxmw
      have hwb : mw = true → _ := fun h => ris_next hwf2 ls1 (by decide) (hxb.trans h)
      clear hxb
      simp only [rpA] at kcw
      rw [← hn.out] at kcw
      replace kcw := Lib.hid kcw
      replace ls1 := Lib.hid ls1; replace hzz := Lib.hid hzz; replace hCS := Lib.hid hCS; replace hwb := Lib.hid hwb; replace hwf2 := Lib.hid hwf2
      have c0 := hp.out.cell (i := 1) rfl 0; have c1 := hp.out.cell (i := 1) rfl 1; have c2 := hp.out.cell (i := 1) rfl 2; simp at c0 c1 c2
      go_upto_if 76 with (go_at_call 27; (with_reducible refine (kcw.out _ (hwa.out _ _ 7 hp.out rfl)).mono ?_); rintro e wa ⟨rfl, ba⟩; replace hp := Lib.hid (hp.out.below ba); clear ba c0 c1 c2; skip)
      go_cut [13] from 77 to 97 (fun s13 wx => ∃ (cad : Option Addr) (ccp : Nat), Hp w [] (.box qq #[.slice nad nN ncp, .slice ead nE ecp, .slice cad cs.length ccp, .slice none 0 0, .int .i64 256] 27 :: .box q1 #[.slice (some ⟨b, 0, none⟩) n cap, .int .i64 (s2.at_ : Int), .int .i64 s2.bad] 76 :: .box q2 #[.slice none 0 0, .slice none 0 0, .slice none 0 0, .slice none 0 0, .int .i64 0] 27 :: .row 79 3 (.slice nad nN ncp) (nN) (M) :: .row 84 3 (.slice ead nE ecp) (nE) (ME) :: .row 88 6 (.slice cad cs.length ccp) (cs.length) (cs.flatMap Cd.cells) :: .row 94 2 (.slice none 0 0) (0) ([]) :: .row 71 4 (.slice (some ⟨b, 0, none⟩) n cap) n AW :: nrs) wx)
      case first =>
        clear kcw hR4 hln2 hTS hIS hLS hEND ls2 ls3 ls4 ls5 ls6
        cases mw with
        | false =>
          have hf : (s2, cs) = (s1, []) := hCS.out
          clear hwb hCS
          injection hf with h1 h2
          subst h1 h2
          go_wp2
          go_meet
          exact ⟨_, _, hp.out⟩
        | true =>
          have hst := hwb.out rfl
          have hL := Lib.hid (show (s1.bad < 0 ∧ (rnext ws s1).at_ = s1.at_ + 1 ∧ rcondsF ws (ws.length + 1) s1 [] = (s2, cs)) ∨ (¬ s1.bad < 0 ∧ (s2, cs) = (s1, [])) from Or.inl ⟨hst.2.2, hst.1, hCS.out.symm⟩)
          clear hst hwb hCS
          go_wp2
          go_loopg [13] (ws.length + 1) (fun kk s13 wr => ∃ (c : Bool) (q : Rp) (acc : List Cd) (ad : Option Addr) (cp : Nat), s13 = .bool c ∧ Hp w [] (.box qq #[.slice nad nN ncp, .slice ead nE ecp, .slice ad acc.length cp, .slice none 0 0, .int .i64 256] 27 :: .box q1 #[.slice (some ⟨b, 0, none⟩) n cap, .int .i64 (q.at_ : Int), .int .i64 q.bad] 76 :: .box q2 #[.slice none 0 0, .slice none 0 0, .slice none 0 0, .slice none 0 0, .int .i64 0] 27 :: .row 79 3 (.slice nad nN ncp) (nN) (M) :: .row 84 3 (.slice ead nE ecp) (nE) (ME) :: .row 88 6 (.slice ad acc.length cp) (acc.length) (acc.flatMap Cd.cells) :: .row 94 2 (.slice none 0 0) (0) ([]) :: .row 71 4 (.slice (some ⟨b, 0, none⟩) n cap) n AW :: nrs) wr ∧ q.at_ < ws.length ∧ ((c = true ∧ q.bad < 0 ∧ (rnext ws q).at_ = q.at_ + 1 ∧ rcondsF ws kk q acc = (s2, cs) ∧ ws.length < q.at_ + kk ∧ acc.length ≤ q.at_) ∨ ((c = false ∨ ¬ q.bad < 0) ∧ (s2, cs) = (q, acc))))
          case atStart =>
            exact ⟨true, s1, [], none, 0, rfl, hp.out, ls1.out, by
              rcases hL.out with ⟨h1, h2, h3⟩ | ⟨h1, h2⟩
              · exact Or.inl ⟨rfl, h1, h2, h3, by omega, Nat.zero_le _⟩
              · exact Or.inr ⟨Or.inr (by omega), h2⟩⟩
          case round =>
            clear hp hL
            obtain ⟨c, q, acc, ad, cp, rfl, hp, lq, hcase⟩ := hrel
            have z2 := hp.cell (i := 1) rfl 2; simp at z2
            replace hp := Lib.hid hp
            rcases hcase with ⟨rfl, hgd, hnx, hpf, hfu, hal⟩ | ⟨hcb, hRr⟩
            · skip
              obtain ⟨K, rfl⟩ : ∃ K : Nat, gk = K + 1 := ⟨gk - 1, by omega⟩
              rw [rcondsF] at hpf
              have hle := rcond_le ws (rnext ws q)
              have hlr := rcond_lt (rnext_lt lq)
              have hwl := hwl.out; have hwf := hwf2.out; have hzz := hzz.out
              rw [hnx] at hle
              have kca := fun W => rnext_any ws b cap q W lq hwl
              have lr1 : (rnext ws q).at_ < ws.length := rnext_lt lq
              obtain ⟨r1, hx⟩ : ∃ r, r = rnext ws q := ⟨_, rfl⟩
              rw [← hx] at kca lr1 hpf hle hlr
              clear hx
              have kcb := fun W (hb : WsAt ws b W) => rcond_any (hzz r1 lr1 W hb) cap
              obtain ⟨⟨r2, ⟨cv, ck, co, ⟨vk, vn, vs⟩⟩⟩, hx⟩ : ∃ r, r = rcond ws r1 := ⟨_, rfl⟩
              rw [← hx] at kcb hpf hle hlr
              simp only at kcb hpf hle hlr
              have lr2 := hlr
              clear hx hlr
              have hnn : ris ws 1 [97, 110, 100] r2 = true → _ := fun hh => ris_next hwf lr2 (by decide) hh
              have kce := fun W (hb : WsAt ws b W) => ris_any (hzz r2 lr2 W hb) cap 1 1 rfl [97, 110, 100]
              have ee : str [97, 110, 100] = (⟨#[97, 110, 100]⟩ : ByteArray) := rfl
              rw [ee] at kce
              clear ee
              obtain ⟨m9, hxm9⟩ : ∃ r, r = ris ws 1 [97, 110, 100] r2 := ⟨_, rfl⟩
              rw [← hxm9] at kce hpf hnn
              clear hxm9
              obtain ⟨acc2, hacc⟩ : ∃ a, a = acc ++ [⟨cv, ck, co, ⟨vk, vn, vs⟩⟩] := ⟨_, rfl⟩
              rw [← hacc] at hpf
              have hal2 : acc2.length = acc.length + 1 := by rw [hacc]; simp
              have hcl : acc2.flatMap Cd.cells = acc.flatMap Cd.cells ++ [.string (str cv), .string (str ck), .int .i64 (co : Int), .int .i64 (vk : Int), .int .i64 vn, .string (str vs)] := by rw [hacc, List.flatMap_append]; rfl
              have hnext : (m9 = true ∧ r2.bad < 0 ∧ (rnext ws r2).at_ = r2.at_ + 1 ∧ rcondsF ws K r2 acc2 = (s2, cs) ∧ ws.length < r2.at_ + K ∧ acc2.length ≤ r2.at_) ∨ ((m9 = false ∨ ¬ r2.bad < 0) ∧ (s2, cs) = (r2, acc2)) := by
                cases m9
                · rw [if_neg (by decide)] at hpf
                  exact Or.inr ⟨Or.inl rfl, hpf.symm⟩
                · rw [if_pos rfl] at hpf
                  obtain ⟨i1, i2, i3⟩ := hnn rfl
                  exact Or.inl ⟨rfl, i3, i1, hpf, by omega, by omega⟩
              have hl9 := Lib.hid (show acc.length < 100000000 by omega)
              obtain ⟨MA, hMA⟩ : ∃ M, M = acc.flatMap Cd.cells := ⟨_, rfl⟩
              have hpx := hp.out
              rw [← hMA] at hpx hcl
              obtain ⟨na, hna⟩ : ∃ k, k = acc.length := ⟨_, rfl⟩
              rw [← hna] at hpx hal2 hl9
              replace hp := Lib.hid hpx
              clear hpx hMA hna hpf hle hfu hacc hal hnx hnn hwl hwf hzz lq
              simp only [rpA] at kca kcb kce
              rw [← hn.out] at kca kcb kce
              replace kca := Lib.hid kca; replace kcb := Lib.hid kcb; replace kce := Lib.hid kce
              replace hnext := Lib.hid hnext; replace hal2 := Lib.hid hal2; replace hcl := Lib.hid hcl; replace lr2 := Lib.hid lr2
              clear lr1
              go_upto_region 18 with fail
              clear z2 hgd
              replace hp := Lib.hid (hp.out.alloc #[.string ⟨#[]⟩, .string ⟨#[]⟩, .int .i64 0, .int .i64 0, .int .i64 0, .string ⟨#[]⟩] 88)
              generalize wr.alloc _ = W6 at hp ⊢
              generalize wr.heap.size = qx at hp ⊢
              have nx1 : ¬ q1 = qx := hp.out.ne (i := 2) (j := 0) rfl rfl (by decide)
              have n1x : ¬ qx = q1 := fun e => nx1 e.symm
              have c0 := hp.out.cell (i := 2) rfl 0; have c1 := hp.out.cell (i := 2) rfl 1; have c2 := hp.out.cell (i := 2) rfl 2; simp at c0 c1 c2
              go_upto_region 19 with (first | (go_at_call 29; (with_reducible refine (kca.out _).mono ?_); rintro e wd ⟨rfl, bd⟩; replace hp := Lib.hid (hp.out.below bd); clear bd c0 c1 c2; skip) | (go_at_call 30; (with_reducible refine (kcb.out _ (hwa.out _ _ 8 hp.out rfl)).mono ?_); rintro e wf ⟨rfl, bf⟩; replace hp := Lib.hid (hp.out.below bf); clear bf; have c0 := hp.out.cell (i := 2) rfl 0; have c1 := hp.out.cell (i := 2) rfl 1; have c2 := hp.out.cell (i := 2) rfl 2; simp at c0 c1 c2; have e0 := hp.out.free (i := 2) rfl 0; have e1 := hp.out.free (i := 2) rfl 1; have e2 := hp.out.free (i := 2) rfl 2; have y0 := hp.out.cell (i := 0) rfl 0; have y1 := hp.out.cell (i := 0) rfl 1; have y2 := hp.out.cell (i := 0) rfl 2; have y3 := hp.out.cell (i := 0) rfl 3; have y4 := hp.out.cell (i := 0) rfl 4; have y5 := hp.out.cell (i := 0) rfl 5; simp at y0 y1 y2 y3 y4 y5; have g0 := hp.out.free (i := 0) rfl 0; have g1 := hp.out.free (i := 0) rfl 1; have g2 := hp.out.free (i := 0) rfl 2; have g3 := hp.out.free (i := 0) rfl 3; have g4 := hp.out.free (i := 0) rfl 4; have g5 := hp.out.free (i := 0) rfl 5))
              replace hp := Lib.hid (((((((((hp.out.put (i := 2) rfl 0 (.slice (some ⟨b, 0, none⟩) n cap)).put (i := 2) rfl 1 (.int .i64 (r2.at_ : Int))).put (i := 2) rfl 2 (.int .i64 r2.bad)).put (i := 0) rfl 0 (.string (str cv))).put (i := 0) rfl 1 (.string (str ck))).put (i := 0) rfl 2 (.int .i64 (co : Int))).put (i := 0) rfl 3 (.int .i64 (vk : Int))).put (i := 0) rfl 4 (.int .i64 vn)).put (i := 0) rfl 5 (.string (str vs)))
              clear c0 c1 c2 e0 e1 e2 y0 y1 y2 y3 y4 y5 g0 g1 g2 g3 g4 g5 nx1 n1x
              generalize World.setCell (World.setCell (World.setCell (World.setCell (World.setCell (World.setCell (World.setCell (World.setCell (World.setCell _ _ _) _ _) _ _) _ _) _ _) _ _) _ _) _ _) _ _ = W7 at hp ⊢
              replace hp := Lib.hid (show Hp w [] (.box qx #[.string (str cv), .string (str ck), .int .i64 (co : Int), .int .i64 (vk : Int), .int .i64 vn, .string (str vs)] 88 :: .box qq #[.slice nad nN ncp, .slice ead nE ecp, .slice ad na cp, .slice none 0 0, .int .i64 256] 27 :: .box q1 #[.slice (some ⟨b, 0, none⟩) n cap, .int .i64 (r2.at_ : Int), .int .i64 r2.bad] 76 :: .box q2 #[.slice none 0 0, .slice none 0 0, .slice none 0 0, .slice none 0 0, .int .i64 0] 27 :: .row 79 3 (.slice nad nN ncp) (nN) (M) :: .row 84 3 (.slice ead nE ecp) (nE) (ME) :: .row 88 6 (.slice ad na cp) (na) (MA) :: .row 94 2 (.slice none 0 0) (0) ([]) :: .row 71 4 (.slice (some ⟨b, 0, none⟩) n cap) n AW :: nrs) W7 from hp.out)
              have y0 := hp.out.cell (i := 0) rfl 0; have y1 := hp.out.cell (i := 0) rfl 1; have y2 := hp.out.cell (i := 0) rfl 2; have y3 := hp.out.cell (i := 0) rfl 3; have y4 := hp.out.cell (i := 0) rfl 4; have y5 := hp.out.cell (i := 0) rfl 5; simp at y0 y1 y2 y3 y4 y5
              have x0 := hp.out.cell (i := 1) rfl 2; simp at x0
              go_upto_region 16 with (at_builtin; go_loud (refine wpList_append_hp rfl _ _ rfl Tryd.underlying24 condInfo rfl (by decide) (by decide) (hp.out.alloc_ (.cells #[.string (str cv), .string (str ck), .int .i64 (co : Int), .int .i64 (vk : Int), .int .i64 vn, .string (str vs)] 88)) 6 rfl rfl _ _ [.string (str cv), .string (str ck), .int .i64 (co : Int), .int .i64 (vk : Int), .int .i64 vn, .string (str vs)] rfl rfl (block_cells (heap_alloc_new _ _)) (by intro u hu; simp at hu; rcases hu with rfl | rfl | rfl | rfl | rfl | rfl <;> rfl) hl9.out ?_; intro v5 w5 hp5 hv5; replace hp := Lib.hid hp5; clear hp5; obtain ⟨ad5, cp5, rfl⟩ := hv5; clear y0 y1 y2 y3 y4 y5 x0; have x0 := hp.out.cell (i := 1) rfl 2; have f0 := hp.out.free (i := 1) rfl 2; simp at x0))
              replace hp := Lib.hid (hp.out.put (i := 1) rfl 2 (.slice (some ⟨ad5, 0, none⟩) (na + 1) cp5))
              clear x0 f0
              generalize World.setCell _ _ _ = W9 at hp ⊢
              replace hp := Lib.hid (show Hp w [] (.box qq #[.slice nad nN ncp, .slice ead nE ecp, .slice (some ⟨ad5, 0, none⟩) (na + 1) cp5, .slice none 0 0, .int .i64 256] 27 :: .box q1 #[.slice (some ⟨b, 0, none⟩) n cap, .int .i64 (r2.at_ : Int), .int .i64 r2.bad] 76 :: .box q2 #[.slice none 0 0, .slice none 0 0, .slice none 0 0, .slice none 0 0, .int .i64 0] 27 :: .row 79 3 (.slice nad nN ncp) (nN) (M) :: .row 84 3 (.slice ead nE ecp) (nE) (ME) :: .row 88 6 (.slice (some ⟨ad5, 0, none⟩) (na + 1) cp5) (na + 1) (MA ++ [.string (str cv), .string (str ck), .int .i64 (co : Int), .int .i64 (vk : Int), .int .i64 vn, .string (str vs)]) :: .row 94 2 (.slice none 0 0) (0) ([]) :: .row 71 4 (.slice (some ⟨b, 0, none⟩) n cap) n AW :: nrs) W9 from hp.out.drop 0)
              have c0 := hp.out.cell (i := 1) rfl 0; have c1 := hp.out.cell (i := 1) rfl 1; have c2 := hp.out.cell (i := 1) rfl 2; simp at c0 c1 c2
              go_wp2_with (go_at_call 27; (with_reducible refine (kce.out _ (hwa.out _ _ 7 hp.out rfl)).mono ?_); rintro e wj ⟨rfl, bj⟩; replace hp := Lib.hid (hp.out.below bj); clear bj c0 c1 c2; skip)
              go_roundg K
              case measure => omega
              case rel => exact ⟨m9, r2, acc2, _, _, rfl, by rw [hal2.out, hcl.out]; exact hp.out, lr2.out, hnext.out⟩
            · have hcd : (c = false) ∨ (c = true ∧ ¬ q.bad < 0) := by
                cases c
                · exact Or.inl rfl
                · exact Or.inr ⟨rfl, hcb.resolve_left (by decide)⟩
              clear hcb
              injection hRr with hr1 hr2
              subst hr1 hr2
              rcases hcd with rfl | ⟨rfl, hbd⟩
              · clear z2
                go_wp2
                go_meet
                exact ⟨_, _, hp.out⟩
              · go_wp2
                go_meet
                exact ⟨_, _, hp.out⟩
      case rest =>
        clear hp kcw hCS hwb ls1
        obtain ⟨cad, ccp, hp⟩ := hcut
        obtain ⟨MC, hMC⟩ : ∃ M, M = cs.flatMap Cd.cells := ⟨_, rfl⟩
        obtain ⟨nC, hnC⟩ : ∃ n, n = cs.length := ⟨_, rfl⟩
        rw [← hMC, ← hnC] at hp
        replace hp := Lib.hid hp; replace hMC := Lib.hid hMC; replace hnC := Lib.hid hnC
        replace ls2 := ls2.out; replace hzz := hzz.out; replace hTS := hTS.out
        have kct := fun W (hb : WsAt ws b W) => ris_any (hzz s2 ls2 W hb) cap 1 1 rfl [116, 101, 108, 108]
        have ee : str [116, 101, 108, 108] = (⟨#[116, 101, 108, 108]⟩ : ByteArray) := rfl
        rw [ee] at kct
        clear ee
        obtain ⟨mt, hxmt⟩ : ∃ r, r = ris ws 1 [116, 101, 108, 108] s2 := ⟨_, rfl⟩
        rw [← hxmt] at kct
        unfold rtell at hTS
        rw [← hxmt] at hTS
        clear hxmt
        have kcn := fun W (hb : WsAt ws b W) => rnow_any (hzz s2 ls2 W hb) cap
        have kcv := fun W => rwrong_any b cap ws.length s2 ((rnow ws s2).pos : Int) W
        unfold rhere at hTS
        obtain ⟨x, hx⟩ : ∃ x, x = rnow ws s2 := ⟨_, rfl⟩
        rw [← hx] at kcn kcv hTS
        clear hx
        obtain ⟨xk, xs, xn, xp⟩ := x
        simp only at kcn kcv hTS
        simp only [rpA] at kct kcn kcv
        rw [← hn.out] at kct kcn kcv
        replace kct := Lib.hid kct; replace kcn := Lib.hid kcn; replace kcv := Lib.hid kcv
        replace ls2 := Lib.hid ls2; replace hzz := Lib.hid hzz; replace hTS := Lib.hid hTS
        have c0 := hp.out.cell (i := 1) rfl 0; have c1 := hp.out.cell (i := 1) rfl 1; have c2 := hp.out.cell (i := 1) rfl 2; simp at c0 c1 c2
        go_upto_if 100 with (go_at_call 27; (with_reducible refine (kct.out _ (hwa.out _ _ 7 hp.out rfl)).mono ?_); rintro e wa ⟨rfl, ba⟩; replace hp := Lib.hid (hp.out.below ba); clear ba c0 c1 c2; skip)
        go_cut [] from 101 to 105 (fun wx => Hp w [] (.box qq #[.slice nad nN ncp, .slice ead nE ecp, .slice cad nC ccp, .slice none 0 0, .int .i64 256] 27 :: .box q1 #[.slice (some ⟨b, 0, none⟩) n cap, .int .i64 (s3.at_ : Int), .int .i64 s3.bad] 76 :: .box q2 #[.slice none 0 0, .slice none 0 0, .slice none 0 0, .slice none 0 0, .int .i64 0] 27 :: .row 79 3 (.slice nad nN ncp) (nN) (M) :: .row 84 3 (.slice ead nE ecp) (nE) (ME) :: .row 88 6 (.slice cad nC ccp) (nC) (MC) :: .row 94 2 (.slice none 0 0) (0) ([]) :: .row 71 4 (.slice (some ⟨b, 0, none⟩) n cap) n AW :: nrs) wx)
        case first =>
          cases mt with
          | true =>
            have hf : s3 = s2 := hTS.out
            clear hTS
            subst hf
            go_wp2
            go_meet
            exact hp.out
          | false =>
            have hf : s3 = rwrong s2 (xp : Int) := hTS.out
            clear hTS
            have kcv2 := kcv.out
            rw [← hf] at kcv2
            replace kcv := Lib.hid kcv2
            replace hf := Lib.hid hf; clear kcv2
            have hfl := fun W => field_pos W (xk : Int) (str xs) (xn : Int) (xp : Int)
            have c0 := hp.out.cell (i := 1) rfl 0; have c1 := hp.out.cell (i := 1) rfl 1; have c2 := hp.out.cell (i := 1) rfl 2; simp at c0 c1 c2
            go_upto_region 21 with fail
            replace hp := Lib.hid hp.out.drew
            clear c0 c1 c2
            refine wp_region_noPanic ?_; refine wp_region_held_drew (S := (fun W' => True)) (by kernel_rfl) ?_ (fun hHeld => ?_); (focus ((try dsimp only); (first | done | trivial); done))
            generalize World.drew _ = W8 at hp hHeld ⊢
            have c0 := hp.out.cell (i := 1) rfl 0; have c1 := hp.out.cell (i := 1) rfl 1; have c2 := hp.out.cell (i := 1) rfl 2; simp at c0 c1 c2
            refine wpAnyH_ready (rs := [0, 1]) (by kernel_rfl) (by simp) ?_; refine AllReadyH.cons (o := _) rfl (fun K' hK => ?_) (AllReadyH.cons (o := _) rfl (fun K' hK => ?_) AllReadyH.nil)
            · go_simp; (skip); (try dsimp only); refine hK.out _ _ ?_ (fun hHeld2 => ?_); (focus ((try dsimp only); (first | done | trivial); done)); clear hK K'; clear hHeld; have hHeld := hHeld2; clear hHeld2; try simp only [Act.put, List.setIfInBounds_toArray, List.set_cons_zero, List.set_cons_succ]
              (refine wpAnyH_ready (rs := [1]) (by kernel_rfl) (by simp) ?_; refine AllReadyH.cons (o := _) rfl (fun K' hK => ?_) AllReadyH.nil; go_simp; (skip); (try dsimp only); refine hK.out _ _ ?_ (fun hHeld2 => ?_); (focus ((try dsimp only); (first | done | trivial); done)); clear hK K'; clear hHeld; have hHeld := hHeld2; clear hHeld2; try simp only [Act.put, List.setIfInBounds_toArray, List.set_cons_zero, List.set_cons_succ])
              (refine wpAnyH_ready (rs := [2]) (by kernel_rfl) (by simp) ?_; refine AllReadyH.cons (o := _) rfl (fun K' hK => ?_) AllReadyH.nil; go_simp; ((go_at_call 32; (with_reducible refine (kcn.out _ (hwa.out _ _ 7 hp.out rfl)).mono ?_); rintro e wd ⟨rfl, bd⟩; replace hp := Lib.hid (hp.out.below bd); clear bd c0 c1 c2; have c0 := hp.out.cell (i := 1) rfl 0; have c1 := hp.out.cell (i := 1) rfl 1; have c2 := hp.out.cell (i := 1) rfl 2; simp at c0 c1 c2)); (try dsimp only); refine hK.out _ _ ?_ (fun hHeld2 => ?_); (focus ((try dsimp only); (first | done | trivial); done)); clear hK K'; clear hHeld; have hHeld := hHeld2; clear hHeld2; try simp only [Act.put, List.setIfInBounds_toArray, List.set_cons_zero, List.set_cons_succ])
              (refine wpAnyH_ready (rs := [3]) (by kernel_rfl) (by simp) ?_; refine AllReadyH.cons (o := _) rfl (fun K' hK => ?_) AllReadyH.nil; go_simp; (skip); (try dsimp only); refine hK.out _ _ ?_ (fun hHeld2 => ?_); (focus ((try dsimp only); (first | done | trivial); done)); clear hK K'; clear hHeld; have hHeld := hHeld2; clear hHeld2; try simp only [Act.put, List.setIfInBounds_toArray, List.set_cons_zero, List.set_cons_succ])
              (refine wpAnyH_ready (rs := [4]) (by kernel_rfl) (by simp) ?_; refine AllReadyH.cons (o := _) rfl (fun K' hK => ?_) AllReadyH.nil; go_simp; ((go_at_call 31; (with_reducible refine (kcv.out _).mono ?_); rintro e wf ⟨rfl, bf⟩; replace hp := Lib.hid (hp.out.below bf); clear bf c0 c1 c2; have c0 := hp.out.cell (i := 1) rfl 0; have c1 := hp.out.cell (i := 1) rfl 1; have c2 := hp.out.cell (i := 1) rfl 2; simp at c0 c1 c2; have e0 := hp.out.free (i := 1) rfl 0; have e1 := hp.out.free (i := 1) rfl 1; have e2 := hp.out.free (i := 1) rfl 2)); (try dsimp only); refine hK.out _ _ ?_ (fun hHeld2 => ?_); (focus ((try dsimp only); (first | done | trivial); done)); clear hK K'; clear hHeld; have hHeld := hHeld2; clear hHeld2; try simp only [Act.put, List.setIfInBounds_toArray, List.set_cons_zero, List.set_cons_succ])
              (refine wpAnyH_ready (rs := [5]) (by kernel_rfl) (by simp) ?_; refine AllReadyH.cons (o := _) rfl (fun K' hK => ?_) AllReadyH.nil; go_simp; (replace hp := Lib.hid (((hp.out.put (i := 1) rfl 0 (.slice (some ⟨b, 0, none⟩) n cap)).put (i := 1) rfl 1 (.int .i64 (s3.at_ : Int))).put (i := 1) rfl 2 (.int .i64 s3.bad))); (try dsimp only); refine hK.out _ _ ?_ (fun hHeld2 => ?_); (focus ((try dsimp only); (first | done | trivial); done)); clear hK K'; clear hHeld; have hHeld := hHeld2; clear hHeld2; try simp only [Act.put, List.setIfInBounds_toArray, List.set_cons_zero, List.set_cons_succ])
              refine wpAnyH_done (by kernel_rfl) ?_ _; refine NoPanic.normal ?_
              go_wp2
              go_meet
              exact hp.out
            · go_simp; (skip); (try dsimp only); refine hK.out _ _ ?_ (fun hHeld2 => ?_); (focus ((try dsimp only); (first | done | trivial); done)); clear hK K'; clear hHeld; have hHeld := hHeld2; clear hHeld2; try simp only [Act.put, List.setIfInBounds_toArray, List.set_cons_zero, List.set_cons_succ]
              refine wpAnyH_ready (rs := [0, 2]) (by kernel_rfl) (by simp) ?_; refine AllReadyH.cons (o := _) rfl (fun K' hK => ?_) (AllReadyH.cons (o := _) rfl (fun K' hK => ?_) AllReadyH.nil)
              · go_simp; (skip); (try dsimp only); refine hK.out _ _ ?_ (fun hHeld2 => ?_); (focus ((try dsimp only); (first | done | trivial); done)); clear hK K'; clear hHeld; have hHeld := hHeld2; clear hHeld2; try simp only [Act.put, List.setIfInBounds_toArray, List.set_cons_zero, List.set_cons_succ]
                (refine wpAnyH_ready (rs := [2]) (by kernel_rfl) (by simp) ?_; refine AllReadyH.cons (o := _) rfl (fun K' hK => ?_) AllReadyH.nil; go_simp; ((go_at_call 32; (with_reducible refine (kcn.out _ (hwa.out _ _ 7 hp.out rfl)).mono ?_); rintro e wd ⟨rfl, bd⟩; replace hp := Lib.hid (hp.out.below bd); clear bd c0 c1 c2; have c0 := hp.out.cell (i := 1) rfl 0; have c1 := hp.out.cell (i := 1) rfl 1; have c2 := hp.out.cell (i := 1) rfl 2; simp at c0 c1 c2)); (try dsimp only); refine hK.out _ _ ?_ (fun hHeld2 => ?_); (focus ((try dsimp only); (first | done | trivial); done)); clear hK K'; clear hHeld; have hHeld := hHeld2; clear hHeld2; try simp only [Act.put, List.setIfInBounds_toArray, List.set_cons_zero, List.set_cons_succ])
                (refine wpAnyH_ready (rs := [3]) (by kernel_rfl) (by simp) ?_; refine AllReadyH.cons (o := _) rfl (fun K' hK => ?_) AllReadyH.nil; go_simp; (skip); (try dsimp only); refine hK.out _ _ ?_ (fun hHeld2 => ?_); (focus ((try dsimp only); (first | done | trivial); done)); clear hK K'; clear hHeld; have hHeld := hHeld2; clear hHeld2; try simp only [Act.put, List.setIfInBounds_toArray, List.set_cons_zero, List.set_cons_succ])
                (refine wpAnyH_ready (rs := [4]) (by kernel_rfl) (by simp) ?_; refine AllReadyH.cons (o := _) rfl (fun K' hK => ?_) AllReadyH.nil; go_simp; ((go_at_call 31; (with_reducible refine (kcv.out _).mono ?_); rintro e wf ⟨rfl, bf⟩; replace hp := Lib.hid (hp.out.below bf); clear bf c0 c1 c2; have c0 := hp.out.cell (i := 1) rfl 0; have c1 := hp.out.cell (i := 1) rfl 1; have c2 := hp.out.cell (i := 1) rfl 2; simp at c0 c1 c2; have e0 := hp.out.free (i := 1) rfl 0; have e1 := hp.out.free (i := 1) rfl 1; have e2 := hp.out.free (i := 1) rfl 2)); (try dsimp only); refine hK.out _ _ ?_ (fun hHeld2 => ?_); (focus ((try dsimp only); (first | done | trivial); done)); clear hK K'; clear hHeld; have hHeld := hHeld2; clear hHeld2; try simp only [Act.put, List.setIfInBounds_toArray, List.set_cons_zero, List.set_cons_succ])
                (refine wpAnyH_ready (rs := [5]) (by kernel_rfl) (by simp) ?_; refine AllReadyH.cons (o := _) rfl (fun K' hK => ?_) AllReadyH.nil; go_simp; (replace hp := Lib.hid (((hp.out.put (i := 1) rfl 0 (.slice (some ⟨b, 0, none⟩) n cap)).put (i := 1) rfl 1 (.int .i64 (s3.at_ : Int))).put (i := 1) rfl 2 (.int .i64 s3.bad))); (try dsimp only); refine hK.out _ _ ?_ (fun hHeld2 => ?_); (focus ((try dsimp only); (first | done | trivial); done)); clear hK K'; clear hHeld; have hHeld := hHeld2; clear hHeld2; try simp only [Act.put, List.setIfInBounds_toArray, List.set_cons_zero, List.set_cons_succ])
                refine wpAnyH_done (by kernel_rfl) ?_ _; refine NoPanic.normal ?_
                go_wp2
                go_meet
                exact hp.out
              · go_simp; ((go_at_call 32; (with_reducible refine (kcn.out _ (hwa.out _ _ 7 hp.out rfl)).mono ?_); rintro e wd ⟨rfl, bd⟩; replace hp := Lib.hid (hp.out.below bd); clear bd c0 c1 c2; have c0 := hp.out.cell (i := 1) rfl 0; have c1 := hp.out.cell (i := 1) rfl 1; have c2 := hp.out.cell (i := 1) rfl 2; simp at c0 c1 c2)); (try dsimp only); refine hK.out _ _ ?_ (fun hHeld2 => ?_); (focus ((try dsimp only); (first | done | trivial); done)); clear hK K'; clear hHeld; have hHeld := hHeld2; clear hHeld2; try simp only [Act.put, List.setIfInBounds_toArray, List.set_cons_zero, List.set_cons_succ]
                refine wpAnyH_ready (rs := [0, 3]) (by kernel_rfl) (by simp) ?_; refine AllReadyH.cons (o := _) rfl (fun K' hK => ?_) (AllReadyH.cons (o := _) rfl (fun K' hK => ?_) AllReadyH.nil)
                · go_simp; (skip); (try dsimp only); refine hK.out _ _ ?_ (fun hHeld2 => ?_); (focus ((try dsimp only); (first | done | trivial); done)); clear hK K'; clear hHeld; have hHeld := hHeld2; clear hHeld2; try simp only [Act.put, List.setIfInBounds_toArray, List.set_cons_zero, List.set_cons_succ]
                  (refine wpAnyH_ready (rs := [3]) (by kernel_rfl) (by simp) ?_; refine AllReadyH.cons (o := _) rfl (fun K' hK => ?_) AllReadyH.nil; go_simp; (skip); (try dsimp only); refine hK.out _ _ ?_ (fun hHeld2 => ?_); (focus ((try dsimp only); (first | done | trivial); done)); clear hK K'; clear hHeld; have hHeld := hHeld2; clear hHeld2; try simp only [Act.put, List.setIfInBounds_toArray, List.set_cons_zero, List.set_cons_succ])
                  (refine wpAnyH_ready (rs := [4]) (by kernel_rfl) (by simp) ?_; refine AllReadyH.cons (o := _) rfl (fun K' hK => ?_) AllReadyH.nil; go_simp; ((go_at_call 31; (with_reducible refine (kcv.out _).mono ?_); rintro e wf ⟨rfl, bf⟩; replace hp := Lib.hid (hp.out.below bf); clear bf c0 c1 c2; have c0 := hp.out.cell (i := 1) rfl 0; have c1 := hp.out.cell (i := 1) rfl 1; have c2 := hp.out.cell (i := 1) rfl 2; simp at c0 c1 c2; have e0 := hp.out.free (i := 1) rfl 0; have e1 := hp.out.free (i := 1) rfl 1; have e2 := hp.out.free (i := 1) rfl 2)); (try dsimp only); refine hK.out _ _ ?_ (fun hHeld2 => ?_); (focus ((try dsimp only); (first | done | trivial); done)); clear hK K'; clear hHeld; have hHeld := hHeld2; clear hHeld2; try simp only [Act.put, List.setIfInBounds_toArray, List.set_cons_zero, List.set_cons_succ])
                  (refine wpAnyH_ready (rs := [5]) (by kernel_rfl) (by simp) ?_; refine AllReadyH.cons (o := _) rfl (fun K' hK => ?_) AllReadyH.nil; go_simp; (replace hp := Lib.hid (((hp.out.put (i := 1) rfl 0 (.slice (some ⟨b, 0, none⟩) n cap)).put (i := 1) rfl 1 (.int .i64 (s3.at_ : Int))).put (i := 1) rfl 2 (.int .i64 s3.bad))); (try dsimp only); refine hK.out _ _ ?_ (fun hHeld2 => ?_); (focus ((try dsimp only); (first | done | trivial); done)); clear hK K'; clear hHeld; have hHeld := hHeld2; clear hHeld2; try simp only [Act.put, List.setIfInBounds_toArray, List.set_cons_zero, List.set_cons_succ])
                  refine wpAnyH_done (by kernel_rfl) ?_ _; refine NoPanic.normal ?_
                  go_wp2
                  go_meet
                  exact hp.out
                · go_simp; (skip); (try dsimp only); refine hK.out _ _ ?_ (fun hHeld2 => ?_); (focus ((try dsimp only); (first | done | trivial); done)); clear hK K'; clear hHeld; have hHeld := hHeld2; clear hHeld2; try simp only [Act.put, List.setIfInBounds_toArray, List.set_cons_zero, List.set_cons_succ]
                  (refine wpAnyH_ready (rs := [0]) (by kernel_rfl) (by simp) ?_; refine AllReadyH.cons (o := _) rfl (fun K' hK => ?_) AllReadyH.nil; go_simp; (skip); (try dsimp only); refine hK.out _ _ ?_ (fun hHeld2 => ?_); (focus ((try dsimp only); (first | done | trivial); done)); clear hK K'; clear hHeld; have hHeld := hHeld2; clear hHeld2; try simp only [Act.put, List.setIfInBounds_toArray, List.set_cons_zero, List.set_cons_succ])
                  (refine wpAnyH_ready (rs := [4]) (by kernel_rfl) (by simp) ?_; refine AllReadyH.cons (o := _) rfl (fun K' hK => ?_) AllReadyH.nil; go_simp; ((go_at_call 31; (with_reducible refine (kcv.out _).mono ?_); rintro e wf ⟨rfl, bf⟩; replace hp := Lib.hid (hp.out.below bf); clear bf c0 c1 c2; have c0 := hp.out.cell (i := 1) rfl 0; have c1 := hp.out.cell (i := 1) rfl 1; have c2 := hp.out.cell (i := 1) rfl 2; simp at c0 c1 c2; have e0 := hp.out.free (i := 1) rfl 0; have e1 := hp.out.free (i := 1) rfl 1; have e2 := hp.out.free (i := 1) rfl 2)); (try dsimp only); refine hK.out _ _ ?_ (fun hHeld2 => ?_); (focus ((try dsimp only); (first | done | trivial); done)); clear hK K'; clear hHeld; have hHeld := hHeld2; clear hHeld2; try simp only [Act.put, List.setIfInBounds_toArray, List.set_cons_zero, List.set_cons_succ])
                  (refine wpAnyH_ready (rs := [5]) (by kernel_rfl) (by simp) ?_; refine AllReadyH.cons (o := _) rfl (fun K' hK => ?_) AllReadyH.nil; go_simp; (replace hp := Lib.hid (((hp.out.put (i := 1) rfl 0 (.slice (some ⟨b, 0, none⟩) n cap)).put (i := 1) rfl 1 (.int .i64 (s3.at_ : Int))).put (i := 1) rfl 2 (.int .i64 s3.bad))); (try dsimp only); refine hK.out _ _ ?_ (fun hHeld2 => ?_); (focus ((try dsimp only); (first | done | trivial); done)); clear hK K'; clear hHeld; have hHeld := hHeld2; clear hHeld2; try simp only [Act.put, List.setIfInBounds_toArray, List.set_cons_zero, List.set_cons_succ])
                  refine wpAnyH_done (by kernel_rfl) ?_ _; refine NoPanic.normal ?_
                  go_wp2
                  go_meet
                  exact hp.out
        case rest =>
          clear hp kct kcn kcv hTS ls2
          replace hp := Lib.hid hcut
          clear hcut
          replace hIS := hIS.out; replace hTN := hTN.out
          unfold ritems at hIS
          have hL := Lib.hid (show (s3.bad < 0 ∧ (rnext ws s3).at_ = s3.at_ + 1 ∧ ritemsF ws (ws.length + 1) s3 [] = (s4, is)) ∨ (¬ s3.bad < 0 ∧ (s4, is) = (s3, [])) by
            by_cases h : s3.bad < 0
            · rw [if_pos h] at hIS; exact Or.inl ⟨h, hTN h, hIS.symm⟩
            · rw [if_neg h] at hIS; exact Or.inr ⟨h, hIS⟩)
          clear hIS hTN
          go_upto_block 4 with fail
          go_cut [15] from 106 to 136 (fun s15 wx => ∃ (iad : Option Addr) (icp : Nat), Hp w [] (.box qq #[.slice nad nN ncp, .slice ead nE ecp, .slice cad nC ccp, .slice iad is.length icp, .int .i64 256] 27 :: .box q1 #[.slice (some ⟨b, 0, none⟩) n cap, .int .i64 (s4.at_ : Int), .int .i64 s4.bad] 76 :: .box q2 #[.slice none 0 0, .slice none 0 0, .slice none 0 0, .slice none 0 0, .int .i64 0] 27 :: .row 79 3 (.slice nad nN ncp) (nN) (M) :: .row 84 3 (.slice ead nE ecp) (nE) (ME) :: .row 88 6 (.slice cad nC ccp) (nC) (MC) :: .row 94 2 (.slice iad is.length icp) (is.length) (is.flatMap It.cells) :: .row 71 4 (.slice (some ⟨b, 0, none⟩) n cap) n AW :: nrs) wx)
          case first =>
            clear hR4 hln2 hLS hEND ls4 ls5 ls6
            go_wp2
            go_loopg [15] (ws.length + 1) (fun kk s15 wr => ∃ (c : Bool) (q : Rp) (acc : List It) (ad : Option Addr) (cp : Nat), s15 = .bool c ∧ Hp w [] (.box qq #[.slice nad nN ncp, .slice ead nE ecp, .slice cad nC ccp, .slice ad acc.length cp, .int .i64 256] 27 :: .box q1 #[.slice (some ⟨b, 0, none⟩) n cap, .int .i64 (q.at_ : Int), .int .i64 q.bad] 76 :: .box q2 #[.slice none 0 0, .slice none 0 0, .slice none 0 0, .slice none 0 0, .int .i64 0] 27 :: .row 79 3 (.slice nad nN ncp) (nN) (M) :: .row 84 3 (.slice ead nE ecp) (nE) (ME) :: .row 88 6 (.slice cad nC ccp) (nC) (MC) :: .row 94 2 (.slice ad acc.length cp) (acc.length) (acc.flatMap It.cells) :: .row 71 4 (.slice (some ⟨b, 0, none⟩) n cap) n AW :: nrs) wr ∧ q.at_ < ws.length ∧ ((c = true ∧ q.bad < 0 ∧ (rnext ws q).at_ = q.at_ + 1 ∧ ritemsF ws kk q acc = (s4, is) ∧ ws.length < q.at_ + kk ∧ acc.length ≤ q.at_) ∨ ((c = false ∨ ¬ q.bad < 0) ∧ (s4, is) = (q, acc))))
            case atStart =>
              exact ⟨true, s3, [], none, 0, rfl, hp.out, ls3.out, by
                rcases hL.out with ⟨h1, h2, h3⟩ | ⟨h1, h2⟩
                · exact Or.inl ⟨rfl, h1, h2, h3, by omega, Nat.zero_le _⟩
                · exact Or.inr ⟨Or.inr (by omega), h2⟩⟩
            case round =>
              clear hp hL
              obtain ⟨c, q, acc, ad, cp, rfl, hp, lq, hcase⟩ := hrel
              have z2 := hp.cell (i := 1) rfl 2; simp at z2
              replace hp := Lib.hid hp
              rcases hcase with ⟨rfl, hgd, hnx, hpf, hfu, hal⟩ | ⟨hcb, hRr⟩
              · skip
                obtain ⟨K, rfl⟩ : ∃ K : Nat, gk = K + 1 := ⟨gk - 1, by omega⟩
                rw [ritemsF] at hpf
                have hle := ritem_le ws q
                have hlr := ritem_lt lq
                have hwl := hwl.out; have hwf := hwf2.out; have hzz := hzz.out
                rw [hnx] at hle
                have hPd : ritem ws q = ((if ris ws 4 [46] (rname ws true (rnext ws q)).1 then rname ws true (rnext ws (rname ws true (rnext ws q)).1) else ((rname ws true (rnext ws q)).1, [])).1, ⟨(rname ws true (rnext ws q)).2, (if ris ws 4 [46] (rname ws true (rnext ws q)).1 then rname ws true (rnext ws (rname ws true (rnext ws q)).1) else ((rname ws true (rnext ws q)).1, [])).2⟩) := rfl
                have kca := fun W => rnext_any ws b cap q W lq hwl
                have lr1 : (rnext ws q).at_ < ws.length := rnext_lt lq
                obtain ⟨r1, hx⟩ : ∃ r, r = rnext ws q := ⟨_, rfl⟩
                rw [← hx] at kca lr1 hPd
                clear hx
                have kcb := fun W (hb : WsAt ws b W) => rname_any (hzz r1 lr1 W hb) cap true
                have lr2 : (rname ws true r1).1.at_ < ws.length := rname_lt lr1
                obtain ⟨⟨r2, iv⟩, hx⟩ : ∃ r, r = rname ws true r1 := ⟨_, rfl⟩
                rw [← hx] at kcb lr2 hPd
                simp only at kcb lr2 hPd
                clear hx
                have kcc := fun W (hb : WsAt ws b W) => ris_any (hzz r2 lr2 W hb) cap 4 4 rfl [46]
                have ee : str [46] = (⟨#[46]⟩ : ByteArray) := rfl
                rw [ee] at kcc
                clear ee
                obtain ⟨m46, hxm46⟩ : ∃ r, r = ris ws 4 [46] r2 := ⟨_, rfl⟩
                rw [← hxm46] at kcc hPd
                clear hxm46
                obtain ⟨⟨r3, ik⟩, hB⟩ : ∃ r, r = if m46 = true then rname ws true (rnext ws r2) else (r2, []) := ⟨_, rfl⟩
                rw [← hB] at hPd
                simp only at hPd
                rw [hPd] at hpf hle hlr
                simp only at hpf hle hlr
                have lr3 := hlr
                clear hlr hPd
                have hnn : ris ws 4 [44] r3 = true → _ := fun hh => ris_next hwf lr3 (by decide) hh
                have kce := fun W (hb : WsAt ws b W) => ris_any (hzz r3 lr3 W hb) cap 4 4 rfl [44]
                have ee : str [44] = (⟨#[44]⟩ : ByteArray) := rfl
                rw [ee] at kce
                clear ee
                obtain ⟨m9, hxm9⟩ : ∃ r, r = ris ws 4 [44] r3 := ⟨_, rfl⟩
                rw [← hxm9] at kce hpf hnn
                clear hxm9
                obtain ⟨acc2, hacc⟩ : ∃ a, a = acc ++ [⟨iv, ik⟩] := ⟨_, rfl⟩
                rw [← hacc] at hpf
                have hal2 : acc2.length = acc.length + 1 := by rw [hacc]; simp
                have hcl : acc2.flatMap It.cells = acc.flatMap It.cells ++ [.string (str iv), .string (str ik)] := by rw [hacc, List.flatMap_append]; rfl
                have hnext : (m9 = true ∧ r3.bad < 0 ∧ (rnext ws r3).at_ = r3.at_ + 1 ∧ ritemsF ws K r3 acc2 = (s4, is) ∧ ws.length < r3.at_ + K ∧ acc2.length ≤ r3.at_) ∨ ((m9 = false ∨ ¬ r3.bad < 0) ∧ (s4, is) = (r3, acc2)) := by
                  cases m9
                  · rw [if_neg (by decide)] at hpf
                    exact Or.inr ⟨Or.inl rfl, hpf.symm⟩
                  · rw [if_pos rfl] at hpf
                    obtain ⟨i1, i2, i3⟩ := hnn rfl
                    exact Or.inl ⟨rfl, i3, i1, hpf, by omega, by omega⟩
                have hl9 := Lib.hid (show acc.length < 100000000 by omega)
                obtain ⟨MA, hMA⟩ : ∃ M, M = acc.flatMap It.cells := ⟨_, rfl⟩
                have hpx := hp.out
                rw [← hMA] at hpx hcl
                obtain ⟨na, hna⟩ : ∃ k, k = acc.length := ⟨_, rfl⟩
                rw [← hna] at hpx hal2 hl9
                replace hp := Lib.hid hpx
                clear hpx hMA hna hpf hle hfu hacc hal hnx hnn hwl hwf hzz lq
                simp only [rpA] at kca kcb kcc kce
                rw [← hn.out] at kca kcb kcc kce
                replace kca := Lib.hid kca; replace kcb := Lib.hid kcb; replace kcc := Lib.hid kcc; replace kce := Lib.hid kce
                replace hnext := Lib.hid hnext; replace hal2 := Lib.hid hal2; replace hcl := Lib.hid hcl; replace lr3 := Lib.hid lr3
                clear lr1
                replace lr2 := Lib.hid lr2; replace hB := Lib.hid hB
                go_upto_region 26 with fail
                clear z2 hgd
                replace hp := Lib.hid (hp.out.alloc #[.string ⟨#[]⟩, .string ⟨#[]⟩] 94)
                generalize wr.alloc _ = W6 at hp ⊢
                generalize wr.heap.size = qx at hp ⊢
                have nx1 : ¬ q1 = qx := hp.out.ne (i := 2) (j := 0) rfl rfl (by decide)
                have n1x : ¬ qx = q1 := fun e => nx1 e.symm
                have c0 := hp.out.cell (i := 2) rfl 0; have c1 := hp.out.cell (i := 2) rfl 1; have c2 := hp.out.cell (i := 2) rfl 2; simp at c0 c1 c2
                go_upto_region 27 with (first | (go_at_call 29; (with_reducible refine (kca.out _).mono ?_); rintro e wd ⟨rfl, bd⟩; replace hp := Lib.hid (hp.out.below bd); clear bd c0 c1 c2; skip) | (go_at_call 33; (with_reducible refine (kcb.out _ (hwa.out _ _ 8 hp.out rfl)).mono ?_); rintro e wf ⟨rfl, bf⟩; replace hp := Lib.hid (hp.out.below bf); clear bf; have c0 := hp.out.cell (i := 2) rfl 0; have c1 := hp.out.cell (i := 2) rfl 1; have c2 := hp.out.cell (i := 2) rfl 2; simp at c0 c1 c2; have e0 := hp.out.free (i := 2) rfl 0; have e1 := hp.out.free (i := 2) rfl 1; have e2 := hp.out.free (i := 2) rfl 2; have y0 := hp.out.cell (i := 0) rfl 0; simp at y0; have g0 := hp.out.free (i := 0) rfl 0))
                replace hp := Lib.hid ((((hp.out.put (i := 2) rfl 0 (.slice (some ⟨b, 0, none⟩) n cap)).put (i := 2) rfl 1 (.int .i64 (r2.at_ : Int))).put (i := 2) rfl 2 (.int .i64 r2.bad)).put (i := 0) rfl 0 (.string (str iv)))
                clear c0 c1 c2 e0 e1 e2 y0 g0
                generalize World.setCell (World.setCell (World.setCell (World.setCell _ _ _) _ _) _ _) _ _ = W7 at hp ⊢
                replace hp := Lib.hid (show Hp w [] (.box qx #[.string (str iv), .string ⟨#[]⟩] 94 :: .box qq #[.slice nad nN ncp, .slice ead nE ecp, .slice cad nC ccp, .slice ad na cp, .int .i64 256] 27 :: .box q1 #[.slice (some ⟨b, 0, none⟩) n cap, .int .i64 (r2.at_ : Int), .int .i64 r2.bad] 76 :: .box q2 #[.slice none 0 0, .slice none 0 0, .slice none 0 0, .slice none 0 0, .int .i64 0] 27 :: .row 79 3 (.slice nad nN ncp) (nN) (M) :: .row 84 3 (.slice ead nE ecp) (nE) (ME) :: .row 88 6 (.slice cad nC ccp) (nC) (MC) :: .row 94 2 (.slice ad na cp) (na) (MA) :: .row 71 4 (.slice (some ⟨b, 0, none⟩) n cap) n AW :: nrs) W7 from hp.out)
                have c0 := hp.out.cell (i := 2) rfl 0; have c1 := hp.out.cell (i := 2) rfl 1; have c2 := hp.out.cell (i := 2) rfl 2; simp at c0 c1 c2
                go_upto_if 123 with (go_at_call 27; (with_reducible refine (kcc.out _ (hwa.out _ _ 8 hp.out rfl)).mono ?_); rintro e wh ⟨rfl, bh⟩; replace hp := Lib.hid (hp.out.below bh); clear bh c0 c1 c2; skip)
                go_cut [] from 124 to 130 (fun wx => Hp w [] (.box qx #[.string (str iv), .string (str ik)] 94 :: .box qq #[.slice nad nN ncp, .slice ead nE ecp, .slice cad nC ccp, .slice ad na cp, .int .i64 256] 27 :: .box q1 #[.slice (some ⟨b, 0, none⟩) n cap, .int .i64 (r3.at_ : Int), .int .i64 r3.bad] 76 :: .box q2 #[.slice none 0 0, .slice none 0 0, .slice none 0 0, .slice none 0 0, .int .i64 0] 27 :: .row 79 3 (.slice nad nN ncp) (nN) (M) :: .row 84 3 (.slice ead nE ecp) (nE) (ME) :: .row 88 6 (.slice cad nC ccp) (nC) (MC) :: .row 94 2 (.slice ad na cp) (na) (MA) :: .row 71 4 (.slice (some ⟨b, 0, none⟩) n cap) n AW :: nrs) wx)
                case first =>
                  clear hnext hal2 hcl hl9 kce
                  cases m46 with
                  | false =>
                    have hf : (r3, ik) = (r2, []) := hB.out
                    injection hf with h1 h2
                    subst h1 h2
                    clear hB
                    go_wp2
                    go_meet
                    exact hp.out
                  | true =>
                    have hf : (r3, ik) = rname ws true (rnext ws r2) := hB.out
                    clear hB
                    have lr2 := lr2.out; have hwl := hwl.out; have hzz := hzz.out; clear lr3
                    have kcd := fun W => rnext_any ws b cap r2 W lr2 hwl
                    have lr4 : (rnext ws r2).at_ < ws.length := rnext_lt lr2
                    obtain ⟨r4, hx⟩ : ∃ r, r = rnext ws r2 := ⟨_, rfl⟩
                    rw [← hx] at kcd lr4 hf
                    clear hx
                    have kcf := fun W (hb : WsAt ws b W) => rname_any (hzz r4 lr4 W hb) cap true
                    have lr3b : (rname ws true r4).1.at_ < ws.length := rname_lt lr4
                    obtain ⟨⟨r3b, ikb⟩, hx⟩ : ∃ r, r = rname ws true r4 := ⟨_, rfl⟩
                    rw [← hx] at kcf lr3b hf
                    simp only at kcf lr3b hf
                    clear hx
                    injection hf with h1 h2
                    subst h1 h2
                    simp only [rpA] at kcd kcf
                    rw [← hn.out] at kcd kcf
                    replace kcd := Lib.hid kcd; replace kcf := Lib.hid kcf
                    clear lr2 hwl hzz lr4 lr3b
                    have c0 := hp.out.cell (i := 2) rfl 0; have c1 := hp.out.cell (i := 2) rfl 1; have c2 := hp.out.cell (i := 2) rfl 2; simp at c0 c1 c2
                    go_wp2_with (first | (go_at_call 29; (with_reducible refine (kcd.out _).mono ?_); rintro e wi ⟨rfl, bi⟩; replace hp := Lib.hid (hp.out.below bi); clear bi c0 c1 c2; skip) | (go_at_call 33; (with_reducible refine (kcf.out _ (hwa.out _ _ 8 hp.out rfl)).mono ?_); rintro e wk ⟨rfl, bk⟩; replace hp := Lib.hid (hp.out.below bk); clear bk; have c0 := hp.out.cell (i := 2) rfl 0; have c1 := hp.out.cell (i := 2) rfl 1; have c2 := hp.out.cell (i := 2) rfl 2; simp at c0 c1 c2; have e0 := hp.out.free (i := 2) rfl 0; have e1 := hp.out.free (i := 2) rfl 1; have e2 := hp.out.free (i := 2) rfl 2; have y0 := hp.out.cell (i := 0) rfl 0; have y1 := hp.out.cell (i := 0) rfl 1; simp at y0 y1; have g0 := hp.out.free (i := 0) rfl 0; have g1 := hp.out.free (i := 0) rfl 1))
                    go_meet
                    exact ((((hp.out.put (i := 2) rfl 0 (.slice (some ⟨b, 0, none⟩) n cap)).put (i := 2) rfl 1 (.int .i64 (r3.at_ : Int))).put (i := 2) rfl 2 (.int .i64 r3.bad)).put (i := 0) rfl 1 (.string (str ik)))
                case rest =>
                  clear hp hB kca kcb kcc lr2
                  replace hp := Lib.hid hcut; clear hcut
                  have y0 := hp.out.cell (i := 0) rfl 0; have y1 := hp.out.cell (i := 0) rfl 1; simp at y0 y1
                  have x0 := hp.out.cell (i := 1) rfl 3; simp at x0
                  go_upto_region 24 with (at_builtin; go_loud (refine wpList_append_hp rfl _ _ rfl Tryd.underlying25 itemInfo rfl (by decide) (by decide) (hp.out.alloc_ (.cells #[.string (str iv), .string (str ik)] 94)) 7 rfl rfl _ _ [.string (str iv), .string (str ik)] rfl rfl (block_cells (heap_alloc_new _ _)) (by intro u hu; simp at hu; rcases hu with rfl | rfl <;> rfl) hl9.out ?_; intro v5 w5 hp5 hv5; replace hp := Lib.hid hp5; clear hp5; obtain ⟨ad5, cp5, rfl⟩ := hv5; clear y0 y1 x0; have x0 := hp.out.cell (i := 1) rfl 3; have f0 := hp.out.free (i := 1) rfl 3; simp at x0))
                  replace hp := Lib.hid (hp.out.put (i := 1) rfl 3 (.slice (some ⟨ad5, 0, none⟩) (na + 1) cp5))
                  clear x0 f0
                  generalize World.setCell _ _ _ = W9 at hp ⊢
                  replace hp := Lib.hid (show Hp w [] (.box qq #[.slice nad nN ncp, .slice ead nE ecp, .slice cad nC ccp, .slice (some ⟨ad5, 0, none⟩) (na + 1) cp5, .int .i64 256] 27 :: .box q1 #[.slice (some ⟨b, 0, none⟩) n cap, .int .i64 (r3.at_ : Int), .int .i64 r3.bad] 76 :: .box q2 #[.slice none 0 0, .slice none 0 0, .slice none 0 0, .slice none 0 0, .int .i64 0] 27 :: .row 79 3 (.slice nad nN ncp) (nN) (M) :: .row 84 3 (.slice ead nE ecp) (nE) (ME) :: .row 88 6 (.slice cad nC ccp) (nC) (MC) :: .row 94 2 (.slice (some ⟨ad5, 0, none⟩) (na + 1) cp5) (na + 1) (MA ++ [.string (str iv), .string (str ik)]) :: .row 71 4 (.slice (some ⟨b, 0, none⟩) n cap) n AW :: nrs) W9 from hp.out.drop 0)
                  have c0 := hp.out.cell (i := 1) rfl 0; have c1 := hp.out.cell (i := 1) rfl 1; have c2 := hp.out.cell (i := 1) rfl 2; simp at c0 c1 c2
                  go_wp2_with (go_at_call 27; (with_reducible refine (kce.out _ (hwa.out _ _ 7 hp.out rfl)).mono ?_); rintro e wj ⟨rfl, bj⟩; replace hp := Lib.hid (hp.out.below bj); clear bj c0 c1 c2; skip)
                  go_roundg K
                  case measure => omega
                  case rel => exact ⟨m9, r3, acc2, _, _, rfl, by rw [hal2.out, hcl.out]; exact hp.out, lr3.out, hnext.out⟩
              · have hcd : (c = false) ∨ (c = true ∧ ¬ q.bad < 0) := by
                  cases c
                  · exact Or.inl rfl
                  · exact Or.inr ⟨rfl, hcb.resolve_left (by decide)⟩
                clear hcb
                injection hRr with hr1 hr2
                subst hr1 hr2
                rcases hcd with rfl | ⟨rfl, hbd⟩
                · clear z2
                  go_wp2
                  go_meet
                  exact ⟨_, _, hp.out⟩
                · go_wp2
                  go_meet
                  exact ⟨_, _, hp.out⟩
          case rest =>
            clear hp hL ls3
            obtain ⟨iad, icp, hp⟩ := hcut
            obtain ⟨MI, hMI⟩ : ∃ M, M = is.flatMap It.cells := ⟨_, rfl⟩
            obtain ⟨nI, hnI⟩ : ∃ n, n = is.length := ⟨_, rfl⟩
            rw [← hMI, ← hnI] at hp
            replace hp := Lib.hid hp; replace hMI := Lib.hid hMI; replace hnI := Lib.hid hnI
            replace ls4 := ls4.out; replace hzz := hzz.out; replace hLS := hLS.out
            have kcl := fun W (hb : WsAt ws b W) => ris_any (hzz s4 ls4 W hb) cap 1 1 rfl [108, 105, 109, 105, 116]
            have ee : str [108, 105, 109, 105, 116] = (⟨#[108, 105, 109, 105, 116]⟩ : ByteArray) := rfl
            rw [ee] at kcl
            clear ee
            obtain ⟨ml, hxml⟩ : ∃ r, r = ris ws 1 [108, 105, 109, 105, 116] s4 := ⟨_, rfl⟩
            rw [← hxml] at kcl
            unfold rlim at hLS
            rw [← hxml] at hLS
            clear hxml
            simp only [rpA] at kcl
            rw [← hn.out] at kcl
            replace kcl := Lib.hid kcl
            replace ls4 := Lib.hid ls4; replace hzz := Lib.hid hzz; replace hLS := Lib.hid hLS
            have c0 := hp.out.cell (i := 1) rfl 0; have c1 := hp.out.cell (i := 1) rfl 1; have c2 := hp.out.cell (i := 1) rfl 2; simp at c0 c1 c2
            go_upto_if 138 with (go_at_call 27; (with_reducible refine (kcl.out _ (hwa.out _ _ 7 hp.out rfl)).mono ?_); rintro e wa ⟨rfl, ba⟩; replace hp := Lib.hid (hp.out.below ba); clear ba c0 c1 c2; skip)
            go_cut [] from 139 to 160 (fun wx => Hp w [] (.box qq #[.slice nad nN ncp, .slice ead nE ecp, .slice cad nC ccp, .slice iad nI icp, .int .i64 (lm : Int)] 27 :: .box q1 #[.slice (some ⟨b, 0, none⟩) n cap, .int .i64 (s5.at_ : Int), .int .i64 s5.bad] 76 :: .box q2 #[.slice none 0 0, .slice none 0 0, .slice none 0 0, .slice none 0 0, .int .i64 0] 27 :: .row 79 3 (.slice nad nN ncp) (nN) (M) :: .row 84 3 (.slice ead nE ecp) (nE) (ME) :: .row 88 6 (.slice cad nC ccp) (nC) (MC) :: .row 94 2 (.slice iad nI icp) (nI) (MI) :: .row 71 4 (.slice (some ⟨b, 0, none⟩) n cap) n AW :: nrs) wx)
            case first =>
              clear hR4 hln2 hEND ls5 ls6 kcl
              cases ml with
              | false =>
                have hf : (s5, lm) = (s4, 256) := hLS.out
                clear hLS
                injection hf with h1 h2
                subst h1 h2
                go_wp2
                go_meet
                exact hp.out
              | true =>
                have hf : (s5, lm) = (rnext ws (rlimW ws (rnext ws s4)), (rnow ws (rlimW ws (rnext ws s4))).n) := hLS.out
                clear hLS
                have ls4 := ls4.out; have hwl := hwl.out; have hzz := hzz.out
                have kca := fun W => rnext_any ws b cap s4 W ls4 hwl
                have lt1 : (rnext ws s4).at_ < ws.length := rnext_lt ls4
                obtain ⟨t1, hx⟩ : ∃ r, r = rnext ws s4 := ⟨_, rfl⟩
                rw [← hx] at kca lt1 hf
                clear hx
                have kcb := fun W (hb : WsAt ws b W) => rnow_any (hzz t1 lt1 W hb) cap
                have kcv := fun W => rwrong_any b cap ws.length t1 ((rnow ws t1).pos : Int) W
                have lt2 : (rlimW ws t1).at_ < ws.length := rlimW_lt lt1
                obtain ⟨t2, hT2⟩ : ∃ r, r = rlimW ws t1 := ⟨_, rfl⟩
                rw [← hT2] at hf lt2
                unfold rlimW rhere at hT2
                obtain ⟨x, hx⟩ : ∃ x, x = rnow ws t1 := ⟨_, rfl⟩
                rw [← hx] at kcb kcv hT2
                clear hx
                obtain ⟨xk, xs, xn, xp⟩ := x
                simp only at kcb kcv hT2
                have kcd := fun W (hb : WsAt ws b W) => rnow_any (hzz t2 lt2 W hb) cap
                obtain ⟨y, hy⟩ : ∃ x, x = rnow ws t2 := ⟨_, rfl⟩
                rw [← hy] at kcd hf
                clear hy
                obtain ⟨yk, ys, yn, yp⟩ := y
                simp only at kcd hf
                have kce := fun W => rnext_any ws b cap t2 W lt2 hwl
                have lt3 : (rnext ws t2).at_ < ws.length := rnext_lt lt2
                obtain ⟨t3, hx⟩ : ∃ r, r = rnext ws t2 := ⟨_, rfl⟩
                rw [← hx] at kce lt3 hf
                clear hx
                injection hf with h1 h2
                subst h1 h2
                simp only [rpA] at kca kcb kcv kcd kce
                rw [← hn.out] at kca kcb kcv kcd kce
                replace kca := Lib.hid kca; replace kcb := Lib.hid kcb; replace kcv := Lib.hid kcv; replace kcd := Lib.hid kcd; replace kce := Lib.hid kce
                clear ls4 hwl hzz lt1 lt2 lt3
                have hfn := fun W => field_num W (yk : Int) (str ys) (lm : Int) (yp : Int)
                replace hT2 := Lib.hid hT2
                have c0 := hp.out.cell (i := 1) rfl 0; have c1 := hp.out.cell (i := 1) rfl 1; have c2 := hp.out.cell (i := 1) rfl 2; simp at c0 c1 c2
                go_upto_region 32 with (go_at_call 29; (with_reducible refine (kca.out _).mono ?_); rintro e wd ⟨rfl, bd⟩; replace hp := Lib.hid (hp.out.below bd); clear bd c0 c1 c2; have c0 := hp.out.cell (i := 1) rfl 0; have c1 := hp.out.cell (i := 1) rfl 1; have c2 := hp.out.cell (i := 1) rfl 2; simp at c0 c1 c2; have e0 := hp.out.free (i := 1) rfl 0; have e1 := hp.out.free (i := 1) rfl 1; have e2 := hp.out.free (i := 1) rfl 2)
                replace hp := Lib.hid (((hp.out.put (i := 1) rfl 0 (.slice (some ⟨b, 0, none⟩) n cap)).put (i := 1) rfl 1 (.int .i64 (t1.at_ : Int))).put (i := 1) rfl 2 (.int .i64 t1.bad))
                clear c0 c1 c2 e0 e1 e2
                generalize World.setCell (World.setCell (World.setCell _ _ _) _ _) _ _ = W6 at hp ⊢
                replace hp := Lib.hid (show Hp w [] (.box qq #[.slice nad nN ncp, .slice ead nE ecp, .slice cad nC ccp, .slice iad nI icp, .int .i64 256] 27 :: .box q1 #[.slice (some ⟨b, 0, none⟩) n cap, .int .i64 (t1.at_ : Int), .int .i64 t1.bad] 76 :: .box q2 #[.slice none 0 0, .slice none 0 0, .slice none 0 0, .slice none 0 0, .int .i64 0] 27 :: .row 79 3 (.slice nad nN ncp) (nN) (M) :: .row 84 3 (.slice ead nE ecp) (nE) (ME) :: .row 88 6 (.slice cad nC ccp) (nC) (MC) :: .row 94 2 (.slice iad nI icp) (nI) (MI) :: .row 71 4 (.slice (some ⟨b, 0, none⟩) n cap) n AW :: nrs) W6 from hp.out)
                have c0 := hp.out.cell (i := 1) rfl 0; have c1 := hp.out.cell (i := 1) rfl 1; have c2 := hp.out.cell (i := 1) rfl 2; simp at c0 c1 c2
                go_upto_region 33 with (go_at_call 32; (with_reducible refine (kcb.out _ (hwa.out _ _ 7 hp.out rfl)).mono ?_); rintro e wf ⟨rfl, bf⟩; replace hp := Lib.hid (hp.out.below bf); clear bf c0 c1 c2; skip)
                replace hp := Lib.hid (hp.out.alloc #[.int .i64 (xk : Int), .string (str xs), .int .i64 (xn : Int), .int .i64 (xp : Int)] 71)
                generalize wf.alloc _ = W7 at hp ⊢
                generalize wf.heap.size = qw at hp ⊢
                obtain ⟨B, hB⟩ : ∃ B : Bool, B = decide (xk ≠ 2 ∨ 256 < xn) := ⟨_, rfl⟩
                go_cut [150] from 143 to 150 (fun s150 wx => s150 = .bool B ∧ Hp w [] (.box qw #[.int .i64 (xk : Int), .string (str xs), .int .i64 (xn : Int), .int .i64 (xp : Int)] 71 :: .box qq #[.slice nad nN ncp, .slice ead nE ecp, .slice cad nC ccp, .slice iad nI icp, .int .i64 256] 27 :: .box q1 #[.slice (some ⟨b, 0, none⟩) n cap, .int .i64 (t1.at_ : Int), .int .i64 t1.bad] 76 :: .box q2 #[.slice none 0 0, .slice none 0 0, .slice none 0 0, .slice none 0 0, .int .i64 0] 27 :: .row 79 3 (.slice nad nN ncp) (nN) (M) :: .row 84 3 (.slice ead nE ecp) (nE) (ME) :: .row 88 6 (.slice cad nC ccp) (nC) (MC) :: .row 94 2 (.slice iad nI icp) (nI) (MI) :: .row 71 4 (.slice (some ⟨b, 0, none⟩) n cap) n AW :: nrs) wx)
                case first =>
                  have z0 := hp.out.cell (i := 0) rfl 0; have z2 := hp.out.cell (i := 0) rfl 2; simp at z0 z2
                  clear hT2
                  by_cases h2 : xk = 2
                  · have p2 : ((xk : Int) != 2) = false := by rw [bne_eq_false_iff_eq]; omega
                    by_cases h3 : xn ≤ 256
                    · have p3 : ¬ (256 : Int) < (xn : Int) := by omega
                      have hB2 : B = false := by rw [hB, decide_eq_false (by omega)]
                      clear hB h2 h3
                      subst hB2
                      go_wp2
                      go_meet
                      exact ⟨rfl, hp.out⟩
                    · have p3 : (256 : Int) < (xn : Int) := by omega
                      have hB2 : B = true := by rw [hB, decide_eq_true (by omega)]
                      clear hB h2 h3
                      subst hB2
                      go_wp2
                      go_meet
                      exact ⟨rfl, hp.out⟩
                  · have p2 : ((xk : Int) != 2) = true := by rw [bne_iff_ne]; omega
                    have hB2 : B = true := by rw [hB, decide_eq_true (Or.inl h2)]
                    clear hB h2
                    subst hB2
                    go_wp2
                    go_meet
                    exact ⟨rfl, hp.out⟩
                case rest =>
                  clear hp
                  obtain ⟨rfl, hp⟩ := hcut
                  replace hp := Lib.hid hp
                  go_upto_if 150 with fail
                  go_cut [] from 151 to 154 (fun wx => Hp w [] (.box qw #[.int .i64 (xk : Int), .string (str xs), .int .i64 (xn : Int), .int .i64 (xp : Int)] 71 :: .box qq #[.slice nad nN ncp, .slice ead nE ecp, .slice cad nC ccp, .slice iad nI icp, .int .i64 256] 27 :: .box q1 #[.slice (some ⟨b, 0, none⟩) n cap, .int .i64 (t2.at_ : Int), .int .i64 t2.bad] 76 :: .box q2 #[.slice none 0 0, .slice none 0 0, .slice none 0 0, .slice none 0 0, .int .i64 0] 27 :: .row 79 3 (.slice nad nN ncp) (nN) (M) :: .row 84 3 (.slice ead nE ecp) (nE) (ME) :: .row 88 6 (.slice cad nC ccp) (nC) (MC) :: .row 94 2 (.slice iad nI icp) (nI) (MI) :: .row 71 4 (.slice (some ⟨b, 0, none⟩) n cap) n AW :: nrs) wx)
                  case first =>
                    cases B with
                    | false =>
                      have hf : t2 = t1 := by have := hT2.out; rw [if_neg (of_decide_eq_false hB.symm)] at this; exact this
                      clear hT2 hB
                      subst hf
                      go_wp2
                      go_meet
                      exact hp.out
                    | true =>
                      have hf : t2 = rwrong t1 (xp : Int) := by have := hT2.out; rw [if_pos (of_decide_eq_true hB.symm)] at this; exact this
                      clear hT2 hB
                      have kcv2 := kcv.out
                      rw [← hf] at kcv2
                      replace kcv := Lib.hid kcv2
                      clear kcv2 hf
                      have c0 := hp.out.cell (i := 2) rfl 0; have c1 := hp.out.cell (i := 2) rfl 1; have c2 := hp.out.cell (i := 2) rfl 2; simp at c0 c1 c2
                      have z3 := hp.out.cell (i := 0) rfl 3; simp at z3
                      go_wp2_with (go_at_call 31; (with_reducible refine (kcv.out _).mono ?_); rintro e wg ⟨rfl, bg⟩; replace hp := Lib.hid (hp.out.below bg); clear bg c0 c1 c2 z3; have c0 := hp.out.cell (i := 2) rfl 0; have c1 := hp.out.cell (i := 2) rfl 1; have c2 := hp.out.cell (i := 2) rfl 2; simp at c0 c1 c2; have e0 := hp.out.free (i := 2) rfl 0; have e1 := hp.out.free (i := 2) rfl 1; have e2 := hp.out.free (i := 2) rfl 2)
                      go_meet
                      exact (((hp.out.put (i := 2) rfl 0 (.slice (some ⟨b, 0, none⟩) n cap)).put (i := 2) rfl 1 (.int .i64 (t2.at_ : Int))).put (i := 2) rfl 2 (.int .i64 t2.bad))
                  case rest =>
                    clear hp hT2 hB
                    replace hp := Lib.hid hcut
                    clear hcut
                    have c0 := hp.out.cell (i := 2) rfl 0; have c1 := hp.out.cell (i := 2) rfl 1; have c2 := hp.out.cell (i := 2) rfl 2; simp at c0 c1 c2
                    go_upto_region 36 with (go_at_call 32; (with_reducible refine (kcd.out _ (hwa.out _ _ 8 hp.out rfl)).mono ?_); rintro e wh ⟨rfl, bh⟩; replace hp := Lib.hid (hp.out.below bh); clear bh c0 c1 c2; have y4 := hp.out.cell (i := 1) rfl 4; have g4 := hp.out.free (i := 1) rfl 4; simp at y4)
                    replace hp := Lib.hid (hp.out.put (i := 1) rfl 4 (.int .i64 (lm : Int)))
                    clear y4 g4
                    generalize World.setCell _ _ _ = W8 at hp ⊢
                    replace hp := Lib.hid (show Hp w [] (.box qq #[.slice nad nN ncp, .slice ead nE ecp, .slice cad nC ccp, .slice iad nI icp, .int .i64 (lm : Int)] 27 :: .box q1 #[.slice (some ⟨b, 0, none⟩) n cap, .int .i64 (t2.at_ : Int), .int .i64 t2.bad] 76 :: .box q2 #[.slice none 0 0, .slice none 0 0, .slice none 0 0, .slice none 0 0, .int .i64 0] 27 :: .row 79 3 (.slice nad nN ncp) (nN) (M) :: .row 84 3 (.slice ead nE ecp) (nE) (ME) :: .row 88 6 (.slice cad nC ccp) (nC) (MC) :: .row 94 2 (.slice iad nI icp) (nI) (MI) :: .row 71 4 (.slice (some ⟨b, 0, none⟩) n cap) n AW :: nrs) W8 from hp.out.drop 0)
                    have c0 := hp.out.cell (i := 1) rfl 0; have c1 := hp.out.cell (i := 1) rfl 1; have c2 := hp.out.cell (i := 1) rfl 2; simp at c0 c1 c2
                    go_wp2_with (go_at_call 29; (with_reducible refine (kce.out _).mono ?_); rintro e wi ⟨rfl, bi⟩; replace hp := Lib.hid (hp.out.below bi); clear bi c0 c1 c2; have c0 := hp.out.cell (i := 1) rfl 0; have c1 := hp.out.cell (i := 1) rfl 1; have c2 := hp.out.cell (i := 1) rfl 2; simp at c0 c1 c2; have e0 := hp.out.free (i := 1) rfl 0; have e1 := hp.out.free (i := 1) rfl 1; have e2 := hp.out.free (i := 1) rfl 2)
                    go_meet
                    exact (((hp.out.put (i := 1) rfl 0 (.slice (some ⟨b, 0, none⟩) n cap)).put (i := 1) rfl 1 (.int .i64 (s5.at_ : Int))).put (i := 1) rfl 2 (.int .i64 s5.bad))
            case rest =>
              clear hp kcl hLS ls4
              replace hp := Lib.hid hcut
              clear hcut
              replace ls5 := ls5.out; replace hzz := hzz.out; replace hEND := hEND.out
              have kcn := fun W (hb : WsAt ws b W) => rnow_any (hzz s5 ls5 W hb) cap
              have kcv := fun W => rwrong_any b cap ws.length s5 ((rnow ws s5).pos : Int) W
              unfold rend rhere at hEND
              obtain ⟨x, hx⟩ : ∃ x, x = rnow ws s5 := ⟨_, rfl⟩
              rw [← hx] at kcn kcv hEND
              clear hx
              obtain ⟨xk, xs, xn, xp⟩ := x
              simp only at kcn kcv hEND
              simp only [rpA] at kcn kcv
              rw [← hn.out] at kcn kcv
              replace kcn := Lib.hid kcn; replace kcv := Lib.hid kcv
              replace ls5 := Lib.hid ls5; replace hzz := Lib.hid hzz; replace hEND := Lib.hid hEND
              obtain ⟨B, hB⟩ : ∃ B : Bool, B = decide (xk ≠ 0) := ⟨_, rfl⟩
              go_upto_region 37 with fail
              go_cut [164] from 161 to 164 (fun s164 wx => s164 = .bool B ∧ Hp w [] (.box qq #[.slice nad nN ncp, .slice ead nE ecp, .slice cad nC ccp, .slice iad nI icp, .int .i64 (lm : Int)] 27 :: .box q1 #[.slice (some ⟨b, 0, none⟩) n cap, .int .i64 (s5.at_ : Int), .int .i64 s5.bad] 76 :: .box q2 #[.slice none 0 0, .slice none 0 0, .slice none 0 0, .slice none 0 0, .int .i64 0] 27 :: .row 79 3 (.slice nad nN ncp) (nN) (M) :: .row 84 3 (.slice ead nE ecp) (nE) (ME) :: .row 88 6 (.slice cad nC ccp) (nC) (MC) :: .row 94 2 (.slice iad nI icp) (nI) (MI) :: .row 71 4 (.slice (some ⟨b, 0, none⟩) n cap) n AW :: nrs) wx)
              case first =>
                clear hEND hR4 hln2
                have hfl := fun W => field_kind W (xk : Int) (str xs) (xn : Int) (xp : Int)
                have c0 := hp.out.cell (i := 1) rfl 0; have c1 := hp.out.cell (i := 1) rfl 1; have c2 := hp.out.cell (i := 1) rfl 2; simp at c0 c1 c2
                by_cases h2 : xk = 0
                · have p2 : ((xk : Int) != 0) = false := by rw [bne_eq_false_iff_eq]; omega
                  have hB2 : B = false := by rw [hB, decide_eq_false (fun h => h h2)]
                  clear hB h2
                  subst hB2
                  go_wp2_with (go_at_call 32; (with_reducible refine (kcn.out _ (hwa.out _ _ 7 hp.out rfl)).mono ?_); rintro e wa ⟨rfl, ba⟩; replace hp := Lib.hid (hp.out.below ba); clear ba c0 c1 c2; skip)
                  go_meet
                  exact ⟨rfl, hp.out⟩
                · have p2 : ((xk : Int) != 0) = true := by rw [bne_iff_ne]; omega
                  have hB2 : B = true := by rw [hB, decide_eq_true h2]
                  clear hB h2
                  subst hB2
                  go_wp2_with (go_at_call 32; (with_reducible refine (kcn.out _ (hwa.out _ _ 7 hp.out rfl)).mono ?_); rintro e wa ⟨rfl, ba⟩; replace hp := Lib.hid (hp.out.below ba); clear ba c0 c1 c2; skip)
                  go_meet
                  exact ⟨rfl, hp.out⟩
              case rest =>
                clear hp
                obtain ⟨rfl, hp⟩ := hcut
                replace hp := Lib.hid hp
                go_upto_if 164 with fail
                go_cut [] from 165 to 169 (fun wx => Hp w [] (.box qq #[.slice nad nN ncp, .slice ead nE ecp, .slice cad nC ccp, .slice iad nI icp, .int .i64 (lm : Int)] 27 :: .box q1 #[.slice (some ⟨b, 0, none⟩) n cap, .int .i64 (s6.at_ : Int), .int .i64 s6.bad] 76 :: .box q2 #[.slice none 0 0, .slice none 0 0, .slice none 0 0, .slice none 0 0, .int .i64 0] 27 :: .row 79 3 (.slice nad nN ncp) (nN) (M) :: .row 84 3 (.slice ead nE ecp) (nE) (ME) :: .row 88 6 (.slice cad nC ccp) (nC) (MC) :: .row 94 2 (.slice iad nI icp) (nI) (MI) :: .row 71 4 (.slice (some ⟨b, 0, none⟩) n cap) n AW :: nrs) wx)
                case first =>
                  clear hR4 hln2
                  cases B with
                  | false =>
                    have hf : s6 = s5 := by have := hEND.out; rw [if_pos (Classical.not_not.1 (of_decide_eq_false hB.symm))] at this; exact this
                    clear hEND hB
                    subst hf
                    go_wp2
                    go_meet
                    exact hp.out
                  | true =>
                    have hf : s6 = rwrong s5 (xp : Int) := by have := hEND.out; rw [if_neg (of_decide_eq_true hB.symm)] at this; exact this
                    clear hEND hB
                    have kcv2 := kcv.out
                    rw [← hf] at kcv2
                    replace kcv := Lib.hid kcv2
                    clear kcv2 hf
                    have hfl := fun W => field_pos W (xk : Int) (str xs) (xn : Int) (xp : Int)
                    go_upto_region 38 with fail
                    replace hp := Lib.hid hp.out.drew
                    refine wp_region_noPanic ?_; refine wp_region_held_drew (S := (fun W' => True)) (by kernel_rfl) ?_ (fun hHeld => ?_); (focus ((try dsimp only); (first | done | trivial); done))
                    generalize World.drew _ = W8 at hp hHeld ⊢
                    have c0 := hp.out.cell (i := 1) rfl 0; have c1 := hp.out.cell (i := 1) rfl 1; have c2 := hp.out.cell (i := 1) rfl 2; simp at c0 c1 c2
                    refine wpAnyH_ready (rs := [0, 1]) (by kernel_rfl) (by simp) ?_; refine AllReadyH.cons (o := _) rfl (fun K' hK => ?_) (AllReadyH.cons (o := _) rfl (fun K' hK => ?_) AllReadyH.nil)
                    · go_simp; (skip); (try dsimp only); refine hK.out _ _ ?_ (fun hHeld2 => ?_); (focus ((try dsimp only); (first | done | trivial); done)); clear hK K'; clear hHeld; have hHeld := hHeld2; clear hHeld2; try simp only [Act.put, List.setIfInBounds_toArray, List.set_cons_zero, List.set_cons_succ]
                      (refine wpAnyH_ready (rs := [1]) (by kernel_rfl) (by simp) ?_; refine AllReadyH.cons (o := _) rfl (fun K' hK => ?_) AllReadyH.nil; go_simp; (skip); (try dsimp only); refine hK.out _ _ ?_ (fun hHeld2 => ?_); (focus ((try dsimp only); (first | done | trivial); done)); clear hK K'; clear hHeld; have hHeld := hHeld2; clear hHeld2; try simp only [Act.put, List.setIfInBounds_toArray, List.set_cons_zero, List.set_cons_succ])
                      (refine wpAnyH_ready (rs := [2]) (by kernel_rfl) (by simp) ?_; refine AllReadyH.cons (o := _) rfl (fun K' hK => ?_) AllReadyH.nil; go_simp; ((go_at_call 32; (with_reducible refine (kcn.out _ (hwa.out _ _ 7 hp.out rfl)).mono ?_); rintro e wd ⟨rfl, bd⟩; replace hp := Lib.hid (hp.out.below bd); clear bd c0 c1 c2; have c0 := hp.out.cell (i := 1) rfl 0; have c1 := hp.out.cell (i := 1) rfl 1; have c2 := hp.out.cell (i := 1) rfl 2; simp at c0 c1 c2)); (try dsimp only); refine hK.out _ _ ?_ (fun hHeld2 => ?_); (focus ((try dsimp only); (first | done | trivial); done)); clear hK K'; clear hHeld; have hHeld := hHeld2; clear hHeld2; try simp only [Act.put, List.setIfInBounds_toArray, List.set_cons_zero, List.set_cons_succ])
                      (refine wpAnyH_ready (rs := [3]) (by kernel_rfl) (by simp) ?_; refine AllReadyH.cons (o := _) rfl (fun K' hK => ?_) AllReadyH.nil; go_simp; (skip); (try dsimp only); refine hK.out _ _ ?_ (fun hHeld2 => ?_); (focus ((try dsimp only); (first | done | trivial); done)); clear hK K'; clear hHeld; have hHeld := hHeld2; clear hHeld2; try simp only [Act.put, List.setIfInBounds_toArray, List.set_cons_zero, List.set_cons_succ])
                      (refine wpAnyH_ready (rs := [4]) (by kernel_rfl) (by simp) ?_; refine AllReadyH.cons (o := _) rfl (fun K' hK => ?_) AllReadyH.nil; go_simp; ((go_at_call 31; (with_reducible refine (kcv.out _).mono ?_); rintro e wf ⟨rfl, bf⟩; replace hp := Lib.hid (hp.out.below bf); clear bf c0 c1 c2; have c0 := hp.out.cell (i := 1) rfl 0; have c1 := hp.out.cell (i := 1) rfl 1; have c2 := hp.out.cell (i := 1) rfl 2; simp at c0 c1 c2; have e0 := hp.out.free (i := 1) rfl 0; have e1 := hp.out.free (i := 1) rfl 1; have e2 := hp.out.free (i := 1) rfl 2)); (try dsimp only); refine hK.out _ _ ?_ (fun hHeld2 => ?_); (focus ((try dsimp only); (first | done | trivial); done)); clear hK K'; clear hHeld; have hHeld := hHeld2; clear hHeld2; try simp only [Act.put, List.setIfInBounds_toArray, List.set_cons_zero, List.set_cons_succ])
                      (refine wpAnyH_ready (rs := [5]) (by kernel_rfl) (by simp) ?_; refine AllReadyH.cons (o := _) rfl (fun K' hK => ?_) AllReadyH.nil; go_simp; (replace hp := Lib.hid (((hp.out.put (i := 1) rfl 0 (.slice (some ⟨b, 0, none⟩) n cap)).put (i := 1) rfl 1 (.int .i64 (s6.at_ : Int))).put (i := 1) rfl 2 (.int .i64 s6.bad))); (try dsimp only); refine hK.out _ _ ?_ (fun hHeld2 => ?_); (focus ((try dsimp only); (first | done | trivial); done)); clear hK K'; clear hHeld; have hHeld := hHeld2; clear hHeld2; try simp only [Act.put, List.setIfInBounds_toArray, List.set_cons_zero, List.set_cons_succ])
                      refine wpAnyH_done (by kernel_rfl) ?_ _; refine NoPanic.normal ?_
                      go_wp2
                      go_meet
                      exact hp.out
                    · go_simp; (skip); (try dsimp only); refine hK.out _ _ ?_ (fun hHeld2 => ?_); (focus ((try dsimp only); (first | done | trivial); done)); clear hK K'; clear hHeld; have hHeld := hHeld2; clear hHeld2; try simp only [Act.put, List.setIfInBounds_toArray, List.set_cons_zero, List.set_cons_succ]
                      refine wpAnyH_ready (rs := [0, 2]) (by kernel_rfl) (by simp) ?_; refine AllReadyH.cons (o := _) rfl (fun K' hK => ?_) (AllReadyH.cons (o := _) rfl (fun K' hK => ?_) AllReadyH.nil)
                      · go_simp; (skip); (try dsimp only); refine hK.out _ _ ?_ (fun hHeld2 => ?_); (focus ((try dsimp only); (first | done | trivial); done)); clear hK K'; clear hHeld; have hHeld := hHeld2; clear hHeld2; try simp only [Act.put, List.setIfInBounds_toArray, List.set_cons_zero, List.set_cons_succ]
                        (refine wpAnyH_ready (rs := [2]) (by kernel_rfl) (by simp) ?_; refine AllReadyH.cons (o := _) rfl (fun K' hK => ?_) AllReadyH.nil; go_simp; ((go_at_call 32; (with_reducible refine (kcn.out _ (hwa.out _ _ 7 hp.out rfl)).mono ?_); rintro e wd ⟨rfl, bd⟩; replace hp := Lib.hid (hp.out.below bd); clear bd c0 c1 c2; have c0 := hp.out.cell (i := 1) rfl 0; have c1 := hp.out.cell (i := 1) rfl 1; have c2 := hp.out.cell (i := 1) rfl 2; simp at c0 c1 c2)); (try dsimp only); refine hK.out _ _ ?_ (fun hHeld2 => ?_); (focus ((try dsimp only); (first | done | trivial); done)); clear hK K'; clear hHeld; have hHeld := hHeld2; clear hHeld2; try simp only [Act.put, List.setIfInBounds_toArray, List.set_cons_zero, List.set_cons_succ])
                        (refine wpAnyH_ready (rs := [3]) (by kernel_rfl) (by simp) ?_; refine AllReadyH.cons (o := _) rfl (fun K' hK => ?_) AllReadyH.nil; go_simp; (skip); (try dsimp only); refine hK.out _ _ ?_ (fun hHeld2 => ?_); (focus ((try dsimp only); (first | done | trivial); done)); clear hK K'; clear hHeld; have hHeld := hHeld2; clear hHeld2; try simp only [Act.put, List.setIfInBounds_toArray, List.set_cons_zero, List.set_cons_succ])
                        (refine wpAnyH_ready (rs := [4]) (by kernel_rfl) (by simp) ?_; refine AllReadyH.cons (o := _) rfl (fun K' hK => ?_) AllReadyH.nil; go_simp; ((go_at_call 31; (with_reducible refine (kcv.out _).mono ?_); rintro e wf ⟨rfl, bf⟩; replace hp := Lib.hid (hp.out.below bf); clear bf c0 c1 c2; have c0 := hp.out.cell (i := 1) rfl 0; have c1 := hp.out.cell (i := 1) rfl 1; have c2 := hp.out.cell (i := 1) rfl 2; simp at c0 c1 c2; have e0 := hp.out.free (i := 1) rfl 0; have e1 := hp.out.free (i := 1) rfl 1; have e2 := hp.out.free (i := 1) rfl 2)); (try dsimp only); refine hK.out _ _ ?_ (fun hHeld2 => ?_); (focus ((try dsimp only); (first | done | trivial); done)); clear hK K'; clear hHeld; have hHeld := hHeld2; clear hHeld2; try simp only [Act.put, List.setIfInBounds_toArray, List.set_cons_zero, List.set_cons_succ])
                        (refine wpAnyH_ready (rs := [5]) (by kernel_rfl) (by simp) ?_; refine AllReadyH.cons (o := _) rfl (fun K' hK => ?_) AllReadyH.nil; go_simp; (replace hp := Lib.hid (((hp.out.put (i := 1) rfl 0 (.slice (some ⟨b, 0, none⟩) n cap)).put (i := 1) rfl 1 (.int .i64 (s6.at_ : Int))).put (i := 1) rfl 2 (.int .i64 s6.bad))); (try dsimp only); refine hK.out _ _ ?_ (fun hHeld2 => ?_); (focus ((try dsimp only); (first | done | trivial); done)); clear hK K'; clear hHeld; have hHeld := hHeld2; clear hHeld2; try simp only [Act.put, List.setIfInBounds_toArray, List.set_cons_zero, List.set_cons_succ])
                        refine wpAnyH_done (by kernel_rfl) ?_ _; refine NoPanic.normal ?_
                        go_wp2
                        go_meet
                        exact hp.out
                      · go_simp; ((go_at_call 32; (with_reducible refine (kcn.out _ (hwa.out _ _ 7 hp.out rfl)).mono ?_); rintro e wd ⟨rfl, bd⟩; replace hp := Lib.hid (hp.out.below bd); clear bd c0 c1 c2; have c0 := hp.out.cell (i := 1) rfl 0; have c1 := hp.out.cell (i := 1) rfl 1; have c2 := hp.out.cell (i := 1) rfl 2; simp at c0 c1 c2)); (try dsimp only); refine hK.out _ _ ?_ (fun hHeld2 => ?_); (focus ((try dsimp only); (first | done | trivial); done)); clear hK K'; clear hHeld; have hHeld := hHeld2; clear hHeld2; try simp only [Act.put, List.setIfInBounds_toArray, List.set_cons_zero, List.set_cons_succ]
                        refine wpAnyH_ready (rs := [0, 3]) (by kernel_rfl) (by simp) ?_; refine AllReadyH.cons (o := _) rfl (fun K' hK => ?_) (AllReadyH.cons (o := _) rfl (fun K' hK => ?_) AllReadyH.nil)
                        · go_simp; (skip); (try dsimp only); refine hK.out _ _ ?_ (fun hHeld2 => ?_); (focus ((try dsimp only); (first | done | trivial); done)); clear hK K'; clear hHeld; have hHeld := hHeld2; clear hHeld2; try simp only [Act.put, List.setIfInBounds_toArray, List.set_cons_zero, List.set_cons_succ]
                          (refine wpAnyH_ready (rs := [3]) (by kernel_rfl) (by simp) ?_; refine AllReadyH.cons (o := _) rfl (fun K' hK => ?_) AllReadyH.nil; go_simp; (skip); (try dsimp only); refine hK.out _ _ ?_ (fun hHeld2 => ?_); (focus ((try dsimp only); (first | done | trivial); done)); clear hK K'; clear hHeld; have hHeld := hHeld2; clear hHeld2; try simp only [Act.put, List.setIfInBounds_toArray, List.set_cons_zero, List.set_cons_succ])
                          (refine wpAnyH_ready (rs := [4]) (by kernel_rfl) (by simp) ?_; refine AllReadyH.cons (o := _) rfl (fun K' hK => ?_) AllReadyH.nil; go_simp; ((go_at_call 31; (with_reducible refine (kcv.out _).mono ?_); rintro e wf ⟨rfl, bf⟩; replace hp := Lib.hid (hp.out.below bf); clear bf c0 c1 c2; have c0 := hp.out.cell (i := 1) rfl 0; have c1 := hp.out.cell (i := 1) rfl 1; have c2 := hp.out.cell (i := 1) rfl 2; simp at c0 c1 c2; have e0 := hp.out.free (i := 1) rfl 0; have e1 := hp.out.free (i := 1) rfl 1; have e2 := hp.out.free (i := 1) rfl 2)); (try dsimp only); refine hK.out _ _ ?_ (fun hHeld2 => ?_); (focus ((try dsimp only); (first | done | trivial); done)); clear hK K'; clear hHeld; have hHeld := hHeld2; clear hHeld2; try simp only [Act.put, List.setIfInBounds_toArray, List.set_cons_zero, List.set_cons_succ])
                          (refine wpAnyH_ready (rs := [5]) (by kernel_rfl) (by simp) ?_; refine AllReadyH.cons (o := _) rfl (fun K' hK => ?_) AllReadyH.nil; go_simp; (replace hp := Lib.hid (((hp.out.put (i := 1) rfl 0 (.slice (some ⟨b, 0, none⟩) n cap)).put (i := 1) rfl 1 (.int .i64 (s6.at_ : Int))).put (i := 1) rfl 2 (.int .i64 s6.bad))); (try dsimp only); refine hK.out _ _ ?_ (fun hHeld2 => ?_); (focus ((try dsimp only); (first | done | trivial); done)); clear hK K'; clear hHeld; have hHeld := hHeld2; clear hHeld2; try simp only [Act.put, List.setIfInBounds_toArray, List.set_cons_zero, List.set_cons_succ])
                          refine wpAnyH_done (by kernel_rfl) ?_ _; refine NoPanic.normal ?_
                          go_wp2
                          go_meet
                          exact hp.out
                        · go_simp; (skip); (try dsimp only); refine hK.out _ _ ?_ (fun hHeld2 => ?_); (focus ((try dsimp only); (first | done | trivial); done)); clear hK K'; clear hHeld; have hHeld := hHeld2; clear hHeld2; try simp only [Act.put, List.setIfInBounds_toArray, List.set_cons_zero, List.set_cons_succ]
                          (refine wpAnyH_ready (rs := [0]) (by kernel_rfl) (by simp) ?_; refine AllReadyH.cons (o := _) rfl (fun K' hK => ?_) AllReadyH.nil; go_simp; (skip); (try dsimp only); refine hK.out _ _ ?_ (fun hHeld2 => ?_); (focus ((try dsimp only); (first | done | trivial); done)); clear hK K'; clear hHeld; have hHeld := hHeld2; clear hHeld2; try simp only [Act.put, List.setIfInBounds_toArray, List.set_cons_zero, List.set_cons_succ])
                          (refine wpAnyH_ready (rs := [4]) (by kernel_rfl) (by simp) ?_; refine AllReadyH.cons (o := _) rfl (fun K' hK => ?_) AllReadyH.nil; go_simp; ((go_at_call 31; (with_reducible refine (kcv.out _).mono ?_); rintro e wf ⟨rfl, bf⟩; replace hp := Lib.hid (hp.out.below bf); clear bf c0 c1 c2; have c0 := hp.out.cell (i := 1) rfl 0; have c1 := hp.out.cell (i := 1) rfl 1; have c2 := hp.out.cell (i := 1) rfl 2; simp at c0 c1 c2; have e0 := hp.out.free (i := 1) rfl 0; have e1 := hp.out.free (i := 1) rfl 1; have e2 := hp.out.free (i := 1) rfl 2)); (try dsimp only); refine hK.out _ _ ?_ (fun hHeld2 => ?_); (focus ((try dsimp only); (first | done | trivial); done)); clear hK K'; clear hHeld; have hHeld := hHeld2; clear hHeld2; try simp only [Act.put, List.setIfInBounds_toArray, List.set_cons_zero, List.set_cons_succ])
                          (refine wpAnyH_ready (rs := [5]) (by kernel_rfl) (by simp) ?_; refine AllReadyH.cons (o := _) rfl (fun K' hK => ?_) AllReadyH.nil; go_simp; (replace hp := Lib.hid (((hp.out.put (i := 1) rfl 0 (.slice (some ⟨b, 0, none⟩) n cap)).put (i := 1) rfl 1 (.int .i64 (s6.at_ : Int))).put (i := 1) rfl 2 (.int .i64 s6.bad))); (try dsimp only); refine hK.out _ _ ?_ (fun hHeld2 => ?_); (focus ((try dsimp only); (first | done | trivial); done)); clear hK K'; clear hHeld; have hHeld := hHeld2; clear hHeld2; try simp only [Act.put, List.setIfInBounds_toArray, List.set_cons_zero, List.set_cons_succ])
                          refine wpAnyH_done (by kernel_rfl) ?_ _; refine NoPanic.normal ?_
                          go_wp2
                          go_meet
                          exact hp.out
                case rest =>
                  clear hp kcn kcv hEND hB ls5 ls6
                  replace hp := Lib.hid hcut
                  clear hcut
                  have hl2 := hln2.out
                  have hNl : N.length ≤ 1100 := by have := hl2.1; rw [← hNx.out, List.length_map] at this; exact this
                  obtain ⟨qv, hqv⟩ : ∃ q : Qv, q = ⟨N, es, cs, is, (lm : Int), nad, ncp, ead, ecp, cad, ccp, iad, icp⟩ := ⟨_, rfl⟩
                  have hme := mayV_eq qv lm (by rw [hqv])
                  have hpx := hp.out
                  rw [hnN.out, hM.out, hnE.out, hME.out, hnC.out, hMC.out, hnI.out, hMI.out] at hpx
                  have hok : qv.ok wc := by rw [hqv]; exact ⟨hpx.sl (i := 3) rfl (Nat.le_trans hNl (by decide)), hpx.sl (i := 4) rfl (Nat.le_trans hl2.2.1 (by decide)), hpx.sl (i := 5) rfl (Nat.le_trans hl2.2.2.1 (by decide)), hpx.sl (i := 6) rfl (Nat.le_trans hl2.2.2.2 (by decide)), hNl, hl2.2.1, hl2.2.2.1, hl2.2.2.2⟩
                  have km := rmay_any qv wc hok
                  have hqa : qv.a = .agg #[.slice nad nN ncp, .slice ead nE ecp, .slice cad nC ccp, .slice iad nI icp, .int .i64 (lm : Int)] := by rw [hqv, hnN.out, hnE.out, hnC.out, hnI.out]; rfl
                  rw [hqa, hme, hqv] at km
                  simp only at km
                  rw [hNx.out] at km
                  clear hme hok hqa hqv hpx hl2
                  obtain ⟨mq, hmq⟩ : ∃ r, r = mayQ ⟨ns, es, cs, is, lm⟩ := ⟨_, rfl⟩
                  have hR5 := hR4.out
                  rw [← hmq] at km hR5
                  clear hmq hR4
                  replace km := Lib.hid km; replace hNl := Lib.hid hNl; replace hR5 := Lib.hid hR5
                  by_cases hbd : s6.bad < 0
                  · cases mq with
                    | true =>
                      have hf : R = .inl ⟨ns, es, cs, is, lm⟩ := by have := hR5.out; rw [if_pos hbd, if_pos rfl] at this; exact this
                      clear hR5
                      subst hf
                      have hbd2 : ¬ 0 ≤ s6.bad := by omega
                      have x0 := hp.out.cell (i := 0) rfl 0; have x1 := hp.out.cell (i := 0) rfl 1; have x2 := hp.out.cell (i := 0) rfl 2; have x3 := hp.out.cell (i := 0) rfl 3; have x4 := hp.out.cell (i := 0) rfl 4; simp at x0 x1 x2 x3 x4
                      have z2 := hp.out.cell (i := 1) rfl 2; simp at z2
                      go_upto_region 43 with (go_at_call 34; (with_reducible refine km.out.mono ?_); rintro e wk ⟨rfl, bk⟩; replace hp := Lib.hid (hp.out.below bk); clear bk x0 x1 x2 x3 x4 z2; have z2 := hp.out.cell (i := 1) rfl 2; simp at z2)
                      clear z2
                      go_cut [3, 4] from 187 to 187 (fun s3 s4 wx => s3 = .int .i64 0 ∧ s4 = .int .i64 0 ∧ Hp w [] (.box qq #[.slice nad nN ncp, .slice ead nE ecp, .slice cad nC ccp, .slice iad nI icp, .int .i64 (lm : Int)] 27 :: .box q1 #[.slice (some ⟨b, 0, none⟩) n cap, .int .i64 (s6.at_ : Int), .int .i64 s6.bad] 76 :: .box q2 #[.slice nad nN ncp, .slice ead nE ecp, .slice cad nC ccp, .slice iad nI icp, .int .i64 (lm : Int)] 27 :: .row 79 3 (.slice nad nN ncp) (nN) (M) :: .row 84 3 (.slice ead nE ecp) (nE) (ME) :: .row 88 6 (.slice cad nC ccp) (nC) (MC) :: .row 94 2 (.slice iad nI icp) (nI) (MI) :: .row 71 4 (.slice (some ⟨b, 0, none⟩) n cap) n AW :: nrs) wx)
                      case first =>
                        have x0 := hp.out.cell (i := 0) rfl 0; have x1 := hp.out.cell (i := 0) rfl 1; have x2 := hp.out.cell (i := 0) rfl 2; have x3 := hp.out.cell (i := 0) rfl 3; have x4 := hp.out.cell (i := 0) rfl 4; simp at x0 x1 x2 x3 x4
                        have y0 := hp.out.cell (i := 2) rfl 0; have y1 := hp.out.cell (i := 2) rfl 1; have y2 := hp.out.cell (i := 2) rfl 2; have y3 := hp.out.cell (i := 2) rfl 3; have y4 := hp.out.cell (i := 2) rfl 4; have f0 := hp.out.free (i := 2) rfl 0; have f1 := hp.out.free (i := 2) rfl 1; have f2 := hp.out.free (i := 2) rfl 2; have f3 := hp.out.free (i := 2) rfl 3; have f4 := hp.out.free (i := 2) rfl 4; simp at y0 y1 y2 y3 y4
                        go_wp2
                        go_meet
                        have hpf := hp.out
                        exact ⟨rfl, rfl, ((((hpf.put (i := 2) rfl 0 (.slice nad nN ncp)).put (i := 2) rfl 1 (.slice ead nE ecp)).put (i := 2) rfl 2 (.slice cad nC ccp)).put (i := 2) rfl 3 (.slice iad nI icp)).put (i := 2) rfl 4 (.int .i64 (lm : Int))⟩
                      case rest =>
                        clear hp
                        obtain ⟨rfl, rfl, hp⟩ := hcut
                        replace hp := Lib.hid hp
                        refine ‹∀ (a : Act) (w_1 : World), Code.wp Tryd.prog Code.ret _ a w_1 → _› _ _ ?_
                        refine wp_ret ?_
                        show bodyPost _ _ _ Exit.ret _ _
                        have hpg := hp.out
                        have hl2 := hln2.out
                        refine bodyPost_ret (v := .tuple #[.agg #[.slice nad nN ncp, .slice ead nE ecp, .slice cad nC ccp, .slice iad nI icp, .int .i64 (lm : Int)], .int .i64 0, .int .i64 0]) (parse_results rfl _ _ q2 #[.slice nad nN ncp, .slice ead nE ecp, .slice cad nC ccp, .slice iad nI icp, .int .i64 (lm : Int)] (.int .i64 0) (.int .i64 0) rfl rfl rfl (hpg.box (i := 2) rfl) rfl) rfl ⟨_, rfl, N, nad, ead, cad, iad, ncp, ecp, ccp, icp, .row 71 4 (.slice (some ⟨b, 0, none⟩) n cap) n AW :: nrs, hNx.out, fun y hy => ndAt.mono (hNn.out y hy) (fun r hr => List.mem_cons_of_mem _ hr), ?_, ?_, hNl.out, hl2.2.1, hl2.2.2.1, hl2.2.2.2⟩
                        · rw [hnN.out, hnE.out, hnC.out, hnI.out]
                        · have hpq : Hp w [] (.row 79 3 (.slice nad nN ncp) (nN) (M) :: .row 84 3 (.slice ead nE ecp) (nE) (ME) :: .row 88 6 (.slice cad nC ccp) (nC) (MC) :: .row 94 2 (.slice iad nI icp) (nI) (MI) :: .row 71 4 (.slice (some ⟨b, 0, none⟩) n cap) n AW :: nrs) _ := ((hpg.drop 0).drop 0).drop 0
                          have e1 := hnN.out; have e2 := hnE.out; have e3 := hnC.out; have e4 := hnI.out; have e5 := hM.out; have e6 := hME.out; have e7 := hMC.out; have e8 := hMI.out
                          subst e5 e6 e7 e8
                          subst e1 e2 e3 e4
                          exact hpq
                    | false =>
                        have hf : R = .inr ((L : Int), 330) := by have := hR5.out; rw [if_pos hbd, if_neg (by decide)] at this; exact this
                        clear hR5
                        subst hf
                        have hL0 : (0 : Int) ≤ (L : Int) := by omega
                        have x0 := hp.out.cell (i := 0) rfl 0; have x1 := hp.out.cell (i := 0) rfl 1; have x2 := hp.out.cell (i := 0) rfl 2; have x3 := hp.out.cell (i := 0) rfl 3; have x4 := hp.out.cell (i := 0) rfl 4; simp at x0 x1 x2 x3 x4
                        have z2 := hp.out.cell (i := 1) rfl 2; simp at z2
                        go_upto_region 41 with (go_at_call 34; (with_reducible refine km.out.mono ?_); rintro e wk ⟨rfl, bk⟩; replace hp := Lib.hid (hp.out.below bk); clear bk x0 x1 x2 x3 x4 z2; have z2 := hp.out.cell (i := 1) rfl 2; have v2 := hp.out.free (i := 1) rfl 2; simp at z2)
                        replace hp := Lib.hid (hp.out.put (i := 1) rfl 2 (.int .i64 (L : Int)))
                        clear z2 v2
                        generalize World.setCell _ _ _ = W6 at hp ⊢
                        replace hp := Lib.hid (show Hp w [] (.box qq #[.slice nad nN ncp, .slice ead nE ecp, .slice cad nC ccp, .slice iad nI icp, .int .i64 (lm : Int)] 27 :: .box q1 #[.slice (some ⟨b, 0, none⟩) n cap, .int .i64 (s6.at_ : Int), .int .i64 (L : Int)] 76 :: .box q2 #[.slice none 0 0, .slice none 0 0, .slice none 0 0, .slice none 0 0, .int .i64 0] 27 :: .row 79 3 (.slice nad nN ncp) (nN) (M) :: .row 84 3 (.slice ead nE ecp) (nE) (ME) :: .row 88 6 (.slice cad nC ccp) (nC) (MC) :: .row 94 2 (.slice iad nI icp) (nI) (MI) :: .row 71 4 (.slice (some ⟨b, 0, none⟩) n cap) n AW :: nrs) W6 from hp.out)
                        have z2 := hp.out.cell (i := 1) rfl 2; simp at z2
                        go_upto_region 42 with fail
                        replace hp := Lib.hid hp.out.drew
                        refine wp_region_noPanic ?_; refine wp_region_held_drew (S := (fun W' => W'.cell? ⟨q1, 2, none⟩ = some (.int .i64 (L : Int)))) (by kernel_rfl) ?_ (fun hHeld => ?_); (focus ((try dsimp only); (exact (hp.out.cell (i := 1) rfl 2).trans rfl); done))
                        generalize World.drew _ = W8 at hp hHeld ⊢
                        have y0 := hp.out.cell (i := 2) rfl 0; have y1 := hp.out.cell (i := 2) rfl 1; have y2 := hp.out.cell (i := 2) rfl 2; have y3 := hp.out.cell (i := 2) rfl 3; have y4 := hp.out.cell (i := 2) rfl 4; have f0 := hp.out.free (i := 2) rfl 0; have f1 := hp.out.free (i := 2) rfl 1; have f2 := hp.out.free (i := 2) rfl 2; have f3 := hp.out.free (i := 2) rfl 3; have f4 := hp.out.free (i := 2) rfl 4; simp at y0 y1 y2 y3 y4
                        (refine take_t (i := 0) (d := 184) (oi := _) (v := ?_) rfl rfl (by kernel_rfl) (by kernel_rfl) (by kernel_rfl) (by rfl) ?_ (by assumption) ?_; rotate_left; (focus (intro w0 hSw; (try dsimp only at hSw); go_simp; (try with_reducible rfl); done)); try simp only [Act.put, List.setIfInBounds_toArray, List.set_cons_zero, List.set_cons_succ]); (refine take_t (i := 1) (d := 185) (oi := _) (v := ?_) rfl rfl (by kernel_rfl) (by kernel_rfl) (by kernel_rfl) (by rfl) ?_ (by assumption) ?_; rotate_left; (focus (intro w0 hSw; (try dsimp only at hSw); go_simp; (try with_reducible rfl); done)); try simp only [Act.put, List.setIfInBounds_toArray, List.set_cons_zero, List.set_cons_succ]); (refine take_t (i := 2) (d := 186) (oi := _) (v := ?_) rfl rfl (by kernel_rfl) (by kernel_rfl) (by kernel_rfl) (by rfl) ?_ (by assumption) ?_; rotate_left; (focus (intro w0 hSw; (try dsimp only at hSw); go_simp; (try with_reducible rfl); done)); try simp only [Act.put, List.setIfInBounds_toArray, List.set_cons_zero, List.set_cons_succ]); (refine wpAnyH_ready (rs := [3]) (by kernel_rfl) (by simp) ?_; refine AllReadyH.cons (o := _) rfl (fun K' hK => ?_) AllReadyH.nil; go_simp; (replace hp := Lib.hid (((((hp.out.put (i := 2) rfl 0 (.slice none 0 0)).put (i := 2) rfl 1 (.slice none 0 0)).put (i := 2) rfl 2 (.slice none 0 0)).put (i := 2) rfl 3 (.slice none 0 0)).put (i := 2) rfl 4 (.int .i64 0)); clear y0 y1 y2 y3 y4 f0 f1 f2 f3 f4); (try dsimp only); refine hK.out _ _ ?_ (fun hHeld2 => ?_); (focus ((try dsimp only); (exact (hp.out.cell (i := 1) rfl 2).trans rfl); done)); clear hK K'; clear hHeld; have hHeld := hHeld2; clear hHeld2; try simp only [Act.put, List.setIfInBounds_toArray, List.set_cons_zero, List.set_cons_succ]); (refine take_t (i := 4) (d := 3) (oi := _) (v := ?_) rfl rfl (by kernel_rfl) (by kernel_rfl) (by kernel_rfl) (by rfl) ?_ (by assumption) ?_; rotate_left; (focus (intro w0 hSw; (try dsimp only at hSw); go_simp; (try with_reducible rfl); done)); try simp only [Act.put, List.setIfInBounds_toArray, List.set_cons_zero, List.set_cons_succ]); (refine take_t (i := 5) (d := 4) (oi := _) (v := ?_) rfl rfl (by kernel_rfl) (by kernel_rfl) (by kernel_rfl) (by rfl) ?_ (by assumption) ?_; rotate_left; (focus (intro w0 hSw; (try dsimp only at hSw); go_simp; (try with_reducible rfl); done)); try simp only [Act.put, List.setIfInBounds_toArray, List.set_cons_zero, List.set_cons_succ])
                        clear hHeld
                        generalize World.setCell (World.setCell (World.setCell (World.setCell (World.setCell _ _ _) _ _) _ _) _ _) _ _ = W9 at hp ⊢
                        refine wpAnyH_done (by kernel_rfl) ?_ _; refine NoPanic.normal ?_
                        refine ‹∀ (a : Act) (w_1 : World), Code.wp Tryd.prog Code.ret _ a w_1 → _› _ _ ?_
                        refine wp_ret ?_
                        show bodyPost _ _ _ Exit.ret _ _
                        have hpg := hp.out
                        exact bodyPost_ret (v := .tuple #[zeroQ, .int .i64 (L : Int), .int .i64 330]) (parse_results rfl _ _ q2 #[.slice none 0 0, .slice none 0 0, .slice none 0 0, .slice none 0 0, .int .i64 0] (.int .i64 (L : Int)) (.int .i64 330) rfl rfl rfl (hpg.box (i := 2) rfl) rfl) rfl ⟨rfl, hpg.bel⟩
                  · skip
                    have hf : R = .inr (s6.bad, 330) := by have := hR5.out; rw [if_neg hbd] at this; exact this
                    clear hR5
                    subst hf
                    have hbd2 : 0 ≤ s6.bad := by omega
                    have z2 := hp.out.cell (i := 1) rfl 2; simp at z2
                    go_upto_region 42 with fail
                    replace hp := Lib.hid hp.out.drew
                    refine wp_region_noPanic ?_; refine wp_region_held_drew (S := (fun W' => W'.cell? ⟨q1, 2, none⟩ = some (.int .i64 s6.bad))) (by kernel_rfl) ?_ (fun hHeld => ?_); (focus ((try dsimp only); (exact (hp.out.cell (i := 1) rfl 2).trans rfl); done))
                    generalize World.drew _ = W8 at hp hHeld ⊢
                    have y0 := hp.out.cell (i := 2) rfl 0; have y1 := hp.out.cell (i := 2) rfl 1; have y2 := hp.out.cell (i := 2) rfl 2; have y3 := hp.out.cell (i := 2) rfl 3; have y4 := hp.out.cell (i := 2) rfl 4; have f0 := hp.out.free (i := 2) rfl 0; have f1 := hp.out.free (i := 2) rfl 1; have f2 := hp.out.free (i := 2) rfl 2; have f3 := hp.out.free (i := 2) rfl 3; have f4 := hp.out.free (i := 2) rfl 4; simp at y0 y1 y2 y3 y4
                    (refine take_t (i := 0) (d := 184) (oi := _) (v := ?_) rfl rfl (by kernel_rfl) (by kernel_rfl) (by kernel_rfl) (by rfl) ?_ (by assumption) ?_; rotate_left; (focus (intro w0 hSw; (try dsimp only at hSw); go_simp; (try with_reducible rfl); done)); try simp only [Act.put, List.setIfInBounds_toArray, List.set_cons_zero, List.set_cons_succ]); (refine take_t (i := 1) (d := 185) (oi := _) (v := ?_) rfl rfl (by kernel_rfl) (by kernel_rfl) (by kernel_rfl) (by rfl) ?_ (by assumption) ?_; rotate_left; (focus (intro w0 hSw; (try dsimp only at hSw); go_simp; (try with_reducible rfl); done)); try simp only [Act.put, List.setIfInBounds_toArray, List.set_cons_zero, List.set_cons_succ]); (refine take_t (i := 2) (d := 186) (oi := _) (v := ?_) rfl rfl (by kernel_rfl) (by kernel_rfl) (by kernel_rfl) (by rfl) ?_ (by assumption) ?_; rotate_left; (focus (intro w0 hSw; (try dsimp only at hSw); go_simp; (try with_reducible rfl); done)); try simp only [Act.put, List.setIfInBounds_toArray, List.set_cons_zero, List.set_cons_succ]); (refine wpAnyH_ready (rs := [3]) (by kernel_rfl) (by simp) ?_; refine AllReadyH.cons (o := _) rfl (fun K' hK => ?_) AllReadyH.nil; go_simp; (replace hp := Lib.hid (((((hp.out.put (i := 2) rfl 0 (.slice none 0 0)).put (i := 2) rfl 1 (.slice none 0 0)).put (i := 2) rfl 2 (.slice none 0 0)).put (i := 2) rfl 3 (.slice none 0 0)).put (i := 2) rfl 4 (.int .i64 0)); clear y0 y1 y2 y3 y4 f0 f1 f2 f3 f4); (try dsimp only); refine hK.out _ _ ?_ (fun hHeld2 => ?_); (focus ((try dsimp only); (exact (hp.out.cell (i := 1) rfl 2).trans rfl); done)); clear hK K'; clear hHeld; have hHeld := hHeld2; clear hHeld2; try simp only [Act.put, List.setIfInBounds_toArray, List.set_cons_zero, List.set_cons_succ]); (refine take_t (i := 4) (d := 3) (oi := _) (v := ?_) rfl rfl (by kernel_rfl) (by kernel_rfl) (by kernel_rfl) (by rfl) ?_ (by assumption) ?_; rotate_left; (focus (intro w0 hSw; (try dsimp only at hSw); go_simp; (try with_reducible rfl); done)); try simp only [Act.put, List.setIfInBounds_toArray, List.set_cons_zero, List.set_cons_succ]); (refine take_t (i := 5) (d := 4) (oi := _) (v := ?_) rfl rfl (by kernel_rfl) (by kernel_rfl) (by kernel_rfl) (by rfl) ?_ (by assumption) ?_; rotate_left; (focus (intro w0 hSw; (try dsimp only at hSw); go_simp; (try with_reducible rfl); done)); try simp only [Act.put, List.setIfInBounds_toArray, List.set_cons_zero, List.set_cons_succ])
                    clear hHeld
                    generalize World.setCell (World.setCell (World.setCell (World.setCell (World.setCell _ _ _) _ _) _ _) _ _) _ _ = W9 at hp ⊢
                    refine wpAnyH_done (by kernel_rfl) ?_ _; refine NoPanic.normal ?_
                    refine ‹∀ (a : Act) (w_1 : World), Code.wp Tryd.prog Code.ret _ a w_1 → _› _ _ ?_
                    refine wp_ret ?_
                    show bodyPost _ _ _ Exit.ret _ _
                    have hpg := hp.out
                    exact bodyPost_ret (v := .tuple #[zeroQ, .int .i64 s6.bad, .int .i64 330]) (parse_results rfl _ _ q2 #[.slice none 0 0, .slice none 0 0, .slice none 0 0, .slice none 0 0, .int .i64 0] (.int .i64 s6.bad) (.int .i64 330) rfl rfl rfl (hpg.box (i := 2) rfl) rfl) rfl ⟨rfl, hpg.bel⟩
end Go.Proofs.YtgbkpkioijbgoaaDoor.qry
