/- A question's parser (package query): a node, what is told, a condition, an edge. No condition but where the words and the tables lie. -/
import Derived.Test.YtgbkpkioijbgoaaDoorQry4
import Derived.Test.YtgbkpkioijbgoaaDoorHpServe
namespace Go.Proofs.YtgbkpkioijbgoaaDoor.qry
open Go.RowKit
open lex (W wv)
open names (Nm mayN)
attribute [local go_sem ↓] Go.wp_at_zero Go.wp_at_succ
attribute [local go_sem] str_size str_bl
set_option linter.unusedVariables false
set_option linter.unusedSimpArgs false
set_option maxRecDepth 100000

theorem node3 : (Tryd.prog.info? 79).map (·.size) = some 3 := by kernel_rfl
theorem item2 : (Tryd.prog.info? 94).map (·.size) = some 2 := by kernel_rfl
theorem cond6 : (Tryd.prog.info? 88).map (·.size) = some 6 := by kernel_rfl
theorem edge3 : (Tryd.prog.info? 84).map (·.size) = some 3 := by kernel_rfl
def It.a (x : It) : Value := .agg #[.string (str x.var), .string (str x.key)]
def Cd.a (x : Cd) : Value := .agg #[.string (str x.var), .string (str x.key), .int .i64 (x.op : Int), .int .i64 (x.val.k : Int), .int .i64 x.val.n, .string (str x.val.s)]
def Ed.a (x : Ed) : Value := .agg #[.string (str x.var), .string (str x.typ), .bool x.out]
theorem edge_results {fn : Func} (hfn : fn.results = #[.cell 2 84, .tmp 3]) (tmps : Array Value) (W' : World) (g : Nat) (cs : Array Value) (v : Value) (h2 : tmps.getD 2 undef = .pointer (some ⟨g, 0, none⟩)) (h3 : tmps.getD 3 undef = v) (hg : W'.heap[g]? = some (.cells cs 84 (0, 0))) (hi : cs.size = 3) :
    (results fn tmps).run Tryd.prog W' = .ok (.tuple #[.agg cs, v]) W' := by
  have h2' : tmps[2]?.getD undef = .pointer (some ⟨g, 0, none⟩) := by simpa using h2
  have h3' : tmps[3]?.getD undef = v := by simpa using h3
  have hs : (Tryd.prog.info? 84).map (·.size) = some cs.size := by rw [hi]; kernel_rfl
  simp [results, hfn, h2', h3', asAddr, run_loadVar_row W' g 84 84 cs (0, 0) _ hg Tryd.underlying84 rfl hs]
set_option maxHeartbeats 8000000 in
theorem node_any {ws : List W} {b cap g : Nat} {st : St} {w : World} (h : Pz ws b cap g st w) :
    Calls Tryd.prog 56 #[pv g] w fun e w' => ∃ (ad : Option Addr) (cp : Nat), e = .returned (.agg #[.string (str (nodeM ws st).1.var), .string (str (nodeM ws st).1.label), .slice ad (nodeM ws st).1.props.length cp]) ∧ Hp w [g] [.box g (psC b cap ws.length (nodeM ws st).2) 68, .row 98 4 (.slice ad (nodeM ws st).1.props.length cp) (nodeM ws st).1.props.length ((nodeM ws st).1.props.flatMap Pp.cells)] w' ∧ (nodeM ws st).2.at_ < ws.length := by
  have hz0 := h
  have hp := Hp.lend h.box
  have hzz : ∀ (W : World) (rs : List Rs) (st' : St) (i : Nat), Hp w [g] rs W → rs[i]? = some (.box g (psC b cap ws.length st') 68) → st'.at_ < ws.length → Pz ws b cap g st' W := fun W rs st' i hpW hi hl => (Pz.of hz0 hpW hi hl).1
  have l0 := h.lt
  replace h := Lib.hid h; replace hp := Lib.hid hp; replace hzz := Lib.hid hzz; replace l0 := Lib.hid l0
  clear hz0
  obtain ⟨R, hR⟩ : ∃ R, R = nodeM ws st := ⟨_, rfl⟩
  rw [← hR]
  have hR2 : R = (⟨(typedM ws (needM ws 4 [40] st)).1, (typedM ws (needM ws 4 [40] st)).2.1, (if isM ws 4 [123] (typedM ws (needM ws 4 [40] st)).2.2 then propsM ws (typedM ws (needM ws 4 [40] st)).2.2.adv else ([], (typedM ws (needM ws 4 [40] st)).2.2)).1⟩, needM ws 4 [41] (if isM ws 4 [123] (typedM ws (needM ws 4 [40] st)).2.2 then propsM ws (typedM ws (needM ws 4 [40] st)).2.2.adv else ([], (typedM ws (needM ws 4 [40] st)).2.2)).2) := by rw [hR]; rfl
  clear hR
  have cm1 := fun W (hz : Pz ws b cap g st W) => mark_any hz [40]
  have em1 : str [40] = (⟨#[40]⟩ : ByteArray) := rfl
  rw [em1] at cm1
  have cu1 := fun W (hz : Pz ws b cap g (nextM ws 4 [40] st) W) => must_any hz (isM ws 4 [40] st)
  have hd1 : needM ws 4 [40] st = mustM (isM ws 4 [40] st) (nextM ws 4 [40] st) := rfl
  obtain ⟨m1, hm1⟩ : ∃ r, r = isM ws 4 [40] st := ⟨_, rfl⟩
  obtain ⟨x1, hx1⟩ : ∃ r, r = nextM ws 4 [40] st := ⟨_, rfl⟩
  rw [← hm1, ← hx1] at cm1 cu1 hd1
  obtain ⟨y1, hy1⟩ : ∃ r, r = mustM m1 x1 := ⟨_, rfl⟩
  rw [← hy1] at cu1 hd1
  rw [hd1] at hR2
  clear hm1 hx1 hy1 hd1 em1
  replace cm1 := Lib.hid cm1; replace cu1 := Lib.hid cu1
  have ct := fun W (hz : Pz ws b cap g y1 W) => typed_any hz
  obtain ⟨⟨tv, tl, s3⟩, ht⟩ : ∃ r, r = typedM ws y1 := ⟨_, rfl⟩
  rw [← ht] at ct hR2
  simp only at ct hR2
  clear ht
  replace ct := Lib.hid ct
  have cm2 := fun W (hz : Pz ws b cap g s3 W) => mark_any hz [123]
  have em2 : str [123] = (⟨#[123]⟩ : ByteArray) := rfl
  rw [em2] at cm2
  unfold nextM at cm2
  clear em2
  replace hp := Lib.hid (hpFirst ((hp.out.alloc #[.string ⟨#[]⟩, .string ⟨#[]⟩, .slice none 0 0] 79).alloc #[.string ⟨#[]⟩, .string ⟨#[]⟩, .slice none 0 0] 79) 2 rfl)
  replace hp := Lib.hid (show Hp w [g] (.box g (psC b cap ws.length st) 68 :: .box (w.alloc (.cells #[.string ⟨#[]⟩, .string ⟨#[]⟩, .slice none 0 0] 79)).heap.size #[.string ⟨#[]⟩, .string ⟨#[]⟩, .slice none 0 0] 79 :: .box w.heap.size #[.string ⟨#[]⟩, .string ⟨#[]⟩, .slice none 0 0] 79 :: []) _ from hp.out)
  have hsz : ∀ (u : World) o, (u.alloc o).heap.size = u.heap.size + 1 := fun u o => by simp
  rw [hsz] at hp
  clear hsz
  go_enter Tryd.func56, Tryd.ntmps56
  go_upto_region 2 with fail
  generalize (w.alloc _).alloc _ = W1 at hp ⊢
  generalize hq1 : w.heap.size + 1 = qn at hp ⊢
  generalize w.heap.size = qr at hp ⊢
  clear hq1
  go_upto_region 4 with (first
    | (go_at_call 59; (with_reducible refine (cm1.out _ (hzz.out _ _ st 0 hp.out rfl l0.out)).mono ?_); rintro e wa1 ⟨rfl, ha1, ka1⟩; have la1 := Lib.hid ha1.lt; replace hp := Lib.hid (hp.out.call (i := 0) rfl (cs' := psC b cap ws.length x1) ha1.box ka1); clear ha1 ka1)
    | (go_at_call 54; (with_reducible refine (cu1.out _ (hzz.out _ _ x1 0 hp.out rfl la1.out)).mono ?_); rintro e wb1 ⟨rfl, hb1, kb1⟩; have lb1 := Lib.hid hb1.lt; replace hp := Lib.hid (hp.out.call (i := 0) rfl (cs' := psC b cap ws.length y1) hb1.box kb1); clear hb1 kb1)
    | (go_at_call 88; (with_reducible refine (ct.out _ (hzz.out _ _ y1 0 hp.out rfl lb1.out)).mono ?_); rintro e w3 ⟨rfl, h3, k3⟩; have l3 := Lib.hid h3.lt; replace hp := Lib.hid (hp.out.call (i := 0) rfl (cs' := psC b cap ws.length s3) h3.box k3); clear h3 k3; have y0 := hp.out.cell (i := 1) rfl 0; have y1 := hp.out.cell (i := 1) rfl 1; have y2 := hp.out.cell (i := 1) rfl 2; have f0 := hp.out.free (i := 1) rfl 0; have f1 := hp.out.free (i := 1) rfl 1; have f2 := hp.out.free (i := 1) rfl 2; simp at y0 y1 y2))
  replace hp := Lib.hid ((hp.out.put (i := 1) rfl 0 (.string (str tv))).put (i := 1) rfl 1 (.string (str tl)))
  clear y0 y2 f0 f1 f2
  generalize World.setCell (World.setCell _ _ _) _ _ = W2 at hp ⊢
  replace hp := Lib.hid (show Hp w [g] (.box g (psC b cap ws.length s3) 68 :: .box qn #[.string (str tv), .string (str tl), .slice none 0 0] 79 :: .box qr #[.string ⟨#[]⟩, .string ⟨#[]⟩, .slice none 0 0] 79 :: []) W2 from hp.out)
  cases hm2 : isM ws 4 [123] s3 with
  | true =>
    rw [hm2] at cm2 hR2
    simp only [if_true, Bool.false_eq_true, if_false] at cm2 hR2
    replace cm2 := Lib.hid cm2
    have cp := fun W (hz : Pz ws b cap g s3.adv W) => props_any hz
    obtain ⟨⟨ps, s5⟩, hps⟩ : ∃ r, r = propsM ws s3.adv := ⟨_, rfl⟩
    rw [← hps] at cp hR2
    simp only at cp hR2
    replace cp := Lib.hid cp
    clear hps hm2
    have cm4 := fun W (hz : Pz ws b cap g s5 W) => mark_any hz [41]
    have em4 : str [41] = (⟨#[41]⟩ : ByteArray) := rfl
    rw [em4] at cm4
    have cu4 := fun W (hz : Pz ws b cap g (nextM ws 4 [41] s5) W) => must_any hz (isM ws 4 [41] s5)
    have hd4 : needM ws 4 [41] s5 = mustM (isM ws 4 [41] s5) (nextM ws 4 [41] s5) := rfl
    obtain ⟨m4, hm4⟩ : ∃ r, r = isM ws 4 [41] s5 := ⟨_, rfl⟩
    obtain ⟨x4, hx4⟩ : ∃ r, r = nextM ws 4 [41] s5 := ⟨_, rfl⟩
    rw [← hm4, ← hx4] at cm4 cu4 hd4
    obtain ⟨y4, hy4⟩ : ∃ r, r = mustM m4 x4 := ⟨_, rfl⟩
    rw [← hy4] at cu4 hd4
    rw [hd4] at hR2
    clear hm4 hx4 hy4 hd4 em4
    replace cm4 := Lib.hid cm4; replace cu4 := Lib.hid cu4
    obtain ⟨np, hnp⟩ : ∃ k, k = ps.length := ⟨_, rfl⟩
    rw [← hnp] at cp
    replace hnp := Lib.hid hnp
    replace hR2 := Lib.hid hR2
    go_upto_region 6 with (first
      | (go_at_call 59; (with_reducible refine (cm2.out _ (hzz.out _ _ s3 0 hp.out rfl l3.out)).mono ?_); rintro e w2 ⟨rfl, h2, k2⟩; have l2 := Lib.hid h2.lt; replace hp := Lib.hid (hp.out.call (i := 0) rfl (cs' := psC b cap ws.length s3.adv) h2.box k2); clear h2 k2)
      | (go_at_call 89; (with_reducible refine (cp.out _ (hzz.out _ _ s3.adv 0 hp.out rfl l2.out)).mono ?_); rintro e w5 ⟨ad, cpp, rfl, h5, l5⟩; replace l5 := Lib.hid l5; replace hp := Lib.hid (show Hp w [g] (.row 98 4 (.slice ad np cpp) np (ps.flatMap Pp.cells) :: .box g (psC b cap ws.length s5) 68 :: .box qn #[.string (str tv), .string (str tl), .slice none 0 0] 79 :: .box qr #[.string ⟨#[]⟩, .string ⟨#[]⟩, .slice none 0 0] 79 :: []) w5 from hpServe hp.out h5); clear h5; replace hp := Lib.hid (show Hp w [g] (.box g (psC b cap ws.length s5) 68 :: .row 98 4 (.slice ad np cpp) np (ps.flatMap Pp.cells) :: .box qn #[.string (str tv), .string (str tl), .slice none 0 0] 79 :: .box qr #[.string ⟨#[]⟩, .string ⟨#[]⟩, .slice none 0 0] 79 :: []) w5 from hpFirst hp.out 1 rfl); have y0 := hp.out.cell (i := 2) rfl 0; have y1 := hp.out.cell (i := 2) rfl 1; have y2 := hp.out.cell (i := 2) rfl 2; have f0 := hp.out.free (i := 2) rfl 0; have f1 := hp.out.free (i := 2) rfl 1; have f2 := hp.out.free (i := 2) rfl 2; simp at y0 y1 y2))
    replace hp := Lib.hid (hp.out.put (i := 2) rfl 2 (.slice ad np cpp))
    clear y0 y1 y2 f0 f1 f2
    generalize World.setCell _ _ _ = W3 at hp ⊢
    replace hp := Lib.hid (show Hp w [g] (.box g (psC b cap ws.length s5) 68 :: .row 98 4 (.slice ad np cpp) np (ps.flatMap Pp.cells) :: .box qn #[.string (str tv), .string (str tl), .slice ad np cpp] 79 :: .box qr #[.string ⟨#[]⟩, .string ⟨#[]⟩, .slice none 0 0] 79 :: []) W3 from hp.out)
    go_upto_region 7 with (first
      | (go_at_call 59; (with_reducible refine (cm4.out _ (hzz.out _ _ s5 0 hp.out rfl l5.out)).mono ?_); rintro e wa4 ⟨rfl, ha4, ka4⟩; have la4 := Lib.hid ha4.lt; replace hp := Lib.hid (hp.out.call (i := 0) rfl (cs' := psC b cap ws.length x4) ha4.box ka4); clear ha4 ka4)
      | (go_at_call 54; (with_reducible refine (cu4.out _ (hzz.out _ _ x4 0 hp.out rfl la4.out)).mono ?_); rintro e wb4 ⟨rfl, hb4, kb4⟩; have lb4 := Lib.hid hb4.lt; replace hp := Lib.hid (hp.out.call (i := 0) rfl (cs' := psC b cap ws.length y4) hb4.box kb4); clear hb4 kb4))
    have y0 := hp.out.cell (i := 2) rfl 0; have y1 := hp.out.cell (i := 2) rfl 1; have y2 := hp.out.cell (i := 2) rfl 2; simp at y0 y1 y2
    have z0 := hp.out.cell (i := 3) rfl 0; have z1 := hp.out.cell (i := 3) rfl 1; have z2 := hp.out.cell (i := 3) rfl 2; have f0 := hp.out.free (i := 3) rfl 0; have f1 := hp.out.free (i := 3) rfl 1; have f2 := hp.out.free (i := 3) rfl 2; simp at z0 z1 z2
    go_wp2
    replace hp := Lib.hid (((hp.out.put (i := 3) rfl 0 (.string (str tv))).put (i := 3) rfl 1 (.string (str tl))).put (i := 3) rfl 2 (.slice ad np cpp))
    have hpg := hp.out
    have hf := hR2.out
    subst hf
    have hnp2 := hnp.out
    subst hnp2
    refine bodyPost_ret (v := .agg #[.string (str tv), .string (str tl), .slice ad ps.length cpp]) (results_cell_row rfl _ _ qr 79 #[.string (str tv), .string (str tl), .slice ad ps.length cpp] (0, 0) _ rfl (hpg.box (i := 3) rfl) Tryd.underlying79 rfl node3) rfl ⟨_, _, rfl, ?_, lb4.out⟩
    exact (hpg.drop 2).drop 2
  | false =>
    rw [hm2] at cm2 hR2
    simp only [if_true, Bool.false_eq_true, if_false] at cm2 hR2
    replace cm2 := Lib.hid cm2
    clear hm2
    have cm4 := fun W (hz : Pz ws b cap g s3 W) => mark_any hz [41]
    have em4 : str [41] = (⟨#[41]⟩ : ByteArray) := rfl
    rw [em4] at cm4
    have cu4 := fun W (hz : Pz ws b cap g (nextM ws 4 [41] s3) W) => must_any hz (isM ws 4 [41] s3)
    have hd4 : needM ws 4 [41] s3 = mustM (isM ws 4 [41] s3) (nextM ws 4 [41] s3) := rfl
    obtain ⟨m4, hm4⟩ : ∃ r, r = isM ws 4 [41] s3 := ⟨_, rfl⟩
    obtain ⟨x4, hx4⟩ : ∃ r, r = nextM ws 4 [41] s3 := ⟨_, rfl⟩
    rw [← hm4, ← hx4] at cm4 cu4 hd4
    obtain ⟨y4, hy4⟩ : ∃ r, r = mustM m4 x4 := ⟨_, rfl⟩
    rw [← hy4] at cu4 hd4
    rw [hd4] at hR2
    clear hm4 hx4 hy4 hd4 em4
    replace cm4 := Lib.hid cm4; replace cu4 := Lib.hid cu4
    replace hR2 := Lib.hid hR2
    go_upto_region 6 with (first
      | (go_at_call 59; (with_reducible refine (cm2.out _ (hzz.out _ _ s3 0 hp.out rfl l3.out)).mono ?_); rintro e w2 ⟨rfl, h2, k2⟩; have l2 := Lib.hid h2.lt; replace hp := Lib.hid (hp.out.call (i := 0) rfl (cs' := psC b cap ws.length s3) h2.box k2); clear h2 k2))
    replace hp := Lib.hid (hpFirst (hp.out.rowNil 98 4) 1 rfl)
    replace hp := Lib.hid (show Hp w [g] (.box g (psC b cap ws.length s3) 68 :: .row 98 4 (.slice none 0 0) 0 [] :: .box qn #[.string (str tv), .string (str tl), .slice none 0 0] 79 :: .box qr #[.string ⟨#[]⟩, .string ⟨#[]⟩, .slice none 0 0] 79 :: []) _ from hp.out)
    go_upto_region 7 with (first
      | (go_at_call 59; (with_reducible refine (cm4.out _ (hzz.out _ _ s3 0 hp.out rfl l2.out)).mono ?_); rintro e wa4 ⟨rfl, ha4, ka4⟩; have la4 := Lib.hid ha4.lt; replace hp := Lib.hid (hp.out.call (i := 0) rfl (cs' := psC b cap ws.length x4) ha4.box ka4); clear ha4 ka4)
      | (go_at_call 54; (with_reducible refine (cu4.out _ (hzz.out _ _ x4 0 hp.out rfl la4.out)).mono ?_); rintro e wb4 ⟨rfl, hb4, kb4⟩; have lb4 := Lib.hid hb4.lt; replace hp := Lib.hid (hp.out.call (i := 0) rfl (cs' := psC b cap ws.length y4) hb4.box kb4); clear hb4 kb4))
    have y0 := hp.out.cell (i := 2) rfl 0; have y1 := hp.out.cell (i := 2) rfl 1; have y2 := hp.out.cell (i := 2) rfl 2; simp at y0 y1 y2
    have z0 := hp.out.cell (i := 3) rfl 0; have z1 := hp.out.cell (i := 3) rfl 1; have z2 := hp.out.cell (i := 3) rfl 2; have f0 := hp.out.free (i := 3) rfl 0; have f1 := hp.out.free (i := 3) rfl 1; have f2 := hp.out.free (i := 3) rfl 2; simp at z0 z1 z2
    go_wp2
    replace hp := Lib.hid (((hp.out.put (i := 3) rfl 0 (.string (str tv))).put (i := 3) rfl 1 (.string (str tl))).put (i := 3) rfl 2 (.slice none 0 0))
    have hpg := hp.out
    have hf := hR2.out
    subst hf
    refine bodyPost_ret (v := .agg #[.string (str tv), .string (str tl), .slice none 0 0]) (results_cell_row rfl _ _ qr 79 #[.string (str tv), .string (str tl), .slice none 0 0] (0, 0) _ rfl (hpg.box (i := 3) rfl) Tryd.underlying79 rfl node3) rfl ⟨_, _, rfl, ?_, lb4.out⟩
    exact (hpg.drop 2).drop 2
set_option maxHeartbeats 8000000 in
theorem item_any {ws : List W} {b cap g : Nat} {st : St} {w : World} (h : Pz ws b cap g st w) :
    Calls Tryd.prog 60 #[pv g] w (PR ws b cap g w (itemM ws st).1.a (itemM ws st).2) := by
  have hz0 := h
  have hp := Hp.lend h.box
  have hzz : ∀ (W : World) (rs : List Rs) (st' : St) (i : Nat), Hp w [g] rs W → rs[i]? = some (.box g (psC b cap ws.length st') 68) → st'.at_ < ws.length → Pz ws b cap g st' W := fun W rs st' i hpW hi hl => (Pz.of hz0 hpW hi hl).1
  have l0 := h.lt
  replace h := Lib.hid h; replace hp := Lib.hid hp; replace hzz := Lib.hid hzz; replace l0 := Lib.hid l0
  clear hz0
  obtain ⟨R, hR⟩ : ∃ R, R = itemM ws st := ⟨_, rfl⟩
  rw [← hR]
  have hR2 : R = if isM ws 4 [46] (nameM ws st).2 then (⟨(nameM ws st).1, (nameM ws (nameM ws st).2.adv).1⟩, (nameM ws (nameM ws st).2.adv).2) else (⟨(nameM ws st).1, []⟩, (nameM ws st).2) := by rw [hR]; rfl
  clear hR
  have cn := fun W (hz : Pz ws b cap g st W) => name_any hz
  obtain ⟨⟨nv, s1⟩, hn⟩ : ∃ r, r = nameM ws st := ⟨_, rfl⟩
  rw [← hn] at cn hR2
  simp only at cn hR2
  clear hn
  replace cn := Lib.hid cn
  have cm2 := fun W (hz : Pz ws b cap g s1 W) => mark_any hz [46]
  have em2 : str [46] = (⟨#[46]⟩ : ByteArray) := rfl
  rw [em2] at cm2
  unfold nextM at cm2
  clear em2
  replace hp := Lib.hid (hpFirst (hp.out.alloc #[.string ⟨#[]⟩, .string ⟨#[]⟩] 94) 1 rfl)
  replace hp := Lib.hid (show Hp w [g] (.box g (psC b cap ws.length st) 68 :: .box w.heap.size #[.string ⟨#[]⟩, .string ⟨#[]⟩] 94 :: []) _ from hp.out)
  go_enter Tryd.func60, Tryd.ntmps60
  go_upto_region 1 with fail
  generalize w.alloc _ = W1 at hp ⊢
  generalize w.heap.size = qr at hp ⊢
  go_upto_region 2 with (go_at_call 90; (with_reducible refine (cn.out _ (hzz.out _ _ st 0 hp.out rfl l0.out)).mono ?_); rintro e w1 ⟨rfl, h1, k1⟩; have l1 := Lib.hid h1.lt; replace hp := Lib.hid (hp.out.call (i := 0) rfl (cs' := psC b cap ws.length s1) h1.box k1); clear h1 k1)
  replace hp := Lib.hid (hpFirst (hp.out.alloc #[.string (str nv), .string ⟨#[]⟩] 94) 1 rfl)
  replace hp := Lib.hid (show Hp w [g] (.box g (psC b cap ws.length s1) 68 :: .box w1.heap.size #[.string (str nv), .string ⟨#[]⟩] 94 :: .box qr #[.string ⟨#[]⟩, .string ⟨#[]⟩] 94 :: []) _ from hp.out)
  generalize w1.alloc _ = W2 at hp ⊢
  generalize w1.heap.size = qn at hp ⊢
  cases hm2 : isM ws 4 [46] s1 with
  | true =>
    rw [hm2] at cm2 hR2
    simp only [if_true, Bool.false_eq_true, if_false] at cm2 hR2
    replace cm2 := Lib.hid cm2
    have ck := fun W (hz : Pz ws b cap g s1.adv W) => name_any hz
    obtain ⟨⟨kv, s3⟩, hk⟩ : ∃ r, r = nameM ws s1.adv := ⟨_, rfl⟩
    rw [← hk] at ck hR2
    simp only at ck hR2
    replace ck := Lib.hid ck
    clear hk hm2
    replace hR2 := Lib.hid hR2
    go_upto_region 4 with (first
      | (go_at_call 59; (with_reducible refine (cm2.out _ (hzz.out _ _ s1 0 hp.out rfl l1.out)).mono ?_); rintro e w2 ⟨rfl, h2, k2⟩; have l2 := Lib.hid h2.lt; replace hp := Lib.hid (hp.out.call (i := 0) rfl (cs' := psC b cap ws.length s1.adv) h2.box k2); clear h2 k2)
      | (go_at_call 90; (with_reducible refine (ck.out _ (hzz.out _ _ s1.adv 0 hp.out rfl l2.out)).mono ?_); rintro e w3 ⟨rfl, h3, k3⟩; have l3 := Lib.hid h3.lt; replace hp := Lib.hid (hp.out.call (i := 0) rfl (cs' := psC b cap ws.length s3) h3.box k3); clear h3 k3; have y0 := hp.out.cell (i := 1) rfl 0; have y1 := hp.out.cell (i := 1) rfl 1; have f0 := hp.out.free (i := 1) rfl 0; have f1 := hp.out.free (i := 1) rfl 1; simp at y0 y1))
    replace hp := Lib.hid (hp.out.put (i := 1) rfl 1 (.string (str kv)))
    clear y0 y1 f0 f1
    generalize World.setCell _ _ _ = W3 at hp ⊢
    have y0 := hp.out.cell (i := 1) rfl 0; have y1 := hp.out.cell (i := 1) rfl 1; simp at y0 y1
    have z0 := hp.out.cell (i := 2) rfl 0; have z1 := hp.out.cell (i := 2) rfl 1; have f0 := hp.out.free (i := 2) rfl 0; have f1 := hp.out.free (i := 2) rfl 1; simp at z0 z1
    go_wp2
    replace hp := Lib.hid ((hp.out.put (i := 2) rfl 0 (.string (str nv))).put (i := 2) rfl 1 (.string (str kv)))
    have hpg := hp.out
    have hf := hR2.out
    subst hf
    exact bodyPost_ret (v := .agg #[.string (str nv), .string (str kv)]) (results_cell_row rfl _ _ qr 94 #[.string (str nv), .string (str kv)] (0, 0) _ rfl (hpg.box (i := 2) rfl) Tryd.underlying94 rfl item2) rfl ⟨rfl, Pz.of h.out hpg (i := 0) rfl l3.out⟩
  | false =>
    rw [hm2] at cm2 hR2
    simp only [if_true, Bool.false_eq_true, if_false] at cm2 hR2
    replace cm2 := Lib.hid cm2
    clear hm2
    replace hR2 := Lib.hid hR2
    go_upto_region 4 with (go_at_call 59; (with_reducible refine (cm2.out _ (hzz.out _ _ s1 0 hp.out rfl l1.out)).mono ?_); rintro e w2 ⟨rfl, h2, k2⟩; have l2 := Lib.hid h2.lt; replace hp := Lib.hid (hp.out.call (i := 0) rfl (cs' := psC b cap ws.length s1) h2.box k2); clear h2 k2)
    have y0 := hp.out.cell (i := 1) rfl 0; have y1 := hp.out.cell (i := 1) rfl 1; simp at y0 y1
    have z0 := hp.out.cell (i := 2) rfl 0; have z1 := hp.out.cell (i := 2) rfl 1; have f0 := hp.out.free (i := 2) rfl 0; have f1 := hp.out.free (i := 2) rfl 1; simp at z0 z1
    go_wp2
    replace hp := Lib.hid ((hp.out.put (i := 2) rfl 0 (.string (str nv))).put (i := 2) rfl 1 (.string ⟨#[]⟩))
    have hpg := hp.out
    have hf := hR2.out
    subst hf
    exact bodyPost_ret (v := .agg #[.string (str nv), .string ⟨#[]⟩]) (results_cell_row rfl _ _ qr 94 #[.string (str nv), .string ⟨#[]⟩] (0, 0) _ rfl (hpg.box (i := 2) rfl) Tryd.underlying94 rfl item2) rfl ⟨rfl, Pz.of h.out hpg (i := 0) rfl l2.out⟩
set_option maxHeartbeats 8000000 in
theorem cond_any {ws : List W} {b cap g : Nat} {st : St} {w : World} (h : Pz ws b cap g st w) :
    Calls Tryd.prog 58 #[pv g] w (PR ws b cap g w (condM ws st).1.a (condM ws st).2) := by
  have hz0 := h
  have hp := Hp.lend h.box
  have hzz : ∀ (W : World) (rs : List Rs) (st' : St) (i : Nat), Hp w [g] rs W → rs[i]? = some (.box g (psC b cap ws.length st') 68) → st'.at_ < ws.length → Pz ws b cap g st' W := fun W rs st' i hpW hi hl => (Pz.of hz0 hpW hi hl).1
  have l0 := h.lt
  replace h := Lib.hid h; replace hp := Lib.hid hp; replace hzz := Lib.hid hzz; replace l0 := Lib.hid l0
  clear hz0
  obtain ⟨R, hR⟩ : ∃ R, R = condM ws st := ⟨_, rfl⟩
  rw [← hR]
  have hR2 : R = (⟨(nameM ws st).1, (nameM ws (needM ws 4 [46] (nameM ws st).2)).1, (opM ws (nameM ws (needM ws 4 [46] (nameM ws st).2)).2).1, (valM ws (opM ws (nameM ws (needM ws 4 [46] (nameM ws st).2)).2).2).1⟩, (valM ws (opM ws (nameM ws (needM ws 4 [46] (nameM ws st).2)).2).2).2) := by rw [hR]; rfl
  clear hR
  have cn := fun W (hz : Pz ws b cap g st W) => name_any hz
  obtain ⟨⟨nv, s1⟩, hn⟩ : ∃ r, r = nameM ws st := ⟨_, rfl⟩
  rw [← hn] at cn hR2
  simp only at cn hR2
  clear hn
  replace cn := Lib.hid cn
  have cm2 := fun W (hz : Pz ws b cap g s1 W) => mark_any hz [46]
  have em2 : str [46] = (⟨#[46]⟩ : ByteArray) := rfl
  rw [em2] at cm2
  have cu2 := fun W (hz : Pz ws b cap g (nextM ws 4 [46] s1) W) => must_any hz (isM ws 4 [46] s1)
  have hd2 : needM ws 4 [46] s1 = mustM (isM ws 4 [46] s1) (nextM ws 4 [46] s1) := rfl
  obtain ⟨m2, hm2⟩ : ∃ r, r = isM ws 4 [46] s1 := ⟨_, rfl⟩
  obtain ⟨x2, hx2⟩ : ∃ r, r = nextM ws 4 [46] s1 := ⟨_, rfl⟩
  rw [← hm2, ← hx2] at cm2 cu2 hd2
  obtain ⟨y2, hy2⟩ : ∃ r, r = mustM m2 x2 := ⟨_, rfl⟩
  rw [← hy2] at cu2 hd2
  rw [hd2] at hR2
  clear hm2 hx2 hy2 hd2 em2
  replace cm2 := Lib.hid cm2; replace cu2 := Lib.hid cu2
  have ck := fun W (hz : Pz ws b cap g y2 W) => name_any hz
  obtain ⟨⟨kv, s3⟩, hk⟩ : ∃ r, r = nameM ws y2 := ⟨_, rfl⟩
  rw [← hk] at ck hR2
  simp only at ck hR2
  clear hk
  replace ck := Lib.hid ck
  have co := fun W (hz : Pz ws b cap g s3 W) => op_any hz
  obtain ⟨⟨ov, s4⟩, ho⟩ : ∃ r, r = opM ws s3 := ⟨_, rfl⟩
  rw [← ho] at co hR2
  simp only at co hR2
  clear ho
  replace co := Lib.hid co
  have cv := fun W (hz : Pz ws b cap g s4 W) => val_any hz
  obtain ⟨⟨⟨vk, vn, vs⟩, s5⟩, hv⟩ : ∃ r, r = valM ws s4 := ⟨_, rfl⟩
  rw [← hv] at cv hR2
  unfold V.a at cv
  simp only at cv hR2
  clear hv
  replace cv := Lib.hid cv; replace hR2 := Lib.hid hR2
  replace hp := Lib.hid (hpFirst (hp.out.alloc #[.string ⟨#[]⟩, .string ⟨#[]⟩, .int .i64 0, .int .i64 0, .int .i64 0, .string ⟨#[]⟩] 88) 1 rfl)
  replace hp := Lib.hid (show Hp w [g] (.box g (psC b cap ws.length st) 68 :: .box w.heap.size #[.string ⟨#[]⟩, .string ⟨#[]⟩, .int .i64 0, .int .i64 0, .int .i64 0, .string ⟨#[]⟩] 88 :: []) _ from hp.out)
  go_enter Tryd.func58, Tryd.ntmps58
  go_upto_region 1 with fail
  generalize w.alloc _ = W1 at hp ⊢
  generalize w.heap.size = qr at hp ⊢
  go_upto_region 2 with (go_at_call 90; (with_reducible refine (cn.out _ (hzz.out _ _ st 0 hp.out rfl l0.out)).mono ?_); rintro e w1 ⟨rfl, h1, k1⟩; have l1 := Lib.hid h1.lt; replace hp := Lib.hid (hp.out.call (i := 0) rfl (cs' := psC b cap ws.length s1) h1.box k1); clear h1 k1)
  replace hp := Lib.hid (hpFirst (hp.out.alloc #[.string (str nv), .string ⟨#[]⟩, .int .i64 0, .int .i64 0, .int .i64 0, .string ⟨#[]⟩] 88) 1 rfl)
  replace hp := Lib.hid (show Hp w [g] (.box g (psC b cap ws.length s1) 68 :: .box w1.heap.size #[.string (str nv), .string ⟨#[]⟩, .int .i64 0, .int .i64 0, .int .i64 0, .string ⟨#[]⟩] 88 :: .box qr #[.string ⟨#[]⟩, .string ⟨#[]⟩, .int .i64 0, .int .i64 0, .int .i64 0, .string ⟨#[]⟩] 88 :: []) _ from hp.out)
  generalize w1.alloc _ = W2 at hp ⊢
  generalize w1.heap.size = qn at hp ⊢
  go_upto_region 4 with (first
    | (go_at_call 59; (with_reducible refine (cm2.out _ (hzz.out _ _ s1 0 hp.out rfl l1.out)).mono ?_); rintro e wa2 ⟨rfl, ha2, ka2⟩; have la2 := Lib.hid ha2.lt; replace hp := Lib.hid (hp.out.call (i := 0) rfl (cs' := psC b cap ws.length x2) ha2.box ka2); clear ha2 ka2)
    | (go_at_call 54; (with_reducible refine (cu2.out _ (hzz.out _ _ x2 0 hp.out rfl la2.out)).mono ?_); rintro e wb2 ⟨rfl, hb2, kb2⟩; have lb2 := Lib.hid hb2.lt; replace hp := Lib.hid (hp.out.call (i := 0) rfl (cs' := psC b cap ws.length y2) hb2.box kb2); clear hb2 kb2)
    | (go_at_call 90; (with_reducible refine (ck.out _ (hzz.out _ _ y2 0 hp.out rfl lb2.out)).mono ?_); rintro e w3 ⟨rfl, h3, k3⟩; have l3 := Lib.hid h3.lt; replace hp := Lib.hid (hp.out.call (i := 0) rfl (cs' := psC b cap ws.length s3) h3.box k3); clear h3 k3; have y0 := hp.out.cell (i := 1) rfl 0; have y1 := hp.out.cell (i := 1) rfl 1; have y2 := hp.out.cell (i := 1) rfl 2; have y3 := hp.out.cell (i := 1) rfl 3; have y4 := hp.out.cell (i := 1) rfl 4; have y5 := hp.out.cell (i := 1) rfl 5; have f0 := hp.out.free (i := 1) rfl 0; have f1 := hp.out.free (i := 1) rfl 1; have f2 := hp.out.free (i := 1) rfl 2; have f3 := hp.out.free (i := 1) rfl 3; have f4 := hp.out.free (i := 1) rfl 4; have f5 := hp.out.free (i := 1) rfl 5; simp at y0 y1 y2 y3 y4 y5))
  replace hp := Lib.hid (hp.out.put (i := 1) rfl 1 (.string (str kv)))
  clear y0 y1 y3 y4 y5 f0 f1 f2 f3 f4 f5
  generalize World.setCell _ _ _ = W3 at hp ⊢
  go_upto_region 5 with (go_at_call 91; (with_reducible refine (co.out _ (hzz.out _ _ s3 0 hp.out rfl l3.out)).mono ?_); rintro e w4 ⟨rfl, h4, k4⟩; have l4 := Lib.hid h4.lt; replace hp := Lib.hid (hp.out.call (i := 0) rfl (cs' := psC b cap ws.length s4) h4.box k4); clear h4 k4; have y0 := hp.out.cell (i := 1) rfl 0; have y1 := hp.out.cell (i := 1) rfl 1; have y2 := hp.out.cell (i := 1) rfl 2; have y3 := hp.out.cell (i := 1) rfl 3; have y4 := hp.out.cell (i := 1) rfl 4; have y5 := hp.out.cell (i := 1) rfl 5; have f0 := hp.out.free (i := 1) rfl 0; have f1 := hp.out.free (i := 1) rfl 1; have f2 := hp.out.free (i := 1) rfl 2; have f3 := hp.out.free (i := 1) rfl 3; have f4 := hp.out.free (i := 1) rfl 4; have f5 := hp.out.free (i := 1) rfl 5; simp at y0 y1 y2 y3 y4 y5)
  replace hp := Lib.hid (hp.out.put (i := 1) rfl 2 (.int .i64 (ov : Int)))
  clear y0 y1 y3 y4 y5 f0 f1 f2 f3 f4 f5
  generalize World.setCell _ _ _ = W4 at hp ⊢
  go_upto_region 6 with (go_at_call 92; (with_reducible refine (cv.out _ (hzz.out _ _ s4 0 hp.out rfl l4.out)).mono ?_); rintro e w5 ⟨rfl, h5, k5⟩; have l5 := Lib.hid h5.lt; replace hp := Lib.hid (hp.out.call (i := 0) rfl (cs' := psC b cap ws.length s5) h5.box k5); clear h5 k5; have y0 := hp.out.cell (i := 1) rfl 0; have y1 := hp.out.cell (i := 1) rfl 1; have y2 := hp.out.cell (i := 1) rfl 2; have y3 := hp.out.cell (i := 1) rfl 3; have y4 := hp.out.cell (i := 1) rfl 4; have y5 := hp.out.cell (i := 1) rfl 5; have f0 := hp.out.free (i := 1) rfl 0; have f1 := hp.out.free (i := 1) rfl 1; have f2 := hp.out.free (i := 1) rfl 2; have f3 := hp.out.free (i := 1) rfl 3; have f4 := hp.out.free (i := 1) rfl 4; have f5 := hp.out.free (i := 1) rfl 5; simp at y0 y1 y2 y3 y4 y5)
  replace hp := Lib.hid (((hp.out.put (i := 1) rfl 3 (.int .i64 (vk : Int))).put (i := 1) rfl 4 (.int .i64 vn)).put (i := 1) rfl 5 (.string (str vs)))
  clear y0 y1 y3 y4 y5 f0 f1 f2 f3 f4 f5
  generalize World.setCell (World.setCell (World.setCell _ _ _) _ _) _ _ = W5 at hp ⊢
  have y0 := hp.out.cell (i := 1) rfl 0; have y1 := hp.out.cell (i := 1) rfl 1; have y2 := hp.out.cell (i := 1) rfl 2; have y3 := hp.out.cell (i := 1) rfl 3; have y4 := hp.out.cell (i := 1) rfl 4; have y5 := hp.out.cell (i := 1) rfl 5; simp at y0 y1 y2 y3 y4 y5
  have z0 := hp.out.cell (i := 2) rfl 0; have z1 := hp.out.cell (i := 2) rfl 1; have z2 := hp.out.cell (i := 2) rfl 2; have z3 := hp.out.cell (i := 2) rfl 3; have z4 := hp.out.cell (i := 2) rfl 4; have z5 := hp.out.cell (i := 2) rfl 5; have f0 := hp.out.free (i := 2) rfl 0; have f1 := hp.out.free (i := 2) rfl 1; have f2 := hp.out.free (i := 2) rfl 2; have f3 := hp.out.free (i := 2) rfl 3; have f4 := hp.out.free (i := 2) rfl 4; have f5 := hp.out.free (i := 2) rfl 5; simp at z0 z1 z2 z3 z4 z5
  go_wp2
  replace hp := Lib.hid ((((((hp.out.put (i := 2) rfl 0 (.string (str nv))).put (i := 2) rfl 1 (.string (str kv))).put (i := 2) rfl 2 (.int .i64 (ov : Int))).put (i := 2) rfl 3 (.int .i64 (vk : Int))).put (i := 2) rfl 4 (.int .i64 vn)).put (i := 2) rfl 5 (.string (str vs)))
  have hpg := hp.out
  have hf := hR2.out
  subst hf
  exact bodyPost_ret (v := .agg #[.string (str nv), .string (str kv), .int .i64 (ov : Int), .int .i64 (vk : Int), .int .i64 vn, .string (str vs)]) (results_cell_row rfl _ _ qr 88 #[.string (str nv), .string (str kv), .int .i64 (ov : Int), .int .i64 (vk : Int), .int .i64 vn, .string (str vs)] (0, 0) _ rfl (hpg.box (i := 2) rfl) Tryd.underlying88 rfl cond6) rfl ⟨rfl, Pz.of h.out hpg (i := 0) rfl l5.out⟩
theorem edge_def (ws : List W) (st : St) : edgeM ws st = if isM ws 4 [45] st then ((edgeR ws true st.adv).1, true, (edgeR ws true st.adv).2) else if isM ws 4 [60, 45] st then ((edgeR ws false st.adv).1, true, (edgeR ws false st.adv).2) else (⟨[], [], false⟩, false, st) := rfl
theorem edgeR_def (ws : List W) (out : Bool) (st : St) : edgeR ws out st = (⟨(typedM ws (needM ws 4 [91] st)).1, (typedM ws (needM ws 4 [91] st)).2.1, out⟩, needM ws 4 (if out then [45, 62] else [45]) (needM ws 4 [93] (typedM ws (needM ws 4 [91] st)).2.2)) := rfl
set_option maxHeartbeats 8000000 in
theorem edge_any {ws : List W} {b cap g : Nat} {st : St} {w : World} (h : Pz ws b cap g st w) :
    Calls Tryd.prog 57 #[pv g] w (PR ws b cap g w (.tuple #[(edgeM ws st).1.a, .bool (edgeM ws st).2.1]) (edgeM ws st).2.2) := by
  have hz0 := h
  have hp := Hp.lend h.box
  have hzz : ∀ (W : World) (rs : List Rs) (st' : St) (i : Nat), Hp w [g] rs W → rs[i]? = some (.box g (psC b cap ws.length st') 68) → st'.at_ < ws.length → Pz ws b cap g st' W := fun W rs st' i hpW hi hl => (Pz.of hz0 hpW hi hl).1
  have l0 := h.lt
  replace h := Lib.hid h; replace hp := Lib.hid hp; replace hzz := Lib.hid hzz; replace l0 := Lib.hid l0
  clear hz0
  obtain ⟨R, hR⟩ : ∃ R, R = edgeM ws st := ⟨_, rfl⟩
  rw [← hR]
  rw [edge_def] at hR
  have cm1 := fun W (hz : Pz ws b cap g st W) => mark_any hz [45]
  have em1 : str [45] = (⟨#[45]⟩ : ByteArray) := rfl
  rw [em1] at cm1
  unfold nextM at cm1
  clear em1
  replace hp := Lib.hid (hpFirst (hp.out.alloc #[.string ⟨#[]⟩, .string ⟨#[]⟩, .bool false] 84) 1 rfl)
  replace hp := Lib.hid (show Hp w [g] (.box g (psC b cap ws.length st) 68 :: .box w.heap.size #[.string ⟨#[]⟩, .string ⟨#[]⟩, .bool false] 84 :: []) _ from hp.out)
  go_enter Tryd.func57, Tryd.ntmps57
  go_upto_region 1 with fail
  generalize w.alloc _ = W1 at hp ⊢
  generalize w.heap.size = qr at hp ⊢
  cases hm1 : isM ws 4 [45] st with
  | true =>
    rw [hm1] at cm1 hR
    simp only [if_true] at cm1 hR
    replace cm1 := Lib.hid cm1
    clear hm1
    go_upto_region 2 with (go_at_call 59; (with_reducible refine (cm1.out _ (hzz.out _ _ st 0 hp.out rfl l0.out)).mono ?_); rintro e w1 ⟨rfl, h1, k1⟩; have l1 := Lib.hid h1.lt; replace hp := Lib.hid (hp.out.call (i := 0) rfl (cs' := psC b cap ws.length st.adv) h1.box k1); clear h1 k1)
    replace hp := Lib.hid (hpFirst (hp.out.alloc #[.string ⟨#[]⟩, .string ⟨#[]⟩, .bool true] 84) 1 rfl)
    replace hp := Lib.hid (show Hp w [g] (.box g (psC b cap ws.length st.adv) 68 :: .box w1.heap.size #[.string ⟨#[]⟩, .string ⟨#[]⟩, .bool true] 84 :: .box qr #[.string ⟨#[]⟩, .string ⟨#[]⟩, .bool false] 84 :: []) _ from hp.out)
    generalize w1.alloc _ = W2 at hp ⊢
    generalize w1.heap.size = qn at hp ⊢
    have y0 := hp.out.cell (i := 1) rfl 0; have y1 := hp.out.cell (i := 1) rfl 1; have y2 := hp.out.cell (i := 1) rfl 2; simp at y0 y1 y2
    go_upto_region 4 with fail
    clear y0 y1 y2
    rw [edgeR_def] at hR
    have cm3 := fun W (hz : Pz ws b cap g st.adv W) => mark_any hz [91]
    have em3 : str [91] = (⟨#[91]⟩ : ByteArray) := rfl
    rw [em3] at cm3
    have cu3 := fun W (hz : Pz ws b cap g (nextM ws 4 [91] st.adv) W) => must_any hz (isM ws 4 [91] st.adv)
    have hd3 : needM ws 4 [91] st.adv = mustM (isM ws 4 [91] st.adv) (nextM ws 4 [91] st.adv) := rfl
    obtain ⟨m3, hm3⟩ : ∃ r, r = isM ws 4 [91] st.adv := ⟨_, rfl⟩
    obtain ⟨x3, hx3⟩ : ∃ r, r = nextM ws 4 [91] st.adv := ⟨_, rfl⟩
    rw [← hm3, ← hx3] at cm3 cu3 hd3
    obtain ⟨y3, hy3⟩ : ∃ r, r = mustM m3 x3 := ⟨_, rfl⟩
    rw [← hy3] at cu3 hd3
    rw [hd3] at hR
    clear hm3 hx3 hy3 hd3 em3
    replace cm3 := Lib.hid cm3; replace cu3 := Lib.hid cu3
    have ct := fun W (hz : Pz ws b cap g y3 W) => typed_any hz
    obtain ⟨⟨tv, tl, s4⟩, ht⟩ : ∃ r, r = typedM ws y3 := ⟨_, rfl⟩
    rw [← ht] at ct hR
    simp only at ct hR
    clear ht
    replace ct := Lib.hid ct
    have cm5 := fun W (hz : Pz ws b cap g s4 W) => mark_any hz [93]
    have em5 : str [93] = (⟨#[93]⟩ : ByteArray) := rfl
    rw [em5] at cm5
    have cu5 := fun W (hz : Pz ws b cap g (nextM ws 4 [93] s4) W) => must_any hz (isM ws 4 [93] s4)
    have hd5 : needM ws 4 [93] s4 = mustM (isM ws 4 [93] s4) (nextM ws 4 [93] s4) := rfl
    obtain ⟨m5, hm5⟩ : ∃ r, r = isM ws 4 [93] s4 := ⟨_, rfl⟩
    obtain ⟨x5, hx5⟩ : ∃ r, r = nextM ws 4 [93] s4 := ⟨_, rfl⟩
    rw [← hm5, ← hx5] at cm5 cu5 hd5
    obtain ⟨y5, hy5⟩ : ∃ r, r = mustM m5 x5 := ⟨_, rfl⟩
    rw [← hy5] at cu5 hd5
    rw [hd5] at hR
    clear hm5 hx5 hy5 hd5 em5
    replace cm5 := Lib.hid cm5; replace cu5 := Lib.hid cu5
    simp only [if_true, Bool.false_eq_true, if_false] at hR
    have cm6 := fun W (hz : Pz ws b cap g y5 W) => mark_any hz [45, 62]
    have em6 : str [45, 62] = (⟨#[45, 62]⟩ : ByteArray) := rfl
    rw [em6] at cm6
    have cu6 := fun W (hz : Pz ws b cap g (nextM ws 4 [45, 62] y5) W) => must_any hz (isM ws 4 [45, 62] y5)
    have hd6 : needM ws 4 [45, 62] y5 = mustM (isM ws 4 [45, 62] y5) (nextM ws 4 [45, 62] y5) := rfl
    obtain ⟨m6, hm6⟩ : ∃ r, r = isM ws 4 [45, 62] y5 := ⟨_, rfl⟩
    obtain ⟨x6, hx6⟩ : ∃ r, r = nextM ws 4 [45, 62] y5 := ⟨_, rfl⟩
    rw [← hm6, ← hx6] at cm6 cu6 hd6
    obtain ⟨y6, hy6⟩ : ∃ r, r = mustM m6 x6 := ⟨_, rfl⟩
    rw [← hy6] at cu6 hd6
    rw [hd6] at hR
    clear hm6 hx6 hy6 hd6 em6
    replace cm6 := Lib.hid cm6; replace cu6 := Lib.hid cu6
    replace hR := Lib.hid hR
    go_upto_region 6 with (first
      | (go_at_call 59; (with_reducible refine (cm3.out _ (hzz.out _ _ st.adv 0 hp.out rfl l1.out)).mono ?_); rintro e wa3 ⟨rfl, ha3, ka3⟩; have la3 := Lib.hid ha3.lt; replace hp := Lib.hid (hp.out.call (i := 0) rfl (cs' := psC b cap ws.length x3) ha3.box ka3); clear ha3 ka3)
      | (go_at_call 54; (with_reducible refine (cu3.out _ (hzz.out _ _ x3 0 hp.out rfl la3.out)).mono ?_); rintro e wb3 ⟨rfl, hb3, kb3⟩; have lb3 := Lib.hid hb3.lt; replace hp := Lib.hid (hp.out.call (i := 0) rfl (cs' := psC b cap ws.length y3) hb3.box kb3); clear hb3 kb3)
      | (go_at_call 88; (with_reducible refine (ct.out _ (hzz.out _ _ y3 0 hp.out rfl lb3.out)).mono ?_); rintro e w4 ⟨rfl, h4, k4⟩; have l4 := Lib.hid h4.lt; replace hp := Lib.hid (hp.out.call (i := 0) rfl (cs' := psC b cap ws.length s4) h4.box k4); clear h4 k4; have y0 := hp.out.cell (i := 1) rfl 0; have y1 := hp.out.cell (i := 1) rfl 1; have y2 := hp.out.cell (i := 1) rfl 2; have f0 := hp.out.free (i := 1) rfl 0; have f1 := hp.out.free (i := 1) rfl 1; have f2 := hp.out.free (i := 1) rfl 2; simp at y0 y1 y2))
    replace hp := Lib.hid ((hp.out.put (i := 1) rfl 0 (.string (str tv))).put (i := 1) rfl 1 (.string (str tl)))
    clear y0 y2 f0 f1 f2
    generalize World.setCell (World.setCell _ _ _) _ _ = W3 at hp ⊢
    replace hp := Lib.hid (show Hp w [g] (.box g (psC b cap ws.length s4) 68 :: .box qn #[.string (str tv), .string (str tl), .bool true] 84 :: .box qr #[.string ⟨#[]⟩, .string ⟨#[]⟩, .bool false] 84 :: []) W3 from hp.out)
    go_upto_region 7 with (first
      | (go_at_call 59; (with_reducible refine (cm5.out _ (hzz.out _ _ s4 0 hp.out rfl l4.out)).mono ?_); rintro e wa5 ⟨rfl, ha5, ka5⟩; have la5 := Lib.hid ha5.lt; replace hp := Lib.hid (hp.out.call (i := 0) rfl (cs' := psC b cap ws.length x5) ha5.box ka5); clear ha5 ka5)
      | (go_at_call 54; (with_reducible refine (cu5.out _ (hzz.out _ _ x5 0 hp.out rfl la5.out)).mono ?_); rintro e wb5 ⟨rfl, hb5, kb5⟩; have lb5 := Lib.hid hb5.lt; replace hp := Lib.hid (hp.out.call (i := 0) rfl (cs' := psC b cap ws.length y5) hb5.box kb5); clear hb5 kb5; have y0 := hp.out.cell (i := 1) rfl 0; have y1 := hp.out.cell (i := 1) rfl 1; have y2 := hp.out.cell (i := 1) rfl 2; simp at y0 y1 y2))
    go_upto_region 10 with (first
      | (go_at_call 59; (with_reducible refine (cm6.out _ (hzz.out _ _ y5 0 hp.out rfl lb5.out)).mono ?_); rintro e wa6 ⟨rfl, ha6, ka6⟩; have la6 := Lib.hid ha6.lt; replace hp := Lib.hid (hp.out.call (i := 0) rfl (cs' := psC b cap ws.length x6) ha6.box ka6); clear ha6 ka6)
      | (go_at_call 54; (with_reducible refine (cu6.out _ (hzz.out _ _ x6 0 hp.out rfl la6.out)).mono ?_); rintro e wb6 ⟨rfl, hb6, kb6⟩; have lb6 := Lib.hid hb6.lt; replace hp := Lib.hid (hp.out.call (i := 0) rfl (cs' := psC b cap ws.length y6) hb6.box kb6); clear hb6 kb6))
    clear y0 y1 y2
    have y0 := hp.out.cell (i := 1) rfl 0; have y1 := hp.out.cell (i := 1) rfl 1; have y2 := hp.out.cell (i := 1) rfl 2; simp at y0 y1 y2
    have z0 := hp.out.cell (i := 2) rfl 0; have z1 := hp.out.cell (i := 2) rfl 1; have z2 := hp.out.cell (i := 2) rfl 2; have f0 := hp.out.free (i := 2) rfl 0; have f1 := hp.out.free (i := 2) rfl 1; have f2 := hp.out.free (i := 2) rfl 2; simp at z0 z1 z2
    go_wp2
    replace hp := Lib.hid (((hp.out.put (i := 2) rfl 0 (.string (str tv))).put (i := 2) rfl 1 (.string (str tl))).put (i := 2) rfl 2 (.bool true))
    have hpg := hp.out
    have hf := hR.out
    subst hf
    exact bodyPost_ret (v := .tuple #[.agg #[.string (str tv), .string (str tl), .bool true], .bool true]) (edge_results rfl _ _ qr #[.string (str tv), .string (str tl), .bool true] (.bool true) rfl rfl (hpg.box (i := 2) rfl) rfl) rfl ⟨rfl, Pz.of h.out hpg (i := 0) rfl lb6.out⟩
  | false =>
    rw [hm1] at cm1 hR
    simp only [Bool.false_eq_true, if_false] at cm1 hR
    replace cm1 := Lib.hid cm1
    clear hm1
    have cm2 := fun W (hz : Pz ws b cap g st W) => mark_any hz [60, 45]
    have em2 : str [60, 45] = (⟨#[60, 45]⟩ : ByteArray) := rfl
    rw [em2] at cm2
    unfold nextM at cm2
    clear em2
    go_upto_region 2 with (go_at_call 59; (with_reducible refine (cm1.out _ (hzz.out _ _ st 0 hp.out rfl l0.out)).mono ?_); rintro e w1 ⟨rfl, h1, k1⟩; have l1 := Lib.hid h1.lt; replace hp := Lib.hid (hp.out.call (i := 0) rfl (cs' := psC b cap ws.length st) h1.box k1); clear h1 k1)
    replace hp := Lib.hid (hpFirst (hp.out.alloc #[.string ⟨#[]⟩, .string ⟨#[]⟩, .bool false] 84) 1 rfl)
    replace hp := Lib.hid (show Hp w [g] (.box g (psC b cap ws.length st) 68 :: .box w1.heap.size #[.string ⟨#[]⟩, .string ⟨#[]⟩, .bool false] 84 :: .box qr #[.string ⟨#[]⟩, .string ⟨#[]⟩, .bool false] 84 :: []) _ from hp.out)
    generalize w1.alloc _ = W2 at hp ⊢
    generalize w1.heap.size = qn at hp ⊢
    have y0 := hp.out.cell (i := 1) rfl 0; have y1 := hp.out.cell (i := 1) rfl 1; have y2 := hp.out.cell (i := 1) rfl 2; simp at y0 y1 y2
    cases hm2 : isM ws 4 [60, 45] st with
    | true =>
      rw [hm2] at cm2 hR
      simp only [if_true] at cm2 hR
      replace cm2 := Lib.hid cm2
      clear hm2
      go_upto_region 4 with (go_at_call 59; (with_reducible refine (cm2.out _ (hzz.out _ _ st 0 hp.out rfl l1.out)).mono ?_); rintro e w2 ⟨rfl, h2, k2⟩; have l2 := Lib.hid h2.lt; replace hp := Lib.hid (hp.out.call (i := 0) rfl (cs' := psC b cap ws.length st.adv) h2.box k2); clear h2 k2)
      clear y0 y1 y2
      rw [edgeR_def] at hR
      have cm3 := fun W (hz : Pz ws b cap g st.adv W) => mark_any hz [91]
      have em3 : str [91] = (⟨#[91]⟩ : ByteArray) := rfl
      rw [em3] at cm3
      have cu3 := fun W (hz : Pz ws b cap g (nextM ws 4 [91] st.adv) W) => must_any hz (isM ws 4 [91] st.adv)
      have hd3 : needM ws 4 [91] st.adv = mustM (isM ws 4 [91] st.adv) (nextM ws 4 [91] st.adv) := rfl
      obtain ⟨m3, hm3⟩ : ∃ r, r = isM ws 4 [91] st.adv := ⟨_, rfl⟩
      obtain ⟨x3, hx3⟩ : ∃ r, r = nextM ws 4 [91] st.adv := ⟨_, rfl⟩
      rw [← hm3, ← hx3] at cm3 cu3 hd3
      obtain ⟨y3, hy3⟩ : ∃ r, r = mustM m3 x3 := ⟨_, rfl⟩
      rw [← hy3] at cu3 hd3
      rw [hd3] at hR
      clear hm3 hx3 hy3 hd3 em3
      replace cm3 := Lib.hid cm3; replace cu3 := Lib.hid cu3
      have ct := fun W (hz : Pz ws b cap g y3 W) => typed_any hz
      obtain ⟨⟨tv, tl, s4⟩, ht⟩ : ∃ r, r = typedM ws y3 := ⟨_, rfl⟩
      rw [← ht] at ct hR
      simp only at ct hR
      clear ht
      replace ct := Lib.hid ct
      have cm5 := fun W (hz : Pz ws b cap g s4 W) => mark_any hz [93]
      have em5 : str [93] = (⟨#[93]⟩ : ByteArray) := rfl
      rw [em5] at cm5
      have cu5 := fun W (hz : Pz ws b cap g (nextM ws 4 [93] s4) W) => must_any hz (isM ws 4 [93] s4)
      have hd5 : needM ws 4 [93] s4 = mustM (isM ws 4 [93] s4) (nextM ws 4 [93] s4) := rfl
      obtain ⟨m5, hm5⟩ : ∃ r, r = isM ws 4 [93] s4 := ⟨_, rfl⟩
      obtain ⟨x5, hx5⟩ : ∃ r, r = nextM ws 4 [93] s4 := ⟨_, rfl⟩
      rw [← hm5, ← hx5] at cm5 cu5 hd5
      obtain ⟨y5, hy5⟩ : ∃ r, r = mustM m5 x5 := ⟨_, rfl⟩
      rw [← hy5] at cu5 hd5
      rw [hd5] at hR
      clear hm5 hx5 hy5 hd5 em5
      replace cm5 := Lib.hid cm5; replace cu5 := Lib.hid cu5
      simp only [if_true, Bool.false_eq_true, if_false] at hR
      have cm6 := fun W (hz : Pz ws b cap g y5 W) => mark_any hz [45]
      have em6 : str [45] = (⟨#[45]⟩ : ByteArray) := rfl
      rw [em6] at cm6
      have cu6 := fun W (hz : Pz ws b cap g (nextM ws 4 [45] y5) W) => must_any hz (isM ws 4 [45] y5)
      have hd6 : needM ws 4 [45] y5 = mustM (isM ws 4 [45] y5) (nextM ws 4 [45] y5) := rfl
      obtain ⟨m6, hm6⟩ : ∃ r, r = isM ws 4 [45] y5 := ⟨_, rfl⟩
      obtain ⟨x6, hx6⟩ : ∃ r, r = nextM ws 4 [45] y5 := ⟨_, rfl⟩
      rw [← hm6, ← hx6] at cm6 cu6 hd6
      obtain ⟨y6, hy6⟩ : ∃ r, r = mustM m6 x6 := ⟨_, rfl⟩
      rw [← hy6] at cu6 hd6
      rw [hd6] at hR
      clear hm6 hx6 hy6 hd6 em6
      replace cm6 := Lib.hid cm6; replace cu6 := Lib.hid cu6
      replace hR := Lib.hid hR
      go_upto_region 6 with (first
        | (go_at_call 59; (with_reducible refine (cm3.out _ (hzz.out _ _ st.adv 0 hp.out rfl l2.out)).mono ?_); rintro e wa3 ⟨rfl, ha3, ka3⟩; have la3 := Lib.hid ha3.lt; replace hp := Lib.hid (hp.out.call (i := 0) rfl (cs' := psC b cap ws.length x3) ha3.box ka3); clear ha3 ka3)
        | (go_at_call 54; (with_reducible refine (cu3.out _ (hzz.out _ _ x3 0 hp.out rfl la3.out)).mono ?_); rintro e wb3 ⟨rfl, hb3, kb3⟩; have lb3 := Lib.hid hb3.lt; replace hp := Lib.hid (hp.out.call (i := 0) rfl (cs' := psC b cap ws.length y3) hb3.box kb3); clear hb3 kb3)
        | (go_at_call 88; (with_reducible refine (ct.out _ (hzz.out _ _ y3 0 hp.out rfl lb3.out)).mono ?_); rintro e w4 ⟨rfl, h4, k4⟩; have l4 := Lib.hid h4.lt; replace hp := Lib.hid (hp.out.call (i := 0) rfl (cs' := psC b cap ws.length s4) h4.box k4); clear h4 k4; have y0 := hp.out.cell (i := 1) rfl 0; have y1 := hp.out.cell (i := 1) rfl 1; have y2 := hp.out.cell (i := 1) rfl 2; have f0 := hp.out.free (i := 1) rfl 0; have f1 := hp.out.free (i := 1) rfl 1; have f2 := hp.out.free (i := 1) rfl 2; simp at y0 y1 y2))
      replace hp := Lib.hid ((hp.out.put (i := 1) rfl 0 (.string (str tv))).put (i := 1) rfl 1 (.string (str tl)))
      clear y0 y2 f0 f1 f2
      generalize World.setCell (World.setCell _ _ _) _ _ = W3 at hp ⊢
      replace hp := Lib.hid (show Hp w [g] (.box g (psC b cap ws.length s4) 68 :: .box qn #[.string (str tv), .string (str tl), .bool false] 84 :: .box qr #[.string ⟨#[]⟩, .string ⟨#[]⟩, .bool false] 84 :: []) W3 from hp.out)
      go_upto_region 7 with (first
        | (go_at_call 59; (with_reducible refine (cm5.out _ (hzz.out _ _ s4 0 hp.out rfl l4.out)).mono ?_); rintro e wa5 ⟨rfl, ha5, ka5⟩; have la5 := Lib.hid ha5.lt; replace hp := Lib.hid (hp.out.call (i := 0) rfl (cs' := psC b cap ws.length x5) ha5.box ka5); clear ha5 ka5)
        | (go_at_call 54; (with_reducible refine (cu5.out _ (hzz.out _ _ x5 0 hp.out rfl la5.out)).mono ?_); rintro e wb5 ⟨rfl, hb5, kb5⟩; have lb5 := Lib.hid hb5.lt; replace hp := Lib.hid (hp.out.call (i := 0) rfl (cs' := psC b cap ws.length y5) hb5.box kb5); clear hb5 kb5; have y0 := hp.out.cell (i := 1) rfl 0; have y1 := hp.out.cell (i := 1) rfl 1; have y2 := hp.out.cell (i := 1) rfl 2; simp at y0 y1 y2))
      go_upto_region 10 with (first
        | (go_at_call 59; (with_reducible refine (cm6.out _ (hzz.out _ _ y5 0 hp.out rfl lb5.out)).mono ?_); rintro e wa6 ⟨rfl, ha6, ka6⟩; have la6 := Lib.hid ha6.lt; replace hp := Lib.hid (hp.out.call (i := 0) rfl (cs' := psC b cap ws.length x6) ha6.box ka6); clear ha6 ka6)
        | (go_at_call 54; (with_reducible refine (cu6.out _ (hzz.out _ _ x6 0 hp.out rfl la6.out)).mono ?_); rintro e wb6 ⟨rfl, hb6, kb6⟩; have lb6 := Lib.hid hb6.lt; replace hp := Lib.hid (hp.out.call (i := 0) rfl (cs' := psC b cap ws.length y6) hb6.box kb6); clear hb6 kb6))
      clear y0 y1 y2
      have y0 := hp.out.cell (i := 1) rfl 0; have y1 := hp.out.cell (i := 1) rfl 1; have y2 := hp.out.cell (i := 1) rfl 2; simp at y0 y1 y2
      have z0 := hp.out.cell (i := 2) rfl 0; have z1 := hp.out.cell (i := 2) rfl 1; have z2 := hp.out.cell (i := 2) rfl 2; have f0 := hp.out.free (i := 2) rfl 0; have f1 := hp.out.free (i := 2) rfl 1; have f2 := hp.out.free (i := 2) rfl 2; simp at z0 z1 z2
      go_wp2
      replace hp := Lib.hid (((hp.out.put (i := 2) rfl 0 (.string (str tv))).put (i := 2) rfl 1 (.string (str tl))).put (i := 2) rfl 2 (.bool false))
      have hpg := hp.out
      have hf := hR.out
      subst hf
      exact bodyPost_ret (v := .tuple #[.agg #[.string (str tv), .string (str tl), .bool false], .bool true]) (edge_results rfl _ _ qr #[.string (str tv), .string (str tl), .bool false] (.bool true) rfl rfl (hpg.box (i := 2) rfl) rfl) rfl ⟨rfl, Pz.of h.out hpg (i := 0) rfl lb6.out⟩
    | false =>
      rw [hm2] at cm2 hR
      simp only [Bool.false_eq_true, if_false] at cm2 hR
      replace cm2 := Lib.hid cm2
      clear hm2
      replace hR := Lib.hid hR
      go_upto_region 3 with (go_at_call 59; (with_reducible refine (cm2.out _ (hzz.out _ _ st 0 hp.out rfl l1.out)).mono ?_); rintro e w2 ⟨rfl, h2, k2⟩; have l2 := Lib.hid h2.lt; replace hp := Lib.hid (hp.out.call (i := 0) rfl (cs' := psC b cap ws.length st) h2.box k2); clear h2 k2)
      clear y0 y1 y2
      have y0 := hp.out.cell (i := 1) rfl 0; have y1 := hp.out.cell (i := 1) rfl 1; have y2 := hp.out.cell (i := 1) rfl 2; simp at y0 y1 y2
      have z0 := hp.out.cell (i := 2) rfl 0; have z1 := hp.out.cell (i := 2) rfl 1; have z2 := hp.out.cell (i := 2) rfl 2; have f0 := hp.out.free (i := 2) rfl 0; have f1 := hp.out.free (i := 2) rfl 1; have f2 := hp.out.free (i := 2) rfl 2; simp at z0 z1 z2
      go_wp2
      replace hp := Lib.hid (((hp.out.put (i := 2) rfl 0 (.string ⟨#[]⟩)).put (i := 2) rfl 1 (.string ⟨#[]⟩)).put (i := 2) rfl 2 (.bool false))
      have hpg := hp.out
      have hf := hR.out
      subst hf
      exact bodyPost_ret (v := .tuple #[.agg #[.string ⟨#[]⟩, .string ⟨#[]⟩, .bool false], .bool false]) (edge_results rfl _ _ qr #[.string ⟨#[]⟩, .string ⟨#[]⟩, .bool false] (.bool false) rfl rfl (hpg.box (i := 2) rfl) rfl) rfl ⟨rfl, Pz.of h.out hpg (i := 0) rfl l2.out⟩
end Go.Proofs.YtgbkpkioijbgoaaDoor.qry
