/- The question of a text, or where it is wrong (query.Parse). The tables of marks, of plain words and of what conditions are said with are premises. -/
import Derived.Test.YtgbkpkioijbgoaaDoorQry8
import Derived.Test.YtgbkpkioijbgoaaDoorQryW
import Derived.Test.YtgbkpkioijbgoaaDoorLex6
namespace Go.Proofs.YtgbkpkioijbgoaaDoor.qry
open Go.RowKit
open lex (W wv wordsL MarksAt WRow allcells)
open names (Nm mayN)
attribute [local go_sem ↓] Go.wp_at_zero Go.wp_at_succ
attribute [local go_sem] str_size str_bl
set_option linter.unusedVariables false
set_option linter.unusedSimpArgs false
set_option maxRecDepth 100000

theorem parse_results {fn : Func} (hfn : fn.results = #[.cell 2 27, .tmp 3, .tmp 4]) (tmps : Array Value) (W' : World) (g : Nat) (cs : Array Value) (v u : Value) (h2 : tmps.getD 2 undef = .pointer (some ⟨g, 0, none⟩)) (h3 : tmps.getD 3 undef = v) (h4 : tmps.getD 4 undef = u) (hg : W'.heap[g]? = some (.cells cs 27 (0, 0))) (hi : cs.size = 5) :
    (results fn tmps).run Tryd.prog W' = .ok (.tuple #[.agg cs, v, u]) W' := by
  have h2' : tmps[2]?.getD undef = .pointer (some ⟨g, 0, none⟩) := by simpa using h2
  have h3' : tmps[3]?.getD undef = v := by simpa using h3
  have h4' : tmps[4]?.getD undef = u := by simpa using h4
  have hs : (Tryd.prog.info? 27).map (·.size) = some cs.size := by rw [hi]; kernel_rfl
  simp [results, hfn, h2', h3', h4', asAddr, run_loadVar_row W' g 27 27 cs (0, 0) _ hg Tryd.underlying27 rfl hs]
theorem field_pos (W : World) (a : Int) (s : ByteArray) (c d : Int) : (Instr.field 71 (.agg #[.int .i64 a, .string s, .int .i64 c, .int .i64 d]) 3).run Tryd.prog W = .ok (.int .i64 d) W := by kernel_rfl
abbrev zeroQ : Value := .agg #[.slice none 0 0, .slice none 0 0, .slice none 0 0, .slice none 0 0, .int .i64 0]
/-- what the tables hold -/
structure Tabs (w : World) : Prop where
  marks : MarksAt w
  pl : TblAt 3 plainL w
  op : TblAt 2 opsL w
theorem Tabs.below {w w' : World} (h : Tabs w) (k : Below w.heap.size w w') : Tabs w' :=
  ⟨⟨fun i m hm => (k.cell h.marks.2).trans (h.marks.1 i m hm), Nat.lt_of_lt_of_le h.marks.2 k.size⟩, h.pl.below k, h.op.below k⟩
/-- the question of a text; where it is wrong, and the error -/
def parseL (l : List UInt8) : Qn ⊕ (Nat × Nat) := if 1000 < l.length then .inr (0, 4) else match wordsL l with
  | (some ws, _) => match parseM ws l.length with
    | .inl q => .inl q
    | .inr p => .inr (p, 330)
  | (none, p) => .inr (p, 320)
/-- a question that was made lies here -/
def QRet (w : World) (q : Qn) (v : Value) (w' : World) : Prop := ∃ (N : List NdV) (nad ead cad iad : Option Addr) (ncp ecp ccp icp : Nat) (nrs : List Rs), N.map NdV.nd = q.nodes ∧ (∀ y ∈ N, ndAt nrs y) ∧ v = .agg #[.slice nad N.length ncp, .slice ead q.edges.length ecp, .slice cad q.conds.length ccp, .slice iad q.items.length icp, .int .i64 (q.limit : Int)] ∧ Hp w [] (.row 79 3 (.slice nad N.length ncp) N.length (N.flatMap NdV.cells) :: .row 84 3 (.slice ead q.edges.length ecp) q.edges.length (q.edges.flatMap Ed.cells) :: .row 88 6 (.slice cad q.conds.length ccp) q.conds.length (q.conds.flatMap Cd.cells) :: .row 94 2 (.slice iad q.items.length icp) q.items.length (q.items.flatMap It.cells) :: nrs) w' ∧ N.length ≤ 1100 ∧ q.edges.length ≤ 1100 ∧ q.conds.length ≤ 1100 ∧ q.items.length ≤ 1100
def PRet (w : World) (r : Qn ⊕ (Nat × Nat)) (e : Ending) (w' : World) : Prop := match r with
  | .inl q => ∃ v, e = .returned (.tuple #[v, .int .i64 0, .int .i64 0]) ∧ QRet w q v w'
  | .inr (p, n) => e = .returned (.tuple #[zeroQ, .int .i64 (p : Int), .int .i64 (n : Int)]) ∧ Below w.heap.size w w'
theorem qr_first {w W : World} {X : List Nat} {z a b c d e f : Rs} {nrs : List Rs} (h : Hp w X (a :: b :: c :: d :: e :: f :: (nrs ++ [z])) W) : Hp w X (z :: a :: b :: c :: d :: e :: f :: nrs) W := by
  refine h.perm ?_
  have h1 : (a :: b :: c :: d :: e :: f :: (nrs ++ [z])) = (a :: b :: c :: d :: e :: f :: nrs) ++ [z] := rfl
  rw [h1]
  exact List.perm_append_comm
theorem allcells_at4 : ∀ (ws : List W) (i : Nat) (x : W), ws[i]? = some x → (allcells ws)[i * 4]? = some (.int .i64 (x.kind : Int)) ∧ (allcells ws)[i * 4 + 1]? = some (.string (str x.s)) ∧ (allcells ws)[i * 4 + 2]? = some (.int .i64 (x.n : Int)) ∧ (allcells ws)[i * 4 + 3]? = some (.int .i64 (x.pos : Int)) := by
  intro ws i x hx
  have h := flat_at lex.wcells 4 (fun _ => rfl) ws i x hx
  exact ⟨(h 0 (by decide)).trans rfl, (h 1 (by decide)).trans rfl, (h 2 (by decide)).trans rfl, (h 3 (by decide)).trans rfl⟩
/-- no more of anything than there are words -/
theorem condsF_len (ws : List W) : ∀ (f : Nat) (st : St) (acc : List Cd), (condsF ws f st acc).1.length ≤ acc.length + f
  | 0, st, acc => Nat.le_refl _
  | f + 1, st, acc => by
    rw [condsF]
    split
    · exact Nat.le_trans (condsF_len ws f _ (acc ++ [(condM ws st).1])) (by rw [List.length_append]; show acc.length + 1 + f ≤ _; omega)
    · rw [List.length_append]; show acc.length + 1 ≤ _; omega
theorem itemsF_len (ws : List W) : ∀ (f : Nat) (st : St) (acc : List It), (itemsF ws f st acc).1.length ≤ acc.length + f
  | 0, st, acc => Nat.le_refl _
  | f + 1, st, acc => by
    rw [itemsF]
    split
    · exact Nat.le_trans (itemsF_len ws f _ (acc ++ [(itemM ws st).1])) (by rw [List.length_append]; show acc.length + 1 + f ≤ _; omega)
    · rw [List.length_append]; show acc.length + 1 ≤ _; omega
theorem edgesF_len (ws : List W) : ∀ (f : Nat) (st : St) (ns : List Nd) (es : List Ed), (edgesF ws f st ns es).1.length ≤ ns.length + f ∧ (edgesF ws f st ns es).2.1.length ≤ es.length + f
  | 0, st, ns, es => ⟨Nat.le_refl _, Nat.le_refl _⟩
  | f + 1, st, ns, es => by
    rw [edgesF]
    split
    · have h := edgesF_len ws f (nodeM ws (edgeM ws st).2.2).2 (ns ++ [(nodeM ws (edgeM ws st).2.2).1]) (es ++ [(edgeM ws st).1])
      rw [List.length_append, List.length_append] at h
      exact ⟨Nat.le_trans h.1 (by show ns.length + 1 + f ≤ _; omega), Nat.le_trans h.2 (by show es.length + 1 + f ≤ _; omega)⟩
    · exact ⟨Nat.le_add_right _ _, Nat.le_add_right _ _⟩
theorem quest_len (ws : List W) (h : ws.length ≤ 1001) : (questM ws).1.nodes.length ≤ 1100 ∧ (questM ws).1.edges.length ≤ 1100 ∧ (questM ws).1.conds.length ≤ 1100 ∧ (questM ws).1.items.length ≤ 1100 := by
  have hi : ∀ t : St, (if t.bad then (([] : List It), t) else itemsF ws (ws.length + 1) t []).1.length ≤ 1100 := fun t => by
    split
    · exact Nat.zero_le 1100
    · exact Nat.le_trans (itemsF_len ws (ws.length + 1) _ _) (by show 0 + _ ≤ _; omega)
  unfold questM
  simp only
  refine ⟨?_, ?_, ?_, ?_⟩
  · exact Nat.le_trans (edgesF_len ws (ws.length + 1) _ _ _).1 (by show 1 + _ ≤ _; omega)
  · exact Nat.le_trans (edgesF_len ws (ws.length + 1) _ _ _).2 (by show 0 + _ ≤ _; omega)
  · split
    · exact Nat.le_trans (condsF_len ws (ws.length + 1) _ _) (by show 0 + _ ≤ _; omega)
    · exact Nat.zero_le 1100
  · exact hi _
set_option maxHeartbeats 8000000 in
theorem parse_any (l : List UInt8) (w : World) (hT : Tabs w) (hlz : l.length ≤ 140737488355328) : Calls Tryd.prog 6 #[.string (str l)] w (PRet w (parseL l)) := by
  obtain ⟨R, hR⟩ : ∃ R, R = parseL l := ⟨_, rfl⟩
  rw [← hR]
  have hp := (Hp.none_ w []).alloc #[.slice none 0 0, .slice none 0 0, .slice none 0 0, .slice none 0 0, .int .i64 0] 27
  replace hp := Lib.hid hp
  by_cases h1 : 1000 < l.length
  · have hf : R = .inr (0, 4) := by rw [hR]; unfold parseL; rw [if_pos h1]
    clear hR
    subst hf
    have kw := fun W => lex.words_long l h1 W
    replace kw := Lib.hid kw
    clear h1 hlz
    go_enter Tryd.func6, Tryd.ntmps6
    go_upto_region 1 with fail
    generalize w.alloc _ = W1 at hp ⊢
    generalize w.heap.size = qr at hp ⊢
    go_upto_region 2 with (go_at_call 21; (with_reducible refine (kw.out _).mono ?_); rintro e w1 ⟨rfl, b1⟩; replace hp := Lib.hid (hp.out.below b1); clear b1)
    have y0 := hp.out.cell (i := 0) rfl 0; have y1 := hp.out.cell (i := 0) rfl 1; have y2 := hp.out.cell (i := 0) rfl 2; have y3 := hp.out.cell (i := 0) rfl 3; have y4 := hp.out.cell (i := 0) rfl 4; have f0 := hp.out.free (i := 0) rfl 0; have f1 := hp.out.free (i := 0) rfl 1; have f2 := hp.out.free (i := 0) rfl 2; have f3 := hp.out.free (i := 0) rfl 3; have f4 := hp.out.free (i := 0) rfl 4
    simp at y0 y1 y2 y3 y4
    go_wp2
    have hpf := hp.out
    replace hpf := Lib.hid (((((hpf.put (i := 0) rfl 0 (.slice none 0 0)).put (i := 0) rfl 1 (.slice none 0 0)).put (i := 0) rfl 2 (.slice none 0 0)).put (i := 0) rfl 3 (.slice none 0 0)).put (i := 0) rfl 4 (.int .i64 0))
    have hpg := hpf.out
    exact bodyPost_ret (v := .tuple #[zeroQ, .int .i64 0, .int .i64 4]) (parse_results rfl _ _ qr #[.slice none 0 0, .slice none 0 0, .slice none 0 0, .slice none 0 0, .int .i64 0] (.int .i64 0) (.int .i64 4) rfl rfl rfl (hpg.box (i := 0) rfl) rfl) rfl ⟨rfl, hpg.bel⟩
  have hl : l.length ≤ 1000 := by omega
  have kw := fun W (hM : MarksAt W) => lex.words_any l hl W hM
  cases hw : wordsL l with
  | mk r p =>
  cases r with
  | none =>
    have hf : R = .inr (p, 320) := by rw [hR]; unfold parseL; rw [if_neg h1, hw]
    clear hR
    subst hf
    rw [hw] at kw
    unfold lex.WordsRet at kw
    simp only at kw
    replace kw := Lib.hid kw; replace hT := Lib.hid hT
    clear h1 hl hw hlz
    go_enter Tryd.func6, Tryd.ntmps6
    go_upto_region 1 with fail
    have hTb := Lib.hid (hT.out.below hp.out.bel)
    generalize w.alloc _ = W1 at hp hTb ⊢
    generalize w.heap.size = qr at hp ⊢
    go_upto_region 2 with (go_at_call 21; (with_reducible refine (kw.out _ hTb.out.marks).mono ?_); rintro e w1 ⟨b1, rfl⟩; replace hp := Lib.hid (hp.out.below b1); clear b1)
    have y0 := hp.out.cell (i := 0) rfl 0; have y1 := hp.out.cell (i := 0) rfl 1; have y2 := hp.out.cell (i := 0) rfl 2; have y3 := hp.out.cell (i := 0) rfl 3; have y4 := hp.out.cell (i := 0) rfl 4; have f0 := hp.out.free (i := 0) rfl 0; have f1 := hp.out.free (i := 0) rfl 1; have f2 := hp.out.free (i := 0) rfl 2; have f3 := hp.out.free (i := 0) rfl 3; have f4 := hp.out.free (i := 0) rfl 4
    simp at y0 y1 y2 y3 y4
    go_wp2
    have hpf := hp.out
    replace hpf := Lib.hid (((((hpf.put (i := 0) rfl 0 (.slice none 0 0)).put (i := 0) rfl 1 (.slice none 0 0)).put (i := 0) rfl 2 (.slice none 0 0)).put (i := 0) rfl 3 (.slice none 0 0)).put (i := 0) rfl 4 (.int .i64 0))
    have hpg := hpf.out
    exact bodyPost_ret (v := .tuple #[zeroQ, .int .i64 (p : Int), .int .i64 320]) (parse_results rfl _ _ qr #[.slice none 0 0, .slice none 0 0, .slice none 0 0, .slice none 0 0, .int .i64 0] (.int .i64 (p : Int)) (.int .i64 320) rfl rfl rfl (hpg.box (i := 0) rfl) rfl) rfl ⟨rfl, hpg.bel⟩
  | some ws =>
    have hR2 : R = (match parseM ws l.length with | .inl q => .inl q | .inr p => .inr (p, 330)) := by rw [hR]; unfold parseL; rw [if_neg h1, hw]
    unfold parseM at hR2
    rw [hw] at kw
    unfold lex.WordsRet at kw
    simp only at kw
    have hwf := fun hn => words_wf l ws p hl hw hn
    clear hR h1 hw
    obtain ⟨L, hL⟩ : ∃ L, L = l.length := ⟨_, rfl⟩
    rw [← hL] at hR2 hl
    have hsz : (str l).size = L := by rw [str_size, hL]
    clear hL hlz
    replace kw := Lib.hid kw; replace hT := Lib.hid hT; replace hwf := Lib.hid hwf; replace hR2 := Lib.hid hR2
    obtain ⟨S, hS⟩ : ∃ S, S = str l := ⟨_, rfl⟩
    rw [← hS] at kw hsz ⊢
    clear hS
    go_enter Tryd.func6, Tryd.ntmps6
    go_upto_region 1 with fail
    have hTb := Lib.hid (hT.out.below hp.out.bel)
    generalize w.alloc _ = W1 at hp hTb ⊢
    generalize w.heap.size = qr at hp ⊢
    go_upto_region 2 with (go_at_call 21; (with_reducible refine (kw.out _ hTb.out.marks).mono ?_); rintro e w1 ⟨b1, v, rfl, hrow, hn⟩; replace hp := Lib.hid (hp.out.below b1); replace hTb := Lib.hid (hTb.out.below b1); clear b1)
    obtain ⟨hwf2, hne, -⟩ := hwf.out hn
    obtain ⟨b, cap, rfl, _, hb, hcells⟩ := hrow.open hne
    have hws : WsAt ws b w1 := ⟨hb, fun i x hx => by
      have ha := allcells_at4 ws i x hx
      exact ⟨hcells _ _ ha.1, hcells _ _ ha.2.1, hcells _ _ ha.2.2.1, hcells _ _ ha.2.2.2⟩⟩
    have hlen0 : 0 < ws.length := by rcases ws with _ | ⟨x, t⟩; exact absurd rfl hne; simp
    clear hrow hcells hwf
    replace hws := Lib.hid hws; replace hwf2 := Lib.hid hwf2; replace hb := Lib.hid hb; replace hlen0 := Lib.hid hlen0
    go_upto_region 5 with fail
    have hpz : Pz ws b cap w1.heap.size ⟨0, false⟩ (w1.alloc (.cells #[.slice (some ⟨b, 0, none⟩) ws.length cap, .int .i64 0, .bool false] 68)) := by
      have hbl : Below w1.heap.size w1 (w1.alloc (.cells #[.slice (some ⟨b, 0, none⟩) ws.length cap, .int .i64 0, .bool false] 68)) := (Below.refl _ _).alloc (Nat.le_refl _) _
      refine ⟨hwf2.out, heap_alloc_new _ _, by have := hb.out; omega, ⟨Nat.lt_of_lt_of_le hws.out.1 hbl.size, fun i x hx => ?_⟩, hlen0.out, hTb.out.pl.below hbl, hTb.out.op.below hbl, by have := hTb.out.pl.1; omega, by have := hTb.out.op.1; omega⟩
      obtain ⟨x0, x1, x2, x3⟩ := hws.out.2 i x hx
      exact ⟨(hbl.cell hws.out.1).trans x0, (hbl.cell hws.out.1).trans x1, (hbl.cell hws.out.1).trans x2, (hbl.cell hws.out.1).trans x3⟩
    replace hp := Lib.hid (show Hp w [] (.box w1.heap.size (psC b cap ws.length ⟨0, false⟩) 68 :: .box qr #[.slice none 0 0, .slice none 0 0, .slice none 0 0, .slice none 0 0, .int .i64 0] 27 :: []) _ from hp.out.alloc #[.slice (some ⟨b, 0, none⟩) ws.length cap, .int .i64 0, .bool false] 68)
    clear hws hb hlen0 hTb hT kw
    generalize w1.alloc _ = W2 at hp hpz ⊢
    generalize w1.heap.size = g at hp hpz ⊢
    have hq := quest_len ws hwf2.out.len
    have kq := quest_any hpz
    obtain ⟨⟨Q, st⟩, hQ⟩ : ∃ r, r = questM ws := ⟨_, rfl⟩
    have hR3 := hR2.out
    rw [← hQ] at kq hR3 hq
    simp only at kq hR3 hq
    clear hR2 hQ
    have hzz : ∀ (W : World) (rs : List Rs), Hp W2 [g] rs W → rs[0]? = some (.box g (psC b cap ws.length st) 68) → st.at_ < ws.length → Pz ws b cap g st W := fun W rs hpW hi hl => (Pz.of hpz hpW hi hl).1
    replace kq := Lib.hid kq; replace hR3 := Lib.hid hR3; replace hq := Lib.hid hq; replace hzz := Lib.hid hzz; replace hpz := Lib.hid hpz
    obtain ⟨qn, qe, qc, qi, ql⟩ := Q
    simp only at kq hq
    go_upto_region 6 with (go_at_call 22; (with_reducible refine kq.out.mono ?_); rintro e w3 ⟨N, nad, ead, cad, iad, ncp, ecp, ccp, icp, nrs, hNx, hNn, rfl, h3, l3⟩; have hz3 := Lib.hid (hzz.out _ _ h3 rfl l3); replace hp := Lib.hid (hpServe hp.out h3); clear h3)
    skip
    replace hp := Lib.hid (show Hp w [] (.box w3.heap.size #[.slice nad N.length ncp, .slice ead qe.length ecp, .slice cad qc.length ccp, .slice iad qi.length icp, .int .i64 (ql : Int)] 27 :: .box g (psC b cap ws.length st) 68 :: .row 79 3 (.slice nad N.length ncp) N.length (N.flatMap NdV.cells) :: .row 84 3 (.slice ead qe.length ecp) qe.length (qe.flatMap Ed.cells) :: .row 88 6 (.slice cad qc.length ccp) qc.length (qc.flatMap Cd.cells) :: .row 94 2 (.slice iad qi.length icp) qi.length (qi.flatMap It.cells) :: (nrs ++ [.box qr #[.slice none 0 0, .slice none 0 0, .slice none 0 0, .slice none 0 0, .int .i64 0] 27])) _ from hp.out.alloc #[.slice nad N.length ncp, .slice ead qe.length ecp, .slice cad qc.length ccp, .slice iad qi.length icp, .int .i64 (ql : Int)] 27)
    have hbl3 := (Below.refl w3.heap.size w3).alloc (Nat.le_refl _) (.cells #[.slice nad N.length ncp, .slice ead qe.length ecp, .slice cad qc.length ccp, .slice iad qi.length icp, .int .i64 (ql : Int)] 27)
    replace hz3 := Lib.hid (hz3.out.below hbl3)
    clear hbl3
    generalize w3.alloc _ = W4 at hp hz3 ⊢
    generalize w3.heap.size = q9 at hp ⊢
    replace hp := Lib.hid (show Hp w [] (.box qr #[.slice none 0 0, .slice none 0 0, .slice none 0 0, .slice none 0 0, .int .i64 0] 27 :: .box q9 #[.slice nad N.length ncp, .slice ead qe.length ecp, .slice cad qc.length ccp, .slice iad qi.length icp, .int .i64 (ql : Int)] 27 :: .box g (psC b cap ws.length st) 68 :: .row 79 3 (.slice nad N.length ncp) N.length (N.flatMap NdV.cells) :: .row 84 3 (.slice ead qe.length ecp) qe.length (qe.flatMap Ed.cells) :: .row 88 6 (.slice cad qc.length ccp) qc.length (qc.flatMap Cd.cells) :: .row 94 2 (.slice iad qi.length icp) qi.length (qi.flatMap It.cells) :: nrs) W4 from qr_first hp.out)
    have c2 : W4.cell? ⟨g, 2, none⟩ = some (.bool st.bad) := (hp.out.cell (i := 2) rfl 2).trans rfl
    clear hzz hpz kq
    cases hbd : st.bad with
    | true =>
      rw [hbd] at c2
      have hR4 := hR3.out
      rw [if_pos hbd] at hR4
      simp only at hR4
      have cw := word_any hz3.out
      obtain ⟨x, hx⟩ : ∃ x, x = wd ws st.at_ := ⟨_, rfl⟩
      rw [← hx] at cw hR4
      obtain ⟨xk, xs, xn, xp⟩ := x
      simp only at cw hR4
      have hfl := fun W => field_pos W (xk : Int) (str xs) (xn : Int) (xp : Int)
      replace cw := Lib.hid cw
      clear hR3 hx hbd hz3
      subst hR4
      go_upto_region 7 with fail
      go_wp2_with (go_at_call 23; (with_reducible refine cw.out.mono ?_); rintro e w5 ⟨rfl, b5⟩; replace hp := Lib.hid (hp.out.below b5); clear b5; have y0 := hp.out.cell (i := 0) rfl 0; have y1 := hp.out.cell (i := 0) rfl 1; have y2 := hp.out.cell (i := 0) rfl 2; have y3 := hp.out.cell (i := 0) rfl 3; have y4 := hp.out.cell (i := 0) rfl 4; have f0 := hp.out.free (i := 0) rfl 0; have f1 := hp.out.free (i := 0) rfl 1; have f2 := hp.out.free (i := 0) rfl 2; have f3 := hp.out.free (i := 0) rfl 3; have f4 := hp.out.free (i := 0) rfl 4; simp at y0 y1 y2 y3 y4)
      have hpf := hp.out
      replace hpf := Lib.hid (((((hpf.put (i := 0) rfl 0 (.slice none 0 0)).put (i := 0) rfl 1 (.slice none 0 0)).put (i := 0) rfl 2 (.slice none 0 0)).put (i := 0) rfl 3 (.slice none 0 0)).put (i := 0) rfl 4 (.int .i64 0))
      have hpg := hpf.out
      exact bodyPost_ret (v := .tuple #[zeroQ, .int .i64 (xp : Int), .int .i64 330]) (parse_results rfl _ _ qr #[.slice none 0 0, .slice none 0 0, .slice none 0 0, .slice none 0 0, .int .i64 0] (.int .i64 (xp : Int)) (.int .i64 330) rfl rfl rfl (hpg.box (i := 0) rfl) rfl) rfl ⟨rfl, hpg.bel⟩
    | false =>
      rw [hbd] at c2
      have hR4 := hR3.out
      rw [if_neg (by rw [hbd]; decide)] at hR4
      clear hR3 hbd hz3
      have hNl : N.length ≤ 1100 := by have := hq.out.1; rw [← hNx, List.length_map] at this; exact this
      obtain ⟨qv, hqv⟩ : ∃ q : Qv, q = ⟨N, qe, qc, qi, (ql : Int), nad, ncp, ead, ecp, cad, ccp, iad, icp⟩ := ⟨_, rfl⟩
      have hme := mayV_eq qv ql (by rw [hqv])
      have hok : qv.ok W4 := by rw [hqv]; exact ⟨hp.out.sl (i := 3) rfl (Nat.le_trans hNl (by decide)), hp.out.sl (i := 4) rfl (Nat.le_trans hq.out.2.1 (by decide)), hp.out.sl (i := 5) rfl (Nat.le_trans hq.out.2.2.1 (by decide)), hp.out.sl (i := 6) rfl (Nat.le_trans hq.out.2.2.2 (by decide)), hNl, hq.out.2.1, hq.out.2.2.1, hq.out.2.2.2⟩
      have km := may_any qv W4 hok
      have hqa : qv.a = .agg #[.slice nad N.length ncp, .slice ead qe.length ecp, .slice cad qc.length ccp, .slice iad qi.length icp, .int .i64 (ql : Int)] := by rw [hqv]; rfl
      rw [hqa, hme, hqv] at km
      simp only at km
      rw [hNx] at km
      clear hme hok hqa hqv
      obtain ⟨mq, hmq⟩ : ∃ r, r = mayQ ⟨qn, qe, qc, qi, ql⟩ := ⟨_, rfl⟩
      rw [← hmq] at km hR4
      clear hmq
      replace km := Lib.hid km
      have x0 := hp.out.cell (i := 1) rfl 0; have x1 := hp.out.cell (i := 1) rfl 1; have x2 := hp.out.cell (i := 1) rfl 2; have x3 := hp.out.cell (i := 1) rfl 3; have x4 := hp.out.cell (i := 1) rfl 4; simp at x0 x1 x2 x3 x4
      replace hNl := Lib.hid hNl; replace hNx := Lib.hid hNx; replace hNn := Lib.hid hNn
      cases mq with
      | false =>
        have hf : R = .inr (L, 330) := hR4
        clear hR4
        subst hf
        go_wp2_with (go_at_call 10; (with_reducible refine km.out.mono ?_); rintro e w6 ⟨rfl, b6⟩; replace hp := Lib.hid (hp.out.below b6); clear b6; have y0 := hp.out.cell (i := 0) rfl 0; have y1 := hp.out.cell (i := 0) rfl 1; have y2 := hp.out.cell (i := 0) rfl 2; have y3 := hp.out.cell (i := 0) rfl 3; have y4 := hp.out.cell (i := 0) rfl 4; have f0 := hp.out.free (i := 0) rfl 0; have f1 := hp.out.free (i := 0) rfl 1; have f2 := hp.out.free (i := 0) rfl 2; have f3 := hp.out.free (i := 0) rfl 3; have f4 := hp.out.free (i := 0) rfl 4; simp at y0 y1 y2 y3 y4)
        have hpf := hp.out
        replace hpf := Lib.hid (((((hpf.put (i := 0) rfl 0 (.slice none 0 0)).put (i := 0) rfl 1 (.slice none 0 0)).put (i := 0) rfl 2 (.slice none 0 0)).put (i := 0) rfl 3 (.slice none 0 0)).put (i := 0) rfl 4 (.int .i64 0))
        have hpg := hpf.out
        exact bodyPost_ret (v := .tuple #[zeroQ, .int .i64 (L : Int), .int .i64 330]) (parse_results rfl _ _ qr #[.slice none 0 0, .slice none 0 0, .slice none 0 0, .slice none 0 0, .int .i64 0] (.int .i64 (L : Int)) (.int .i64 330) rfl rfl rfl (hpg.box (i := 0) rfl) rfl) rfl ⟨rfl, hpg.bel⟩
      | true =>
        have hf : R = .inl ⟨qn, qe, qc, qi, ql⟩ := hR4
        clear hR4
        subst hf
        go_wp2_with (go_at_call 10; (with_reducible refine km.out.mono ?_); rintro e w6 ⟨rfl, b6⟩; replace hp := Lib.hid (hp.out.below b6); clear b6; clear x0 x1 x2 x3 x4; have y0 := hp.out.cell (i := 0) rfl 0; have y1 := hp.out.cell (i := 0) rfl 1; have y2 := hp.out.cell (i := 0) rfl 2; have y3 := hp.out.cell (i := 0) rfl 3; have y4 := hp.out.cell (i := 0) rfl 4; have f0 := hp.out.free (i := 0) rfl 0; have f1 := hp.out.free (i := 0) rfl 1; have f2 := hp.out.free (i := 0) rfl 2; have f3 := hp.out.free (i := 0) rfl 3; have f4 := hp.out.free (i := 0) rfl 4; simp at y0 y1 y2 y3 y4; have x0 := hp.out.cell (i := 1) rfl 0; have x1 := hp.out.cell (i := 1) rfl 1; have x2 := hp.out.cell (i := 1) rfl 2; have x3 := hp.out.cell (i := 1) rfl 3; have x4 := hp.out.cell (i := 1) rfl 4; simp at x0 x1 x2 x3 x4)
        have hpf := hp.out
        replace hpf := Lib.hid (((((hpf.put (i := 0) rfl 0 (.slice nad N.length ncp)).put (i := 0) rfl 1 (.slice ead qe.length ecp)).put (i := 0) rfl 2 (.slice cad qc.length ccp)).put (i := 0) rfl 3 (.slice iad qi.length icp)).put (i := 0) rfl 4 (.int .i64 (ql : Int)))
        have hpg := hpf.out
        refine bodyPost_ret (v := .tuple #[.agg #[.slice nad N.length ncp, .slice ead qe.length ecp, .slice cad qc.length ccp, .slice iad qi.length icp, .int .i64 (ql : Int)], .int .i64 0, .int .i64 0]) (parse_results rfl _ _ qr #[.slice nad N.length ncp, .slice ead qe.length ecp, .slice cad qc.length ccp, .slice iad qi.length icp, .int .i64 (ql : Int)] (.int .i64 0) (.int .i64 0) rfl rfl rfl (hpg.box (i := 0) rfl) rfl) rfl ⟨_, rfl, N, nad, ead, cad, iad, ncp, ecp, ccp, icp, nrs, hNx.out, hNn.out, rfl, ?_, hNl.out, hq.out.2.1, hq.out.2.2.1, hq.out.2.2.2⟩
        exact ((hpg.drop 0).drop 0).drop 0
end Go.Proofs.YtgbkpkioijbgoaaDoor.qry
