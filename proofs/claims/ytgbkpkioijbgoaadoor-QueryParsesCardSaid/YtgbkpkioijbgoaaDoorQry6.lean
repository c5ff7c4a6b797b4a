/- A question's parser (package query): a question, to its end. No condition but where the words and the tables lie. -/
import Derived.Test.YtgbkpkioijbgoaaDoorQry5
import Derived.Test.YtgbkpkioijbgoaaDoorAppS
import Derived.Deep.CutBlock
namespace Go.Proofs.YtgbkpkioijbgoaaDoor.qry
open Go.RowKit
open lex (W wv)
open names (Nm mayN)
attribute [local go_sem ↓] Go.wp_at_zero Go.wp_at_succ
attribute [local go_sem] str_size str_bl
set_option linter.unusedVariables false
set_option linter.unusedSimpArgs false
set_option maxRecDepth 100000

theorem quest5 : (Tryd.prog.info? 27).map (·.size) = some 5 := by kernel_rfl
theorem nodeInfo : (Tryd.prog.info? 79).map (fun i => (i.zero, i.size, i.bytes)) = some (some (.agg #[.string ⟨#[]⟩, .string ⟨#[]⟩, .slice none 0 0]), 3, 56) := by kernel_rfl
theorem edgeInfo : (Tryd.prog.info? 84).map (fun i => (i.zero, i.size, i.bytes)) = some (some (.agg #[.string ⟨#[]⟩, .string ⟨#[]⟩, .bool false]), 3, 40) := by kernel_rfl
theorem condInfo : (Tryd.prog.info? 88).map (fun i => (i.zero, i.size, i.bytes)) = some (some (.agg #[.string ⟨#[]⟩, .string ⟨#[]⟩, .int .i64 0, .int .i64 0, .int .i64 0, .string ⟨#[]⟩]), 6, 72) := by kernel_rfl
theorem itemInfo : (Tryd.prog.info? 94).map (fun i => (i.zero, i.size, i.bytes)) = some (some (.agg #[.string ⟨#[]⟩, .string ⟨#[]⟩]), 2, 32) := by kernel_rfl
/-- a node, and where its properties lie -/
structure NdV where
  nd : Nd
  ad : Option Addr
  cp : Nat
def NdV.cells (y : NdV) : List Value := [.string (str y.nd.var), .string (str y.nd.label), .slice y.ad y.nd.props.length y.cp]
def ndAt (nrs : List Rs) (y : NdV) : Prop := Rs.row 98 4 (.slice y.ad y.nd.props.length y.cp) y.nd.props.length (y.nd.props.flatMap Pp.cells) ∈ nrs
theorem ndAt.mono {nrs nrs' : List Rs} {y : NdV} (h : ndAt nrs y) (hs : ∀ r ∈ nrs, r ∈ nrs') : ndAt nrs' y := hs _ h
def Ed.cells (x : Ed) : List Value := [.string (str x.var), .string (str x.typ), .bool x.out]
def Cd.cells (x : Cd) : List Value := [.string (str x.var), .string (str x.key), .int .i64 (x.op : Int), .int .i64 (x.val.k : Int), .int .i64 x.val.n, .string (str x.val.s)]
def It.cells (x : It) : List Value := [.string (str x.var), .string (str x.key)]
theorem le_op (ws : List W) (st : St) : st.at_ ≤ (opM ws st).2.at_ := by
  have h : ∀ (l : List Nm) (k : Nat), st.at_ ≤ (opF ws st l k).2.at_ := by
    intro l
    induction l with
    | nil => intro k; exact le_must false st
    | cons s l ih =>
      intro k
      unfold opF
      split
      · exact le_adv st
      · exact ih _
  exact h opsL 0
theorem le_typed (ws : List W) (st : St) : st.at_ ≤ (typedM ws st).2.2.at_ := by
  unfold typedM
  simp only
  split
  · exact Nat.le_trans (Nat.le_trans (le_may ws st) (le_adv _)) (le_name ws _)
  · exact le_may ws st
theorem le_propsF (ws : List W) : ∀ (f : Nat) (st : St) (acc : List Pp), st.at_ ≤ (propsF ws f st acc).2.at_
  | 0, st, acc => Nat.le_refl _
  | f + 1, st, acc => by
    rw [propsF]
    split
    · exact Nat.le_trans (Nat.le_trans (le_prop ws st) (le_adv _)) (le_propsF ws f _ _)
    · exact le_prop ws st
theorem le_props (ws : List W) (st : St) : st.at_ ≤ (propsM ws st).2.at_ := by
  unfold propsM
  simp only
  split
  · exact le_need ws 4 [125] st
  · exact Nat.le_trans (le_propsF ws _ st []) (le_need ws 4 [125] _)
theorem le_node (ws : List W) (st : St) : st.at_ ≤ (nodeM ws st).2.at_ := by
  unfold nodeM
  simp only
  have h1 := le_need ws 4 [40] st
  have h2 := le_typed ws (needM ws 4 [40] st)
  split
  · exact Nat.le_trans (Nat.le_trans (Nat.le_trans (Nat.le_trans h1 h2) (le_adv _)) (le_props ws _)) (le_need ws 4 [41] _)
  · exact Nat.le_trans (Nat.le_trans h1 h2) (le_need ws 4 [41] _)
theorem le_edgeR (ws : List W) (o : Bool) (st : St) : st.at_ ≤ (edgeR ws o st).2.at_ := by
  rw [edgeR_def]
  exact Nat.le_trans (Nat.le_trans (Nat.le_trans (le_need ws 4 [91] st) (le_typed ws _)) (le_need ws 4 [93] _)) (le_need ws 4 _ _)
theorem lt_edge (ws : List W) (st : St) (h : (edgeM ws st).2.1 = true) : st.at_ + 1 ≤ (edgeM ws st).2.2.at_ := by
  rw [edge_def] at h ⊢
  split
  · exact le_edgeR ws true st.adv
  · rename_i h1
    rw [if_neg h1] at h
    split
    · exact le_edgeR ws false st.adv
    · rename_i h2
      rw [if_neg h2] at h; cases h
theorem le_cond (ws : List W) (st : St) : st.at_ ≤ (condM ws st).2.at_ := Nat.le_trans (Nat.le_trans (Nat.le_trans (Nat.le_trans (le_name ws st) (le_need ws 4 [46] _)) (le_name ws _)) (le_op ws _)) (le_val ws _)
theorem le_item (ws : List W) (st : St) : st.at_ ≤ (itemM ws st).2.at_ := by
  unfold itemM
  simp only
  split
  · exact Nat.le_trans (Nat.le_trans (le_name ws st) (le_adv _)) (le_name ws _)
  · exact le_name ws st
theorem turn8 {w W : World} {X : List Nat} {g p a b c d e f : Rs} {nrs : List Rs} (h : Hp w X (g :: p :: a :: b :: c :: d :: e :: f :: nrs) W) : Hp w X (g :: a :: b :: c :: d :: e :: f :: p :: nrs) W :=
  have h1 : Hp w X (f :: g :: p :: a :: b :: c :: d :: e :: nrs) W := hpFirst h 7 rfl
  have h2 : Hp w X (e :: f :: g :: p :: a :: b :: c :: d :: nrs) W := hpFirst h1 7 rfl
  have h3 : Hp w X (d :: e :: f :: g :: p :: a :: b :: c :: nrs) W := hpFirst h2 7 rfl
  have h4 : Hp w X (c :: d :: e :: f :: g :: p :: a :: b :: nrs) W := hpFirst h3 7 rfl
  have h5 : Hp w X (b :: c :: d :: e :: f :: g :: p :: a :: nrs) W := hpFirst h4 7 rfl
  have h6 : Hp w X (a :: b :: c :: d :: e :: f :: g :: p :: nrs) W := hpFirst h5 7 rfl
  hpFirst h6 6 rfl
theorem hpTurn1 {w W : World} {X : List Nat} {g a b c d e f p : Rs} {nrs : List Rs} (h : Hp w X (p :: g :: a :: b :: c :: d :: e :: f :: nrs) W) : Hp w X (g :: a :: b :: c :: d :: e :: f :: p :: nrs) W :=
  have h1 : Hp w X (f :: p :: g :: a :: b :: c :: d :: e :: nrs) W := hpFirst h 7 rfl
  have h2 : Hp w X (e :: f :: p :: g :: a :: b :: c :: d :: nrs) W := hpFirst h1 7 rfl
  have h3 : Hp w X (d :: e :: f :: p :: g :: a :: b :: c :: nrs) W := hpFirst h2 7 rfl
  have h4 : Hp w X (c :: d :: e :: f :: p :: g :: a :: b :: nrs) W := hpFirst h3 7 rfl
  have h5 : Hp w X (b :: c :: d :: e :: f :: p :: g :: a :: nrs) W := hpFirst h4 7 rfl
  have h6 : Hp w X (a :: b :: c :: d :: e :: f :: p :: g :: nrs) W := hpFirst h5 7 rfl
  hpFirst h6 7 rfl
theorem field_kind (W : World) (a : Int) (s : ByteArray) (c d : Int) : (Instr.field 71 (.agg #[.int .i64 a, .string s, .int .i64 c, .int .i64 d]) 0).run Tryd.prog W = .ok (.int .i64 a) W := by kernel_rfl
theorem box_sl2 {w W : World} {X : List Nat} {rs : List Rs} {i p : Nat} {cs : Array Value} {t : TypeId} (h : Hp w X rs W) (hi : rs[i]? = some (.box p cs t)) : Sl W (.slice (some ⟨p, 0, none⟩) 1 1) 1 cs.toList :=
  ⟨_, _, rfl, by omega, Or.inr ⟨p, 0, rfl, h.lt hi, fun j v hj => by
    rw [Nat.zero_add]
    exact (h.cell hi j).trans (by simpa using hj)⟩⟩
set_option maxHeartbeats 16000000 in
theorem quest_any {ws : List W} {b cap g : Nat} {w : World} (h : Pz ws b cap g ⟨0, false⟩ w) :
    Calls Tryd.prog 22 #[pv g] w fun e w' => ∃ (N : List NdV) (nad ead cad iad : Option Addr) (ncp ecp ccp icp : Nat) (nrs : List Rs), N.map NdV.nd = (questM ws).1.nodes ∧ (∀ y ∈ N, ndAt nrs y) ∧ e = .returned (.agg #[.slice nad N.length ncp, .slice ead (questM ws).1.edges.length ecp, .slice cad (questM ws).1.conds.length ccp, .slice iad (questM ws).1.items.length icp, .int .i64 ((questM ws).1.limit : Int)]) ∧ Hp w [g] (.box g (psC b cap ws.length (questM ws).2) 68 :: .row 79 3 (.slice nad N.length ncp) N.length (N.flatMap NdV.cells) :: .row 84 3 (.slice ead (questM ws).1.edges.length ecp) (questM ws).1.edges.length ((questM ws).1.edges.flatMap Ed.cells) :: .row 88 6 (.slice cad (questM ws).1.conds.length ccp) (questM ws).1.conds.length ((questM ws).1.conds.flatMap Cd.cells) :: .row 94 2 (.slice iad (questM ws).1.items.length icp) (questM ws).1.items.length ((questM ws).1.items.flatMap It.cells) :: nrs) w' ∧ (questM ws).2.at_ < ws.length := by
  have hz0 := h
  have hwl := h.wf.len
  have hp := (((((Hp.lend h.box).rowNil 94 2).rowNil 88 6).rowNil 84 3).rowNil 79 3)
  have hzz : ∀ (W : World) (rs : List Rs) (st' : St) (i : Nat), Hp w [g] rs W → rs[i]? = some (.box g (psC b cap ws.length st') 68) → st'.at_ < ws.length → Pz ws b cap g st' W := fun W rs st' i hpW hi hl => (Pz.of hz0 hpW hi hl).1
  have l0 := h.lt
  clear hz0
  obtain ⟨R, hR⟩ : ∃ R, R = questM ws := ⟨_, rfl⟩
  rw [← hR]
  obtain ⟨st0, hst0⟩ : ∃ s : St, s = ⟨0, false⟩ := ⟨_, rfl⟩
  have hR2 : R = (let n0 := nodeM ws (needM ws 1 [102, 105, 110, 100] st0); let es := edgesF ws (ws.length + 1) n0.2 [n0.1] []; let cs := if isM ws 1 [119, 104, 101, 114, 101] es.2.2 then condsF ws (ws.length + 1) es.2.2.adv [] else ([], es.2.2); let t := needM ws 1 [116, 101, 108, 108] cs.2; let is := if t.bad then ([], t) else itemsF ws (ws.length + 1) t []; let lm := if isM ws 1 [108, 105, 109, 105, 116] is.2 then numM ws 256 is.2.adv else (256, is.2); (⟨es.1, es.2.1, cs.1, is.1, lm.1⟩, mustM (decide ((wd ws lm.2.at_).kind = 0)) lm.2)) := by rw [hR, hst0]; rfl
  simp only at hR2
  rw [← hst0] at hp h l0
  clear hR hst0
  have cm0 := fun W (hz : Pz ws b cap g st0 W) => key_any hz [102, 105, 110, 100]
  have em0 : str [102, 105, 110, 100] = (⟨#[102, 105, 110, 100]⟩ : ByteArray) := rfl
  rw [em0] at cm0
  have cu0 := fun W (hz : Pz ws b cap g (nextM ws 1 [102, 105, 110, 100] st0) W) => must_any hz (isM ws 1 [102, 105, 110, 100] st0)
  have hd0 : needM ws 1 [102, 105, 110, 100] st0 = mustM (isM ws 1 [102, 105, 110, 100] st0) (nextM ws 1 [102, 105, 110, 100] st0) := rfl
  obtain ⟨m0, hm0⟩ : ∃ r, r = isM ws 1 [102, 105, 110, 100] st0 := ⟨_, rfl⟩
  obtain ⟨x0, hx0⟩ : ∃ r, r = nextM ws 1 [102, 105, 110, 100] st0 := ⟨_, rfl⟩
  rw [← hm0, ← hx0] at cm0 cu0 hd0
  obtain ⟨y0, hy0⟩ : ∃ r, r = mustM m0 x0 := ⟨_, rfl⟩
  rw [← hy0] at cu0 hd0
  rw [hd0] at hR2
  clear hm0 hx0 hy0 hd0 em0
  replace cm0 := Lib.hid cm0; replace cu0 := Lib.hid cu0
  have cd0 := fun W (hz : Pz ws b cap g y0 W) => node_any hz
  have hle0 := le_node ws y0
  obtain ⟨⟨nd0, s0⟩, hn0⟩ : ∃ r, r = nodeM ws y0 := ⟨_, rfl⟩
  rw [← hn0] at cd0 hR2 hle0
  simp only at cd0 hR2 hle0
  clear hn0
  replace cd0 := Lib.hid cd0
  replace hp := Lib.hid (hpFirst ((hp.alloc #[.slice none 0 0, .slice none 0 0, .slice none 0 0, .slice none 0 0, .int .i64 0] 27).alloc #[.slice none 0 0, .slice none 0 0, .slice none 0 0, .slice none 0 0, .int .i64 256] 27) 6 rfl)
  have hsz : ∀ (u : World) o, (u.alloc o).heap.size = u.heap.size + 1 := fun u o => by simp
  rw [hsz] at hp
  clear hsz
  replace hp := Lib.hid (show Hp w [g] (.box g (psC b cap ws.length st0) 68 :: .box (w.heap.size + 1) #[.slice none 0 0, .slice none 0 0, .slice none 0 0, .slice none 0 0, .int .i64 256] 27 :: .box w.heap.size #[.slice none 0 0, .slice none 0 0, .slice none 0 0, .slice none 0 0, .int .i64 0] 27 :: .row 79 3 (.slice none 0 0) 0 ([]) :: .row 84 3 (.slice none 0 0) 0 ([]) :: .row 88 6 (.slice none 0 0) 0 ([]) :: .row 94 2 (.slice none 0 0) 0 ([]) :: []) _ from hp.out)
  skip
  replace hzz := Lib.hid hzz; replace l0 := Lib.hid l0; replace hR2 := Lib.hid hR2; replace hwl := Lib.hid hwl; replace h := Lib.hid h
  go_enter Tryd.func22, Tryd.ntmps22
  go_upto_region 2 with fail
  generalize (w.alloc _).alloc _ = W1 at hp ⊢
  generalize hq1 : w.heap.size + 1 = qq at hp ⊢
  generalize w.heap.size = qr at hp ⊢
  clear hq1
  replace hp := Lib.hid (show Hp w [g] (.box g (psC b cap ws.length st0) 68 :: .row 79 3 (.slice none 0 0) 0 ([]) :: .row 84 3 (.slice none 0 0) 0 ([]) :: .row 88 6 (.slice none 0 0) 0 ([]) :: .row 94 2 (.slice none 0 0) 0 ([]) :: .box qq #[.slice none 0 0, .slice none 0 0, .slice none 0 0, .slice none 0 0, .int .i64 256] 27 :: .box qr #[.slice none 0 0, .slice none 0 0, .slice none 0 0, .slice none 0 0, .int .i64 0] 27 :: []) W1 from hpFirst (hpFirst (hpFirst (hpFirst (hpFirst hp.out 6 rfl) 6 rfl) 6 rfl) 6 rfl) 4 rfl)
  go_upto_region 3 with (first
    | (go_at_call 55; (with_reducible refine (cm0.out _ (hzz.out _ _ st0 0 hp.out rfl l0.out)).mono ?_); rintro e wa0 ⟨rfl, ha0, ka0⟩; have la0 := Lib.hid ha0.lt; replace hp := Lib.hid (hp.out.call (i := 0) rfl (cs' := psC b cap ws.length x0) ha0.box ka0); clear ha0 ka0)
    | (go_at_call 54; (with_reducible refine (cu0.out _ (hzz.out _ _ x0 0 hp.out rfl la0.out)).mono ?_); rintro e wb0 ⟨rfl, hb0, kb0⟩; have lb0 := Lib.hid hb0.lt; replace hp := Lib.hid (hp.out.call (i := 0) rfl (cs' := psC b cap ws.length y0) hb0.box kb0); clear hb0 kb0))
  have hon := Lib.hid (show ∀ (nd : Nd) (ad : Option Addr) (cp : Nat), ∀ u ∈ (#[.string (str nd.var), .string (str nd.label), .slice ad nd.props.length cp] : Array Value).toList, u.oneCell' = true from fun nd ad cp u hu => by simp at hu; rcases hu with rfl | rfl | rfl <;> rfl)
  go_cut [] from 13 to 19 (fun wx => ∃ (nad : Option Addr) (ncp : Nat) (ad : Option Addr) (cp : Nat), s0.at_ < ws.length ∧ Hp w [g] (.box g (psC b cap ws.length s0) 68 :: .row 79 3 (.slice ad 1 cp) 1 ([.string (str nd0.var), .string (str nd0.label), .slice nad nd0.props.length ncp]) :: .row 84 3 (.slice none 0 0) 0 ([]) :: .row 88 6 (.slice none 0 0) 0 ([]) :: .row 94 2 (.slice none 0 0) 0 ([]) :: .box qq #[.slice ad 1 cp, .slice none 0 0, .slice none 0 0, .slice none 0 0, .int .i64 256] 27 :: .box qr #[.slice none 0 0, .slice none 0 0, .slice none 0 0, .slice none 0 0, .int .i64 0] 27 :: .row 98 4 (.slice nad nd0.props.length ncp) nd0.props.length (nd0.props.flatMap Pp.cells) :: []) wx)
  case first =>
    have hl9 := Lib.hid (show 0 + 1 ≤ 100000000 by decide)
    have m2 := hp.out.cell (i := 5) rfl 0
    simp at m2
    replace hp := Lib.hid hp.out.drew
    refine wp_region_noPanic ?_; refine wp_region_held_drew (S := (fun _ => True)) (by kernel_rfl) ?_ (fun hHeld => ?_); (focus ((try dsimp only); (first | done | trivial); done))
    (refine take_t (i := 0) (d := 13) (oi := _) (v := ?_) rfl rfl (by kernel_rfl) (by kernel_rfl) (by kernel_rfl) (by rfl) ?_ (by assumption) ?_; rotate_left; (focus (intro w0 hSw; (try dsimp only at hSw); go_simp; (try with_reducible rfl); done)); try simp only [Act.put, List.setIfInBounds_toArray, List.set_cons_zero, List.set_cons_succ]); (refine take_t (i := 2) (d := 15) (oi := _) (v := ?_) rfl rfl (by kernel_rfl) (by kernel_rfl) (by kernel_rfl) (by rfl) ?_ (by assumption) ?_; rotate_left; (focus (intro w0 hSw; (try dsimp only at hSw); go_simp; (try with_reducible rfl); done)); try simp only [Act.put, List.setIfInBounds_toArray, List.set_cons_zero, List.set_cons_succ])
    refine wpAnyH_ready (rs := [1, 3]) (by kernel_rfl) (by simp) ?_; refine AllReadyH.cons (o := _) rfl (fun K' hK => ?_) (AllReadyH.cons (o := _) rfl (fun K' hK => ?_) AllReadyH.nil)
    · go_simp; (skip); (try dsimp only); refine hK.out _ _ ?_ (fun hHeld2 => ?_); (focus ((try dsimp only); (first | done | trivial); done)); clear hK K'; clear hHeld; have hHeld := hHeld2; clear hHeld2; try simp only [Act.put, List.setIfInBounds_toArray, List.set_cons_zero, List.set_cons_succ]
      (refine wpAnyH_ready (rs := [3]) (by kernel_rfl) (by simp) ?_; refine AllReadyH.cons (o := _) rfl (fun K' hK => ?_) AllReadyH.nil; go_simp; (go_at_call 56; (with_reducible refine (cd0.out _ (hzz.out _ _ y0 0 hp.out rfl lb0.out)).mono ?_); rintro e w5 ⟨nad, ncp, rfl, h5, l5⟩; replace l5 := Lib.hid l5; replace hp := Lib.hid (show Hp w [g] (.box g (psC b cap ws.length s0) 68 :: .row 98 4 (.slice nad nd0.props.length ncp) nd0.props.length (nd0.props.flatMap Pp.cells) :: _) w5 from hpServe hp.out h5); clear h5; have m2 := hp.out.cell (i := 6) rfl 0; simp at m2); (try dsimp only); refine hK.out _ _ ?_ (fun hHeld2 => ?_); (focus ((try dsimp only); (first | done | trivial); done)); clear hK K'; clear hHeld; have hHeld := hHeld2; clear hHeld2; try simp only [Act.put, List.setIfInBounds_toArray, List.set_cons_zero, List.set_cons_succ]); (refine wpAnyH_ready (rs := [4]) (by kernel_rfl) (by simp) ?_; refine AllReadyH.cons (o := _) rfl (fun K' hK => ?_) AllReadyH.nil; go_simp; (replace hp := Lib.hid (hp.out.alloc #[.string (str nd0.var), .string (str nd0.label), .slice nad nd0.props.length ncp] 79); have m2 := hp.out.cell (i := 7) rfl 0; simp at m2); (try dsimp only); refine hK.out _ _ ?_ (fun hHeld2 => ?_); (focus ((try dsimp only); (first | done | trivial); done)); clear hK K'; clear hHeld; have hHeld := hHeld2; clear hHeld2; try simp only [Act.put, List.setIfInBounds_toArray, List.set_cons_zero, List.set_cons_succ]); (refine wpAnyH_ready (rs := [5]) (by kernel_rfl) (by simp) ?_; refine AllReadyH.cons (o := _) rfl (fun K' hK => ?_) AllReadyH.nil; (refine step_append_sl_hpk rfl _ _ rfl Tryd.underlying22 nodeInfo rfl (by decide) (by decide) hp.out 3 rfl rfl rfl (box_sl2 hp.out (i := 0) rfl) rfl (hon.out _ _ _) hl9.out rfl rfl ?_; intro v6 w6 h6 hv6; obtain ⟨ad6, cp6, rfl⟩ := hv6; replace hp := Lib.hid h6; clear h6; have m6 := hp.out.cell (i := 7) rfl 0; have f6 := hp.out.free (i := 7) rfl 0; simp at m6); (try dsimp only); refine hK.out _ _ ?_ (fun hHeld2 => ?_); (focus ((try dsimp only); (first | done | trivial); done)); clear hK K'; clear hHeld; have hHeld := hHeld2; clear hHeld2; try simp only [Act.put, List.setIfInBounds_toArray, List.set_cons_zero, List.set_cons_succ]); (refine take_t (i := 6) (d := 19) (oi := _) (v := ?_) rfl rfl (by kernel_rfl) (by kernel_rfl) (by kernel_rfl) (by rfl) ?_ (by assumption) ?_; rotate_left; (focus (intro w0 hSw; (try dsimp only at hSw); go_simp; (try with_reducible rfl); done)); try simp only [Act.put, List.setIfInBounds_toArray, List.set_cons_zero, List.set_cons_succ]); (refine wpAnyH_ready (rs := [7]) (by kernel_rfl) (by simp) ?_; refine AllReadyH.cons (o := _) rfl (fun K' hK => ?_) AllReadyH.nil; go_simp; (replace hp := Lib.hid (hp.out.put (i := 7) rfl 0 (.slice ad6 (0 + 1) cp6))); (try dsimp only); refine hK.out _ _ ?_ (fun hHeld2 => ?_); (focus ((try dsimp only); (first | done | trivial); done)); clear hK K'; clear hHeld; have hHeld := hHeld2; clear hHeld2; try simp only [Act.put, List.setIfInBounds_toArray, List.set_cons_zero, List.set_cons_succ])
      refine wpAnyH_done (by kernel_rfl) ?_ _; refine NoPanic.normal ?_
      go_wp2
      go_meet
      exact ⟨_, _, _, _, l5.out, turn8 (hp.out.drop 0)⟩
    · go_simp; (go_at_call 56; (with_reducible refine (cd0.out _ (hzz.out _ _ y0 0 hp.out rfl lb0.out)).mono ?_); rintro e w5 ⟨nad, ncp, rfl, h5, l5⟩; replace l5 := Lib.hid l5; replace hp := Lib.hid (show Hp w [g] (.box g (psC b cap ws.length s0) 68 :: .row 98 4 (.slice nad nd0.props.length ncp) nd0.props.length (nd0.props.flatMap Pp.cells) :: _) w5 from hpServe hp.out h5); clear h5; have m2 := hp.out.cell (i := 6) rfl 0; simp at m2); (try dsimp only); refine hK.out _ _ ?_ (fun hHeld2 => ?_); (focus ((try dsimp only); (first | done | trivial); done)); clear hK K'; clear hHeld; have hHeld := hHeld2; clear hHeld2; try simp only [Act.put, List.setIfInBounds_toArray, List.set_cons_zero, List.set_cons_succ]
      refine wpAnyH_ready (rs := [1, 4]) (by kernel_rfl) (by simp) ?_; refine AllReadyH.cons (o := _) rfl (fun K' hK => ?_) (AllReadyH.cons (o := _) rfl (fun K' hK => ?_) AllReadyH.nil)
      · go_simp; (skip); (try dsimp only); refine hK.out _ _ ?_ (fun hHeld2 => ?_); (focus ((try dsimp only); (first | done | trivial); done)); clear hK K'; clear hHeld; have hHeld := hHeld2; clear hHeld2; try simp only [Act.put, List.setIfInBounds_toArray, List.set_cons_zero, List.set_cons_succ]
        (refine wpAnyH_ready (rs := [4]) (by kernel_rfl) (by simp) ?_; refine AllReadyH.cons (o := _) rfl (fun K' hK => ?_) AllReadyH.nil; go_simp; (replace hp := Lib.hid (hp.out.alloc #[.string (str nd0.var), .string (str nd0.label), .slice nad nd0.props.length ncp] 79); have m2 := hp.out.cell (i := 7) rfl 0; simp at m2); (try dsimp only); refine hK.out _ _ ?_ (fun hHeld2 => ?_); (focus ((try dsimp only); (first | done | trivial); done)); clear hK K'; clear hHeld; have hHeld := hHeld2; clear hHeld2; try simp only [Act.put, List.setIfInBounds_toArray, List.set_cons_zero, List.set_cons_succ]); (refine wpAnyH_ready (rs := [5]) (by kernel_rfl) (by simp) ?_; refine AllReadyH.cons (o := _) rfl (fun K' hK => ?_) AllReadyH.nil; (refine step_append_sl_hpk rfl _ _ rfl Tryd.underlying22 nodeInfo rfl (by decide) (by decide) hp.out 3 rfl rfl rfl (box_sl2 hp.out (i := 0) rfl) rfl (hon.out _ _ _) hl9.out rfl rfl ?_; intro v6 w6 h6 hv6; obtain ⟨ad6, cp6, rfl⟩ := hv6; replace hp := Lib.hid h6; clear h6; have m6 := hp.out.cell (i := 7) rfl 0; have f6 := hp.out.free (i := 7) rfl 0; simp at m6); (try dsimp only); refine hK.out _ _ ?_ (fun hHeld2 => ?_); (focus ((try dsimp only); (first | done | trivial); done)); clear hK K'; clear hHeld; have hHeld := hHeld2; clear hHeld2; try simp only [Act.put, List.setIfInBounds_toArray, List.set_cons_zero, List.set_cons_succ]); (refine take_t (i := 6) (d := 19) (oi := _) (v := ?_) rfl rfl (by kernel_rfl) (by kernel_rfl) (by kernel_rfl) (by rfl) ?_ (by assumption) ?_; rotate_left; (focus (intro w0 hSw; (try dsimp only at hSw); go_simp; (try with_reducible rfl); done)); try simp only [Act.put, List.setIfInBounds_toArray, List.set_cons_zero, List.set_cons_succ]); (refine wpAnyH_ready (rs := [7]) (by kernel_rfl) (by simp) ?_; refine AllReadyH.cons (o := _) rfl (fun K' hK => ?_) AllReadyH.nil; go_simp; (replace hp := Lib.hid (hp.out.put (i := 7) rfl 0 (.slice ad6 (0 + 1) cp6))); (try dsimp only); refine hK.out _ _ ?_ (fun hHeld2 => ?_); (focus ((try dsimp only); (first | done | trivial); done)); clear hK K'; clear hHeld; have hHeld := hHeld2; clear hHeld2; try simp only [Act.put, List.setIfInBounds_toArray, List.set_cons_zero, List.set_cons_succ])
        refine wpAnyH_done (by kernel_rfl) ?_ _; refine NoPanic.normal ?_
        go_wp2
        go_meet
        exact ⟨_, _, _, _, l5.out, turn8 (hp.out.drop 0)⟩
      · go_simp; (replace hp := Lib.hid (hp.out.alloc #[.string (str nd0.var), .string (str nd0.label), .slice nad nd0.props.length ncp] 79); have m2 := hp.out.cell (i := 7) rfl 0; simp at m2); (try dsimp only); refine hK.out _ _ ?_ (fun hHeld2 => ?_); (focus ((try dsimp only); (first | done | trivial); done)); clear hK K'; clear hHeld; have hHeld := hHeld2; clear hHeld2; try simp only [Act.put, List.setIfInBounds_toArray, List.set_cons_zero, List.set_cons_succ]
        (refine wpAnyH_ready (rs := [1]) (by kernel_rfl) (by simp) ?_; refine AllReadyH.cons (o := _) rfl (fun K' hK => ?_) AllReadyH.nil; go_simp; (skip); (try dsimp only); refine hK.out _ _ ?_ (fun hHeld2 => ?_); (focus ((try dsimp only); (first | done | trivial); done)); clear hK K'; clear hHeld; have hHeld := hHeld2; clear hHeld2; try simp only [Act.put, List.setIfInBounds_toArray, List.set_cons_zero, List.set_cons_succ]); (refine wpAnyH_ready (rs := [5]) (by kernel_rfl) (by simp) ?_; refine AllReadyH.cons (o := _) rfl (fun K' hK => ?_) AllReadyH.nil; (refine step_append_sl_hpk rfl _ _ rfl Tryd.underlying22 nodeInfo rfl (by decide) (by decide) hp.out 3 rfl rfl rfl (box_sl2 hp.out (i := 0) rfl) rfl (hon.out _ _ _) hl9.out rfl rfl ?_; intro v6 w6 h6 hv6; obtain ⟨ad6, cp6, rfl⟩ := hv6; replace hp := Lib.hid h6; clear h6; have m6 := hp.out.cell (i := 7) rfl 0; have f6 := hp.out.free (i := 7) rfl 0; simp at m6); (try dsimp only); refine hK.out _ _ ?_ (fun hHeld2 => ?_); (focus ((try dsimp only); (first | done | trivial); done)); clear hK K'; clear hHeld; have hHeld := hHeld2; clear hHeld2; try simp only [Act.put, List.setIfInBounds_toArray, List.set_cons_zero, List.set_cons_succ]); (refine take_t (i := 6) (d := 19) (oi := _) (v := ?_) rfl rfl (by kernel_rfl) (by kernel_rfl) (by kernel_rfl) (by rfl) ?_ (by assumption) ?_; rotate_left; (focus (intro w0 hSw; (try dsimp only at hSw); go_simp; (try with_reducible rfl); done)); try simp only [Act.put, List.setIfInBounds_toArray, List.set_cons_zero, List.set_cons_succ]); (refine wpAnyH_ready (rs := [7]) (by kernel_rfl) (by simp) ?_; refine AllReadyH.cons (o := _) rfl (fun K' hK => ?_) AllReadyH.nil; go_simp; (replace hp := Lib.hid (hp.out.put (i := 7) rfl 0 (.slice ad6 (0 + 1) cp6))); (try dsimp only); refine hK.out _ _ ?_ (fun hHeld2 => ?_); (focus ((try dsimp only); (first | done | trivial); done)); clear hK K'; clear hHeld; have hHeld := hHeld2; clear hHeld2; try simp only [Act.put, List.setIfInBounds_toArray, List.set_cons_zero, List.set_cons_succ])
        refine wpAnyH_done (by kernel_rfl) ?_ _; refine NoPanic.normal ?_
        go_wp2
        go_meet
        exact ⟨_, _, _, _, l5.out, turn8 (hp.out.drop 0)⟩
  case rest =>
    clear hp cd0 cm0 cu0 l0 lb0 la0
    obtain ⟨nad, ncp, ad0, cp0, l0, hp⟩ := hcut
    replace hp := Lib.hid hp; replace l0 := Lib.hid l0
    obtain ⟨⟨ns, es, s1⟩, hES⟩ : ∃ r, r = edgesF ws (ws.length + 1) s0 [nd0] [] := ⟨_, rfl⟩
    have hR3 := hR2.out
    rw [← hES] at hR3
    simp only at hR3
    clear hR2
    replace hR3 := Lib.hid hR3; replace hES := Lib.hid hES
    have ce0 := fun W (hz : Pz ws b cap g s0 W) => edge_any hz
    obtain ⟨⟨e0, mo0, t0⟩, he0⟩ : ∃ r, r = edgeM ws s0 := ⟨_, rfl⟩
    rw [← he0] at ce0
    unfold Ed.a at ce0
    simp only at ce0
    replace ce0 := Lib.hid ce0; replace he0 := Lib.hid he0
    go_upto_block 0 with (go_at_call 57; (with_reducible refine (ce0.out _ (hzz.out _ _ s0 0 hp.out rfl l0.out)).mono ?_); rintro e we ⟨rfl, he, ke⟩; have le := Lib.hid he.lt; replace hp := Lib.hid (hp.out.call (i := 0) rfl (cs' := psC b cap ws.length t0) he.box ke); clear he ke)
    replace hp := Lib.hid (hp.out.alloc #[.string (str e0.var), .string (str e0.typ), .bool e0.out] 84)
    generalize we.alloc _ = W3 at hp ⊢
    generalize we.heap.size = qe0 at hp ⊢
    go_cut [4, 5] from 25 to 51 (fun s4 s5 wx => ∃ (N : List NdV) (nad : Option Addr) (ncp : Nat) (ead : Option Addr) (ecp : Nat) (nrs : List Rs), N.map NdV.nd = ns ∧ (∀ y ∈ N, ndAt nrs y) ∧ s1.at_ < ws.length ∧ Hp w [g] (.box g (psC b cap ws.length s1) 68 :: .row 79 3 (.slice nad N.length ncp) N.length (N.flatMap NdV.cells) :: .row 84 3 (.slice ead es.length ecp) es.length (es.flatMap Ed.cells) :: .row 88 6 (.slice none 0 0) 0 ([]) :: .row 94 2 (.slice none 0 0) 0 ([]) :: .box qq #[.slice nad N.length ncp, .slice ead es.length ecp, .slice none 0 0, .slice none 0 0, .int .i64 256] 27 :: .box qr #[.slice none 0 0, .slice none 0 0, .slice none 0 0, .slice none 0 0, .int .i64 0] 27 :: nrs) wx)
    case first =>
      go_wp2
      go_loopg [4, 5] ws.length (fun kk s4 s5 wr => ∃ (qe : Nat) (st0 st' : St) (e : Ed) (mo : Bool) (N : List NdV) (nad : Option Addr) (ncp : Nat) (E : List Ed) (ead : Option Addr) (ecp : Nat) (nrs : List Rs), s4 = pv qe ∧ s5 = .bool mo ∧ edgeM ws st0 = (e, mo, st') ∧ edgesF ws (kk + 1) st0 (N.map NdV.nd) E = (ns, es, s1) ∧ ws.length < st0.at_ + kk + 1 ∧ N.length = E.length + 1 ∧ E.length ≤ st0.at_ ∧ (∀ y ∈ N, ndAt nrs y) ∧ st'.at_ < ws.length ∧ Hp w [g] (.box qe #[.string (str e.var), .string (str e.typ), .bool e.out] 84 :: .box g (psC b cap ws.length st') 68 :: .row 79 3 (.slice nad N.length ncp) N.length (N.flatMap NdV.cells) :: .row 84 3 (.slice ead E.length ecp) E.length (E.flatMap Ed.cells) :: .row 88 6 (.slice none 0 0) 0 ([]) :: .row 94 2 (.slice none 0 0) 0 ([]) :: .box qq #[.slice nad N.length ncp, .slice ead E.length ecp, .slice none 0 0, .slice none 0 0, .int .i64 256] 27 :: .box qr #[.slice none 0 0, .slice none 0 0, .slice none 0 0, .slice none 0 0, .int .i64 0] 27 :: nrs) wr)
      case atStart => exact ⟨qe0, s0, t0, e0, mo0, [⟨nd0, nad, ncp⟩], ad0, cp0, [], none, 0, _, rfl, rfl, he0.out.symm, hES.out.symm, by omega, rfl, Nat.zero_le _, fun y hy => by rw [List.mem_singleton.1 hy]; exact List.mem_cons_self .., le.out, hp.out⟩
      case round =>
        clear hp hES he0 ce0 le l0
        obtain ⟨qe, st0', st', e, mo, N, nad, ncp, E, ead, ecp, nrs, rfl, rfl, hed, hef, hfu, hNl, hEl, hNn, hl0, hp⟩ := hrel
        have c2 : wr.cell? ⟨g, 2, none⟩ = some (.bool st'.bad) := (hp.cell (i := 1) rfl 2).trans rfl
        rw [edgesF] at hef
        rw [hed] at hef
        simp only at hef
        replace hl0 := Lib.hid hl0; replace hp := Lib.hid hp; replace hNn := Lib.hid hNn
        by_cases hgo : mo = true ∧ st'.bad = false
        · obtain ⟨rfl, hbd⟩ := hgo
          rw [hbd] at hef c2
          simp only [Bool.not_false, Bool.and_true, if_true] at hef
          have hstep := lt_edge ws st0' (by rw [hed])
          rw [hed] at hstep
          simp only at hstep
          obtain ⟨K, rfl⟩ : ∃ K : Nat, gk = K + 1 := ⟨gk - 1, by have := hl0.out; omega⟩
          have cd := fun W (hz : Pz ws b cap g st' W) => node_any hz
          have hle := le_node ws st'
          obtain ⟨⟨nd, s2⟩, hn⟩ : ∃ r, r = nodeM ws st' := ⟨_, rfl⟩
          rw [← hn] at cd hef hle
          simp only at cd hef hle
          have ce := fun W (hz : Pz ws b cap g s2 W) => edge_any hz
          obtain ⟨⟨e2, mo2, t2⟩, he2⟩ : ∃ r, r = edgeM ws s2 := ⟨_, rfl⟩
          rw [← he2] at ce
          unfold Ed.a at ce
          simp only at ce
          have hl9e := Lib.hid (show E.length < 100000000 by have := hl0.out; have := hwl.out; omega)
          have hl9 := Lib.hid (show N.length + 1 ≤ 100000000 by have := hl0.out; have := hwl.out; omega)
          have hnew : edgesF ws (K + 1) s2 ((N ++ [(⟨nd, none, 0⟩ : NdV)]).map NdV.nd) (E ++ [e]) = (ns, es, s1) := by rw [List.map_append]; exact hef
          have hfu2 := Lib.hid (show ws.length < s2.at_ + K + 1 by omega)
          have hEl2 := Lib.hid (show (E ++ [e]).length ≤ s2.at_ by rw [List.length_append]; show E.length + 1 ≤ _; omega)
          replace hnew := Lib.hid hnew; replace he2 := Lib.hid he2; replace cd := Lib.hid cd; replace ce := Lib.hid ce; replace hbd := Lib.hid hbd; replace hNl := Lib.hid hNl
          clear hn hef hed hfu hEl hle hstep
          obtain ⟨M, hM⟩ : ∃ M, M = N.flatMap NdV.cells := ⟨_, rfl⟩
          obtain ⟨ME, hME⟩ : ∃ M, M = E.flatMap Ed.cells := ⟨_, rfl⟩
          rw [← hM, ← hME] at hp
          obtain ⟨nN, hnN⟩ : ∃ n, n = N.length := ⟨_, rfl⟩
          obtain ⟨nE, hnE⟩ : ∃ n, n = E.length := ⟨_, rfl⟩
          rw [← hnN, ← hnE] at hp
          rw [← hnN] at hl9
          rw [← hnE] at hl9e
          replace hM := Lib.hid hM; replace hME := Lib.hid hME; replace hnN := Lib.hid hnN; replace hnE := Lib.hid hnE
          have y0 := hp.out.cell (i := 0) rfl 0; have y1 := hp.out.cell (i := 0) rfl 1; have y2 := hp.out.cell (i := 0) rfl 2; simp at y0 y1 y2
          have z1 := hp.out.cell (i := 6) rfl 1
          simp at z1
          go_upto_region 8 with (at_builtin; go_loud (refine wpList_append_hp rfl _ _ rfl Tryd.underlying23 edgeInfo rfl (by decide) (by decide) (hp.out.alloc_ (.cells #[.string (str e.var), .string (str e.typ), .bool e.out] 84)) 3 rfl rfl _ _ [.string (str e.var), .string (str e.typ), .bool e.out] rfl rfl (block_cells (heap_alloc_new _ _)) (by intro u hu; simp at hu; rcases hu with rfl | rfl | rfl <;> rfl) hl9e.out ?_; intro v5 w5 hp5 hv5; replace hp := Lib.hid hp5; clear hp5; obtain ⟨ad5, cp5, rfl⟩ := hv5; clear y0 y1 y2 z1; have z1 := hp.out.cell (i := 6) rfl 1; have f1 := hp.out.free (i := 6) rfl 1; simp at z1))
          replace hp := Lib.hid (hp.out.put (i := 6) rfl 1 (.slice (some ⟨ad5, 0, none⟩) (nE + 1) cp5))
          clear z1 f1 c2
          generalize World.setCell _ _ _ = W5 at hp ⊢
          replace hp := Lib.hid (show Hp w [g] (.box g (psC b cap ws.length st') 68 :: .row 79 3 (.slice nad nN ncp) nN (M) :: .row 84 3 (.slice (some ⟨ad5, 0, none⟩) (nE + 1) cp5) (nE + 1) (ME ++ [.string (str e.var), .string (str e.typ), .bool e.out]) :: .row 88 6 (.slice none 0 0) 0 ([]) :: .row 94 2 (.slice none 0 0) 0 ([]) :: .box qq #[.slice nad nN ncp, .slice (some ⟨ad5, 0, none⟩) (nE + 1) cp5, .slice none 0 0, .slice none 0 0, .int .i64 256] 27 :: .box qr #[.slice none 0 0, .slice none 0 0, .slice none 0 0, .slice none 0 0, .int .i64 0] 27 :: .box qe #[.string (str e.var), .string (str e.typ), .bool e.out] 84 :: nrs) W5 from hpTurn1 hp.out)
          have m2 := hp.out.cell (i := 5) rfl 0
          simp at m2
          replace hp := Lib.hid hp.out.drew
          refine wp_region_noPanic ?_; refine wp_region_held_drew (S := (fun _ => True)) (by kernel_rfl) ?_ (fun hHeld => ?_); (focus ((try dsimp only); (first | done | trivial); done))
          (refine take_t (i := 0) (d := 44) (oi := _) (v := ?_) rfl rfl (by kernel_rfl) (by kernel_rfl) (by kernel_rfl) (by rfl) ?_ (by assumption) ?_; rotate_left; (focus (intro w0 hSw; (try dsimp only at hSw); go_simp; (try with_reducible rfl); done)); try simp only [Act.put, List.setIfInBounds_toArray, List.set_cons_zero, List.set_cons_succ]); (refine take_t (i := 2) (d := 46) (oi := _) (v := ?_) rfl rfl (by kernel_rfl) (by kernel_rfl) (by kernel_rfl) (by rfl) ?_ (by assumption) ?_; rotate_left; (focus (intro w0 hSw; (try dsimp only at hSw); go_simp; (try with_reducible rfl); done)); try simp only [Act.put, List.setIfInBounds_toArray, List.set_cons_zero, List.set_cons_succ])
          refine wpAnyH_ready (rs := [1, 3]) (by kernel_rfl) (by simp) ?_; refine AllReadyH.cons (o := _) rfl (fun K' hK => ?_) (AllReadyH.cons (o := _) rfl (fun K' hK => ?_) AllReadyH.nil)
          · go_simp; (skip); (try dsimp only); refine hK.out _ _ ?_ (fun hHeld2 => ?_); (focus ((try dsimp only); (first | done | trivial); done)); clear hK K'; clear hHeld; have hHeld := hHeld2; clear hHeld2; try simp only [Act.put, List.setIfInBounds_toArray, List.set_cons_zero, List.set_cons_succ]
            (refine wpAnyH_ready (rs := [3]) (by kernel_rfl) (by simp) ?_; refine AllReadyH.cons (o := _) rfl (fun K' hK => ?_) AllReadyH.nil; go_simp; (go_at_call 56; (with_reducible refine (cd.out _ (hzz.out _ _ st' 0 hp.out rfl hl0.out)).mono ?_); rintro e w5 ⟨nad2, ncp2, rfl, h5, l5⟩; replace l5 := Lib.hid l5; replace hp := Lib.hid (show Hp w [g] (.box g (psC b cap ws.length s2) 68 :: .row 98 4 (.slice nad2 nd.props.length ncp2) nd.props.length (nd.props.flatMap Pp.cells) :: _) w5 from hpServe hp.out h5); clear h5; have m2 := hp.out.cell (i := 6) rfl 0; simp at m2); (try dsimp only); refine hK.out _ _ ?_ (fun hHeld2 => ?_); (focus ((try dsimp only); (first | done | trivial); done)); clear hK K'; clear hHeld; have hHeld := hHeld2; clear hHeld2; try simp only [Act.put, List.setIfInBounds_toArray, List.set_cons_zero, List.set_cons_succ]); (refine wpAnyH_ready (rs := [4]) (by kernel_rfl) (by simp) ?_; refine AllReadyH.cons (o := _) rfl (fun K' hK => ?_) AllReadyH.nil; go_simp; (replace hp := Lib.hid (hp.out.alloc #[.string (str nd.var), .string (str nd.label), .slice nad2 nd.props.length ncp2] 79); have m2 := hp.out.cell (i := 7) rfl 0; simp at m2); (try dsimp only); refine hK.out _ _ ?_ (fun hHeld2 => ?_); (focus ((try dsimp only); (first | done | trivial); done)); clear hK K'; clear hHeld; have hHeld := hHeld2; clear hHeld2; try simp only [Act.put, List.setIfInBounds_toArray, List.set_cons_zero, List.set_cons_succ]); (refine wpAnyH_ready (rs := [5]) (by kernel_rfl) (by simp) ?_; refine AllReadyH.cons (o := _) rfl (fun K' hK => ?_) AllReadyH.nil; (refine step_append_sl_hpk rfl _ _ rfl Tryd.underlying22 nodeInfo rfl (by decide) (by decide) hp.out 3 rfl rfl rfl (box_sl2 hp.out (i := 0) rfl) rfl (hon.out _ _ _) hl9.out rfl rfl ?_; intro v6 w6 h6 hv6; obtain ⟨ad6, cp6, rfl⟩ := hv6; replace hp := Lib.hid h6; clear h6; have m6 := hp.out.cell (i := 7) rfl 0; have f6 := hp.out.free (i := 7) rfl 0; simp at m6); (try dsimp only); refine hK.out _ _ ?_ (fun hHeld2 => ?_); (focus ((try dsimp only); (first | done | trivial); done)); clear hK K'; clear hHeld; have hHeld := hHeld2; clear hHeld2; try simp only [Act.put, List.setIfInBounds_toArray, List.set_cons_zero, List.set_cons_succ]); (refine take_t (i := 6) (d := 50) (oi := _) (v := ?_) rfl rfl (by kernel_rfl) (by kernel_rfl) (by kernel_rfl) (by rfl) ?_ (by assumption) ?_; rotate_left; (focus (intro w0 hSw; (try dsimp only at hSw); go_simp; (try with_reducible rfl); done)); try simp only [Act.put, List.setIfInBounds_toArray, List.set_cons_zero, List.set_cons_succ]); (refine wpAnyH_ready (rs := [7]) (by kernel_rfl) (by simp) ?_; refine AllReadyH.cons (o := _) rfl (fun K' hK => ?_) AllReadyH.nil; go_simp; (replace hp := Lib.hid (hp.out.put (i := 7) rfl 0 (.slice ad6 (nN + 1) cp6))); (try dsimp only); refine hK.out _ _ ?_ (fun hHeld2 => ?_); (focus ((try dsimp only); (first | done | trivial); done)); clear hK K'; clear hHeld; have hHeld := hHeld2; clear hHeld2; try simp only [Act.put, List.setIfInBounds_toArray, List.set_cons_zero, List.set_cons_succ])
            refine wpAnyH_done (by kernel_rfl) ?_ _; refine NoPanic.normal ?_
            have hq8 := Lib.hid (turn8 (hp.out.drop 0))
            clear hp
            have hp := hq8
            clear hq8
            replace hp := Lib.hid (show Hp w [g] (.box g (psC b cap ws.length s2) 68 :: .row 79 3 (.slice ad6 (nN + 1) cp6) (nN + 1) (M ++ [.string (str nd.var), .string (str nd.label), .slice nad2 nd.props.length ncp2]) :: .row 84 3 (.slice (some ⟨ad5, 0, none⟩) (nE + 1) cp5) (nE + 1) (ME ++ [.string (str e.var), .string (str e.typ), .bool e.out]) :: .row 88 6 (.slice none 0 0) 0 ([]) :: .row 94 2 (.slice none 0 0) 0 ([]) :: .box qq #[.slice ad6 (nN + 1) cp6, .slice (some ⟨ad5, 0, none⟩) (nE + 1) cp5, .slice none 0 0, .slice none 0 0, .int .i64 256] 27 :: .box qr #[.slice none 0 0, .slice none 0 0, .slice none 0 0, .slice none 0 0, .int .i64 0] 27 :: .row 98 4 (.slice nad2 nd.props.length ncp2) nd.props.length (nd.props.flatMap Pp.cells) :: .box qe #[.string (str e.var), .string (str e.typ), .bool e.out] 84 :: nrs) _ from hp.out)
            generalize World.setCell _ _ _ = W6 at hp ⊢
            have y0 := hp.out.cell (i := 8) rfl 0; have y1 := hp.out.cell (i := 8) rfl 1; have y2 := hp.out.cell (i := 8) rfl 2; simp at y0 y1 y2
            go_upto_region 10 with fail
            clear y0 y1 y2
            go_upto_region 6 with fail
            replace hp := Lib.hid (hp.out.alloc #[.string (str e.var), .string (str e.typ), .bool e.out] 84)
            generalize W6.alloc _ = W7 at hp ⊢
            generalize W6.heap.size = qe2 at hp ⊢
            go_wp2_with (go_at_call 57; (with_reducible refine (ce.out _ (hzz.out _ _ s2 1 hp.out rfl l5.out)).mono ?_); rintro e we ⟨rfl, he, ke⟩; have le := Lib.hid he.lt; replace hp := Lib.hid (hp.out.call (i := 1) rfl (cs' := psC b cap ws.length t2) he.box ke); clear he ke; have y0 := hp.out.cell (i := 0) rfl 0; have y1 := hp.out.cell (i := 0) rfl 1; have y2 := hp.out.cell (i := 0) rfl 2; have f0 := hp.out.free (i := 0) rfl 0; have f1 := hp.out.free (i := 0) rfl 1; have f2 := hp.out.free (i := 0) rfl 2; simp at y0 y1 y2)
            have hp9 := hp.out
            replace hp9 := Lib.hid (((hp9.put (i := 0) rfl 0 (.string (str e2.var))).put (i := 0) rfl 1 (.string (str e2.typ))).put (i := 0) rfl 2 (.bool e2.out))
            clear hp
            have hN9 : ∀ y ∈ N ++ [⟨nd, nad2, ncp2⟩], ndAt (.row 98 4 (.slice nad2 nd.props.length ncp2) nd.props.length (nd.props.flatMap Pp.cells) :: .box qe #[.string (str e.var), .string (str e.typ), .bool e.out] 84 :: nrs) y := fun y hy => by
              rcases List.mem_append.1 hy with h | h
              · exact ndAt.mono (hNn.out y h) (fun r hr => List.mem_cons_of_mem _ (List.mem_cons_of_mem _ hr))
              · rw [List.mem_singleton.1 h]; exact List.mem_cons_self ..
            have hm9 : (N ++ [(⟨nd, nad2, ncp2⟩ : NdV)]).map NdV.nd = (N ++ [(⟨nd, none, 0⟩ : NdV)]).map NdV.nd := by rw [List.map_append, List.map_append]; rfl
            have hl9 : (N ++ [(⟨nd, nad2, ncp2⟩ : NdV)]).length = nN + 1 := by rw [List.length_append, hnN.out]; rfl
            have hle9 : (E ++ [e]).length = nE + 1 := by rw [List.length_append, hnE.out]; rfl
            have hc9 : (N ++ [(⟨nd, nad2, ncp2⟩ : NdV)]).flatMap NdV.cells = M ++ [.string (str nd.var), .string (str nd.label), .slice nad2 nd.props.length ncp2] := by rw [List.flatMap_append, ← hM.out]; rfl
            have hce9 : (E ++ [e]).flatMap Ed.cells = ME ++ [.string (str e.var), .string (str e.typ), .bool e.out] := by rw [List.flatMap_append, ← hME.out]; rfl
            replace hN9 := Lib.hid hN9; replace hm9 := Lib.hid hm9; replace hl9 := Lib.hid hl9; replace hle9 := Lib.hid hle9; replace hc9 := Lib.hid hc9; replace hce9 := Lib.hid hce9
            go_roundg K
            case measure => omega
            case rel => exact ⟨qe2, s2, t2, e2, mo2, N ++ [⟨nd, nad2, ncp2⟩], _, _, E ++ [e], _, _, _, rfl, rfl, he2.out.symm, by rw [hm9.out]; exact hnew.out, hfu2.out, by rw [hl9.out, hle9.out, hnN.out, hnE.out]; have := hNl.out; omega, hEl2.out, hN9.out, le.out, by rw [hl9.out, hle9.out, hc9.out, hce9.out]; exact hp9.out⟩
          · go_simp; (go_at_call 56; (with_reducible refine (cd.out _ (hzz.out _ _ st' 0 hp.out rfl hl0.out)).mono ?_); rintro e w5 ⟨nad2, ncp2, rfl, h5, l5⟩; replace l5 := Lib.hid l5; replace hp := Lib.hid (show Hp w [g] (.box g (psC b cap ws.length s2) 68 :: .row 98 4 (.slice nad2 nd.props.length ncp2) nd.props.length (nd.props.flatMap Pp.cells) :: _) w5 from hpServe hp.out h5); clear h5; have m2 := hp.out.cell (i := 6) rfl 0; simp at m2); (try dsimp only); refine hK.out _ _ ?_ (fun hHeld2 => ?_); (focus ((try dsimp only); (first | done | trivial); done)); clear hK K'; clear hHeld; have hHeld := hHeld2; clear hHeld2; try simp only [Act.put, List.setIfInBounds_toArray, List.set_cons_zero, List.set_cons_succ]
            refine wpAnyH_ready (rs := [1, 4]) (by kernel_rfl) (by simp) ?_; refine AllReadyH.cons (o := _) rfl (fun K' hK => ?_) (AllReadyH.cons (o := _) rfl (fun K' hK => ?_) AllReadyH.nil)
            · go_simp; (skip); (try dsimp only); refine hK.out _ _ ?_ (fun hHeld2 => ?_); (focus ((try dsimp only); (first | done | trivial); done)); clear hK K'; clear hHeld; have hHeld := hHeld2; clear hHeld2; try simp only [Act.put, List.setIfInBounds_toArray, List.set_cons_zero, List.set_cons_succ]
              (refine wpAnyH_ready (rs := [4]) (by kernel_rfl) (by simp) ?_; refine AllReadyH.cons (o := _) rfl (fun K' hK => ?_) AllReadyH.nil; go_simp; (replace hp := Lib.hid (hp.out.alloc #[.string (str nd.var), .string (str nd.label), .slice nad2 nd.props.length ncp2] 79); have m2 := hp.out.cell (i := 7) rfl 0; simp at m2); (try dsimp only); refine hK.out _ _ ?_ (fun hHeld2 => ?_); (focus ((try dsimp only); (first | done | trivial); done)); clear hK K'; clear hHeld; have hHeld := hHeld2; clear hHeld2; try simp only [Act.put, List.setIfInBounds_toArray, List.set_cons_zero, List.set_cons_succ]); (refine wpAnyH_ready (rs := [5]) (by kernel_rfl) (by simp) ?_; refine AllReadyH.cons (o := _) rfl (fun K' hK => ?_) AllReadyH.nil; (refine step_append_sl_hpk rfl _ _ rfl Tryd.underlying22 nodeInfo rfl (by decide) (by decide) hp.out 3 rfl rfl rfl (box_sl2 hp.out (i := 0) rfl) rfl (hon.out _ _ _) hl9.out rfl rfl ?_; intro v6 w6 h6 hv6; obtain ⟨ad6, cp6, rfl⟩ := hv6; replace hp := Lib.hid h6; clear h6; have m6 := hp.out.cell (i := 7) rfl 0; have f6 := hp.out.free (i := 7) rfl 0; simp at m6); (try dsimp only); refine hK.out _ _ ?_ (fun hHeld2 => ?_); (focus ((try dsimp only); (first | done | trivial); done)); clear hK K'; clear hHeld; have hHeld := hHeld2; clear hHeld2; try simp only [Act.put, List.setIfInBounds_toArray, List.set_cons_zero, List.set_cons_succ]); (refine take_t (i := 6) (d := 50) (oi := _) (v := ?_) rfl rfl (by kernel_rfl) (by kernel_rfl) (by kernel_rfl) (by rfl) ?_ (by assumption) ?_; rotate_left; (focus (intro w0 hSw; (try dsimp only at hSw); go_simp; (try with_reducible rfl); done)); try simp only [Act.put, List.setIfInBounds_toArray, List.set_cons_zero, List.set_cons_succ]); (refine wpAnyH_ready (rs := [7]) (by kernel_rfl) (by simp) ?_; refine AllReadyH.cons (o := _) rfl (fun K' hK => ?_) AllReadyH.nil; go_simp; (replace hp := Lib.hid (hp.out.put (i := 7) rfl 0 (.slice ad6 (nN + 1) cp6))); (try dsimp only); refine hK.out _ _ ?_ (fun hHeld2 => ?_); (focus ((try dsimp only); (first | done | trivial); done)); clear hK K'; clear hHeld; have hHeld := hHeld2; clear hHeld2; try simp only [Act.put, List.setIfInBounds_toArray, List.set_cons_zero, List.set_cons_succ])
              refine wpAnyH_done (by kernel_rfl) ?_ _; refine NoPanic.normal ?_
              have hq8 := Lib.hid (turn8 (hp.out.drop 0))
              clear hp
              have hp := hq8
              clear hq8
              replace hp := Lib.hid (show Hp w [g] (.box g (psC b cap ws.length s2) 68 :: .row 79 3 (.slice ad6 (nN + 1) cp6) (nN + 1) (M ++ [.string (str nd.var), .string (str nd.label), .slice nad2 nd.props.length ncp2]) :: .row 84 3 (.slice (some ⟨ad5, 0, none⟩) (nE + 1) cp5) (nE + 1) (ME ++ [.string (str e.var), .string (str e.typ), .bool e.out]) :: .row 88 6 (.slice none 0 0) 0 ([]) :: .row 94 2 (.slice none 0 0) 0 ([]) :: .box qq #[.slice ad6 (nN + 1) cp6, .slice (some ⟨ad5, 0, none⟩) (nE + 1) cp5, .slice none 0 0, .slice none 0 0, .int .i64 256] 27 :: .box qr #[.slice none 0 0, .slice none 0 0, .slice none 0 0, .slice none 0 0, .int .i64 0] 27 :: .row 98 4 (.slice nad2 nd.props.length ncp2) nd.props.length (nd.props.flatMap Pp.cells) :: .box qe #[.string (str e.var), .string (str e.typ), .bool e.out] 84 :: nrs) _ from hp.out)
              generalize World.setCell _ _ _ = W6 at hp ⊢
              have y0 := hp.out.cell (i := 8) rfl 0; have y1 := hp.out.cell (i := 8) rfl 1; have y2 := hp.out.cell (i := 8) rfl 2; simp at y0 y1 y2
              go_upto_region 10 with fail
              clear y0 y1 y2
              go_upto_region 6 with fail
              replace hp := Lib.hid (hp.out.alloc #[.string (str e.var), .string (str e.typ), .bool e.out] 84)
              generalize W6.alloc _ = W7 at hp ⊢
              generalize W6.heap.size = qe2 at hp ⊢
              go_wp2_with (go_at_call 57; (with_reducible refine (ce.out _ (hzz.out _ _ s2 1 hp.out rfl l5.out)).mono ?_); rintro e we ⟨rfl, he, ke⟩; have le := Lib.hid he.lt; replace hp := Lib.hid (hp.out.call (i := 1) rfl (cs' := psC b cap ws.length t2) he.box ke); clear he ke; have y0 := hp.out.cell (i := 0) rfl 0; have y1 := hp.out.cell (i := 0) rfl 1; have y2 := hp.out.cell (i := 0) rfl 2; have f0 := hp.out.free (i := 0) rfl 0; have f1 := hp.out.free (i := 0) rfl 1; have f2 := hp.out.free (i := 0) rfl 2; simp at y0 y1 y2)
              have hp9 := hp.out
              replace hp9 := Lib.hid (((hp9.put (i := 0) rfl 0 (.string (str e2.var))).put (i := 0) rfl 1 (.string (str e2.typ))).put (i := 0) rfl 2 (.bool e2.out))
              clear hp
              have hN9 : ∀ y ∈ N ++ [⟨nd, nad2, ncp2⟩], ndAt (.row 98 4 (.slice nad2 nd.props.length ncp2) nd.props.length (nd.props.flatMap Pp.cells) :: .box qe #[.string (str e.var), .string (str e.typ), .bool e.out] 84 :: nrs) y := fun y hy => by
                rcases List.mem_append.1 hy with h | h
                · exact ndAt.mono (hNn.out y h) (fun r hr => List.mem_cons_of_mem _ (List.mem_cons_of_mem _ hr))
                · rw [List.mem_singleton.1 h]; exact List.mem_cons_self ..
              have hm9 : (N ++ [(⟨nd, nad2, ncp2⟩ : NdV)]).map NdV.nd = (N ++ [(⟨nd, none, 0⟩ : NdV)]).map NdV.nd := by rw [List.map_append, List.map_append]; rfl
              have hl9 : (N ++ [(⟨nd, nad2, ncp2⟩ : NdV)]).length = nN + 1 := by rw [List.length_append, hnN.out]; rfl
              have hle9 : (E ++ [e]).length = nE + 1 := by rw [List.length_append, hnE.out]; rfl
              have hc9 : (N ++ [(⟨nd, nad2, ncp2⟩ : NdV)]).flatMap NdV.cells = M ++ [.string (str nd.var), .string (str nd.label), .slice nad2 nd.props.length ncp2] := by rw [List.flatMap_append, ← hM.out]; rfl
              have hce9 : (E ++ [e]).flatMap Ed.cells = ME ++ [.string (str e.var), .string (str e.typ), .bool e.out] := by rw [List.flatMap_append, ← hME.out]; rfl
              replace hN9 := Lib.hid hN9; replace hm9 := Lib.hid hm9; replace hl9 := Lib.hid hl9; replace hle9 := Lib.hid hle9; replace hc9 := Lib.hid hc9; replace hce9 := Lib.hid hce9
              go_roundg K
              case measure => omega
              case rel => exact ⟨qe2, s2, t2, e2, mo2, N ++ [⟨nd, nad2, ncp2⟩], _, _, E ++ [e], _, _, _, rfl, rfl, he2.out.symm, by rw [hm9.out]; exact hnew.out, hfu2.out, by rw [hl9.out, hle9.out, hnN.out, hnE.out]; have := hNl.out; omega, hEl2.out, hN9.out, le.out, by rw [hl9.out, hle9.out, hc9.out, hce9.out]; exact hp9.out⟩
            · go_simp; (replace hp := Lib.hid (hp.out.alloc #[.string (str nd.var), .string (str nd.label), .slice nad2 nd.props.length ncp2] 79); have m2 := hp.out.cell (i := 7) rfl 0; simp at m2); (try dsimp only); refine hK.out _ _ ?_ (fun hHeld2 => ?_); (focus ((try dsimp only); (first | done | trivial); done)); clear hK K'; clear hHeld; have hHeld := hHeld2; clear hHeld2; try simp only [Act.put, List.setIfInBounds_toArray, List.set_cons_zero, List.set_cons_succ]
              (refine wpAnyH_ready (rs := [1]) (by kernel_rfl) (by simp) ?_; refine AllReadyH.cons (o := _) rfl (fun K' hK => ?_) AllReadyH.nil; go_simp; (skip); (try dsimp only); refine hK.out _ _ ?_ (fun hHeld2 => ?_); (focus ((try dsimp only); (first | done | trivial); done)); clear hK K'; clear hHeld; have hHeld := hHeld2; clear hHeld2; try simp only [Act.put, List.setIfInBounds_toArray, List.set_cons_zero, List.set_cons_succ]); (refine wpAnyH_ready (rs := [5]) (by kernel_rfl) (by simp) ?_; refine AllReadyH.cons (o := _) rfl (fun K' hK => ?_) AllReadyH.nil; (refine step_append_sl_hpk rfl _ _ rfl Tryd.underlying22 nodeInfo rfl (by decide) (by decide) hp.out 3 rfl rfl rfl (box_sl2 hp.out (i := 0) rfl) rfl (hon.out _ _ _) hl9.out rfl rfl ?_; intro v6 w6 h6 hv6; obtain ⟨ad6, cp6, rfl⟩ := hv6; replace hp := Lib.hid h6; clear h6; have m6 := hp.out.cell (i := 7) rfl 0; have f6 := hp.out.free (i := 7) rfl 0; simp at m6); (try dsimp only); refine hK.out _ _ ?_ (fun hHeld2 => ?_); (focus ((try dsimp only); (first | done | trivial); done)); clear hK K'; clear hHeld; have hHeld := hHeld2; clear hHeld2; try simp only [Act.put, List.setIfInBounds_toArray, List.set_cons_zero, List.set_cons_succ]); (refine take_t (i := 6) (d := 50) (oi := _) (v := ?_) rfl rfl (by kernel_rfl) (by kernel_rfl) (by kernel_rfl) (by rfl) ?_ (by assumption) ?_; rotate_left; (focus (intro w0 hSw; (try dsimp only at hSw); go_simp; (try with_reducible rfl); done)); try simp only [Act.put, List.setIfInBounds_toArray, List.set_cons_zero, List.set_cons_succ]); (refine wpAnyH_ready (rs := [7]) (by kernel_rfl) (by simp) ?_; refine AllReadyH.cons (o := _) rfl (fun K' hK => ?_) AllReadyH.nil; go_simp; (replace hp := Lib.hid (hp.out.put (i := 7) rfl 0 (.slice ad6 (nN + 1) cp6))); (try dsimp only); refine hK.out _ _ ?_ (fun hHeld2 => ?_); (focus ((try dsimp only); (first | done | trivial); done)); clear hK K'; clear hHeld; have hHeld := hHeld2; clear hHeld2; try simp only [Act.put, List.setIfInBounds_toArray, List.set_cons_zero, List.set_cons_succ])
              refine wpAnyH_done (by kernel_rfl) ?_ _; refine NoPanic.normal ?_
              have hq8 := Lib.hid (turn8 (hp.out.drop 0))
              clear hp
              have hp := hq8
              clear hq8
              replace hp := Lib.hid (show Hp w [g] (.box g (psC b cap ws.length s2) 68 :: .row 79 3 (.slice ad6 (nN + 1) cp6) (nN + 1) (M ++ [.string (str nd.var), .string (str nd.label), .slice nad2 nd.props.length ncp2]) :: .row 84 3 (.slice (some ⟨ad5, 0, none⟩) (nE + 1) cp5) (nE + 1) (ME ++ [.string (str e.var), .string (str e.typ), .bool e.out]) :: .row 88 6 (.slice none 0 0) 0 ([]) :: .row 94 2 (.slice none 0 0) 0 ([]) :: .box qq #[.slice ad6 (nN + 1) cp6, .slice (some ⟨ad5, 0, none⟩) (nE + 1) cp5, .slice none 0 0, .slice none 0 0, .int .i64 256] 27 :: .box qr #[.slice none 0 0, .slice none 0 0, .slice none 0 0, .slice none 0 0, .int .i64 0] 27 :: .row 98 4 (.slice nad2 nd.props.length ncp2) nd.props.length (nd.props.flatMap Pp.cells) :: .box qe #[.string (str e.var), .string (str e.typ), .bool e.out] 84 :: nrs) _ from hp.out)
              generalize World.setCell _ _ _ = W6 at hp ⊢
              have y0 := hp.out.cell (i := 8) rfl 0; have y1 := hp.out.cell (i := 8) rfl 1; have y2 := hp.out.cell (i := 8) rfl 2; simp at y0 y1 y2
              go_upto_region 10 with fail
              clear y0 y1 y2
              go_upto_region 6 with fail
              replace hp := Lib.hid (hp.out.alloc #[.string (str e.var), .string (str e.typ), .bool e.out] 84)
              generalize W6.alloc _ = W7 at hp ⊢
              generalize W6.heap.size = qe2 at hp ⊢
              go_wp2_with (go_at_call 57; (with_reducible refine (ce.out _ (hzz.out _ _ s2 1 hp.out rfl l5.out)).mono ?_); rintro e we ⟨rfl, he, ke⟩; have le := Lib.hid he.lt; replace hp := Lib.hid (hp.out.call (i := 1) rfl (cs' := psC b cap ws.length t2) he.box ke); clear he ke; have y0 := hp.out.cell (i := 0) rfl 0; have y1 := hp.out.cell (i := 0) rfl 1; have y2 := hp.out.cell (i := 0) rfl 2; have f0 := hp.out.free (i := 0) rfl 0; have f1 := hp.out.free (i := 0) rfl 1; have f2 := hp.out.free (i := 0) rfl 2; simp at y0 y1 y2)
              have hp9 := hp.out
              replace hp9 := Lib.hid (((hp9.put (i := 0) rfl 0 (.string (str e2.var))).put (i := 0) rfl 1 (.string (str e2.typ))).put (i := 0) rfl 2 (.bool e2.out))
              clear hp
              have hN9 : ∀ y ∈ N ++ [⟨nd, nad2, ncp2⟩], ndAt (.row 98 4 (.slice nad2 nd.props.length ncp2) nd.props.length (nd.props.flatMap Pp.cells) :: .box qe #[.string (str e.var), .string (str e.typ), .bool e.out] 84 :: nrs) y := fun y hy => by
                rcases List.mem_append.1 hy with h | h
                · exact ndAt.mono (hNn.out y h) (fun r hr => List.mem_cons_of_mem _ (List.mem_cons_of_mem _ hr))
                · rw [List.mem_singleton.1 h]; exact List.mem_cons_self ..
              have hm9 : (N ++ [(⟨nd, nad2, ncp2⟩ : NdV)]).map NdV.nd = (N ++ [(⟨nd, none, 0⟩ : NdV)]).map NdV.nd := by rw [List.map_append, List.map_append]; rfl
              have hl9 : (N ++ [(⟨nd, nad2, ncp2⟩ : NdV)]).length = nN + 1 := by rw [List.length_append, hnN.out]; rfl
              have hle9 : (E ++ [e]).length = nE + 1 := by rw [List.length_append, hnE.out]; rfl
              have hc9 : (N ++ [(⟨nd, nad2, ncp2⟩ : NdV)]).flatMap NdV.cells = M ++ [.string (str nd.var), .string (str nd.label), .slice nad2 nd.props.length ncp2] := by rw [List.flatMap_append, ← hM.out]; rfl
              have hce9 : (E ++ [e]).flatMap Ed.cells = ME ++ [.string (str e.var), .string (str e.typ), .bool e.out] := by rw [List.flatMap_append, ← hME.out]; rfl
              replace hN9 := Lib.hid hN9; replace hm9 := Lib.hid hm9; replace hl9 := Lib.hid hl9; replace hle9 := Lib.hid hle9; replace hc9 := Lib.hid hc9; replace hce9 := Lib.hid hce9
              go_roundg K
              case measure => omega
              case rel => exact ⟨qe2, s2, t2, e2, mo2, N ++ [⟨nd, nad2, ncp2⟩], _, _, E ++ [e], _, _, _, rfl, rfl, he2.out.symm, by rw [hm9.out]; exact hnew.out, hfu2.out, by rw [hl9.out, hle9.out, hnN.out, hnE.out]; have := hNl.out; omega, hEl2.out, hN9.out, le.out, by rw [hl9.out, hle9.out, hc9.out, hce9.out]; exact hp9.out⟩
        · have hz : (mo && !st'.bad) = false := by cases mo <;> cases hb : st'.bad <;> simp_all
          rw [hz] at hef
          simp only [Bool.false_eq_true, if_false] at hef
          have q1 : N.map NdV.nd = ns := (Prod.mk.inj hef).1
          have q2 : E = es := (Prod.mk.inj (Prod.mk.inj hef).2).1
          have q3 : st' = s1 := (Prod.mk.inj (Prod.mk.inj hef).2).2
          subst q2 q3
          replace q1 := Lib.hid q1
          have hcc : (mo = false) ∨ (mo = true ∧ st'.bad = true) := by
            cases mo
            · exact Or.inl rfl
            · refine Or.inr ⟨rfl, ?_⟩; cases hb : st'.bad; exact absurd ⟨rfl, hb⟩ hgo; rfl
          clear hgo hz hef hed hfu hNl hEl
          rcases hcc with rfl | ⟨rfl, hbd⟩
          · clear c2
            go_wp2
            go_meet
            exact ⟨N, _, _, _, _, nrs, q1.out, hNn.out, hl0.out, hp.out.drop 0⟩
          · rw [hbd] at c2
            replace hbd := Lib.hid hbd
            go_wp2
            go_meet
            exact ⟨N, _, _, _, _, nrs, q1.out, hNn.out, hl0.out, hp.out.drop 0⟩
    case rest =>
      clear hp hES he0 ce0 le l0 hon
      obtain ⟨N, nad, ncp, ead, ecp, nrs, hNx, hNn, l1, hp⟩ := hcut
      replace hp := Lib.hid hp; replace hNx := Lib.hid hNx; replace hNn := Lib.hid hNn; replace l1 := Lib.hid l1
      obtain ⟨nE, hnE⟩ : ∃ n, n = es.length := ⟨_, rfl⟩
      obtain ⟨ME, hME⟩ : ∃ M, M = es.flatMap Ed.cells := ⟨_, rfl⟩
      obtain ⟨nN, hnN⟩ : ∃ n, n = N.length := ⟨_, rfl⟩
      obtain ⟨M, hM⟩ : ∃ M, M = N.flatMap NdV.cells := ⟨_, rfl⟩
      rw [← hnE, ← hME, ← hnN, ← hM] at hp
      replace hnE := Lib.hid hnE; replace hME := Lib.hid hME; replace hnN := Lib.hid hnN; replace hM := Lib.hid hM
      obtain ⟨RC, hRC⟩ : ∃ r, r = if isM ws 1 [119, 104, 101, 114, 101] s1 then condsF ws (ws.length + 1) s1.adv [] else ([], s1) := ⟨_, rfl⟩
      have hR4 := hR3.out
      rw [← hRC] at hR4
      clear hR3
      replace hR4 := Lib.hid hR4; replace hRC := Lib.hid hRC
      have cm1 := fun W (hz : Pz ws b cap g s1 W) => key_any hz [119, 104, 101, 114, 101]
      have em1 : str [119, 104, 101, 114, 101] = (⟨#[119, 104, 101, 114, 101]⟩ : ByteArray) := rfl
      rw [em1] at cm1
      unfold nextM at cm1
      clear em1
      have hgw : isM ws 1 [119, 104, 101, 114, 101] s1 = true → s1.bad = false := is_good
      obtain ⟨mw, hmw⟩ : ∃ r, r = isM ws 1 [119, 104, 101, 114, 101] s1 := ⟨_, rfl⟩
      obtain ⟨sw, hsw⟩ : ∃ r, r = if mw = true then s1.adv else s1 := ⟨_, rfl⟩
      have hRC2 := hRC.out
      rw [← hmw] at hRC2 hgw
      rw [← hmw] at cm1
      rw [← hsw] at cm1
      clear hRC hmw
      replace cm1 := Lib.hid cm1; replace hRC2 := Lib.hid hRC2; replace hgw := Lib.hid hgw; replace hsw := Lib.hid hsw
      go_upto_if 53 with (go_at_call 55; (with_reducible refine (cm1.out _ (hzz.out _ _ s1 0 hp.out rfl l1.out)).mono ?_); rintro e ww ⟨rfl, hw, kw⟩; have lw := Lib.hid hw.lt; replace hp := Lib.hid (hp.out.call (i := 0) rfl (cs' := psC b cap ws.length sw) hw.box kw); clear hw kw)
      go_cut [6] from 53 to 70 (fun s6 wx => ∃ (cad : Option Addr) (ccp : Nat), RC.2.at_ < ws.length ∧ Hp w [g] (.box g (psC b cap ws.length RC.2) 68 :: .row 79 3 (.slice nad nN ncp) nN (M) :: .row 84 3 (.slice ead nE ecp) nE (ME) :: .row 88 6 (.slice cad RC.1.length ccp) RC.1.length (RC.1.flatMap Cd.cells) :: .row 94 2 (.slice none 0 0) 0 ([]) :: .box qq #[.slice nad nN ncp, .slice ead nE ecp, .slice cad RC.1.length ccp, .slice none 0 0, .int .i64 256] 27 :: .box qr #[.slice none 0 0, .slice none 0 0, .slice none 0 0, .slice none 0 0, .int .i64 0] 27 :: nrs) wx)
      case first =>
        cases mw with
        | false =>
          have e1 : RC = ([], s1) := hRC2.out
          have e2 : sw = s1 := hsw.out
          clear hRC2 hsw hgw
          subst e1 e2
          go_wp2
          go_meet
          exact ⟨_, _, lw.out, hp.out⟩
        | true =>
          have e2 : sw = s1.adv := hsw.out
          have hL := Lib.hid (show (sw.bad = false ∧ condsF ws (ws.length + 1) sw [] = RC) ∨ (sw.bad = true ∧ RC = ([], sw)) from Or.inl ⟨by rw [e2]; exact hgw.out rfl, by rw [e2]; exact hRC2.out.symm⟩)
          replace e2 := Lib.hid e2
          clear hRC2 hsw hgw
          go_wp2
          go_loopg [6] (ws.length + 1) (fun kk s6 wr => ∃ (c : Bool) (st' : St) (acc : List Cd) (ad : Option Addr) (cp : Nat), s6 = .bool c ∧ Hp w [g] (.box g (psC b cap ws.length st') 68 :: .row 79 3 (.slice nad nN ncp) nN (M) :: .row 84 3 (.slice ead nE ecp) nE (ME) :: .row 88 6 (.slice ad acc.length cp) acc.length (acc.flatMap Cd.cells) :: .row 94 2 (.slice none 0 0) 0 ([]) :: .box qq #[.slice nad nN ncp, .slice ead nE ecp, .slice ad acc.length cp, .slice none 0 0, .int .i64 256] 27 :: .box qr #[.slice none 0 0, .slice none 0 0, .slice none 0 0, .slice none 0 0, .int .i64 0] 27 :: nrs) wr ∧ st'.at_ < ws.length ∧ ((c = true ∧ st'.bad = false ∧ condsF ws kk st' acc = RC ∧ ws.length < st'.at_ + kk ∧ acc.length ≤ st'.at_) ∨ ((c = false ∨ st'.bad = true) ∧ RC = (acc, st'))))
          case atStart =>
            exact ⟨true, sw, [], none, 0, rfl, hp.out, lw.out, by
              rcases hL.out with ⟨h1, h2⟩ | ⟨h1, h2⟩
              · exact Or.inl ⟨rfl, h1, h2, by omega, Nat.zero_le _⟩
              · exact Or.inr ⟨Or.inr h1, h2⟩⟩
          case round =>
            clear hp hL
            obtain ⟨c, st', acc, ad, cp, rfl, hp, hl0, hcase⟩ := hrel
            have c2 : wr.cell? ⟨g, 2, none⟩ = some (.bool st'.bad) := (hp.cell (i := 0) rfl 2).trans rfl
            replace hl0 := Lib.hid hl0; replace hp := Lib.hid hp
            rcases hcase with ⟨rfl, hgd, hpf, hfu, hal⟩ | ⟨hcb, hRr⟩
            · obtain ⟨K, rfl⟩ : ∃ K : Nat, gk = K + 1 := ⟨gk - 1, by have := hl0.out; omega⟩
              rw [hgd] at c2
              rw [condsF] at hpf
              have hle := le_cond ws st'
              have cc0 := fun W (hz : Pz ws b cap g st' W) => cond_any hz
              obtain ⟨⟨cc, s4⟩, hcc⟩ : ∃ r, r = condM ws st' := ⟨_, rfl⟩
              rw [← hcc] at cc0 hpf hle
              unfold Cd.a at cc0
              simp only at cc0 hpf hle
              have ck := fun W (hz : Pz ws b cap g s4 W) => key_any hz [97, 110, 100]
              have ek : str [97, 110, 100] = (⟨#[97, 110, 100]⟩ : ByteArray) := rfl
              rw [ek] at ck
              have hgood : isM ws 1 [97, 110, 100] s4 = true → s4.bad = false := is_good
              have hnx : nextM ws 1 [97, 110, 100] s4 = if isM ws 1 [97, 110, 100] s4 then s4.adv else s4 := rfl
              obtain ⟨m5, hm5⟩ : ∃ r, r = isM ws 1 [97, 110, 100] s4 := ⟨_, rfl⟩
              obtain ⟨s5, hs5⟩ : ∃ r, r = nextM ws 1 [97, 110, 100] s4 := ⟨_, rfl⟩
              rw [← hm5] at ck hpf hgood hnx
              rw [← hs5] at ck hnx
              obtain ⟨acc2, hacc⟩ : ∃ a, a = acc ++ [cc] := ⟨_, rfl⟩
              rw [← hacc] at hpf
              have hal2 : acc2.length = acc.length + 1 := by rw [hacc]; simp
              have hcl : acc2.flatMap Cd.cells = acc.flatMap Cd.cells ++ [.string (str cc.var), .string (str cc.key), .int .i64 (cc.op : Int), .int .i64 (cc.val.k : Int), .int .i64 cc.val.n, .string (str cc.val.s)] := by rw [hacc, List.flatMap_append]; rfl
              have hnext : (m5 = true ∧ s5.bad = false ∧ condsF ws K s5 acc2 = RC ∧ ws.length < s5.at_ + K ∧ acc2.length ≤ s5.at_) ∨ ((m5 = false ∨ s5.bad = true) ∧ RC = (acc2, s5)) := by
                cases m5
                · rw [if_neg (by decide)] at hpf hnx
                  exact Or.inr ⟨Or.inl rfl, by rw [hnx]; exact hpf.symm⟩
                · rw [if_pos rfl] at hpf hnx
                  rw [hnx]
                  exact Or.inl ⟨rfl, hgood rfl, hpf, by show ws.length < s4.at_ + 1 + K; omega, by rw [hal2]; show acc.length + 1 ≤ s4.at_ + 1; omega⟩
              have hl9 := Lib.hid (show acc.length + 1 ≤ 100000000 by have := hl0.out; have := hwl.out; omega)
              obtain ⟨MA, hMA⟩ : ∃ M, M = acc.flatMap Cd.cells := ⟨_, rfl⟩
              rw [← hMA] at hp hcl
              obtain ⟨na, hna⟩ : ∃ n, n = acc.length := ⟨_, rfl⟩
              rw [← hna] at hp hal2 hl9
              clear hcc hm5 hs5 hgood hnx ek hMA hna hpf hle hfu hacc hal
              replace cc0 := Lib.hid cc0; replace ck := Lib.hid ck; replace hnext := Lib.hid hnext; replace hal2 := Lib.hid hal2; replace hcl := Lib.hid hcl; replace hgd := Lib.hid hgd
              have hon := Lib.hid (show ∀ u ∈ (#[.string (str cc.var), .string (str cc.key), .int .i64 (cc.op : Int), .int .i64 (cc.val.k : Int), .int .i64 cc.val.n, .string (str cc.val.s)] : Array Value).toList, u.oneCell' = true from fun u hu => by simp at hu; rcases hu with rfl | rfl | rfl | rfl | rfl | rfl <;> rfl)
              go_upto_region 15 with fail
              clear c2
              have m2 := hp.out.cell (i := 5) rfl 2
              simp at m2
              replace hp := Lib.hid hp.out.drew
              refine wp_region_noPanic ?_; refine wp_region_held_drew (S := (fun _ => True)) (by kernel_rfl) ?_ (fun hHeld => ?_); (focus ((try dsimp only); (first | done | trivial); done))
              (refine take_t (i := 0) (d := 64) (oi := _) (v := ?_) rfl rfl (by kernel_rfl) (by kernel_rfl) (by kernel_rfl) (by rfl) ?_ (by assumption) ?_; rotate_left; (focus (intro w0 hSw; (try dsimp only at hSw); go_simp; (try with_reducible rfl); done)); try simp only [Act.put, List.setIfInBounds_toArray, List.set_cons_zero, List.set_cons_succ]); (refine take_t (i := 2) (d := 66) (oi := _) (v := ?_) rfl rfl (by kernel_rfl) (by kernel_rfl) (by kernel_rfl) (by rfl) ?_ (by assumption) ?_; rotate_left; (focus (intro w0 hSw; (try dsimp only at hSw); go_simp; (try with_reducible rfl); done)); try simp only [Act.put, List.setIfInBounds_toArray, List.set_cons_zero, List.set_cons_succ])
              refine wpAnyH_ready (rs := [1, 3]) (by kernel_rfl) (by simp) ?_; refine AllReadyH.cons (o := _) rfl (fun K' hK => ?_) (AllReadyH.cons (o := _) rfl (fun K' hK => ?_) AllReadyH.nil)
              · go_simp; (skip); (try dsimp only); refine hK.out _ _ ?_ (fun hHeld2 => ?_); (focus ((try dsimp only); (first | done | trivial); done)); clear hK K'; clear hHeld; have hHeld := hHeld2; clear hHeld2; try simp only [Act.put, List.setIfInBounds_toArray, List.set_cons_zero, List.set_cons_succ]
                (refine wpAnyH_ready (rs := [3]) (by kernel_rfl) (by simp) ?_; refine AllReadyH.cons (o := _) rfl (fun K' hK => ?_) AllReadyH.nil; go_simp; (go_at_call 58; (with_reducible refine (cc0.out _ (hzz.out _ _ st' 0 hp.out rfl hl0.out)).mono ?_); rintro e w5 ⟨rfl, h5, k5⟩; have l5 := Lib.hid h5.lt; replace hp := Lib.hid (hp.out.call (i := 0) rfl (cs' := psC b cap ws.length s4) h5.box k5); clear h5 k5; have m2 := hp.out.cell (i := 5) rfl 2; simp at m2); (try dsimp only); refine hK.out _ _ ?_ (fun hHeld2 => ?_); (focus ((try dsimp only); (first | done | trivial); done)); clear hK K'; clear hHeld; have hHeld := hHeld2; clear hHeld2; try simp only [Act.put, List.setIfInBounds_toArray, List.set_cons_zero, List.set_cons_succ]); (refine wpAnyH_ready (rs := [4]) (by kernel_rfl) (by simp) ?_; refine AllReadyH.cons (o := _) rfl (fun K' hK => ?_) AllReadyH.nil; go_simp; (replace hp := Lib.hid (hp.out.alloc #[.string (str cc.var), .string (str cc.key), .int .i64 (cc.op : Int), .int .i64 (cc.val.k : Int), .int .i64 cc.val.n, .string (str cc.val.s)] 88); have m2 := hp.out.cell (i := 6) rfl 2; simp at m2); (try dsimp only); refine hK.out _ _ ?_ (fun hHeld2 => ?_); (focus ((try dsimp only); (first | done | trivial); done)); clear hK K'; clear hHeld; have hHeld := hHeld2; clear hHeld2; try simp only [Act.put, List.setIfInBounds_toArray, List.set_cons_zero, List.set_cons_succ]); (refine wpAnyH_ready (rs := [5]) (by kernel_rfl) (by simp) ?_; refine AllReadyH.cons (o := _) rfl (fun K' hK => ?_) AllReadyH.nil; (refine step_append_sl_hpk rfl _ _ rfl Tryd.underlying24 condInfo rfl (by decide) (by decide) hp.out 4 rfl rfl rfl (box_sl2 hp.out (i := 0) rfl) rfl hon.out hl9.out rfl rfl ?_; intro v6 w6 h6 hv6; obtain ⟨ad6, cp6, rfl⟩ := hv6; replace hp := Lib.hid h6; clear h6; have m6 := hp.out.cell (i := 6) rfl 2; have f6 := hp.out.free (i := 6) rfl 2; simp at m6); (try dsimp only); refine hK.out _ _ ?_ (fun hHeld2 => ?_); (focus ((try dsimp only); (first | done | trivial); done)); clear hK K'; clear hHeld; have hHeld := hHeld2; clear hHeld2; try simp only [Act.put, List.setIfInBounds_toArray, List.set_cons_zero, List.set_cons_succ]); (refine take_t (i := 6) (d := 70) (oi := _) (v := ?_) rfl rfl (by kernel_rfl) (by kernel_rfl) (by kernel_rfl) (by rfl) ?_ (by assumption) ?_; rotate_left; (focus (intro w0 hSw; (try dsimp only at hSw); go_simp; (try with_reducible rfl); done)); try simp only [Act.put, List.setIfInBounds_toArray, List.set_cons_zero, List.set_cons_succ]); (refine wpAnyH_ready (rs := [7]) (by kernel_rfl) (by simp) ?_; refine AllReadyH.cons (o := _) rfl (fun K' hK => ?_) AllReadyH.nil; go_simp; (replace hp := Lib.hid (hp.out.put (i := 6) rfl 2 (.slice ad6 (na + 1) cp6))); (try dsimp only); refine hK.out _ _ ?_ (fun hHeld2 => ?_); (focus ((try dsimp only); (first | done | trivial); done)); clear hK K'; clear hHeld; have hHeld := hHeld2; clear hHeld2; try simp only [Act.put, List.setIfInBounds_toArray, List.set_cons_zero, List.set_cons_succ])
                refine wpAnyH_done (by kernel_rfl) ?_ _; refine NoPanic.normal ?_
                replace hp := Lib.hid (hp.out.drop 0)
                go_wp2_with (go_at_call 55; (with_reducible refine (ck.out _ (hzz.out _ _ s4 0 hp.out rfl l5.out)).mono ?_); rintro e w7 ⟨rfl, h7, k7⟩; have l7 := Lib.hid h7.lt; replace hp := Lib.hid (hp.out.call (i := 0) rfl (cs' := psC b cap ws.length s5) h7.box k7); clear h7 k7)
                go_roundg K
                case measure => omega
                case rel => exact ⟨m5, s5, acc2, _, _, rfl, by rw [hal2.out, hcl.out]; exact hp.out, l7.out, hnext.out⟩
              · go_simp; (go_at_call 58; (with_reducible refine (cc0.out _ (hzz.out _ _ st' 0 hp.out rfl hl0.out)).mono ?_); rintro e w5 ⟨rfl, h5, k5⟩; have l5 := Lib.hid h5.lt; replace hp := Lib.hid (hp.out.call (i := 0) rfl (cs' := psC b cap ws.length s4) h5.box k5); clear h5 k5; have m2 := hp.out.cell (i := 5) rfl 2; simp at m2); (try dsimp only); refine hK.out _ _ ?_ (fun hHeld2 => ?_); (focus ((try dsimp only); (first | done | trivial); done)); clear hK K'; clear hHeld; have hHeld := hHeld2; clear hHeld2; try simp only [Act.put, List.setIfInBounds_toArray, List.set_cons_zero, List.set_cons_succ]
                refine wpAnyH_ready (rs := [1, 4]) (by kernel_rfl) (by simp) ?_; refine AllReadyH.cons (o := _) rfl (fun K' hK => ?_) (AllReadyH.cons (o := _) rfl (fun K' hK => ?_) AllReadyH.nil)
                · go_simp; (skip); (try dsimp only); refine hK.out _ _ ?_ (fun hHeld2 => ?_); (focus ((try dsimp only); (first | done | trivial); done)); clear hK K'; clear hHeld; have hHeld := hHeld2; clear hHeld2; try simp only [Act.put, List.setIfInBounds_toArray, List.set_cons_zero, List.set_cons_succ]
                  (refine wpAnyH_ready (rs := [4]) (by kernel_rfl) (by simp) ?_; refine AllReadyH.cons (o := _) rfl (fun K' hK => ?_) AllReadyH.nil; go_simp; (replace hp := Lib.hid (hp.out.alloc #[.string (str cc.var), .string (str cc.key), .int .i64 (cc.op : Int), .int .i64 (cc.val.k : Int), .int .i64 cc.val.n, .string (str cc.val.s)] 88); have m2 := hp.out.cell (i := 6) rfl 2; simp at m2); (try dsimp only); refine hK.out _ _ ?_ (fun hHeld2 => ?_); (focus ((try dsimp only); (first | done | trivial); done)); clear hK K'; clear hHeld; have hHeld := hHeld2; clear hHeld2; try simp only [Act.put, List.setIfInBounds_toArray, List.set_cons_zero, List.set_cons_succ]); (refine wpAnyH_ready (rs := [5]) (by kernel_rfl) (by simp) ?_; refine AllReadyH.cons (o := _) rfl (fun K' hK => ?_) AllReadyH.nil; (refine step_append_sl_hpk rfl _ _ rfl Tryd.underlying24 condInfo rfl (by decide) (by decide) hp.out 4 rfl rfl rfl (box_sl2 hp.out (i := 0) rfl) rfl hon.out hl9.out rfl rfl ?_; intro v6 w6 h6 hv6; obtain ⟨ad6, cp6, rfl⟩ := hv6; replace hp := Lib.hid h6; clear h6; have m6 := hp.out.cell (i := 6) rfl 2; have f6 := hp.out.free (i := 6) rfl 2; simp at m6); (try dsimp only); refine hK.out _ _ ?_ (fun hHeld2 => ?_); (focus ((try dsimp only); (first | done | trivial); done)); clear hK K'; clear hHeld; have hHeld := hHeld2; clear hHeld2; try simp only [Act.put, List.setIfInBounds_toArray, List.set_cons_zero, List.set_cons_succ]); (refine take_t (i := 6) (d := 70) (oi := _) (v := ?_) rfl rfl (by kernel_rfl) (by kernel_rfl) (by kernel_rfl) (by rfl) ?_ (by assumption) ?_; rotate_left; (focus (intro w0 hSw; (try dsimp only at hSw); go_simp; (try with_reducible rfl); done)); try simp only [Act.put, List.setIfInBounds_toArray, List.set_cons_zero, List.set_cons_succ]); (refine wpAnyH_ready (rs := [7]) (by kernel_rfl) (by simp) ?_; refine AllReadyH.cons (o := _) rfl (fun K' hK => ?_) AllReadyH.nil; go_simp; (replace hp := Lib.hid (hp.out.put (i := 6) rfl 2 (.slice ad6 (na + 1) cp6))); (try dsimp only); refine hK.out _ _ ?_ (fun hHeld2 => ?_); (focus ((try dsimp only); (first | done | trivial); done)); clear hK K'; clear hHeld; have hHeld := hHeld2; clear hHeld2; try simp only [Act.put, List.setIfInBounds_toArray, List.set_cons_zero, List.set_cons_succ])
                  refine wpAnyH_done (by kernel_rfl) ?_ _; refine NoPanic.normal ?_
                  replace hp := Lib.hid (hp.out.drop 0)
                  go_wp2_with (go_at_call 55; (with_reducible refine (ck.out _ (hzz.out _ _ s4 0 hp.out rfl l5.out)).mono ?_); rintro e w7 ⟨rfl, h7, k7⟩; have l7 := Lib.hid h7.lt; replace hp := Lib.hid (hp.out.call (i := 0) rfl (cs' := psC b cap ws.length s5) h7.box k7); clear h7 k7)
                  go_roundg K
                  case measure => omega
                  case rel => exact ⟨m5, s5, acc2, _, _, rfl, by rw [hal2.out, hcl.out]; exact hp.out, l7.out, hnext.out⟩
                · go_simp; (replace hp := Lib.hid (hp.out.alloc #[.string (str cc.var), .string (str cc.key), .int .i64 (cc.op : Int), .int .i64 (cc.val.k : Int), .int .i64 cc.val.n, .string (str cc.val.s)] 88); have m2 := hp.out.cell (i := 6) rfl 2; simp at m2); (try dsimp only); refine hK.out _ _ ?_ (fun hHeld2 => ?_); (focus ((try dsimp only); (first | done | trivial); done)); clear hK K'; clear hHeld; have hHeld := hHeld2; clear hHeld2; try simp only [Act.put, List.setIfInBounds_toArray, List.set_cons_zero, List.set_cons_succ]
                  (refine wpAnyH_ready (rs := [1]) (by kernel_rfl) (by simp) ?_; refine AllReadyH.cons (o := _) rfl (fun K' hK => ?_) AllReadyH.nil; go_simp; (skip); (try dsimp only); refine hK.out _ _ ?_ (fun hHeld2 => ?_); (focus ((try dsimp only); (first | done | trivial); done)); clear hK K'; clear hHeld; have hHeld := hHeld2; clear hHeld2; try simp only [Act.put, List.setIfInBounds_toArray, List.set_cons_zero, List.set_cons_succ]); (refine wpAnyH_ready (rs := [5]) (by kernel_rfl) (by simp) ?_; refine AllReadyH.cons (o := _) rfl (fun K' hK => ?_) AllReadyH.nil; (refine step_append_sl_hpk rfl _ _ rfl Tryd.underlying24 condInfo rfl (by decide) (by decide) hp.out 4 rfl rfl rfl (box_sl2 hp.out (i := 0) rfl) rfl hon.out hl9.out rfl rfl ?_; intro v6 w6 h6 hv6; obtain ⟨ad6, cp6, rfl⟩ := hv6; replace hp := Lib.hid h6; clear h6; have m6 := hp.out.cell (i := 6) rfl 2; have f6 := hp.out.free (i := 6) rfl 2; simp at m6); (try dsimp only); refine hK.out _ _ ?_ (fun hHeld2 => ?_); (focus ((try dsimp only); (first | done | trivial); done)); clear hK K'; clear hHeld; have hHeld := hHeld2; clear hHeld2; try simp only [Act.put, List.setIfInBounds_toArray, List.set_cons_zero, List.set_cons_succ]); (refine take_t (i := 6) (d := 70) (oi := _) (v := ?_) rfl rfl (by kernel_rfl) (by kernel_rfl) (by kernel_rfl) (by rfl) ?_ (by assumption) ?_; rotate_left; (focus (intro w0 hSw; (try dsimp only at hSw); go_simp; (try with_reducible rfl); done)); try simp only [Act.put, List.setIfInBounds_toArray, List.set_cons_zero, List.set_cons_succ]); (refine wpAnyH_ready (rs := [7]) (by kernel_rfl) (by simp) ?_; refine AllReadyH.cons (o := _) rfl (fun K' hK => ?_) AllReadyH.nil; go_simp; (replace hp := Lib.hid (hp.out.put (i := 6) rfl 2 (.slice ad6 (na + 1) cp6))); (try dsimp only); refine hK.out _ _ ?_ (fun hHeld2 => ?_); (focus ((try dsimp only); (first | done | trivial); done)); clear hK K'; clear hHeld; have hHeld := hHeld2; clear hHeld2; try simp only [Act.put, List.setIfInBounds_toArray, List.set_cons_zero, List.set_cons_succ])
                  refine wpAnyH_done (by kernel_rfl) ?_ _; refine NoPanic.normal ?_
                  replace hp := Lib.hid (hp.out.drop 0)
                  go_wp2_with (go_at_call 55; (with_reducible refine (ck.out _ (hzz.out _ _ s4 0 hp.out rfl l5.out)).mono ?_); rintro e w7 ⟨rfl, h7, k7⟩; have l7 := Lib.hid h7.lt; replace hp := Lib.hid (hp.out.call (i := 0) rfl (cs' := psC b cap ws.length s5) h7.box k7); clear h7 k7)
                  go_roundg K
                  case measure => omega
                  case rel => exact ⟨m5, s5, acc2, _, _, rfl, by rw [hal2.out, hcl.out]; exact hp.out, l7.out, hnext.out⟩
            · have hcd : (c = false) ∨ (c = true ∧ st'.bad = true) := by
                cases c
                · exact Or.inl rfl
                · exact Or.inr ⟨rfl, hcb.resolve_left (by decide)⟩
              clear hcb
              replace hRr := Lib.hid hRr
              rcases hcd with rfl | ⟨rfl, hbd⟩
              · clear c2
                go_wp2
                go_meet
                have hf := hRr.out
                subst hf
                exact ⟨_, _, hl0.out, hp.out⟩
              · rw [hbd] at c2
                replace hbd := Lib.hid hbd
                go_wp2
                go_meet
                have hf := hRr.out
                subst hf
                exact ⟨_, _, hl0.out, hp.out⟩
      case rest =>
        clear hp hRC2 hsw hgw cm1 lw
        obtain ⟨cad, ccp, l2, hp⟩ := hcut
        obtain ⟨cs, s2⟩ := RC
        simp only at l2 hp
        have hR5 := hR4.out
        simp only at hR5
        clear hR4
        replace hp := Lib.hid hp; replace l2 := Lib.hid l2
        obtain ⟨nC, hnC⟩ : ∃ n, n = cs.length := ⟨_, rfl⟩
        obtain ⟨MC, hMC⟩ : ∃ M, M = cs.flatMap Cd.cells := ⟨_, rfl⟩
        have hpx := hp.out
        rw [← hnC, ← hMC] at hpx
        replace hp := Lib.hid hpx
        clear hpx
        replace hnC := Lib.hid hnC; replace hMC := Lib.hid hMC
        have cm2 := fun W (hz : Pz ws b cap g s2 W) => key_any hz [116, 101, 108, 108]
        have em2 : str [116, 101, 108, 108] = (⟨#[116, 101, 108, 108]⟩ : ByteArray) := rfl
        rw [em2] at cm2
        have cu2 := fun W (hz : Pz ws b cap g (nextM ws 1 [116, 101, 108, 108] s2) W) => must_any hz (isM ws 1 [116, 101, 108, 108] s2)
        have hd2 : needM ws 1 [116, 101, 108, 108] s2 = mustM (isM ws 1 [116, 101, 108, 108] s2) (nextM ws 1 [116, 101, 108, 108] s2) := rfl
        obtain ⟨m2, hm2⟩ : ∃ r, r = isM ws 1 [116, 101, 108, 108] s2 := ⟨_, rfl⟩
        obtain ⟨x2, hx2⟩ : ∃ r, r = nextM ws 1 [116, 101, 108, 108] s2 := ⟨_, rfl⟩
        rw [← hm2, ← hx2] at cm2 cu2 hd2
        obtain ⟨y2, hy2⟩ : ∃ r, r = mustM m2 x2 := ⟨_, rfl⟩
        rw [← hy2] at cu2 hd2
        rw [hd2] at hR5
        clear hm2 hx2 hy2 hd2 em2
        replace cm2 := Lib.hid cm2; replace cu2 := Lib.hid cu2
        obtain ⟨RI, hRI⟩ : ∃ r, r = if y2.bad then ([], y2) else itemsF ws (ws.length + 1) y2 [] := ⟨_, rfl⟩
        rw [← hRI] at hR5
        replace hR5 := Lib.hid hR5
        have hL := Lib.hid (show (y2.bad = false ∧ itemsF ws (ws.length + 1) y2 [] = RI) ∨ (y2.bad = true ∧ RI = ([], y2)) by
          cases hb : y2.bad
          · exact Or.inl ⟨rfl, by rw [hRI, hb]; rfl⟩
          · exact Or.inr ⟨rfl, by rw [hRI, hb]; rfl⟩)
        clear hRI
        go_upto_block 4 with (first
          | (go_at_call 55; (with_reducible refine (cm2.out _ (hzz.out _ _ s2 0 hp.out rfl l2.out)).mono ?_); rintro e wa2 ⟨rfl, ha2, ka2⟩; have la2 := Lib.hid ha2.lt; replace hp := Lib.hid (hp.out.call (i := 0) rfl (cs' := psC b cap ws.length x2) ha2.box ka2); clear ha2 ka2)
          | (go_at_call 54; (with_reducible refine (cu2.out _ (hzz.out _ _ x2 0 hp.out rfl la2.out)).mono ?_); rintro e wb2 ⟨rfl, hb2, kb2⟩; have lb2 := Lib.hid hb2.lt; replace hp := Lib.hid (hp.out.call (i := 0) rfl (cs' := psC b cap ws.length y2) hb2.box kb2); clear hb2 kb2))
        go_cut [7] from 75 to 91 (fun s7 wx => ∃ (iad : Option Addr) (icp : Nat), RI.2.at_ < ws.length ∧ Hp w [g] (.box g (psC b cap ws.length RI.2) 68 :: .row 79 3 (.slice nad nN ncp) nN (M) :: .row 84 3 (.slice ead nE ecp) nE (ME) :: .row 88 6 (.slice cad nC ccp) nC (MC) :: .row 94 2 (.slice iad RI.1.length icp) RI.1.length (RI.1.flatMap It.cells) :: .box qq #[.slice nad nN ncp, .slice ead nE ecp, .slice cad nC ccp, .slice iad RI.1.length icp, .int .i64 256] 27 :: .box qr #[.slice none 0 0, .slice none 0 0, .slice none 0 0, .slice none 0 0, .int .i64 0] 27 :: nrs) wx)
        case first =>
          go_wp2
          go_loopg [7] (ws.length + 1) (fun kk s7 wr => ∃ (c : Bool) (st' : St) (acc : List It) (ad : Option Addr) (cp : Nat), s7 = .bool c ∧ Hp w [g] (.box g (psC b cap ws.length st') 68 :: .row 79 3 (.slice nad nN ncp) nN (M) :: .row 84 3 (.slice ead nE ecp) nE (ME) :: .row 88 6 (.slice cad nC ccp) nC (MC) :: .row 94 2 (.slice ad acc.length cp) acc.length (acc.flatMap It.cells) :: .box qq #[.slice nad nN ncp, .slice ead nE ecp, .slice cad nC ccp, .slice ad acc.length cp, .int .i64 256] 27 :: .box qr #[.slice none 0 0, .slice none 0 0, .slice none 0 0, .slice none 0 0, .int .i64 0] 27 :: nrs) wr ∧ st'.at_ < ws.length ∧ ((c = true ∧ st'.bad = false ∧ itemsF ws kk st' acc = RI ∧ ws.length < st'.at_ + kk ∧ acc.length ≤ st'.at_) ∨ ((c = false ∨ st'.bad = true) ∧ RI = (acc, st'))))
          case atStart =>
            exact ⟨true, y2, [], none, 0, rfl, hp.out, lb2.out, by
              rcases hL.out with ⟨h1, h2⟩ | ⟨h1, h2⟩
              · exact Or.inl ⟨rfl, h1, h2, by omega, Nat.zero_le _⟩
              · exact Or.inr ⟨Or.inr h1, h2⟩⟩
          case round =>
            clear hp hL
            obtain ⟨c, st', acc, ad, cp, rfl, hp, hl0, hcase⟩ := hrel
            have c2 : wr.cell? ⟨g, 2, none⟩ = some (.bool st'.bad) := (hp.cell (i := 0) rfl 2).trans rfl
            replace hl0 := Lib.hid hl0; replace hp := Lib.hid hp
            rcases hcase with ⟨rfl, hgd, hpf, hfu, hal⟩ | ⟨hcb, hRr⟩
            · obtain ⟨K, rfl⟩ : ∃ K : Nat, gk = K + 1 := ⟨gk - 1, by have := hl0.out; omega⟩
              rw [hgd] at c2
              rw [itemsF] at hpf
              have hle := le_item ws st'
              have cc0 := fun W (hz : Pz ws b cap g st' W) => item_any hz
              obtain ⟨⟨cc, s4⟩, hcc⟩ : ∃ r, r = itemM ws st' := ⟨_, rfl⟩
              rw [← hcc] at cc0 hpf hle
              unfold It.a at cc0
              simp only at cc0 hpf hle
              have ck := fun W (hz : Pz ws b cap g s4 W) => mark_any hz [44]
              have ek : str [44] = (⟨#[44]⟩ : ByteArray) := rfl
              rw [ek] at ck
              have hgood : isM ws 4 [44] s4 = true → s4.bad = false := is_good
              have hnx : nextM ws 4 [44] s4 = if isM ws 4 [44] s4 then s4.adv else s4 := rfl
              obtain ⟨m5, hm5⟩ : ∃ r, r = isM ws 4 [44] s4 := ⟨_, rfl⟩
              obtain ⟨s5, hs5⟩ : ∃ r, r = nextM ws 4 [44] s4 := ⟨_, rfl⟩
              rw [← hm5] at ck hpf hgood hnx
              rw [← hs5] at ck hnx
              obtain ⟨acc2, hacc⟩ : ∃ a, a = acc ++ [cc] := ⟨_, rfl⟩
              rw [← hacc] at hpf
              have hal2 : acc2.length = acc.length + 1 := by rw [hacc]; simp
              have hcl : acc2.flatMap It.cells = acc.flatMap It.cells ++ [.string (str cc.var), .string (str cc.key)] := by rw [hacc, List.flatMap_append]; rfl
              have hnext : (m5 = true ∧ s5.bad = false ∧ itemsF ws K s5 acc2 = RI ∧ ws.length < s5.at_ + K ∧ acc2.length ≤ s5.at_) ∨ ((m5 = false ∨ s5.bad = true) ∧ RI = (acc2, s5)) := by
                cases m5
                · rw [if_neg (by decide)] at hpf hnx
                  exact Or.inr ⟨Or.inl rfl, by rw [hnx]; exact hpf.symm⟩
                · rw [if_pos rfl] at hpf hnx
                  rw [hnx]
                  exact Or.inl ⟨rfl, hgood rfl, hpf, by show ws.length < s4.at_ + 1 + K; omega, by rw [hal2]; show acc.length + 1 ≤ s4.at_ + 1; omega⟩
              have hl9 := Lib.hid (show acc.length + 1 ≤ 100000000 by have := hl0.out; have := hwl.out; omega)
              obtain ⟨MA, hMA⟩ : ∃ M, M = acc.flatMap It.cells := ⟨_, rfl⟩
              rw [← hMA] at hp hcl
              obtain ⟨na, hna⟩ : ∃ n, n = acc.length := ⟨_, rfl⟩
              rw [← hna] at hp hal2 hl9
              clear hcc hm5 hs5 hgood hnx ek hMA hna hpf hle hfu hacc hal
              replace cc0 := Lib.hid cc0; replace ck := Lib.hid ck; replace hnext := Lib.hid hnext; replace hal2 := Lib.hid hal2; replace hcl := Lib.hid hcl; replace hgd := Lib.hid hgd
              have hon := Lib.hid (show ∀ u ∈ (#[.string (str cc.var), .string (str cc.key)] : Array Value).toList, u.oneCell' = true from fun u hu => by simp at hu; rcases hu with rfl | rfl <;> rfl)
              go_upto_region 20 with fail
              clear c2
              have m2 := hp.out.cell (i := 5) rfl 3
              simp at m2
              replace hp := Lib.hid hp.out.drew
              refine wp_region_noPanic ?_; refine wp_region_held_drew (S := (fun _ => True)) (by kernel_rfl) ?_ (fun hHeld => ?_); (focus ((try dsimp only); (first | done | trivial); done))
              (refine take_t (i := 0) (d := 85) (oi := _) (v := ?_) rfl rfl (by kernel_rfl) (by kernel_rfl) (by kernel_rfl) (by rfl) ?_ (by assumption) ?_; rotate_left; (focus (intro w0 hSw; (try dsimp only at hSw); go_simp; (try with_reducible rfl); done)); try simp only [Act.put, List.setIfInBounds_toArray, List.set_cons_zero, List.set_cons_succ]); (refine take_t (i := 2) (d := 87) (oi := _) (v := ?_) rfl rfl (by kernel_rfl) (by kernel_rfl) (by kernel_rfl) (by rfl) ?_ (by assumption) ?_; rotate_left; (focus (intro w0 hSw; (try dsimp only at hSw); go_simp; (try with_reducible rfl); done)); try simp only [Act.put, List.setIfInBounds_toArray, List.set_cons_zero, List.set_cons_succ])
              refine wpAnyH_ready (rs := [1, 3]) (by kernel_rfl) (by simp) ?_; refine AllReadyH.cons (o := _) rfl (fun K' hK => ?_) (AllReadyH.cons (o := _) rfl (fun K' hK => ?_) AllReadyH.nil)
              · go_simp; (skip); (try dsimp only); refine hK.out _ _ ?_ (fun hHeld2 => ?_); (focus ((try dsimp only); (first | done | trivial); done)); clear hK K'; clear hHeld; have hHeld := hHeld2; clear hHeld2; try simp only [Act.put, List.setIfInBounds_toArray, List.set_cons_zero, List.set_cons_succ]
                (refine wpAnyH_ready (rs := [3]) (by kernel_rfl) (by simp) ?_; refine AllReadyH.cons (o := _) rfl (fun K' hK => ?_) AllReadyH.nil; go_simp; (go_at_call 60; (with_reducible refine (cc0.out _ (hzz.out _ _ st' 0 hp.out rfl hl0.out)).mono ?_); rintro e w5 ⟨rfl, h5, k5⟩; have l5 := Lib.hid h5.lt; replace hp := Lib.hid (hp.out.call (i := 0) rfl (cs' := psC b cap ws.length s4) h5.box k5); clear h5 k5; have m2 := hp.out.cell (i := 5) rfl 3; simp at m2); (try dsimp only); refine hK.out _ _ ?_ (fun hHeld2 => ?_); (focus ((try dsimp only); (first | done | trivial); done)); clear hK K'; clear hHeld; have hHeld := hHeld2; clear hHeld2; try simp only [Act.put, List.setIfInBounds_toArray, List.set_cons_zero, List.set_cons_succ]); (refine wpAnyH_ready (rs := [4]) (by kernel_rfl) (by simp) ?_; refine AllReadyH.cons (o := _) rfl (fun K' hK => ?_) AllReadyH.nil; go_simp; (replace hp := Lib.hid (hp.out.alloc #[.string (str cc.var), .string (str cc.key)] 94); have m2 := hp.out.cell (i := 6) rfl 3; simp at m2); (try dsimp only); refine hK.out _ _ ?_ (fun hHeld2 => ?_); (focus ((try dsimp only); (first | done | trivial); done)); clear hK K'; clear hHeld; have hHeld := hHeld2; clear hHeld2; try simp only [Act.put, List.setIfInBounds_toArray, List.set_cons_zero, List.set_cons_succ]); (refine wpAnyH_ready (rs := [5]) (by kernel_rfl) (by simp) ?_; refine AllReadyH.cons (o := _) rfl (fun K' hK => ?_) AllReadyH.nil; (refine step_append_sl_hpk rfl _ _ rfl Tryd.underlying25 itemInfo rfl (by decide) (by decide) hp.out 5 rfl rfl rfl (box_sl2 hp.out (i := 0) rfl) rfl hon.out hl9.out rfl rfl ?_; intro v6 w6 h6 hv6; obtain ⟨ad6, cp6, rfl⟩ := hv6; replace hp := Lib.hid h6; clear h6; have m6 := hp.out.cell (i := 6) rfl 3; have f6 := hp.out.free (i := 6) rfl 3; simp at m6); (try dsimp only); refine hK.out _ _ ?_ (fun hHeld2 => ?_); (focus ((try dsimp only); (first | done | trivial); done)); clear hK K'; clear hHeld; have hHeld := hHeld2; clear hHeld2; try simp only [Act.put, List.setIfInBounds_toArray, List.set_cons_zero, List.set_cons_succ]); (refine take_t (i := 6) (d := 91) (oi := _) (v := ?_) rfl rfl (by kernel_rfl) (by kernel_rfl) (by kernel_rfl) (by rfl) ?_ (by assumption) ?_; rotate_left; (focus (intro w0 hSw; (try dsimp only at hSw); go_simp; (try with_reducible rfl); done)); try simp only [Act.put, List.setIfInBounds_toArray, List.set_cons_zero, List.set_cons_succ]); (refine wpAnyH_ready (rs := [7]) (by kernel_rfl) (by simp) ?_; refine AllReadyH.cons (o := _) rfl (fun K' hK => ?_) AllReadyH.nil; go_simp; (replace hp := Lib.hid (hp.out.put (i := 6) rfl 3 (.slice ad6 (na + 1) cp6))); (try dsimp only); refine hK.out _ _ ?_ (fun hHeld2 => ?_); (focus ((try dsimp only); (first | done | trivial); done)); clear hK K'; clear hHeld; have hHeld := hHeld2; clear hHeld2; try simp only [Act.put, List.setIfInBounds_toArray, List.set_cons_zero, List.set_cons_succ])
                refine wpAnyH_done (by kernel_rfl) ?_ _; refine NoPanic.normal ?_
                replace hp := Lib.hid (hp.out.drop 0)
                go_wp2_with (go_at_call 59; (with_reducible refine (ck.out _ (hzz.out _ _ s4 0 hp.out rfl l5.out)).mono ?_); rintro e w7 ⟨rfl, h7, k7⟩; have l7 := Lib.hid h7.lt; replace hp := Lib.hid (hp.out.call (i := 0) rfl (cs' := psC b cap ws.length s5) h7.box k7); clear h7 k7)
                go_roundg K
                case measure => omega
                case rel => exact ⟨m5, s5, acc2, _, _, rfl, by rw [hal2.out, hcl.out]; exact hp.out, l7.out, hnext.out⟩
              · go_simp; (go_at_call 60; (with_reducible refine (cc0.out _ (hzz.out _ _ st' 0 hp.out rfl hl0.out)).mono ?_); rintro e w5 ⟨rfl, h5, k5⟩; have l5 := Lib.hid h5.lt; replace hp := Lib.hid (hp.out.call (i := 0) rfl (cs' := psC b cap ws.length s4) h5.box k5); clear h5 k5; have m2 := hp.out.cell (i := 5) rfl 3; simp at m2); (try dsimp only); refine hK.out _ _ ?_ (fun hHeld2 => ?_); (focus ((try dsimp only); (first | done | trivial); done)); clear hK K'; clear hHeld; have hHeld := hHeld2; clear hHeld2; try simp only [Act.put, List.setIfInBounds_toArray, List.set_cons_zero, List.set_cons_succ]
                refine wpAnyH_ready (rs := [1, 4]) (by kernel_rfl) (by simp) ?_; refine AllReadyH.cons (o := _) rfl (fun K' hK => ?_) (AllReadyH.cons (o := _) rfl (fun K' hK => ?_) AllReadyH.nil)
                · go_simp; (skip); (try dsimp only); refine hK.out _ _ ?_ (fun hHeld2 => ?_); (focus ((try dsimp only); (first | done | trivial); done)); clear hK K'; clear hHeld; have hHeld := hHeld2; clear hHeld2; try simp only [Act.put, List.setIfInBounds_toArray, List.set_cons_zero, List.set_cons_succ]
                  (refine wpAnyH_ready (rs := [4]) (by kernel_rfl) (by simp) ?_; refine AllReadyH.cons (o := _) rfl (fun K' hK => ?_) AllReadyH.nil; go_simp; (replace hp := Lib.hid (hp.out.alloc #[.string (str cc.var), .string (str cc.key)] 94); have m2 := hp.out.cell (i := 6) rfl 3; simp at m2); (try dsimp only); refine hK.out _ _ ?_ (fun hHeld2 => ?_); (focus ((try dsimp only); (first | done | trivial); done)); clear hK K'; clear hHeld; have hHeld := hHeld2; clear hHeld2; try simp only [Act.put, List.setIfInBounds_toArray, List.set_cons_zero, List.set_cons_succ]); (refine wpAnyH_ready (rs := [5]) (by kernel_rfl) (by simp) ?_; refine AllReadyH.cons (o := _) rfl (fun K' hK => ?_) AllReadyH.nil; (refine step_append_sl_hpk rfl _ _ rfl Tryd.underlying25 itemInfo rfl (by decide) (by decide) hp.out 5 rfl rfl rfl (box_sl2 hp.out (i := 0) rfl) rfl hon.out hl9.out rfl rfl ?_; intro v6 w6 h6 hv6; obtain ⟨ad6, cp6, rfl⟩ := hv6; replace hp := Lib.hid h6; clear h6; have m6 := hp.out.cell (i := 6) rfl 3; have f6 := hp.out.free (i := 6) rfl 3; simp at m6); (try dsimp only); refine hK.out _ _ ?_ (fun hHeld2 => ?_); (focus ((try dsimp only); (first | done | trivial); done)); clear hK K'; clear hHeld; have hHeld := hHeld2; clear hHeld2; try simp only [Act.put, List.setIfInBounds_toArray, List.set_cons_zero, List.set_cons_succ]); (refine take_t (i := 6) (d := 91) (oi := _) (v := ?_) rfl rfl (by kernel_rfl) (by kernel_rfl) (by kernel_rfl) (by rfl) ?_ (by assumption) ?_; rotate_left; (focus (intro w0 hSw; (try dsimp only at hSw); go_simp; (try with_reducible rfl); done)); try simp only [Act.put, List.setIfInBounds_toArray, List.set_cons_zero, List.set_cons_succ]); (refine wpAnyH_ready (rs := [7]) (by kernel_rfl) (by simp) ?_; refine AllReadyH.cons (o := _) rfl (fun K' hK => ?_) AllReadyH.nil; go_simp; (replace hp := Lib.hid (hp.out.put (i := 6) rfl 3 (.slice ad6 (na + 1) cp6))); (try dsimp only); refine hK.out _ _ ?_ (fun hHeld2 => ?_); (focus ((try dsimp only); (first | done | trivial); done)); clear hK K'; clear hHeld; have hHeld := hHeld2; clear hHeld2; try simp only [Act.put, List.setIfInBounds_toArray, List.set_cons_zero, List.set_cons_succ])
                  refine wpAnyH_done (by kernel_rfl) ?_ _; refine NoPanic.normal ?_
                  replace hp := Lib.hid (hp.out.drop 0)
                  go_wp2_with (go_at_call 59; (with_reducible refine (ck.out _ (hzz.out _ _ s4 0 hp.out rfl l5.out)).mono ?_); rintro e w7 ⟨rfl, h7, k7⟩; have l7 := Lib.hid h7.lt; replace hp := Lib.hid (hp.out.call (i := 0) rfl (cs' := psC b cap ws.length s5) h7.box k7); clear h7 k7)
                  go_roundg K
                  case measure => omega
                  case rel => exact ⟨m5, s5, acc2, _, _, rfl, by rw [hal2.out, hcl.out]; exact hp.out, l7.out, hnext.out⟩
                · go_simp; (replace hp := Lib.hid (hp.out.alloc #[.string (str cc.var), .string (str cc.key)] 94); have m2 := hp.out.cell (i := 6) rfl 3; simp at m2); (try dsimp only); refine hK.out _ _ ?_ (fun hHeld2 => ?_); (focus ((try dsimp only); (first | done | trivial); done)); clear hK K'; clear hHeld; have hHeld := hHeld2; clear hHeld2; try simp only [Act.put, List.setIfInBounds_toArray, List.set_cons_zero, List.set_cons_succ]
                  (refine wpAnyH_ready (rs := [1]) (by kernel_rfl) (by simp) ?_; refine AllReadyH.cons (o := _) rfl (fun K' hK => ?_) AllReadyH.nil; go_simp; (skip); (try dsimp only); refine hK.out _ _ ?_ (fun hHeld2 => ?_); (focus ((try dsimp only); (first | done | trivial); done)); clear hK K'; clear hHeld; have hHeld := hHeld2; clear hHeld2; try simp only [Act.put, List.setIfInBounds_toArray, List.set_cons_zero, List.set_cons_succ]); (refine wpAnyH_ready (rs := [5]) (by kernel_rfl) (by simp) ?_; refine AllReadyH.cons (o := _) rfl (fun K' hK => ?_) AllReadyH.nil; (refine step_append_sl_hpk rfl _ _ rfl Tryd.underlying25 itemInfo rfl (by decide) (by decide) hp.out 5 rfl rfl rfl (box_sl2 hp.out (i := 0) rfl) rfl hon.out hl9.out rfl rfl ?_; intro v6 w6 h6 hv6; obtain ⟨ad6, cp6, rfl⟩ := hv6; replace hp := Lib.hid h6; clear h6; have m6 := hp.out.cell (i := 6) rfl 3; have f6 := hp.out.free (i := 6) rfl 3; simp at m6); (try dsimp only); refine hK.out _ _ ?_ (fun hHeld2 => ?_); (focus ((try dsimp only); (first | done | trivial); done)); clear hK K'; clear hHeld; have hHeld := hHeld2; clear hHeld2; try simp only [Act.put, List.setIfInBounds_toArray, List.set_cons_zero, List.set_cons_succ]); (refine take_t (i := 6) (d := 91) (oi := _) (v := ?_) rfl rfl (by kernel_rfl) (by kernel_rfl) (by kernel_rfl) (by rfl) ?_ (by assumption) ?_; rotate_left; (focus (intro w0 hSw; (try dsimp only at hSw); go_simp; (try with_reducible rfl); done)); try simp only [Act.put, List.setIfInBounds_toArray, List.set_cons_zero, List.set_cons_succ]); (refine wpAnyH_ready (rs := [7]) (by kernel_rfl) (by simp) ?_; refine AllReadyH.cons (o := _) rfl (fun K' hK => ?_) AllReadyH.nil; go_simp; (replace hp := Lib.hid (hp.out.put (i := 6) rfl 3 (.slice ad6 (na + 1) cp6))); (try dsimp only); refine hK.out _ _ ?_ (fun hHeld2 => ?_); (focus ((try dsimp only); (first | done | trivial); done)); clear hK K'; clear hHeld; have hHeld := hHeld2; clear hHeld2; try simp only [Act.put, List.setIfInBounds_toArray, List.set_cons_zero, List.set_cons_succ])
                  refine wpAnyH_done (by kernel_rfl) ?_ _; refine NoPanic.normal ?_
                  replace hp := Lib.hid (hp.out.drop 0)
                  go_wp2_with (go_at_call 59; (with_reducible refine (ck.out _ (hzz.out _ _ s4 0 hp.out rfl l5.out)).mono ?_); rintro e w7 ⟨rfl, h7, k7⟩; have l7 := Lib.hid h7.lt; replace hp := Lib.hid (hp.out.call (i := 0) rfl (cs' := psC b cap ws.length s5) h7.box k7); clear h7 k7)
                  go_roundg K
                  case measure => omega
                  case rel => exact ⟨m5, s5, acc2, _, _, rfl, by rw [hal2.out, hcl.out]; exact hp.out, l7.out, hnext.out⟩
            · have hcd : (c = false) ∨ (c = true ∧ st'.bad = true) := by
                cases c
                · exact Or.inl rfl
                · exact Or.inr ⟨rfl, hcb.resolve_left (by decide)⟩
              clear hcb
              replace hRr := Lib.hid hRr
              rcases hcd with rfl | ⟨rfl, hbd⟩
              · clear c2
                go_wp2
                go_meet
                have hf := hRr.out
                subst hf
                exact ⟨_, _, hl0.out, hp.out⟩
              · rw [hbd] at c2
                replace hbd := Lib.hid hbd
                go_wp2
                go_meet
                have hf := hRr.out
                subst hf
                exact ⟨_, _, hl0.out, hp.out⟩
        case rest =>
          clear hp hL cm2 cu2 l2 la2 lb2
          obtain ⟨iad, icp, l3, hp⟩ := hcut
          obtain ⟨is, s3⟩ := RI
          simp only at l3 hp
          have hR6 := hR5.out
          simp only at hR6
          clear hR5
          replace hp := Lib.hid hp; replace l3 := Lib.hid l3
          obtain ⟨nI, hnI⟩ : ∃ n, n = is.length := ⟨_, rfl⟩
          obtain ⟨MI, hMI⟩ : ∃ M, M = is.flatMap It.cells := ⟨_, rfl⟩
          have hpx := hp.out
          rw [← hnI, ← hMI] at hpx
          replace hp := Lib.hid hpx
          clear hpx
          replace hnI := Lib.hid hnI; replace hMI := Lib.hid hMI
          have cm3 := fun W (hz : Pz ws b cap g s3 W) => key_any hz [108, 105, 109, 105, 116]
          have em3 : str [108, 105, 109, 105, 116] = (⟨#[108, 105, 109, 105, 116]⟩ : ByteArray) := rfl
          rw [em3] at cm3
          unfold nextM at cm3
          clear em3
          cases hm3 : isM ws 1 [108, 105, 109, 105, 116] s3 with
          | true =>
            rw [hm3] at cm3 hR6
            simp only [if_true] at cm3 hR6
            clear hm3
            have cl := fun W (hz : Pz ws b cap g s3.adv W) => num_any hz 256 256 rfl
            obtain ⟨⟨lm, s4⟩, hlm⟩ : ∃ r, r = numM ws 256 s3.adv := ⟨_, rfl⟩
            rw [← hlm] at cl hR6
            simp only at cl hR6
            clear hlm
            replace cm3 := Lib.hid cm3; replace cl := Lib.hid cl
            go_upto_region 23 with (first
              | (go_at_call 55; (with_reducible refine (cm3.out _ (hzz.out _ _ s3 0 hp.out rfl l3.out)).mono ?_); rintro e wk ⟨rfl, hk, kk⟩; have lk := Lib.hid hk.lt; replace hp := Lib.hid (hp.out.call (i := 0) rfl (cs' := psC b cap ws.length s3.adv) hk.box kk); clear hk kk)
              | (go_at_call 61; (with_reducible refine (cl.out _ (hzz.out _ _ s3.adv 0 hp.out rfl lk.out)).mono ?_); rintro e wn ⟨rfl, hn, kn⟩; have ln := Lib.hid hn.lt; replace hp := Lib.hid (hp.out.call (i := 0) rfl (cs' := psC b cap ws.length s4) hn.box kn); clear hn kn; have y0 := hp.out.cell (i := 5) rfl 0; have y1 := hp.out.cell (i := 5) rfl 1; have y2 := hp.out.cell (i := 5) rfl 2; have y3 := hp.out.cell (i := 5) rfl 3; have y4 := hp.out.cell (i := 5) rfl 4; have f0 := hp.out.free (i := 5) rfl 0; have f1 := hp.out.free (i := 5) rfl 1; have f2 := hp.out.free (i := 5) rfl 2; have f3 := hp.out.free (i := 5) rfl 3; have f4 := hp.out.free (i := 5) rfl 4; simp at y0 y1 y2 y3 y4))
            replace hp := Lib.hid (hp.out.put (i := 5) rfl 4 (.int .i64 (lm : Int)))
            clear y0 y1 y2 y3 f0 f1 f2 f3 f4
            generalize World.setCell _ _ _ = W9 at hp ⊢
            have kw := fun W (hz : Pz ws b cap g s4 W) => word_any hz
            obtain ⟨x, hx⟩ : ∃ x, x = wd ws s4.at_ := ⟨_, rfl⟩
            rw [← hx] at kw hR6
            clear hx
            have ku := fun W (hz : Pz ws b cap g s4 W) => must_any hz (decide (x.kind = 0))
            obtain ⟨xk, xs, xn, xp⟩ := x
            simp only at kw hR6 ku
            have hfl := fun W => field_kind W (xk : Int) (str xs) (xn : Int) (xp : Int)
            have hck : ((xk : Int) == 0) = decide (xk = 0) := by rw [Bool.eq_iff_iff]; simp
            obtain ⟨kz, hkz⟩ : ∃ z, z = decide (xk = 0) := ⟨_, rfl⟩
            rw [← hkz] at hck ku hR6
            obtain ⟨s9, hs9⟩ : ∃ r, r = mustM kz s4 := ⟨_, rfl⟩
            rw [← hs9] at ku hR6
            clear hkz hs9
            replace kw := Lib.hid kw; replace ku := Lib.hid ku; replace hR6 := Lib.hid hR6
            go_wp2_with (first
              | (go_at_call 23; (with_reducible refine (kw.out _ (hzz.out _ _ s4 0 hp.out rfl ln.out)).mono ?_); rintro e w8 ⟨rfl, b8⟩; replace hp := Lib.hid (hp.out.below b8); clear b8)
              | (go_at_call 54; (with_reducible refine (ku.out _ (hzz.out _ _ s4 0 hp.out rfl ln.out)).mono ?_); rintro e w9 ⟨rfl, h9, k9⟩; have l9 := Lib.hid h9.lt; replace hp := Lib.hid (hp.out.call (i := 0) rfl (cs' := psC b cap ws.length s9) h9.box k9); clear h9 k9; have y0 := hp.out.cell (i := 5) rfl 0; have y1 := hp.out.cell (i := 5) rfl 1; have y2 := hp.out.cell (i := 5) rfl 2; have y3 := hp.out.cell (i := 5) rfl 3; have y4 := hp.out.cell (i := 5) rfl 4; simp at y0 y1 y2 y3 y4; have z0 := hp.out.cell (i := 6) rfl 0; have z1 := hp.out.cell (i := 6) rfl 1; have z2 := hp.out.cell (i := 6) rfl 2; have z3 := hp.out.cell (i := 6) rfl 3; have z4 := hp.out.cell (i := 6) rfl 4; have f0 := hp.out.free (i := 6) rfl 0; have f1 := hp.out.free (i := 6) rfl 1; have f2 := hp.out.free (i := 6) rfl 2; have f3 := hp.out.free (i := 6) rfl 3; have f4 := hp.out.free (i := 6) rfl 4; simp at z0 z1 z2 z3 z4))
            have hpf := hp.out
            replace hpf := Lib.hid (((((hpf.put (i := 6) rfl 0 (.slice nad nN ncp)).put (i := 6) rfl 1 (.slice ead nE ecp)).put (i := 6) rfl 2 (.slice cad nC ccp)).put (i := 6) rfl 3 (.slice iad nI icp)).put (i := 6) rfl 4 (.int .i64 (lm : Int)))
            have hpg := hpf.out
            have hf := hR6.out
            subst hf
            refine bodyPost_ret (v := .agg #[.slice nad nN ncp, .slice ead nE ecp, .slice cad nC ccp, .slice iad nI icp, .int .i64 (lm : Int)]) (results_cell_row rfl _ _ qr 27 #[.slice nad nN ncp, .slice ead nE ecp, .slice cad nC ccp, .slice iad nI icp, .int .i64 (lm : Int)] (0, 0) _ rfl (hpg.box (i := 6) rfl) Tryd.underlying27 rfl quest5) rfl ⟨N, nad, ead, cad, iad, ncp, ecp, ccp, icp, nrs, hNx.out, hNn.out, ?_, ?_, l9.out⟩
            · rw [hnN.out, hnE.out, hnC.out, hnI.out]
              all_goals rfl
            · have hpq : Hp w [g] (.box g (psC b cap ws.length s9) 68 :: .row 79 3 (.slice nad nN ncp) nN (M) :: .row 84 3 (.slice ead nE ecp) nE (ME) :: .row 88 6 (.slice cad nC ccp) nC (MC) :: .row 94 2 (.slice iad nI icp) nI (MI) :: nrs) _ := (hpg.drop 5).drop 5
              have e1 := hnN.out; have e2 := hnE.out; have e3 := hnC.out; have e4 := hnI.out; have e5 := hM.out; have e6 := hME.out; have e7 := hMC.out; have e8 := hMI.out
              subst e5 e6 e7 e8
              subst e1 e2 e3 e4
              exact hpq
          | false =>
            rw [hm3] at cm3 hR6
            simp only [Bool.false_eq_true, if_false] at cm3 hR6
            clear hm3
            replace cm3 := Lib.hid cm3
            go_upto_region 23 with (go_at_call 55; (with_reducible refine (cm3.out _ (hzz.out _ _ s3 0 hp.out rfl l3.out)).mono ?_); rintro e wk ⟨rfl, hk, kk⟩; have lk := Lib.hid hk.lt; replace hp := Lib.hid (hp.out.call (i := 0) rfl (cs' := psC b cap ws.length s3) hk.box kk); clear hk kk)
            have kw := fun W (hz : Pz ws b cap g s3 W) => word_any hz
            obtain ⟨x, hx⟩ : ∃ x, x = wd ws s3.at_ := ⟨_, rfl⟩
            rw [← hx] at kw hR6
            clear hx
            have ku := fun W (hz : Pz ws b cap g s3 W) => must_any hz (decide (x.kind = 0))
            obtain ⟨xk, xs, xn, xp⟩ := x
            simp only at kw hR6 ku
            have hfl := fun W => field_kind W (xk : Int) (str xs) (xn : Int) (xp : Int)
            have hck : ((xk : Int) == 0) = decide (xk = 0) := by rw [Bool.eq_iff_iff]; simp
            obtain ⟨kz, hkz⟩ : ∃ z, z = decide (xk = 0) := ⟨_, rfl⟩
            rw [← hkz] at hck ku hR6
            obtain ⟨s9, hs9⟩ : ∃ r, r = mustM kz s3 := ⟨_, rfl⟩
            rw [← hs9] at ku hR6
            clear hkz hs9
            replace kw := Lib.hid kw; replace ku := Lib.hid ku; replace hR6 := Lib.hid hR6
            go_wp2_with (first
              | (go_at_call 23; (with_reducible refine (kw.out _ (hzz.out _ _ s3 0 hp.out rfl lk.out)).mono ?_); rintro e w8 ⟨rfl, b8⟩; replace hp := Lib.hid (hp.out.below b8); clear b8)
              | (go_at_call 54; (with_reducible refine (ku.out _ (hzz.out _ _ s3 0 hp.out rfl lk.out)).mono ?_); rintro e w9 ⟨rfl, h9, k9⟩; have l9 := Lib.hid h9.lt; replace hp := Lib.hid (hp.out.call (i := 0) rfl (cs' := psC b cap ws.length s9) h9.box k9); clear h9 k9; have y0 := hp.out.cell (i := 5) rfl 0; have y1 := hp.out.cell (i := 5) rfl 1; have y2 := hp.out.cell (i := 5) rfl 2; have y3 := hp.out.cell (i := 5) rfl 3; have y4 := hp.out.cell (i := 5) rfl 4; simp at y0 y1 y2 y3 y4; have z0 := hp.out.cell (i := 6) rfl 0; have z1 := hp.out.cell (i := 6) rfl 1; have z2 := hp.out.cell (i := 6) rfl 2; have z3 := hp.out.cell (i := 6) rfl 3; have z4 := hp.out.cell (i := 6) rfl 4; have f0 := hp.out.free (i := 6) rfl 0; have f1 := hp.out.free (i := 6) rfl 1; have f2 := hp.out.free (i := 6) rfl 2; have f3 := hp.out.free (i := 6) rfl 3; have f4 := hp.out.free (i := 6) rfl 4; simp at z0 z1 z2 z3 z4))
            have hpf := hp.out
            replace hpf := Lib.hid (((((hpf.put (i := 6) rfl 0 (.slice nad nN ncp)).put (i := 6) rfl 1 (.slice ead nE ecp)).put (i := 6) rfl 2 (.slice cad nC ccp)).put (i := 6) rfl 3 (.slice iad nI icp)).put (i := 6) rfl 4 (.int .i64 256))
            have hpg := hpf.out
            have hf := hR6.out
            subst hf
            refine bodyPost_ret (v := .agg #[.slice nad nN ncp, .slice ead nE ecp, .slice cad nC ccp, .slice iad nI icp, .int .i64 256]) (results_cell_row rfl _ _ qr 27 #[.slice nad nN ncp, .slice ead nE ecp, .slice cad nC ccp, .slice iad nI icp, .int .i64 256] (0, 0) _ rfl (hpg.box (i := 6) rfl) Tryd.underlying27 rfl quest5) rfl ⟨N, nad, ead, cad, iad, ncp, ecp, ccp, icp, nrs, hNx.out, hNn.out, ?_, ?_, l9.out⟩
            · rw [hnN.out, hnE.out, hnC.out, hnI.out]
              all_goals rfl
            · have hpq : Hp w [g] (.box g (psC b cap ws.length s9) 68 :: .row 79 3 (.slice nad nN ncp) nN (M) :: .row 84 3 (.slice ead nE ecp) nE (ME) :: .row 88 6 (.slice cad nC ccp) nC (MC) :: .row 94 2 (.slice iad nI icp) nI (MI) :: nrs) _ := (hpg.drop 5).drop 5
              have e1 := hnN.out; have e2 := hnE.out; have e3 := hnC.out; have e4 := hnI.out; have e5 := hM.out; have e6 := hME.out; have e7 := hMC.out; have e8 := hMI.out
              subst e5 e6 e7 e8
              subst e1 e2 e3 e4
              exact hpq
end Go.Proofs.YtgbkpkioijbgoaaDoor.qry
