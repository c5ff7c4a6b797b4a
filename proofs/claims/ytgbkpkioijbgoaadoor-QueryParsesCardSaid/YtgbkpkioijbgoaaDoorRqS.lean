/- Two questions of the same parts are the same (lodestoneref33.Same). No condition but where they lie. -/
import Derived.Test.YtgbkpkioijbgoaaDoorQry8
import Derived.Test.YtgbkpkioijbgoaaDoorRegTill
import Derived.Laws.StructEq
import Derived.BigQuiet
import Derived.Deep.CutBlock
namespace Go.Proofs.YtgbkpkioijbgoaaDoor.qry
open Go.RowKit
open names (Nm)
attribute [local go_sem ↓] Go.wp_at_zero Go.wp_at_succ
attribute [local go_sem] str_size str_bl
set_option linter.unusedVariables false
set_option linter.unusedSimpArgs false
set_option maxRecDepth 100000

def Qv.pr (q : Qv) (w : World) : Prop := ∀ y ∈ q.N, Sl w (.slice y.ad y.nd.props.length y.cp) y.nd.props.length (y.nd.props.flatMap Pp.cells) ∧ y.nd.props.length ≤ 100000
theorem Qv.pr.below {q : Qv} {w w' : World} (h : q.pr w) (k : Below w.heap.size w w') : q.pr w' := fun y hy => ⟨(h y hy).1.below k, (h y hy).2⟩
set_option maxHeartbeats 16000000 in
theorem rsame_any (A B : Qv) (w : World) (hA : A.ok w) (hB : B.ok w) (pA : A.pr w) (pB : B.pr w) (hN : A.N.map NdV.nd = B.N.map NdV.nd) (hE : A.E = B.E) (hC : A.C = B.C) (hI : A.I = B.I) (hl : A.lim = B.lim) : Calls Tryd.prog 9 #[A.a, B.a] w fun e w' => e = .returned (.bool true) ∧ Below w.heap.size w w' := by
  have a1 := slAt hA.n; have a2 := slAt hA.e; have a3 := slAt hA.c; have a4 := slAt hA.i
  have b1 := slAt hB.n; have b2 := slAt hB.e; have b3 := slAt hB.c; have b4 := slAt hB.i
  have ln := hA.ln; have le := hA.le; have lc := hA.lc; have li := hA.li
  unfold Qv.pr at pA pB
  unfold Qv.a Qv.cs
  clear hA hB
  obtain ⟨N, E, C, I, lim, na, nc, ea, ec, ca, cc, ia, ic⟩ := A
  obtain ⟨N', E', C', I', lim', na', nc', ea', ec', ca', cc', ia', ic'⟩ := B
  simp only at a1 a2 a3 a4 b1 b2 b3 b4 ln le lc li pA pB hN hE hC hI hl ⊢
  subst hE hC hI hl
  have hNl : N'.length = N.length := by have h := congrArg List.length hN; rw [List.length_map, List.length_map] at h; exact h.symm
  obtain ⟨n, hn⟩ : ∃ n, n = N.length := ⟨_, rfl⟩
  obtain ⟨m, hm⟩ : ∃ n, n = E.length := ⟨_, rfl⟩
  obtain ⟨c, hc⟩ : ∃ n, n = C.length := ⟨_, rfl⟩
  obtain ⟨k, hk⟩ : ∃ n, n = I.length := ⟨_, rfl⟩
  rw [← hn] at hNl a1 ln ⊢
  rw [hNl] at b1 ⊢
  rw [← hm] at a2 b2 le ⊢
  rw [← hc] at a3 b3 lc ⊢
  rw [← hk] at a4 b4 li ⊢
  have hAt : ∀ (i : Nat) (x : NdV), N[i]? = some x → ∃ (ya : Option Addr) (yc : Nat), N'[i]? = some ⟨x.nd, ya, yc⟩ := fun i x hx => by
    have h := congrArg (fun l => l[i]?) hN
    simp only [List.getElem?_map, hx, Option.map_some] at h
    cases hy : N'[i]? with
    | none => rw [hy] at h; cases h
    | some y =>
      rw [hy] at h
      obtain ⟨yn, ya, yc⟩ := y
      simp only [Option.map_some, Option.some.injEq] at h
      exact ⟨ya, yc, by rw [h]⟩
  have hp := ((Hp.none_ w []).alloc #[.slice na n nc, .slice ea m ec, .slice ca c cc, .slice ia k ic, .int .i64 lim] 27).alloc #[.slice na' n nc', .slice ea' m ec', .slice ca' c cc', .slice ia' k ic', .int .i64 lim] 27
  have hsz : ∀ (u : World) o, (u.alloc o).heap.size = u.heap.size + 1 := fun u o => by simp
  rw [hsz] at hp
  clear hsz hN hNl
  replace hp := Lib.hid hp; replace a1 := Lib.hid a1; replace a2 := Lib.hid a2; replace a3 := Lib.hid a3; replace a4 := Lib.hid a4; replace b1 := Lib.hid b1; replace b2 := Lib.hid b2; replace b3 := Lib.hid b3; replace b4 := Lib.hid b4; replace ln := Lib.hid ln; replace le := Lib.hid le; replace lc := Lib.hid lc; replace li := Lib.hid li; replace pA := Lib.hid pA; replace pB := Lib.hid pB; replace hn := Lib.hid hn; replace hm := Lib.hid hm; replace hc := Lib.hid hc; replace hk := Lib.hid hk; replace hAt := Lib.hid hAt
  go_enter Tryd.func9, Tryd.ntmps9
  go_upto_region 1 with fail
  generalize (w.alloc _).alloc _ = W1 at hp ⊢
  generalize w.heap.size + 1 = q2 at hp ⊢
  generalize w.heap.size = q1 at hp ⊢
  replace hp := Lib.hid (show Hp w [] (.box q2 #[.slice na' n nc', .slice ea' m ec', .slice ca' c cc', .slice ia' k ic', .int .i64 lim] 27 :: .box q1 #[.slice na n nc, .slice ea m ec, .slice ca c cc, .slice ia k ic, .int .i64 lim] 27 :: []) W1 from hp.out)
  have x0 := hp.out.cell (i := 1) rfl 0; have x1 := hp.out.cell (i := 1) rfl 1; have x2 := hp.out.cell (i := 1) rfl 2; have x3 := hp.out.cell (i := 1) rfl 3; have x4 := hp.out.cell (i := 1) rfl 4; have y0 := hp.out.cell (i := 0) rfl 0; have y1 := hp.out.cell (i := 0) rfl 1; have y2 := hp.out.cell (i := 0) rfl 2; have y3 := hp.out.cell (i := 0) rfl 3; have y4 := hp.out.cell (i := 0) rfl 4; simp at x0 x1 x2 x3 x4 y0 y1 y2 y3 y4
  go_wp2
  clear x0 x1 x2 x3 x4 y0 y1 y2 y3 y4
  go_loopg [5] n (fun kk s5 wr => ∃ i : Nat, s5 = .int .i64 (i : Int) ∧ i + kk = n ∧ Hp w [] (.box q2 #[.slice na' n nc', .slice ea' m ec', .slice ca' c cc', .slice ia' k ic', .int .i64 lim] 27 :: .box q1 #[.slice na n nc, .slice ea m ec, .slice ca c cc, .slice ia k ic, .int .i64 lim] 27 :: []) wr)
  case atStart => exact ⟨0, rfl, by omega, hp.out⟩
  case round =>
    clear hp
    obtain ⟨i, rfl, hik, hp⟩ := hrel
    replace hp := Lib.hid hp
    have x0 := hp.out.cell (i := 1) rfl 0; have y0 := hp.out.cell (i := 0) rfl 0; simp at x0 y0
    by_cases hlt : i < n
    · skip
      obtain ⟨K, rfl⟩ : ∃ K : Nat, gk = K + 1 := ⟨gk - 1, by omega⟩
      obtain ⟨bx, ox, hb1, hr1⟩ := a1.out.resolve_left (by omega)
      obtain ⟨by_, oy, hb2, hr2⟩ := b1.out.resolve_left (by omega)
      subst hb1 hb2
      obtain ⟨x, hx⟩ : ∃ y, N[i]? = some y := ⟨_, List.getElem?_eq_getElem (by have := hn.out; omega)⟩
      obtain ⟨ya, yc, hy⟩ := hAt.out i x hx
      have px := pA.out x (List.mem_of_getElem? hx)
      have py := pB.out _ (List.mem_of_getElem? hy)
      obtain ⟨⟨xv, xl, ps⟩, xa, xc⟩ := x
      simp only at hy px py
      have dc := fun (W' : World) (hbl : Below w.heap.size w W') => (show (W'.cell? ⟨bx, ox + i * 3, none⟩ = some (.string (str xv)) ∧ W'.cell? ⟨bx, ox + i * 3 + 1, none⟩ = some (.string (str xl)) ∧ W'.cell? ⟨bx, ox + i * 3 + 2, none⟩ = some (.slice xa ps.length xc)) ∧ (W'.cell? ⟨by_, oy + i * 3, none⟩ = some (.string (str xv)) ∧ W'.cell? ⟨by_, oy + i * 3 + 1, none⟩ = some (.string (str xl)) ∧ W'.cell? ⟨by_, oy + i * 3 + 2, none⟩ = some (.slice ya ps.length yc)) from ⟨⟨(hbl.cell hr1.1).trans (hr1.elem0 NdV.cells_len hx rfl), (hbl.cell hr1.1).trans (hr1.elem NdV.cells_len hx rfl), (hbl.cell hr1.1).trans (hr1.elem NdV.cells_len hx rfl)⟩, ⟨(hbl.cell hr2.1).trans (hr2.elem0 NdV.cells_len hy rfl), (hbl.cell hr2.1).trans (hr2.elem NdV.cells_len hy rfl), (hbl.cell hr2.1).trans (hr2.elem NdV.cells_len hy rfl)⟩⟩)
      have e1 : (0 : Int) ≤ (i : Int) := by omega
      have e2 : (i : Int) < (n : Int) := by omega
      have hib : i < 1100 := by have := ln.out; omega
      obtain ⟨mp, hmp⟩ : ∃ k, k = ps.length := ⟨_, rfl⟩
      rw [← hmp] at dc px py
      obtain ⟨V, hV⟩ : ∃ s, s = str xv := ⟨_, rfl⟩
      obtain ⟨Lb, hLb⟩ : ∃ s, s = str xl := ⟨_, rfl⟩
      rw [← hV, ← hLb] at dc
      have px1 := slAt px.1; have py1 := slAt py.1; have pl := px.2
      clear hx hy hr1 hr2 hV hLb hlt px py
      replace dc := Lib.hid dc; replace px1 := Lib.hid px1; replace py1 := Lib.hid py1; replace pl := Lib.hid pl; replace hmp := Lib.hid hmp; replace hik := Lib.hid hik
      go_upto_region 6 with fail
      clear x0 y0
      have hsk := Lib.hid (show ∀ (rs : List Rs) (W' : World) (k_ : Nat), Hp w [] rs W' → rs[k_]? = some (.box q2 #[.slice (some ⟨by_, oy, none⟩) n nc', .slice ea' m ec', .slice ca' c cc', .slice ia' k ic', .int .i64 lim] 27) → rs[k_ + 1]? = some (.box q1 #[.slice (some ⟨bx, ox, none⟩) n nc, .slice ea m ec, .slice ca c cc, .slice ia k ic, .int .i64 lim] 27) → (fun W' => (W'.cell? ⟨q1, 0, none⟩ = some (.slice (some ⟨bx, ox, none⟩) n nc) ∧ W'.cell? ⟨q2, 0, none⟩ = some (.slice (some ⟨by_, oy, none⟩) n nc')) ∧ (W'.cell? ⟨bx, ox + i * 3, none⟩ = some (.string V) ∧ W'.cell? ⟨bx, ox + i * 3 + 1, none⟩ = some (.string Lb) ∧ W'.cell? ⟨bx, ox + i * 3 + 2, none⟩ = some (.slice xa mp xc)) ∧ (W'.cell? ⟨by_, oy + i * 3, none⟩ = some (.string V) ∧ W'.cell? ⟨by_, oy + i * 3 + 1, none⟩ = some (.string Lb) ∧ W'.cell? ⟨by_, oy + i * 3 + 2, none⟩ = some (.slice ya mp yc))) W' from fun rs W' k_ h h1 h2 => ⟨⟨(h.cell h2 0).trans rfl, (h.cell h1 0).trans rfl⟩, (dc.out W' h.bel).1, (dc.out W' h.bel).2⟩)
      go_cut [6, 7] from 60 to 69 (fun s6 s7 wx => ∃ (qx qy : Nat), s6 = .pointer (some ⟨qx, 0, none⟩) ∧ s7 = .pointer (some ⟨qy, 0, none⟩) ∧ Hp w [] (.box qy #[.string V, .string Lb, .slice ya mp yc] 79 :: .box qx #[.string V, .string Lb, .slice xa mp xc] 79 :: .box q2 #[.slice (some ⟨by_, oy, none⟩) n nc', .slice ea' m ec', .slice ca' c cc', .slice ia' k ic', .int .i64 lim] 27 :: .box q1 #[.slice (some ⟨bx, ox, none⟩) n nc, .slice ea m ec, .slice ca c cc, .slice ia k ic, .int .i64 lim] 27 :: []) wx)
      case first =>
        have hsz1 := Lib.hid (show ∀ (u : World) o, (u.alloc o).heap.size = u.heap.size + 1 from fun u o => by simp)
        replace hp := Lib.hid hp.out.drew
        refine wp_region_noPanic ?_; refine wp_region_held_drew (S := (fun W' => (W'.cell? ⟨q1, 0, none⟩ = some (.slice (some ⟨bx, ox, none⟩) n nc) ∧ W'.cell? ⟨q2, 0, none⟩ = some (.slice (some ⟨by_, oy, none⟩) n nc')) ∧ (W'.cell? ⟨bx, ox + i * 3, none⟩ = some (.string V) ∧ W'.cell? ⟨bx, ox + i * 3 + 1, none⟩ = some (.string Lb) ∧ W'.cell? ⟨bx, ox + i * 3 + 2, none⟩ = some (.slice xa mp xc)) ∧ (W'.cell? ⟨by_, oy + i * 3, none⟩ = some (.string V) ∧ W'.cell? ⟨by_, oy + i * 3 + 1, none⟩ = some (.string Lb) ∧ W'.cell? ⟨by_, oy + i * 3 + 2, none⟩ = some (.slice ya mp yc)))) (by kernel_rfl) ?_ (fun hHeld => ?_); (focus ((try dsimp only); (first | exact hsk.out _ _ 0 hp.out rfl rfl | exact hsk.out _ _ 1 hp.out rfl rfl | exact hsk.out _ _ 2 hp.out rfl rfl); done))
        generalize wr.drew = W3 at hp hHeld ⊢
        (refine take_t (i := 0) (d := 60) (oi := _) (v := ?_) rfl rfl (by kernel_rfl) (by kernel_rfl) (by kernel_rfl) (by rfl) ?_ (by assumption) ?_; rotate_left; (focus (intro w0 hSw; (try dsimp only at hSw); go_simp; (try with_reducible rfl); done)); try simp only [Act.put, List.setIfInBounds_toArray, List.set_cons_zero, List.set_cons_succ]); (refine take_t (i := 1) (d := 61) (oi := _) (v := ?_) rfl rfl (by kernel_rfl) (by kernel_rfl) (by kernel_rfl) (by rfl) ?_ (by assumption) ?_; rotate_left; (focus (intro w0 hSw; (try dsimp only at hSw); go_simp; (try with_reducible rfl); done)); try simp only [Act.put, List.setIfInBounds_toArray, List.set_cons_zero, List.set_cons_succ]); (refine take_t (i := 2) (d := 62) (oi := _) (v := ?_) rfl rfl (by kernel_rfl) (by kernel_rfl) (by kernel_rfl) (by rfl) ?_ (by assumption) ?_; rotate_left; (focus (intro w0 hSw; (try dsimp only at hSw); go_simp; (try with_reducible rfl); done)); try simp only [Act.put, List.setIfInBounds_toArray, List.set_cons_zero, List.set_cons_succ]); (refine take_t (i := 3) (d := 63) (oi := _) (v := ?_) rfl rfl (by kernel_rfl) (by kernel_rfl) (by kernel_rfl) (by rfl) ?_ (by assumption) ?_; rotate_left; (focus (intro w0 hSw; (try dsimp only at hSw); go_simp; (try with_reducible rfl); done)); try simp only [Act.put, List.setIfInBounds_toArray, List.set_cons_zero, List.set_cons_succ]); (refine take_t (i := 4) (d := 64) (oi := _) (v := ?_) rfl rfl (by kernel_rfl) (by kernel_rfl) (by kernel_rfl) (by rfl) ?_ (by assumption) ?_; rotate_left; (focus (intro w0 hSw; (try dsimp only at hSw); go_simp; (try with_reducible rfl); done)); try simp only [Act.put, List.setIfInBounds_toArray, List.set_cons_zero, List.set_cons_succ]); (refine take_t (i := 5) (d := 65) (oi := _) (v := ?_) rfl rfl (by kernel_rfl) (by kernel_rfl) (by kernel_rfl) (by rfl) ?_ (by assumption) ?_; rotate_left; (focus (intro w0 hSw; (try dsimp only at hSw); go_simp; (try with_reducible rfl); done)); try simp only [Act.put, List.setIfInBounds_toArray, List.set_cons_zero, List.set_cons_succ]); (refine take_t (i := 6) (d := 66) (oi := _) (v := ?_) rfl rfl (by kernel_rfl) (by kernel_rfl) (by kernel_rfl) (by rfl) ?_ (by assumption) ?_; rotate_left; (focus (intro w0 hSw; (try dsimp only at hSw); go_simp; (try with_reducible rfl); done)); try simp only [Act.put, List.setIfInBounds_toArray, List.set_cons_zero, List.set_cons_succ]); (refine take_t (i := 7) (d := 67) (oi := _) (v := ?_) rfl rfl (by kernel_rfl) (by kernel_rfl) (by kernel_rfl) (by rfl) ?_ (by assumption) ?_; rotate_left; (focus (intro w0 hSw; (try dsimp only at hSw); go_simp; (try with_reducible rfl); done)); try simp only [Act.put, List.setIfInBounds_toArray, List.set_cons_zero, List.set_cons_succ]); (refine take_t (i := 8) (d := 68) (oi := _) (v := ?_) rfl rfl (by kernel_rfl) (by kernel_rfl) (by kernel_rfl) (by rfl) ?_ (by assumption) ?_; rotate_left; (focus (intro w0 hSw; (try dsimp only at hSw); go_simp; (try with_reducible rfl); done)); try simp only [Act.put, List.setIfInBounds_toArray, List.set_cons_zero, List.set_cons_succ]); (refine take_t (i := 9) (d := 69) (oi := _) (v := ?_) rfl rfl (by kernel_rfl) (by kernel_rfl) (by kernel_rfl) (by rfl) ?_ (by assumption) ?_; rotate_left; (focus (intro w0 hSw; (try dsimp only at hSw); go_simp; (try with_reducible rfl); done)); try simp only [Act.put, List.setIfInBounds_toArray, List.set_cons_zero, List.set_cons_succ])
        refine wpAnyH_ready (rs := [10, 11]) (by kernel_rfl) (by simp) ?_; refine AllReadyH.cons (o := _) rfl (fun K' hK => ?_) (AllReadyH.cons (o := _) rfl (fun K' hK => ?_) AllReadyH.nil)
        · go_simp; (replace hp := Lib.hid (hp.out.alloc #[.string ⟨#[]⟩, .string ⟨#[]⟩, .slice none 0 0] 79)); (try dsimp only); refine hK.out _ _ ?_ (fun hHeld2 => ?_); (focus ((try dsimp only); (first | exact hsk.out _ _ 0 hp.out rfl rfl | exact hsk.out _ _ 1 hp.out rfl rfl | exact hsk.out _ _ 2 hp.out rfl rfl); done)); clear hK K'; clear hHeld; have hHeld := hHeld2; clear hHeld2; try simp only [Act.put, List.setIfInBounds_toArray, List.set_cons_zero, List.set_cons_succ]
          (refine wpAnyH_ready (rs := [11]) (by kernel_rfl) (by simp) ?_; refine AllReadyH.cons (o := _) rfl (fun K' hK => ?_) AllReadyH.nil; go_simp; (replace hp := Lib.hid (hp.out.alloc #[.string ⟨#[]⟩, .string ⟨#[]⟩, .slice none 0 0] 79); have hpx := hp.out; rw [hsz1.out] at hpx; replace hp := Lib.hid hpx; clear hpx); (try dsimp only); refine hK.out _ _ ?_ (fun hHeld2 => ?_); (focus ((try dsimp only); (first | exact hsk.out _ _ 0 hp.out rfl rfl | exact hsk.out _ _ 1 hp.out rfl rfl | exact hsk.out _ _ 2 hp.out rfl rfl); done)); clear hK K'; clear hHeld; have hHeld := hHeld2; clear hHeld2; try simp only [Act.put, List.setIfInBounds_toArray, List.set_cons_zero, List.set_cons_succ])
          generalize (W3.alloc _).alloc _ = W4 at hp hHeld ⊢
          generalize W3.heap.size + 1 = qy at hp ⊢
          generalize W3.heap.size = qx at hp ⊢
          have c0 := hp.out.cell (i := 1) rfl 0; have c1 := hp.out.cell (i := 1) rfl 1; have c2 := hp.out.cell (i := 1) rfl 2; simp at c0 c1 c2; have e0 := hp.out.free (i := 1) rfl 0; have e1 := hp.out.free (i := 1) rfl 1; have e2 := hp.out.free (i := 1) rfl 2
          (refine wpAnyH_ready (rs := [12]) (by kernel_rfl) (by simp) ?_; refine AllReadyH.cons (o := _) rfl (fun K' hK => ?_) AllReadyH.nil; go_simp; (replace hp := Lib.hid (((hp.out.put (i := 1) rfl 0 (.string V)).put (i := 1) rfl 1 (.string Lb)).put (i := 1) rfl 2 (.slice xa mp xc)); clear c0 c1 c2 e0 e1 e2); (try dsimp only); refine hK.out _ _ ?_ (fun hHeld2 => ?_); (focus ((try dsimp only); (first | exact hsk.out _ _ 0 hp.out rfl rfl | exact hsk.out _ _ 1 hp.out rfl rfl | exact hsk.out _ _ 2 hp.out rfl rfl); done)); clear hK K'; clear hHeld; have hHeld := hHeld2; clear hHeld2; try simp only [Act.put, List.setIfInBounds_toArray, List.set_cons_zero, List.set_cons_succ])
          generalize World.setCell (World.setCell (World.setCell _ _ _) _ _) _ _ = W5 at hp hHeld ⊢
          have c0 := hp.out.cell (i := 0) rfl 0; have c1 := hp.out.cell (i := 0) rfl 1; have c2 := hp.out.cell (i := 0) rfl 2; simp at c0 c1 c2; have e0 := hp.out.free (i := 0) rfl 0; have e1 := hp.out.free (i := 0) rfl 1; have e2 := hp.out.free (i := 0) rfl 2
          (refine wpAnyH_ready (rs := [13]) (by kernel_rfl) (by simp) ?_; refine AllReadyH.cons (o := _) rfl (fun K' hK => ?_) AllReadyH.nil; go_simp; (replace hp := Lib.hid (((hp.out.put (i := 0) rfl 0 (.string V)).put (i := 0) rfl 1 (.string Lb)).put (i := 0) rfl 2 (.slice ya mp yc)); clear c0 c1 c2 e0 e1 e2); (try dsimp only); refine hK.out _ _ ?_ (fun hHeld2 => ?_); (focus ((try dsimp only); (first | exact hsk.out _ _ 0 hp.out rfl rfl | exact hsk.out _ _ 1 hp.out rfl rfl | exact hsk.out _ _ 2 hp.out rfl rfl); done)); clear hK K'; clear hHeld; have hHeld := hHeld2; clear hHeld2; try simp only [Act.put, List.setIfInBounds_toArray, List.set_cons_zero, List.set_cons_succ])
          refine wpAnyH_done (by kernel_rfl) ?_ _; refine NoPanic.normal ?_
          go_wp2
          go_meet
          exact ⟨qx, qy, rfl, rfl, hp.out⟩
        · go_simp; (replace hp := Lib.hid (hp.out.alloc #[.string ⟨#[]⟩, .string ⟨#[]⟩, .slice none 0 0] 79)); (try dsimp only); refine hK.out _ _ ?_ (fun hHeld2 => ?_); (focus ((try dsimp only); (first | exact hsk.out _ _ 0 hp.out rfl rfl | exact hsk.out _ _ 1 hp.out rfl rfl | exact hsk.out _ _ 2 hp.out rfl rfl); done)); clear hK K'; clear hHeld; have hHeld := hHeld2; clear hHeld2; try simp only [Act.put, List.setIfInBounds_toArray, List.set_cons_zero, List.set_cons_succ]
          (refine wpAnyH_ready (rs := [10]) (by kernel_rfl) (by simp) ?_; refine AllReadyH.cons (o := _) rfl (fun K' hK => ?_) AllReadyH.nil; go_simp; (replace hp := Lib.hid (hp.out.alloc #[.string ⟨#[]⟩, .string ⟨#[]⟩, .slice none 0 0] 79); have hpx := hp.out; rw [hsz1.out] at hpx; replace hp := Lib.hid hpx; clear hpx); (try dsimp only); refine hK.out _ _ ?_ (fun hHeld2 => ?_); (focus ((try dsimp only); (first | exact hsk.out _ _ 0 hp.out rfl rfl | exact hsk.out _ _ 1 hp.out rfl rfl | exact hsk.out _ _ 2 hp.out rfl rfl); done)); clear hK K'; clear hHeld; have hHeld := hHeld2; clear hHeld2; try simp only [Act.put, List.setIfInBounds_toArray, List.set_cons_zero, List.set_cons_succ])
          generalize (W3.alloc _).alloc _ = W4 at hp hHeld ⊢
          generalize W3.heap.size + 1 = qx at hp ⊢
          generalize W3.heap.size = qy at hp ⊢
          have c0 := hp.out.cell (i := 0) rfl 0; have c1 := hp.out.cell (i := 0) rfl 1; have c2 := hp.out.cell (i := 0) rfl 2; simp at c0 c1 c2; have e0 := hp.out.free (i := 0) rfl 0; have e1 := hp.out.free (i := 0) rfl 1; have e2 := hp.out.free (i := 0) rfl 2
          (refine wpAnyH_ready (rs := [12]) (by kernel_rfl) (by simp) ?_; refine AllReadyH.cons (o := _) rfl (fun K' hK => ?_) AllReadyH.nil; go_simp; (replace hp := Lib.hid (((hp.out.put (i := 0) rfl 0 (.string V)).put (i := 0) rfl 1 (.string Lb)).put (i := 0) rfl 2 (.slice xa mp xc)); clear c0 c1 c2 e0 e1 e2); (try dsimp only); refine hK.out _ _ ?_ (fun hHeld2 => ?_); (focus ((try dsimp only); (first | exact hsk.out _ _ 0 hp.out rfl rfl | exact hsk.out _ _ 1 hp.out rfl rfl | exact hsk.out _ _ 2 hp.out rfl rfl); done)); clear hK K'; clear hHeld; have hHeld := hHeld2; clear hHeld2; try simp only [Act.put, List.setIfInBounds_toArray, List.set_cons_zero, List.set_cons_succ])
          generalize World.setCell (World.setCell (World.setCell _ _ _) _ _) _ _ = W5 at hp hHeld ⊢
          have c0 := hp.out.cell (i := 1) rfl 0; have c1 := hp.out.cell (i := 1) rfl 1; have c2 := hp.out.cell (i := 1) rfl 2; simp at c0 c1 c2; have e0 := hp.out.free (i := 1) rfl 0; have e1 := hp.out.free (i := 1) rfl 1; have e2 := hp.out.free (i := 1) rfl 2
          (refine wpAnyH_ready (rs := [13]) (by kernel_rfl) (by simp) ?_; refine AllReadyH.cons (o := _) rfl (fun K' hK => ?_) AllReadyH.nil; go_simp; (replace hp := Lib.hid (((hp.out.put (i := 1) rfl 0 (.string V)).put (i := 1) rfl 1 (.string Lb)).put (i := 1) rfl 2 (.slice ya mp yc)); clear c0 c1 c2 e0 e1 e2); (try dsimp only); refine hK.out _ _ ?_ (fun hHeld2 => ?_); (focus ((try dsimp only); (first | exact hsk.out _ _ 0 hp.out rfl rfl | exact hsk.out _ _ 1 hp.out rfl rfl | exact hsk.out _ _ 2 hp.out rfl rfl); done)); clear hK K'; clear hHeld; have hHeld := hHeld2; clear hHeld2; try simp only [Act.put, List.setIfInBounds_toArray, List.set_cons_zero, List.set_cons_succ])
          refine wpAnyH_done (by kernel_rfl) ?_ _; refine NoPanic.normal ?_
          go_wp2
          go_meet
          exact ⟨qx, qy, rfl, rfl, hp.out.perm (List.Perm.swap _ _ _)⟩
      case rest =>
        clear hp hsk dc
        obtain ⟨qx, qy, rfl, rfl, hp⟩ := hcut
        replace hp := Lib.hid hp
        have t1 : (V.toList == V.toList) = true := by simp
        have t2 : (Lb.toList == Lb.toList) = true := by simp
        have c0 := hp.out.cell (i := 1) rfl 0; have c1 := hp.out.cell (i := 1) rfl 1; have c2 := hp.out.cell (i := 1) rfl 2; simp at c0 c1 c2; have d0 := hp.out.cell (i := 0) rfl 0; have d1 := hp.out.cell (i := 0) rfl 1; have d2 := hp.out.cell (i := 0) rfl 2; simp at d0 d1 d2
        go_wp2
        clear c0 c1 c2 d0 d1 d2 t1 t2
        go_loopg [8] mp (fun kk s8 wr => ∃ j : Nat, s8 = .int .i64 (j : Int) ∧ j + kk = mp ∧ Hp w [] (.box qy #[.string V, .string Lb, .slice ya mp yc] 79 :: .box qx #[.string V, .string Lb, .slice xa mp xc] 79 :: .box q2 #[.slice (some ⟨by_, oy, none⟩) n nc', .slice ea' m ec', .slice ca' c cc', .slice ia' k ic', .int .i64 lim] 27 :: .box q1 #[.slice (some ⟨bx, ox, none⟩) n nc, .slice ea m ec, .slice ca c cc, .slice ia k ic, .int .i64 lim] 27 :: []) wr)
        case atStart => exact ⟨0, rfl, by omega, hp.out⟩
        case round =>
          clear hp
          obtain ⟨j, rfl, hjk, hp⟩ := hrel
          replace hp := Lib.hid hp
          have c2 := hp.out.cell (i := 1) rfl 2; have d2 := hp.out.cell (i := 0) rfl 2; simp at c2 d2
          by_cases hlt : j < mp
          · skip
            obtain ⟨K2, rfl⟩ : ∃ K : Nat, gk = K + 1 := ⟨gk - 1, by omega⟩
            obtain ⟨z, hz⟩ : ∃ z, ps[j]? = some z := ⟨_, List.getElem?_eq_getElem (by have := hmp.out; omega)⟩
            obtain ⟨bu, ou, hu1, hr1⟩ := px1.out.resolve_left (by omega)
            obtain ⟨bv, ov, hv1, hr2⟩ := py1.out.resolve_left (by omega)
            subst hu1 hv1
            have f0 : wr.cell? ⟨bu, ou + j * 4, none⟩ = some (.string (str z.name)) := (hp.out.bel.cell hr1.1).trans (hr1.elem0 Pp.cells_len hz rfl)
            have f1 : wr.cell? ⟨bu, ou + j * 4 + 1, none⟩ = some (.int .i64 (z.val.k : Int)) := (hp.out.bel.cell hr1.1).trans (hr1.elem Pp.cells_len hz rfl)
            have f2 : wr.cell? ⟨bu, ou + j * 4 + 2, none⟩ = some (.int .i64 z.val.n) := (hp.out.bel.cell hr1.1).trans (hr1.elem Pp.cells_len hz rfl)
            have f3 : wr.cell? ⟨bu, ou + j * 4 + 3, none⟩ = some (.string (str z.val.s)) := (hp.out.bel.cell hr1.1).trans (hr1.elem Pp.cells_len hz rfl)
            have g0 : wr.cell? ⟨bv, ov + j * 4, none⟩ = some (.string (str z.name)) := (hp.out.bel.cell hr2.1).trans (hr2.elem0 Pp.cells_len hz rfl)
            have g1 : wr.cell? ⟨bv, ov + j * 4 + 1, none⟩ = some (.int .i64 (z.val.k : Int)) := (hp.out.bel.cell hr2.1).trans (hr2.elem Pp.cells_len hz rfl)
            have g2 : wr.cell? ⟨bv, ov + j * 4 + 2, none⟩ = some (.int .i64 z.val.n) := (hp.out.bel.cell hr2.1).trans (hr2.elem Pp.cells_len hz rfl)
            have g3 : wr.cell? ⟨bv, ov + j * 4 + 3, none⟩ = some (.string (str z.val.s)) := (hp.out.bel.cell hr2.1).trans (hr2.elem Pp.cells_len hz rfl)
            have e3 : (0 : Int) ≤ (j : Int) := by omega
            have e4 : (j : Int) < (mp : Int) := by omega
            have hjb : j < 100000 := by have := pl.out; omega
            obtain ⟨zn, hzn⟩ : ∃ s, s = str z.name := ⟨_, rfl⟩
            obtain ⟨zs, hzs⟩ : ∃ s, s = str z.val.s := ⟨_, rfl⟩
            rw [← hzn] at f0 g0
            rw [← hzs] at f3 g3
            have t1 : (zn.toList == zn.toList) = true := by simp
            have t2 : (zs.toList == zs.toList) = true := by simp
            clear hz hr1 hr2 hzn hzs hlt
            replace hjk := Lib.hid hjk
            go_wp2
            go_quiet (fail)
            go_wp2
            have hpd := Lib.hid (hp.out.drewN nq)
            clear hp
            go_roundg K2
            case measure => omega
            case rel => exact ⟨j + 1, by go_num, by have := hjk.out; omega, hpd.out⟩
          · skip
            have hk0 : gk = 0 := by omega
            subst hk0
            obtain rfl : mp = j := by omega
            clear hjk hlt
            go_wp2
            go_roundg K
            case measure => omega
            case rel => exact ⟨i + 1, by go_num, by have := hik.out; omega, (hp.out.drop 0).drop 0⟩
    · skip
      have hk0 : gk = 0 := by omega
      subst hk0
      obtain rfl : n = i := by omega
      clear hik hlt a1 b1 pA pB hAt
      have x0 := hp.out.cell (i := 1) rfl 0; have x1 := hp.out.cell (i := 1) rfl 1; have x2 := hp.out.cell (i := 1) rfl 2; have x3 := hp.out.cell (i := 1) rfl 3; have x4 := hp.out.cell (i := 1) rfl 4; have y0 := hp.out.cell (i := 0) rfl 0; have y1 := hp.out.cell (i := 0) rfl 1; have y2 := hp.out.cell (i := 0) rfl 2; have y3 := hp.out.cell (i := 0) rfl 3; have y4 := hp.out.cell (i := 0) rfl 4; simp at x0 x1 x2 x3 x4 y0 y1 y2 y3 y4
      clear x0 y0
      go_wp2
      try clear x0
      try clear y0
      try clear x1
      try clear y1
      try clear x2 x3 x4 y2 y3 y4
      go_loopg [9] m (fun kk s9 wr => ∃ i : Nat, s9 = .int .i64 (i : Int) ∧ i + kk = m ∧ Hp w [] (.box q2 #[.slice na' n nc', .slice ea' m ec', .slice ca' c cc', .slice ia' k ic', .int .i64 lim] 27 :: .box q1 #[.slice na n nc, .slice ea m ec, .slice ca c cc, .slice ia k ic, .int .i64 lim] 27 :: []) wr)
      case atStart => exact ⟨0, rfl, by omega, hp.out⟩
      case round =>
        clear hp
        obtain ⟨i, rfl, hik, hp⟩ := hrel
        replace hp := Lib.hid hp
        have x1 := hp.out.cell (i := 1) rfl 1; have y1 := hp.out.cell (i := 0) rfl 1; simp at x1 y1
        by_cases hlt : i < m
        · skip
          obtain ⟨K, rfl⟩ : ∃ K : Nat, gk = K + 1 := ⟨gk - 1, by omega⟩
          obtain ⟨z, hz⟩ : ∃ z, E[i]? = some z := ⟨_, List.getElem?_eq_getElem (by have := hm.out; omega)⟩
          obtain ⟨bu, ou, hu1, hr1⟩ := a2.out.resolve_left (by omega)
          obtain ⟨bv, ov, hv1, hr2⟩ := b2.out.resolve_left (by omega)
          subst hu1 hv1
          have f0 : wr.cell? ⟨bu, ou + i * 3, none⟩ = some (.string (str z.var)) := (hp.out.bel.cell hr1.1).trans (hr1.elem0 Ed.cells_len hz rfl)
          have f1 : wr.cell? ⟨bu, ou + i * 3 + 1, none⟩ = some (.string (str z.typ)) := (hp.out.bel.cell hr1.1).trans (hr1.elem Ed.cells_len hz rfl)
          have f2 : wr.cell? ⟨bu, ou + i * 3 + 2, none⟩ = some (.bool z.out) := (hp.out.bel.cell hr1.1).trans (hr1.elem Ed.cells_len hz rfl)
          have g0 : wr.cell? ⟨bv, ov + i * 3, none⟩ = some (.string (str z.var)) := (hp.out.bel.cell hr2.1).trans (hr2.elem0 Ed.cells_len hz rfl)
          have g1 : wr.cell? ⟨bv, ov + i * 3 + 1, none⟩ = some (.string (str z.typ)) := (hp.out.bel.cell hr2.1).trans (hr2.elem Ed.cells_len hz rfl)
          have g2 : wr.cell? ⟨bv, ov + i * 3 + 2, none⟩ = some (.bool z.out) := (hp.out.bel.cell hr2.1).trans (hr2.elem Ed.cells_len hz rfl)
          have e3 : (0 : Int) ≤ (i : Int) := by omega
          have e4 : (i : Int) < (m : Int) := by omega
          have hjb : i < 1100 := by have := le.out; omega
          obtain ⟨S0, hS0⟩ : ∃ s, s = str z.var := ⟨_, rfl⟩
          rw [← hS0] at f0 g0
          have t0 : (S0.toList == S0.toList) = true := by simp
          clear hS0
          obtain ⟨S1, hS1⟩ : ∃ s, s = str z.typ := ⟨_, rfl⟩
          rw [← hS1] at f1 g1
          have t1 : (S1.toList == S1.toList) = true := by simp
          clear hS1
          clear hz hr1 hr2 hlt
          replace hik := Lib.hid hik
          go_wp2
          go_quiet (fail)
          go_wp2
          have hpd := Lib.hid (hp.out.drewN nq)
          clear hp
          go_roundg K
          case measure => omega
          case rel => exact ⟨i + 1, by go_num, by have := hik.out; omega, hpd.out⟩
        · skip
          have hk0 : gk = 0 := by omega
          subst hk0
          obtain rfl : m = i := by omega
          clear hik hlt a2 b2
          have x0 := hp.out.cell (i := 1) rfl 0; have x1 := hp.out.cell (i := 1) rfl 1; have x2 := hp.out.cell (i := 1) rfl 2; have x3 := hp.out.cell (i := 1) rfl 3; have x4 := hp.out.cell (i := 1) rfl 4; have y0 := hp.out.cell (i := 0) rfl 0; have y1 := hp.out.cell (i := 0) rfl 1; have y2 := hp.out.cell (i := 0) rfl 2; have y3 := hp.out.cell (i := 0) rfl 3; have y4 := hp.out.cell (i := 0) rfl 4; simp at x0 x1 x2 x3 x4 y0 y1 y2 y3 y4
          skip
          go_wp2
          try clear x0
          try clear y0
          try clear x1
          try clear y1
          try clear x2 x3 x4 y2 y3 y4
          go_loopg [10] c (fun kk s10 wr => ∃ i : Nat, s10 = .int .i64 (i : Int) ∧ i + kk = c ∧ Hp w [] (.box q2 #[.slice na' n nc', .slice ea' m ec', .slice ca' c cc', .slice ia' k ic', .int .i64 lim] 27 :: .box q1 #[.slice na n nc, .slice ea m ec, .slice ca c cc, .slice ia k ic, .int .i64 lim] 27 :: []) wr)
          case atStart => exact ⟨0, rfl, by omega, hp.out⟩
          case round =>
            clear hp
            obtain ⟨i, rfl, hik, hp⟩ := hrel
            replace hp := Lib.hid hp
            have x2 := hp.out.cell (i := 1) rfl 2; have y2 := hp.out.cell (i := 0) rfl 2; simp at x2 y2
            by_cases hlt : i < c
            · skip
              obtain ⟨K, rfl⟩ : ∃ K : Nat, gk = K + 1 := ⟨gk - 1, by omega⟩
              obtain ⟨z, hz⟩ : ∃ z, C[i]? = some z := ⟨_, List.getElem?_eq_getElem (by have := hc.out; omega)⟩
              obtain ⟨bu, ou, hu1, hr1⟩ := a3.out.resolve_left (by omega)
              obtain ⟨bv, ov, hv1, hr2⟩ := b3.out.resolve_left (by omega)
              subst hu1 hv1
              have f0 : wr.cell? ⟨bu, ou + i * 6, none⟩ = some (.string (str z.var)) := (hp.out.bel.cell hr1.1).trans (hr1.elem0 Cd.cells_len hz rfl)
              have f1 : wr.cell? ⟨bu, ou + i * 6 + 1, none⟩ = some (.string (str z.key)) := (hp.out.bel.cell hr1.1).trans (hr1.elem Cd.cells_len hz rfl)
              have f2 : wr.cell? ⟨bu, ou + i * 6 + 2, none⟩ = some (.int .i64 (z.op : Int)) := (hp.out.bel.cell hr1.1).trans (hr1.elem Cd.cells_len hz rfl)
              have f3 : wr.cell? ⟨bu, ou + i * 6 + 3, none⟩ = some (.int .i64 (z.val.k : Int)) := (hp.out.bel.cell hr1.1).trans (hr1.elem Cd.cells_len hz rfl)
              have f4 : wr.cell? ⟨bu, ou + i * 6 + 4, none⟩ = some (.int .i64 z.val.n) := (hp.out.bel.cell hr1.1).trans (hr1.elem Cd.cells_len hz rfl)
              have f5 : wr.cell? ⟨bu, ou + i * 6 + 5, none⟩ = some (.string (str z.val.s)) := (hp.out.bel.cell hr1.1).trans (hr1.elem Cd.cells_len hz rfl)
              have g0 : wr.cell? ⟨bv, ov + i * 6, none⟩ = some (.string (str z.var)) := (hp.out.bel.cell hr2.1).trans (hr2.elem0 Cd.cells_len hz rfl)
              have g1 : wr.cell? ⟨bv, ov + i * 6 + 1, none⟩ = some (.string (str z.key)) := (hp.out.bel.cell hr2.1).trans (hr2.elem Cd.cells_len hz rfl)
              have g2 : wr.cell? ⟨bv, ov + i * 6 + 2, none⟩ = some (.int .i64 (z.op : Int)) := (hp.out.bel.cell hr2.1).trans (hr2.elem Cd.cells_len hz rfl)
              have g3 : wr.cell? ⟨bv, ov + i * 6 + 3, none⟩ = some (.int .i64 (z.val.k : Int)) := (hp.out.bel.cell hr2.1).trans (hr2.elem Cd.cells_len hz rfl)
              have g4 : wr.cell? ⟨bv, ov + i * 6 + 4, none⟩ = some (.int .i64 z.val.n) := (hp.out.bel.cell hr2.1).trans (hr2.elem Cd.cells_len hz rfl)
              have g5 : wr.cell? ⟨bv, ov + i * 6 + 5, none⟩ = some (.string (str z.val.s)) := (hp.out.bel.cell hr2.1).trans (hr2.elem Cd.cells_len hz rfl)
              have e3 : (0 : Int) ≤ (i : Int) := by omega
              have e4 : (i : Int) < (c : Int) := by omega
              have hjb : i < 1100 := by have := lc.out; omega
              obtain ⟨S0, hS0⟩ : ∃ s, s = str z.var := ⟨_, rfl⟩
              rw [← hS0] at f0 g0
              have t0 : (S0.toList == S0.toList) = true := by simp
              clear hS0
              obtain ⟨S1, hS1⟩ : ∃ s, s = str z.key := ⟨_, rfl⟩
              rw [← hS1] at f1 g1
              have t1 : (S1.toList == S1.toList) = true := by simp
              clear hS1
              obtain ⟨S2, hS2⟩ : ∃ s, s = str z.val.s := ⟨_, rfl⟩
              rw [← hS2] at f5 g5
              have t2 : (S2.toList == S2.toList) = true := by simp
              clear hS2
              clear hz hr1 hr2 hlt
              replace hik := Lib.hid hik
              go_wp2
              go_quiet (fail)
              go_wp2
              have hpd := Lib.hid (hp.out.drewN nq)
              clear hp
              go_roundg K
              case measure => omega
              case rel => exact ⟨i + 1, by go_num, by have := hik.out; omega, hpd.out⟩
            · skip
              have hk0 : gk = 0 := by omega
              subst hk0
              obtain rfl : c = i := by omega
              clear hik hlt a3 b3
              have x0 := hp.out.cell (i := 1) rfl 0; have x1 := hp.out.cell (i := 1) rfl 1; have x2 := hp.out.cell (i := 1) rfl 2; have x3 := hp.out.cell (i := 1) rfl 3; have x4 := hp.out.cell (i := 1) rfl 4; have y0 := hp.out.cell (i := 0) rfl 0; have y1 := hp.out.cell (i := 0) rfl 1; have y2 := hp.out.cell (i := 0) rfl 2; have y3 := hp.out.cell (i := 0) rfl 3; have y4 := hp.out.cell (i := 0) rfl 4; simp at x0 x1 x2 x3 x4 y0 y1 y2 y3 y4
              skip
              go_wp2
              try clear x0
              try clear y0
              try clear x1
              try clear y1
              try clear x2 x3 x4 y2 y3 y4
              go_loopg [11] k (fun kk s11 wr => ∃ i : Nat, s11 = .int .i64 (i : Int) ∧ i + kk = k ∧ Hp w [] (.box q2 #[.slice na' n nc', .slice ea' m ec', .slice ca' c cc', .slice ia' k ic', .int .i64 lim] 27 :: .box q1 #[.slice na n nc, .slice ea m ec, .slice ca c cc, .slice ia k ic, .int .i64 lim] 27 :: []) wr)
              case atStart => exact ⟨0, rfl, by omega, hp.out⟩
              case round =>
                clear hp
                obtain ⟨i, rfl, hik, hp⟩ := hrel
                replace hp := Lib.hid hp
                have x3 := hp.out.cell (i := 1) rfl 3; have y3 := hp.out.cell (i := 0) rfl 3; simp at x3 y3
                by_cases hlt : i < k
                · skip
                  obtain ⟨K, rfl⟩ : ∃ K : Nat, gk = K + 1 := ⟨gk - 1, by omega⟩
                  obtain ⟨z, hz⟩ : ∃ z, I[i]? = some z := ⟨_, List.getElem?_eq_getElem (by have := hk.out; omega)⟩
                  obtain ⟨bu, ou, hu1, hr1⟩ := a4.out.resolve_left (by omega)
                  obtain ⟨bv, ov, hv1, hr2⟩ := b4.out.resolve_left (by omega)
                  subst hu1 hv1
                  have f0 : wr.cell? ⟨bu, ou + i * 2, none⟩ = some (.string (str z.var)) := (hp.out.bel.cell hr1.1).trans (hr1.elem0 It.cells_len hz rfl)
                  have f1 : wr.cell? ⟨bu, ou + i * 2 + 1, none⟩ = some (.string (str z.key)) := (hp.out.bel.cell hr1.1).trans (hr1.elem It.cells_len hz rfl)
                  have g0 : wr.cell? ⟨bv, ov + i * 2, none⟩ = some (.string (str z.var)) := (hp.out.bel.cell hr2.1).trans (hr2.elem0 It.cells_len hz rfl)
                  have g1 : wr.cell? ⟨bv, ov + i * 2 + 1, none⟩ = some (.string (str z.key)) := (hp.out.bel.cell hr2.1).trans (hr2.elem It.cells_len hz rfl)
                  have e3 : (0 : Int) ≤ (i : Int) := by omega
                  have e4 : (i : Int) < (k : Int) := by omega
                  have hjb : i < 1100 := by have := li.out; omega
                  obtain ⟨S0, hS0⟩ : ∃ s, s = str z.var := ⟨_, rfl⟩
                  rw [← hS0] at f0 g0
                  have t0 : (S0.toList == S0.toList) = true := by simp
                  clear hS0
                  obtain ⟨S1, hS1⟩ : ∃ s, s = str z.key := ⟨_, rfl⟩
                  rw [← hS1] at f1 g1
                  have t1 : (S1.toList == S1.toList) = true := by simp
                  clear hS1
                  clear hz hr1 hr2 hlt
                  replace hik := Lib.hid hik
                  go_wp2
                  go_quiet (fail)
                  go_wp2
                  have hpd := Lib.hid (hp.out.drewN nq)
                  clear hp
                  go_roundg K
                  case measure => omega
                  case rel => exact ⟨i + 1, by go_num, by have := hik.out; omega, hpd.out⟩
                · skip
                  have hk0 : gk = 0 := by omega
                  subst hk0
                  obtain rfl : k = i := by omega
                  clear hik hlt a4 b4
                  go_wp2
                  go_ret
                  exact ⟨rfl, hp.out.bel⟩
end Go.Proofs.YtgbkpkioijbgoaaDoor.qry
