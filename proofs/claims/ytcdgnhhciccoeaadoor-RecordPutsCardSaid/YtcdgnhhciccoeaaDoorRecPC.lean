/- Two things of the same labels and properties are the same, as the document has it (lodestoneref26.Same). No condition but the slices. -/
import Derived.Test.YtcdgnhhciccoeaaDoorRecP5
import Derived.Deep.Cut
import Derived.Laws.StructEq
namespace Go.Proofs.YtcdgnhhciccoeaaDoor.recw
open Go.RowKit
attribute [local go_sem ↓] Go.wp_at_zero Go.wp_at_succ
set_option linter.unusedVariables false
set_option linter.unusedSimpArgs false
set_option maxRecDepth 100000

set_option maxHeartbeats 32000000 in
theorem rsame_any (ed : Bool) (la la' : Value) (ty fm tw : Int) (pr pr' : Value) (L : List Int) (P : List Pr) (w : World) (hla : Sl w la L.length (inC L)) (hla' : Sl w la' L.length (inC L)) (hpr : Sl w pr P.length (prC P)) (hpr' : Sl w pr' P.length (prC P)) :
    Calls Tryd.prog 14 #[thV ed la ty fm tw pr, thV ed la' ty fm tw pr'] w fun e w' => e = .returned (.bool true) ∧ Below w.heap.size w w' := by
  obtain ⟨a, ac, rfl, _, h1⟩ := hla
  obtain ⟨a', ac', rfl, _, h1'⟩ := hla'
  obtain ⟨p, pc, rfl, _, h2⟩ := hpr
  obtain ⟨p', pc', rfl, _, h2'⟩ := hpr'
  obtain ⟨nl, hnl⟩ : ∃ n, n = L.length := ⟨_, rfl⟩
  obtain ⟨np, hnp⟩ : ∃ n, n = P.length := ⟨_, rfl⟩
  rw [← hnl] at h1 h1' ⊢
  rw [← hnp] at h2 h2' ⊢
  have hnlb : nl ≤ 140737488355328 := by omega
  have hnpb : np ≤ 140737488355328 := by omega
  have hp0 := ((Hp.none_ w []).alloc #[.bool ed, .slice a nl ac, .int .i64 ty, .int .u64 fm, .int .u64 tw, .slice p np pc] 26).alloc #[.bool ed, .slice a' nl ac', .int .i64 ty, .int .u64 fm, .int .u64 tw, .slice p' np pc'] 26
  have hsz : ∀ (u : World) o, (u.alloc o).heap.size = u.heap.size + 1 := fun u o => by simp
  rw [hsz] at hp0
  clear hsz
  replace hp0 := Lib.hid hp0; replace h1 := Lib.hid h1; replace h1' := Lib.hid h1'; replace h2 := Lib.hid h2; replace h2' := Lib.hid h2'; replace hnl := Lib.hid hnl; replace hnp := Lib.hid hnp
  unfold thV
  go_enter Tryd.func14, Tryd.ntmps14
  go_upto_region 1 with fail
  generalize (w.alloc _).alloc _ = W at hp0 ⊢
  generalize hq3 : w.heap.size + 1 = q3 at hp0 ⊢
  generalize hq2 : w.heap.size = q2 at hp0 ⊢
  clear hq3 hq2
  have hcs : ∀ (W' : World), Hp w [] [.box q3 #[.bool ed, .slice a' nl ac', .int .i64 ty, .int .u64 fm, .int .u64 tw, .slice p' np pc'] 26, .box q2 #[.bool ed, .slice a nl ac, .int .i64 ty, .int .u64 fm, .int .u64 tw, .slice p np pc] 26] W' → (W'.cell? ⟨q2, 0, none⟩ = some (.bool ed) ∧ W'.cell? ⟨q2, 1, none⟩ = some (.slice a nl ac) ∧ W'.cell? ⟨q2, 2, none⟩ = some (.int .i64 ty) ∧ W'.cell? ⟨q2, 3, none⟩ = some (.int .u64 fm) ∧ W'.cell? ⟨q2, 4, none⟩ = some (.int .u64 tw) ∧ W'.cell? ⟨q2, 5, none⟩ = some (.slice p np pc)) ∧ (W'.cell? ⟨q3, 0, none⟩ = some (.bool ed) ∧ W'.cell? ⟨q3, 1, none⟩ = some (.slice a' nl ac') ∧ W'.cell? ⟨q3, 2, none⟩ = some (.int .i64 ty) ∧ W'.cell? ⟨q3, 3, none⟩ = some (.int .u64 fm) ∧ W'.cell? ⟨q3, 4, none⟩ = some (.int .u64 tw) ∧ W'.cell? ⟨q3, 5, none⟩ = some (.slice p' np pc')) := fun W' h =>
    ⟨⟨(h.cell (i := 1) rfl 0).trans rfl, (h.cell (i := 1) rfl 1).trans rfl, (h.cell (i := 1) rfl 2).trans rfl, (h.cell (i := 1) rfl 3).trans rfl, (h.cell (i := 1) rfl 4).trans rfl, (h.cell (i := 1) rfl 5).trans rfl⟩, ⟨(h.cell (i := 0) rfl 0).trans rfl, (h.cell (i := 0) rfl 1).trans rfl, (h.cell (i := 0) rfl 2).trans rfl, (h.cell (i := 0) rfl 3).trans rfl, (h.cell (i := 0) rfl 4).trans rfl, (h.cell (i := 0) rfl 5).trans rfl⟩⟩
  replace hcs := Lib.hid hcs
  obtain ⟨⟨c0, c1, c2, c3, c4, c5⟩, ⟨d0, d1, d2, d3, d4, d5⟩⟩ := hcs.out _ hp0.out
  go_upto_region 4 with fail
  clear c0 c1 c2 c3 c4 c5 d0 d1 d2 d3 d4 d5
  go_loopg [5] nl (fun gj s5 wr => ∃ i : Nat, s5 = .int .i64 (i : Int) ∧ i + gj = nl ∧ Hp w [] [.box q3 #[.bool ed, .slice a' nl ac', .int .i64 ty, .int .u64 fm, .int .u64 tw, .slice p' np pc'] 26, .box q2 #[.bool ed, .slice a nl ac, .int .i64 ty, .int .u64 fm, .int .u64 tw, .slice p np pc] 26] wr)
  case atStart => exact ⟨0, rfl, by omega, hp0.out⟩
  case round =>
    clear hp0
    obtain ⟨i, rfl, hi, hp⟩ := hrel
    replace hp := Lib.hid hp
    cases gk with
    | succ u =>
      obtain ⟨b, o, rfl, hr⟩ := h1.out.resolve_left (by omega)
      obtain ⟨b', o', rfl, hr'⟩ := h1'.out.resolve_left (by omega)
      obtain ⟨x, hx⟩ : ∃ x, L[i]? = some x := ⟨_, List.getElem?_eq_getElem (by have := hnl.out; omega)⟩
      have hk : ∀ W', Hp w [] [.box q3 #[.bool ed, .slice (some ⟨b', o', none⟩) nl ac', .int .i64 ty, .int .u64 fm, .int .u64 tw, .slice p' np pc'] 26, .box q2 #[.bool ed, .slice (some ⟨b, o, none⟩) nl ac, .int .i64 ty, .int .u64 fm, .int .u64 tw, .slice p np pc] 26] W' → W'.cell? ⟨q2, 1, none⟩ = some (.slice (some ⟨b, o, none⟩) nl ac) ∧ W'.cell? ⟨q3, 1, none⟩ = some (.slice (some ⟨b', o', none⟩) nl ac') ∧ W'.cell? ⟨b, o + i, none⟩ = some (.int .i64 x) ∧ W'.cell? ⟨b', o' + i, none⟩ = some (.int .i64 x) := fun W' h => ⟨(hcs.out _ h).1.2.1, (hcs.out _ h).2.2.1, (h.bel.cell hr.1).trans (hr.2 i _ (by simp [inC, hx])), (h.bel.cell hr'.1).trans (hr'.2 i _ (by simp [inC, hx]))⟩
      have g1 : (0 : Int) ≤ (i : Int) := by omega
      have g2 : (i : Int) < (nl : Int) := by omega
      replace hk := Lib.hid hk
      clear hr hr' hx
      obtain ⟨⟨c0, c1, c2, c3, c4, c5⟩, -⟩ := hcs.out _ hp.out
      go_upto_region 6 with fail
      clear c0 c1 c2 c3 c4 c5
      have hd := Lib.hid hp.out.drew
      refine wp_region_noPanic ?_; refine wp_region_held_drew (S := (fun W' => W'.cell? ⟨q2, 1, none⟩ = some (.slice (some ⟨b, o, none⟩) nl ac) ∧ W'.cell? ⟨q3, 1, none⟩ = some (.slice (some ⟨b', o', none⟩) nl ac') ∧ W'.cell? ⟨b, o + i, none⟩ = some (.int .i64 x) ∧ W'.cell? ⟨b', o' + i, none⟩ = some (.int .i64 x))) (by kernel_rfl) ?_ (fun hHeld => ?_); (focus ((try dsimp only); exact hk.out _ hd.out; done)); (refine take_t (i := 0) (d := 58) (oi := _) (v := ?_) rfl rfl (by kernel_rfl) (by kernel_rfl) (by kernel_rfl) (by rfl) ?_ (by assumption) ?_; rotate_left; (focus (intro w0 hSw; (try dsimp only at hSw); go_simp; (try with_reducible rfl); done)); ((try simp only [Act.put, List.setIfInBounds_toArray]); (try dsimp only [List.set_cons_zero, List.set_cons_succ]))); (refine take_t (i := 1) (d := 59) (oi := _) (v := ?_) rfl rfl (by kernel_rfl) (by kernel_rfl) (by kernel_rfl) (by rfl) ?_ (by assumption) ?_; rotate_left; (focus (intro w0 hSw; (try dsimp only at hSw); go_simp; (try with_reducible rfl); done)); ((try simp only [Act.put, List.setIfInBounds_toArray]); (try dsimp only [List.set_cons_zero, List.set_cons_succ]))); (refine take_t (i := 2) (d := 60) (oi := _) (v := ?_) rfl rfl (by kernel_rfl) (by kernel_rfl) (by kernel_rfl) (by rfl) ?_ (by assumption) ?_; rotate_left; (focus (intro w0 hSw; (try dsimp only at hSw); go_simp; (try with_reducible rfl); done)); ((try simp only [Act.put, List.setIfInBounds_toArray]); (try dsimp only [List.set_cons_zero, List.set_cons_succ]))); (refine take_t (i := 3) (d := 61) (oi := _) (v := ?_) rfl rfl (by kernel_rfl) (by kernel_rfl) (by kernel_rfl) (by rfl) ?_ (by assumption) ?_; rotate_left; (focus (intro w0 hSw; (try dsimp only at hSw); go_simp; (try with_reducible rfl); done)); ((try simp only [Act.put, List.setIfInBounds_toArray]); (try dsimp only [List.set_cons_zero, List.set_cons_succ]))); (refine take_t (i := 4) (d := 62) (oi := _) (v := ?_) rfl rfl (by kernel_rfl) (by kernel_rfl) (by kernel_rfl) (by rfl) ?_ (by assumption) ?_; rotate_left; (focus (intro w0 hSw; (try dsimp only at hSw); go_simp; (try with_reducible rfl); done)); ((try simp only [Act.put, List.setIfInBounds_toArray]); (try dsimp only [List.set_cons_zero, List.set_cons_succ]))); (refine take_t (i := 5) (d := 63) (oi := _) (v := ?_) rfl rfl (by kernel_rfl) (by kernel_rfl) (by kernel_rfl) (by rfl) ?_ (by assumption) ?_; rotate_left; (focus (intro w0 hSw; (try dsimp only at hSw); go_simp; (try with_reducible rfl); done)); ((try simp only [Act.put, List.setIfInBounds_toArray]); (try dsimp only [List.set_cons_zero, List.set_cons_succ]))); (refine take_t (i := 6) (d := 64) (oi := _) (v := ?_) rfl rfl (by kernel_rfl) (by kernel_rfl) (by kernel_rfl) (by rfl) ?_ (by assumption) ?_; rotate_left; (focus (intro w0 hSw; (try dsimp only at hSw); go_simp; (try with_reducible rfl); done)); ((try simp only [Act.put, List.setIfInBounds_toArray]); (try dsimp only [List.set_cons_zero, List.set_cons_succ]))); (refine take_t (i := 7) (d := 65) (oi := _) (v := ?_) rfl rfl (by kernel_rfl) (by kernel_rfl) (by kernel_rfl) (by rfl) ?_ (by assumption) ?_; rotate_left; (focus (intro w0 hSw; (try dsimp only at hSw); go_simp; (try with_reducible rfl); done)); ((try simp only [Act.put, List.setIfInBounds_toArray]); (try dsimp only [List.set_cons_zero, List.set_cons_succ]))); (refine take_t (i := 8) (d := 66) (oi := _) (v := ?_) rfl rfl (by kernel_rfl) (by kernel_rfl) (by kernel_rfl) (by rfl) ?_ (by assumption) ?_; rotate_left; (focus (intro w0 hSw; (try dsimp only at hSw); go_simp; (try with_reducible rfl); done)); ((try simp only [Act.put, List.setIfInBounds_toArray]); (try dsimp only [List.set_cons_zero, List.set_cons_succ]))); (refine take_t (i := 9) (d := 67) (oi := _) (v := ?_) rfl rfl (by kernel_rfl) (by kernel_rfl) (by kernel_rfl) (by rfl) ?_ (by assumption) ?_; rotate_left; (focus (intro w0 hSw; (try dsimp only at hSw); go_simp; (try with_reducible rfl); done)); ((try simp only [Act.put, List.setIfInBounds_toArray]); (try dsimp only [List.set_cons_zero, List.set_cons_succ]))); (refine take_t (i := 10) (d := 68) (oi := _) (v := ?_) rfl rfl (by kernel_rfl) (by kernel_rfl) (by kernel_rfl) (by rfl) ?_ (by assumption) ?_; rotate_left; (focus (intro w0 hSw; (try dsimp only at hSw); go_simp; (try with_reducible rfl); done)); ((try simp only [Act.put, List.setIfInBounds_toArray]); (try dsimp only [List.set_cons_zero, List.set_cons_succ]))); refine wpAnyH_done (by kernel_rfl) ?_ _; refine NoPanic.normal ?_
      go_wp2
      go_roundg u
      case rel => exact ⟨i + 1, by go_num, by omega, hd.out⟩
      case measure => omega
    | zero =>
      obtain rfl : i = nl := by omega
      have e1 : ¬ ((i : Int) < (i : Int)) := by omega
      obtain ⟨⟨c0, c1, c2, c3, c4, c5⟩, -⟩ := hcs.out _ hp.out
      go_upto_region 9 with fail
      clear c0 c1 c2 c3 c4 c5 e1
      go_loopg [6] np (fun gj s6 wr => ∃ m : Nat, s6 = .int .i64 (m : Int) ∧ m + gj = np ∧ Hp w [] [.box q3 #[.bool ed, .slice a' i ac', .int .i64 ty, .int .u64 fm, .int .u64 tw, .slice p' np pc'] 26, .box q2 #[.bool ed, .slice a i ac, .int .i64 ty, .int .u64 fm, .int .u64 tw, .slice p np pc] 26] wr)
      case atStart => exact ⟨0, rfl, by omega, hp.out⟩
      case round =>
        clear hp
        obtain ⟨m, rfl, hm, hp⟩ := hrel
        replace hp := Lib.hid hp
        obtain ⟨⟨c0, c1, c2, c3, c4, c5⟩, -⟩ := hcs.out _ hp.out
        cases gk with
        | succ u =>
          obtain ⟨b, o, rfl, hr⟩ := h2.out.resolve_left (by omega)
          obtain ⟨b', o', rfl, hr'⟩ := h2'.out.resolve_left (by omega)
          obtain ⟨x, hx⟩ : ∃ x, P[m]? = some x := ⟨_, List.getElem?_eq_getElem (by have := hnp.out; omega)⟩
          obtain ⟨xk, xd, xn, xs⟩ := x
          have hk : ∀ W', Hp w [] [.box q3 #[.bool ed, .slice a' i ac', .int .i64 ty, .int .u64 fm, .int .u64 tw, .slice (some ⟨b', o', none⟩) np pc'] 26, .box q2 #[.bool ed, .slice a i ac, .int .i64 ty, .int .u64 fm, .int .u64 tw, .slice (some ⟨b, o, none⟩) np pc] 26] W' → W'.cell? ⟨q2, 5, none⟩ = some (.slice (some ⟨b, o, none⟩) np pc) ∧ W'.cell? ⟨q3, 5, none⟩ = some (.slice (some ⟨b', o', none⟩) np pc') ∧ (W'.cell? ⟨b, o + m * 4, none⟩ = some (.int .i64 xk) ∧ W'.cell? ⟨b, o + m * 4 + 1, none⟩ = some (.int .i64 xd) ∧ W'.cell? ⟨b, o + m * 4 + 2, none⟩ = some (.int .i64 xn) ∧ W'.cell? ⟨b, o + m * 4 + 3, none⟩ = some (.string xs)) ∧ (W'.cell? ⟨b', o' + m * 4, none⟩ = some (.int .i64 xk) ∧ W'.cell? ⟨b', o' + m * 4 + 1, none⟩ = some (.int .i64 xd) ∧ W'.cell? ⟨b', o' + m * 4 + 2, none⟩ = some (.int .i64 xn) ∧ W'.cell? ⟨b', o' + m * 4 + 3, none⟩ = some (.string xs)) := fun W' h => ⟨(hcs.out _ h).1.2.2.2.2.2, (hcs.out _ h).2.2.2.2.2.2, ⟨(h.bel.cell hr.1).trans (hr.elem0 Pr.c_len hx rfl), (h.bel.cell hr.1).trans (hr.elem Pr.c_len hx rfl), (h.bel.cell hr.1).trans (hr.elem Pr.c_len hx rfl), (h.bel.cell hr.1).trans (hr.elem Pr.c_len hx rfl)⟩, ⟨(h.bel.cell hr'.1).trans (hr'.elem0 Pr.c_len hx rfl), (h.bel.cell hr'.1).trans (hr'.elem Pr.c_len hx rfl), (h.bel.cell hr'.1).trans (hr'.elem Pr.c_len hx rfl), (h.bel.cell hr'.1).trans (hr'.elem Pr.c_len hx rfl)⟩⟩
          have g1 : (0 : Int) ≤ (m : Int) := by omega
          have g2 : (m : Int) < (np : Int) := by omega
          have hss : (xs.toList == xs.toList) = true := by simp
          replace hk := Lib.hid hk
          clear hr hr' hx
          go_upto_region 11 with fail
          clear c0 c1 c2 c3 c4 c5
          have hd := Lib.hid hp.out.drew
          refine wp_region_noPanic ?_; refine wp_region_held_drew (S := (fun W' => W'.cell? ⟨q2, 5, none⟩ = some (.slice (some ⟨b, o, none⟩) np pc) ∧ W'.cell? ⟨q3, 5, none⟩ = some (.slice (some ⟨b', o', none⟩) np pc') ∧ (W'.cell? ⟨b, o + m * 4, none⟩ = some (.int .i64 xk) ∧ W'.cell? ⟨b, o + m * 4 + 1, none⟩ = some (.int .i64 xd) ∧ W'.cell? ⟨b, o + m * 4 + 2, none⟩ = some (.int .i64 xn) ∧ W'.cell? ⟨b, o + m * 4 + 3, none⟩ = some (.string xs)) ∧ (W'.cell? ⟨b', o' + m * 4, none⟩ = some (.int .i64 xk) ∧ W'.cell? ⟨b', o' + m * 4 + 1, none⟩ = some (.int .i64 xd) ∧ W'.cell? ⟨b', o' + m * 4 + 2, none⟩ = some (.int .i64 xn) ∧ W'.cell? ⟨b', o' + m * 4 + 3, none⟩ = some (.string xs)))) (by kernel_rfl) ?_ (fun hHeld => ?_); (focus ((try dsimp only); exact hk.out _ hd.out; done)); (refine take_t (i := 0) (d := 76) (oi := _) (v := ?_) rfl rfl (by kernel_rfl) (by kernel_rfl) (by kernel_rfl) (by rfl) ?_ (by assumption) ?_; rotate_left; (focus (intro w0 hSw; (try dsimp only at hSw); go_simp; (try with_reducible rfl); done)); ((try simp only [Act.put, List.setIfInBounds_toArray]); (try dsimp only [List.set_cons_zero, List.set_cons_succ]))); (refine take_t (i := 1) (d := 77) (oi := _) (v := ?_) rfl rfl (by kernel_rfl) (by kernel_rfl) (by kernel_rfl) (by rfl) ?_ (by assumption) ?_; rotate_left; (focus (intro w0 hSw; (try dsimp only at hSw); go_simp; (try with_reducible rfl); done)); ((try simp only [Act.put, List.setIfInBounds_toArray]); (try dsimp only [List.set_cons_zero, List.set_cons_succ]))); (refine take_t (i := 2) (d := 78) (oi := _) (v := ?_) rfl rfl (by kernel_rfl) (by kernel_rfl) (by kernel_rfl) (by rfl) ?_ (by assumption) ?_; rotate_left; (focus (intro w0 hSw; (try dsimp only at hSw); go_simp; (try with_reducible rfl); done)); ((try simp only [Act.put, List.setIfInBounds_toArray]); (try dsimp only [List.set_cons_zero, List.set_cons_succ]))); (refine take_t (i := 3) (d := 79) (oi := _) (v := ?_) rfl rfl (by kernel_rfl) (by kernel_rfl) (by kernel_rfl) (by rfl) ?_ (by assumption) ?_; rotate_left; (focus (intro w0 hSw; (try dsimp only at hSw); go_simp; (try with_reducible rfl); done)); ((try simp only [Act.put, List.setIfInBounds_toArray]); (try dsimp only [List.set_cons_zero, List.set_cons_succ]))); (refine take_t (i := 4) (d := 80) (oi := _) (v := ?_) rfl rfl (by kernel_rfl) (by kernel_rfl) (by kernel_rfl) (by rfl) ?_ (by assumption) ?_; rotate_left; (focus (intro w0 hSw; (try dsimp only at hSw); go_simp; (try with_reducible rfl); done)); ((try simp only [Act.put, List.setIfInBounds_toArray]); (try dsimp only [List.set_cons_zero, List.set_cons_succ]))); (refine take_t (i := 5) (d := 81) (oi := _) (v := ?_) rfl rfl (by kernel_rfl) (by kernel_rfl) (by kernel_rfl) (by rfl) ?_ (by assumption) ?_; rotate_left; (focus (intro w0 hSw; (try dsimp only at hSw); go_simp; (try with_reducible rfl); done)); ((try simp only [Act.put, List.setIfInBounds_toArray]); (try dsimp only [List.set_cons_zero, List.set_cons_succ]))); (refine take_t (i := 6) (d := 82) (oi := _) (v := ?_) rfl rfl (by kernel_rfl) (by kernel_rfl) (by kernel_rfl) (by rfl) ?_ (by assumption) ?_; rotate_left; (focus (intro w0 hSw; (try dsimp only at hSw); go_simp; (try with_reducible rfl); done)); ((try simp only [Act.put, List.setIfInBounds_toArray]); (try dsimp only [List.set_cons_zero, List.set_cons_succ]))); (refine take_t (i := 7) (d := 83) (oi := _) (v := ?_) rfl rfl (by kernel_rfl) (by kernel_rfl) (by kernel_rfl) (by rfl) ?_ (by assumption) ?_; rotate_left; (focus (intro w0 hSw; (try dsimp only at hSw); go_simp; (try with_reducible rfl); done)); ((try simp only [Act.put, List.setIfInBounds_toArray]); (try dsimp only [List.set_cons_zero, List.set_cons_succ]))); (refine take_t (i := 8) (d := 84) (oi := _) (v := ?_) rfl rfl (by kernel_rfl) (by kernel_rfl) (by kernel_rfl) (by rfl) ?_ (by assumption) ?_; rotate_left; (focus (intro w0 hSw; (try dsimp only at hSw); go_simp; (try with_reducible rfl); done)); ((try simp only [Act.put, List.setIfInBounds_toArray]); (try dsimp only [List.set_cons_zero, List.set_cons_succ]))); (refine take_t (i := 9) (d := 85) (oi := _) (v := ?_) rfl rfl (by kernel_rfl) (by kernel_rfl) (by kernel_rfl) (by rfl) ?_ (by assumption) ?_; rotate_left; (focus (intro w0 hSw; (try dsimp only at hSw); go_simp; (try with_reducible rfl); done)); ((try simp only [Act.put, List.setIfInBounds_toArray]); (try dsimp only [List.set_cons_zero, List.set_cons_succ]))); (refine take_t (i := 10) (d := 86) (oi := _) (v := ?_) rfl rfl (by kernel_rfl) (by kernel_rfl) (by kernel_rfl) (by rfl) ?_ (by assumption) ?_; rotate_left; (focus (intro w0 hSw; (try dsimp only at hSw); go_simp; (try with_reducible rfl); done)); ((try simp only [Act.put, List.setIfInBounds_toArray]); (try dsimp only [List.set_cons_zero, List.set_cons_succ]))); refine wpAnyH_done (by kernel_rfl) ?_ _; refine NoPanic.normal ?_
          go_wp2
          go_roundg u
          case rel => exact ⟨m + 1, by go_num, by omega, hd.out⟩
          case measure => omega
        | zero =>
          obtain rfl : m = np := by omega
          have e1 : ¬ ((m : Int) < (m : Int)) := by omega
          go_wp2
          go_ret
          exact ⟨rfl, hp.out.bel⟩
end Go.Proofs.YtcdgnhhciccoeaaDoor.recw
