/- Two pages of the same entries and pages below are the same, as the document has it (lodestoneref17.Same). No condition but the slices. -/
import Derived.Test.YtcdgnhhciccoeaaNod2
import Derived.Deep.Cut
import Derived.Laws.StructEq
namespace Go.Proofs.Ytcdgnhhciccoeaa.nod
open Go.RowKit
attribute [local go_sem ↓] Go.wp_at_zero Go.wp_at_succ
set_option linter.unusedVariables false
set_option linter.unusedSimpArgs false
set_option maxRecDepth 100000

set_option maxHeartbeats 32000000 in
theorem rsame_any (ev kv ev2 kv2 : Value) (E : List En) (K : List Kd) (w : World) (he : Sl w ev E.length (enC E)) (hk : Sl w kv K.length (kdC K)) (he2 : Sl w ev2 E.length (enC E)) (hk2 : Sl w kv2 K.length (kdC K)) :
    Calls Try.prog 13 #[nodV ev kv, nodV ev2 kv2] w fun e w' => e = .returned (.bool true) ∧ Below w.heap.size w w' := by
  obtain ⟨a, ac, rfl, _, h1⟩ := he
  obtain ⟨a', ac', rfl, _, h1'⟩ := he2
  obtain ⟨p, pc, rfl, _, h2⟩ := hk
  obtain ⟨p', pc', rfl, _, h2'⟩ := hk2
  obtain ⟨nl, hnl⟩ : ∃ n, n = E.length := ⟨_, rfl⟩
  obtain ⟨np, hnp⟩ : ∃ n, n = K.length := ⟨_, rfl⟩
  rw [← hnl] at h1 h1' ⊢
  rw [← hnp] at h2 h2' ⊢
  have hnlb : nl ≤ 140737488355328 := by omega
  have hnpb : np ≤ 140737488355328 := by omega
  have hp0 := ((Hp.none_ w []).alloc #[.slice a nl ac, .slice p np pc] 25).alloc #[.slice a' nl ac', .slice p' np pc'] 25
  have hsz : ∀ (u : World) o, (u.alloc o).heap.size = u.heap.size + 1 := fun u o => by simp
  rw [hsz] at hp0
  clear hsz
  replace hp0 := Lib.hid hp0; replace h1 := Lib.hid h1; replace h1' := Lib.hid h1'; replace h2 := Lib.hid h2; replace h2' := Lib.hid h2'; replace hnl := Lib.hid hnl; replace hnp := Lib.hid hnp
  unfold nodV
  go_enter Try.func13, Try.ntmps13
  go_upto_region 1 with fail
  generalize (w.alloc _).alloc _ = W at hp0 ⊢
  generalize hq3 : w.heap.size + 1 = q3 at hp0 ⊢
  generalize hq2 : w.heap.size = q2 at hp0 ⊢
  clear hq3 hq2
  have hcs : ∀ (W' : World), Hp w [] [.box q3 #[.slice a' nl ac', .slice p' np pc'] 25, .box q2 #[.slice a nl ac, .slice p np pc] 25] W' → (W'.cell? ⟨q2, 0, none⟩ = some (.slice a nl ac) ∧ W'.cell? ⟨q2, 1, none⟩ = some (.slice p np pc)) ∧ (W'.cell? ⟨q3, 0, none⟩ = some (.slice a' nl ac') ∧ W'.cell? ⟨q3, 1, none⟩ = some (.slice p' np pc')) := fun W' h =>
    ⟨⟨(h.cell (i := 1) rfl 0).trans rfl, (h.cell (i := 1) rfl 1).trans rfl⟩, ⟨(h.cell (i := 0) rfl 0).trans rfl, (h.cell (i := 0) rfl 1).trans rfl⟩⟩
  replace hcs := Lib.hid hcs
  obtain ⟨⟨c0, c1⟩, ⟨d0, d1⟩⟩ := hcs.out _ hp0.out
  go_upto_region 4 with fail
  clear c0 c1 d0 d1
  go_loopg [5] nl (fun gj s5 wr => ∃ i : Nat, s5 = .int .i64 (i : Int) ∧ i + gj = nl ∧ Hp w [] [.box q3 #[.slice a' nl ac', .slice p' np pc'] 25, .box q2 #[.slice a nl ac, .slice p np pc] 25] wr)
  case atStart => exact ⟨0, rfl, by omega, hp0.out⟩
  case round =>
    clear hp0
    obtain ⟨i, rfl, hi, hp⟩ := hrel
    replace hp := Lib.hid hp
    cases gk with
    | succ u =>
      obtain ⟨b, o, rfl, hr⟩ := h1.out.resolve_left (by omega)
      obtain ⟨b', o', rfl, hr'⟩ := h1'.out.resolve_left (by omega)
      obtain ⟨x, hx⟩ : ∃ x, E[i]? = some x := ⟨_, List.getElem?_eq_getElem (by have := hnl.out; omega)⟩
      obtain ⟨xk, xv⟩ := x
      have hk : ∀ W', Hp w [] [.box q3 #[.slice (some ⟨b', o', none⟩) nl ac', .slice p' np pc'] 25, .box q2 #[.slice (some ⟨b, o, none⟩) nl ac, .slice p np pc] 25] W' → W'.cell? ⟨q2, 0, none⟩ = some (.slice (some ⟨b, o, none⟩) nl ac) ∧ W'.cell? ⟨q3, 0, none⟩ = some (.slice (some ⟨b', o', none⟩) nl ac') ∧ (W'.cell? ⟨b, o + i * 2, none⟩ = some (.string xk) ∧ W'.cell? ⟨b, o + i * 2 + 1, none⟩ = some (.string xv)) ∧ (W'.cell? ⟨b', o' + i * 2, none⟩ = some (.string xk) ∧ W'.cell? ⟨b', o' + i * 2 + 1, none⟩ = some (.string xv)) := fun W' h => ⟨(hcs.out _ h).1.1, (hcs.out _ h).2.1, ⟨(h.bel.cell hr.1).trans (hr.elem0 En.c_len hx rfl), (h.bel.cell hr.1).trans (hr.elem En.c_len hx rfl)⟩, ⟨(h.bel.cell hr'.1).trans (hr'.elem0 En.c_len hx rfl), (h.bel.cell hr'.1).trans (hr'.elem En.c_len hx rfl)⟩⟩
      have g1 : (0 : Int) ≤ (i : Int) := by omega
      have g2 : (i : Int) < (nl : Int) := by omega
      have hss : (xk.toList == xk.toList) = true := by simp
      have hss2 : (xv.toList == xv.toList) = true := by simp
      replace hk := Lib.hid hk
      clear hr hr' hx
      obtain ⟨⟨c0, c1⟩, -⟩ := hcs.out _ hp.out
      go_upto_region 6 with fail
      clear c0 c1
      have hd := Lib.hid hp.out.drew
      refine wp_region_noPanic ?_; refine wp_region_held_drew (S := (fun W' => W'.cell? ⟨q2, 0, none⟩ = some (.slice (some ⟨b, o, none⟩) nl ac) ∧ W'.cell? ⟨q3, 0, none⟩ = some (.slice (some ⟨b', o', none⟩) nl ac') ∧ (W'.cell? ⟨b, o + i * 2, none⟩ = some (.string xk) ∧ W'.cell? ⟨b, o + i * 2 + 1, none⟩ = some (.string xv)) ∧ (W'.cell? ⟨b', o' + i * 2, none⟩ = some (.string xk) ∧ W'.cell? ⟨b', o' + i * 2 + 1, none⟩ = some (.string xv)))) (by kernel_rfl) ?_ (fun hHeld => ?_); (focus ((try dsimp only); exact hk.out _ hd.out; done)); (refine take_t (i := 0) (d := 30) (oi := _) (v := ?_) rfl rfl (by kernel_rfl) (by kernel_rfl) (by kernel_rfl) (by rfl) ?_ (by assumption) ?_; rotate_left; (focus (intro w0 hSw; (try dsimp only at hSw); go_simp; (try with_reducible rfl); done)); ((try simp only [Act.put, List.setIfInBounds_toArray]); (try dsimp only [List.set_cons_zero, List.set_cons_succ]))); (refine take_t (i := 1) (d := 31) (oi := _) (v := ?_) rfl rfl (by kernel_rfl) (by kernel_rfl) (by kernel_rfl) (by rfl) ?_ (by assumption) ?_; rotate_left; (focus (intro w0 hSw; (try dsimp only at hSw); go_simp; (try with_reducible rfl); done)); ((try simp only [Act.put, List.setIfInBounds_toArray]); (try dsimp only [List.set_cons_zero, List.set_cons_succ]))); (refine take_t (i := 2) (d := 32) (oi := _) (v := ?_) rfl rfl (by kernel_rfl) (by kernel_rfl) (by kernel_rfl) (by rfl) ?_ (by assumption) ?_; rotate_left; (focus (intro w0 hSw; (try dsimp only at hSw); go_simp; (try with_reducible rfl); done)); ((try simp only [Act.put, List.setIfInBounds_toArray]); (try dsimp only [List.set_cons_zero, List.set_cons_succ]))); (refine take_t (i := 3) (d := 33) (oi := _) (v := ?_) rfl rfl (by kernel_rfl) (by kernel_rfl) (by kernel_rfl) (by rfl) ?_ (by assumption) ?_; rotate_left; (focus (intro w0 hSw; (try dsimp only at hSw); go_simp; (try with_reducible rfl); done)); ((try simp only [Act.put, List.setIfInBounds_toArray]); (try dsimp only [List.set_cons_zero, List.set_cons_succ]))); (refine take_t (i := 4) (d := 34) (oi := _) (v := ?_) rfl rfl (by kernel_rfl) (by kernel_rfl) (by kernel_rfl) (by rfl) ?_ (by assumption) ?_; rotate_left; (focus (intro w0 hSw; (try dsimp only at hSw); go_simp; (try with_reducible rfl); done)); ((try simp only [Act.put, List.setIfInBounds_toArray]); (try dsimp only [List.set_cons_zero, List.set_cons_succ]))); (refine take_t (i := 5) (d := 35) (oi := _) (v := ?_) rfl rfl (by kernel_rfl) (by kernel_rfl) (by kernel_rfl) (by rfl) ?_ (by assumption) ?_; rotate_left; (focus (intro w0 hSw; (try dsimp only at hSw); go_simp; (try with_reducible rfl); done)); ((try simp only [Act.put, List.setIfInBounds_toArray]); (try dsimp only [List.set_cons_zero, List.set_cons_succ]))); (refine take_t (i := 6) (d := 36) (oi := _) (v := ?_) rfl rfl (by kernel_rfl) (by kernel_rfl) (by kernel_rfl) (by rfl) ?_ (by assumption) ?_; rotate_left; (focus (intro w0 hSw; (try dsimp only at hSw); go_simp; (try with_reducible rfl); done)); ((try simp only [Act.put, List.setIfInBounds_toArray]); (try dsimp only [List.set_cons_zero, List.set_cons_succ]))); (refine take_t (i := 7) (d := 37) (oi := _) (v := ?_) rfl rfl (by kernel_rfl) (by kernel_rfl) (by kernel_rfl) (by rfl) ?_ (by assumption) ?_; rotate_left; (focus (intro w0 hSw; (try dsimp only at hSw); go_simp; (try with_reducible rfl); done)); ((try simp only [Act.put, List.setIfInBounds_toArray]); (try dsimp only [List.set_cons_zero, List.set_cons_succ]))); (refine take_t (i := 8) (d := 38) (oi := _) (v := ?_) rfl rfl (by kernel_rfl) (by kernel_rfl) (by kernel_rfl) (by rfl) ?_ (by assumption) ?_; rotate_left; (focus (intro w0 hSw; (try dsimp only at hSw); go_simp; (try with_reducible rfl); done)); ((try simp only [Act.put, List.setIfInBounds_toArray]); (try dsimp only [List.set_cons_zero, List.set_cons_succ]))); (refine take_t (i := 9) (d := 39) (oi := _) (v := ?_) rfl rfl (by kernel_rfl) (by kernel_rfl) (by kernel_rfl) (by rfl) ?_ (by assumption) ?_; rotate_left; (focus (intro w0 hSw; (try dsimp only at hSw); go_simp; (try with_reducible rfl); done)); ((try simp only [Act.put, List.setIfInBounds_toArray]); (try dsimp only [List.set_cons_zero, List.set_cons_succ]))); (refine take_t (i := 10) (d := 40) (oi := _) (v := ?_) rfl rfl (by kernel_rfl) (by kernel_rfl) (by kernel_rfl) (by rfl) ?_ (by assumption) ?_; rotate_left; (focus (intro w0 hSw; (try dsimp only at hSw); go_simp; (try with_reducible rfl); done)); ((try simp only [Act.put, List.setIfInBounds_toArray]); (try dsimp only [List.set_cons_zero, List.set_cons_succ]))); refine wpAnyH_done (by kernel_rfl) ?_ _; refine NoPanic.normal ?_
      go_wp2
      go_roundg u
      case rel => exact ⟨i + 1, by go_num, by omega, hd.out⟩
      case measure => omega
    | zero =>
      obtain rfl : i = nl := by omega
      have e1 : ¬ ((i : Int) < (i : Int)) := by omega
      obtain ⟨⟨c0, c1⟩, -⟩ := hcs.out _ hp.out
      go_upto_region 9 with fail
      clear c0 c1 e1
      go_loopg [6] np (fun gj s6 wr => ∃ m : Nat, s6 = .int .i64 (m : Int) ∧ m + gj = np ∧ Hp w [] [.box q3 #[.slice a' i ac', .slice p' np pc'] 25, .box q2 #[.slice a i ac, .slice p np pc] 25] wr)
      case atStart => exact ⟨0, rfl, by omega, hp.out⟩
      case round =>
        clear hp
        obtain ⟨m, rfl, hm, hp⟩ := hrel
        replace hp := Lib.hid hp
        obtain ⟨⟨c0, c1⟩, -⟩ := hcs.out _ hp.out
        cases gk with
        | succ u =>
          obtain ⟨b, o, rfl, hr⟩ := h2.out.resolve_left (by omega)
          obtain ⟨b', o', rfl, hr'⟩ := h2'.out.resolve_left (by omega)
          obtain ⟨x, hx⟩ : ∃ x, K[m]? = some x := ⟨_, List.getElem?_eq_getElem (by have := hnp.out; omega)⟩
          obtain ⟨xl, xp, xs⟩ := x
          have hk : ∀ W', Hp w [] [.box q3 #[.slice a' i ac', .slice (some ⟨b', o', none⟩) np pc'] 25, .box q2 #[.slice a i ac, .slice (some ⟨b, o, none⟩) np pc] 25] W' → W'.cell? ⟨q2, 1, none⟩ = some (.slice (some ⟨b, o, none⟩) np pc) ∧ W'.cell? ⟨q3, 1, none⟩ = some (.slice (some ⟨b', o', none⟩) np pc') ∧ (W'.cell? ⟨b, o + m * 3, none⟩ = some (.string xl) ∧ W'.cell? ⟨b, o + m * 3 + 1, none⟩ = some (.int .i64 xp) ∧ W'.cell? ⟨b, o + m * 3 + 2, none⟩ = some (.string xs)) ∧ (W'.cell? ⟨b', o' + m * 3, none⟩ = some (.string xl) ∧ W'.cell? ⟨b', o' + m * 3 + 1, none⟩ = some (.int .i64 xp) ∧ W'.cell? ⟨b', o' + m * 3 + 2, none⟩ = some (.string xs)) := fun W' h => ⟨(hcs.out _ h).1.2, (hcs.out _ h).2.2, ⟨(h.bel.cell hr.1).trans (hr.elem0 Kd.c_len hx rfl), (h.bel.cell hr.1).trans (hr.elem Kd.c_len hx rfl), (h.bel.cell hr.1).trans (hr.elem Kd.c_len hx rfl)⟩, ⟨(h.bel.cell hr'.1).trans (hr'.elem0 Kd.c_len hx rfl), (h.bel.cell hr'.1).trans (hr'.elem Kd.c_len hx rfl), (h.bel.cell hr'.1).trans (hr'.elem Kd.c_len hx rfl)⟩⟩
          have g1 : (0 : Int) ≤ (m : Int) := by omega
          have g2 : (m : Int) < (np : Int) := by omega
          have hss : (xl.toList == xl.toList) = true := by simp
          have hss2 : (xs.toList == xs.toList) = true := by simp
          replace hk := Lib.hid hk
          clear hr hr' hx
          go_upto_region 11 with fail
          clear c0 c1
          have hd := Lib.hid hp.out.drew
          refine wp_region_noPanic ?_; refine wp_region_held_drew (S := (fun W' => W'.cell? ⟨q2, 1, none⟩ = some (.slice (some ⟨b, o, none⟩) np pc) ∧ W'.cell? ⟨q3, 1, none⟩ = some (.slice (some ⟨b', o', none⟩) np pc') ∧ (W'.cell? ⟨b, o + m * 3, none⟩ = some (.string xl) ∧ W'.cell? ⟨b, o + m * 3 + 1, none⟩ = some (.int .i64 xp) ∧ W'.cell? ⟨b, o + m * 3 + 2, none⟩ = some (.string xs)) ∧ (W'.cell? ⟨b', o' + m * 3, none⟩ = some (.string xl) ∧ W'.cell? ⟨b', o' + m * 3 + 1, none⟩ = some (.int .i64 xp) ∧ W'.cell? ⟨b', o' + m * 3 + 2, none⟩ = some (.string xs)))) (by kernel_rfl) ?_ (fun hHeld => ?_); (focus ((try dsimp only); exact hk.out _ hd.out; done)); (refine take_t (i := 0) (d := 48) (oi := _) (v := ?_) rfl rfl (by kernel_rfl) (by kernel_rfl) (by kernel_rfl) (by rfl) ?_ (by assumption) ?_; rotate_left; (focus (intro w0 hSw; (try dsimp only at hSw); go_simp; (try with_reducible rfl); done)); ((try simp only [Act.put, List.setIfInBounds_toArray]); (try dsimp only [List.set_cons_zero, List.set_cons_succ]))); (refine take_t (i := 1) (d := 49) (oi := _) (v := ?_) rfl rfl (by kernel_rfl) (by kernel_rfl) (by kernel_rfl) (by rfl) ?_ (by assumption) ?_; rotate_left; (focus (intro w0 hSw; (try dsimp only at hSw); go_simp; (try with_reducible rfl); done)); ((try simp only [Act.put, List.setIfInBounds_toArray]); (try dsimp only [List.set_cons_zero, List.set_cons_succ]))); (refine take_t (i := 2) (d := 50) (oi := _) (v := ?_) rfl rfl (by kernel_rfl) (by kernel_rfl) (by kernel_rfl) (by rfl) ?_ (by assumption) ?_; rotate_left; (focus (intro w0 hSw; (try dsimp only at hSw); go_simp; (try with_reducible rfl); done)); ((try simp only [Act.put, List.setIfInBounds_toArray]); (try dsimp only [List.set_cons_zero, List.set_cons_succ]))); (refine take_t (i := 3) (d := 51) (oi := _) (v := ?_) rfl rfl (by kernel_rfl) (by kernel_rfl) (by kernel_rfl) (by rfl) ?_ (by assumption) ?_; rotate_left; (focus (intro w0 hSw; (try dsimp only at hSw); go_simp; (try with_reducible rfl); done)); ((try simp only [Act.put, List.setIfInBounds_toArray]); (try dsimp only [List.set_cons_zero, List.set_cons_succ]))); (refine take_t (i := 4) (d := 52) (oi := _) (v := ?_) rfl rfl (by kernel_rfl) (by kernel_rfl) (by kernel_rfl) (by rfl) ?_ (by assumption) ?_; rotate_left; (focus (intro w0 hSw; (try dsimp only at hSw); go_simp; (try with_reducible rfl); done)); ((try simp only [Act.put, List.setIfInBounds_toArray]); (try dsimp only [List.set_cons_zero, List.set_cons_succ]))); (refine take_t (i := 5) (d := 53) (oi := _) (v := ?_) rfl rfl (by kernel_rfl) (by kernel_rfl) (by kernel_rfl) (by rfl) ?_ (by assumption) ?_; rotate_left; (focus (intro w0 hSw; (try dsimp only at hSw); go_simp; (try with_reducible rfl); done)); ((try simp only [Act.put, List.setIfInBounds_toArray]); (try dsimp only [List.set_cons_zero, List.set_cons_succ]))); (refine take_t (i := 6) (d := 54) (oi := _) (v := ?_) rfl rfl (by kernel_rfl) (by kernel_rfl) (by kernel_rfl) (by rfl) ?_ (by assumption) ?_; rotate_left; (focus (intro w0 hSw; (try dsimp only at hSw); go_simp; (try with_reducible rfl); done)); ((try simp only [Act.put, List.setIfInBounds_toArray]); (try dsimp only [List.set_cons_zero, List.set_cons_succ]))); (refine take_t (i := 7) (d := 55) (oi := _) (v := ?_) rfl rfl (by kernel_rfl) (by kernel_rfl) (by kernel_rfl) (by rfl) ?_ (by assumption) ?_; rotate_left; (focus (intro w0 hSw; (try dsimp only at hSw); go_simp; (try with_reducible rfl); done)); ((try simp only [Act.put, List.setIfInBounds_toArray]); (try dsimp only [List.set_cons_zero, List.set_cons_succ]))); (refine take_t (i := 8) (d := 56) (oi := _) (v := ?_) rfl rfl (by kernel_rfl) (by kernel_rfl) (by kernel_rfl) (by rfl) ?_ (by assumption) ?_; rotate_left; (focus (intro w0 hSw; (try dsimp only at hSw); go_simp; (try with_reducible rfl); done)); ((try simp only [Act.put, List.setIfInBounds_toArray]); (try dsimp only [List.set_cons_zero, List.set_cons_succ]))); (refine take_t (i := 9) (d := 57) (oi := _) (v := ?_) rfl rfl (by kernel_rfl) (by kernel_rfl) (by kernel_rfl) (by rfl) ?_ (by assumption) ?_; rotate_left; (focus (intro w0 hSw; (try dsimp only at hSw); go_simp; (try with_reducible rfl); done)); ((try simp only [Act.put, List.setIfInBounds_toArray]); (try dsimp only [List.set_cons_zero, List.set_cons_succ]))); (refine take_t (i := 10) (d := 58) (oi := _) (v := ?_) rfl rfl (by kernel_rfl) (by kernel_rfl) (by kernel_rfl) (by rfl) ?_ (by assumption) ?_; rotate_left; (focus (intro w0 hSw; (try dsimp only at hSw); go_simp; (try with_reducible rfl); done)); ((try simp only [Act.put, List.setIfInBounds_toArray]); (try dsimp only [List.set_cons_zero, List.set_cons_succ]))); refine wpAnyH_done (by kernel_rfl) ?_ _; refine NoPanic.normal ?_
          go_wp2
          go_roundg u
          case rel => exact ⟨m + 1, by go_num, by omega, hd.out⟩
          case measure => omega
        | zero =>
          obtain rfl : m = np := by omega
          have e1 : ¬ ((m : Int) < (m : Int)) := by omega
          go_wp2
          go_ret
          exact ⟨rfl, hp.out.bel⟩
end Go.Proofs.Ytcdgnhhciccoeaa.nod
