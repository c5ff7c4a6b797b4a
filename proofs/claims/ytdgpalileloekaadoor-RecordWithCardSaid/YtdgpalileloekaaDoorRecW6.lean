/- record.Find: what a thing's property is; the props in a plain list. No condition but the length. -/
import Derived.Test.YtdgpalileloekaaDoorRecW5
namespace Go.Proofs.YtdgpalileloekaaDoor.recw
open Go.RowKit
attribute [local go_sem ↓] Go.wp_at_zero Go.wp_at_succ
set_option linter.unusedVariables false
set_option maxRecDepth 100000

theorem val3 : (Tryd.prog.info? 37).map (·.size) = some 3 := by kernel_rfl
set_option maxHeartbeats 8000000 in
theorem find_any (ed : Bool) (la : Value) (ty fm tw : Int) (pr : Value) (P : List Pr) (k : Int) (w : World) (hpr : Sl w pr P.length (prC P)) (hn : P.length ≤ 90000) :
    Calls Tryd.prog 18 #[thV ed la ty fm tw pr, .int .i64 k] w fun e w' => e = .returned (findL P k).v ∧ Below w.heap.size w w' := by
  have hp0 := ((Hp.none_ w []).alloc #[.bool ed, la, .int .i64 ty, .int .u64 fm, .int .u64 tw, pr] 26).alloc #[.int .i64 0, .int .i64 0, .string ⟨#[]⟩] 37
  have hsz : ∀ (u : World) o, (u.alloc o).heap.size = u.heap.size + 1 := fun u o => by simp
  rw [hsz] at hp0
  clear hsz
  obtain ⟨⟨Fd, Fn, Fs⟩, hF⟩ : ∃ F, F = findL P k := ⟨_, rfl⟩
  rw [← hF]
  replace hp0 := Lib.hid hp0; replace hF := Lib.hid hF
  obtain ⟨a, cp, rfl, hmax, h⟩ := hpr
  obtain ⟨n, hln⟩ : ∃ n, n = P.length := ⟨_, rfl⟩
  rw [← hln] at hn hmax h ⊢
  rw [← hln] at hp0
  replace h := Lib.hid h; replace hln := Lib.hid hln
  unfold thV Vl.v
  go_enter Tryd.func18, Tryd.ntmps18
  go_upto_region 1 with fail
  generalize (w.alloc _).alloc _ = W1 at hp0 ⊢
  generalize hq1 : w.heap.size + 1 = q1 at hp0 ⊢
  generalize hq0 : w.heap.size = q0 at hp0 ⊢
  clear hq1 hq0
  have a5 := hp0.out.cell (i := 1) rfl 5
  simp at a5
  go_wp2
  clear a5
  go_loopg [10] n (fun gi s10 wr => ∃ i : Nat, s10 = .int .i64 (i : Int) ∧ i + gi = n ∧ (Fd, Fn, Fs) = findL (P.drop i) k ∧ Hp w [] [.box q1 #[.int .i64 0, .int .i64 0, .string ⟨#[]⟩] 37] wr)
  case atStart => exact ⟨0, rfl, by omega, by rw [List.drop_zero]; exact hF.out, hp0.out.drop 1⟩
  case round =>
    clear hp0 hF
    obtain ⟨i, rfl, hi, hFi, hp⟩ := hrel
    cases gk with
    | zero =>
      have he : P.drop i = [] := List.drop_eq_nil_of_le (by have := hln.out; omega)
      rw [he] at hFi
      have hFi2 : Fd = 0 ∧ Fn = 0 ∧ Fs = ⟨#[]⟩ := by simpa [findL, vl0] using hFi
      obtain ⟨rfl, rfl, rfl⟩ := hFi2
      obtain rfl : i = n := by omega
      have c0 := hp.cell (i := 0) rfl 0; have c1 := hp.cell (i := 0) rfl 1; have c2 := hp.cell (i := 0) rfl 2
      have f0 := hp.free (i := 0) rfl 0; have f1 := hp.free (i := 0) rfl 1; have f2 := hp.free (i := 0) rfl 2
      simp at c0 c1 c2
      have hpf := Lib.hid (((hp.put (i := 0) rfl 0 (.int .i64 0)).put (i := 0) rfl 1 (.int .i64 0)).put (i := 0) rfl 2 (.string ⟨#[]⟩))
      clear hp hFi he
      go_wp2
      exact bodyPost_ret (v := .agg #[.int .i64 0, .int .i64 0, .string ⟨#[]⟩]) (results_cell_row rfl _ _ q1 37 #[.int .i64 0, .int .i64 0, .string ⟨#[]⟩] (0, 0) _ rfl (hpf.out.box (i := 0) rfl) Tryd.underlying37 rfl val3) rfl ⟨rfl, hpf.out.bel⟩
    | succ u =>
      obtain ⟨b, o, rfl, hr⟩ := h.out.resolve_left (by omega)
      obtain ⟨x, hx⟩ : ∃ x, P[i]? = some x := ⟨_, List.getElem?_eq_getElem (by have := hln.out; omega)⟩
      rw [drop_cons' hx] at hFi
      unfold findL at hFi
      obtain ⟨xk, xd, xn, xs⟩ := x
      have d0 : wr.cell? ⟨b, o + i * 4, none⟩ = some (.int .i64 xk) := (hp.bel.cell hr.1).trans (hr.elem0 Pr.c_len hx rfl)
      have d1 : wr.cell? ⟨b, o + i * 4 + 1, none⟩ = some (.int .i64 xd) := (hp.bel.cell hr.1).trans (hr.elem Pr.c_len hx rfl)
      have d2 : wr.cell? ⟨b, o + i * 4 + 2, none⟩ = some (.int .i64 xn) := (hp.bel.cell hr.1).trans (hr.elem Pr.c_len hx rfl)
      have d3 : wr.cell? ⟨b, o + i * 4 + 3, none⟩ = some (.string xs) := (hp.bel.cell hr.1).trans (hr.elem Pr.c_len hx rfl)
      have e1 : (0 : Int) ≤ (i : Int) := by omega
      have e2 : (i : Int) < (n : Int) := by omega
      have hpz := hp.alloc #[.int .i64 0, .int .i64 0, .int .i64 0, .string ⟨#[]⟩] 42
      have z0' := hpz.cell (i := 0) rfl 0; have z1 := hpz.cell (i := 0) rfl 1; have z2 := hpz.cell (i := 0) rfl 2; have z3 := hpz.cell (i := 0) rfl 3
      have y0 := hpz.free (i := 0) rfl 0; have y1 := hpz.free (i := 0) rfl 1; have y2 := hpz.free (i := 0) rfl 2; have y3 := hpz.free (i := 0) rfl 3
      simp at z0' z1 z2 z3
      have hpb := Lib.hid (hp.alloc #[.int .i64 xk, .int .i64 xd, .int .i64 xn, .string xs] 42)
      clear hx hr hpz
      replace hFi := Lib.hid hFi
      go_upto_region 4 with fail
      clear z0' z1 z2 z3 y0 y1 y2 y3 d0 d1 d2 d3 hp
      generalize wr.alloc _ = W5 at hpb ⊢
      generalize wr.heap.size = qb at hpb ⊢
      have c0 := hpb.out.cell (i := 0) rfl 0; have c1 := hpb.out.cell (i := 0) rfl 1; have c2 := hpb.out.cell (i := 0) rfl 2; have c3 := hpb.out.cell (i := 0) rfl 3
      have b0 := hpb.out.cell (i := 1) rfl 0; have b1 := hpb.out.cell (i := 1) rfl 1; have b2 := hpb.out.cell (i := 1) rfl 2
      have f0 := hpb.out.free (i := 1) rfl 0; have f1 := hpb.out.free (i := 1) rfl 1; have f2 := hpb.out.free (i := 1) rfl 2
      simp at c0 c1 c2 c3 b0 b1 b2
      by_cases hk : xk = k
      · have hF2 : Fd = xd ∧ Fn = xn ∧ Fs = xs := by
          have := hFi.out
          rw [if_pos hk] at this
          simpa [Pr.vl] using this
        obtain ⟨rfl, rfl, rfl⟩ := hF2
        subst hk
        have hpf := Lib.hid (((hpb.out.put (i := 1) rfl 0 (.int .i64 Fd)).put (i := 1) rfl 1 (.int .i64 Fn)).put (i := 1) rfl 2 (.string Fs))
        clear hpb hFi
        go_wp2
        exact bodyPost_ret (v := .agg #[.int .i64 Fd, .int .i64 Fn, .string Fs]) (results_cell_row rfl _ _ q1 37 #[.int .i64 Fd, .int .i64 Fn, .string Fs] (0, 0) _ rfl (hpf.out.box (i := 1) rfl) Tryd.underlying37 rfl val3) rfl ⟨rfl, hpf.out.bel⟩
      · have hk1 : (xk == k) = false := by simp [hk]
        have hF2 : (Fd, Fn, Fs) = findL (P.drop (i + 1)) k := by
          have := hFi.out
          rwa [if_neg hk] at this
        replace hF2 := Lib.hid hF2
        clear hFi
        go_wp2
        go_roundg u
        case rel => exact ⟨i + 1, by go_num, by omega, hF2.out, hpb.out.drop 0⟩
        case measure => omega
end Go.Proofs.YtdgpalileloekaaDoor.recw
