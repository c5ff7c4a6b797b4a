/- record.With: what a thing with a property is; the props in a plain list. No condition but the lengths. -/
import Derived.Test.YtdgpalileloekaaDoorRecW3
import Derived.Test.YtdgpalileloekaaDoorRecW4
import Derived.BigQuiet
namespace Go.Proofs.YtdgpalileloekaaDoor
theorem Hp.boxRow {w W : World} {X : List Nat} {rs : List Rs} {i j g : Nat} {cs : Array Value} {t e : TypeId} {size n : Nat} {v : Value} {xs : List Value} (h : Hp w X rs W) (hi : rs[i]? = some (.box g cs t)) (hj : rs[j]? = some (.row e size v n xs)) : v.ownBlock ≠ some g := by
  intro hv
  have hij : i ≠ j := by rintro rfl; rw [hi] at hj; cases hj
  obtain ⟨fps, h1, h2, _⟩ := h
  obtain ⟨fp, e1, r1⟩ := h1.get hi
  obtain ⟨fp', e2, r2⟩ := h1.get hj
  have hp := (perm_pull fps i fp e1).flatten
  rw [List.flatten_cons] at hp
  have hn := (hp.nodup_iff).1 h2
  rw [List.nodup_append] at hn
  refine hn.2.2 g (by rw [r1.2]; simp) g (List.mem_flatten.2 ⟨fp', ?_, by rw [r2.2, hv]; simp⟩) rfl
  rw [List.mem_eraseIdx_iff_getElem?]
  exact ⟨j, fun e => hij e.symm, e2⟩
end Go.Proofs.YtdgpalileloekaaDoor
namespace Go.Proofs.YtdgpalileloekaaDoor.recw
open Go.RowKit
attribute [local go_sem ↓] Go.wp_at_zero Go.wp_at_succ
set_option linter.unusedVariables false
set_option maxRecDepth 100000

theorem eq_any (p : Pr) (q : Nat) (k : Int) (t : TypeId) (w : World) (hq : w.heap[q]? = some (.cells #[.int .i64 k] t (0, 0))) :
    Calls Tryd.prog 56 (#[p.v] ++ #[.pointer (some ⟨q, 0, none⟩)]) w fun e w' => e = .returned (.bool (decide (p.key = k))) ∧ Below w.heap.size w w' := by
  obtain ⟨xk, xd, xn, xs⟩ := p
  have hp0 := (Hp.none_ w []).alloc #[.int .i64 xk, .int .i64 xd, .int .i64 xn, .string xs] 42
  have c0 := hp0.cell (i := 0) rfl 0
  simp at c0
  have hql := block_lt hq
  have k0 : (w.alloc (.cells #[.int .i64 xk, .int .i64 xd, .int .i64 xn, .string xs] 42)).cell? ⟨q, 0, none⟩ = some (.int .i64 k) := (hp0.bel.cell (p := ⟨q, 0, none⟩) hql).trans (block_cells hq 0 _ rfl)
  replace hp0 := Lib.hid hp0
  clear hq hql
  unfold Pr.v
  go_enter Tryd.func56, Tryd.ntmps56
  go_wp2
  go_ret
  exact ⟨by first | rfl | simp, hp0.out.bel⟩
def thV (ed : Bool) (la : Value) (ty fm tw : Int) (pr : Value) : Value := .agg #[.bool ed, la, .int .i64 ty, .int .u64 fm, .int .u64 tw, pr]
theorem drop_cons' {l : List Pr} {i : Nat} {x : Pr} (h : l[i]? = some x) : l.drop i = x :: l.drop (i + 1) := by
  obtain ⟨hi, he⟩ := List.getElem?_eq_some_iff.1 h
  rw [List.drop_eq_getElem_cons hi, he]
theorem thing6 : (Tryd.prog.info? 26).map (·.size) = some 6 := by kernel_rfl
set_option maxHeartbeats 8000000 in
theorem with_any (ed : Bool) (la : Value) (ty fm tw : Int) (pr : Value) (m : Nat) (ys : List Value) (P : List Pr) (k : Int) (x : Vl) (w : World) (hla : Sl w la m ys) (hys : ys.length = m * 1) (hy1 : ∀ u ∈ ys, u.oneCell' = true) (hm : m ≤ 1000000)
    (hpr : Sl w pr P.length (prC P)) (hn : P.length ≤ 90000) :
    Calls Tryd.prog 17 #[thV ed la ty fm tw pr, .int .i64 k, x.v] w fun e w' => ∃ la' pr', e = .returned (thV ed la' ty fm tw pr') ∧ Hp w [] [.row 3 1 la' m ys, .row 42 4 pr' (withL P k x).length (prC (withL P k x))] w' := by
  obtain ⟨xd, xn, xs⟩ := x
  have hp0 := ((((Hp.none_ w []).alloc #[.bool ed, la, .int .i64 ty, .int .u64 fm, .int .u64 tw, pr] 26).alloc #[.int .i64 k] 3).alloc #[.int .i64 xd, .int .i64 xn, .string xs] 37).alloc #[.bool false, .slice none 0 0, .int .i64 0, .int .u64 0, .int .u64 0, .slice none 0 0] 26
  have hsz : ∀ (u : World) o, (u.alloc o).heap.size = u.heap.size + 1 := fun u o => by simp
  rw [hsz, hsz, hsz] at hp0
  clear hsz
  replace hp0 := Lib.hid hp0
  replace hys := Lib.hid hys; replace hy1 := Lib.hid hy1; replace hm := Lib.hid hm; replace hla := Lib.hid hla; replace hpr := Lib.hid hpr; replace hn := Lib.hid hn
  obtain ⟨D, hD⟩ : ∃ D, D = P.filter fun x => !(fun p : Pr => decide (p.key = k)) x := ⟨_, rfl⟩
  obtain ⟨R, hR⟩ : ∃ R, R = withL P k (xd, xn, xs) := ⟨_, rfl⟩
  rw [← hR]
  have hR2 : R = if xd = 0 then D else insL D ⟨k, xd, xn, xs⟩ := by rw [hR, hD]; rfl
  have hDl : D.length ≤ 90000 := by rw [hD]; exact Nat.le_trans (del_len P k) hn.out
  replace hD := Lib.hid hD; replace hR2 := Lib.hid hR2; replace hDl := Lib.hid hDl
  clear hR
  unfold thV Vl.v
  go_enter Tryd.func17, Tryd.ntmps17
  go_upto_region 1 with fail
  generalize (((w.alloc _).alloc _).alloc _).alloc _ = W1 at hp0 ⊢
  generalize w.heap.size + 1 + 1 + 1 = q3 at hp0 ⊢
  generalize w.heap.size + 1 + 1 = q2 at hp0 ⊢
  generalize w.heap.size + 1 = q1 at hp0 ⊢
  generalize w.heap.size = q0 at hp0 ⊢
  have hla1 := hla.out.below hp0.out.bel
  have a1 := hp0.out.cell (i := 3) rfl 1
  simp at a1
  go_upto_region 2 with (go_at_call 53; (with_reducible refine (cloneI_any la m ys _ hla1 hys.out hy1.out hm.out).mono ?_); rintro e w2 ⟨la', rfl, hv2, h2⟩; obtain ⟨ad2, cp2, rfl⟩ := hv2; replace hp0 := Lib.hid (hp0.out.take h2); clear h2; have t1 := hp0.out.cell (i := 4) rfl 1; have f1 := hp0.out.free (i := 4) rfl 1; simp at t1)
  replace hp0 := Lib.hid (hp0.out.put (i := 4) rfl 1 (.slice ad2 m cp2))
  generalize w2.setCell _ _ = W2 at hp0 ⊢
  clear hla1 a1 t1 f1 hla
  have hpr1 := hpr.out.below hp0.out.bel
  have a5 := hp0.out.cell (i := 4) rfl 5
  have hPl : (prC P).length = P.length * 4 := prC_len P
  simp at a5
  go_upto_region 3 with (go_at_call 55; (with_reducible refine (cloneP_any pr P.length (prC P) _ hpr1 hPl (prC_one P) (by have := hn.out; omega)).mono ?_); rintro e w3 ⟨pr', rfl, hv3, h3⟩; obtain ⟨ad3, cp3, rfl⟩ := hv3; replace hp0 := Lib.hid (hp0.out.take h3); clear h3)
  have hr3 := hp0.out.row (i := 0) rfl
  have hk3 := hp0.out.box (i := 4) rfl
  have hne := hp0.out.boxRow (i := 4) (j := 0) rfl rfl
  refine (delF_any 56 #[.pointer (some ⟨q1, 0, none⟩)] (fun p => decide (p.key = k)) _ P _ hr3 (by have := hn.out; omega) (fun _ _ => rfl) (fun x W hk => eq_any x q1 k 3 W ((hk.block q1 (block_lt hk3) (fun hmm => hne (by simpa using hmm))).trans hk3))).mono ?_
  clear hr3 hk3 hne
  rintro e w4 ⟨v4, rfl, hv4, h4⟩
  obtain ⟨ad4, cp4, rfl⟩ := hv4
  replace hp0 := Lib.hid (hp0.out.turn (i := 0) rfl (fun fp hr => hr.2 ▸ h4))
  clear h4
  rw [← hD.out] at hp0 ⊢
  have t5 := hp0.out.cell (i := 5) rfl 5
  have f5 := hp0.out.free (i := 5) rfl 5
  simp at t5
  clear hn hpr1 hPl a5 hpr
  go_upto_region 3 with fail
  replace hp0 := Lib.hid (hp0.out.put (i := 5) rfl 5 (.slice ad4 D.length cp4))
  generalize w4.setCell _ _ = W4 at hp0 ⊢
  clear t5 f5
  have hp1 : Hp w [] [.row 42 4 (.slice ad4 D.length cp4) D.length (prC D), .row 3 1 (.slice ad2 m cp2) m ys, .box q3 #[.bool false, .slice none 0 0, .int .i64 0, .int .u64 0, .int .u64 0, .slice none 0 0] 26, .box q2 #[.int .i64 xd, .int .i64 xn, .string xs] 37, .box q1 #[.int .i64 k] 3, .box q0 #[.bool ed, .slice ad2 m cp2, .int .i64 ty, .int .u64 fm, .int .u64 tw, .slice ad4 D.length cp4] 26] W4 := hp0.out
  clear hp0 hD
  have v0 := hp1.cell (i := 3) rfl 0; have v1 := hp1.cell (i := 3) rfl 1; have v2 := hp1.cell (i := 3) rfl 2
  have u0 := hp1.cell (i := 5) rfl 0; have u1 := hp1.cell (i := 5) rfl 1; have u2 := hp1.cell (i := 5) rfl 2; have u3 := hp1.cell (i := 5) rfl 3; have u4 := hp1.cell (i := 5) rfl 4; have u5 := hp1.cell (i := 5) rfl 5
  have r0 := hp1.cell (i := 2) rfl 0; have r1 := hp1.cell (i := 2) rfl 1; have r2 := hp1.cell (i := 2) rfl 2; have r3 := hp1.cell (i := 2) rfl 3; have r4 := hp1.cell (i := 2) rfl 4; have r5 := hp1.cell (i := 2) rfl 5
  have f0 := hp1.free (i := 2) rfl 0; have f1 := hp1.free (i := 2) rfl 1; have f2 := hp1.free (i := 2) rfl 2; have f3 := hp1.free (i := 2) rfl 3; have f4 := hp1.free (i := 2) rfl 4; have f5 := hp1.free (i := 2) rfl 5
  simp at v0 v1 v2 u0 u1 u2 u3 u4 u5 r0 r1 r2 r3 r4 r5
  by_cases hxd : xd = 0
  · subst hxd
    have hpf := (((((hp1.put (i := 2) rfl 0 (.bool ed)).put (i := 2) rfl 1 (.slice ad2 m cp2)).put (i := 2) rfl 2 (.int .i64 ty)).put (i := 2) rfl 3 (.int .u64 fm)).put (i := 2) rfl 4 (.int .u64 tw)).put (i := 2) rfl 5 (.slice ad4 D.length cp4)
    have hrd : R = D := by rw [hR2.out, if_pos rfl]
    replace hpf := Lib.hid hpf; replace hrd := Lib.hid hrd
    clear hp1 hR2
    go_wp2
    have hpg := hpf.out
    refine bodyPost_ret (v := .agg #[.bool ed, .slice ad2 m cp2, .int .i64 ty, .int .u64 fm, .int .u64 tw, .slice ad4 D.length cp4]) (results_cell_row rfl _ _ q3 26 #[.bool ed, .slice ad2 m cp2, .int .i64 ty, .int .u64 fm, .int .u64 tw, .slice ad4 D.length cp4] (0, 0) _ rfl (hpg.box (i := 2) rfl) Tryd.underlying26 rfl thing6) rfl ⟨_, _, rfl, ?_⟩
    rw [hrd.out]
    exact ((((hpg.drop 2).drop 2).drop 2).drop 2).perm (List.Perm.swap _ _ _)
  · have hx1 : (xd == 0) = false := by simp [hxd]
    have hrd : R = D.take (posL D k) ++ ⟨k, xd, xn, xs⟩ :: D.drop (posL D k) := by rw [hR2.out, if_neg hxd, ins_eq]
    have hpl := pos_le D k
    replace hp1 := Lib.hid hp1; replace hrd := Lib.hid hrd; replace hpl := Lib.hid hpl
    clear hR2 hxd
    clear v0 v1 v2 u0 u1 u2 u3 u4 u5 r0 r1 r2 r3 r4 r5 f0 f1 f2 f3 f4 f5
    have v0 := hp1.out.cell (i := 3) rfl 0
    simp at v0
    go_wp2
    clear v0
    go_loopg [7] (posL D k) (fun gi s7 wr => ∃ i : Nat, s7 = .int .i64 (i : Int) ∧ i + gi = posL D k ∧ Hp w [] [.row 42 4 (.slice ad4 D.length cp4) D.length (prC D), .row 3 1 (.slice ad2 m cp2) m ys, .box q3 #[.bool false, .slice none 0 0, .int .i64 0, .int .u64 0, .int .u64 0, .slice none 0 0] 26, .box q2 #[.int .i64 xd, .int .i64 xn, .string xs] 37, .box q1 #[.int .i64 k] 3, .box q0 #[.bool ed, .slice ad2 m cp2, .int .i64 ty, .int .u64 fm, .int .u64 tw, .slice ad4 D.length cp4] 26] wr)
    case atStart => exact ⟨0, rfl, by omega, hp1.out⟩
    case round =>
      clear hp1
      obtain ⟨i, rfl, hi, hp⟩ := hrel
      go_upto_region 6 with fail
      go_cut [36] from 22 to 36 (fun s36 wx => s36 = .bool (decide (i < posL D k)) ∧ Hp w [] [.row 42 4 (.slice ad4 D.length cp4) D.length (prC D), .row 3 1 (.slice ad2 m cp2) m ys, .box q3 #[.bool false, .slice none 0 0, .int .i64 0, .int .u64 0, .int .u64 0, .slice none 0 0] 26, .box q2 #[.int .i64 xd, .int .i64 xn, .string xs] 37, .box q1 #[.int .i64 k] 3, .box q0 #[.bool ed, .slice ad2 m cp2, .int .i64 ty, .int .u64 fm, .int .u64 tw, .slice ad4 D.length cp4] 26] wx)
      case first =>
        have u5 := hp.cell (i := 5) rfl 5
        have k0 := hp.cell (i := 4) rfl 0
        simp at u5 k0
        have hip : i ≤ posL D k := by omega
        clear hi
        by_cases hlt : i < D.length
        · obtain ⟨x, hx⟩ : ∃ x, D[i]? = some x := ⟨_, List.getElem?_eq_getElem hlt⟩
          have hpa := pos_at D k i x hx hip
          obtain ⟨b, cap, hv, hc1, hc2⟩ := (hp.row (i := 0) rfl).form (by omega)
          injection hv with hv1 hv2 hv3
          subst hv1 hv3
          have y0 : wr.cell? ⟨b, i * 4, none⟩ = some (.int .i64 x.key) := by
            refine ((hp.row (i := 0) rfl).cellAt (i * 4) (by omega)).trans ?_
            have : D = D.take i ++ x :: D.drop (i + 1) := by
              rw [← drop_cons' hx, List.take_append_drop]
            rw [this, prC_append]
            rw [List.getElem?_append_right (by rw [prC_len, List.length_take]; omega), prC_len, List.length_take, Nat.min_eq_left (by omega), Nat.sub_self]
            rfl
          obtain ⟨n, hln⟩ : ∃ n, n = D.length := ⟨_, rfl⟩
          rw [← hln] at hlt u5
          have g1 : (0 : Int) ≤ (i : Int) := by omega
          have g2 : (i : Int) < (n : Int) := by omega
          have hp3 := Lib.hid hp; replace hln := Lib.hid hln
          cases hq : decide (x.key < k) with
          | true =>
            replace hpa := Lib.hid (hpa.symm.trans hq)
            clear hx hp hc1 hc2 hv2 hip
            go_quiet (fail)
            go_wp2
            go_meet
            exact ⟨by rw [hpa.out], hp3.out.drewN _⟩
          | false =>
            replace hpa := Lib.hid (hpa.symm.trans hq)
            clear hx hp hc1 hc2 hv2 hip
            go_quiet (fail)
            go_wp2
            go_meet
            exact ⟨by rw [hpa.out], hp3.out.drewN _⟩
        · have hpa : decide (i < posL D k) = false := by have := hpl.out; simp; omega
          obtain ⟨n, hln⟩ : ∃ n, n = D.length := ⟨_, rfl⟩
          rw [← hln] at hlt u5
          have g2 : decide ((i : Int) < (n : Int)) = false := by simp; omega
          have g3 : decide (i < n) = false := by simp; omega
          have hp3 := Lib.hid hp; replace hln := Lib.hid hln; replace hpa := Lib.hid hpa
          clear hp hip hlt
          go_quiet (fail)
          go_wp2
          go_meet
          exact ⟨by rw [hpa.out], hp3.out.drewN _⟩
      obtain ⟨rfl, hp2⟩ := hcut
      clear hp
      replace hp2 := Lib.hid hp2
      cases gk with
      | succ u =>
        have hd : decide (i < posL D k) = true := by simp; omega
        have hi9 : i ≤ 90000 := by have := hpl.out; have := hDl.out; omega
        rw [hd]
        go_wp2
        go_roundg u
        case rel => exact ⟨i + 1, by go_num, by omega, hp2.out⟩
        case measure => omega
      | zero =>
        have hd : decide (i < posL D k) = false := by simp; omega
        rw [hd]
        obtain rfl : i = posL D k := by omega
        have hpB := hp2.out.alloc #[.int .i64 k, .int .i64 xd, .int .i64 xn, .string xs] 42
        have hrow := hpB.row (i := 1) rfl
        have hins := insert_any (.slice ad4 D.length cp4) (posL D k) wc.heap.size D ⟨k, xd, xn, xs⟩ _ hrow hpl.out (by have := hDl.out; omega) (hpB.box (i := 0) rfl) (hpB.boxRow (i := 0) (j := 1) rfl rfl)
        rw [← hrd.out] at hins
        have hRl : D.length + 1 = R.length := by rw [hrd.out]; simp; have := hpl.out; omega
        rw [hRl] at hins
        have u5 := hp2.out.cell (i := 5) rfl 5
        have k0 := hp2.out.cell (i := 4) rfl 0
        have v0 := hp2.out.cell (i := 3) rfl 0; have v1 := hp2.out.cell (i := 3) rfl 1; have v2 := hp2.out.cell (i := 3) rfl 2
        simp at u5 k0 v0 v1 v2
        replace hins := Lib.hid hins; replace hpB := Lib.hid hpB
        clear hrow hp2
        generalize posL D k = pk at hins ⊢
        go_upto_region 9 with (go_at_call 57; (with_reducible refine (hins.out).mono ?_); rintro e w6 ⟨v', rfl, h6⟩; obtain ⟨ad6, cp6, rfl⟩ := rowShape (h6.row (i := 0) rfl); replace hpB := Lib.hid (hpB.out.turn (i := 1) rfl (fun fp hr => hr.2 ▸ h6)); clear h6; have t5 := hpB.out.cell (i := 6) rfl 5; have f5 := hpB.out.free (i := 6) rfl 5; simp at t5)
        have hp9 : Hp w [] [.box wc.heap.size #[.int .i64 k, .int .i64 xd, .int .i64 xn, .string xs] 42, .row 42 4 (.slice ad6 R.length cp6) R.length (prC R), .row 3 1 (.slice ad2 m cp2) m ys, .box q3 #[.bool false, .slice none 0 0, .int .i64 0, .int .u64 0, .int .u64 0, .slice none 0 0] 26, .box q2 #[.int .i64 xd, .int .i64 xn, .string xs] 37, .box q1 #[.int .i64 k] 3, .box q0 #[.bool ed, .slice ad2 m cp2, .int .i64 ty, .int .u64 fm, .int .u64 tw, .slice ad6 R.length cp6] 26] (w6.setCell ⟨q0, 5, none⟩ (.slice ad6 R.length cp6)) := hpB.out.put (i := 6) rfl 5 (.slice ad6 R.length cp6)
        clear hpB t5 f5 hins u5 k0 v0 v1 v2
        generalize w6.setCell _ _ = W7 at hp9 ⊢
        have u0 := hp9.cell (i := 6) rfl 0; have u1 := hp9.cell (i := 6) rfl 1; have u2 := hp9.cell (i := 6) rfl 2; have u3 := hp9.cell (i := 6) rfl 3; have u4 := hp9.cell (i := 6) rfl 4; have u5 := hp9.cell (i := 6) rfl 5
        have r0 := hp9.cell (i := 3) rfl 0; have r1 := hp9.cell (i := 3) rfl 1; have r2 := hp9.cell (i := 3) rfl 2; have r3 := hp9.cell (i := 3) rfl 3; have r4 := hp9.cell (i := 3) rfl 4; have r5 := hp9.cell (i := 3) rfl 5
        have f0 := hp9.free (i := 3) rfl 0; have f1 := hp9.free (i := 3) rfl 1; have f2 := hp9.free (i := 3) rfl 2; have f3 := hp9.free (i := 3) rfl 3; have f4 := hp9.free (i := 3) rfl 4; have f5 := hp9.free (i := 3) rfl 5
        simp at u0 u1 u2 u3 u4 u5 r0 r1 r2 r3 r4 r5
        have hpf := (((((hp9.put (i := 3) rfl 0 (.bool ed)).put (i := 3) rfl 1 (.slice ad2 m cp2)).put (i := 3) rfl 2 (.int .i64 ty)).put (i := 3) rfl 3 (.int .u64 fm)).put (i := 3) rfl 4 (.int .u64 tw)).put (i := 3) rfl 5 (.slice ad6 R.length cp6)
        replace hpf := Lib.hid hpf
        clear hp9 hrd
        go_wp2
        have hpg := hpf.out
        refine bodyPost_ret (v := .agg #[.bool ed, .slice ad2 m cp2, .int .i64 ty, .int .u64 fm, .int .u64 tw, .slice ad6 R.length cp6]) (results_cell_row rfl _ _ q3 26 #[.bool ed, .slice ad2 m cp2, .int .i64 ty, .int .u64 fm, .int .u64 tw, .slice ad6 R.length cp6] (0, 0) _ rfl (hpg.box (i := 3) rfl) Tryd.underlying26 rfl thing6) rfl ⟨_, _, rfl, ?_⟩
        exact (((((hpg.drop 0).drop 2).drop 2).drop 2).drop 2).perm (List.Perm.swap _ _ _)
end Go.Proofs.YtdgpalileloekaaDoor.recw
