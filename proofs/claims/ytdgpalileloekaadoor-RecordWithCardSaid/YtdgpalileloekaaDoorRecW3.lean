/- slices.DeleteFunc at properties, whatever the closure. No condition but the lengths. -/
import Derived.Test.YtdgpalileloekaaDoorRecW2
import Derived.Deep.CutBlock
namespace Go.Proofs.YtdgpalileloekaaDoor.recw
open Go.RowKit
attribute [local go_sem ↓] Go.wp_at_zero Go.wp_at_succ
set_option linter.unusedVariables false
set_option maxRecDepth 100000

theorem filter_all {p : Pr → Bool} : ∀ (l : List Pr), (∀ x ∈ l, p x = false) → (l.filter fun x => !p x) = l
  | l, h => by rw [List.filter_eq_self]; intro x hx; simp [h x hx]
theorem filter_snoc (p : Pr → Bool) (l : List Pr) (j : Nat) (x : Pr) (h : l[j]? = some x) : ((l.take (j + 1)).filter fun x => !p x) = ((l.take j).filter fun x => !p x) ++ if p x then [] else [x] := by
  rw [List.take_add_one, h]
  cases hp : p x <;> simp [List.filter_append, hp]
theorem drop_cells {l : List Pr} {j : Nat} {x : Pr} (h : l[j]? = some x) : prC (l.drop j) = x.c ++ prC (l.drop (j + 1)) := by
  obtain ⟨hi, he⟩ := List.getElem?_eq_some_iff.1 h
  rw [List.drop_eq_getElem_cons hi, he]
  simp [prC]
theorem delF_none (kf : Nat) (cap : Array Value) (p : Pr → Bool) (v : Value) (l : List Pr) (w : World) (h : w.ownsRow 0 42 4 v l.length (prC l)) (hn : l.length ≤ 100000) (hcf : ∀ (args : Array Value) (W : World), (callFunc kf args).run Tryd.prog W = .ok (.enter kf args) W)
    (hc : ∀ (x : Pr) (W : World), Keeps v.ownBlock.toList w W → Calls Tryd.prog kf (#[x.v] ++ cap) W fun e w' => e = .returned (.bool (p x)) ∧ Below W.heap.size W w') (hno : ∀ x ∈ l, p x = false) :
    Calls Tryd.prog 54 #[v, .func (.func kf) #[] cap] w fun e w' => e = .returned v ∧ Below w.heap.size w w' := by
  have ci := indexF_any kf cap p v l w (Sl.ofRow h (by omega)) hn hcf (fun x W hb => hc x W (Keeps.ofBelow hb _))
  obtain ⟨ad, cp, rfl⟩ := rowShape h
  generalize l.length = n at *
  replace ci := Lib.hid ci; replace hno := Lib.hid hno
  clear h hc hcf
  go_enter Tryd.func54, Tryd.ntmps54
  go_upto_region 2 with (go_at_call 98; (with_reducible refine ci.out.mono ?_); rintro e w1 ⟨⟨k, rfl, hk⟩, b1⟩; replace b1 := Lib.hid b1)
  have hk1 : k = -1 := by
    rcases hk with ⟨h, _⟩ | ⟨i, _, x, hx, hpx, _⟩
    · exact h
    · have := hno.out x (List.mem_of_getElem? hx); rw [hpx] at this; cases this
  subst hk1
  clear hk
  go_wp2
  go_ret
  exact ⟨rfl, b1.out⟩
set_option maxHeartbeats 8000000 in
theorem delF_some (kf : Nat) (cap : Array Value) (p : Pr → Bool) (g cp : Nat) (l : List Pr) (n : Nat) (hln : n = l.length) (w : World) (h : w.ownsRow 0 42 4 (.slice (some ⟨g, 0, none⟩) n cp) n (prC l)) (hn : n ≤ 100000) (hcf : ∀ (args : Array Value) (W : World), (callFunc kf args).run Tryd.prog W = .ok (.enter kf args) W)
    (hc : ∀ (x : Pr) (W : World), Keeps [g] w W → Calls Tryd.prog kf (#[x.v] ++ cap) W fun e w' => e = .returned (.bool (p x)) ∧ Below W.heap.size W w') (hyes : ∃ x ∈ l, p x = true) :
    Calls Tryd.prog 54 #[.slice (some ⟨g, 0, none⟩) n cp, .func (.func kf) #[] cap] w fun e w' => e = .returned (.slice (some ⟨g, 0, none⟩) (l.filter fun x => !p x).length cp) ∧ Hp w [g] [.row 42 4 (.slice (some ⟨g, 0, none⟩) (l.filter fun x => !p x).length cp) (l.filter fun x => !p x).length (prC (l.filter fun x => !p x))] w' := by
  have ci := indexF_any kf cap p (.slice (some ⟨g, 0, none⟩) n cp) l w (by rw [hln] at h ⊢; exact Sl.ofRow h (by omega)) (by omega) hcf (fun x W hb => hc x W (Keeps.ofBelow hb _))
  have hp0 : Hp w [g] [.row 42 4 (.slice (some ⟨g, 0, none⟩) n cp) n (prC l)] w := Hp.lendRow h
  have hcap := rowCap h
  have hcapm : cp ≤ 9223372036854775807 := by
    rcases h.2 with ⟨h0, _⟩ | ⟨g', cap', cur, hv, hb, hg, h1, h2, h3, h4⟩
    · cases h0
    · injection hv with hv1 hv2 hv3; unfold maxLen at h2; omega
  obtain ⟨F, hF⟩ : ∃ F, F = l.filter fun x => !p x := ⟨_, rfl⟩
  rw [← hF]
  obtain ⟨nF, hnF⟩ : ∃ nF, F.length = nF := ⟨_, rfl⟩
  rw [hnF]
  replace hnF := Lib.hid hnF
  replace ci := Lib.hid ci; replace hp0 := Lib.hid hp0; replace hc := Lib.hid hc; replace hln := Lib.hid hln; replace hF := Lib.hid hF; replace hyes := Lib.hid hyes
  clear h
  have hz0 : ∀ w, (zeroValue 42).run Tryd.prog w = .ok z0 w := fun w => by kernel_rfl
  replace hz0 := Lib.hid hz0
  go_enter Tryd.func54, Tryd.ntmps54
  go_upto_region 2 with (go_at_call 98; (with_reducible refine ci.out.mono ?_); rintro e w1 ⟨⟨k, rfl, hk⟩, b1⟩; replace hp0 := Lib.hid (hp0.out.below b1); clear b1)
  obtain ⟨i0, rfl, x0, hx0, hpx0, htk⟩ : ∃ i : Nat, k = (i : Int) ∧ ∃ x, l[i]? = some x ∧ p x = true ∧ ∀ y ∈ l.take i, p y = false := by
    rcases hk with ⟨_, h⟩ | h
    · obtain ⟨x, hx, hpx⟩ := hyes.out
      have := h x hx; rw [hpx] at this; cases this
    · exact h
  have hi0 : i0 < n := by have := (List.getElem?_eq_some_iff.1 hx0).1; have := hln.out; omega
  have hf0 : ((l.take (i0 + 1)).filter fun x => !p x) = l.take i0 := by
    rw [filter_snoc p l i0 x0 hx0, if_pos hpx0, List.append_nil]; exact filter_all _ htk
  have hne : ¬ ((i0 : Int) = -1) := by omega
  have hne2 : ((i0 : Int) == -1) = false := by rw [beq_eq_false_iff_ne]; omega
  have ht0 : (prC l).take (i0 * 4) = prC (l.take i0) := by
    have : l = l.take i0 ++ l.drop i0 := (List.take_append_drop _ _).symm
    conv => lhs; rw [this]
    rw [prC_append, List.take_left' (by rw [prC_len, List.length_take]; have := hln.out; omega)]
  have hdr : ∀ j, j ≤ n → (prC l).drop (j * 4) = prC (l.drop j) := fun j hj => by
    have : l = l.take j ++ l.drop j := (List.take_append_drop _ _).symm
    conv => lhs; rw [this]
    rw [prC_append, List.drop_left' (by rw [prC_len, List.length_take]; have := hln.out; omega)]
  have hd0 := hdr (i0 + 1) (by omega)
  have hl0 : (l.take i0).length = i0 := by rw [List.length_take]; have := hln.out; omega
  have hYl : (prC l).length = n * 4 := by rw [prC_len, ← hln.out]
  clear hk hyes hdr htk hpx0 hx0
  replace ht0 := Lib.hid ht0; replace hd0 := Lib.hid hd0; replace hl0 := Lib.hid hl0; replace hYl := Lib.hid hYl; replace hf0 := Lib.hid hf0
  go_wp2
  go_loopg [5, 6] (n - (i0 + 1)) (fun gn s5 s6 wr => ∃ (i j : Nat) (Y : List Value), s5 = .int .i64 (i : Int) ∧ s6 = .int .i64 (j : Int) ∧ j + gn = n ∧ i < j ∧ Y.length = n * 4 ∧ ((l.take j).filter fun x => !p x).length = i ∧ Y.take (i * 4) = prC ((l.take j).filter fun x => !p x) ∧ Y.drop (j * 4) = prC (l.drop j) ∧ Hp w [g] [.row 42 4 (.slice (some ⟨g, 0, none⟩) n cp) n Y] wr)
  case atStart => exact ⟨i0, i0 + 1, prC l, rfl, by go_num, by omega, by omega, hYl.out, by rw [hf0.out]; exact hl0.out, by rw [hf0.out]; exact ht0.out, hd0.out, hp0.out⟩
  case round =>
    clear hp0 hne hne2
    obtain ⟨i, j, Y, rfl, rfl, hjn, hij, hY, hfl, hYt, hYd, hp⟩ := hrel
    replace hp := Lib.hid hp
    cases gk with
    | zero =>
      obtain rfl : j = n := by omega
      have hlt : l.take j = l := List.take_of_length_le (by rw [← hln.out]; exact Nat.le_refl _)
      rw [hlt, ← hF.out] at hfl hYt
      clear hlt
      obtain ⟨cur, hcu, hfit, hcut⟩ := rowCut (hp.out.row (i := 0) rfl) hij
      have hclr := fun ty cp2 => run_clear4 wr g i (j - i) cp2 ty cur hcu (by omega) hfit
      have hfin : Hp w [g] [.row 42 4 (.slice (some ⟨g, 0, none⟩) i cp) i (prC F)] (wr.setRow g (splice cur.toList (i * 4) (Builtin.zeroCells z0.cells (j - i)).toList).toArray) := by
        refine hp.out.upd (i := 0) rfl (.row 42 4 (.slice (some ⟨g, 0, none⟩) i cp) i (prC F)) fun fp hr => ?_
        obtain ⟨hr, rfl⟩ := hr
        rw [hYt] at hcut
        refine ⟨[g], ⟨hcut, rfl⟩, by simp, keeps_row _, ?_⟩
        intro b hb
        simp at hb; subst hb
        exact ⟨rowLt hcut, Or.inl (by simp [Value.ownBlock])⟩
      have q1 : (0 : Int) ≤ (i : Int) := by omega
      have q2 : (i : Int) ≤ (j : Int) := by omega
      have q3 : (j : Int) ≤ (cp : Int) := by omega
      have q4 : (i : Int) ≤ (cp : Int) := by omega
      have q5 : ¬ cp = i := by omega
      obtain rfl : nF = i := hnF.out.symm.trans hfl
      replace hfin := Lib.hid hfin
      clear hcut hcu hfit hYt hYd hY hfl
      go_wp2
      rename_i cs0 hcs0
      have hzc : z0.cells = cs0 := by rw [hcs0]; rfl
      have hf9 := hfin.out
      rw [hzc] at hf9
      go_ret
      exact ⟨rfl, hf9⟩
    | succ u =>
      obtain ⟨x, hx⟩ : ∃ x, l[j]? = some x := ⟨_, List.getElem?_eq_getElem (by have := hln.out; omega)⟩
      have hcx := fun W hk => hc.out x W hk
      obtain ⟨q, hq⟩ : ∃ q, p x = q := ⟨_, rfl⟩
      rw [hq] at hcx
      have hsn := filter_snoc p l j x hx
      rw [hq] at hsn
      have hdc := drop_cells hx
      rw [hdc] at hYd
      have hYj : ∀ t, t < 4 → Y[j * 4 + t]? = x.c[t]? := fun t ht => by
        have : (Y.drop (j * 4))[t]? = Y[j * 4 + t]? := List.getElem?_drop
        rw [← this, hYd, List.getElem?_append_left (by rw [Pr.c_len]; exact ht)]
      have hYd2 : Y.drop ((j + 1) * 4) = prC (l.drop (j + 1)) := by
        have e : (j + 1) * 4 = j * 4 + 4 := by omega
        rw [e, ← List.drop_drop, hYd, List.drop_left' (Pr.c_len x)]
      have hrow := hp.out.row (i := 0) rfl
      have hca : ∀ t, t < 4 → wr.cell? ⟨g, j * 4 + t, none⟩ = x.c[t]? := fun t ht => (hrow.cellAt (j * 4 + t) (by omega)).trans (hYj t ht)
      obtain ⟨xk, xd, xn, xs⟩ := x
      have d0 : wr.cell? ⟨g, j * 4, none⟩ = some (.int .i64 xk) := hca 0 (by decide)
      have d1 : wr.cell? ⟨g, j * 4 + 1, none⟩ = some (.int .i64 xd) := hca 1 (by decide)
      have d2 : wr.cell? ⟨g, j * 4 + 2, none⟩ = some (.int .i64 xn) := hca 2 (by decide)
      have d3 : wr.cell? ⟨g, j * 4 + 3, none⟩ = some (.string xs) := hca 3 (by decide)
      have hpz := hp.out.alloc #[.int .i64 0, .int .i64 0, .int .i64 0, .string ⟨#[]⟩] 42
      have z0' := hpz.cell (i := 0) rfl 0; have z1 := hpz.cell (i := 0) rfl 1; have z2 := hpz.cell (i := 0) rfl 2; have z3 := hpz.cell (i := 0) rfl 3
      have y0 := hpz.free (i := 0) rfl 0; have y1 := hpz.free (i := 0) rfl 1; have y2 := hpz.free (i := 0) rfl 2; have y3 := hpz.free (i := 0) rfl 3
      simp at z0' z1 z2 z3
      have hpb := Lib.hid (hp.out.alloc #[.int .i64 xk, .int .i64 xd, .int .i64 xn, .string xs] 42)
      have e1 : (0 : Int) ≤ (j : Int) := by omega
      have e2 : (j : Int) < (n : Int) := by omega
      change ∀ W, Keeps [g] w W → Calls Tryd.prog kf (#[.agg #[.int .i64 xk, .int .i64 xd, .int .i64 xn, .string xs]] ++ cap) W fun e w' => e = .returned (.bool q) ∧ Below W.heap.size W w' at hcx
      replace hcx := Lib.hid hcx; replace hsn := Lib.hid hsn; replace hYd2 := Lib.hid hYd2
      have i1 : (0 : Int) ≤ (i : Int) := by omega
      have i2 : (i : Int) < (n : Int) := by omega
      have hYi : ∀ t, t < 4 → ∃ y, Y[i * 4 + t]? = some y := fun t ht => ⟨_, List.getElem?_eq_getElem (by omega)⟩
      have hi4 : i * 4 + 4 ≤ Y.length := by omega
      clear hrow hca hYj hdc hYd hx hpz
      go_upto_region 8 with fail
      clear z0' z1 z2 z3 y0 y1 y2 y3 d0 d1 d2 d3 hp
      generalize wr.alloc _ = W at hpb ⊢
      generalize wr.heap.size = qb at hpb ⊢
      have c0 := hpb.out.cell (i := 0) rfl 0; have c1 := hpb.out.cell (i := 0) rfl 1; have c2 := hpb.out.cell (i := 0) rfl 2; have c3 := hpb.out.cell (i := 0) rfl 3
      simp at c0 c1 c2 c3
      cases q with
      | true =>
        rw [if_pos rfl, List.append_nil] at hsn
        replace hYt := Lib.hid hYt; replace hfl := Lib.hid hfl; replace hYi := Lib.hid hYi
        go_wp2_with ((with_reducible refine (hcx.out _ hpb.out.kp).mono ?_); rintro e w5 ⟨rfl, b5⟩; replace hpb := Lib.hid (hpb.out.below b5); clear b5)
        go_roundg u
        case rel => exact ⟨i, j + 1, Y, rfl, by go_num, by omega, by omega, hY, by rw [hsn.out]; exact hfl.out, by rw [hsn.out]; exact hYt.out, hYd2.out, hpb.out.drop 0⟩
        case measure => omega
      | false =>
        rw [if_neg (by decide)] at hsn
        have hY4 : (set4 Y (i * 4) (.int .i64 xk) (.int .i64 xd) (.int .i64 xn) (.string xs)).take ((i + 1) * 4) = prC ((l.take (j + 1)).filter fun x => !p x) := by
          rw [set4_take _ _ _ _ _ _ hi4, hYt, hsn.out, prC_append]; rfl
        have hYd4 : (set4 Y (i * 4) (.int .i64 xk) (.int .i64 xd) (.int .i64 xn) (.string xs)).drop ((j + 1) * 4) = prC (l.drop (j + 1)) := by
          rw [set4_drop _ _ _ _ _ _ _ hi4 (by omega)]; exact hYd2.out
        have hfl2 : ((l.take (j + 1)).filter fun x => !p x).length = i + 1 := by rw [hsn.out, List.length_append, hfl]; rfl
        have hYl4 : (set4 Y (i * 4) (.int .i64 xk) (.int .i64 xd) (.int .i64 xn) (.string xs)).length = n * 4 := by rw [set4_len]; exact hY
        obtain ⟨a0, ha0⟩ := hYi 0 (by decide); obtain ⟨a1, ha1⟩ := hYi 1 (by decide); obtain ⟨a2, ha2⟩ := hYi 2 (by decide); obtain ⟨a3, ha3⟩ := hYi 3 (by decide)
        have hst : ∀ W' : World, W'.ownsRow 0 42 4 (.slice (some ⟨g, 0, none⟩) n cp) n Y → (W'.cell? ⟨g, i * 4, none⟩ = some a0 ∧ W'.cell? ⟨g, i * 4 + 1, none⟩ = some a1 ∧ W'.cell? ⟨g, i * 4 + 2, none⟩ = some a2 ∧ W'.cell? ⟨g, i * 4 + 3, none⟩ = some a3) ∧ (∀ t, W'.frozen? ⟨g, t, none⟩ = false) := fun W' h =>
          ⟨⟨(h.cellAt (i * 4) (by omega)).trans ha0, (h.cellAt (i * 4 + 1) (by omega)).trans ha1, (h.cellAt (i * 4 + 2) (by omega)).trans ha2, (h.cellAt (i * 4 + 3) (by omega)).trans ha3⟩, fun t => rowFree h t⟩
        replace hst := Lib.hid hst; replace hY4 := Lib.hid hY4; replace hYd4 := Lib.hid hYd4; replace hfl2 := Lib.hid hfl2; replace hYl4 := Lib.hid hYl4
        clear hYt hfl hYi hsn hYd2 ha0 ha1 ha2 ha3 hi4
        go_upto_region 9 with ((with_reducible refine (hcx.out _ hpb.out.kp).mono ?_); rintro e w5 ⟨rfl, b5⟩; replace hpb := Lib.hid (hpb.out.below b5); clear b5; have c0 := hpb.out.cell (i := 0) rfl 0; have c1 := hpb.out.cell (i := 0) rfl 1; have c2 := hpb.out.cell (i := 0) rfl 2; have c3 := hpb.out.cell (i := 0) rfl 3; simp at c0 c1 c2 c3)
        obtain ⟨⟨s0, s1, s2, s3⟩, sf⟩ := hst.out _ (hpb.out.row (i := 1) rfl)
        have f0 := sf (i * 4); have f1 := sf (i * 4 + 1); have f2 := sf (i * 4 + 2); have f3 := sf (i * 4 + 3)
        have hp5 := Lib.hid ((((hpb.out.rowPut (i := 1) rfl (i * 4) (.int .i64 xk)).rowPut (i := 1) rfl (i * 4 + 1) (.int .i64 xd)).rowPut (i := 1) rfl (i * 4 + 2) (.int .i64 xn)).rowPut (i := 1) rfl (i * 4 + 3) (.string xs))
        clear sf
        go_wp2_with fail
        go_roundg u
        case rel => exact ⟨i + 1, j + 1, _, by go_num, by go_num, by omega, by omega, hYl4.out, hfl2.out, hY4.out, hYd4.out, hp5.out.drop 0⟩
        case measure => omega
/-- wherever the row lies -/
theorem delF_any (kf : Nat) (cap : Array Value) (p : Pr → Bool) (v : Value) (l : List Pr) (w : World) (h : w.ownsRow 0 42 4 v l.length (prC l)) (hn : l.length ≤ 100000) (hcf : ∀ (args : Array Value) (W : World), (callFunc kf args).run Tryd.prog W = .ok (.enter kf args) W)
    (hc : ∀ (x : Pr) (W : World), Keeps v.ownBlock.toList w W → Calls Tryd.prog kf (#[x.v] ++ cap) W fun e w' => e = .returned (.bool (p x)) ∧ Below W.heap.size W w') :
    Calls Tryd.prog 54 #[v, .func (.func kf) #[] cap] w fun e w' => ∃ v', e = .returned v' ∧ (∃ ad cp, v' = .slice ad (l.filter fun x => !p x).length cp) ∧ Hp w v.ownBlock.toList [.row 42 4 v' (l.filter fun x => !p x).length (prC (l.filter fun x => !p x))] w' := by
  by_cases hy : ∃ x ∈ l, p x = true
  · obtain ⟨x, hx, hpx⟩ := hy
    have hpos : 0 < l.length := List.length_pos_of_mem hx
    obtain ⟨g, cp, hv, _, _⟩ := h.form hpos
    subst hv
    exact (delF_some kf cap p g cp l l.length rfl w h hn hcf hc ⟨x, hx, hpx⟩).mono fun e w' ⟨he, hh⟩ => ⟨_, he, ⟨_, _, rfl⟩, hh⟩
  · have hno : ∀ x ∈ l, p x = false := fun x hx => by
      cases hp : p x with
      | false => rfl
      | true => exact absurd ⟨x, hx, hp⟩ hy
    rw [filter_all l hno]
    exact (delF_none kf cap p v l w h hn hcf hc hno).mono fun e w' ⟨he, hb⟩ => ⟨_, he, rowShape h, (Hp.lendRow h).below hb⟩
end Go.Proofs.YtdgpalileloekaaDoor.recw
