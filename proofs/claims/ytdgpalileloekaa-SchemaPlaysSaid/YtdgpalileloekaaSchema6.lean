/- One index more (Add), whole; the law's own awake. No condition but the slice's cells. -/
import Derived.Test.YtdgpalileloekaaSchema5
namespace Go.Proofs.Ytdgpalileloekaa.schema
open Go.RowKit
attribute [local go_sem ↓] Go.wp_at_zero Go.wp_at_succ
set_option linter.unusedVariables false
set_option maxRecDepth 100000

set_option maxHeartbeats 1000000 in
theorem add_full (v : Value) (l : List Ix) (x : Ix) (w : World) (h : Sl w v l.length (ixCells l)) (hn : l.length ≤ 100000) (hm : mayB x = true) (hs : l.filter (same x.l x.k) = []) (hf : 32 ≤ l.length) :
    Calls Try.prog 35 #[v, x.v] w (AddRet w l 5) := by
  have hp := (Hp.none_ w []).alloc #[.int .i64 x.l, .int .i64 x.k, .int .i64 x.d] 73
  have c1 := fun W => may_any x W
  rw [hm] at c1
  have c2 := fun W (hb : Below w.heap.size w W) => slix.clone_any v l.length (ixCells l) (ixCells_len l) (ixCells_one l) (by omega) W (h.below hb)
  have c3 := fun W (hb : Below w.heap.size w W) => by_any v l x.l x.k W (h.below hb) hn
  rw [hs] at c3
  obtain ⟨ad0, cp0, rfl, _, _⟩ := h
  have hge : (l.length : Int) ≥ 32 := by omega
  obtain ⟨xl, xk, xd⟩ := x
  unfold Ix.v at *
  simp only at *
  replace hp := Lib.hid hp; replace c1 := Lib.hid c1; replace c2 := Lib.hid c2; replace c3 := Lib.hid c3
  clear hn hm hs hf
  go_enter Try.func35, Try.ntmps35
  go_wp2_with (first
    | (go_at_call 37; (with_reducible refine (c1.out _).mono ?_); rintro e w1 ⟨rfl, b1⟩; replace hp := Lib.hid (hp.out.below b1); clear b1; have d0 := hp.out.cell (i := 0) rfl 0; have d1 := hp.out.cell (i := 0) rfl 1; simp at d0 d1)
    | (go_at_call 68; (with_reducible refine (c3.out _ hp.out.bel).mono ?_); rintro e w1 ⟨v', rfl, ⟨ad, cp, rfl⟩, h1⟩; replace hp := Lib.hid ((hp.out.take h1).drop 0); clear h1)
    | (go_at_call 69; (with_reducible refine (c2.out _ hp.out.bel).mono ?_); rintro e w1 ⟨v', rfl, hv, h1⟩; replace hp := Lib.hid ((hp.out.take h1).drop 1); clear h1; replace hv := Lib.hid hv))
  go_ret2
  exact ⟨_, rfl, hv.out, hp.out⟩
set_option maxHeartbeats 2000000 in
theorem add_new (v : Value) (l : List Ix) (x : Ix) (w : World) (h : Sl w v l.length (ixCells l)) (hm : mayB x = true) (hs : l.filter (same x.l x.k) = []) (hf : l.length < 32) :
    Calls Try.prog 35 #[v, x.v] w (AddRet w (aheadL l x ++ [x] ++ behindL l x) 0) := by
  have hp := (Hp.none_ w []).alloc #[.int .i64 x.l, .int .i64 x.k, .int .i64 x.d] 73
  have c1 := fun W => may_any x W
  rw [hm] at c1
  have c3 := fun W (hb : Below w.heap.size w W) => by_any v l x.l x.k W (h.below hb) (by omega)
  rw [hs] at c3
  have c5 : ∀ W, Below w.heap.size w W → W.heap[w.heap.size]? = some (.cells #[.int .i64 x.l, .int .i64 x.k, .int .i64 x.d] 73 (0, 0)) → Calls Try.prog 66 #[v, .func (.func 70) #[] #[.pointer (some ⟨w.heap.size, 0, none⟩)]] W fun e w' => ∃ v', e = .returned v' ∧ (∃ ad cp, v' = .slice ad (behindL l x).length cp) ∧ Hp W [] [.row 73 3 v' (behindL l x).length (ixCells (behindL l x))] w' :=
    fun W hb hg => sifted_any 70 #[.pointer (some ⟨w.heap.size, 0, none⟩)] (fun y => decide (0 < ordI y x)) v l W (h.below hb) (by omega) (fun _ _ => rfl) (fun y X hX => add1_any y x _ X ((hX.block _ (block_lt hg)).trans hg))
  have c6 : ∀ W, Below w.heap.size w W → W.heap[w.heap.size]? = some (.cells #[.int .i64 x.l, .int .i64 x.k, .int .i64 x.d] 73 (0, 0)) → Calls Try.prog 66 #[v, .func (.func 72) #[] #[.pointer (some ⟨w.heap.size, 0, none⟩)]] W fun e w' => ∃ v', e = .returned v' ∧ (∃ ad cp, v' = .slice ad (aheadL l x).length cp) ∧ Hp W [] [.row 73 3 v' (aheadL l x).length (ixCells (aheadL l x))] w' :=
    fun W hb hg => sifted_any 72 #[.pointer (some ⟨w.heap.size, 0, none⟩)] (fun y => decide (ordI y x < 0)) v l W (h.below hb) (by omega) (fun _ _ => rfl) (fun y X hX => add2_any y x _ X ((hX.block _ (block_lt hg)).trans hg))
  have hB : (behindL l x).length ≤ 32 := Nat.le_trans (List.length_filter_le _ _) (by omega)
  have hA : (aheadL l x).length ≤ 32 := Nat.le_trans (List.length_filter_le _ _) (by omega)
  obtain ⟨B, hBe⟩ : ∃ B, B = behindL l x := ⟨_, rfl⟩
  obtain ⟨A, hAe⟩ : ∃ B, B = aheadL l x := ⟨_, rfl⟩
  rw [← hBe] at c5 hB ⊢
  rw [← hAe] at c6 hA ⊢
  obtain ⟨ad0, cp0, rfl, _, _⟩ := h
  have hge : ¬ (l.length : Int) ≥ 32 := by omega
  have hx1 : ixC x = [.int .i64 x.l, .int .i64 x.k, .int .i64 x.d] := rfl
  have hall : ixCells (A ++ [x] ++ B) = [ixCells A, ixC x, ixCells B].flatten := by simp [ixCells]
  have hlen : (A ++ [x] ++ B).length = A.length + 1 + B.length := by simp; omega
  have htot : [ixCells A, ixC x, ixCells B].flatten.length = (A.length + 1 + B.length) * 3 := by simp [ixCells_len, ixC]; omega
  rw [show AddRet w (A ++ [x] ++ B) 0 = fun e w' => ∃ v, e = .returned (.tuple #[v, .int .i64 0]) ∧ (∃ ad cp, v = .slice ad (A.length + 1 + B.length) cp) ∧ Hp w [] [.row 73 3 v (A.length + 1 + B.length) [ixCells A, ixC x, ixCells B].flatten] w' by unfold AddRet RowRet; rw [hlen, hall]]
  have ha1 := ixCells_one A
  have hb1 := ixCells_one B
  have ha2 := ixCells_len A
  have hb2 := ixCells_len B
  generalize ixCells A = CA at *
  generalize ixCells B = CB at *
  generalize A.length = na at *
  generalize B.length = nb at *
  rw [hx1] at htot ⊢
  obtain ⟨xl, xk, xd⟩ := x
  unfold Ix.v at *
  simp only at *
  replace hp := Lib.hid hp; replace c1 := Lib.hid c1; replace c3 := Lib.hid c3; replace c5 := Lib.hid c5; replace c6 := Lib.hid c6
  replace ha1 := Lib.hid ha1; replace hb1 := Lib.hid hb1; replace ha2 := Lib.hid ha2; replace hb2 := Lib.hid hb2; replace htot := Lib.hid htot
  clear hm hs hf hx1 hall hlen hBe hAe A B
  have hmf1 := hmf
  go_enter Try.func35, Try.ntmps35
  go_upto_region 7 with (first
    | (go_at_call 37; (with_reducible refine (c1.out _).mono ?_); rintro e w1 ⟨rfl, b1⟩; replace hp := Lib.hid (hp.out.below b1); clear b1; have d0 := hp.out.cell (i := 0) rfl 0; have d1 := hp.out.cell (i := 0) rfl 1; simp at d0 d1)
    | (go_at_call 68; (with_reducible refine (c3.out _ hp.out.bel).mono ?_); rintro e w1 ⟨v', rfl, ⟨ad, cp, rfl⟩, h1⟩; replace hp := Lib.hid ((hp.out.take h1).drop 0); clear h1)
    | (go_at_call 66; (with_reducible refine (c5.out _ hp.out.bel (hp.out.box (i := 0) rfl)).mono ?_); rintro e w1 ⟨v', rfl, ⟨ad5, cp5, rfl⟩, h1⟩; replace hp := Lib.hid (hp.out.take h1); clear h1)
    | (go_at_call 66; (with_reducible refine (c6.out _ hp.out.bel (hp.out.box (i := 1) rfl)).mono ?_); rintro e w1 ⟨v', rfl, ⟨ad6, cp6, rfl⟩, h1⟩; replace hp := Lib.hid (hp.out.take h1); clear h1))
  have d0 := hp.out.cell (i := 2) rfl 0; have d1 := hp.out.cell (i := 2) rfl 1; have d2 := hp.out.cell (i := 2) rfl 2
  simp at d0 d1 d2
  have hp5 := (hp.out.rowLit #[.int .i64 xl, .int .i64 xk, .int .i64 xd] 73 3 1 (by decide) rfl)
  have hsz : (w1.alloc (.cells #[.int .i64 xl, .int .i64 xk, .int .i64 xd] 73)).heap.size = w1.heap.size + 1 := by simp
  have hp6 := hp5.rowLit #[.slice ad6 na cp6, .slice (some ⟨w1.heap.size, 0, none⟩) 1 1, .slice ad5 nb cp5] 71 1 3 (by decide) rfl
  rw [hsz] at hp6
  have hsl := hp6.sl (i := 0) rfl (by decide)
  have s1 := hp6.sl (i := 1) rfl (by decide)
  have s2 := hp6.sl (i := 2) rfl (by omega)
  have s3 := hp6.sl (i := 3) rfl (by omega)
  have c7 := slix.concat_any _ 3 [.slice ad6 na cp6, .slice (some ⟨w1.heap.size, 0, none⟩) 1 1, .slice ad5 nb cp5] [CA, [.int .i64 xl, .int .i64 xk, .int .i64 xd], CB] (na + 1 + nb) rfl rfl (by decide) htot.out (by omega) _ hsl (by
    intro i u hu
    match i, hu with
    | 0, hu => simp at hu; subst hu; exact ⟨CA, rfl, na, ha2.out, s2, ha1.out⟩
    | 1, hu => simp at hu; subst hu; exact ⟨_, rfl, 1, rfl, s1, by intro u hu; simp at hu; rcases hu with rfl | rfl | rfl <;> rfl⟩
    | 2, hu => simp at hu; subst hu; exact ⟨CB, rfl, nb, hb2.out, s3, hb1.out⟩
    | i + 3, hu => simp at hu)
  replace hp6 := Lib.hid hp6; replace c7 := Lib.hid c7
  clear hp5 hsl s1 s2 s3 hsz
  go_wp2_with (go_at_call 73; (with_reducible refine (c7.out).mono ?_); rintro e w2 ⟨v', rfl, hv, h1⟩; replace hp := Lib.hid (((((hp6.out.take h1).drop 5).drop 4).drop 3).drop 2 |>.drop 1); clear h1; replace hv := Lib.hid hv)
  go_ret2
  exact ⟨_, rfl, hv.out, hp.out⟩
theorem add_any (v : Value) (l : List Ix) (x : Ix) (w : World) (h : Sl w v l.length (ixCells l)) (hn : l.length ≤ 100000) :
    Calls Try.prog 35 #[v, x.v] w (AddRet w (addL l x).1 (addL l x).2) := by
  unfold addL
  by_cases hm : mayB x = false
  · rw [if_pos (Or.inl hm)]
    exact add_not v l x w h hn hm
  · have hm2 : mayB x = true := by simpa using hm
    by_cases hs : l.filter (same x.l x.k) = []
    · rw [if_neg (by simp [hm2, hs])]
      by_cases hf : 32 ≤ l.length
      · rw [if_pos hf]
        exact add_full v l x w h hn hm2 hs hf
      · rw [if_neg hf]
        exact add_new v l x w h hm2 hs (by omega)
    · rw [if_pos (Or.inr hs)]
      exact add_is v l x w h hn hm2 hs
theorem awake_any (w : World) : Calls Try.prog 32 #[] w fun e w' => e = .returned (.bool true) ∧ Below w.heap.size w w' := by
  have c1 : Calls Try.prog 35 #[.slice none 0 0, .agg #[.int .i64 1, .int .i64 2, .int .i64 1]] w (AddRet w [⟨1, 2, 1⟩] 0) := add_any _ [] ⟨1, 2, 1⟩ w (Sl.nil w) (by decide)
  have c2 : ∀ v W, Sl W v 1 (ixCells [⟨1, 2, 1⟩]) → Calls Try.prog 35 #[v, .agg #[.int .i64 1, .int .i64 2, .int .i64 2]] W (AddRet W [⟨1, 2, 1⟩] 1) := fun v W h => add_any v [⟨1, 2, 1⟩] ⟨1, 2, 2⟩ W h (by decide)
  have c3 : ∀ v W, Sl W v 1 (ixCells [⟨1, 2, 1⟩]) → Calls Try.prog 39 #[v, .int .i64 1, .int .i64 2] W fun e w' => e = .returned (.int .i64 1) ∧ Below W.heap.size W w' := fun v W h => find_any v [⟨1, 2, 1⟩] 1 2 W h (by decide)
  replace c1 := Lib.hid c1; replace c2 := Lib.hid c2; replace c3 := Lib.hid c3
  go_enter Try.func32, Try.ntmps32
  go_wp2_with (first
    | (go_at_call 35; (with_reducible refine (c1.out).mono ?_); rintro e w1 ⟨v1, rfl, hv, h1⟩; replace h1 := Lib.hid h1)
    | (go_at_call 35; (with_reducible refine (c2.out _ _ (h1.out.sl (i := 0) rfl (by decide))).mono ?_); rintro e w2 ⟨v2, rfl, hv2, h2⟩; replace h2 := Lib.hid (h1.out.take h2))
    | (go_at_call 39; (with_reducible refine (c3.out _ _ (h2.out.sl (i := 1) rfl (by decide))).mono ?_); rintro e w3 ⟨rfl, b3⟩; replace h2 := Lib.hid (h2.out.below b3)))
  go_ret
  exact ⟨rfl, h2.out.bel⟩
end Go.Proofs.Ytdgpalileloekaa.schema
