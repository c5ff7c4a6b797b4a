/- The question that any text says is the document's, or where it is wrong: the law QueryParses. The tables are premises. The tables that questions are read by, as the program lays them; the law QueryParses over them. -/
import Derived.Test.YtgbkpkioijbgoaaDoorRqP
import Derived.Test.YtgbkpkioijbgoaaDoorRqS
import Derived.Test.YtgbkpkioijbgoaaDoorRqX
import Derived.Test.YtgbkpkioijbgoaaDoorQryA
import Derived.Stop.LaidErr
import Derived.Lib.LaidTab
section
namespace Go.Proofs.YtgbkpkioijbgoaaDoor.qry
open Go.RowKit
open lex (W wordsL wordsF)
open names (Nm)
attribute [local go_sem ↓] Go.wp_at_zero Go.wp_at_succ
attribute [local go_sem] str_size str_bl
set_option linter.unusedVariables false
set_option linter.unusedSimpArgs false
set_option maxRecDepth 100000

theorem propsF_len (ws : List W) : ∀ (f : Nat) (st : St) (acc : List Pp), (propsF ws f st acc).1.length ≤ acc.length + f
  | 0, st, acc => Nat.le_refl _
  | f + 1, st, acc => by
    rw [propsF]
    split
    · exact Nat.le_trans (propsF_len ws f _ (acc ++ [(propM ws st).1])) (by rw [List.length_append]; show acc.length + 1 + f ≤ _; omega)
    · rw [List.length_append]; show acc.length + 1 ≤ _; omega
theorem node_props (ws : List W) (st : St) : (nodeM ws st).1.props.length ≤ ws.length + 1 := by
  unfold nodeM
  simp only
  split
  · unfold propsM
    simp only
    split
    · exact Nat.zero_le _
    · have := propsF_len ws (ws.length + 1) (typedM ws (needM ws 4 [40] st)).2.2.adv []
      simp only [List.length_nil] at this
      omega
  · exact Nat.zero_le _
theorem edgesF_props (ws : List W) : ∀ (f : Nat) (st : St) (ns : List Nd) (es : List Ed), (∀ x ∈ ns, x.props.length ≤ ws.length + 1) → ∀ x ∈ (edgesF ws f st ns es).1, x.props.length ≤ ws.length + 1
  | 0, st, ns, es, h => h
  | f + 1, st, ns, es, h => by
    rw [edgesF]
    split
    · refine edgesF_props ws f _ _ _ (fun x hx => ?_)
      rcases List.mem_append.1 hx with h1 | h1
      · exact h x h1
      · rw [List.mem_singleton.1 h1]; exact node_props ws _
    · exact h
theorem quest_props (ws : List W) : ∀ x ∈ (questM ws).1.nodes, x.props.length ≤ ws.length + 1 := by
  unfold questM
  simp only
  refine edgesF_props ws _ _ _ _ (fun x hx => ?_)
  rw [List.mem_singleton.1 hx]; exact node_props ws _
/-- what a question that was taken keeps to -/
theorem parse_yes (l : List UInt8) (q : Qn) (h : parseL l = .inl q) : (∀ x ∈ q.nodes, x.props.length ≤ 1100) ∧ mayQ q = true := by
  unfold parseL at h
  split at h
  · cases h
  · rename_i hl
    cases hw : wordsL l with
    | mk r p =>
    rw [hw] at h
    cases r with
    | none => cases h
    | some ws =>
      have hn := wordsF_len _ _ _ _ _ _ hw
      simp only [List.length_nil] at hn
      simp only at h
      unfold parseM at h
      cases hb : (questM ws).2.bad with
      | true => rw [hb] at h; cases h
      | false =>
        rw [hb] at h
        cases hm : mayQ (questM ws).1 with
        | false => rw [hm] at h; cases h
        | true =>
          rw [hm] at h
          have hq : (questM ws).1 = q := by simpa using h
          rw [← hq]
          exact ⟨fun x hx => by have := quest_props ws x hx; omega, hm⟩
theorem parse_no (l : List UInt8) (p n : Nat) (h : parseL l = .inr (p, n)) : n ≠ 0 := by
  unfold parseL at h
  split at h
  · cases h; decide
  · cases hw : wordsL l with
    | mk r q =>
    rw [hw] at h
    cases r with
    | none => cases h; decide
    | some ws =>
      simp only at h
      cases hp : parseM ws l.length with
      | inl z => rw [hp] at h; cases h
      | inr z => rw [hp] at h; cases h; decide
/-- a question that a call made, as an argument -/
theorem qret_qv {w w' : World} {q : Qn} {v : Value} (h : QRet w q v w') (hp : ∀ x ∈ q.nodes, x.props.length ≤ 1100) : ∃ A : Qv, v = .agg #[.slice A.na A.N.length A.nc, .slice A.ea A.E.length A.ec, .slice A.ca A.C.length A.cc, .slice A.ia A.I.length A.ic, .int .i64 A.lim] ∧ (A.N.map NdV.nd = q.nodes ∧ A.E = q.edges ∧ A.C = q.conds ∧ A.I = q.items ∧ A.lim = (q.limit : Int)) ∧ (A.ok w' ∧ A.pr w') ∧ Below w.heap.size w w' := by
  obtain ⟨N, nad, ead, cad, iad, ncp, ecp, ccp, icp, nrs, hN, hn, rfl, hh, l1, l2, l3, l4⟩ := h
  refine ⟨⟨N, q.edges, q.conds, q.items, (q.limit : Int), nad, ncp, ead, ecp, cad, ccp, iad, icp⟩, rfl, ⟨hN, rfl, rfl, rfl, rfl⟩, ⟨⟨hh.sl (i := 0) rfl (Nat.le_trans l1 (by decide)), hh.sl (i := 1) rfl (Nat.le_trans l2 (by decide)), hh.sl (i := 2) rfl (Nat.le_trans l3 (by decide)), hh.sl (i := 3) rfl (Nat.le_trans l4 (by decide)), l1, l2, l3, l4⟩, fun y hy => ?_⟩, hh.bel⟩
  have hy2 : y.nd ∈ q.nodes := by rw [← hN]; exact List.mem_map.2 ⟨y, hy, rfl⟩
  have hb := hp _ hy2
  obtain ⟨i, hi⟩ := List.getElem?_of_mem (hn y hy)
  exact ⟨hh.sl (i := i + 4) (by simpa using hi) (Nat.le_trans hb (by decide)), Nat.le_trans hb (by decide)⟩
theorem zero_ok (w : World) : (⟨[], [], [], [], 0, none, 0, none, 0, none, 0, none, 0⟩ : Qv).ok w := ⟨⟨_, _, rfl, by decide, Or.inl rfl⟩, ⟨_, _, rfl, by decide, Or.inl rfl⟩, ⟨_, _, rfl, by decide, Or.inl rfl⟩, ⟨_, _, rfl, by decide, Or.inl rfl⟩, by decide, by decide, by decide, by decide⟩
theorem zero_pr (w : World) : (⟨[], [], [], [], 0, none, 0, none, 0, none, 0, none, 0⟩ : Qv).pr w := fun y hy => by cases hy
set_option maxHeartbeats 8000000 in
theorem queryParses_walk (a0 : ByteArray) (w : World) (w0 : a0.size ≤ maxLen) (hT : Tabs w) :
    Calls Tryd.prog 3 #[.string a0] w fun e w' => e = .returned (.bool true) ∧ Below w.heap.size w w' := by
  have ht : a0.extract 0 (min (a0.size : Int) 1100).toNat = str (a0.data.toList.take 1100) := lex.cut_min a0 1100
  obtain ⟨t, ht0⟩ : ∃ k, k = a0.data.toList.take 1100 := ⟨_, rfl⟩
  rw [← ht0] at ht
  have htl : t.length ≤ 140737488355328 := by rw [ht0, List.length_take]; omega
  have b1 : (0 : Int) ≤ min (a0.size : Int) 1100 := by omega
  have b2 : min (a0.size : Int) 1100 ≤ (a0.size : Int) := by omega
  clear w0 ht0
  have cp := fun W (hT : Tabs W) => parse_any t W hT htl
  have cr := fun W => rparse_any t W htl
  rw [parse_eq] at cr
  have hp := Lib.hid (Hp.none_ w [])
  cases hr : parseL t with
  | inr z =>
    obtain ⟨p, n⟩ := z
    rw [hr] at cp cr
    unfold PRet at cp
    unfold RPRet toR at cr
    simp only at cp cr
    have hn := parse_no t p n hr
    have n0 : ¬ (n : Int) = 0 := by omega
    have n1 : ((n : Int) != 0) = true := by rw [bne_iff_ne]; omega
    have n2 : ((n : Int) == 0) = false := by rw [beq_eq_false_iff_ne]; omega
    have cs := fun (W : World) => rsame_any ⟨[], [], [], [], 0, none, 0, none, 0, none, 0, none, 0⟩ ⟨[], [], [], [], 0, none, 0, none, 0, none, 0, none, 0⟩ W (zero_ok W) (zero_ok W) (zero_pr W) (zero_pr W) rfl rfl rfl rfl rfl
    have ez : (⟨[], [], [], [], 0, none, 0, none, 0, none, 0, none, 0⟩ : Qv).a = zeroQ := rfl
    rw [ez] at cs
    clear hr hn htl ez
    replace cp := Lib.hid cp; replace cr := Lib.hid cr; replace cs := Lib.hid cs; replace hT := Lib.hid hT
    go_enter Tryd.func3, Tryd.ntmps3
    go_upto_region 3 with (go_at_call 6; (try rw [ht]); (with_reducible refine (cp.out _ (hT.out.below hp.out.bel)).mono ?_); rintro e w1 ⟨rfl, k1⟩; replace hp := Lib.hid (hp.out.below k1); clear k1)
    replace hp := Lib.hid (hp.out.alloc #[.slice none 0 0, .slice none 0 0, .slice none 0 0, .slice none 0 0, .int .i64 0] 27)
    generalize w1.alloc _ = W2 at hp ⊢
    generalize w1.heap.size = q1 at hp ⊢
    go_upto_region 4 with (go_at_call 7; (try rw [ht]); (with_reducible refine (cr.out _).mono ?_); rintro e w3 ⟨rfl, k3⟩; replace hp := Lib.hid (hp.out.below k3); clear k3)
    replace hp := Lib.hid (hp.out.alloc #[.slice none 0 0, .slice none 0 0, .slice none 0 0, .slice none 0 0, .int .i64 0] 27)
    generalize w3.alloc _ = W4 at hp ⊢
    generalize w3.heap.size = q2 at hp ⊢
    have x0 := hp.out.cell (i := 1) rfl 0; have x1 := hp.out.cell (i := 1) rfl 1; have x2 := hp.out.cell (i := 1) rfl 2; have x3 := hp.out.cell (i := 1) rfl 3; have x4 := hp.out.cell (i := 1) rfl 4; have y0 := hp.out.cell (i := 0) rfl 0; have y1 := hp.out.cell (i := 0) rfl 1; have y2 := hp.out.cell (i := 0) rfl 2; have y3 := hp.out.cell (i := 0) rfl 3; have y4 := hp.out.cell (i := 0) rfl 4; simp at x0 x1 x2 x3 x4 y0 y1 y2 y3 y4
    go_wp2_with (first
      | (go_at_call 8; (with_reducible refine (awake_any _ (hT.out.below hp.out.bel)).mono ?_); rintro e w5 ⟨rfl, k5⟩; replace hp := Lib.hid (hp.out.below k5); clear k5 x0 x1 x2 x3 x4 y0 y1 y2 y3 y4; have x0 := hp.out.cell (i := 1) rfl 0; have x1 := hp.out.cell (i := 1) rfl 1; have x2 := hp.out.cell (i := 1) rfl 2; have x3 := hp.out.cell (i := 1) rfl 3; have x4 := hp.out.cell (i := 1) rfl 4; have y0 := hp.out.cell (i := 0) rfl 0; have y1 := hp.out.cell (i := 0) rfl 1; have y2 := hp.out.cell (i := 0) rfl 2; have y3 := hp.out.cell (i := 0) rfl 3; have y4 := hp.out.cell (i := 0) rfl 4; simp at x0 x1 x2 x3 x4 y0 y1 y2 y3 y4)
      | (go_at_call 9; (with_reducible refine (cs.out _).mono ?_); rintro e w6 ⟨rfl, k6⟩; replace hp := Lib.hid (hp.out.below k6); clear k6))
    go_ret
    exact ⟨rfl, hp.out.bel⟩
  | inl q =>
    rw [hr] at cp cr
    unfold PRet at cp
    unfold RPRet toR at cr
    simp only at cp cr
    obtain ⟨hpr, hmq⟩ := parse_yes t q hr
    clear hr htl
    replace cp := Lib.hid cp; replace cr := Lib.hid cr; replace hT := Lib.hid hT; replace hpr := Lib.hid hpr; replace hmq := Lib.hid hmq
    go_enter Tryd.func3, Tryd.ntmps3
    go_upto_region 3 with (go_at_call 6; (try rw [ht]); (with_reducible refine (cp.out _ (hT.out.below hp.out.bel)).mono ?_); rintro e w1 ⟨v, rfl, hq1⟩; obtain ⟨A, rfl, eA, okA, k1⟩ := qret_qv hq1 hpr.out; clear hq1; replace hp := Lib.hid (hp.out.below k1); clear k1; replace eA := Lib.hid eA; replace okA := Lib.hid okA)
    replace hp := Lib.hid (hp.out.alloc #[.slice A.na A.N.length A.nc, .slice A.ea A.E.length A.ec, .slice A.ca A.C.length A.cc, .slice A.ia A.I.length A.ic, .int .i64 A.lim] 27)
    have hal := (Below.refl w1.heap.size w1).alloc (Nat.le_refl _) (.cells #[.slice A.na A.N.length A.nc, .slice A.ea A.E.length A.ec, .slice A.ca A.C.length A.cc, .slice A.ia A.I.length A.ic, .int .i64 A.lim] 27)
    replace okA := Lib.hid (And.intro (okA.out.1.below hal) (okA.out.2.below hal))
    clear hal
    generalize w1.alloc _ = W2 at hp okA ⊢
    generalize w1.heap.size = q1 at hp ⊢
    go_upto_region 4 with (go_at_call 7; (try rw [ht]); (with_reducible refine (cr.out _).mono ?_); rintro e w3 ⟨v, rfl, hq3⟩; obtain ⟨B, rfl, eB, okB, k3⟩ := qret_qv hq3 hpr.out; clear hq3; replace hp := Lib.hid (hp.out.below k3); replace okA := Lib.hid (And.intro (okA.out.1.below k3) (okA.out.2.below k3)); clear k3; replace eB := Lib.hid eB; replace okB := Lib.hid okB)
    replace hp := Lib.hid (hp.out.alloc #[.slice B.na B.N.length B.nc, .slice B.ea B.E.length B.ec, .slice B.ca B.C.length B.cc, .slice B.ia B.I.length B.ic, .int .i64 B.lim] 27)
    have hal := (Below.refl w3.heap.size w3).alloc (Nat.le_refl _) (.cells #[.slice B.na B.N.length B.nc, .slice B.ea B.E.length B.ec, .slice B.ca B.C.length B.cc, .slice B.ia B.I.length B.ic, .int .i64 B.lim] 27)
    replace okA := Lib.hid (And.intro (okA.out.1.below hal) (okA.out.2.below hal))
    replace okB := Lib.hid (And.intro (okB.out.1.below hal) (okB.out.2.below hal))
    clear hal
    generalize w3.alloc _ = W4 at hp okA okB ⊢
    generalize w3.heap.size = q2 at hp ⊢
    have cs := fun (W : World) (okA : A.ok W ∧ A.pr W) (okB : B.ok W ∧ B.pr W) => rsame_any A B W okA.1 okB.1 okA.2 okB.2 (eA.out.1.trans eB.out.1.symm) (eA.out.2.1.trans eB.out.2.1.symm) (eA.out.2.2.1.trans eB.out.2.2.1.symm) (eA.out.2.2.2.1.trans eB.out.2.2.2.1.symm) (eA.out.2.2.2.2.trans eB.out.2.2.2.2.symm)
    have hme : A.mayV = true := by
      rw [mayV_eq A q.limit eA.out.2.2.2.2, eA.out.1, eA.out.2.1, eA.out.2.2.1, eA.out.2.2.2.1]
      exact hmq.out
    have cm := fun (W : World) (okA : A.ok W ∧ A.pr W) => may_any A W okA.1
    rw [hme] at cm
    unfold Qv.a Qv.cs at cs cm
    obtain ⟨An, hAn⟩ : ∃ n, n = A.N.length := ⟨_, rfl⟩
    obtain ⟨Ae, hAe⟩ : ∃ n, n = A.E.length := ⟨_, rfl⟩
    obtain ⟨Ac, hAc⟩ : ∃ n, n = A.C.length := ⟨_, rfl⟩
    obtain ⟨Ai, hAi⟩ : ∃ n, n = A.I.length := ⟨_, rfl⟩
    obtain ⟨Bn, hBn⟩ : ∃ n, n = B.N.length := ⟨_, rfl⟩
    obtain ⟨Be, hBe⟩ : ∃ n, n = B.E.length := ⟨_, rfl⟩
    obtain ⟨Bc, hBc⟩ : ∃ n, n = B.C.length := ⟨_, rfl⟩
    obtain ⟨Bi, hBi⟩ : ∃ n, n = B.I.length := ⟨_, rfl⟩
    have hpx := hp.out
    rw [← hAn, ← hAe, ← hAc, ← hAi, ← hBn, ← hBe, ← hBc, ← hBi] at hpx cs
    rw [← hAn, ← hAe, ← hAc, ← hAi] at cm
    replace hp := Lib.hid hpx
    clear hpx hAn hAe hAc hAi hBn hBe hBc hBi hme
    replace cs := Lib.hid cs; replace cm := Lib.hid cm
    have x0 := hp.out.cell (i := 1) rfl 0; have x1 := hp.out.cell (i := 1) rfl 1; have x2 := hp.out.cell (i := 1) rfl 2; have x3 := hp.out.cell (i := 1) rfl 3; have x4 := hp.out.cell (i := 1) rfl 4; have y0 := hp.out.cell (i := 0) rfl 0; have y1 := hp.out.cell (i := 0) rfl 1; have y2 := hp.out.cell (i := 0) rfl 2; have y3 := hp.out.cell (i := 0) rfl 3; have y4 := hp.out.cell (i := 0) rfl 4; simp at x0 x1 x2 x3 x4 y0 y1 y2 y3 y4
    go_wp2_with (first
      | (go_at_call 8; (with_reducible refine (awake_any _ (hT.out.below hp.out.bel)).mono ?_); rintro e w5 ⟨rfl, k5⟩; replace hp := Lib.hid (hp.out.below k5); replace okA := Lib.hid (And.intro (okA.out.1.below k5) (okA.out.2.below k5)); replace okB := Lib.hid (And.intro (okB.out.1.below k5) (okB.out.2.below k5)); clear k5 x0 x1 x2 x3 x4 y0 y1 y2 y3 y4; have x0 := hp.out.cell (i := 1) rfl 0; have x1 := hp.out.cell (i := 1) rfl 1; have x2 := hp.out.cell (i := 1) rfl 2; have x3 := hp.out.cell (i := 1) rfl 3; have x4 := hp.out.cell (i := 1) rfl 4; have y0 := hp.out.cell (i := 0) rfl 0; have y1 := hp.out.cell (i := 0) rfl 1; have y2 := hp.out.cell (i := 0) rfl 2; have y3 := hp.out.cell (i := 0) rfl 3; have y4 := hp.out.cell (i := 0) rfl 4; simp at x0 x1 x2 x3 x4 y0 y1 y2 y3 y4)
      | (go_at_call 9; (with_reducible refine (cs.out _ okA.out okB.out).mono ?_); rintro e w6 ⟨rfl, k6⟩; replace hp := Lib.hid (hp.out.below k6); replace okA := Lib.hid (And.intro (okA.out.1.below k6) (okA.out.2.below k6)); clear k6 x0 x1 x2 x3 x4 y0 y1 y2 y3 y4; have x0 := hp.out.cell (i := 1) rfl 0; have x1 := hp.out.cell (i := 1) rfl 1; have x2 := hp.out.cell (i := 1) rfl 2; have x3 := hp.out.cell (i := 1) rfl 3; have x4 := hp.out.cell (i := 1) rfl 4; simp at x0 x1 x2 x3 x4)
      | (go_at_call 10; (with_reducible refine (cm.out _ okA.out).mono ?_); rintro e w7 ⟨rfl, k7⟩; replace hp := Lib.hid (hp.out.below k7); clear k7))
    go_ret
    exact ⟨rfl, hp.out.bel⟩
end Go.Proofs.YtgbkpkioijbgoaaDoor.qry
end
section
namespace Go.Proofs.YtgbkpkioijbgoaaDoor.qry
open Go.RowKit
open lex (texts_of marksL marksNamed marksType cellsMarks cellsStr MarksAt)
set_option linter.unusedVariables false
set_option maxRecDepth 100000
theorem opsNamed : Tryd.prog.globalNamed "lodestone/query.ops" = some 2 := by kernel_rfl
theorem opsType : (Tryd.prog.globals[2]?).map (·.type) = some 160 := by kernel_rfl
theorem cellsOps : Tryd.prog.cellsOf 160 = 6 := by kernel_rfl
theorem plainNamed : Tryd.prog.globalNamed "lodestone/query.plain" = some 3 := by kernel_rfl
theorem plainType : (Tryd.prog.globals[3]?).map (·.type) = some 161 := by kernel_rfl
theorem cellsPlain : Tryd.prog.cellsOf 161 = 3 := by kernel_rfl
theorem tabs_of {W : World} (h : laidMetH Tryd.prog [("lodestone/lex.marks", Rows.laid_lodestone_lex_marks), ("lodestone/query.ops", Rows.laid_lodestone_query_ops), ("lodestone/query.plain", Rows.laid_lodestone_query_plain)] W) : Tabs W := by
  have h2 : laidMet Tryd.prog [("lodestone/lex.marks", Rows.laid_lodestone_lex_marks), ("lodestone/query.ops", Rows.laid_lodestone_query_ops), ("lodestone/query.plain", Rows.laid_lodestone_query_plain)] W := h
  have h3 := h2.tail
  have h4 := h3.tail
  refine ⟨?_, ?_, ?_⟩
  · obtain ⟨ps, ⟨g', t', cs, fuel, p, q, hg', ht', hvar, hd, _, _⟩, _⟩ := h2
    obtain rfl := Option.some.inj (marksNamed.symm.trans hg')
    obtain rfl := Option.some.inj (marksType.symm.trans ht')
    have hall := texts_of (zs := marksL) Tryd.underlying144 Tryd.underlying9 cellsStr cellsMarks hd
    have hcell : ∀ i m, marksL[i]? = some m → W.cell? ⟨0, i, none⟩ = some (.string (str m)) := fun i m hm => by
      have := World.var?_cell marksNamed hvar i
      rw [this]
      simpa using hall i m hm
    exact ⟨hcell, World.block_lt_of_cell? W _ (hcell 0 _ rfl)⟩
  · obtain ⟨ps, ⟨g', t', cs, fuel, p, q, hg', ht', hvar, hd, _, _⟩, _⟩ := h4
    obtain rfl := Option.some.inj (plainNamed.symm.trans hg')
    obtain rfl := Option.some.inj (plainType.symm.trans ht')
    have hall := texts_of (zs := plainL) Tryd.underlying161 Tryd.underlying9 cellsStr cellsPlain hd
    have hcell : ∀ i m, plainL[i]? = some m → W.cell? ⟨3, i, none⟩ = some (.string (str m)) := fun i m hm => by
      have := World.var?_cell plainNamed hvar i
      rw [this]
      simpa using hall i m hm
    exact ⟨World.block_lt_of_cell? W _ (hcell 0 _ rfl), hcell⟩
  · obtain ⟨ps, ⟨g', t', cs, fuel, p, q, hg', ht', hvar, hd, _, _⟩, _⟩ := h3
    obtain rfl := Option.some.inj (opsNamed.symm.trans hg')
    obtain rfl := Option.some.inj (opsType.symm.trans ht')
    have hall := texts_of (zs := opsL) Tryd.underlying160 Tryd.underlying9 cellsStr cellsOps hd
    have hcell : ∀ i m, opsL[i]? = some m → W.cell? ⟨2, i, none⟩ = some (.string (str m)) := fun i m hm => by
      have := World.var?_cell opsNamed hvar i
      rw [this]
      simpa using hall i m hm
    exact ⟨World.block_lt_of_cell? W _ (hcell 0 _ rfl), hcell⟩
end Go.Proofs.YtgbkpkioijbgoaaDoor.qry
end
