/- Which questions may be (query.named, few, May). No condition but where the question lies. -/
import Derived.Test.YtgbkpkioijbgoaaDoorQry7
namespace Go.Proofs.YtgbkpkioijbgoaaDoor.qry
open Go.RowKit
open lex (W wv)
open names (Nm mayN nmC nmC_len nmC_at nmC_append)
attribute [local go_sem ↓] Go.wp_at_zero Go.wp_at_succ
attribute [local go_sem] str_size str_bl
set_option linter.unusedVariables false
set_option linter.unusedSimpArgs false
set_option maxRecDepth 100000

/-- the names that are not empty; none: one is there twice -/
def namedF : List Nm → List Nm → Option (List Nm)
  | [], acc => some acc
  | s :: r, acc => if s = [] then namedF r acc else if s ∈ acc then none else namedF r (acc ++ [s])
theorem namedF_len : ∀ (l acc r : List Nm), namedF l acc = some r → r.length ≤ acc.length + l.length
  | [], acc, r, h => by simp [namedF] at h; subst h; simp
  | s :: t, acc, r, h => by
    rw [namedF] at h
    split at h
    · have := namedF_len t acc r h; simp; omega
    · split at h
      · cases h
      · have := namedF_len t _ r h; simp at this ⊢; omega
theorem namedF_spec : ∀ (l acc : List Nm), acc.Nodup → namedF l acc = if (acc ++ l.filter (fun s => decide (s ≠ []))).Nodup then some (acc ++ l.filter (fun s => decide (s ≠ []))) else none
  | [], acc, h => by simp [namedF, h]
  | s :: t, acc, h => by
    rw [namedF]
    by_cases h1 : s = []
    · rw [if_pos h1, namedF_spec t acc h, List.filter_cons_of_neg (by simp [h1])]
    · rw [if_neg h1, List.filter_cons_of_pos (by simp [h1])]
      by_cases h2 : s ∈ acc
      · rw [if_pos h2, if_neg (by
          intro hn
          rw [List.nodup_append] at hn
          exact hn.2.2 s h2 s (List.mem_cons_self ..) rfl)]
      · rw [if_neg h2, namedF_spec t (acc ++ [s]) (by
          rw [List.nodup_append]
          refine ⟨h, by simp, fun a ha b hb e => ?_⟩
          rw [List.mem_singleton.1 hb] at e
          exact h2 (e ▸ ha)), List.append_assoc]
        rfl
set_option maxHeartbeats 4000000 in
theorem named_any (q : Qv) (w : World) (h : q.ok w) :
    Calls Tryd.prog 35 #[q.a] w fun e w' => match namedF q.vars [] with
      | some l => ∃ (ad : Option Addr) (cp : Nat), e = .returned (.tuple #[.slice ad l.length cp, .bool true]) ∧ Hp w [] [.row 9 1 (.slice ad l.length cp) l.length (nmC l)] w'
      | none => e = .returned (.tuple #[.slice none 0 0, .bool false]) ∧ Below w.heap.size w w' := by
  have hvl : q.vars.length ≤ 2200 := by unfold Qv.vars; rw [List.length_append, List.length_map, List.length_map]; have := h.ln; have := h.le; omega
  have cv := fun W (hb : Below w.heap.size w W) => vars_any q W (h.below hb)
  obtain ⟨V, hV⟩ : ∃ V, V = q.vars := ⟨_, rfl⟩
  rw [← hV] at cv hvl ⊢
  obtain ⟨RES, hRES⟩ : ∃ R, R = namedF V [] := ⟨_, rfl⟩
  rw [← hRES]
  unfold Qv.a at cv ⊢
  obtain ⟨Q, hQ⟩ : ∃ Q, Q = q.cs := ⟨_, rfl⟩
  have hQ5 : ∃ a b c d l, Q = #[a, b, c, d, .int .i64 l] := ⟨_, _, _, _, _, hQ⟩
  rw [← hQ] at cv ⊢
  obtain ⟨qa, qb, qc, qd, ql, rfl⟩ := hQ5
  obtain ⟨n, hn⟩ : ∃ n, n = V.length := ⟨_, rfl⟩
  rw [← hn] at cv hvl
  clear hQ hV h
  have hp := (Hp.none_ w []).alloc #[qa, qb, qc, qd, .int .i64 ql] 27
  replace hp := Lib.hid hp; replace cv := Lib.hid cv; replace hvl := Lib.hid hvl; replace hRES := Lib.hid hRES; replace hn := Lib.hid hn
  go_enter Tryd.func35, Tryd.ntmps35
  go_upto_region 2 with fail
  generalize w.alloc _ = W1 at hp ⊢
  generalize w.heap.size = q1 at hp ⊢
  have y0 := hp.out.cell (i := 0) rfl 0; have y1 := hp.out.cell (i := 0) rfl 1; have y2 := hp.out.cell (i := 0) rfl 2; have y3 := hp.out.cell (i := 0) rfl 3; have y4 := hp.out.cell (i := 0) rfl 4
  simp at y0 y1 y2 y3 y4
  go_wp2_with (go_at_call 72; (with_reducible refine (cv.out _ hp.out.bel).mono ?_); rintro e w2 ⟨va, vc, rfl, h2⟩; replace hp := Lib.hid ((show Hp w [] (.row 9 1 (.slice va n vc) n (nmC V) :: .box q1 #[qa, qb, qc, qd, .int .i64 ql] 27 :: []) w2 from hp.out.take h2).rowNil 9 1); clear h2)
  clear y0 y1 y2 y3 y4
  go_loopg [4, 10] n (fun kk s4 s10 wr => ∃ (i : Nat) (acc : List Nm) (ad : Option Addr) (cp : Nat), s10 = .int .i64 (i : Int) ∧ i + kk = n ∧ s4 = .slice ad acc.length cp ∧ acc.length ≤ i ∧ namedF (V.drop i) acc = RES ∧ Hp w [] [.row 9 1 (.slice ad acc.length cp) acc.length (nmC acc), .row 9 1 (.slice va n vc) n (nmC V), .box q1 #[qa, qb, qc, qd, .int .i64 ql] 27] wr)
  case atStart => exact ⟨0, [], none, 0, rfl, by omega, rfl, Nat.le_refl _, by rw [List.drop_zero]; exact hRES.out.symm, hp.out⟩
  case round =>
    clear hp
    obtain ⟨i, acc, ad, cp, rfl, hik, rfl, hac, hnf, hp⟩ := hrel
    replace hp := Lib.hid hp
    by_cases hlt : i < n
    · obtain ⟨K, rfl⟩ : ∃ K : Nat, gk = K + 1 := ⟨gk - 1, by omega⟩
      obtain ⟨s, hs⟩ : ∃ s, V[i]? = some s := ⟨_, List.getElem?_eq_getElem (by have := hn.out; omega)⟩
      have hdr : V.drop i = s :: V.drop (i + 1) := by
        obtain ⟨hi, he⟩ := List.getElem?_eq_some_iff.1 hs
        rw [List.drop_eq_getElem_cons hi, he]
      rw [hdr, namedF] at hnf
      have hsl := hp.out.sl (i := 1) rfl (by have := hvl.out; omega)
      obtain ⟨b, o, hva, hr⟩ := (slAt hsl).resolve_left (by omega)
      subst hva
      have d0 : wr.cell? ⟨b, o + i, none⟩ = some (.string (str s)) := hr.2 i _ (nmC_at V i s hs)
      have e1 : (0 : Int) ≤ (i : Int) := by omega
      have e2 : (i : Int) < (n : Int) := by omega
      have hib : i < 2200 := by have := hvl.out; omega
      replace hik := Lib.hid hik
      clear hdr hsl hr hs hlt
      by_cases h1 : s = []
      · rw [if_pos h1] at hnf
        subst h1
        replace hnf := Lib.hid hnf; replace hac := Lib.hid hac
        go_wp2
        go_roundg K
        case measure => omega
        case rel => exact ⟨i + 1, acc, _, _, by go_num, by have := hik.out; omega, rfl, by have := hac.out; omega, hnf.out, hp.out⟩
      · rw [if_neg h1] at hnf
        have t1 : (s == []) = false := by simp [h1]
        have t2 : s.isEmpty = false := by simp [h1]
        have hca : acc.length ≤ 2200 := by have := hvl.out; have := hik.out; omega
        have cc := contains_any (.slice ad acc.length cp) acc s wr (hp.out.sl (i := 0) rfl (by omega)) (by omega)
        replace h1 := Lib.hid h1
        by_cases h2 : s ∈ acc
        · rw [if_pos h2] at hnf
          have hd : decide (s ∈ acc) = true := by simp [h2]
          rw [hd] at cc
          replace cc := Lib.hid cc; replace h2 := Lib.hid h2
          clear hd
          subst hnf
          go_wp2_with (go_at_call 37; (with_reducible refine cc.out.mono ?_); rintro e w3 ⟨rfl, rfl⟩)
          go_ret2
          exact ⟨rfl, hp.out.bel⟩
        · rw [if_neg h2] at hnf
          have hd : decide (s ∈ acc) = false := by simp [h2]
          rw [hd] at cc
          have hl9 := Lib.hid (show acc.length < 100000000 by omega)
          have hcl : nmC (acc ++ [s]) = nmC acc ++ [.string (str s)] := by rw [nmC_append]; rfl
          have hal : (acc ++ [s]).length = acc.length + 1 := by simp
          replace cc := Lib.hid cc; replace h2 := Lib.hid h2; replace hnf := Lib.hid hnf; replace hac := Lib.hid hac; replace hcl := Lib.hid hcl; replace hal := Lib.hid hal
          clear hd hca
          go_wp2_with (first
            | (go_at_call 37; (with_reducible refine cc.out.mono ?_); rintro e w3 ⟨rfl, rfl⟩)
            | (at_builtin; go_loud (refine wpList_append_hp rfl _ _ rfl Tryd.underlying45 textInfo rfl (by decide) (by decide) (hp.out.alloc_ (.cells #[.string (str s)] 9)) 0 rfl rfl _ _ [.string (str s)] rfl rfl (block_cells (heap_alloc_new _ _)) (by intro u hu; simp at hu; rcases hu with rfl; rfl) hl9.out ?_; intro v5 w5 hp5 hv5; replace hp5 := Lib.hid hp5; obtain ⟨ad5, cp5, rfl⟩ := hv5)))
          go_roundg K
          case measure => omega
          case rel => exact ⟨i + 1, acc ++ [s], _, _, by go_num, by have := hik.out; omega, by rw [hal.out], by rw [hal.out]; have := hac.out; omega, hnf.out, by rw [hal.out, hcl.out]; exact hp5.out⟩
    · have hk0 : gk = 0 := by omega
      subst hk0
      obtain rfl : n = i := by omega
      rw [List.drop_of_length_le (by rw [← hn.out]; exact Nat.le_refl _)] at hnf
      have hf : RES = some acc := hnf.symm
      subst hf
      clear hnf hik hlt hac
      go_wp2
      go_ret2
      exact ⟨_, _, rfl, (hp.out.drop 1).drop 1⟩
def Qv.fewV (q : Qv) : Bool := decide (q.N.length = q.E.length + 1) && (decide (q.E.length ≤ 6) && (decide (q.C.length ≤ 8) && (decide (1 ≤ q.I.length) && (decide (q.I.length ≤ 8) && (decide (0 ≤ q.lim) && decide (q.lim ≤ 256))))))
set_option maxHeartbeats 4000000 in
theorem few_any (q : Qv) (w : World) (h : q.ok w) : Calls Tryd.prog 36 #[q.a] w fun e w' => e = .returned (.bool q.fewV) ∧ Below w.heap.size w w' := by
  have ln := h.ln; have le := h.le
  unfold Qv.a Qv.cs Qv.fewV
  obtain ⟨N, E, C, I, lim, na, nc, ea, ec, ca, cc, ia, ic⟩ := q
  simp only at ln le ⊢
  clear h
  obtain ⟨n, hn⟩ : ∃ k, k = N.length := ⟨_, rfl⟩
  obtain ⟨m, hm⟩ : ∃ k, k = E.length := ⟨_, rfl⟩
  obtain ⟨c, hc⟩ : ∃ k, k = C.length := ⟨_, rfl⟩
  obtain ⟨i, hi⟩ : ∃ k, k = I.length := ⟨_, rfl⟩
  rw [← hn] at ln ⊢
  rw [← hm] at le ⊢
  rw [← hc, ← hi]
  clear hn hm hc hi
  have hp := (Hp.none_ w []).alloc #[.slice na n nc, .slice ea m ec, .slice ca c cc, .slice ia i ic, .int .i64 lim] 27
  have i1 : IntKind.i64.wrap ((m : Int) + 1) = (m : Int) + 1 := IntWalk.i64_in _ (by omega)
  replace hp := Lib.hid hp
  by_cases h0 : n = m + 1
  · have f0 : ((n : Int) == (m : Int) + 1) = true := by rw [beq_iff_eq]; omega
    by_cases h1 : m ≤ 6
    · have f1 : (m : Int) ≤ 6 := by omega
      by_cases h2 : c ≤ 8
      · have f2 : (c : Int) ≤ 8 := by omega
        by_cases h3 : 1 ≤ i
        · have f3 : (1 : Int) ≤ (i : Int) := by omega
          by_cases h4 : i ≤ 8
          · have f4 : (i : Int) ≤ 8 := by omega
            by_cases h5 : 0 ≤ lim
            · have f5 : 0 ≤ lim := by omega
              by_cases h6 : lim ≤ 256
              · have f6 : lim ≤ 256 := by omega
                have hv : (decide (n = m + 1) && (decide (m ≤ 6) && (decide (c ≤ 8) && (decide (1 ≤ i) && (decide (i ≤ 8) && (decide (0 ≤ lim) && (decide (lim ≤ 256)))))))) = true := by simp [h0, h1, h2, h3, h4, h5, h6]
                rw [hv]
                clear hv h0 h1 h2 h3 h4 h5 h6
                go_enter Tryd.func36, Tryd.ntmps36
                go_upto_region 1 with fail
                generalize w.alloc _ = W1 at hp ⊢
                generalize w.heap.size = q1 at hp ⊢
                have y0 := hp.out.cell (i := 0) rfl 0; have y1 := hp.out.cell (i := 0) rfl 1; have y2 := hp.out.cell (i := 0) rfl 2; have y3 := hp.out.cell (i := 0) rfl 3; have y4 := hp.out.cell (i := 0) rfl 4
                simp at y0 y1 y2 y3 y4
                go_wp2
                go_ret
                exact ⟨rfl, hp.out.bel⟩
              · have f6 : ¬ lim ≤ 256 := by omega
                have hv : (decide (n = m + 1) && (decide (m ≤ 6) && (decide (c ≤ 8) && (decide (1 ≤ i) && (decide (i ≤ 8) && (decide (0 ≤ lim) && (decide (lim ≤ 256)))))))) = false := by simp [h0, h1, h2, h3, h4, h5, h6]
                rw [hv]
                clear hv h0 h1 h2 h3 h4 h5 h6
                go_enter Tryd.func36, Tryd.ntmps36
                go_upto_region 1 with fail
                generalize w.alloc _ = W1 at hp ⊢
                generalize w.heap.size = q1 at hp ⊢
                have y0 := hp.out.cell (i := 0) rfl 0; have y1 := hp.out.cell (i := 0) rfl 1; have y2 := hp.out.cell (i := 0) rfl 2; have y3 := hp.out.cell (i := 0) rfl 3; have y4 := hp.out.cell (i := 0) rfl 4
                simp at y0 y1 y2 y3 y4
                go_wp2
                go_ret
                exact ⟨rfl, hp.out.bel⟩
            · have f5 : ¬ 0 ≤ lim := by omega
              have hv : (decide (n = m + 1) && (decide (m ≤ 6) && (decide (c ≤ 8) && (decide (1 ≤ i) && (decide (i ≤ 8) && (decide (0 ≤ lim) && (decide (lim ≤ 256)))))))) = false := by simp [h0, h1, h2, h3, h4, h5]
              rw [hv]
              clear hv h0 h1 h2 h3 h4 h5
              go_enter Tryd.func36, Tryd.ntmps36
              go_upto_region 1 with fail
              generalize w.alloc _ = W1 at hp ⊢
              generalize w.heap.size = q1 at hp ⊢
              have y0 := hp.out.cell (i := 0) rfl 0; have y1 := hp.out.cell (i := 0) rfl 1; have y2 := hp.out.cell (i := 0) rfl 2; have y3 := hp.out.cell (i := 0) rfl 3; have y4 := hp.out.cell (i := 0) rfl 4
              simp at y0 y1 y2 y3 y4
              go_wp2
              go_ret
              exact ⟨rfl, hp.out.bel⟩
          · have f4 : ¬ (i : Int) ≤ 8 := by omega
            have hv : (decide (n = m + 1) && (decide (m ≤ 6) && (decide (c ≤ 8) && (decide (1 ≤ i) && (decide (i ≤ 8) && (decide (0 ≤ lim) && (decide (lim ≤ 256)))))))) = false := by simp [h0, h1, h2, h3, h4]
            rw [hv]
            clear hv h0 h1 h2 h3 h4
            go_enter Tryd.func36, Tryd.ntmps36
            go_upto_region 1 with fail
            generalize w.alloc _ = W1 at hp ⊢
            generalize w.heap.size = q1 at hp ⊢
            have y0 := hp.out.cell (i := 0) rfl 0; have y1 := hp.out.cell (i := 0) rfl 1; have y2 := hp.out.cell (i := 0) rfl 2; have y3 := hp.out.cell (i := 0) rfl 3; have y4 := hp.out.cell (i := 0) rfl 4
            simp at y0 y1 y2 y3 y4
            go_wp2
            go_ret
            exact ⟨rfl, hp.out.bel⟩
        · have f3 : ¬ (1 : Int) ≤ (i : Int) := by omega
          have hv : (decide (n = m + 1) && (decide (m ≤ 6) && (decide (c ≤ 8) && (decide (1 ≤ i) && (decide (i ≤ 8) && (decide (0 ≤ lim) && (decide (lim ≤ 256)))))))) = false := by simp [h0, h1, h2, h3]
          rw [hv]
          clear hv h0 h1 h2 h3
          go_enter Tryd.func36, Tryd.ntmps36
          go_upto_region 1 with fail
          generalize w.alloc _ = W1 at hp ⊢
          generalize w.heap.size = q1 at hp ⊢
          have y0 := hp.out.cell (i := 0) rfl 0; have y1 := hp.out.cell (i := 0) rfl 1; have y2 := hp.out.cell (i := 0) rfl 2; have y3 := hp.out.cell (i := 0) rfl 3; have y4 := hp.out.cell (i := 0) rfl 4
          simp at y0 y1 y2 y3 y4
          go_wp2
          go_ret
          exact ⟨rfl, hp.out.bel⟩
      · have f2 : ¬ (c : Int) ≤ 8 := by omega
        have hv : (decide (n = m + 1) && (decide (m ≤ 6) && (decide (c ≤ 8) && (decide (1 ≤ i) && (decide (i ≤ 8) && (decide (0 ≤ lim) && (decide (lim ≤ 256)))))))) = false := by simp [h0, h1, h2]
        rw [hv]
        clear hv h0 h1 h2
        go_enter Tryd.func36, Tryd.ntmps36
        go_upto_region 1 with fail
        generalize w.alloc _ = W1 at hp ⊢
        generalize w.heap.size = q1 at hp ⊢
        have y0 := hp.out.cell (i := 0) rfl 0; have y1 := hp.out.cell (i := 0) rfl 1; have y2 := hp.out.cell (i := 0) rfl 2; have y3 := hp.out.cell (i := 0) rfl 3; have y4 := hp.out.cell (i := 0) rfl 4
        simp at y0 y1 y2 y3 y4
        go_wp2
        go_ret
        exact ⟨rfl, hp.out.bel⟩
    · have f1 : ¬ (m : Int) ≤ 6 := by omega
      have hv : (decide (n = m + 1) && (decide (m ≤ 6) && (decide (c ≤ 8) && (decide (1 ≤ i) && (decide (i ≤ 8) && (decide (0 ≤ lim) && (decide (lim ≤ 256)))))))) = false := by simp [h0, h1]
      rw [hv]
      clear hv h0 h1
      go_enter Tryd.func36, Tryd.ntmps36
      go_upto_region 1 with fail
      generalize w.alloc _ = W1 at hp ⊢
      generalize w.heap.size = q1 at hp ⊢
      have y0 := hp.out.cell (i := 0) rfl 0; have y1 := hp.out.cell (i := 0) rfl 1; have y2 := hp.out.cell (i := 0) rfl 2; have y3 := hp.out.cell (i := 0) rfl 3; have y4 := hp.out.cell (i := 0) rfl 4
      simp at y0 y1 y2 y3 y4
      go_wp2
      go_ret
      exact ⟨rfl, hp.out.bel⟩
  · have f0 : ((n : Int) == (m : Int) + 1) = false := by rw [beq_eq_false_iff_ne]; omega
    have hv : (decide (n = m + 1) && (decide (m ≤ 6) && (decide (c ≤ 8) && (decide (1 ≤ i) && (decide (i ≤ 8) && (decide (0 ≤ lim) && (decide (lim ≤ 256)))))))) = false := by simp [h0]
    rw [hv]
    clear hv h0
    go_enter Tryd.func36, Tryd.ntmps36
    go_upto_region 1 with fail
    generalize w.alloc _ = W1 at hp ⊢
    generalize w.heap.size = q1 at hp ⊢
    have y0 := hp.out.cell (i := 0) rfl 0; have y1 := hp.out.cell (i := 0) rfl 1; have y2 := hp.out.cell (i := 0) rfl 2; have y3 := hp.out.cell (i := 0) rfl 3; have y4 := hp.out.cell (i := 0) rfl 4
    simp at y0 y1 y2 y3 y4
    go_wp2
    go_ret
    exact ⟨rfl, hp.out.bel⟩
def Qv.mayV (q : Qv) : Bool := match namedF q.vars [] with
  | some l => q.fewV && (q.C.all (fun c => decide (c.var ∈ l)) && q.I.all (fun c => decide (c.var ∈ l)))
  | none => false
theorem all_take {α : Type} (p : α → Bool) (l : List α) (i : Nat) (x : α) (hx : l[i]? = some x) (h : (l.take i).all p = true) : (l.take (i + 1)).all p = p x := by
  rw [List.take_add_one, hx, List.all_append, h]; simp
theorem all_no {α : Type} (p : α → Bool) (l : List α) (i : Nat) (x : α) (hx : l[i]? = some x) (h : p x = false) : l.all p = false := by
  rw [Bool.eq_false_iff]
  intro h2
  rw [List.all_eq_true] at h2
  have := h2 x (List.mem_of_getElem? hx)
  rw [h] at this; cases this
set_option maxHeartbeats 8000000 in
theorem may_any (q : Qv) (w : World) (h : q.ok w) : Calls Tryd.prog 10 #[q.a] w fun e w' => e = .returned (.bool q.mayV) ∧ Below w.heap.size w w' := by
  have cn := fun W (hb : Below w.heap.size w W) => named_any q W (h.below hb)
  have cf := fun W (hb : Below w.heap.size w W) => few_any q W (h.below hb)
  have hC := slAt h.c
  have hI := slAt h.i
  have lc := h.lc
  have li := h.li
  obtain ⟨R, hR⟩ : ∃ R, R = q.mayV := ⟨_, rfl⟩
  rw [← hR]
  obtain ⟨FW, hFW⟩ : ∃ r, r = q.fewV := ⟨_, rfl⟩
  rw [← hFW] at cf
  obtain ⟨V, hV⟩ : ∃ V, V = q.vars := ⟨_, rfl⟩
  have hvl : V.length ≤ 2200 := by rw [hV]; unfold Qv.vars; rw [List.length_append, List.length_map, List.length_map]; have := h.ln; have := h.le; omega
  rw [← hV] at cn
  have hR2 : R = match namedF V [] with
    | some l => FW && (q.C.all (fun c => decide (c.var ∈ l)) && q.I.all (fun c => decide (c.var ∈ l)))
    | none => false := by rw [hR, hFW, hV]; rfl
  unfold Qv.a Qv.cs at *
  obtain ⟨N, E, C, I, lim, na, nc, ea, ec, ca, cc, ia, ic⟩ := q
  simp only at cn cf hC hI lc li hR2 ⊢
  obtain ⟨n, hn⟩ : ∃ n, n = N.length := ⟨_, rfl⟩
  obtain ⟨m, hm⟩ : ∃ n, n = E.length := ⟨_, rfl⟩
  obtain ⟨c, hc⟩ : ∃ n, n = C.length := ⟨_, rfl⟩
  obtain ⟨k, hk⟩ : ∃ n, n = I.length := ⟨_, rfl⟩
  rw [← hn, ← hm] at cn cf ⊢
  rw [← hc] at cn cf hC lc ⊢
  rw [← hk] at cn cf hI li ⊢
  clear hR hFW hV hn hm h
  have hp := (Hp.none_ w []).alloc #[.slice na n nc, .slice ea m ec, .slice ca c cc, .slice ia k ic, .int .i64 lim] 27
  replace hp := Lib.hid hp; replace cf := Lib.hid cf; replace hC := Lib.hid hC; replace hI := Lib.hid hI; replace hc := Lib.hid hc; replace hk := Lib.hid hk
  cases hnm : namedF V [] with
  | none =>
    rw [hnm] at cn hR2
    simp only at cn hR2
    subst hR2
    replace cn := Lib.hid cn
    clear hnm
    go_enter Tryd.func10, Tryd.ntmps10
    go_upto_region 1 with fail
    generalize w.alloc _ = W1 at hp ⊢
    generalize w.heap.size = q1 at hp ⊢
    have y0 := hp.out.cell (i := 0) rfl 0; have y1 := hp.out.cell (i := 0) rfl 1; have y2 := hp.out.cell (i := 0) rfl 2; have y3 := hp.out.cell (i := 0) rfl 3; have y4 := hp.out.cell (i := 0) rfl 4
    simp at y0 y1 y2 y3 y4
    go_wp2_with (go_at_call 35; (with_reducible refine (cn.out _ hp.out.bel).mono ?_); rintro e w2 ⟨rfl, b2⟩; replace hp := Lib.hid (hp.out.below b2); clear b2)
    go_ret
    exact ⟨rfl, hp.out.bel⟩
  | some l =>
    rw [hnm] at cn hR2
    simp only at cn hR2
    have hll : l.length ≤ 2200 := by have := namedF_len V [] l hnm; simp at this; omega
    obtain ⟨nl, hnl⟩ : ∃ n, n = l.length := ⟨_, rfl⟩
    rw [← hnl] at cn hll
    replace cn := Lib.hid cn; replace hnl := Lib.hid hnl
    clear hnm
    go_enter Tryd.func10, Tryd.ntmps10
    go_upto_region 1 with fail
    generalize w.alloc _ = W1 at hp ⊢
    generalize w.heap.size = q1 at hp ⊢
    have y0 := hp.out.cell (i := 0) rfl 0; have y1 := hp.out.cell (i := 0) rfl 1; have y2 := hp.out.cell (i := 0) rfl 2; have y3 := hp.out.cell (i := 0) rfl 3; have y4 := hp.out.cell (i := 0) rfl 4
    simp at y0 y1 y2 y3 y4
    go_upto_region 2 with (go_at_call 35; (with_reducible refine (cn.out _ hp.out.bel).mono ?_); rintro e w2 ⟨la, lcp, rfl, h2⟩; replace hp := Lib.hid (show Hp w [] (.row 9 1 (.slice la nl lcp) nl (nmC l) :: .box q1 #[.slice na n nc, .slice ea m ec, .slice ca c cc, .slice ia k ic, .int .i64 lim] 27 :: []) w2 from hp.out.take h2); clear h2; clear y0 y1 y2 y3 y4; have y0 := hp.out.cell (i := 1) rfl 0; have y1 := hp.out.cell (i := 1) rfl 1; have y2 := hp.out.cell (i := 1) rfl 2; have y3 := hp.out.cell (i := 1) rfl 3; have y4 := hp.out.cell (i := 1) rfl 4; simp at y0 y1 y2 y3 y4)
    cases FW with
    | false =>
      have hf : R = false := hR2
      clear hR2
      subst hf
      go_wp2_with (go_at_call 36; (with_reducible refine (cf.out _ hp.out.bel).mono ?_); rintro e w3 ⟨rfl, b3⟩; replace hp := Lib.hid (hp.out.below b3); clear b3)
      go_ret
      exact ⟨rfl, hp.out.bel⟩
    | true =>
      rw [Bool.true_and] at hR2
      replace hR2 := Lib.hid hR2
      go_wp2_with (go_at_call 36; (with_reducible refine (cf.out _ hp.out.bel).mono ?_); rintro e w3 ⟨rfl, b3⟩; replace hp := Lib.hid (hp.out.below b3); clear b3; clear y0 y1 y2 y3 y4; have y2 := hp.out.cell (i := 1) rfl 2; simp at y2)
      clear y2
      go_loopg [24] c (fun kk s24 wr => ∃ i : Nat, s24 = .int .i64 (i : Int) ∧ i + kk = c ∧ (C.take i).all (fun x => decide (x.var ∈ l)) = true ∧ Hp w [] [.row 9 1 (.slice la nl lcp) nl (nmC l), .box q1 #[.slice na n nc, .slice ea m ec, .slice ca c cc, .slice ia k ic, .int .i64 lim] 27] wr)
      case atStart => exact ⟨0, rfl, by omega, rfl, hp.out⟩
      case round =>
        clear hp
        obtain ⟨i, rfl, hik, hall, hp⟩ := hrel
        replace hp := Lib.hid hp
        by_cases hlt : i < c
        · obtain ⟨K, rfl⟩ : ∃ K : Nat, gk = K + 1 := ⟨gk - 1, by omega⟩
          obtain ⟨b, o, rfl, hr⟩ := hC.out.resolve_left (by omega)
          obtain ⟨y, hy⟩ : ∃ y, C[i]? = some y := ⟨_, List.getElem?_eq_getElem (by have := hc.out; omega)⟩
          have d0 : wr.cell? ⟨b, o + i * 6, none⟩ = some (.string (str y.var)) := (hp.out.bel.cell hr.1).trans (hr.elem0 Cd.cells_len hy rfl)
          have d1 : wr.cell? ⟨b, o + i * 6 + 1, none⟩ = some (.string (str y.key)) := (hp.out.bel.cell hr.1).trans (hr.elem Cd.cells_len hy rfl)
          have d2 : wr.cell? ⟨b, o + i * 6 + 2, none⟩ = some (.int .i64 (y.op : Int)) := (hp.out.bel.cell hr.1).trans (hr.elem Cd.cells_len hy rfl)
          have d3 : wr.cell? ⟨b, o + i * 6 + 3, none⟩ = some (.int .i64 (y.val.k : Int)) := (hp.out.bel.cell hr.1).trans (hr.elem Cd.cells_len hy rfl)
          have d4 : wr.cell? ⟨b, o + i * 6 + 4, none⟩ = some (.int .i64 y.val.n) := (hp.out.bel.cell hr.1).trans (hr.elem Cd.cells_len hy rfl)
          have d5 : wr.cell? ⟨b, o + i * 6 + 5, none⟩ = some (.string (str y.val.s)) := (hp.out.bel.cell hr.1).trans (hr.elem Cd.cells_len hy rfl)
          have e1 : (0 : Int) ≤ (i : Int) := by omega
          have e2 : (i : Int) < (c : Int) := by omega
          have hib : i < 1100 := by omega
          have kc := fun (W : World) (hs : Sl W (.slice la nl lcp) nl (nmC l)) => contains_any (.slice la nl lcp) l y.var W (by rw [← hnl.out]; exact hs) (by rw [← hnl.out]; omega)
          have hta := all_take (fun x : Cd => decide (x.var ∈ l)) C i y hy hall
          have hno := all_no (fun x : Cd => decide (x.var ∈ l)) C i y hy
          obtain ⟨yd, hyd⟩ : ∃ r, r = decide (y.var ∈ l) := ⟨_, rfl⟩
          rw [← hyd] at kc hta hno
          obtain ⟨yv, yk, yo, ⟨vk, vn, vs⟩⟩ := y
          simp only at d0 d1 d2 d3 d4 d5 kc
          have hp2 := Lib.hid (hp.out.alloc #[.string (str yv), .string (str yk), .int .i64 (yo : Int), .int .i64 (vk : Int), .int .i64 vn, .string (str vs)] 88)
          replace hik := Lib.hid hik; replace kc := Lib.hid kc; replace hta := Lib.hid hta; replace hno := Lib.hid hno
          clear hy hr hyd hall hlt
          go_upto_region 7 with fail
          clear d0 d1 d2 d3 d4 d5 hp
          generalize wr.alloc _ = W5 at hp2 ⊢
          generalize wr.heap.size = q5 at hp2 ⊢
          have y0 := hp2.out.cell (i := 0) rfl 0
          simp at y0
          cases yd with
          | true =>
            go_wp2_with (go_at_call 37; (with_reducible refine (kc.out _ (hp2.out.sl (i := 1) rfl (by omega))).mono ?_); rintro e w3 ⟨rfl, rfl⟩)
            go_roundg K
            case measure => omega
            case rel => exact ⟨i + 1, by go_num, by have := hik.out; omega, hta.out, hp2.out.drop 0⟩
          | false =>
            have hf : R = false := by rw [hR2.out, hno.out rfl]; rfl
            clear hR2
            subst hf
            go_wp2_with (go_at_call 37; (with_reducible refine (kc.out _ (hp2.out.sl (i := 1) rfl (by omega))).mono ?_); rintro e w3 ⟨rfl, rfl⟩)
            go_ret
            exact ⟨rfl, hp2.out.bel⟩
        · have hk0 : gk = 0 := by omega
          subst hk0
          obtain rfl : c = i := by omega
          rw [List.take_of_length_le (by rw [← hc.out]; exact Nat.le_refl _)] at hall
          have hR3 := hR2.out
          rw [hall, Bool.true_and] at hR3
          replace hR3 := Lib.hid hR3
          have y3 := hp.out.cell (i := 1) rfl 3
          simp at y3
          clear hik hlt hall hR2
          go_wp2
          clear y3
          go_loopg [37] k (fun kk s37 wr => ∃ i : Nat, s37 = .int .i64 (i : Int) ∧ i + kk = k ∧ (I.take i).all (fun x => decide (x.var ∈ l)) = true ∧ Hp w [] [.row 9 1 (.slice la nl lcp) nl (nmC l), .box q1 #[.slice na n nc, .slice ea m ec, .slice ca c cc, .slice ia k ic, .int .i64 lim] 27] wr)
          case atStart => exact ⟨0, rfl, by omega, rfl, hp.out⟩
          case round =>
            clear hp
            obtain ⟨i, rfl, hik, hall, hp⟩ := hrel
            replace hp := Lib.hid hp
            by_cases hlt : i < k
            · obtain ⟨K, rfl⟩ : ∃ K : Nat, gk = K + 1 := ⟨gk - 1, by omega⟩
              obtain ⟨b, o, rfl, hr⟩ := hI.out.resolve_left (by omega)
              obtain ⟨y, hy⟩ : ∃ y, I[i]? = some y := ⟨_, List.getElem?_eq_getElem (by have := hk.out; omega)⟩
              have d0 : wr.cell? ⟨b, o + i * 2, none⟩ = some (.string (str y.var)) := (hp.out.bel.cell hr.1).trans (hr.elem0 It.cells_len hy rfl)
              have d1 : wr.cell? ⟨b, o + i * 2 + 1, none⟩ = some (.string (str y.key)) := (hp.out.bel.cell hr.1).trans (hr.elem It.cells_len hy rfl)
              have e1 : (0 : Int) ≤ (i : Int) := by omega
              have e2 : (i : Int) < (k : Int) := by omega
              have hib : i < 1100 := by omega
              have kc := fun (W : World) (hs : Sl W (.slice la nl lcp) nl (nmC l)) => contains_any (.slice la nl lcp) l y.var W (by rw [← hnl.out]; exact hs) (by rw [← hnl.out]; omega)
              have hta := all_take (fun x : It => decide (x.var ∈ l)) I i y hy hall
              have hno := all_no (fun x : It => decide (x.var ∈ l)) I i y hy
              obtain ⟨yd, hyd⟩ : ∃ r, r = decide (y.var ∈ l) := ⟨_, rfl⟩
              rw [← hyd] at kc hta hno
              obtain ⟨yv, yk⟩ := y
              simp only at d0 d1 kc
              have hp2 := Lib.hid (hp.out.alloc #[.string (str yv), .string (str yk)] 94)
              replace hik := Lib.hid hik; replace kc := Lib.hid kc; replace hta := Lib.hid hta; replace hno := Lib.hid hno
              clear hy hr hyd hall hlt
              go_upto_region 13 with fail
              clear d0 d1 hp
              generalize wr.alloc _ = W5 at hp2 ⊢
              generalize wr.heap.size = q5 at hp2 ⊢
              have y0 := hp2.out.cell (i := 0) rfl 0
              simp at y0
              cases yd with
              | true =>
                go_wp2_with (go_at_call 37; (with_reducible refine (kc.out _ (hp2.out.sl (i := 1) rfl (by omega))).mono ?_); rintro e w3 ⟨rfl, rfl⟩)
                go_roundg K
                case measure => omega
                case rel => exact ⟨i + 1, by go_num, by have := hik.out; omega, hta.out, hp2.out.drop 0⟩
              | false =>
                have hf : R = false := by rw [hR3.out, hno.out rfl]
                clear hR3
                subst hf
                go_wp2_with (go_at_call 37; (with_reducible refine (kc.out _ (hp2.out.sl (i := 1) rfl (by omega))).mono ?_); rintro e w3 ⟨rfl, rfl⟩)
                go_ret
                exact ⟨rfl, hp2.out.bel⟩
            · have hk0 : gk = 0 := by omega
              subst hk0
              obtain rfl : k = i := by omega
              rw [List.take_of_length_le (by rw [← hk.out]; exact Nat.le_refl _)] at hall
              have hf : R = true := by rw [hR3.out]; exact hall
              clear hik hlt hall hR3
              subst hf
              go_wp2
              go_ret
              exact ⟨rfl, hp.out.bel⟩
theorem mayV_eq (q : Qv) (k : Nat) (hk : q.lim = (k : Int)) : q.mayV = mayQ ⟨q.N.map NdV.nd, q.E, q.C, q.I, k⟩ := by
  have hv : q.vars = (q.N.map NdV.nd).map Nd.var ++ q.E.map Ed.var := by unfold Qv.vars; rw [List.map_map]; rfl
  have hn : namesQ ⟨q.N.map NdV.nd, q.E, q.C, q.I, k⟩ = q.vars.filter (fun s => decide (s ≠ [])) := by unfold namesQ; rw [hv]
  have hf : q.fewV = fewQ ⟨q.N.map NdV.nd, q.E, q.C, q.I, k⟩ := by
    unfold Qv.fewV fewQ
    rw [hk, List.length_map]
    have e1 : decide (0 ≤ (k : Int)) = true := by simp
    have e2 : decide ((k : Int) ≤ 256) = decide (k ≤ 256) := by rw [Bool.eq_iff_iff]; simp; omega
    rw [e1, e2, Bool.true_and]
  unfold Qv.mayV mayQ
  rw [namedF_spec q.vars [] List.nodup_nil, List.nil_append, hn, hf]
  generalize q.vars.filter (fun s => decide (s ≠ [])) = F
  by_cases hd : F.Nodup
  · rw [if_pos hd, decide_eq_true hd, Bool.true_and]
  · rw [if_neg hd, decide_eq_false hd, Bool.false_and]
end Go.Proofs.YtgbkpkioijbgoaaDoor.qry
