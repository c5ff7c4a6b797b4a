/- Which questions may be, as the document has it (lodestoneref33.May). No condition but where the question lies. -/
import Derived.Test.YtgbkpkioijbgoaaDoorRqI
import Derived.Deep.CutBlock
import Derived.BigQuiet
namespace Go.Proofs.YtgbkpkioijbgoaaDoor.qry
open Go.RowKit
open names (Nm nmC nmC_len nmC_at nmC_append)
attribute [local go_sem ↓] Go.wp_at_zero Go.wp_at_succ
attribute [local go_sem] str_size str_bl
set_option linter.unusedVariables false
set_option linter.unusedSimpArgs false
set_option maxRecDepth 100000

set_option maxHeartbeats 16000000 in
theorem rmay_any (q : Qv) (w : World) (h : q.ok w) : Calls Tryd.prog 34 #[q.a] w fun e w' => e = .returned (.bool q.mayV) ∧ Below w.heap.size w w' := by
  have hN := slAt h.n; have hE := slAt h.e; have hC := slAt h.c; have hI := slAt h.i
  have ln := h.ln; have le := h.le; have lc := h.lc; have li := h.li
  obtain ⟨R, hR⟩ : ∃ R, R = q.mayV := ⟨_, rfl⟩
  rw [← hR]
  rw [mayV_ref] at hR
  obtain ⟨V, hV⟩ : ∃ V, V = q.vars := ⟨_, rfl⟩
  rw [← hV] at hR
  unfold Qv.vars at hV
  unfold Qv.fewV at hR
  unfold Qv.a Qv.cs at *
  obtain ⟨N, E, C, I, lim, na, nc, ea, ec, ca, cc, ia, ic⟩ := q
  simp only at hN hE hC hI ln le lc li hR hV ⊢
  obtain ⟨n, hn⟩ : ∃ n, n = N.length := ⟨_, rfl⟩
  obtain ⟨m, hm⟩ : ∃ n, n = E.length := ⟨_, rfl⟩
  obtain ⟨c, hc⟩ : ∃ n, n = C.length := ⟨_, rfl⟩
  obtain ⟨k, hk⟩ : ∃ n, n = I.length := ⟨_, rfl⟩
  rw [← hn] at hN ln ⊢
  rw [← hm] at hE le ⊢
  rw [← hc] at hC lc ⊢
  rw [← hk] at hI li ⊢
  rw [← hn, ← hm, ← hc, ← hk] at hR
  obtain ⟨FW, hFW⟩ : ∃ r, r = (decide (n = m + 1) && (decide (m ≤ 6) && (decide (c ≤ 8) && (decide (1 ≤ k) && (decide (k ≤ 8) && (decide (0 ≤ lim) && decide (lim ≤ 256))))))) := ⟨_, rfl⟩
  rw [← hFW] at hR
  clear h
  have hp := ((Hp.none_ w []).alloc #[.slice na n nc, .slice ea m ec, .slice ca c cc, .slice ia k ic, .int .i64 lim] 27).rowLit #[] 9 1 0 (by decide) rfl
  replace hp := Lib.hid hp; replace hR := Lib.hid hR; replace hV := Lib.hid hV; replace hFW := Lib.hid hFW
  replace hN := Lib.hid hN; replace hE := Lib.hid hE; replace hC := Lib.hid hC; replace hI := Lib.hid hI; replace hn := Lib.hid hn; replace hm := Lib.hid hm; replace hc := Lib.hid hc; replace hk := Lib.hid hk
  replace ln := Lib.hid ln; replace le := Lib.hid le; replace lc := Lib.hid lc; replace li := Lib.hid li
  go_enter Tryd.func34, Tryd.ntmps34
  go_upto_region 2 with fail
  have hsz : (w.alloc (.cells #[.slice na n nc, .slice ea m ec, .slice ca c cc, .slice ia k ic, .int .i64 lim] 27)).heap.size = w.heap.size + 1 := by simp
  rw [hsz] at hp
  clear hsz
  generalize (w.alloc _).alloc _ = W1 at hp ⊢
  generalize w.heap.size + 1 = q0 at hp ⊢
  generalize w.heap.size = q1 at hp ⊢
  go_wp2
  go_loopg [3, 4] n (fun kk s3 s4 wr => ∃ (i : Nat) (ad : Option Addr) (cp : Nat), s4 = .int .i64 (i : Int) ∧ i + kk = n ∧ s3 = .slice ad i cp ∧ Hp w [] [.row 9 1 (.slice ad (i) cp) (i) (nmC ((N.take i).map (fun y => y.nd.var))), .box q1 #[.slice na n nc, .slice ea m ec, .slice ca c cc, .slice ia k ic, .int .i64 lim] 27] wr)
  case atStart => exact ⟨0, _, _, rfl, by omega, rfl, hp.out⟩
  case round =>
    clear hp
    obtain ⟨i, ad, cp, rfl, hik, rfl, hp⟩ := hrel
    have z0 := hp.cell (i := 1) rfl 0; simp at z0
    by_cases hlt : i < n
    · skip
      obtain ⟨K, rfl⟩ : ∃ K : Nat, gk = K + 1 := ⟨gk - 1, by omega⟩
      obtain ⟨b, o, rfl, hr⟩ := hN.out.resolve_left (by omega)
      obtain ⟨y, hy⟩ : ∃ y, N[i]? = some y := ⟨_, List.getElem?_eq_getElem (by have := hn.out; omega)⟩
      have hf : nmC ((N.take (i + 1)).map (fun y => y.nd.var)) = nmC ((N.take i).map (fun y => y.nd.var)) ++ [.string (str y.nd.var)] := by rw [List.take_add_one, hy]; simp [nmC]
      have d0 : wr.cell? ⟨b, o + i * 3, none⟩ = some (.string (str y.nd.var)) := (hp.bel.cell hr.1).trans (hr.elem0 NdV.cells_len hy rfl)
      have e1 : (0 : Int) ≤ (i : Int) := by omega
      have e2 : (i : Int) < (n : Int) := by omega
      have hib : i < 1100 := by have := ln.out; omega
      have hl9 := Lib.hid (show i < 100000000 by have := ln.out; omega)
      obtain ⟨yv, hyv⟩ : ∃ s, s = str y.nd.var := ⟨_, rfl⟩
      rw [← hyv] at hf d0
      obtain ⟨M, hM⟩ : ∃ M, M = nmC ((N.take i).map (fun y => y.nd.var)) := ⟨_, rfl⟩
      rw [← hM] at hf hp
      clear hy hr hM hyv hlt
      replace hf := Lib.hid hf; replace hik := Lib.hid hik; replace hp := Lib.hid hp
      go_wp2_with (at_builtin; go_loud (refine wpList_append_hp rfl _ _ rfl Tryd.underlying45 textInfo rfl (by decide) (by decide) (hp.out.alloc_ (.cells #[.string yv] 9)) 0 rfl rfl _ _ [.string yv] rfl rfl (block_cells (heap_alloc_new _ _)) (by intro u hu; simp at hu; rcases hu with rfl; rfl) hl9.out ?_; intro v5 w5 hp5 hv5; replace hp5 := Lib.hid hp5; obtain ⟨ad5, cp5, rfl⟩ := hv5))
      go_roundg K
      case measure => omega
      case rel => exact ⟨i + 1, _, _, by go_num, by have := hik.out; omega, rfl, by rw [hf.out]; exact hp5.out⟩
    · skip
      have hk0 : gk = 0 := by omega
      subst hk0
      obtain rfl : n = i := by omega
      rw [List.take_of_length_le (by rw [← hn.out]; exact Nat.le_refl _)] at hp
      clear hik hlt
      obtain ⟨M, hM⟩ : ∃ M, M = N.map (fun y => y.nd.var) := ⟨_, rfl⟩
      have hML : M.length = n := by rw [hM, List.length_map]; exact hn.out.symm
      have hV3 := hV.out
      rw [← hM] at hp hV3
      replace hp := Lib.hid hp; replace hM := Lib.hid hM; replace hML := Lib.hid hML; replace hV3 := Lib.hid hV3
      clear hV
      go_wp2
      clear z0
      go_loopg [3, 5] m (fun kk s3 s5 wr => ∃ (i : Nat) (ad : Option Addr) (cp : Nat), s5 = .int .i64 (i : Int) ∧ i + kk = m ∧ s3 = .slice ad (n + i) cp ∧ Hp w [] [.row 9 1 (.slice ad (n + i) cp) (n + i) (nmC (M ++ (E.take i).map Ed.var)), .box q1 #[.slice na n nc, .slice ea m ec, .slice ca c cc, .slice ia k ic, .int .i64 lim] 27] wr)
      case atStart => exact ⟨0, _, _, rfl, by omega, rfl, by simpa using hp.out⟩
      case round =>
        clear hp
        obtain ⟨i, ad, cp, rfl, hik, rfl, hp⟩ := hrel
        have z1 := hp.cell (i := 1) rfl 1; simp at z1
        by_cases hlt : i < m
        · skip
          obtain ⟨K, rfl⟩ : ∃ K : Nat, gk = K + 1 := ⟨gk - 1, by omega⟩
          obtain ⟨b, o, rfl, hr⟩ := hE.out.resolve_left (by omega)
          obtain ⟨y, hy⟩ : ∃ y, E[i]? = some y := ⟨_, List.getElem?_eq_getElem (by have := hm.out; omega)⟩
          have hf : nmC (M ++ (E.take (i + 1)).map Ed.var) = nmC (M ++ (E.take i).map Ed.var) ++ [.string (str y.var)] := by rw [List.take_add_one, hy]; simp [nmC]
          have d0 : wr.cell? ⟨b, o + i * 3, none⟩ = some (.string (str y.var)) := (hp.bel.cell hr.1).trans (hr.elem0 Ed.cells_len hy rfl)
          have e1 : (0 : Int) ≤ (i : Int) := by omega
          have e2 : (i : Int) < (m : Int) := by omega
          have hib : i < 1100 := by have := le.out; omega
          have hl9 := Lib.hid (show n + i < 100000000 by have := ln.out; have := le.out; omega)
          obtain ⟨yv, hyv⟩ : ∃ s, s = str y.var := ⟨_, rfl⟩
          rw [← hyv] at hf d0
          obtain ⟨M2, hM2⟩ : ∃ M2, M2 = nmC (M ++ (E.take i).map Ed.var) := ⟨_, rfl⟩
          rw [← hM2] at hf hp
          clear hy hr hM2 hyv hlt
          replace hf := Lib.hid hf; replace hik := Lib.hid hik; replace hp := Lib.hid hp
          go_wp2_with (at_builtin; go_loud (refine wpList_append_hp rfl _ _ rfl Tryd.underlying45 textInfo rfl (by decide) (by decide) (hp.out.alloc_ (.cells #[.string yv] 9)) 0 rfl rfl _ _ [.string yv] rfl rfl (block_cells (heap_alloc_new _ _)) (by intro u hu; simp at hu; rcases hu with rfl; rfl) hl9.out ?_; intro v5 w5 hp5 hv5; replace hp5 := Lib.hid hp5; obtain ⟨ad5, cp5, rfl⟩ := hv5))
          go_roundg K
          case measure => omega
          case rel => exact ⟨i + 1, _, _, by go_num, by have := hik.out; omega, rfl, by rw [hf.out]; exact hp5.out⟩
        · skip
          have hk0 : gk = 0 := by omega
          subst hk0
          obtain rfl : m = i := by omega
          rw [List.take_of_length_le (by rw [← hm.out]; exact Nat.le_refl _)] at hp
          have hVl : V.length = n + m := by rw [hV3.out, List.length_append, hML.out, List.length_map, ← hm.out]
          rw [← hV3.out] at hp
          obtain ⟨L, hL⟩ : ∃ L, L = n + m := ⟨_, rfl⟩
          have hL2 : L ≤ 2200 := by have := ln.out; have := le.out; omega
          rw [← hL] at hp hVl
          replace hp := Lib.hid hp; replace hVl := Lib.hid hVl
          clear hik hlt hV3 hML hM
          go_wp2
          clear z1
          rw [← hL]
          replace hL := Lib.hid hL; replace hL2 := Lib.hid hL2
          go_loopg [6] L (fun kk s6 wr => ∃ i : Nat, s6 = .int .i64 (i : Int) ∧ i + kk = L ∧ ((V.take i).filter neB).Nodup ∧ Hp w [] [.row 9 1 (.slice ad (L) cp) (L) (nmC (V)), .box q1 #[.slice na n nc, .slice ea m ec, .slice ca c cc, .slice ia k ic, .int .i64 lim] 27] wr)
          case atStart => exact ⟨0, rfl, by omega, List.nodup_nil, hp.out⟩
          case round =>
            clear hp
            obtain ⟨i, rfl, hik, hnd, hp⟩ := hrel
            replace hp := Lib.hid hp
            by_cases hlt : i < L
            · skip
              obtain ⟨K, rfl⟩ : ∃ K : Nat, gk = K + 1 := ⟨gk - 1, by omega⟩
              obtain ⟨s, hs⟩ : ∃ s, V[i]? = some s := ⟨_, List.getElem?_eq_getElem (by have := hVl.out; omega)⟩
              have hst := nd_step hs hnd
              have hno : ∀ (j : Nat) (t : Nm), j < i → V[j]? = some t → s = t → s ≠ [] → R = false := fun j t hj ht h1 h2 => by rw [hR.out, decide_eq_false (nd_no hs ht hj h1 h2), Bool.false_and]
              have e1 : (0 : Int) ≤ (i : Int) := by omega
              have e2 : (i : Int) < (L : Int) := by omega
              have hib : i < 2200 := by have := hL2.out; omega
              replace hst := Lib.hid hst; replace hno := Lib.hid hno; replace hik := Lib.hid hik; replace hR := Lib.hid hR
              clear hnd hlt
              go_wp2
              go_loopg [7] i (fun kk s7 wr => ∃ j : Nat, s7 = .int .i64 (j : Int) ∧ j + kk = i ∧ (∀ (x : Nat) (t : Nm), x < j → V[x]? = some t → t = s → s = []) ∧ Hp w [] [.row 9 1 (.slice ad (L) cp) (L) (nmC (V)), .box q1 #[.slice na n nc, .slice ea m ec, .slice ca c cc, .slice ia k ic, .int .i64 lim] 27] wr)
              case atStart => exact ⟨0, rfl, by omega, fun x t hx => by omega, hp.out⟩
              case round =>
                clear hp
                obtain ⟨j, rfl, hjk, hne, hp⟩ := hrel
                replace hp := Lib.hid hp
                by_cases hlt : j < i
                · skip
                  obtain ⟨K2, rfl⟩ : ∃ K : Nat, gk = K + 1 := ⟨gk - 1, by omega⟩
                  obtain ⟨t, ht⟩ : ∃ s, V[j]? = some s := ⟨_, List.getElem?_eq_getElem (by have := hVl.out; have := hik.out; omega)⟩
                  obtain ⟨b, o, hva, hr⟩ := (slAt (hp.out.sl (i := 0) rfl (by have := hL2.out; omega))).resolve_left (by omega)
                  subst hva
                  have d0 : wr.cell? ⟨b, o + i, none⟩ = some (.string (str s)) := hr.2 i _ (nmC_at V i s hs)
                  have d1 : wr.cell? ⟨b, o + j, none⟩ = some (.string (str t)) := hr.2 j _ (nmC_at V j t ht)
                  have f1 : (0 : Int) ≤ (j : Int) := by omega
                  have f2 : (j : Int) < (i : Int) := by omega
                  have f3 : (j : Int) < (L : Int) := by omega
                  have hjb : j < 2200 := by omega
                  have hst2 : (t = s → s = []) → ∀ (x : Nat) (t : Nm), x < j + 1 → V[x]? = some t → t = s → s = [] := fun h x t2 hx ht2 => by
                    by_cases hxj : x < j
                    · exact hne x t2 hxj ht2
                    · obtain rfl : x = j := by omega
                      rw [ht] at ht2; injection ht2 with ht2; rw [← ht2]; exact h
                  have hno2 := hno.out j t hlt ht
                  replace hst2 := Lib.hid hst2; replace hno2 := Lib.hid hno2; replace hjk := Lib.hid hjk; replace hs := Lib.hid hs
                  clear hne ht hr hlt
                  obtain ⟨B, hB⟩ : ∃ B : Bool, B = decide (s = t ∧ s ≠ []) := ⟨_, rfl⟩
                  go_upto_region 16 with fail
                  go_cut [69] from 54 to 69 (fun s69 wx => s69 = .bool B ∧ Hp w [] [.row 9 1 (.slice (some ⟨b, o, none⟩) (L) cp) (L) (nmC (V)), .box q1 #[.slice na n nc, .slice ea m ec, .slice ca c cc, .slice ia k ic, .int .i64 lim] 27] wx)
                  case first =>
                    by_cases h1 : s = t
                    · have n1 : (s == t) = true := by rw [h1]; simp
                      by_cases h2 : s = []
                      · have hB2 : B = false := by rw [hB, decide_eq_false (fun h => h.2 h2)]
                        clear hB
                        subst hB2
                        have h3 : t = [] := by rw [← h1]; exact h2
                        subst h2 h3
                        clear h1
                        go_quiet (fail)
                        go_wp2
                        go_meet
                        exact ⟨rfl, hp.out.drewN _⟩
                      · have hB2 : B = true := by rw [hB, decide_eq_true ⟨h1, h2⟩]
                        have t1 : (s == []) = false := by simp [h2]
                        have t2 : s.isEmpty = false := by simp [h2]
                        clear hB
                        subst hB2
                        replace h1 := Lib.hid h1; replace h2 := Lib.hid h2
                        go_quiet (fail)
                        go_wp2
                        go_meet
                        exact ⟨rfl, hp.out.drewN _⟩
                    · have n1 : (s == t) = false := by simp [h1]
                      have hB2 : B = false := by rw [hB, decide_eq_false (fun h => h1 h.1)]
                      clear hB
                      subst hB2
                      replace h1 := Lib.hid h1
                      go_quiet (fail)
                      go_wp2
                      go_meet
                      exact ⟨rfl, hp.out.drewN _⟩
                  case rest =>
                    clear hp d0 d1
                    obtain ⟨rfl, hp3⟩ := hcut
                    replace hp := Lib.hid hp3
                    clear hp3
                    cases B with
                    | true =>
                      have hBt := of_decide_eq_true hB.symm
                      have hf : R = false := hno2.out hBt.1 hBt.2
                      clear hB hBt hno hno2 hR hFW
                      subst hf
                      go_wp2
                      go_ret
                      exact ⟨rfl, hp.out.bel⟩
                    | false =>
                      have hBf := Lib.hid (hst2.out (fun h => Classical.byContradiction (fun h2 => of_decide_eq_false hB.symm ⟨h.symm, h2⟩)))
                      clear hB
                      go_wp2
                      go_roundg K2
                      case measure => omega
                      case rel => exact ⟨j + 1, by go_num, by have := hjk.out; omega, hBf.out, hp.out⟩
                · skip
                  have hk0 : gk = 0 := by omega
                  subst hk0
                  obtain rfl : i = j := by omega
                  have hnd2 := Lib.hid (hst.out (fun x t hx ht h => hne x t hx ht h))
                  clear hjk hlt hne
                  go_wp2
                  go_roundg K
                  case measure => omega
                  case rel => exact ⟨i + 1, by go_num, by have := hik.out; omega, hnd2.out, hp.out⟩
            · skip
              have hk0 : gk = 0 := by omega
              subst hk0
              obtain rfl : L = i := by omega
              rw [List.take_of_length_le (by rw [hVl.out]; exact Nat.le_refl _)] at hnd
              have hR2 := hR.out
              rw [decide_eq_true hnd, Bool.true_and] at hR2
              clear hR hnd hik hlt
              replace hR2 := Lib.hid hR2
              have z0 := hp.out.cell (i := 1) rfl 0; have z1 := hp.out.cell (i := 1) rfl 1; have z2 := hp.out.cell (i := 1) rfl 2; have z3 := hp.out.cell (i := 1) rfl 3; have z4 := hp.out.cell (i := 1) rfl 4; simp at z0 z1 z2 z3 z4
              have i1 : IntKind.i64.wrap ((m : Int) + 1) = (m : Int) + 1 := by have := le.out; exact IntWalk.i64_in _ (by omega)
              by_cases h0 : n = m + 1
              rotate_left
              · have hf : FW = false := by rw [hFW.out]; simp [h0]
                have f0 : ¬ (n : Int) = (m : Int) + 1 := by omega
                have hf2 : R = false := by rw [hR2.out, hf, Bool.false_and]
                clear hFW hf hR2 h0
                subst hf2
                go_wp2
                go_ret
                exact ⟨rfl, hp.out.bel⟩
              by_cases h1 : m ≤ 6
              rotate_left
              · have hf : FW = false := by rw [hFW.out]; simp [h0, h1]
                have f0 : (n : Int) = (m : Int) + 1 := by omega
                have f1 : ¬ (m : Int) ≤ 6 := by omega
                have hf2 : R = false := by rw [hR2.out, hf, Bool.false_and]
                clear hFW hf hR2 h0 h1
                subst hf2
                go_wp2
                go_ret
                exact ⟨rfl, hp.out.bel⟩
              by_cases h2 : c ≤ 8
              rotate_left
              · have hf : FW = false := by rw [hFW.out]; simp [h0, h1, h2]
                have f0 : (n : Int) = (m : Int) + 1 := by omega
                have f1 : (m : Int) ≤ 6 := by omega
                have f2 : ¬ (c : Int) ≤ 8 := by omega
                have hf2 : R = false := by rw [hR2.out, hf, Bool.false_and]
                clear hFW hf hR2 h0 h1 h2
                subst hf2
                go_wp2
                go_ret
                exact ⟨rfl, hp.out.bel⟩
              by_cases h3 : 1 ≤ k
              rotate_left
              · have hf : FW = false := by rw [hFW.out]; simp [h0, h1, h2, h3]
                have f0 : (n : Int) = (m : Int) + 1 := by omega
                have f1 : (m : Int) ≤ 6 := by omega
                have f2 : (c : Int) ≤ 8 := by omega
                have f3 : ¬ (1 : Int) ≤ (k : Int) := by omega
                have hf2 : R = false := by rw [hR2.out, hf, Bool.false_and]
                clear hFW hf hR2 h0 h1 h2 h3
                subst hf2
                go_wp2
                go_ret
                exact ⟨rfl, hp.out.bel⟩
              by_cases h4 : k ≤ 8
              rotate_left
              · have hf : FW = false := by rw [hFW.out]; simp [h0, h1, h2, h3, h4]
                have f0 : (n : Int) = (m : Int) + 1 := by omega
                have f1 : (m : Int) ≤ 6 := by omega
                have f2 : (c : Int) ≤ 8 := by omega
                have f3 : (1 : Int) ≤ (k : Int) := by omega
                have f4 : ¬ (k : Int) ≤ 8 := by omega
                have hf2 : R = false := by rw [hR2.out, hf, Bool.false_and]
                clear hFW hf hR2 h0 h1 h2 h3 h4
                subst hf2
                go_wp2
                go_ret
                exact ⟨rfl, hp.out.bel⟩
              by_cases h5 : 0 ≤ lim
              rotate_left
              · have hf : FW = false := by rw [hFW.out]; simp [h0, h1, h2, h3, h4, h5]
                have f0 : (n : Int) = (m : Int) + 1 := by omega
                have f1 : (m : Int) ≤ 6 := by omega
                have f2 : (c : Int) ≤ 8 := by omega
                have f3 : (1 : Int) ≤ (k : Int) := by omega
                have f4 : (k : Int) ≤ 8 := by omega
                have f5 : lim < 0 := by omega
                have hf2 : R = false := by rw [hR2.out, hf, Bool.false_and]
                clear hFW hf hR2 h0 h1 h2 h3 h4 h5
                subst hf2
                go_wp2
                go_ret
                exact ⟨rfl, hp.out.bel⟩
              by_cases h6 : lim ≤ 256
              rotate_left
              · have hf : FW = false := by rw [hFW.out]; simp [h0, h1, h2, h3, h4, h5, h6]
                have f0 : (n : Int) = (m : Int) + 1 := by omega
                have f1 : (m : Int) ≤ 6 := by omega
                have f2 : (c : Int) ≤ 8 := by omega
                have f3 : (1 : Int) ≤ (k : Int) := by omega
                have f4 : (k : Int) ≤ 8 := by omega
                have f5 : ¬ lim < 0 := by omega
                have f6 : ¬ lim ≤ 256 := by omega
                have hf2 : R = false := by rw [hR2.out, hf, Bool.false_and]
                clear hFW hf hR2 h0 h1 h2 h3 h4 h5 h6
                subst hf2
                go_wp2
                go_ret
                exact ⟨rfl, hp.out.bel⟩
              have f0 : (n : Int) = (m : Int) + 1 := by omega
              have f1 : (m : Int) ≤ 6 := by omega
              have f2 : (c : Int) ≤ 8 := by omega
              have f3 : (1 : Int) ≤ (k : Int) := by omega
              have f4 : (k : Int) ≤ 8 := by omega
              have f5 : ¬ lim < 0 := by omega
              have f6 : lim ≤ 256 := by omega
              have hf : FW = true := by rw [hFW.out]; simp [h0, h1, h2, h3, h4, h5, h6]
              have hR3 := hR2.out
              rw [hf, Bool.true_and] at hR3
              clear hFW hf hR2 h0 h1 h2 h3 h4 h5 h6
              replace hR3 := Lib.hid hR3
              go_wp2
              clear f0 f1 f2 f3 f4 f5 f6 z0 z1 z2 z3 z4
              go_loopg [8] c (fun kk s8 wr => ∃ i : Nat, s8 = .int .i64 (i : Int) ∧ i + kk = c ∧ (C.take i).all (fun x => rinB V x.var) = true ∧ Hp w [] [.row 9 1 (.slice ad (L) cp) (L) (nmC (V)), .box q1 #[.slice na n nc, .slice ea m ec, .slice ca c cc, .slice ia k ic, .int .i64 lim] 27] wr)
              case atStart => exact ⟨0, rfl, by omega, rfl, hp.out⟩
              case round =>
                clear hp
                obtain ⟨i, rfl, hik, hall, hp⟩ := hrel
                have z2 := hp.cell (i := 1) rfl 2; simp at z2
                replace hp := Lib.hid hp
                by_cases hlt : i < c
                · skip
                  obtain ⟨K, rfl⟩ : ∃ K : Nat, gk = K + 1 := ⟨gk - 1, by omega⟩
                  obtain ⟨b, o, rfl, hr⟩ := hC.out.resolve_left (by omega)
                  obtain ⟨y, hy⟩ : ∃ y, C[i]? = some y := ⟨_, List.getElem?_eq_getElem (by have := hc.out; omega)⟩
                  have d0 : wr.cell? ⟨b, o + i * 6, none⟩ = some (.string (str y.var)) := (hp.out.bel.cell hr.1).trans (hr.elem0 Cd.cells_len hy rfl)
                  have e1 : (0 : Int) ≤ (i : Int) := by omega
                  have e2 : (i : Int) < (c : Int) := by omega
                  have hib : i < 1100 := by have := lc.out; omega
                  have kc := fun (W : World) (hs : Sl W (.slice ad L cp) L (nmC V)) => rin_any ad L cp V y.var W hs hVl.out.symm (by have := hL2.out; omega)
                  have hta := all_take (fun x : Cd => rinB V x.var) C i y hy hall
                  have hno := all_no (fun x : Cd => rinB V x.var) C i y hy
                  obtain ⟨yd, hyd⟩ : ∃ r, r = rinB V y.var := ⟨_, rfl⟩
                  rw [← hyd] at kc hta hno
                  obtain ⟨yv, hyv⟩ : ∃ s, s = str y.var := ⟨_, rfl⟩
                  rw [← hyv] at kc d0
                  replace hik := Lib.hid hik; replace kc := Lib.hid kc; replace hta := Lib.hid hta; replace hno := Lib.hid hno
                  clear hy hr hyd hyv hall hlt
                  have hL3 := hL2.out
                  cases yd with
                  | true =>
                    go_wp2_with (go_at_call 71; (with_reducible refine (kc.out _ (hp.out.sl (i := 0) rfl (by omega))).mono ?_); rintro e w3 ⟨rfl, rfl⟩)
                    go_roundg K
                    case measure => omega
                    case rel => exact ⟨i + 1, by go_num, by have := hik.out; omega, hta.out, hp.out⟩
                  | false =>
                    have hf : R = false := by rw [hR3.out, hno.out rfl]; rfl
                    clear hR3
                    subst hf
                    go_wp2_with (go_at_call 71; (with_reducible refine (kc.out _ (hp.out.sl (i := 0) rfl (by omega))).mono ?_); rintro e w3 ⟨rfl, rfl⟩)
                    go_ret
                    exact ⟨rfl, hp.out.bel⟩
                · skip
                  have hk0 : gk = 0 := by omega
                  subst hk0
                  obtain rfl : c = i := by omega
                  rw [List.take_of_length_le (by rw [← hc.out]; exact Nat.le_refl _)] at hall
                  have hR4 := hR3.out
                  rw [hall, Bool.true_and] at hR4
                  replace hR4 := Lib.hid hR4
                  clear hik hlt hall hR3
                  go_wp2
                  clear z2
                  go_loopg [9] k (fun kk s9 wr => ∃ i : Nat, s9 = .int .i64 (i : Int) ∧ i + kk = k ∧ (I.take i).all (fun x => rinB V x.var) = true ∧ Hp w [] [.row 9 1 (.slice ad (L) cp) (L) (nmC (V)), .box q1 #[.slice na n nc, .slice ea m ec, .slice ca c cc, .slice ia k ic, .int .i64 lim] 27] wr)
                  case atStart => exact ⟨0, rfl, by omega, rfl, hp.out⟩
                  case round =>
                    clear hp
                    obtain ⟨i, rfl, hik, hall, hp⟩ := hrel
                    have z3 := hp.cell (i := 1) rfl 3; simp at z3
                    replace hp := Lib.hid hp
                    by_cases hlt : i < k
                    · skip
                      obtain ⟨K, rfl⟩ : ∃ K : Nat, gk = K + 1 := ⟨gk - 1, by omega⟩
                      obtain ⟨b, o, rfl, hr⟩ := hI.out.resolve_left (by omega)
                      obtain ⟨y, hy⟩ : ∃ y, I[i]? = some y := ⟨_, List.getElem?_eq_getElem (by have := hk.out; omega)⟩
                      have d0 : wr.cell? ⟨b, o + i * 2, none⟩ = some (.string (str y.var)) := (hp.out.bel.cell hr.1).trans (hr.elem0 It.cells_len hy rfl)
                      have e1 : (0 : Int) ≤ (i : Int) := by omega
                      have e2 : (i : Int) < (k : Int) := by omega
                      have hib : i < 1100 := by have := li.out; omega
                      have kc := fun (W : World) (hs : Sl W (.slice ad L cp) L (nmC V)) => rin_any ad L cp V y.var W hs hVl.out.symm (by have := hL2.out; omega)
                      have hta := all_take (fun x : It => rinB V x.var) I i y hy hall
                      have hno := all_no (fun x : It => rinB V x.var) I i y hy
                      obtain ⟨yd, hyd⟩ : ∃ r, r = rinB V y.var := ⟨_, rfl⟩
                      rw [← hyd] at kc hta hno
                      obtain ⟨yv, hyv⟩ : ∃ s, s = str y.var := ⟨_, rfl⟩
                      rw [← hyv] at kc d0
                      replace hik := Lib.hid hik; replace kc := Lib.hid kc; replace hta := Lib.hid hta; replace hno := Lib.hid hno
                      clear hy hr hyd hyv hall hlt
                      have hL3 := hL2.out
                      cases yd with
                      | true =>
                        go_wp2_with (go_at_call 71; (with_reducible refine (kc.out _ (hp.out.sl (i := 0) rfl (by omega))).mono ?_); rintro e w3 ⟨rfl, rfl⟩)
                        go_roundg K
                        case measure => omega
                        case rel => exact ⟨i + 1, by go_num, by have := hik.out; omega, hta.out, hp.out⟩
                      | false =>
                        have hf : R = false := by rw [hR4.out, hno.out rfl]
                        clear hR4
                        subst hf
                        go_wp2_with (go_at_call 71; (with_reducible refine (kc.out _ (hp.out.sl (i := 0) rfl (by omega))).mono ?_); rintro e w3 ⟨rfl, rfl⟩)
                        go_ret
                        exact ⟨rfl, hp.out.bel⟩
                    · skip
                      have hk0 : gk = 0 := by omega
                      subst hk0
                      obtain rfl : k = i := by omega
                      rw [List.take_of_length_le (by rw [← hk.out]; exact Nat.le_refl _)] at hall
                      have hf : R = true := by rw [hR4.out]; exact hall
                      clear hik hlt hall hR4
                      subst hf
                      go_wp2
                      go_ret
                      exact ⟨rfl, hp.out.bel⟩
end Go.Proofs.YtgbkpkioijbgoaaDoor.qry
