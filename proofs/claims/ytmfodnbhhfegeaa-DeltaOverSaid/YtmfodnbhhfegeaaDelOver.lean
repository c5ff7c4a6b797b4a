/- delta.Over: entries behind changes, the first so many. No condition but the lengths. -/
import Derived.Test.YtmfodnbhhfegeaaDelEn
import Derived.Deep.QuietTactic
import Derived.BigQuiet
import Derived.Deep.CutBlock
import Derived.Deep.DeepCutAuto
namespace Go.Proofs.Ytmfodnbhhfegeaa.delta
open Go.RowKit
attribute [local go_sem ↓] Go.wp_at_zero Go.wp_at_succ
set_option linter.unusedVariables false
set_option maxRecDepth 100000

theorem drop_cons {α : Type} {l : List α} {i : Nat} {x : α} (h : l[i]? = some x) : l.drop i = x :: l.drop (i + 1) := by
  have hi := (List.getElem?_eq_some_iff.1 h).1
  rw [List.drop_eq_getElem_cons hi]
  congr 1
  rw [List.getElem?_eq_getElem hi] at h
  exact Option.some.inj h
theorem full_take {α : Type} {F M R : List α} {n : Nat} (h : F = M ++ R) (hM : M.length = n) : F.take n = M := by
  rw [h, List.take_left' hM]
set_option maxHeartbeats 8000000 in
theorem over_any (v u : Value) (A : List En) (D : List Ch) (most : Nat) (w : World) (h : Sl w v A.length (enC A)) (h' : Sl w u D.length (chC D)) (hm : most ≤ 1000) (hnA : A.length ≤ 90000) (hnD : D.length ≤ 90000) :
    Calls Try.prog 61 #[v, u, .int .i64 (most : Int)] w fun e w' => ∃ v', e = .returned v' ∧ EnOf w ((over D A).take most) v' w' := by
  unfold EnOf
  obtain ⟨a, cp, rfl, _, h⟩ := h
  obtain ⟨a', cp', rfl, _, h'⟩ := h'
  obtain ⟨n, hln⟩ : ∃ n, n = A.length := ⟨_, rfl⟩
  obtain ⟨m, hlm⟩ : ∃ m, m = D.length := ⟨_, rfl⟩
  rw [← hln] at h hnA ⊢
  rw [← hlm] at h' hnD ⊢
  obtain ⟨F, hF⟩ : ∃ F, F = over D A := ⟨_, rfl⟩
  rw [← hF]
  obtain ⟨T, hT⟩ : ∃ T, T = F.take most := ⟨_, rfl⟩
  rw [← hT]
  replace hT := Lib.hid hT
  have hp0 := Lib.hid ((Hp.none_ w []).rowNil 43 2)
  replace h := Lib.hid h; replace h' := Lib.hid h'; replace hln := Lib.hid hln; replace hlm := Lib.hid hlm; replace hF := Lib.hid hF
  go_enter Try.func61, Try.ntmps61
  go_wp2
  go_loopw [7, 8, 9] (fun s7 s8 s9 wr => ∃ (i k : Nat) (M : List En) (ad : Option Addr) (cp : Nat), s8 = .int .i64 (i : Int) ∧ i ≤ n ∧ s9 = .int .i64 (k : Int) ∧ k ≤ m ∧ s7 = .slice ad M.length cp ∧ M.length ≤ most ∧ F = M ++ over (D.drop k) (A.drop i) ∧ Hp w [] [.row 43 2 (.slice ad M.length cp) M.length (enC M)] wr) (fun _ s8 s9 _ => (n - (intOf s8).toNat) + (m - (intOf s9).toNat))
  case atStart => exact ⟨0, 0, [], _, _, rfl, by omega, rfl, by omega, rfl, by simp, by rw [hF.out]; rfl, hp0.out⟩
  case round =>
    clear hp0
    obtain ⟨i, k, M, ad, cp2, rfl, hi, rfl, hk, rfl, hMm, hFM, hp⟩ := hrel
    have hMl2 := Lib.hid (show M.length < 100000000 by omega)
    by_cases hlt : M.length < most
    · have q0 : (M.length : Int) < (most : Int) := by omega
      by_cases hin : i < n
      · obtain ⟨b0, o, rfl, hr⟩ := h.out.resolve_left (by omega)
        obtain ⟨x, hx⟩ : ∃ x, A[i]? = some x := ⟨_, List.getElem?_eq_getElem (by have := hln.out; omega)⟩
        have hdx := drop_cons hx
        have d0 : wr.cell? ⟨b0, o + i * 2, none⟩ = some (.string x.k) := (hp.bel.cell hr.1).trans (hr.elem0 En.c_len hx rfl)
        have d1 : wr.cell? ⟨b0, o + i * 2 + 1, none⟩ = some (.string x.v) := (hp.bel.cell hr.1).trans (hr.elem En.c_len hx rfl)
        have hrx := Lib.hid (fun W (hb : Below w.heap.size w W) => (And.intro ((hb.cell hr.1).trans (hr.elem0 En.c_len hx rfl)) ((hb.cell hr.1).trans (hr.elem (v := .string x.v) (j := 1) En.c_len hx rfl)) : W.cell? ⟨b0, o + i * 2, none⟩ = some (.string x.k) ∧ W.cell? ⟨b0, o + i * 2 + 1, none⟩ = some (.string x.v)))
        have e1 : (0 : Int) ≤ (i : Int) := by omega
        have e2 : (i : Int) < (n : Int) := by omega
        clear hr hx
        by_cases hkm : k < m
        · obtain ⟨b1, o1, rfl, hr1⟩ := h'.out.resolve_left (by omega)
          obtain ⟨c, hc⟩ : ∃ c, D[k]? = some c := ⟨_, List.getElem?_eq_getElem (by have := hlm.out; omega)⟩
          have hdc := drop_cons hc
          have c0 : wr.cell? ⟨b1, o1 + k * 3, none⟩ = some (.string c.k) := (hp.bel.cell hr1.1).trans (hr1.elem0 Ch.c_len hc rfl)
          have c1 : wr.cell? ⟨b1, o1 + k * 3 + 1, none⟩ = some (.string c.v) := (hp.bel.cell hr1.1).trans (hr1.elem Ch.c_len hc rfl)
          have c2 : wr.cell? ⟨b1, o1 + k * 3 + 2, none⟩ = some (.bool c.g) := (hp.bel.cell hr1.1).trans (hr1.elem Ch.c_len hc rfl)
          have hrc := Lib.hid (fun W (hb : Below w.heap.size w W) => (And.intro ((hb.cell hr1.1).trans (hr1.elem0 Ch.c_len hc rfl)) (And.intro ((hb.cell hr1.1).trans (hr1.elem (v := .string c.v) (j := 1) Ch.c_len hc rfl)) ((hb.cell hr1.1).trans (hr1.elem (v := .bool c.g) (j := 2) Ch.c_len hc rfl))) : W.cell? ⟨b1, o1 + k * 3, none⟩ = some (.string c.k) ∧ W.cell? ⟨b1, o1 + k * 3 + 1, none⟩ = some (.string c.v) ∧ W.cell? ⟨b1, o1 + k * 3 + 2, none⟩ = some (.bool c.g)))
          have f1 : (0 : Int) ≤ (k : Int) := by omega
          have f2 : (k : Int) < (m : Int) := by omega
          have f3 : ((k : Int) == (m : Int)) = false := by simp; omega
          rw [hdx, hdc] at hFM
          clear hr1 hc
          replace hdx := Lib.hid hdx; replace hdc := Lib.hid hdc
          cases hl : lt x.k c.k with
          | true =>
            have hl1 : Op.bytesLess x.k.toList c.k.toList = true := hl
            rw [over_less c _ x _ hl, ← hdc.out] at hFM
            replace hFM := Lib.hid hFM; replace hp := Lib.hid hp
            clear hl
            go_upto_region 4 with fail
            go_cut [49] from 27 to 49 (fun s49 wx => s49 = .bool true ∧ Hp w [] [.row 43 2 (.slice ad M.length cp2) M.length (enC M)] wx)
            case first =>
              go_quiet (fail)
              go_wp2
              go_meet
              exact ⟨rfl, hp.out.drewN _⟩
            obtain ⟨rfl, hp1⟩ := hcut
            replace hp := Lib.hid hp1
            clear hp1
            obtain ⟨z0, z1⟩ := hrx.out _ hp.out.bel
            go_wp2_with (at_builtin; go_loud (refine wpList_append_hp rfl _ _ rfl Try.underlying22 enInfo rfl (by decide) (by decide) (hp.out.alloc_ (.cells #[.string x.k, .string x.v] 43)) 0 rfl rfl _ _ [.string x.k, .string x.v] rfl rfl (block_cells (heap_alloc_new _ _)) (by intro u hu; simp at hu; rcases hu with rfl | rfl <;> rfl) hMl2.out ?_; intro v5 w5 h5 hv5; have hp5 := Lib.hid h5; clear h5; obtain ⟨b5, cp5, rfl⟩ := hv5))
            go_roundw
            case rel => exact ⟨i + 1, k, M ++ [x], _, _, by go_num, by omega, rfl, by omega, by rw [List.length_append]; rfl, by rw [List.length_append]; simp; omega, by rw [hFM.out]; simp, by rw [enC_snoc, List.length_append]; exact hp5.out⟩
            case measure => simp [intOf]; omega
          | false =>
            have hl1 : Op.bytesLess x.k.toList c.k.toList = false := hl
            cases he : eqB x.k c.k with
            | true =>
              have he1 : (x.k.toList == c.k.toList) = true := he
              rw [over_same c _ x _ hl he] at hFM
              replace hp := Lib.hid hp
              clear hl he
              go_upto_region 4 with fail
              go_cut [49] from 27 to 49 (fun s49 wx => s49 = .bool false ∧ Hp w [] [.row 43 2 (.slice ad M.length cp2) M.length (enC M)] wx)
              case first =>
                go_quiet (fail)
                go_wp2
                go_meet
                exact ⟨rfl, hp.out.drewN _⟩
              obtain ⟨rfl, hp1⟩ := hcut
              replace hp := Lib.hid hp1
              clear hp1
              obtain ⟨y0, y1, y2⟩ := hrc.out _ hp.out.bel
              replace hp := Lib.hid (hp.out.alloc #[.string c.k, .string c.v, .bool c.g] 93)
              go_upto_region 9 with fail
              generalize hsz : wc.heap.size = q at hp ⊢
              generalize wc.alloc _ = W9 at hp ⊢
              have x0 := hp.out.cell (i := 0) rfl 0; have x1 := hp.out.cell (i := 0) rfl 1; have x2 := hp.out.cell (i := 0) rfl 2
              simp at x0 x1 x2
              go_cut [78] from 65 to 78 (fun s78 wx => s78 = .bool true ∧ Hp w [] [.box q #[.string c.k, .string c.v, .bool c.g] 93, .row 43 2 (.slice ad M.length cp2) M.length (enC M)] wx)
              case first =>
                obtain ⟨z0, z1⟩ := hrx.out _ hp.out.bel
                replace hsz := Lib.hid hsz
                go_quiet (fail)
                go_wp2
                go_meet
                exact ⟨rfl, hp.out.drewN _⟩
              obtain ⟨rfl, hp1⟩ := hcut
              replace hp := Lib.hid hp1
              clear hp1 x0 x1 x2 hsz
              have x0 := hp.out.cell (i := 0) rfl 0; have x1 := hp.out.cell (i := 0) rfl 1; have x2 := hp.out.cell (i := 0) rfl 2
              simp at x0 x1 x2
              cases hg : c.g with
              | true =>
                have hem : emit c = [] := by unfold emit; rw [hg]; rfl
                rw [hem] at hFM
                rw [hg] at x2
                replace hFM := Lib.hid hFM
                clear hem hg
                go_wp2
                go_roundw
                case rel => exact ⟨i + 1, k + 1, M, ad, cp2, by go_num, by omega, by go_num, by omega, rfl, hMm, by rw [hFM.out]; rfl, hp.out.drop 0⟩
                case measure => simp [intOf]; omega
              | false =>
                rw [hg] at x2
                cases hk0 : eqB c.k ⟨#[]⟩ with
                | true =>
                  obtain ⟨r1, r2, r3⟩ := emp_yes hk0
                  have hem : emit c = [] := by unfold emit; rw [hg, hk0]; rfl
                  rw [hem] at hFM
                  replace hFM := Lib.hid hFM
                  clear hem hg hk0
                  go_wp2
                  go_roundw
                  case rel => exact ⟨i + 1, k + 1, M, ad, cp2, by go_num, by omega, by go_num, by omega, rfl, hMm, by rw [hFM.out]; rfl, hp.out.drop 0⟩
                  case measure => simp [intOf]; omega
                | false =>
                  obtain ⟨r1, r2, r3⟩ := emp_no hk0
                  have hem : emit c = [⟨c.k, c.v⟩] := by unfold emit; rw [hg, hk0]; rfl
                  rw [hem] at hFM
                  replace hFM := Lib.hid hFM
                  clear hem hg hk0
                  go_wp2_with (at_builtin; go_loud (refine wpList_append_hp rfl _ _ rfl Try.underlying22 enInfo rfl (by decide) (by decide) (hp.out.alloc_ (.cells #[.string c.k, .string c.v] 43)) 1 rfl rfl _ _ [.string c.k, .string c.v] rfl rfl (block_cells (heap_alloc_new _ _)) (by intro u hu; simp at hu; rcases hu with rfl | rfl <;> rfl) hMl2.out ?_; intro v5 w5 h5 hv5; have hp5 := Lib.hid h5; clear h5; obtain ⟨b5, cp5, rfl⟩ := hv5))
                  go_roundw
                  case rel => exact ⟨i + 1, k + 1, M ++ [⟨c.k, c.v⟩], _, _, by go_num, by omega, by go_num, by omega, by rw [List.length_append]; rfl, by rw [List.length_append]; simp; omega, by rw [hFM.out]; simp, by rw [enC_snoc, List.length_append]; exact hp5.out.drop 0⟩
                  case measure => simp [intOf]; omega
            | false =>
              have he1 : (x.k.toList == c.k.toList) = false := he
              rw [over_more c _ x _ hl he, ← hdx.out] at hFM
              replace hp := Lib.hid hp
              clear hl he
              go_upto_region 4 with fail
              go_cut [49] from 27 to 49 (fun s49 wx => s49 = .bool false ∧ Hp w [] [.row 43 2 (.slice ad M.length cp2) M.length (enC M)] wx)
              case first =>
                go_quiet (fail)
                go_wp2
                go_meet
                exact ⟨rfl, hp.out.drewN _⟩
              obtain ⟨rfl, hp1⟩ := hcut
              replace hp := Lib.hid hp1
              clear hp1
              obtain ⟨y0, y1, y2⟩ := hrc.out _ hp.out.bel
              replace hp := Lib.hid (hp.out.alloc #[.string c.k, .string c.v, .bool c.g] 93)
              go_upto_region 9 with fail
              generalize hsz : wc.heap.size = q at hp ⊢
              generalize wc.alloc _ = W9 at hp ⊢
              have x0 := hp.out.cell (i := 0) rfl 0; have x1 := hp.out.cell (i := 0) rfl 1; have x2 := hp.out.cell (i := 0) rfl 2
              simp at x0 x1 x2
              go_cut [78] from 65 to 78 (fun s78 wx => s78 = .bool false ∧ Hp w [] [.box q #[.string c.k, .string c.v, .bool c.g] 93, .row 43 2 (.slice ad M.length cp2) M.length (enC M)] wx)
              case first =>
                obtain ⟨z0, z1⟩ := hrx.out _ hp.out.bel
                replace hsz := Lib.hid hsz
                go_quiet (fail)
                go_wp2
                go_meet
                exact ⟨rfl, hp.out.drewN _⟩
              obtain ⟨rfl, hp1⟩ := hcut
              replace hp := Lib.hid hp1
              clear hp1 x0 x1 x2 hsz
              have x0 := hp.out.cell (i := 0) rfl 0; have x1 := hp.out.cell (i := 0) rfl 1; have x2 := hp.out.cell (i := 0) rfl 2
              simp at x0 x1 x2
              cases hg : c.g with
              | true =>
                have hem : emit c = [] := by unfold emit; rw [hg]; rfl
                rw [hem] at hFM
                rw [hg] at x2
                replace hFM := Lib.hid hFM
                clear hem hg
                go_wp2
                go_roundw
                case rel => exact ⟨i, k + 1, M, ad, cp2, rfl, by omega, by go_num, by omega, rfl, hMm, by rw [hFM.out]; rfl, hp.out.drop 0⟩
                case measure => simp [intOf]; omega
              | false =>
                rw [hg] at x2
                cases hk0 : eqB c.k ⟨#[]⟩ with
                | true =>
                  obtain ⟨r1, r2, r3⟩ := emp_yes hk0
                  have hem : emit c = [] := by unfold emit; rw [hg, hk0]; rfl
                  rw [hem] at hFM
                  replace hFM := Lib.hid hFM
                  clear hem hg hk0
                  go_wp2
                  go_roundw
                  case rel => exact ⟨i, k + 1, M, ad, cp2, rfl, by omega, by go_num, by omega, rfl, hMm, by rw [hFM.out]; rfl, hp.out.drop 0⟩
                  case measure => simp [intOf]; omega
                | false =>
                  obtain ⟨r1, r2, r3⟩ := emp_no hk0
                  have hem : emit c = [⟨c.k, c.v⟩] := by unfold emit; rw [hg, hk0]; rfl
                  rw [hem] at hFM
                  replace hFM := Lib.hid hFM
                  clear hem hg hk0
                  go_wp2_with (at_builtin; go_loud (refine wpList_append_hp rfl _ _ rfl Try.underlying22 enInfo rfl (by decide) (by decide) (hp.out.alloc_ (.cells #[.string c.k, .string c.v] 43)) 1 rfl rfl _ _ [.string c.k, .string c.v] rfl rfl (block_cells (heap_alloc_new _ _)) (by intro u hu; simp at hu; rcases hu with rfl | rfl <;> rfl) hMl2.out ?_; intro v5 w5 h5 hv5; have hp5 := Lib.hid h5; clear h5; obtain ⟨b5, cp5, rfl⟩ := hv5))
                  go_roundw
                  case rel => exact ⟨i, k + 1, M ++ [⟨c.k, c.v⟩], _, _, rfl, by omega, by go_num, by omega, by rw [List.length_append]; rfl, by rw [List.length_append]; simp; omega, by rw [hFM.out]; simp, by rw [enC_snoc, List.length_append]; exact hp5.out.drop 0⟩
                  case measure => simp [intOf]; omega
        · obtain rfl : k = m := by omega
          have f3 : ((k : Int) == (k : Int)) = true := by simp
          have hDn : D.drop k = [] := List.drop_eq_nil_of_le (by rw [← hlm.out]; exact Nat.le_refl _)
          rw [hDn, hdx] at hFM
          have hFM2 : F = M ++ (x :: over (D.drop k) (A.drop (i + 1))) := by rw [hFM, hDn]; rfl
          clear hFM hdx hDn
          replace hFM2 := Lib.hid hFM2; replace hp := Lib.hid hp
          go_upto_region 4 with fail
          go_cut [49] from 27 to 49 (fun s49 wx => s49 = .bool true ∧ Hp w [] [.row 43 2 (.slice ad M.length cp2) M.length (enC M)] wx)
          case first =>
            go_quiet (fail)
            go_wp2
            go_meet
            exact ⟨rfl, hp.out.drewN _⟩
          obtain ⟨rfl, hp1⟩ := hcut
          replace hp := Lib.hid hp1
          clear hp1
          obtain ⟨z0, z1⟩ := hrx.out _ hp.out.bel
          go_wp2_with (at_builtin; go_loud (refine wpList_append_hp rfl _ _ rfl Try.underlying22 enInfo rfl (by decide) (by decide) (hp.out.alloc_ (.cells #[.string x.k, .string x.v] 43)) 0 rfl rfl _ _ [.string x.k, .string x.v] rfl rfl (block_cells (heap_alloc_new _ _)) (by intro u hu; simp at hu; rcases hu with rfl | rfl <;> rfl) hMl2.out ?_; intro v5 w5 h5 hv5; have hp5 := Lib.hid h5; clear h5; obtain ⟨b5, cp5, rfl⟩ := hv5))
          go_roundw
          case rel => exact ⟨i + 1, k, M ++ [x], _, _, by go_num, by omega, rfl, by omega, by rw [List.length_append]; rfl, by rw [List.length_append]; simp; omega, by rw [hFM2.out]; simp, by rw [enC_snoc, List.length_append]; exact hp5.out⟩
          case measure => simp [intOf]; omega
      · obtain rfl : i = n := by omega
        have hAn : A.drop i = [] := List.drop_eq_nil_of_le (by rw [← hln.out]; exact Nat.le_refl _)
        have g1 : decide ((i : Int) < (i : Int)) = false := by simp
        have g1' : decide (i < i) = false := by simp
        have g1'' : ¬ (i : Int) < (i : Int) := by omega
        by_cases hkm : k < m
        · obtain ⟨b1, o1, rfl, hr1⟩ := h'.out.resolve_left (by omega)
          obtain ⟨c, hc⟩ : ∃ c, D[k]? = some c := ⟨_, List.getElem?_eq_getElem (by have := hlm.out; omega)⟩
          have hdc := drop_cons hc
          have c0 : wr.cell? ⟨b1, o1 + k * 3, none⟩ = some (.string c.k) := (hp.bel.cell hr1.1).trans (hr1.elem0 Ch.c_len hc rfl)
          have c1 : wr.cell? ⟨b1, o1 + k * 3 + 1, none⟩ = some (.string c.v) := (hp.bel.cell hr1.1).trans (hr1.elem Ch.c_len hc rfl)
          have c2 : wr.cell? ⟨b1, o1 + k * 3 + 2, none⟩ = some (.bool c.g) := (hp.bel.cell hr1.1).trans (hr1.elem Ch.c_len hc rfl)
          have hrc := Lib.hid (fun W (hb : Below w.heap.size w W) => (And.intro ((hb.cell hr1.1).trans (hr1.elem0 Ch.c_len hc rfl)) (And.intro ((hb.cell hr1.1).trans (hr1.elem (v := .string c.v) (j := 1) Ch.c_len hc rfl)) ((hb.cell hr1.1).trans (hr1.elem (v := .bool c.g) (j := 2) Ch.c_len hc rfl))) : W.cell? ⟨b1, o1 + k * 3, none⟩ = some (.string c.k) ∧ W.cell? ⟨b1, o1 + k * 3 + 1, none⟩ = some (.string c.v) ∧ W.cell? ⟨b1, o1 + k * 3 + 2, none⟩ = some (.bool c.g)))
          have f1 : (0 : Int) ≤ (k : Int) := by omega
          have f2 : (k : Int) < (m : Int) := by omega
          have f3 : ((k : Int) == (m : Int)) = false := by simp; omega
          rw [hAn, hdc, over_end, ← hAn] at hFM
          clear hr1 hc
          replace hdc := Lib.hid hdc; replace hAn := Lib.hid hAn
          replace hp := Lib.hid hp
          go_upto_region 4 with fail
          go_cut [49] from 27 to 49 (fun s49 wx => s49 = .bool false ∧ Hp w [] [.row 43 2 (.slice ad M.length cp2) M.length (enC M)] wx)
          case first =>
            go_quiet (fail)
            go_wp2
            go_meet
            exact ⟨rfl, hp.out.drewN _⟩
          obtain ⟨rfl, hp1⟩ := hcut
          replace hp := Lib.hid hp1
          clear hp1
          obtain ⟨y0, y1, y2⟩ := hrc.out _ hp.out.bel
          replace hp := Lib.hid (hp.out.alloc #[.string c.k, .string c.v, .bool c.g] 93)
          go_upto_region 9 with fail
          generalize hsz : wc.heap.size = q at hp ⊢
          generalize wc.alloc _ = W9 at hp ⊢
          have x0 := hp.out.cell (i := 0) rfl 0; have x1 := hp.out.cell (i := 0) rfl 1; have x2 := hp.out.cell (i := 0) rfl 2
          simp at x0 x1 x2
          go_cut [78] from 65 to 78 (fun s78 wx => s78 = .bool false ∧ Hp w [] [.box q #[.string c.k, .string c.v, .bool c.g] 93, .row 43 2 (.slice ad M.length cp2) M.length (enC M)] wx)
          case first =>
            replace hsz := Lib.hid hsz
            go_quiet (fail)
            go_wp2
            go_meet
            exact ⟨rfl, hp.out.drewN _⟩
          obtain ⟨rfl, hp1⟩ := hcut
          replace hp := Lib.hid hp1
          clear hp1 x0 x1 x2 hsz
          have x0 := hp.out.cell (i := 0) rfl 0; have x1 := hp.out.cell (i := 0) rfl 1; have x2 := hp.out.cell (i := 0) rfl 2
          simp at x0 x1 x2
          cases hg : c.g with
          | true =>
            have hem : emit c = [] := by unfold emit; rw [hg]; rfl
            rw [hem] at hFM
            rw [hg] at x2
            replace hFM := Lib.hid hFM
            clear hem hg
            go_wp2
            go_roundw
            case rel => exact ⟨i, k + 1, M, ad, cp2, rfl, by omega, by go_num, by omega, rfl, hMm, by rw [hFM.out]; rfl, hp.out.drop 0⟩
            case measure => simp [intOf]; omega
          | false =>
            rw [hg] at x2
            cases hk0 : eqB c.k ⟨#[]⟩ with
            | true =>
              obtain ⟨r1, r2, r3⟩ := emp_yes hk0
              have hem : emit c = [] := by unfold emit; rw [hg, hk0]; rfl
              rw [hem] at hFM
              replace hFM := Lib.hid hFM
              clear hem hg hk0
              go_wp2
              go_roundw
              case rel => exact ⟨i, k + 1, M, ad, cp2, rfl, by omega, by go_num, by omega, rfl, hMm, by rw [hFM.out]; rfl, hp.out.drop 0⟩
              case measure => simp [intOf]; omega
            | false =>
              obtain ⟨r1, r2, r3⟩ := emp_no hk0
              have hem : emit c = [⟨c.k, c.v⟩] := by unfold emit; rw [hg, hk0]; rfl
              rw [hem] at hFM
              replace hFM := Lib.hid hFM
              clear hem hg hk0
              go_wp2_with (at_builtin; go_loud (refine wpList_append_hp rfl _ _ rfl Try.underlying22 enInfo rfl (by decide) (by decide) (hp.out.alloc_ (.cells #[.string c.k, .string c.v] 43)) 1 rfl rfl _ _ [.string c.k, .string c.v] rfl rfl (block_cells (heap_alloc_new _ _)) (by intro u hu; simp at hu; rcases hu with rfl | rfl <;> rfl) hMl2.out ?_; intro v5 w5 h5 hv5; have hp5 := Lib.hid h5; clear h5; obtain ⟨b5, cp5, rfl⟩ := hv5))
              go_roundw
              case rel => exact ⟨i, k + 1, M ++ [⟨c.k, c.v⟩], _, _, rfl, by omega, by go_num, by omega, by rw [List.length_append]; rfl, by rw [List.length_append]; simp; omega, by rw [hFM.out]; simp, by rw [enC_snoc, List.length_append]; exact hp5.out.drop 0⟩
              case measure => simp [intOf]; omega
        · obtain rfl : k = m := by omega
          have hDn : D.drop k = [] := List.drop_eq_nil_of_le (by rw [← hlm.out]; exact Nat.le_refl _)
          rw [hAn, hDn] at hFM
          have hfin : F.take most = M := by
            rw [hFM]; show (M ++ []).take most = M
            rw [List.append_nil, List.take_of_length_le hMm]
          have g2' : decide (k < k) = false := by simp
          have g2'' : ¬ (k : Int) < (k : Int) := by omega
          replace hp := Lib.hid hp
          obtain rfl : T = M := hT.out.trans hfin
          clear hT hfin
          clear hFM hAn hDn
          go_wp2
          go_ret
          exact ⟨_, rfl, ⟨_, _, rfl⟩, hp.out⟩
    · have hfin : F.take most = M := full_take hFM (by omega)
      have q0 : decide ((M.length : Int) < (most : Int)) = false := by simp; omega
      have q0' : decide (M.length < most) = false := by simp; omega
      replace hp := Lib.hid hp
      obtain rfl : T = M := hT.out.trans hfin
      clear hT hfin
      clear hFM
      go_wp2
      go_ret
      exact ⟨_, rfl, ⟨_, _, rfl⟩, hp.out⟩
end Go.Proofs.Ytmfodnbhhfegeaa.delta
