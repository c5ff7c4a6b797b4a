/- The law's with: a change among others, by its key. No condition but the length. -/
import Derived.Test.YtmfodnbhhfegeaaDelRng
namespace Go.Proofs.Ytmfodnbhhfegeaa.delta
open Go.RowKit
attribute [local go_sem ↓] Go.wp_at_zero Go.wp_at_succ
set_option linter.unusedVariables false
set_option maxRecDepth 100000

theorem chC_snoc (M : List Ch) (x : Ch) : chC (M ++ [x]) = chC M ++ [.string x.k, .string x.v, .bool x.g] := by simp [chC, Ch.c]
theorem chC_snoc2 (M : List Ch) (y x : Ch) : chC (M ++ [y, x]) = chC M ++ [.string y.k, .string y.v, .bool y.g] ++ [.string x.k, .string x.v, .bool x.g] := by simp [chC, Ch.c]
theorem withF_len (c : Ch) : ∀ (L : List Ch) (b : Bool), (withF c L b).length ≤ L.length + 1
  | [], true => by simp [withF]
  | [], false => by simp [withF]
  | x :: t, b => by
    cases b with
    | true =>
      have := withF_len c t true
      have h2 : (withF c t true).length ≤ t.length := by
        clear this
        induction t with
        | nil => simp [withF]
        | cons y t ih => simp only [withF, Bool.not_true, Bool.false_and, Bool.false_eq_true, if_false, List.nil_append, Bool.true_or, List.length_append, List.length_cons]; split <;> simp <;> omega
      simp only [withF, Bool.not_true, Bool.false_and, Bool.false_eq_true, if_false, List.nil_append, Bool.true_or, List.length_append, List.length_cons]
      split <;> simp <;> omega
    | false =>
      cases hl : lt x.k c.k with
      | true =>
        have := withF_len c t false
        simp only [withF, hl, Bool.not_false, Bool.not_true, Bool.and_false, Bool.false_eq_true, if_false, List.nil_append, Bool.false_or, List.length_append, List.length_cons]
        split <;> simp <;> omega
      | false =>
        have h2 : ∀ t : List Ch, (withF c t true).length ≤ t.length := by
          intro t
          induction t with
          | nil => simp [withF]
          | cons y t ih => simp only [withF, Bool.not_true, Bool.false_and, Bool.false_eq_true, if_false, List.nil_append, Bool.true_or, List.length_append, List.length_cons]; split <;> simp <;> omega
        have := h2 t
        simp only [withF, hl, Bool.not_false, Bool.and_true, if_true, Bool.false_or, List.length_append, List.length_cons]
        split <;> simp <;> omega
set_option maxHeartbeats 4000000 in
theorem with_any (c : Ch) (v : Value) (L : List Ch) (w : World) (h : Sl w v L.length (chC L)) (hn : L.length ≤ 90000) :
    Calls Try.prog 50 #[v, c.a] w fun e w' => ∃ v', e = .returned v' ∧ RowOf w (withF c L false) v' w' := by
  unfold RowOf
  obtain ⟨a, cp, rfl, hmax, h⟩ := h
  obtain ⟨n, hln⟩ : ∃ n, n = L.length := ⟨_, rfl⟩
  rw [← hln] at hn hmax h ⊢
  have hp0 := (((Hp.none_ w []).alloc #[.string c.k, .string c.v, .bool c.g] 93).rowLit #[] 93 3 0 (by decide) rfl)
  have hsz : (w.alloc (.cells #[.string c.k, .string c.v, .bool c.g] 93)).heap.size = w.heap.size + 1 := by simp
  rw [hsz] at hp0
  obtain ⟨T, hT⟩ : ∃ T, T = withF c L false := ⟨_, rfl⟩
  have hTl : T.length ≤ n + 1 := by rw [hT, hln]; exact withF_len c L false
  rw [← hT]
  obtain ⟨k, vv, g⟩ := c
  unfold Ch.a
  simp only at *
  replace hp0 := Lib.hid hp0; replace h := Lib.hid h; replace hln := Lib.hid hln; replace hT := Lib.hid hT
  go_enter Try.func50, Try.ntmps50
  go_wp2
  go_loopw [5, 6, 7] (fun s5 s6 s7 wr => ∃ (i : Nat) (b : Bool) (M : List Ch) (ad : Option Addr) (cp : Nat), s7 = .int .i64 (i : Int) ∧ i ≤ n ∧ s6 = .bool b ∧ s5 = .slice ad M.length cp ∧ T = M ++ withF ⟨k, vv, g⟩ (L.drop i) b ∧ Hp w [] [.row 93 3 (.slice ad M.length cp) M.length (chC M), .box w.heap.size #[.string k, .string vv, .bool g] 93] wr) (fun _ _ s7 _ => n - (intOf s7).toNat)
  case atStart => exact ⟨0, false, [], _, _, rfl, by omega, rfl, rfl, by rw [hT.out]; rfl, hp0.out⟩
  case round =>
    clear hp0
    obtain ⟨i, b, M, ad, cp2, rfl, hi, rfl, rfl, hTM, hp⟩ := hrel
    have hMl : M.length ≤ n + 1 := by rw [hTM, List.length_append] at hTl; omega
    have hMl2 : M.length < 100000000 := by omega
    by_cases hlt : i < n
    · obtain ⟨b0, o, rfl, hr⟩ := h.out.resolve_left (by omega)
      obtain ⟨x, hx⟩ : ∃ x, L[i]? = some x := ⟨_, List.getElem?_eq_getElem (by have := hln.out; omega)⟩
      have hdr : L.drop i = x :: L.drop (i + 1) := by
        rw [List.drop_eq_getElem_cons (by have := hln.out; omega)]
        congr 1
        rw [List.getElem?_eq_getElem (by have := hln.out; omega)] at hx
        exact Option.some.inj hx
      rw [hdr] at hTM
      have d0 : wr.cell? ⟨b0, o + i * 3, none⟩ = some (.string x.k) := (hp.bel.cell hr.1).trans (hr.elem0 Ch.c_len hx rfl)
      have d1 : wr.cell? ⟨b0, o + i * 3 + 1, none⟩ = some (.string x.v) := (hp.bel.cell hr.1).trans (hr.elem Ch.c_len hx rfl)
      have d2 : wr.cell? ⟨b0, o + i * 3 + 2, none⟩ = some (.bool x.g) := (hp.bel.cell hr.1).trans (hr.elem Ch.c_len hx rfl)
      have x0 := hp.cell (i := 1) rfl 0; have x1 := hp.cell (i := 1) rfl 1; have x2 := hp.cell (i := 1) rfl 2
      simp at x0 x1 x2
      have e1 : (0 : Int) ≤ (i : Int) := by omega
      have e2 : (i : Int) < (n : Int) := by omega
      have hrx := Lib.hid (fun W (hb : Below w.heap.size w W) => (And.intro ((hb.cell hr.1).trans (hr.elem0 Ch.c_len hx rfl)) (And.intro ((hb.cell hr.1).trans (hr.elem (v := .string x.v) (j := 1) Ch.c_len hx rfl)) ((hb.cell hr.1).trans (hr.elem (v := .bool x.g) (j := 2) Ch.c_len hx rfl))) : W.cell? ⟨b0, o + i * 3, none⟩ = some (.string x.k) ∧ W.cell? ⟨b0, o + i * 3 + 1, none⟩ = some (.string x.v) ∧ W.cell? ⟨b0, o + i * 3 + 2, none⟩ = some (.bool x.g)))
      clear hr hx hdr
      have hMl3 := Lib.hid (show M.length + 1 < 100000000 by omega)
      replace hMl := Lib.hid hMl; replace hMl2 := Lib.hid hMl2; replace hTl := Lib.hid hTl
      unfold withF at hTM
      simp only at hTM
      cases hl : lt x.k k with
      | true =>
        have hl1 : Op.bytesLess x.k.toList k.toList = true := hl
        have he : eqB x.k k = false := eqB_no (lt_ne hl)
        have he1 : (x.k.toList == k.toList) = false := he
        have he2 : (x.k.toList != k.toList) = true := by rw [bne, he1]; rfl
        rw [hl, he] at hTM
        replace hTM := Lib.hid hTM; replace hp := Lib.hid hp
        clear hl he
        cases b with
        | true =>
          go_upto_region 5 with fail
          go_quiet (fail)
          go_upto_region 7 with fail
          go_quiet (fail)
          go_wp2_with (at_builtin; go_loud (refine wpList_append_hp rfl _ _ rfl Try.underlying89 eInfo rfl (by decide) (by decide) ((hp.out.drewN _).alloc_ (.cells #[.string x.k, .string x.v, .bool x.g] 93)) 0 rfl rfl _ _ [.string x.k, .string x.v, .bool x.g] rfl rfl (block_cells (heap_alloc_new _ _)) (by intro u hu; simp at hu; rcases hu with rfl | rfl | rfl <;> rfl) hMl2.out ?_; intro v5 w5 h5 hv5; have hp5 := Lib.hid h5; clear h5; obtain ⟨b5, cp5, rfl⟩ := hv5))
          go_roundw
          case rel => exact ⟨i + 1, true, M ++ [x], _, _, by go_num, by omega, rfl, by rw [List.length_append]; rfl, by rw [hTM.out]; simp, by rw [chC_snoc, List.length_append]; exact hp5.out⟩
          case measure => simp [intOf]; omega
        | false =>
          go_upto_region 5 with fail
          go_quiet (fail)
          go_upto_region 7 with fail
          go_quiet (fail)
          go_wp2_with (at_builtin; go_loud (refine wpList_append_hp rfl _ _ rfl Try.underlying89 eInfo rfl (by decide) (by decide) ((hp.out.drewN _).alloc_ (.cells #[.string x.k, .string x.v, .bool x.g] 93)) 0 rfl rfl _ _ [.string x.k, .string x.v, .bool x.g] rfl rfl (block_cells (heap_alloc_new _ _)) (by intro u hu; simp at hu; rcases hu with rfl | rfl | rfl <;> rfl) hMl2.out ?_; intro v5 w5 h5 hv5; have hp5 := Lib.hid h5; clear h5; obtain ⟨b5, cp5, rfl⟩ := hv5))
          go_roundw
          case rel => exact ⟨i + 1, false, M ++ [x], _, _, by go_num, by omega, rfl, by rw [List.length_append]; rfl, by rw [hTM.out]; simp, by rw [chC_snoc, List.length_append]; exact hp5.out⟩
          case measure => simp [intOf]; omega
      | false =>
        have hl1 : Op.bytesLess x.k.toList k.toList = false := hl
        rw [hl] at hTM
        clear hl
        cases he : eqB x.k k with
        | true =>
          have he1 : (x.k.toList == k.toList) = true := he
          have he2 : (x.k.toList != k.toList) = false := by rw [bne, he1]; rfl
          rw [he] at hTM
          replace hTM := Lib.hid hTM; replace hp := Lib.hid hp
          clear he
          cases b with
          | true =>
            go_upto_region 5 with fail
            go_quiet (fail)
            go_upto_region 7 with fail
            go_quiet (fail)
            go_wp2
            go_roundw
            case rel => exact ⟨i + 1, true, M, ad, cp2, by go_num, by omega, rfl, rfl, by rw [hTM.out]; rfl, hp.out.drewN _⟩
            case measure => simp [intOf]; omega
          | false =>
            go_upto_region 5 with fail
            go_quiet (fail)
            go_upto_region 7 with (at_builtin; go_loud (refine wpList_append_hp rfl _ _ rfl Try.underlying89 eInfo rfl (by decide) (by decide) ((hp.out.drewN _).alloc_ (.cells #[.string k, .string vv, .bool g] 93)) 0 rfl rfl _ _ [.string k, .string vv, .bool g] rfl rfl (block_cells (heap_alloc_new _ _)) (by intro u hu; simp at hu; rcases hu with rfl | rfl | rfl <;> rfl) hMl2.out ?_; intro v5 w5 h5 hv5; have hp5 := Lib.hid h5; clear h5; obtain ⟨b5, cp5, rfl⟩ := hv5))
            obtain ⟨y0, y1, y2⟩ := hrx.out _ hp5.out.bel
            have z0 := hp5.out.cell (i := 1) rfl 0; have z1 := hp5.out.cell (i := 1) rfl 1; have z2 := hp5.out.cell (i := 1) rfl 2
            simp at z0 z1 z2
            go_quiet (fail)
            go_wp2
            go_roundw
            case rel => exact ⟨i + 1, true, M ++ [⟨k, vv, g⟩], _, _, by go_num, by omega, rfl, by rw [List.length_append]; rfl, by rw [hTM.out]; simp, by rw [chC_snoc, List.length_append]; exact hp5.out.drewN _⟩
            case measure => simp [intOf]; omega
        | false =>
          have he1 : (x.k.toList == k.toList) = false := he
          have he2 : (x.k.toList != k.toList) = true := by rw [bne, he1]; rfl
          rw [he] at hTM
          replace hTM := Lib.hid hTM; replace hp := Lib.hid hp
          clear he
          cases b with
          | true =>
            go_upto_region 5 with fail
            go_quiet (fail)
            go_upto_region 7 with fail
            go_quiet (fail)
            go_wp2_with (at_builtin; go_loud (refine wpList_append_hp rfl _ _ rfl Try.underlying89 eInfo rfl (by decide) (by decide) ((hp.out.drewN _).alloc_ (.cells #[.string x.k, .string x.v, .bool x.g] 93)) 0 rfl rfl _ _ [.string x.k, .string x.v, .bool x.g] rfl rfl (block_cells (heap_alloc_new _ _)) (by intro u hu; simp at hu; rcases hu with rfl | rfl | rfl <;> rfl) hMl2.out ?_; intro v5 w5 h5 hv5; have hp5 := Lib.hid h5; clear h5; obtain ⟨b5, cp5, rfl⟩ := hv5))
            go_roundw
            case rel => exact ⟨i + 1, true, M ++ [x], _, _, by go_num, by omega, rfl, by rw [List.length_append]; rfl, by rw [hTM.out]; simp, by rw [chC_snoc, List.length_append]; exact hp5.out⟩
            case measure => simp [intOf]; omega
          | false =>
            go_upto_region 5 with fail
            go_quiet (fail)
            go_upto_region 7 with (at_builtin; go_loud (refine wpList_append_hp rfl _ _ rfl Try.underlying89 eInfo rfl (by decide) (by decide) ((hp.out.drewN _).alloc_ (.cells #[.string k, .string vv, .bool g] 93)) 0 rfl rfl _ _ [.string k, .string vv, .bool g] rfl rfl (block_cells (heap_alloc_new _ _)) (by intro u hu; simp at hu; rcases hu with rfl | rfl | rfl <;> rfl) hMl2.out ?_; intro v5 w5 h5 hv5; have hp5 := Lib.hid h5; clear h5; obtain ⟨b5, cp5, rfl⟩ := hv5))
            obtain ⟨y0, y1, y2⟩ := hrx.out _ hp5.out.bel
            have z0 := hp5.out.cell (i := 1) rfl 0; have z1 := hp5.out.cell (i := 1) rfl 1; have z2 := hp5.out.cell (i := 1) rfl 2
            simp at z0 z1 z2
            go_quiet (fail)
            go_wp2_with (at_builtin; go_loud (refine wpList_append_hp rfl _ _ rfl Try.underlying89 eInfo rfl (by decide) (by decide) ((hp5.out.drewN _).alloc_ (.cells #[.string x.k, .string x.v, .bool x.g] 93)) 0 rfl rfl _ _ [.string x.k, .string x.v, .bool x.g] rfl rfl (block_cells (heap_alloc_new _ _)) (by intro u hu; simp at hu; rcases hu with rfl | rfl | rfl <;> rfl) hMl3.out ?_; intro v6 w6 h5 hv6; have hp6 := Lib.hid h5; clear h5; obtain ⟨b6, cp6, rfl⟩ := hv6))
            go_roundw
            case rel => exact ⟨i + 1, true, M ++ [⟨k, vv, g⟩, x], _, _, by go_num, by omega, rfl, by rw [List.length_append]; rfl, by rw [hTM.out]; simp, by rw [chC_snoc2, List.length_append]; exact hp6.out⟩
            case measure => simp [intOf]; omega
    · obtain rfl : n = i := by omega
      rw [List.drop_eq_nil_of_le (by rw [← hln.out]; exact Nat.le_refl _)] at hTM
      cases b with
      | true =>
        have hTM2 : T = M := by rw [hTM]; simp [withF]
        subst hTM2
        clear hTM
        replace hp := Lib.hid hp
        go_wp2
        go_ret
        exact ⟨_, rfl, ⟨_, _, rfl⟩, hp.out.drop 1⟩
      | false =>
        have hTM2 : T = M ++ [⟨k, vv, g⟩] := by rw [hTM]; simp [withF]
        subst hTM2
        clear hTM
        have x0 := hp.cell (i := 1) rfl 0; have x1 := hp.cell (i := 1) rfl 1; have x2 := hp.cell (i := 1) rfl 2
        simp at x0 x1 x2
        replace hp := Lib.hid hp; replace hMl2 := Lib.hid hMl2; replace hMl := Lib.hid hMl; replace hTl := Lib.hid hTl
        go_wp2_with (at_builtin; go_loud (refine wpList_append_hp rfl _ _ rfl Try.underlying89 eInfo rfl (by decide) (by decide) (hp.out.alloc_ (.cells #[.string k, .string vv, .bool g] 93)) 0 rfl rfl _ _ [.string k, .string vv, .bool g] rfl rfl (block_cells (heap_alloc_new _ _)) (by intro u hu; simp at hu; rcases hu with rfl | rfl | rfl <;> rfl) hMl2.out ?_; intro v5 w5 h5 hv5; have hp5 := Lib.hid h5; clear h5; obtain ⟨b5, cp5, rfl⟩ := hv5))
        go_ret
        exact ⟨_, rfl, ⟨_, _, by rw [List.length_append]; rfl⟩, by rw [chC_snoc, List.length_append]; exact hp5.out.drop 1⟩
end Go.Proofs.Ytmfodnbhhfegeaa.delta
