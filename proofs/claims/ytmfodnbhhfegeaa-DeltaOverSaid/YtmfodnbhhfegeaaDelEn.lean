/- Entries: With and Key of the statements of layer 18. No condition but the length. -/
import Derived.Test.YtmfodnbhhfegeaaDelOvM
import Derived.Test.YtmfodnbhhfegeaaHpTurn
import Derived.BigRegion
import Derived.Deep.CutBlock
import Derived.Deep.DeepCutAuto
namespace Go.Proofs.Ytmfodnbhhfegeaa.delta
open Go.RowKit
attribute [local go_sem ↓] Go.wp_at_zero Go.wp_at_succ
set_option linter.unusedVariables false
set_option maxRecDepth 100000

def zEn : Value := .agg #[.string ⟨#[]⟩, .string ⟨#[]⟩]
theorem enInfo : (Try.prog.info? 43).map (fun i => (i.zero, i.size, i.bytes)) = some (some zEn, 2, 32) := by kernel_rfl
def EnOf (w : World) (L : List En) (v : Value) (w' : World) : Prop := (∃ ad cp, v = .slice ad L.length cp) ∧ Hp w [] [.row 43 2 v L.length (enC L)] w'
theorem emp_no {k : ByteArray} (h : eqB k ⟨#[]⟩ = false) : (k.toList == []) = false ∧ ¬ k.toList = [] ∧ k.toList.isEmpty = false := by
  have e : (⟨#[]⟩ : ByteArray).toList = [] := by rw [ByteArray.toList_eq]
  unfold eqB at h
  rw [e] at h
  refine ⟨h, by simpa using h, ?_⟩
  cases q : k.toList with
  | nil => rw [q] at h; cases h
  | cons a b => rfl
theorem emp_yes {k : ByteArray} (h : eqB k ⟨#[]⟩ = true) : (k.toList == []) = true ∧ k.toList = [] ∧ k.toList.isEmpty = true := by
  have e : (⟨#[]⟩ : ByteArray).toList = [] := by rw [ByteArray.toList_eq]
  have h2 := eqB_iff.1 h
  subst h2
  rw [e]; exact ⟨rfl, rfl, rfl⟩
theorem conv2 (W : World) (a b : Int) : (convert 36 9 (.slice (some ⟨W.heap.size, 0, none⟩) 2 2)).run Try.prog (W.alloc (.cells #[.int .u8 a, .int .u8 b] 5)) = .ok (.string (str [UInt8.ofNat a.toNat, UInt8.ofNat b.toNat])) (W.alloc (.cells #[.int .u8 a, .int .u8 b] 5)) := by
  rw [run_convert_bytes_arg (P := Try.prog) (W.alloc (.cells #[.int .u8 a, .int .u8 b] 5)) 36 5 Try.underlying36 Try.underlying5 W.heap.size 0 2 2 [a, b] rfl (fun i hi => by
    have : i = 0 ∨ i = 1 := by omega
    rcases this with rfl | rfl
    · exact newCell W _ _ 0
    · exact newCell W _ _ 1) 9 Try.underlying9]
  rfl
theorem key_any (K : Int) (w : World) : Calls Try.prog 60 #[.agg #[.int .i64 0, .int .i64 K, .string ⟨#[]⟩, .int .i64 0]] w fun e w' => ∃ s, e = .returned (.string s) ∧ Below w.heap.size w w' := by
  have h0 : bits .and .i64 0 63 = 0 := by decide
  have hcv : ∀ a b : Int, (convert 36 9 (.slice (some ⟨w.heap.size + 1, 0, none⟩) 2 2)).run Try.prog ((w.alloc (.cells #[.int .i64 0, .int .i64 K, .string ⟨#[]⟩, .int .i64 0] 109)).alloc (.cells #[.int .u8 a, .int .u8 b] 5)) = .ok (.string (str [UInt8.ofNat a.toNat, UInt8.ofNat b.toNat])) ((w.alloc (.cells #[.int .i64 0, .int .i64 K, .string ⟨#[]⟩, .int .i64 0] 109)).alloc (.cells #[.int .u8 a, .int .u8 b] 5)) := fun a b => by
    have := conv2 (w.alloc (.cells #[.int .i64 0, .int .i64 K, .string ⟨#[]⟩, .int .i64 0] 109)) a b
    simpa using this
  have hb := Lib.hid (((Below.refl w.heap.size w).alloc (Nat.le_refl _) (.cells #[.int .i64 0, .int .i64 K, .string ⟨#[]⟩, .int .i64 0] 109)))
  go_enter Try.func60, Try.ntmps60
  go_wp2
  go_loopw [3, 4] (fun s3 s4 wr => (∃ s, s3 = .string s) ∧ s4 = .int .i64 0 ∧ wr.cell? ⟨w.heap.size, 3, none⟩ = some (.int .i64 0) ∧ Below w.heap.size w wr) (fun _ _ _ => 0)
  case atStart =>
    refine ⟨⟨_, rfl⟩, rfl, ?_, (hb.out).alloc (by simp) _⟩
    simp
  case round =>
    obtain ⟨⟨s, rfl⟩, rfl, hc, hbr⟩ := hrel
    replace hbr := Lib.hid hbr
    go_wp2
    go_ret
    exact ⟨_, rfl, hbr.out⟩
set_option maxHeartbeats 4000000 in
theorem withEn_any (key val : ByteArray) (g : Bool) (v : Value) (L : List En) (w : World) (h : Sl w v L.length (enC L)) (hn : L.length ≤ 90000) (hTl : (withE key val L g).length ≤ L.length + 1) :
    Calls Try.prog 59 #[v, .string key, .string val, .bool g] w fun e w' => ∃ v', e = .returned v' ∧ EnOf w (withE key val L g) v' w' := by
  unfold EnOf
  obtain ⟨a, cp, rfl, hmax, h⟩ := h
  obtain ⟨n, hln⟩ : ∃ n, n = L.length := ⟨_, rfl⟩
  rw [← hln] at hn hmax h hTl ⊢
  have hp0 := (Hp.none_ w []).rowNil 43 2
  obtain ⟨T, hT⟩ : ∃ T, T = withE key val L g := ⟨_, rfl⟩
  rw [← hT] at hTl ⊢
  replace hp0 := Lib.hid hp0; replace h := Lib.hid h; replace hln := Lib.hid hln; replace hT := Lib.hid hT
  go_enter Try.func59, Try.ntmps59
  go_wp2
  go_loopw [8, 9, 10] (fun s8 s9 s10 wr => ∃ (i : Nat) (b : Bool) (M : List En) (ad : Option Addr) (cp : Nat), s10 = .int .i64 (i : Int) ∧ i ≤ n ∧ s9 = .bool b ∧ s8 = .slice ad M.length cp ∧ T = M ++ withE key val (L.drop i) b ∧ Hp w [] [.row 43 2 (.slice ad M.length cp) M.length (enC M)] wr) (fun _ _ s10 _ => n - (intOf s10).toNat)
  case atStart => exact ⟨0, g, [], _, _, rfl, by omega, rfl, rfl, by rw [hT.out]; rfl, hp0.out⟩
  case round =>
    clear hp0
    obtain ⟨i, b, M, ad, cp2, rfl, hi, rfl, rfl, hTM, hp⟩ := hrel
    have hMl : M.length ≤ n + 1 := by rw [hTM, List.length_append] at hTl; omega
    have hMl2 : M.length < 100000000 := by omega
    have hMl3 := Lib.hid (show M.length + 1 < 100000000 by omega)
    by_cases hlt : i < n
    · obtain ⟨b0, o, rfl, hr⟩ := h.out.resolve_left (by omega)
      obtain ⟨x, hx⟩ : ∃ x, L[i]? = some x := ⟨_, List.getElem?_eq_getElem (by have := hln.out; omega)⟩
      have hdr : L.drop i = x :: L.drop (i + 1) := by
        rw [List.drop_eq_getElem_cons (by have := hln.out; omega)]
        congr 1
        rw [List.getElem?_eq_getElem (by have := hln.out; omega)] at hx
        exact Option.some.inj hx
      rw [hdr] at hTM
      have d0 : wr.cell? ⟨b0, o + i * 2, none⟩ = some (.string x.k) := (hp.bel.cell hr.1).trans (hr.elem0 En.c_len hx rfl)
      have d1 : wr.cell? ⟨b0, o + i * 2 + 1, none⟩ = some (.string x.v) := (hp.bel.cell hr.1).trans (hr.elem En.c_len hx rfl)
      have e1 : (0 : Int) ≤ (i : Int) := by omega
      have e2 : (i : Int) < (n : Int) := by omega
      have hrx := Lib.hid (fun W (hb : Below w.heap.size w W) => (And.intro ((hb.cell hr.1).trans (hr.elem0 En.c_len hx rfl)) ((hb.cell hr.1).trans (hr.elem (v := .string x.v) (j := 1) En.c_len hx rfl)) : W.cell? ⟨b0, o + i * 2, none⟩ = some (.string x.k) ∧ W.cell? ⟨b0, o + i * 2 + 1, none⟩ = some (.string x.v)))
      clear hr hx hdr
      replace hMl := Lib.hid hMl; replace hMl2 := Lib.hid hMl2; replace hTl := Lib.hid hTl
      unfold withE at hTM
      try simp only at hTM
      cases hl : lt x.k key with
      | true =>
        have hl1 : Op.bytesLess x.k.toList key.toList = true := hl
        have he : eqB x.k key = false := eqB_no (lt_ne hl)
        have he1 : (x.k.toList == key.toList) = false := he
        have he2 : (x.k.toList != key.toList) = true := by rw [bne, he1]; rfl
        rw [hl, he] at hTM
        replace hTM := Lib.hid hTM; replace hp := Lib.hid hp
        clear hl he
        cases b with
        | true =>
          go_wp2_with (at_builtin; go_loud (refine wpList_append_hp rfl _ _ rfl Try.underlying22 enInfo rfl (by decide) (by decide) (hp.out.alloc_ (.cells #[.string x.k, .string x.v] 43)) 0 rfl rfl _ _ [.string x.k, .string x.v] rfl rfl (block_cells (heap_alloc_new _ _)) (by intro u hu; simp at hu; rcases hu with rfl | rfl <;> rfl) hMl2.out ?_; intro v5 w5 h5 hv5; have hp5 := Lib.hid h5; clear h5; obtain ⟨b5, cp5, rfl⟩ := hv5))
          go_roundw
          case rel => exact ⟨i + 1, true, M ++ [x], _, _, by go_num, by omega, rfl, by rw [List.length_append]; rfl, by rw [hTM.out]; simp, by rw [enC_snoc, List.length_append]; exact hp5.out⟩
          case measure => simp [intOf]; omega
        | false =>
          go_wp2_with (at_builtin; go_loud (refine wpList_append_hp rfl _ _ rfl Try.underlying22 enInfo rfl (by decide) (by decide) (hp.out.alloc_ (.cells #[.string x.k, .string x.v] 43)) 0 rfl rfl _ _ [.string x.k, .string x.v] rfl rfl (block_cells (heap_alloc_new _ _)) (by intro u hu; simp at hu; rcases hu with rfl | rfl <;> rfl) hMl2.out ?_; intro v5 w5 h5 hv5; have hp5 := Lib.hid h5; clear h5; obtain ⟨b5, cp5, rfl⟩ := hv5))
          go_roundw
          case rel => exact ⟨i + 1, false, M ++ [x], _, _, by go_num, by omega, rfl, by rw [List.length_append]; rfl, by rw [hTM.out]; simp, by rw [enC_snoc, List.length_append]; exact hp5.out⟩
          case measure => simp [intOf]; omega
      | false =>
        have hl1 : Op.bytesLess x.k.toList key.toList = false := hl
        rw [hl] at hTM
        clear hl
        cases he : eqB x.k key with
        | true =>
          have he1 : (x.k.toList == key.toList) = true := he
          have he2 : (x.k.toList != key.toList) = false := by rw [bne, he1]; rfl
          rw [he] at hTM
          replace hTM := Lib.hid hTM; replace hp := Lib.hid hp
          clear he
          cases b with
          | true =>
            go_wp2
            go_roundw
            case rel => exact ⟨i + 1, true, M, ad, cp2, by go_num, by omega, rfl, rfl, by rw [hTM.out]; rfl, hp.out⟩
            case measure => simp [intOf]; omega
          | false =>
            go_upto_region 7 with (at_builtin; go_loud (refine wpList_append_hp rfl _ _ rfl Try.underlying22 enInfo rfl (by decide) (by decide) (hp.out.alloc_ (.cells #[.string key, .string val] 43)) 0 rfl rfl _ _ [.string key, .string val] rfl rfl (block_cells (heap_alloc_new _ _)) (by intro u hu; simp at hu; rcases hu with rfl | rfl <;> rfl) hMl2.out ?_; intro v5 w5 h5 hv5; have hp5 := Lib.hid h5; clear h5; obtain ⟨b5, cp5, rfl⟩ := hv5))
            obtain ⟨y0, y1⟩ := hrx.out _ hp5.out.bel
            go_wp2
            go_roundw
            case rel => exact ⟨i + 1, true, M ++ [⟨key, val⟩], _, _, by go_num, by omega, rfl, by rw [List.length_append]; rfl, by rw [hTM.out]; simp, by rw [enC_snoc, List.length_append]; exact hp5.out⟩
            case measure => simp [intOf]; omega
        | false =>
          have he1 : (x.k.toList == key.toList) = false := he
          have he2 : (x.k.toList != key.toList) = true := by rw [bne, he1]; rfl
          rw [he] at hTM
          replace hTM := Lib.hid hTM; replace hp := Lib.hid hp
          clear he
          cases b with
          | true =>
            go_wp2_with (at_builtin; go_loud (refine wpList_append_hp rfl _ _ rfl Try.underlying22 enInfo rfl (by decide) (by decide) (hp.out.alloc_ (.cells #[.string x.k, .string x.v] 43)) 0 rfl rfl _ _ [.string x.k, .string x.v] rfl rfl (block_cells (heap_alloc_new _ _)) (by intro u hu; simp at hu; rcases hu with rfl | rfl <;> rfl) hMl2.out ?_; intro v5 w5 h5 hv5; have hp5 := Lib.hid h5; clear h5; obtain ⟨b5, cp5, rfl⟩ := hv5))
            go_roundw
            case rel => exact ⟨i + 1, true, M ++ [x], _, _, by go_num, by omega, rfl, by rw [List.length_append]; rfl, by rw [hTM.out]; simp, by rw [enC_snoc, List.length_append]; exact hp5.out⟩
            case measure => simp [intOf]; omega
          | false =>
            go_upto_region 7 with (at_builtin; go_loud (refine wpList_append_hp rfl _ _ rfl Try.underlying22 enInfo rfl (by decide) (by decide) (hp.out.alloc_ (.cells #[.string key, .string val] 43)) 0 rfl rfl _ _ [.string key, .string val] rfl rfl (block_cells (heap_alloc_new _ _)) (by intro u hu; simp at hu; rcases hu with rfl | rfl <;> rfl) hMl2.out ?_; intro v5 w5 h5 hv5; have hp5 := Lib.hid h5; clear h5; obtain ⟨b5, cp5, rfl⟩ := hv5))
            obtain ⟨y0, y1⟩ := hrx.out _ hp5.out.bel
            go_wp2_with (at_builtin; go_loud (refine wpList_append_hp rfl _ _ rfl Try.underlying22 enInfo rfl (by decide) (by decide) (hp5.out.alloc_ (.cells #[.string x.k, .string x.v] 43)) 0 rfl rfl _ _ [.string x.k, .string x.v] rfl rfl (block_cells (heap_alloc_new _ _)) (by intro u hu; simp at hu; rcases hu with rfl | rfl <;> rfl) hMl3.out ?_; intro v6 w6 h6 hv6; have hp6 := Lib.hid h6; clear h6; obtain ⟨b6, cp6, rfl⟩ := hv6))
            go_roundw
            case rel => exact ⟨i + 1, true, M ++ [⟨key, val⟩, x], _, _, by go_num, by omega, rfl, by rw [List.length_append]; rfl, by rw [hTM.out]; simp, by rw [enC_snoc2, List.length_append]; exact hp6.out⟩
            case measure => simp [intOf]; omega
    · obtain rfl : n = i := by omega
      rw [List.drop_eq_nil_of_le (by rw [← hln.out]; exact Nat.le_refl _)] at hTM
      cases b with
      | true =>
        have hTM2 : T = M := by rw [hTM]; simp [withE]
        subst hTM2
        clear hTM
        replace hp := Lib.hid hp
        go_wp2
        go_ret
        exact ⟨_, rfl, ⟨_, _, rfl⟩, hp.out⟩
      | false =>
        have hTM2 : T = M ++ [⟨key, val⟩] := by rw [hTM]; simp [withE]
        subst hTM2
        clear hTM
        replace hp := Lib.hid hp; replace hMl2 := Lib.hid hMl2; replace hMl := Lib.hid hMl; replace hTl := Lib.hid hTl
        go_wp2_with (at_builtin; go_loud (refine wpList_append_hp rfl _ _ rfl Try.underlying22 enInfo rfl (by decide) (by decide) (hp.out.alloc_ (.cells #[.string key, .string val] 43)) 0 rfl rfl _ _ [.string key, .string val] rfl rfl (block_cells (heap_alloc_new _ _)) (by intro u hu; simp at hu; rcases hu with rfl | rfl <;> rfl) hMl2.out ?_; intro v5 w5 h5 hv5; have hp5 := Lib.hid h5; clear h5; obtain ⟨b5, cp5, rfl⟩ := hv5))
        go_ret
        exact ⟨_, rfl, ⟨_, _, by rw [List.length_append]; rfl⟩, by rw [enC_snoc, List.length_append]; exact hp5.out⟩
end Go.Proofs.Ytmfodnbhhfegeaa.delta
