/- The law's same, of two slices that show the same changes; awake. No condition but the length. -/
import Derived.Test.YtmfodnbhhfegeaaDelLaw
namespace Go.Proofs.Ytmfodnbhhfegeaa.delta
open Go.RowKit
attribute [local go_sem ↓] Go.wp_at_zero Go.wp_at_succ
set_option linter.unusedVariables false
set_option maxRecDepth 100000

theorem same_eq (v u : Value) (L : List Ch) (w : World) (h : Sl w v L.length (chC L)) (h' : Sl w u L.length (chC L)) (hn : L.length ≤ 1000000) :
    Calls Try.prog 54 #[v, u] w fun e w' => e = .returned (.bool true) ∧ Below w.heap.size w w' := by
  obtain ⟨a, cp, rfl, hmax, h⟩ := h
  obtain ⟨a', cp', rfl, _, h'⟩ := h'
  obtain ⟨n, hln⟩ : ∃ n, n = L.length := ⟨_, rfl⟩
  rw [← hln] at hn hmax h h' ⊢
  replace h := Lib.hid h; replace h' := Lib.hid h'; replace hln := Lib.hid hln
  go_enter Try.func54, Try.ntmps54
  go_wp2
  go_loopw [5] (fun s5 wr => ∃ i : Nat, s5 = .int .i64 (i : Int) ∧ i ≤ n ∧ Below w.heap.size w wr) (fun s5 _ => n - (intOf s5).toNat)
  case atStart => exact ⟨0, rfl, by omega, Below.refl _ _⟩
  case round =>
    obtain ⟨i, rfl, hi, hb⟩ := hrel
    by_cases hlt : i < n
    · obtain ⟨b, o, rfl, hr⟩ := h.out.resolve_left (by omega)
      obtain ⟨b', o', rfl, hr'⟩ := h'.out.resolve_left (by omega)
      obtain ⟨x, hx⟩ : ∃ x, L[i]? = some x := ⟨_, List.getElem?_eq_getElem (by have := hln.out; omega)⟩
      have d0 : wr.cell? ⟨b, o + i * 3, none⟩ = some (.string x.k) := (hb.cell hr.1).trans (hr.elem0 Ch.c_len hx rfl)
      have d1 : wr.cell? ⟨b, o + i * 3 + 1, none⟩ = some (.string x.v) := (hb.cell hr.1).trans (hr.elem Ch.c_len hx rfl)
      have d2 : wr.cell? ⟨b, o + i * 3 + 2, none⟩ = some (.bool x.g) := (hb.cell hr.1).trans (hr.elem Ch.c_len hx rfl)
      have f0 : wr.cell? ⟨b', o' + i * 3, none⟩ = some (.string x.k) := (hb.cell hr'.1).trans (hr'.elem0 Ch.c_len hx rfl)
      have f1 : wr.cell? ⟨b', o' + i * 3 + 1, none⟩ = some (.string x.v) := (hb.cell hr'.1).trans (hr'.elem Ch.c_len hx rfl)
      have f2 : wr.cell? ⟨b', o' + i * 3 + 2, none⟩ = some (.bool x.g) := (hb.cell hr'.1).trans (hr'.elem Ch.c_len hx rfl)
      have e1 : (0 : Int) ≤ (i : Int) := by omega
      have e2 : (i : Int) < (n : Int) := by omega
      replace hb := Lib.hid hb
      clear hr hr' hx
      go_upto_region 6 with fail
      go_quiet (fail)
      go_wp2
      go_roundw
      case rel => exact ⟨i + 1, by go_num, by omega, belowDrewN hb.out _⟩
      case measure => simp [intOf]; omega
    · obtain rfl : n = i := by omega
      replace hb := Lib.hid hb
      go_wp2
      go_ret
      exact ⟨rfl, hb.out⟩
end Go.Proofs.Ytmfodnbhhfegeaa.delta
