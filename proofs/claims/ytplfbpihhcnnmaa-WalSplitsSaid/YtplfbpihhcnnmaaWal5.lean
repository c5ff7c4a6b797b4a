/- Whether two slices of changes are the same, as the laws ask; a record's blocks, at the law's awake. No condition but the slices' cells. -/
import Derived.Test.YtplfbpihhcnnmaaWal3
import Derived.Test.YtplfbpihhcnnmaaBytes2
import Derived.Deep.QuietTactic
import Derived.Laws.StructEq
namespace Go.Proofs.Ytplfbpihhcnnmaa.wal
open Go.RowKit
attribute [local go_sem ↓] Go.wp_at_zero Go.wp_at_succ
attribute [local go_sem] str_size str_bl str_append
set_option linter.unusedVariables false
set_option maxRecDepth 100000

theorem same_none (a b : Option Addr) (c d : Nat) (w : World) : Calls Try.prog 17 #[.slice a 0 c, .slice b 0 d] w fun e w' => e = .returned (.bool true) ∧ Below w.heap.size w w' := by
  go_enter Try.func17, Try.ntmps17
  go_wp2
  go_loopg [5] 0 (fun gn s5 wr => s5 = .int .i64 0 ∧ wr = w)
  case atStart => exact ⟨rfl, rfl⟩
  case round =>
    obtain ⟨rfl, rfl⟩ := hrel
    go_wp2
    go_ret
    exact ⟨rfl, Below.refl _ _⟩
set_option maxHeartbeats 2000000 in
/-- two slices of the same changes -/
theorem same_yes (l : List Ch) (u v : Value) (w : World) (hu : Sl w u l.length (chCells l)) (hv : Sl w v l.length (chCells l)) : Calls Try.prog 17 #[u, v] w fun e w' => e = .returned (.bool true) ∧ Below w.heap.size w w' := by
  obtain ⟨a, c, rfl, hm, ha⟩ := hu
  obtain ⟨b, d, rfl, _, hb⟩ := hv
  rcases Nat.eq_zero_or_pos l.length with h0 | h0
  · rw [h0]; exact same_none a b c d w
  obtain ⟨a, oa, rfl, ra⟩ := ha.resolve_left (by omega)
  obtain ⟨b, ob, rfl, rb⟩ := hb.resolve_left (by omega)
  clear ha hb
  have ha := ra; have hb := rb; clear ra rb
  obtain ⟨L, hL⟩ : ∃ L, L = l.length := ⟨_, rfl⟩
  rw [← hL] at hm h0 ⊢
  replace ha := Lib.hid ha; replace hb := Lib.hid hb; replace hL := Lib.hid hL
  go_enter Try.func17, Try.ntmps17
  go_wp2
  go_loopg [5] L (fun gn s5 wr => ∃ i : Nat, s5 = .int .i64 (i : Int) ∧ i + gn = L ∧ (∀ p, wr.cell? p = w.cell? p) ∧ Below w.heap.size w wr)
  case atStart => exact ⟨0, rfl, by omega, fun _ => rfl, Below.refl _ _⟩
  case round =>
    obtain ⟨i, rfl, hi, hcs, hbel⟩ := hrel
    replace hcs := Lib.hid hcs; replace hbel := Lib.hid hbel
    by_cases hk : gk = 0
    · subst hk
      obtain rfl : i = L := by omega
      have hlt : ¬ (i : Int) < (i : Int) := by omega
      clear hi
      go_wp2
      go_ret
      exact ⟨rfl, hbel.out⟩
    · obtain ⟨K, rfl⟩ : ∃ K : Nat, gk = K + 1 := ⟨gk - 1, by omega⟩
      have hiL : i < L := by omega
      obtain ⟨⟨ck, cv, cg⟩, hx⟩ : ∃ x, l[i]? = some x := ⟨_, List.getElem?_eq_getElem (by have := hL.out; omega)⟩
      have i0 : (0 : Int) ≤ (i : Int) := by omega
      have i1 : (i : Int) < (L : Int) := by omega
      have i3 : IntKind.i64.wrap ((i : Int) + 1) = (i : Int) + 1 := by rw [IntKind.wrap_i64]; omega
      have c0 := (hcs.out _).trans (ha.out.elem0 chC_len hx (v := .string (str ck)) rfl); have c1 := (hcs.out _).trans (ha.out.elem chC_len hx (j := 1) (v := .string (str cv)) rfl); have c2 := (hcs.out _).trans (ha.out.elem chC_len hx (j := 2) (v := .bool cg) rfl)
      have d0 := (hcs.out _).trans (hb.out.elem0 chC_len hx (v := .string (str ck)) rfl); have d1 := (hcs.out _).trans (hb.out.elem chC_len hx (j := 1) (v := .string (str cv)) rfl); have d2 := (hcs.out _).trans (hb.out.elem chC_len hx (j := 2) (v := .bool cg) rfl)
      have t1 : (ck == ck) = true := by simp
      have t2 : (cv == cv) = true := by simp
      clear hx hk
      go_wp2
      go_quiet (fail)
      go_wp2
      have hcs2 : ∀ p, (wr.drewN nq).cell? p = w.cell? p := hcs.out
      have hb2 : Below w.heap.size w (wr.drewN nq) := belowDrewN hbel.out nq
      replace hcs2 := Lib.hid hcs2; replace hb2 := Lib.hid hb2
      go_roundg K
      case measure => omega
      case rel => exact ⟨i + 1, by go_num, by omega, hcs2.out, hb2.out⟩
end Go.Proofs.Ytplfbpihhcnnmaa.wal
