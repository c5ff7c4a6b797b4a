/- Who waits for whom: Circle, Waits. No condition but the graph's own. -/
import Derived.Test.YtmlphodmbkceoabWait5
namespace Go.Proofs.Ytmlphodmbkceoab.wait
open Go.RowKit
open Go.Sort
attribute [local go_sem ↓] Go.wp_at_zero Go.wp_at_succ
set_option linter.unusedVariables false
set_option maxRecDepth 100000

def R (ls : Nat → List Nat) (a b : Nat) : Bool := war (edge ls) 16 a b
theorem R_rch {ls : Nat → List Nat} (h : GOk ls) (a b : Nat) : R ls a b = true ↔ Rch (edge ls) a b := war_rch (edge ls) 16 (fun i j hij => h.lt i j (by simpa [edge] using hij)) a b
def onC (ls : Nat → List Nat) (who x : Nat) : Bool := R ls who x && R ls x who
def circK (ls : Nat → List Nat) (who k : Nat) : List Nat := (List.range k).filter (onC ls who)
theorem circK_succ (ls : Nat → List Nat) (who k : Nat) : circK ls who (k + 1) = circK ls who k ++ if onC ls who k then [k] else [] := by
  unfold circK
  rw [List.range_succ, List.filter_append]
  simp [List.filter_cons]
theorem circK_len (ls : Nat → List Nat) (who k : Nat) : (circK ls who k).length ≤ k := Nat.le_trans (List.length_filter_le _ _) (by simp)
theorem run_index_marks (cs : Array Value) (i : Nat) (v : Value) (hi : i < 16) (hv : cs[i]? = some v) (w : World) : (Instr.index 99 (.agg cs) (.int .i64 (i : Int))).run Try.prog w = .ok v w := by
  have h1 : (0 : Int) ≤ (i : Int) ∧ (i : Int) < ((16 : Nat) : Int) := by omega
  simp [Instr.index, run_underlying Try.underlying99, asIntOf, h1, go_sem]
  rw [if_pos hi, hv]
  rfl
theorem run_index_lists (cs : Array Value) (i : Nat) (v : Value) (hi : i < 16) (hv : cs[i]? = some v) (w : World) : (Instr.index 94 (.agg cs) (.int .i64 (i : Int))).run Try.prog w = .ok v w := by
  have h1 : (0 : Int) ≤ (i : Int) ∧ (i : Int) < ((16 : Nat) : Int) := by omega
  simp [Instr.index, run_underlying Try.underlying94, asIntOf, h1, go_sem]
  rw [if_pos hi, hv]
  rfl
theorem circle_out (p : Option Addr) (who : Int) (hw : p = none ∨ ¬ (0 ≤ who ∧ who < 16)) (W : World) : Calls Try.prog 32 #[.pointer p, .int .i64 who] W fun e w' => e = .returned (.slice none 0 0) ∧ W = w' := by
  rcases p with _ | p
  · go_enter Try.func32, Try.ntmps32
    go_wp2
    go_ret
    exact ⟨rfl, rfl⟩
  · have hss := session_no who (hw.resolve_left (by simp))
    replace hss := Lib.hid hss
    clear hw
    go_enter Try.func32, Try.ntmps32
    go_wp2_with (go_at_call 41; (with_reducible refine (hss.out _).mono ?_); rintro e w1 ⟨rfl, rfl⟩)
    go_ret
    exact ⟨rfl, rfl⟩
set_option maxHeartbeats 4000000 in
theorem circle_any {w : World} {g : Nat} {ls : Nat → List Nat} (h : GAt w g ls) (hok : GOk ls) (who : Nat) (hw : who < 16) :
    Calls Try.prog 32 #[.pointer (some ⟨g, 0, none⟩), .int .i64 (who : Int)] w fun e w' => ∃ v, e = .returned v ∧ Hp w [] [.row 3 1 v (circK ls who 16).length (nums (circK ls who 16))] w' := by
  have hss := session_yes (who : Int) ⟨by omega, by omega⟩
  have hre := fun W x (hx : x < 16) (hW : GAt W g ls) => reached_any hW hok x hx
  have hp := (Hp.none_ w []).rowNil 3 1
  have hat := fun x (k : Nat) (hk : k < 16) => bools_at (fun y => war (edge ls) 16 x y) hk
  have e1 : (0 : Int) ≤ (who : Int) := by omega
  have e2 : (who : Int) < 16 := by omega
  replace h := Lib.hid h; replace hok := Lib.hid hok; replace hw := Lib.hid hw; replace hss := Lib.hid hss; replace hre := Lib.hid hre; replace hp := Lib.hid hp; replace hat := Lib.hid hat
  obtain ⟨F, hF⟩ : ∃ F, F = bools fun y => war (edge ls) 16 who y := ⟨_, rfl⟩
  have hre0 : ∀ W, GAt W g ls → Calls Try.prog 44 #[.pointer (some ⟨g, 0, none⟩), .int .i64 (who : Int)] W fun e w' => e = .returned (.agg F) ∧ Below W.heap.size W w' := fun W hW => by rw [hF]; exact hre.out W who hw.out hW
  have hFs : F.size = 16 := by rw [hF]; exact bools_size _
  have hFa : ∀ k, k < 16 → F[k]? = some (.bool (R ls who k)) := fun k hk => by rw [hF]; exact hat.out who k hk
  replace hre0 := Lib.hid hre0; replace hFs := Lib.hid hFs; replace hFa := Lib.hid hFa
  clear hF
  go_enter Try.func32, Try.ntmps32
  go_wp2_with (first
    | (go_at_call 41; (with_reducible refine (hss.out _).mono ?_); rintro e w1 ⟨rfl, rfl⟩)
    | (go_at_call 44; (with_reducible refine (hre0.out _ (h.out.below hp.out.bel)).mono ?_); rintro e w1 ⟨rfl, b1⟩; replace hp := Lib.hid (hp.out.below b1); clear b1))
  go_loopg [5, 18] 16 (fun gn v5 s18 wr => ∃ (k : Nat) (ad : Option Addr) (cp : Nat), s18 = .int .i64 (k : Int) ∧ k + gn = 16 ∧ v5 = .slice ad (circK ls who k).length cp ∧ Hp w [] [.row 3 1 (.slice ad (circK ls who k).length cp) (circK ls who k).length (nums (circK ls who k))] wr)
  case atStart => exact ⟨0, none, 0, rfl, by omega, rfl, hp.out⟩
  case round =>
    clear hp
    obtain ⟨k, ad, cp, rfl, hkn, rfl, hp⟩ := hrel
    by_cases hk : k < 16
    · obtain ⟨K, rfl⟩ : ∃ K : Nat, gk = K + 1 := ⟨gk - 1, by omega⟩
      have hc := circK_succ ls who k
      have hcl := circK_len ls who k
      have fk := hFa.out k hk
      have e3 : (0 : Int) ≤ (k : Int) := by omega
      have e4 : (k : Int) < 16 := by omega
      have k3 : IntKind.i64.wrap ((k : Int) + 1) = (k : Int) + 1 := by rw [IntKind.wrap_i64]; omega
      obtain ⟨F2, hF2⟩ : ∃ F, F = bools fun y => war (edge ls) 16 k y := ⟨_, rfl⟩
      have hre2 : ∀ W, GAt W g ls → Calls Try.prog 44 #[.pointer (some ⟨g, 0, none⟩), .int .i64 (k : Int)] W fun e w' => e = .returned (.agg F2) ∧ Below W.heap.size W w' := fun W hW => by rw [hF2]; exact hre.out W k hk hW
      have fw : F2[who]? = some (.bool (R ls k who)) := by rw [hF2]; exact hat.out k who hw.out
      clear hF2
      unfold onC at hc
      generalize R ls who k = r1 at *
      generalize R ls k who = r2 at *
      replace hp := Lib.hid hp; replace hc := Lib.hid hc; replace hcl := Lib.hid hcl; replace hkn := Lib.hid hkn; replace hre2 := Lib.hid hre2
      have ix1 := fun W => run_index_marks F k _ hk fk W
      have ix2 := fun W => run_index_marks F2 who _ hw.out fw W
      clear fk fw hk
      cases r1 with
      | false =>
        go_wp2
        go_roundg K
        case measure => have := hkn.out; omega
        case rel =>
          have := hc.out
          simp at this
          exact ⟨k + 1, ad, cp, by go_num, by have := hkn.out; omega, by rw [this], by rw [this]; exact hp.out⟩
      | true =>
        cases r2 with
        | false =>
          go_wp2_with (go_at_call 44; (with_reducible refine (hre2.out _ (h.out.below hp.out.bel)).mono ?_); rintro e w1 ⟨rfl, b1⟩; replace hp := Lib.hid (hp.out.below b1); clear b1)
          go_roundg K
          case measure => have := hkn.out; omega
          case rel =>
            have := hc.out
            simp at this
            exact ⟨k + 1, ad, cp, by go_num, by have := hkn.out; omega, by rw [this], by rw [this]; exact hp.out⟩
        | true =>
          go_wp2_with (first
            | (go_at_call 44; (with_reducible refine (hre2.out _ (h.out.below hp.out.bel)).mono ?_); rintro e w1 ⟨rfl, b1⟩; replace hp := Lib.hid (hp.out.below b1); clear b1)
            | (at_builtin; go_loud (refine wpList_append_hpw rfl _ _ rfl Try.underlying56 intsInfo rfl (by decide) (hp.out.alloc_ (.cells #[.int .i64 (k : Int)] 3)) 0 rfl rfl _ _ [.int .i64 (k : Int)] rfl rfl (block_cells (heap_alloc_new _ _)) (by intro u hu; simp at hu; subst hu; rfl) (by have := hcl.out; have := hkn.out; omega) (by have := hcl.out; have := hkn.out; omega) ?_; intro v5 w5 hp5 hv5; have hq5 := Lib.hid hp5; clear hp5; obtain ⟨b5, cp5, rfl⟩ := hv5)))
          go_roundg K
          case measure => have := hkn.out; omega
          case rel =>
            have := hc.out
            simp at this
            exact ⟨k + 1, some ⟨b5, 0, none⟩, cp5, by go_num, by have := hkn.out; omega, by rw [this]; simp, by rw [this]; simpa [nums] using hq5.out⟩
    · have hk0 : gk = 0 := by omega
      subst hk0
      obtain rfl : k = 16 := by omega
      clear hkn hk
      replace hp := Lib.hid hp
      go_wp2
      go_ret
      exact ⟨_, rfl, hp.out⟩
def anyL (ls : Nat → List Nat) (k : Nat) : Bool := (List.range k).any fun i => !(ls i).isEmpty
theorem waits_nil (W : World) : Calls Try.prog 35 #[.pointer none] W fun e w' => e = .returned (.bool false) ∧ W = w' := by
  go_enter Try.func35, Try.ntmps35
  go_wp2
  go_ret
  exact ⟨rfl, rfl⟩
theorem waits_any {w : World} {g : Nat} {ls : Nat → List Nat} (h : GAt w g ls) : Calls Try.prog 35 #[.pointer (some ⟨g, 0, none⟩)] w fun e w' => e = .returned (.bool (anyL ls 16)) ∧ w = w' := by
  obtain ⟨A, hA⟩ : ∃ A, anyL ls 16 = A := ⟨_, rfl⟩
  rw [hA]
  replace hA := Lib.hid hA
  obtain ⟨vals, h1, h2, h3⟩ := h
  have hi16 : (Try.prog.info? 94).map (·.size) = some 16 := by kernel_rfl
  have hv : ∀ k, k < 16 → ∃ a cap, vals[k]? = some (.slice a (ls k).length cap) := fun k hk => by
    obtain ⟨v, hv, a, cap, rfl, _⟩ := h3 k hk
    exact ⟨a, cap, hv⟩
  replace h1 := Lib.hid h1; replace h2 := Lib.hid h2; replace hi16 := Lib.hid hi16; replace hv := Lib.hid hv
  clear h3
  go_enter Try.func35, Try.ntmps35
  go_wp2_with (refine wpList_load_row rfl 94 (.tmp 9) rfl g rfl 96 vals (0, 0) _ h1.out Try.underlying94 rfl (by rw [h2.out]; exact hi16.out) ?_)
  go_loopg [11] 16 (fun gn s11 wr => ∃ k : Nat, s11 = .int .i64 (k : Int) ∧ k + gn = 16 ∧ (∀ i, i < k → ls i = []) ∧ wr = w)
  case atStart => exact ⟨0, rfl, by omega, fun i hi => by omega, rfl⟩
  case round =>
    obtain ⟨k, rfl, hkn, hno, rfl⟩ := hrel
    by_cases hk : k < 16
    · obtain ⟨K, rfl⟩ : ∃ K : Nat, gk = K + 1 := ⟨gk - 1, by omega⟩
      obtain ⟨a, cap, hvk⟩ := hv.out k hk
      have ix1 := fun W => run_index_lists vals k _ hk hvk W
      have e3 : (0 : Int) ≤ (k : Int) := by omega
      have e4 : (k : Int) < 16 := by omega
      have k3 : IntKind.i64.wrap ((k : Int) + 1) = (k : Int) + 1 := by rw [IntKind.wrap_i64]; omega
      by_cases hl : ls k = []
      · have n0 : ¬ (0 : Int) < ((ls k).length : Int) := by rw [hl]; simp
        have hno2 : ∀ i, i < k + 1 → ls i = [] := fun i hi => by
          by_cases hik : i = k
          · rw [hik]; exact hl
          · exact hno i (by omega)
        replace hno2 := Lib.hid hno2; replace hkn := Lib.hid hkn
        clear hvk hl hno hk
        go_wp2
        go_roundg K
        case measure => have := hkn.out; omega
        case rel => exact ⟨k + 1, by go_num, by have := hkn.out; omega, hno2.out, rfl⟩
      · have n0 : (0 : Int) < ((ls k).length : Int) := by have := List.length_pos_iff.2 hl; omega
        have hA2 : A = true := by
          rw [← hA.out]; unfold anyL
          rw [List.any_eq_true]
          exact ⟨k, List.mem_range.2 hk, by simp [hl]⟩
        subst hA2
        clear hvk hl hno hk hkn hA
        go_wp2
        go_ret
        exact ⟨rfl, rfl⟩
    · have hk0 : gk = 0 := by omega
      subst hk0
      obtain rfl : k = 16 := by omega
      have hA2 : A = false := by
        rw [← hA.out]; unfold anyL
        rw [List.any_eq_false]
        intro i hi
        rw [hno i (List.mem_range.1 hi)]; simp
      subst hA2
      clear hkn hk hno hA
      go_wp2
      go_ret
      exact ⟨rfl, rfl⟩
end Go.Proofs.Ytmlphodmbkceoab.wait
