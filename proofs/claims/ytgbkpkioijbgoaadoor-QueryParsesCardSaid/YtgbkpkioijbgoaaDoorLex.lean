/- The words of questions (package lex): letters, digits, names, numbers. No condition. -/
import Derived.Test.YtgbkpkioijbgoaaDoorLexMath
import Derived.Test.YtgbkpkioijbgoaaDoorBytes2
import Derived.Test.YtgbkpkioijbgoaaDoorBox
import Derived.Laws.Rows
namespace Go.Proofs.YtgbkpkioijbgoaaDoor.lex
open Go.RowKit
attribute [local go_sem ↓] Go.wp_at_zero Go.wp_at_succ
attribute [local go_sem] str_size
set_option linter.unusedVariables false
set_option maxRecDepth 100000

def wv (x : W) : Value := .agg #[.int .i64 (x.kind : Int), .string (str x.s), .int .i64 (x.n : Int), .int .i64 (x.pos : Int)]
def noW : Value := .agg #[.int .i64 0, .string ⟨#[]⟩, .int .i64 0, .int .i64 0]
theorem word_results {fn : Func} (hfn : fn.results = #[.cell 4 71, .tmp 5]) (tmps : Array Value) (W' : World) (g : Nat) (cs : Array Value) (v : Value) (h4 : tmps.getD 4 undef = .pointer (some ⟨g, 0, none⟩)) (h5 : tmps.getD 5 undef = v) (hg : W'.heap[g]? = some (.cells cs 71 (0, 0))) (hi : cs.size = 4) :
    (results fn tmps).run Tryd.prog W' = .ok (.tuple #[.agg cs, v]) W' := by
  have h4' : tmps[4]?.getD undef = .pointer (some ⟨g, 0, none⟩) := by simpa using h4
  have h5' : tmps[5]?.getD undef = v := by simpa using h5
  have hs : (Tryd.prog.info? 71).map (·.size) = some cs.size := by rw [hi]; kernel_rfl
  simp [results, hfn, h4', h5', asAddr, run_loadVar_row W' g 71 71 cs (0, 0) _ hg Tryd.underlying71 rfl hs]
theorem at_str (l : List UInt8) (i : Nat) (b : UInt8) (hb : l[i]? = some b) : ∀ h : i < (str l).size, ((str l)[i]'h) = b := fun h => by
  obtain ⟨hi, he⟩ := List.getElem?_eq_some_iff.1 hb
  exact he
theorem u8_lt (c : UInt8) : c.toNat < 256 := c.toNat_lt
theorem letter_any (c : UInt8) (w : World) : Calls Tryd.prog 48 #[.int .u8 (c.toNat : Int)] w fun e w' => e = .returned (.bool (letB c)) ∧ w = w' := by
  have hlt := u8_lt c
  unfold letB
  generalize c.toNat = n at hlt ⊢
  have hcase : n < 65 ∨ (65 ≤ n ∧ n ≤ 90) ∨ (91 ≤ n ∧ n ≤ 94) ∨ n = 95 ∨ n = 96 ∨ (97 ≤ n ∧ n ≤ 122) ∨ 123 ≤ n := by omega
  rcases hcase with h | h | h | h | h | h | h
  · have e : ((decide (97 ≤ n) && decide (n ≤ 122)) || (decide (65 ≤ n) && decide (n ≤ 90)) || decide (n = 95)) = false := by simp; omega
    rw [e]
    have q1 : ¬ (97 : Int) ≤ (n : Int) := by omega
    have q2 : ¬ (65 : Int) ≤ (n : Int) := by omega
    have q3 : ((n : Int) == 95) = false := by simp; omega
    clear e h hlt
    go_enter Tryd.func48, Tryd.ntmps48
    go_wp2
    go_ret
    exact ⟨rfl, rfl⟩
  · have e : ((decide (97 ≤ n) && decide (n ≤ 122)) || (decide (65 ≤ n) && decide (n ≤ 90)) || decide (n = 95)) = true := by simp; omega
    rw [e]
    have q1 : ¬ (97 : Int) ≤ (n : Int) := by omega
    have q2 : (65 : Int) ≤ (n : Int) := by omega
    have q3 : (n : Int) ≤ 90 := by omega
    clear e h hlt
    go_enter Tryd.func48, Tryd.ntmps48
    go_wp2
    go_ret
    exact ⟨rfl, rfl⟩
  · have e : ((decide (97 ≤ n) && decide (n ≤ 122)) || (decide (65 ≤ n) && decide (n ≤ 90)) || decide (n = 95)) = false := by simp; omega
    rw [e]
    have q1 : ¬ (97 : Int) ≤ (n : Int) := by omega
    have q2 : (65 : Int) ≤ (n : Int) := by omega
    have q4 : ¬ (n : Int) ≤ 90 := by omega
    have q3 : ((n : Int) == 95) = false := by simp; omega
    clear e h hlt
    go_enter Tryd.func48, Tryd.ntmps48
    go_wp2
    go_ret
    exact ⟨rfl, rfl⟩
  · subst h
    clear hlt
    go_enter Tryd.func48, Tryd.ntmps48
    go_wp2
    go_ret
    exact ⟨rfl, rfl⟩
  · subst h
    clear hlt
    go_enter Tryd.func48, Tryd.ntmps48
    go_wp2
    go_ret
    exact ⟨rfl, rfl⟩
  · have e : ((decide (97 ≤ n) && decide (n ≤ 122)) || (decide (65 ≤ n) && decide (n ≤ 90)) || decide (n = 95)) = true := by simp; omega
    rw [e]
    have q1 : (97 : Int) ≤ (n : Int) := by omega
    have q2 : (n : Int) ≤ 122 := by omega
    clear e h hlt
    go_enter Tryd.func48, Tryd.ntmps48
    go_wp2
    go_ret
    exact ⟨rfl, rfl⟩
  · have e : ((decide (97 ≤ n) && decide (n ≤ 122)) || (decide (65 ≤ n) && decide (n ≤ 90)) || decide (n = 95)) = false := by simp; omega
    rw [e]
    have q1 : (97 : Int) ≤ (n : Int) := by omega
    have q2 : ¬ (n : Int) ≤ 122 := by omega
    have q4 : (65 : Int) ≤ (n : Int) := by omega
    have q5 : ¬ (n : Int) ≤ 90 := by omega
    have q3 : ((n : Int) == 95) = false := by simp; omega
    clear e h hlt
    go_enter Tryd.func48, Tryd.ntmps48
    go_wp2
    go_ret
    exact ⟨rfl, rfl⟩
theorem digit_any (c : UInt8) (w : World) : Calls Tryd.prog 50 #[.int .u8 (c.toNat : Int)] w fun e w' => e = .returned (.bool (digB c)) ∧ w = w' := by
  have hlt := u8_lt c
  unfold digB
  generalize c.toNat = n at hlt ⊢
  by_cases h1 : 48 ≤ n
  · by_cases h2 : n ≤ 57
    · have e : (decide (48 ≤ n) && decide (n ≤ 57)) = true := by simp; omega
      rw [e]
      have q1 : (48 : Int) ≤ (n : Int) := by omega
      have q2 : (n : Int) ≤ 57 := by omega
      clear e h1 h2 hlt
      go_enter Tryd.func50, Tryd.ntmps50
      go_wp2
      go_ret
      exact ⟨rfl, rfl⟩
    · have e : (decide (48 ≤ n) && decide (n ≤ 57)) = false := by simp; omega
      rw [e]
      have q1 : (48 : Int) ≤ (n : Int) := by omega
      have q2 : ¬ (n : Int) ≤ 57 := by omega
      clear e h1 h2 hlt
      go_enter Tryd.func50, Tryd.ntmps50
      go_wp2
      go_ret
      exact ⟨rfl, rfl⟩
  · have e : (decide (48 ≤ n) && decide (n ≤ 57)) = false := by simp; omega
    rw [e]
    have q1 : ¬ (48 : Int) ≤ (n : Int) := by omega
    clear e h1 hlt
    go_enter Tryd.func50, Tryd.ntmps50
    go_wp2
    go_ret
    exact ⟨rfl, rfl⟩
end Go.Proofs.YtgbkpkioijbgoaaDoor.lex
