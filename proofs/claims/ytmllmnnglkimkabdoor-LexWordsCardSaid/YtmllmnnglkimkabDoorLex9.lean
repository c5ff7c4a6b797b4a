/- The words of questions, as the document has them (package lodestoneref32): letters, digits, names, numbers. No condition. -/
import Derived.Test.YtmllmnnglkimkabDoorLex8
import Derived.BigRegion
namespace Go.Proofs.YtmllmnnglkimkabDoor.lex
open Go.RowKit
attribute [local go_sem ↓] Go.wp_at_zero Go.wp_at_succ
attribute [local go_sem] str_size
set_option linter.unusedVariables false
set_option maxRecDepth 100000

theorem rletter_any (c : UInt8) (w : World) : Calls Tryd.prog 47 #[.int .u8 (c.toNat : Int)] w fun e w' => e = .returned (.bool (letB c)) ∧ w = w' := by
  have hlt := u8_lt c
  unfold letB
  generalize c.toNat = n at hlt ⊢
  have hcase : n < 65 ∨ (65 ≤ n ∧ n ≤ 90) ∨ (91 ≤ n ∧ n ≤ 94) ∨ n = 95 ∨ n = 96 ∨ (97 ≤ n ∧ n ≤ 122) ∨ 123 ≤ n := by omega
  rcases hcase with h | h | h | h | h | h | h
  · have e : ((decide (97 ≤ n) && decide (n ≤ 122)) || (decide (65 ≤ n) && decide (n ≤ 90)) || decide (n = 95)) = false := by simp; omega
    rw [e]
    have q1 : ¬ (97 : Int) ≤ (n : Int) := by omega
    have q2 : ¬ (65 : Int) ≤ (n : Int) := by omega
    have q3 : ((n : Int) == 95) = false := by simp; omega
    clear e h hlt
    go_enter Tryd.func47, Tryd.ntmps47
    go_wp2
    go_ret
    exact ⟨rfl, rfl⟩
  · have e : ((decide (97 ≤ n) && decide (n ≤ 122)) || (decide (65 ≤ n) && decide (n ≤ 90)) || decide (n = 95)) = true := by simp; omega
    rw [e]
    have q1 : ¬ (97 : Int) ≤ (n : Int) := by omega
    have q2 : (65 : Int) ≤ (n : Int) := by omega
    have q3 : (n : Int) ≤ 90 := by omega
    clear e h hlt
    go_enter Tryd.func47, Tryd.ntmps47
    go_wp2
    go_ret
    exact ⟨rfl, rfl⟩
  · have e : ((decide (97 ≤ n) && decide (n ≤ 122)) || (decide (65 ≤ n) && decide (n ≤ 90)) || decide (n = 95)) = false := by simp; omega
    rw [e]
    have q1 : ¬ (97 : Int) ≤ (n : Int) := by omega
    have q2 : (65 : Int) ≤ (n : Int) := by omega
    have q4 : ¬ (n : Int) ≤ 90 := by omega
    have q3 : ((n : Int) == 95) = false := by simp; omega
    clear e h hlt
    go_enter Tryd.func47, Tryd.ntmps47
    go_wp2
    go_ret
    exact ⟨rfl, rfl⟩
  · subst h
    clear hlt
    go_enter Tryd.func47, Tryd.ntmps47
    go_wp2
    go_ret
    exact ⟨rfl, rfl⟩
  · subst h
    clear hlt
    go_enter Tryd.func47, Tryd.ntmps47
    go_wp2
    go_ret
    exact ⟨rfl, rfl⟩
  · have e : ((decide (97 ≤ n) && decide (n ≤ 122)) || (decide (65 ≤ n) && decide (n ≤ 90)) || decide (n = 95)) = true := by simp; omega
    rw [e]
    have q1 : (97 : Int) ≤ (n : Int) := by omega
    have q2 : (n : Int) ≤ 122 := by omega
    clear e h hlt
    go_enter Tryd.func47, Tryd.ntmps47
    go_wp2
    go_ret
    exact ⟨rfl, rfl⟩
  · have e : ((decide (97 ≤ n) && decide (n ≤ 122)) || (decide (65 ≤ n) && decide (n ≤ 90)) || decide (n = 95)) = false := by simp; omega
    rw [e]
    have q1 : (97 : Int) ≤ (n : Int) := by omega
    have q2 : ¬ (n : Int) ≤ 122 := by omega
    have q4 : (65 : Int) ≤ (n : Int) := by omega
    have q5 : ¬ (n : Int) ≤ 90 := by omega
    have q3 : ((n : Int) == 95) = false := by simp; omega
    clear e h hlt
    go_enter Tryd.func47, Tryd.ntmps47
    go_wp2
    go_ret
    exact ⟨rfl, rfl⟩
theorem rdigit_any (c : UInt8) (w : World) : Calls Tryd.prog 49 #[.int .u8 (c.toNat : Int)] w fun e w' => e = .returned (.bool (digB c)) ∧ w = w' := by
  have hlt := u8_lt c
  unfold digB
  generalize c.toNat = n at hlt ⊢
  by_cases h1 : 48 ≤ n
  · by_cases h2 : n ≤ 57
    · have e : (decide (48 ≤ n) && decide (n ≤ 57)) = true := by simp; omega
      rw [e]
      have q1 : (48 : Int) ≤ (n : Int) := by omega
      have q2 : (n : Int) ≤ 57 := by omega
      clear e h1 h2 hlt
      go_enter Tryd.func49, Tryd.ntmps49
      go_wp2
      go_ret
      exact ⟨rfl, rfl⟩
    · have e : (decide (48 ≤ n) && decide (n ≤ 57)) = false := by simp; omega
      rw [e]
      have q1 : (48 : Int) ≤ (n : Int) := by omega
      have q2 : ¬ (n : Int) ≤ 57 := by omega
      clear e h1 h2 hlt
      go_enter Tryd.func49, Tryd.ntmps49
      go_wp2
      go_ret
      exact ⟨rfl, rfl⟩
  · have e : (decide (48 ≤ n) && decide (n ≤ 57)) = false := by simp; omega
    rw [e]
    have q1 : ¬ (48 : Int) ≤ (n : Int) := by omega
    clear e h1 hlt
    go_enter Tryd.func49, Tryd.ntmps49
    go_wp2
    go_ret
    exact ⟨rfl, rfl⟩
theorem rblank_any (c : UInt8) (w : World) : Calls Tryd.prog 46 #[.int .u8 (c.toNat : Int)] w fun e w' => e = .returned (.bool (blankB c)) ∧ w = w' := by
  have hlt := u8_lt c
  unfold blankB
  generalize c.toNat = n at hlt ⊢
  have hcase : n = 32 ∨ n = 9 ∨ n = 10 ∨ (n ≠ 32 ∧ n ≠ 9 ∧ n ≠ 10) := by omega
  rcases hcase with rfl | rfl | rfl | ⟨h1, h2, h3⟩
  · clear hlt
    go_enter Tryd.func46, Tryd.ntmps46
    go_wp2
    go_ret
    exact ⟨rfl, rfl⟩
  · clear hlt
    go_enter Tryd.func46, Tryd.ntmps46
    go_wp2
    go_ret
    exact ⟨rfl, rfl⟩
  · clear hlt
    go_enter Tryd.func46, Tryd.ntmps46
    go_wp2
    go_ret
    exact ⟨rfl, rfl⟩
  · have e : (decide (n = 32) || decide (n = 9) || decide (n = 10)) = false := by simp [h1, h2, h3]
    rw [e]
    have q1 : ((n : Int) == 32) = false := by simp; omega
    have q2 : ((n : Int) == 9) = false := by simp; omega
    have q3 : ((n : Int) == 10) = false := by simp; omega
    clear e h1 h2 h3 hlt
    go_enter Tryd.func46, Tryd.ntmps46
    go_wp2
    go_ret
    exact ⟨rfl, rfl⟩
theorem rname_any (l : List UInt8) (p : Nat) (hp : p ≤ l.length) (hl : l.length ≤ 100000) (w : World) :
    Calls Tryd.prog 48 #[.string (str l), .int .i64 (p : Int)] w fun e w' => e = .returned (.int .i64 (nameN (l.drop p) : Int)) ∧ w = w' := by
  obtain ⟨L, hL⟩ : ∃ L, L = l.length := ⟨_, rfl⟩
  have hp2 : (p : Int) ≤ (L : Int) := by omega
  have hl2 : L ≤ 100000 := by omega
  have hLr := Lib.hid hL
  replace hp := Lib.hid hp; replace hl := Lib.hid hl; replace hp2 := Lib.hid hp2; replace hl2 := Lib.hid hl2
  have hsz : (str l).size = L := by rw [str_size, hL]
  clear hL
  go_enter Tryd.func48, Tryd.ntmps48
  go_wp2
  go_loopg [5] (L - p) (fun gn s wr => ∃ q : Nat, s = .int .i64 (q : Int) ∧ p ≤ q ∧ q + gn = L ∧ nameN (l.drop p) = (q - p) + nameN (l.drop q) ∧ wr = w)
  case atStart => exact ⟨p, rfl, Nat.le_refl _, by have := hp2.out; omega, by omega, rfl⟩
  case round =>
    obtain ⟨q, rfl, hq1, hq2, hq3, rfl⟩ := hrel
    by_cases hk : gk = 0
    · subst hk
      obtain rfl : q = L := by omega
      have hd : nameN (l.drop q) = 0 := by rw [List.drop_eq_nil_of_le (by have := hLr.out; omega)]; rfl
      have hfin : nameN (l.drop p) = q - p := by omega
      have i5 : IntKind.i64.wrap ((q : Int) - (p : Int)) = ((q - p : Nat) : Int) := by have := hl2.out; rw [IntKind.wrap_i64]; omega
      have hlt : ¬ ((q : Int) < (q : Int)) := by omega
      replace hfin := Lib.hid hfin
      clear hd hq3 hq2
      replace hq1 := Lib.hid hq1
      go_wp2
      go_ret
      exact ⟨by rw [hfin.out]; rfl, rfl⟩
    · obtain ⟨K, rfl⟩ : ∃ K : Nat, gk = K + 1 := ⟨gk - 1, by omega⟩
      have hqL : q < L := by omega
      obtain ⟨c, hc⟩ : ∃ c, l[q]? = some c := ⟨_, List.getElem?_eq_getElem (show q < l.length by have := hLr.out; omega)⟩
      have hd := drop_at l q c hc
      have i0 : (0 : Int) ≤ (q : Int) := by omega
      have i1 : (q : Int) < (L : Int) := by omega
      have i3 : IntKind.i64.wrap ((q : Int) + 1) = (q : Int) + 1 := by have := hl2.out; rw [IntKind.wrap_i64]; omega
      have i5 : IntKind.i64.wrap ((q : Int) - (p : Int)) = ((q - p : Nat) : Int) := by have := hl2.out; rw [IntKind.wrap_i64]; omega
      have hg := at_str l q c hc
      have cl := rletter_any c
      have cd := rdigit_any c
      have hnm : nameN (l.drop q) = if wordB c then nameN (l.drop (q + 1)) + 1 else 0 := by rw [hd]; rfl
      clear hk hd hc
      replace hq1 := Lib.hid hq1; replace hq2 := Lib.hid hq2; replace hqL := Lib.hid hqL
      by_cases hl1 : letB c = true
      · rw [hl1] at cl
        have hw : wordB c = true := by unfold wordB; rw [hl1]; rfl
        rw [if_pos hw] at hnm
        have hnx : nameN (l.drop p) = (q + 1 - p) + nameN (l.drop (q + 1)) := by have := hq1.out; omega
        clear hnm hq3 hl1 hw
        replace hnx := Lib.hid hnx; replace cl := Lib.hid cl; replace i5 := Lib.hid i5
        go_wp2_with (go_at_call 47; (with_reducible refine (cl.out _).mono ?_); rintro e w' ⟨rfl, rfl⟩)
        go_roundg K
        case measure => omega
        case rel => exact ⟨q + 1, by go_num, by have := hq1.out; omega, by have := hq2.out; omega, hnx.out, rfl⟩
      · rw [Bool.not_eq_true] at hl1
        rw [hl1] at cl
        by_cases hl2 : digB c = true
        · rw [hl2] at cd
          have hw : wordB c = true := by unfold wordB; rw [hl1, hl2]; rfl
          rw [if_pos hw] at hnm
          have hnx : nameN (l.drop p) = (q + 1 - p) + nameN (l.drop (q + 1)) := by have := hq1.out; omega
          clear hnm hq3 hl1 hw hl2
          replace hnx := Lib.hid hnx; replace cl := Lib.hid cl; replace cd := Lib.hid cd; replace i5 := Lib.hid i5
          go_wp2_with (first
            | (go_at_call 47; (with_reducible refine (cl.out _).mono ?_); rintro e w' ⟨rfl, rfl⟩)
            | (go_at_call 49; (with_reducible refine (cd.out _).mono ?_); rintro e w' ⟨rfl, rfl⟩))
          go_roundg K
          case measure => omega
          case rel => exact ⟨q + 1, by go_num, by have := hq1.out; omega, by have := hq2.out; omega, hnx.out, rfl⟩
        · rw [Bool.not_eq_true] at hl2
          rw [hl2] at cd
          have hw : wordB c = false := by unfold wordB; rw [hl1, hl2]; rfl
          rw [if_neg (by rw [hw]; decide)] at hnm
          have hfin : nameN (l.drop p) = q - p := by omega
          clear hnm hq3 hl1 hw hl2
          replace hfin := Lib.hid hfin; replace cl := Lib.hid cl; replace cd := Lib.hid cd
          go_wp2_with (first
            | (go_at_call 47; (with_reducible refine (cl.out _).mono ?_); rintro e w' ⟨rfl, rfl⟩)
            | (go_at_call 49; (with_reducible refine (cd.out _).mono ?_); rintro e w' ⟨rfl, rfl⟩))
          go_ret
          exact ⟨by rw [hfin.out]; rfl, rfl⟩
/-- the number of digits alone -/
def rnum : List UInt8 → Nat → Option Nat
  | [], n => some n
  | c :: r, n => if digB c then (if (9223372036854775807 - (c.toNat - 48)) / 10 < n then none else rnum r (10 * n + (c.toNat - 48))) else none
theorem scan_rnum : ∀ (l : List UInt8) (n k : Nat), numScan l n k = (rnum (l.take (nameN l)) n).map fun m => (m, k + nameN l)
  | [], n, k => rfl
  | c :: r, n, k => by
    rw [numScan, nameN]
    by_cases hd : digB c = true
    · have hw : wordB c = true := by unfold wordB; rw [hd]; simp
      rw [if_pos hd, if_pos hw, List.take_succ_cons, rnum, if_pos hd]
      by_cases ho : (9223372036854775807 - (c.toNat - 48)) / 10 < n
      · rw [if_pos ho, if_pos ho]; rfl
      · rw [if_neg ho, if_neg ho, scan_rnum r]
        congr 1
        funext m
        rw [show k + 1 + nameN r = k + (nameN r + 1) by omega]
    · rw [if_neg hd]
      by_cases hl : letB c = true
      · have hw : wordB c = true := by unfold wordB; rw [hl]; rfl
        rw [if_pos hl, if_pos hw, List.take_succ_cons, rnum, if_neg hd]; rfl
      · have hw : ¬ wordB c = true := by unfold wordB; simp at hl hd ⊢; exact ⟨hl, hd⟩
        rw [if_neg hl, if_neg hw]; rfl
def rnumV (o : Option Nat) : Value := match o with
  | some n => .tuple #[.int .i64 (n : Int), .bool true]
  | none => .tuple #[.int .i64 0, .bool false]
set_option maxHeartbeats 1000000 in
theorem rnumber_any (l : List UInt8) (hl : l.length ≤ 100000) (w : World) :
    Calls Tryd.prog 50 #[.string (str l)] w fun e w' => e = .returned (rnumV (rnum l 0)) ∧ w = w' := by
  obtain ⟨L, hL⟩ : ∃ L, L = l.length := ⟨_, rfl⟩
  have hl2 : L ≤ 100000 := by omega
  have hLr := Lib.hid hL
  replace hl := Lib.hid hl; replace hl2 := Lib.hid hl2
  have hsz : (str l).size = L := by rw [str_size, hL]
  clear hL
  go_enter Tryd.func50, Tryd.ntmps50
  go_wp2
  go_loopg [4, 5] L (fun gn s4 s5 wr => ∃ n q : Nat, s4 = .int .i64 (n : Int) ∧ s5 = .int .i64 (q : Int) ∧ q + gn = L ∧ n ≤ 9223372036854775807 ∧ rnum l 0 = rnum (l.drop q) n ∧ wr = w)
  case atStart => exact ⟨0, 0, rfl, rfl, by omega, by omega, rfl, rfl⟩
  case round =>
    obtain ⟨n, q, rfl, rfl, hq2, hn, hq3, rfl⟩ := hrel
    replace hn := Lib.hid hn
    by_cases hk : gk = 0
    · subst hk
      obtain rfl : q = L := by omega
      have hd : l.drop q = [] := List.drop_eq_nil_of_le (by have := hLr.out; omega)
      have hlt : ¬ ((q : Int) < (q : Int)) := by omega
      rw [hd, rnum] at hq3
      replace hq3 := Lib.hid hq3
      clear hd hq2
      go_wp2
      go_ret2
      exact ⟨by rw [hq3.out]; rfl, rfl⟩
    · obtain ⟨K, rfl⟩ : ∃ K : Nat, gk = K + 1 := ⟨gk - 1, by omega⟩
      have hqL : q < L := by omega
      obtain ⟨c, hc⟩ : ∃ c, l[q]? = some c := ⟨_, List.getElem?_eq_getElem (show q < l.length by have := hLr.out; omega)⟩
      have hd := drop_at l q c hc
      have i0 : (0 : Int) ≤ (q : Int) := by omega
      have i1 : (q : Int) < (L : Int) := by omega
      have i3 : IntKind.i64.wrap ((q : Int) + 1) = (q : Int) + 1 := by have := hl2.out; rw [IntKind.wrap_i64]; omega
      have hg := at_str l q c hc
      have cd := rdigit_any c
      have h256 := u8_lt c
      rw [hd, rnum] at hq3
      clear hk hd hc
      replace hq2 := Lib.hid hq2; replace hqL := Lib.hid hqL
      have s2 : IntKind.i64.wrap (c.toNat : Int) = (c.toNat : Int) := by rw [IntKind.wrap_i64]; omega
      by_cases hd1 : digB c = true
      · rw [hd1] at cd
        rw [if_pos hd1] at hq3
        have hcr : 48 ≤ c.toNat ∧ c.toNat ≤ 57 := by unfold digB at hd1; simpa using hd1
        obtain ⟨d, hdd⟩ : ∃ d, d = c.toNat - 48 := ⟨_, rfl⟩
        rw [← hdd] at hq3
        have hd9 : d ≤ 9 := by omega
        have s1 : IntKind.i64.wrap ((c.toNat : Int) - 48) = (d : Int) := by rw [IntKind.wrap_i64]; omega
        have s1b : (c.toNat : Int) - 48 = (d : Int) := by omega
        obtain ⟨Q, hQ⟩ : ∃ Q, Q = (9223372036854775807 - d) / 10 := ⟨_, rfl⟩
        rw [← hQ] at hq3
        have s3 : IntKind.i64.wrap (9223372036854775807 - (d : Int)) = 9223372036854775807 - (d : Int) := by rw [IntKind.wrap_i64]; omega
        have s4 : (9223372036854775807 - (d : Int)).tdiv 10 = (Q : Int) := by rw [hQ, Int.tdiv_eq_ediv_of_nonneg (by omega)]; omega
        have s5 : (9223372036854775807 - (d : Int)) / 10 = (Q : Int) := by rw [hQ]; omega
        have s6 : (0 : Int) ≤ 9223372036854775807 - (d : Int) := by omega
        have nb : Q < n ∨ (n ≤ Q ∧ 10 * n + d ≤ 9223372036854775807) := by omega
        have s7 : (0 : Int) ≤ (d : Int) := by omega
        have s8 : (d : Int) ≤ 9 := by omega
        clear hcr hdd hd9 hd1 hQ h256
        rcases nb with hb | ⟨hb, hb2⟩
        · rw [if_pos hb] at hq3
          have hlt : (Q : Int) < (n : Int) := by omega
          replace hq3 := Lib.hid hq3; replace cd := Lib.hid cd
          clear hb
          go_wp2_with (go_at_call 49; (with_reducible refine (cd.out _).mono ?_); rintro e w' ⟨rfl, rfl⟩)
          go_ret2
          exact ⟨by rw [hq3.out]; rfl, rfl⟩
        · rw [if_neg (by omega)] at hq3
          have hlt : ¬ (Q : Int) < (n : Int) := by omega
          have hlt2 : decide ((Q : Int) < (n : Int)) = false := by simpa using hlt
          obtain ⟨m, hm⟩ : ∃ m, m = 10 * n + d := ⟨_, rfl⟩
          rw [← hm] at hq3
          obtain ⟨t, ht⟩ : ∃ t, t = 10 * n := ⟨_, rfl⟩
          have m1 : IntKind.i64.wrap ((n : Int) * 10) = (t : Int) := by rw [IntKind.wrap_i64]; omega
          have m2 : IntKind.i64.wrap ((t : Int) + (d : Int)) = (m : Int) := by rw [IntKind.wrap_i64]; omega
          have m3 : m ≤ 9223372036854775807 := by omega
          clear hb hb2 hm ht
          replace hq3 := Lib.hid hq3; replace cd := Lib.hid cd; replace m3 := Lib.hid m3
          go_wp2_with (go_at_call 49; (with_reducible refine (cd.out _).mono ?_); rintro e w' ⟨rfl, rfl⟩)
          go_roundg K
          case measure => omega
          case rel => exact ⟨m, q + 1, rfl, by go_num, by have := hq2.out; omega, m3.out, hq3.out, rfl⟩
      · have hd1f : digB c = false := by simpa using hd1
        rw [hd1f] at cd
        rw [if_neg hd1] at hq3
        have s1 : IntKind.i64.wrap ((c.toNat : Int) - 48) = (c.toNat : Int) - 48 := by rw [IntKind.wrap_i64]; omega
        replace hq3 := Lib.hid hq3; replace cd := Lib.hid cd; replace h256 := Lib.hid h256
        clear hd1 hd1f
        go_wp2_with (go_at_call 49; (with_reducible refine (cd.out _).mono ?_); rintro e w' ⟨rfl, rfl⟩)
        go_ret2
        exact ⟨by rw [hq3.out]; rfl, rfl⟩
end Go.Proofs.YtmllmnnglkimkabDoor.lex
