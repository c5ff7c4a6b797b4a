/- The words of questions (package lex): names and numbers. No condition. -/
import Derived.Test.YtgbkpkioijbgoaaDoorLex
import Derived.BigRegion
namespace Go.Proofs.YtgbkpkioijbgoaaDoor.lex
open Go.RowKit
attribute [local go_sem ↓] Go.wp_at_zero Go.wp_at_succ
attribute [local go_sem] str_size
set_option linter.unusedVariables false
set_option maxRecDepth 100000

theorem drop_at (l : List UInt8) (q : Nat) (c : UInt8) (h : l[q]? = some c) : l.drop q = c :: l.drop (q + 1) := by
  obtain ⟨hi, he⟩ := List.getElem?_eq_some_iff.1 h
  rw [List.drop_eq_getElem_cons hi, he]
theorem name_any (l : List UInt8) (p : Nat) (hp : p ≤ l.length) (hl : l.length ≤ 100000) (w : World) :
    Calls Tryd.prog 49 #[.string (str l), .int .i64 (p : Int)] w fun e w' => e = .returned (.tuple #[wv ⟨1, (l.drop p).take (nameN (l.drop p)), 0, p⟩, .int .i64 ((p + nameN (l.drop p) : Nat) : Int)]) ∧ Below w.heap.size w w' := by
  obtain ⟨L, hL⟩ : ∃ L, L = l.length := ⟨_, rfl⟩
  have hp2 : (p : Int) ≤ (L : Int) := by omega
  have hl2 : L ≤ 100000 := by omega
  have hLr := Lib.hid hL
  replace hp := Lib.hid hp; replace hl := Lib.hid hl; replace hp2 := Lib.hid hp2; replace hl2 := Lib.hid hl2
  have hsz : (str l).size = L := by rw [str_size, hL]
  clear hL
  go_enter Tryd.func49, Tryd.ntmps49
  go_wp2
  go_loopg [6] (L - p) (fun gn s wr => ∃ q : Nat, s = .int .i64 (q : Int) ∧ p ≤ q ∧ q + gn = L ∧ nameN (l.drop p) = (q - p) + nameN (l.drop q) ∧ wr = w.alloc (.cells #[.int .i64 0, .string ⟨#[]⟩, .int .i64 0, .int .i64 0] 71))
  case atStart => exact ⟨p, rfl, Nat.le_refl _, by have := hp2.out; omega, by omega, rfl⟩
  case round =>
    obtain ⟨q, rfl, hq1, hq2, hq3, rfl⟩ := hrel
    by_cases hk : gk = 0
    · subst hk
      obtain rfl : q = L := by omega
      have hd : nameN (l.drop q) = 0 := by rw [List.drop_eq_nil_of_le (by have := hLr.out; omega)]; rfl
      have hcut : (str l).extract p q = str ((l.drop p).take (q - p)) := cut_extract l p q
      have hfin : nameN (l.drop p) = q - p := by omega
      have e0 : (0 : Int) ≤ (p : Int) := by omega
      have e1 : (p : Int) ≤ (q : Int) := by omega
      have hlt : ¬ ((q : Int) < (q : Int)) := by omega
      replace hfin := Lib.hid hfin; replace hcut := Lib.hid hcut
      clear hd hq3 hq2
      replace hq1 := Lib.hid hq1
      go_wp2
      refine bodyPost_ret (word_results (fn := Tryd.f49) rfl _ _ w.heap.size #[.int .i64 1, .string ((str l).extract p q), .int .i64 0, .int .i64 (p : Int)] (.int .i64 (q : Int)) rfl rfl (heap_alloc_new w _) rfl) rfl ⟨?_, by go_grown⟩
      rw [hcut.out, hfin.out]
      first
        | rw [show (p : Int) + ((q - p : Nat) : Int) = (q : Int) by have := hq1.out; omega]
        | rw [show p + (q - p) = q by have := hq1.out; omega]
      rfl
    · obtain ⟨K, rfl⟩ : ∃ K : Nat, gk = K + 1 := ⟨gk - 1, by omega⟩
      have hqL : q < L := by omega
      obtain ⟨c, hc⟩ : ∃ c, l[q]? = some c := ⟨_, List.getElem?_eq_getElem (show q < l.length by have := hLr.out; omega)⟩
      have hd := drop_at l q c hc
      have i0 : (0 : Int) ≤ (q : Int) := by omega
      have i1 : (q : Int) < (L : Int) := by omega
      have i3 : IntKind.i64.wrap ((q : Int) + 1) = (q : Int) + 1 := by have := hl2.out; rw [IntKind.wrap_i64]; omega
      have hg := at_str l q c hc
      have cl := letter_any c
      have cd := digit_any c
      have hnm : nameN (l.drop q) = if wordB c then nameN (l.drop (q + 1)) + 1 else 0 := by rw [hd]; rfl
      have e0 : (0 : Int) ≤ (p : Int) := by omega
      have e1 : (p : Int) ≤ (q : Int) := by omega
      have e2 : (q : Int) ≤ (L : Int) := by omega
      have hcut : (str l).extract p q = str ((l.drop p).take (q - p)) := cut_extract l p q
      replace hcut := Lib.hid hcut
      clear hk hd hc
      replace hq1 := Lib.hid hq1; replace hq2 := Lib.hid hq2; replace hqL := Lib.hid hqL
      by_cases hl1 : letB c = true
      · rw [hl1] at cl
        have hw : wordB c = true := by unfold wordB; rw [hl1]; rfl
        rw [if_pos hw] at hnm
        have hnx : nameN (l.drop p) = (q + 1 - p) + nameN (l.drop (q + 1)) := by have := hq1.out; omega
        clear hnm hq3 hl1 hw
        replace hnx := Lib.hid hnx; replace cl := Lib.hid cl
        go_wp2_with (go_at_call 48; (with_reducible refine (cl.out _).mono ?_); rintro e w' ⟨rfl, rfl⟩)
        go_roundg K
        case measure => omega
        case rel => exact ⟨q + 1, by go_num, by have := hq1.out; omega, by have := hq2.out; omega, hnx.out, rfl⟩
      · rw [Bool.not_eq_true] at hl1
        rw [hl1] at cl
        by_cases hl2 : digB c = true
        · rw [hl2] at cd
          have hw : wordB c = true := by unfold wordB; rw [hl1, hl2]; rfl
          rw [if_pos hw] at hnm
          have hnx : nameN (l.drop p) = (q + 1 - p) + nameN (l.drop (q + 1)) := by have := hq1.out; omega
          clear hnm hq3 hl1 hw hl2
          replace hnx := Lib.hid hnx; replace cl := Lib.hid cl; replace cd := Lib.hid cd
          go_wp2_with (first
            | (go_at_call 48; (with_reducible refine (cl.out _).mono ?_); rintro e w' ⟨rfl, rfl⟩)
            | (go_at_call 50; (with_reducible refine (cd.out _).mono ?_); rintro e w' ⟨rfl, rfl⟩))
          go_roundg K
          case measure => omega
          case rel => exact ⟨q + 1, by go_num, by have := hq1.out; omega, by have := hq2.out; omega, hnx.out, rfl⟩
        · rw [Bool.not_eq_true] at hl2
          rw [hl2] at cd
          have hw : wordB c = false := by unfold wordB; rw [hl1, hl2]; rfl
          rw [if_neg (by rw [hw]; decide)] at hnm
          have hfin : nameN (l.drop p) = q - p := by omega
          clear hnm hq3 hl1 hw hl2
          replace hfin := Lib.hid hfin; replace cl := Lib.hid cl; replace cd := Lib.hid cd
          go_wp2_with (first
            | (go_at_call 48; (with_reducible refine (cl.out _).mono ?_); rintro e w' ⟨rfl, rfl⟩)
            | (go_at_call 50; (with_reducible refine (cd.out _).mono ?_); rintro e w' ⟨rfl, rfl⟩))
          refine bodyPost_ret (word_results (fn := Tryd.f49) rfl _ _ w.heap.size #[.int .i64 1, .string ((str l).extract p q), .int .i64 0, .int .i64 (p : Int)] (.int .i64 (q : Int)) rfl rfl (heap_alloc_new w _) rfl) rfl ⟨?_, by go_grown⟩
          rw [hcut.out, hfin.out]
          first
            | rw [show (p : Int) + ((q - p : Nat) : Int) = (q : Int) by have := hq1.out; omega]
            | rw [show p + (q - p) = q by have := hq1.out; omega]
          rfl

def numV (p : Nat) (o : Option (Nat × Nat)) : Value := match o with
  | some x => .tuple #[wv ⟨2, [], x.1, p⟩, .int .i64 ((p + x.2 : Nat) : Int)]
  | none => .tuple #[noW, .int .i64 (-1)]
theorem numV_some (p n q : Nat) (h : p ≤ q) : numV p (some (n, q - p)) = .tuple #[.agg #[.int .i64 2, .string ⟨#[]⟩, .int .i64 (n : Int), .int .i64 (p : Int)], .int .i64 (q : Int)] := by
  have e : p + (q - p) = q := by omega
  simp only [numV, e]
  rfl
set_option maxHeartbeats 1000000 in
theorem number_any (l : List UInt8) (p : Nat) (hp : p ≤ l.length) (hl : l.length ≤ 100000) (w : World) :
    Calls Tryd.prog 51 #[.string (str l), .int .i64 (p : Int)] w fun e w' => e = .returned (numV p (numScan (l.drop p) 0 0)) ∧ Below w.heap.size w w' := by
  obtain ⟨L, hL⟩ : ∃ L, L = l.length := ⟨_, rfl⟩
  have hp2 : (p : Int) ≤ (L : Int) := by omega
  have hl2 : L ≤ 100000 := by omega
  have hLr := Lib.hid hL
  have hp3 : p ≤ L := by omega
  replace hp := Lib.hid hp; replace hl := Lib.hid hl; replace hp2 := Lib.hid hp2; replace hl2 := Lib.hid hl2; replace hp3 := Lib.hid hp3
  have hsz : (str l).size = L := by rw [str_size, hL]
  clear hL
  go_enter Tryd.func51, Tryd.ntmps51
  go_wp2
  go_loopg [6, 7] (L - p) (fun gn s6 s7 wr => ∃ n q : Nat, s6 = .int .i64 (n : Int) ∧ s7 = .int .i64 (q : Int) ∧ p ≤ q ∧ q + gn = L ∧ n ≤ 9223372036854775807 ∧ numScan (l.drop p) 0 0 = numScan (l.drop q) n (q - p) ∧ wr = w.alloc (.cells #[.int .i64 0, .string ⟨#[]⟩, .int .i64 0, .int .i64 0] 71))
  case atStart => exact ⟨0, p, rfl, rfl, Nat.le_refl _, by have := hp3.out; omega, by omega, by rw [Nat.sub_self], rfl⟩
  case round =>
    obtain ⟨n, q, rfl, rfl, hq1, hq2, hn, hq3, rfl⟩ := hrel
    replace hn := Lib.hid hn
    by_cases hk : gk = 0
    · subst hk
      obtain rfl : q = L := by omega
      have hd : l.drop q = [] := List.drop_eq_nil_of_le (by have := hLr.out; omega)
      have hlt : ¬ ((q : Int) < (q : Int)) := by omega
      rw [hd, numScan] at hq3
      replace hq3 := Lib.hid hq3
      clear hd hq2
      replace hq1 := Lib.hid hq1
      go_wp2
      refine bodyPost_ret (word_results (fn := Tryd.f51) rfl _ _ w.heap.size #[.int .i64 2, .string ⟨#[]⟩, .int .i64 (n : Int), .int .i64 (p : Int)] (.int .i64 (q : Int)) rfl rfl (heap_alloc_new w _) rfl) rfl ⟨?_, by go_grown⟩
      rw [hq3.out, numV_some _ _ _ hq1.out]
    · obtain ⟨K, rfl⟩ : ∃ K : Nat, gk = K + 1 := ⟨gk - 1, by omega⟩
      have hqL : q < L := by omega
      obtain ⟨c, hc⟩ : ∃ c, l[q]? = some c := ⟨_, List.getElem?_eq_getElem (show q < l.length by have := hLr.out; omega)⟩
      have hd := drop_at l q c hc
      have i0 : (0 : Int) ≤ (q : Int) := by omega
      have i1 : (q : Int) < (L : Int) := by omega
      have i3 : IntKind.i64.wrap ((q : Int) + 1) = (q : Int) + 1 := by have := hl2.out; rw [IntKind.wrap_i64]; omega
      have hg := at_str l q c hc
      have cl := letter_any c
      have cd := digit_any c
      rw [hd, numScan] at hq3
      clear hk hd hc
      replace hq1 := Lib.hid hq1; replace hq2 := Lib.hid hq2; replace hqL := Lib.hid hqL
      by_cases hd1 : digB c = true
      · rw [hd1] at cd
        rw [if_pos hd1] at hq3
        have hcr : 48 ≤ c.toNat ∧ c.toNat ≤ 57 := by unfold digB at hd1; simpa using hd1
        obtain ⟨d, hdd⟩ : ∃ d, d = c.toNat - 48 := ⟨_, rfl⟩
        rw [← hdd] at hq3
        have hd9 : d ≤ 9 := by omega
        have s1 : IntKind.u8.wrap ((c.toNat : Int) - 48) = (d : Int) := by rw [IntKind.wrap_u8]; omega
        obtain ⟨Q, hQ⟩ : ∃ Q, Q = (9223372036854775807 - d) / 10 := ⟨_, rfl⟩
        rw [← hQ] at hq3
        have s2 : IntKind.i64.wrap (d : Int) = (d : Int) := by rw [IntKind.wrap_i64]; omega
        have s3 : IntKind.i64.wrap (9223372036854775807 - (d : Int)) = 9223372036854775807 - (d : Int) := by rw [IntKind.wrap_i64]; omega
        have s4 : (9223372036854775807 - (d : Int)).tdiv 10 = (Q : Int) := by rw [hQ, Int.tdiv_eq_ediv_of_nonneg (by omega)]; omega
        have s5 : (9223372036854775807 - (d : Int)) / 10 = (Q : Int) := by rw [hQ]; omega
        have s6 : (0 : Int) ≤ 9223372036854775807 - (d : Int) := by omega
        have nb : Q < n ∨ (n ≤ Q ∧ 10 * n + d ≤ 9223372036854775807) := by omega
        have s7 : (0 : Int) ≤ (d : Int) := by omega
        have s8 : (d : Int) ≤ 9 := by omega
        clear hcr hdd hd9 hd1 hQ
        rcases nb with hb | ⟨hb, hb2⟩
        · rw [if_pos hb] at hq3
          have hlt : (Q : Int) < (n : Int) := by omega
          replace hq3 := Lib.hid hq3; replace cd := Lib.hid cd
          clear hb
          go_wp2_with (go_at_call 50; (with_reducible refine (cd.out _).mono ?_); rintro e w' ⟨rfl, rfl⟩)
          refine bodyPost_ret (word_results (fn := Tryd.f51) rfl _ _ w.heap.size #[.int .i64 0, .string ⟨#[]⟩, .int .i64 0, .int .i64 0] (.int .i64 (-1)) rfl rfl (heap_alloc_new w _) rfl) rfl ⟨?_, by go_grown⟩
          rw [hq3.out]; rfl
        · rw [if_neg (by omega)] at hq3
          have hlt : ¬ (Q : Int) < (n : Int) := by omega
          obtain ⟨m, hm⟩ : ∃ m, m = 10 * n + d := ⟨_, rfl⟩
          rw [← hm] at hq3
          obtain ⟨t, ht⟩ : ∃ t, t = 10 * n := ⟨_, rfl⟩
          have m1 : IntKind.i64.wrap (10 * (n : Int)) = (t : Int) := by rw [IntKind.wrap_i64]; omega
          have m2 : IntKind.i64.wrap ((t : Int) + (d : Int)) = (m : Int) := by rw [IntKind.wrap_i64]; omega
          have m3 : m ≤ 9223372036854775807 := by omega
          have hq4 : numScan (l.drop p) 0 0 = numScan (l.drop (q + 1)) m (q + 1 - p) := by rw [hq3]; congr 1; have := hq1.out; omega
          clear hq3 hb hb2 hm ht
          replace hq4 := Lib.hid hq4; replace cd := Lib.hid cd; replace m3 := Lib.hid m3
          go_wp2_with (go_at_call 50; (with_reducible refine (cd.out _).mono ?_); rintro e w' ⟨rfl, rfl⟩)
          go_roundg K
          case measure => omega
          case rel => exact ⟨m, q + 1, rfl, by go_num, by have := hq1.out; omega, by have := hq2.out; omega, m3.out, hq4.out, rfl⟩
      · rw [Bool.not_eq_true] at hd1
        rw [hd1] at cd
        rw [if_neg (by rw [hd1]; decide)] at hq3
        by_cases hl1 : letB c = true
        · rw [hl1] at cl
          rw [if_pos hl1] at hq3
          replace hq3 := Lib.hid hq3; replace cd := Lib.hid cd; replace cl := Lib.hid cl
          clear hd1 hl1
          go_wp2_with (first
            | (go_at_call 50; (with_reducible refine (cd.out _).mono ?_); rintro e w' ⟨rfl, rfl⟩)
            | (go_at_call 48; (with_reducible refine (cl.out _).mono ?_); rintro e w' ⟨rfl, rfl⟩))
          refine bodyPost_ret (word_results (fn := Tryd.f51) rfl _ _ w.heap.size #[.int .i64 0, .string ⟨#[]⟩, .int .i64 0, .int .i64 0] (.int .i64 (-1)) rfl rfl (heap_alloc_new w _) rfl) rfl ⟨?_, by go_grown⟩
          rw [hq3.out]; rfl
        · rw [Bool.not_eq_true] at hl1
          rw [hl1] at cl
          rw [if_neg (by rw [hl1]; decide)] at hq3
          replace hq3 := Lib.hid hq3; replace cd := Lib.hid cd; replace cl := Lib.hid cl
          clear hd1 hl1
          go_wp2_with (first
            | (go_at_call 50; (with_reducible refine (cd.out _).mono ?_); rintro e w' ⟨rfl, rfl⟩)
            | (go_at_call 48; (with_reducible refine (cl.out _).mono ?_); rintro e w' ⟨rfl, rfl⟩))
          refine bodyPost_ret (word_results (fn := Tryd.f51) rfl _ _ w.heap.size #[.int .i64 2, .string ⟨#[]⟩, .int .i64 (n : Int), .int .i64 (p : Int)] (.int .i64 (q : Int)) rfl rfl (heap_alloc_new w _) rfl) rfl ⟨?_, by go_grown⟩
          rw [hq3.out, numV_some _ _ _ hq1.out]
end Go.Proofs.YtgbkpkioijbgoaaDoor.lex
