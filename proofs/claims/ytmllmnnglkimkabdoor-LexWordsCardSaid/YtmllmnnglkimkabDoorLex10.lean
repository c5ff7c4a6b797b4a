/- The words of questions, as the document has them (package lodestoneref32): texts in quotes. No condition. -/
import Derived.Test.YtmllmnnglkimkabDoorLex9
namespace Go.Proofs.YtmllmnnglkimkabDoor.lex
open Go.RowKit
attribute [local go_sem ↓] Go.wp_at_zero Go.wp_at_succ
attribute [local go_sem] str_size
set_option linter.unusedVariables false
set_option maxRecDepth 100000

def rtextV (o : Option (List UInt8 × Nat)) : Value := match o with
  | some x => .tuple #[.string (str x.1), .int .i64 (x.2 : Int)]
  | none => .tuple #[.string ⟨#[]⟩, .int .i64 0]
set_option maxHeartbeats 2000000 in
theorem rtext_any (l : List UInt8) (p : Nat) (hp : p < l.length) (hl : l.length ≤ 100000) (w : World) :
    Calls Tryd.prog 51 #[.string (str l), .int .i64 (p : Int)] w fun e w' => e = .returned (rtextV (txtScan (l.drop (p + 1)) false [] 1)) ∧ w = w' := by
  have hcut : ∀ (i : Nat) (c : UInt8), l[i]? = some c → (str l).extract i (i + 1) = str [c] := fun i c h => by
    obtain ⟨hi, he⟩ := List.getElem?_eq_some_iff.1 h
    rw [cut_extract, show i + 1 - i = 1 by omega, List.drop_eq_getElem_cons hi, he]; rfl
  obtain ⟨L, hL⟩ : ∃ L, L = l.length := ⟨_, rfl⟩
  have hp2 : (p : Int) < (L : Int) := by omega
  have hl2 : L ≤ 100000 := by omega
  have hLr := Lib.hid hL
  have hp3 : p < L := by omega
  have hp4 : IntKind.i64.wrap ((p : Int) + 1) = (p : Int) + 1 := by rw [IntKind.wrap_i64]; omega
  replace hp := Lib.hid hp; replace hl := Lib.hid hl; replace hp2 := Lib.hid hp2; replace hl2 := Lib.hid hl2; replace hp3 := Lib.hid hp3; replace hcut := Lib.hid hcut
  have hsz : (str l).size = L := by rw [str_size, hL]
  clear hL
  go_enter Tryd.func51, Tryd.ntmps51
  go_wp2
  go_loopg [6, 7] (L - (p + 1)) (fun gn s6 s7 wr => ∃ (q : Nat) (acc : List UInt8), s6 = .string (str acc) ∧ s7 = .int .i64 (q : Int) ∧ p + 1 ≤ q ∧ q + gn = L ∧ acc.length ≤ q ∧ txtScan (l.drop (p + 1)) false [] 1 = txtScan (l.drop q) false acc (q - p) ∧ wr = w)
  case atStart => exact ⟨p + 1, [], rfl, by go_num, Nat.le_refl _, by have := hp3.out; omega, by simp, by rw [show p + 1 - p = 1 by omega], rfl⟩
  case round =>
    obtain ⟨q, acc, rfl, rfl, hq1, hq2, hal, hq3, rfl⟩ := hrel
    replace hal := Lib.hid hal
    by_cases hk : gk = 0
    · subst hk
      obtain rfl : q = L := by omega
      have hd : l.drop q = [] := List.drop_eq_nil_of_le (by have := hLr.out; omega)
      have hlt : ¬ ((q : Int) < (q : Int)) := by omega
      rw [hd, txtScan] at hq3
      replace hq3 := Lib.hid hq3
      clear hd hq2
      replace hq1 := Lib.hid hq1
      go_wp2
      go_ret2
      exact ⟨by rw [hq3.out]; rfl, rfl⟩
    · obtain ⟨K, rfl⟩ : ∃ K : Nat, gk = K + 1 := ⟨gk - 1, by omega⟩
      have hqL : q < L := by omega
      obtain ⟨c, hc⟩ : ∃ c, l[q]? = some c := ⟨_, List.getElem?_eq_getElem (show q < l.length by have := hLr.out; omega)⟩
      have hd := drop_at l q c hc
      have hcc := hcut.out q c hc
      have i0 : (0 : Int) ≤ (q : Int) := by omega
      have i1 : (q : Int) < (L : Int) := by omega
      have i2 : (q : Int) + 1 ≤ (L : Int) := by omega
      have i3 : IntKind.i64.wrap ((q : Int) + 1) = (q : Int) + 1 := by have := hl2.out; rw [IntKind.wrap_i64]; omega
      have i6 : IntKind.i64.wrap ((q : Int) + 1 - (p : Int)) = ((q + 1 - p : Nat) : Int) := by have := hl2.out; rw [IntKind.wrap_i64]; omega
      have room1 : ¬ 9223372036854775807 < acc.length + 1 := by have := hal.out; have := hl2.out; omega
      obtain ⟨m, hm⟩ : ∃ m, m = c.toNat := ⟨_, rfl⟩
      have hg : ∀ h : q < (str l).size, (((str l)[q]'h).toNat : Int) = (m : Int) := fun h => by rw [at_str l q c hc h, hm]
      rw [hd, txtScan] at hq3
      rw [← hm] at hq3
      clear hk hd hc
      replace hq1 := Lib.hid hq1; replace hq2 := Lib.hid hq2; replace hqL := Lib.hid hqL; replace hm := Lib.hid hm
      by_cases h34 : m = 34
      · subst h34
        rw [if_pos rfl] at hq3
        replace hq3 := Lib.hid hq3
        clear hcc
        go_wp2
        go_ret2
        exact ⟨by rw [hq3.out, show q - p + 1 = q + 1 - p by have := hq1.out; omega]; rfl, rfl⟩
      · rw [if_neg h34] at hq3
        replace i6 := Lib.hid i6
        have n34 : ((m : Int) == 34) = false := by simp; omega
        have n34b : ¬ (m : Int) = 34 := by omega
        by_cases h32 : m < 32
        · rw [if_pos h32] at hq3
          have q32 : (m : Int) < 32 := by omega
          replace hq3 := Lib.hid hq3
          clear h32 h34 hcc
          go_wp2
          go_ret2
          exact ⟨by rw [hq3.out]; rfl, rfl⟩
        · rw [if_neg h32] at hq3
          have q32 : ¬ (m : Int) < 32 := by omega
          by_cases h92 : m = 92
          · subst h92
            rw [if_pos rfl] at hq3
            clear h34 h32 n34 n34b q32 hcc
            by_cases hend : q + 1 = L
            · have hd2 : l.drop (q + 1) = [] := List.drop_eq_nil_of_le (by have := hLr.out; omega)
              rw [hd2, txtScan] at hq3
              have heq : ((q : Int) + 1) = (L : Int) := by omega
              have heq2 : (((q : Int) + 1) == (L : Int)) = true := by simpa using heq
              have heq3 : decide (q + 1 = L) = true := by simpa using hend
              replace hq3 := Lib.hid hq3
              clear hd2 heq
              replace hend := Lib.hid hend
              go_wp2
              go_ret2
              exact ⟨by rw [hq3.out]; rfl, rfl⟩
            · obtain ⟨d, hc2⟩ : ∃ d, l[q + 1]? = some d := ⟨_, List.getElem?_eq_getElem (show q + 1 < l.length by have := hLr.out; have := hqL.out; omega)⟩
              have hd2 := drop_at l (q + 1) d hc2
              obtain ⟨md, hmd⟩ : ∃ m, m = d.toNat := ⟨_, rfl⟩
              rw [hd2, txtScan, ← hmd] at hq3
              obtain ⟨q1, hq1e⟩ : ∃ x, x = q + 1 := ⟨_, rfl⟩
              have hcc2 : (str l).extract q1 (q1 + 1) = str [d] := by subst hq1e; exact hcut.out (q + 1) d hc2
              have hg2 : ∀ h : q1 < (str l).size, (((str l)[q1]'h).toNat : Int) = (md : Int) := fun h => by subst hq1e; rw [at_str l (q + 1) d hc2 h, hmd]
              have i4 : IntKind.i64.wrap ((q : Int) + 1) = (q1 : Int) := by rw [i3]; omega
              have j0 : (0 : Int) ≤ (q1 : Int) := by omega
              have j1 : (q1 : Int) < (L : Int) := by have := hqL.out; omega
              have j2 : ((q1 : Int) == (L : Int)) = false := by simp; omega
              have j3 : decide (q1 = L) = false := by simp; omega
              have j4 : IntKind.i64.wrap ((q1 : Int) + 1) = (q1 : Int) + 1 := by have := hl2.out; rw [IntKind.wrap_i64]; omega
              have j5 : (q1 : Int) + 1 ≤ (L : Int) := by have := hqL.out; omega
              clear hend hd2 hc2 i3 i2
              replace hmd := Lib.hid hmd; replace hq1e := Lib.hid hq1e
              by_cases hok : md = 34 ∨ md = 92
              · rw [if_pos hok] at hq3
                have hq4 : txtScan (l.drop (p + 1)) false [] 1 = txtScan (l.drop (q1 + 1)) false (acc ++ [d]) (q1 + 1 - p) := by rw [hq3]; have := hq1.out; have := hq1e.out; congr 1 <;> (first | omega | (congr 1; omega) | skip)
                replace hq4 := Lib.hid hq4
                obtain ⟨K2, hK2⟩ : ∃ K2, K = K2 + 1 := ⟨K - 1, by have := hq2.out; have := hq1e.out; omega⟩
                replace hK2 := Lib.hid hK2
                clear hq3
                rcases hok with h | h
                · have t1 : ((md : Int) != 34) = false := by simp; omega
                  have t2 : ((md : Int) == 34) = true := by simp; omega
                  clear h
                  go_wp2
                  go_roundg K2
                  case measure => have := hK2.out; omega
                  case rel => exact ⟨q1 + 1, acc ++ [d], by first | rfl | rw [str_append] | simp [str_append], by go_num, by have := hq1.out; have := hq1e.out; omega, by have := hq2.out; have := hq1e.out; have := hK2.out; omega, by rw [List.length_append]; have := hal.out; have := hq1e.out; simp; omega, hq4.out, rfl⟩
                · have t1 : ((md : Int) != 34) = true := by simp; omega
                  have t2 : ((md : Int) == 34) = false := by simp; omega
                  have t3 : ((md : Int) != 92) = false := by simp; omega
                  have t4 : ((md : Int) == 92) = true := by simp; omega
                  clear h
                  go_wp2
                  go_roundg K2
                  case measure => have := hK2.out; omega
                  case rel => exact ⟨q1 + 1, acc ++ [d], by first | rfl | rw [str_append] | simp [str_append], by go_num, by have := hq1.out; have := hq1e.out; omega, by have := hq2.out; have := hq1e.out; have := hK2.out; omega, by rw [List.length_append]; have := hal.out; have := hq1e.out; simp; omega, hq4.out, rfl⟩
              · rw [if_neg hok] at hq3
                have t1 : ((md : Int) != 34) = true := by simp; omega
                have t2 : ((md : Int) == 34) = false := by simp; omega
                have t3 : ((md : Int) != 92) = true := by simp; omega
                have t4 : ((md : Int) == 92) = false := by simp; omega
                replace hq3 := Lib.hid hq3
                clear hok
                go_wp2
                go_ret2
                exact ⟨by rw [hq3.out]; rfl, rfl⟩
          · rw [if_neg h92] at hq3
            have n92 : ((m : Int) == 92) = false := by simp; omega
            have n92b : ¬ (m : Int) = 92 := by omega
            have hq4 : txtScan (l.drop (p + 1)) false [] 1 = txtScan (l.drop (q + 1)) false (acc ++ [c]) (q + 1 - p) := by rw [hq3]; have := hq1.out; congr 1; omega
            replace hq4 := Lib.hid hq4
            clear hq3 h92 h32 h34
            go_wp2
            go_roundg K
            case measure => omega
            case rel => exact ⟨q + 1, acc ++ [c], by first | rfl | rw [str_append] | simp [str_append], by go_num, by have := hq1.out; omega, by have := hq2.out; omega, by rw [List.length_append]; have := hal.out; simp; omega, hq4.out, rfl⟩
end Go.Proofs.YtmllmnnglkimkabDoor.lex
