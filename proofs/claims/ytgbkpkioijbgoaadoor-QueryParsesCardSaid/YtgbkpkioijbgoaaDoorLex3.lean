/- The words of questions (package lex): texts in quotes. No condition. -/
import Derived.Test.YtgbkpkioijbgoaaDoorLex2
namespace Go.Proofs.YtgbkpkioijbgoaaDoor.lex
open Go.RowKit
attribute [local go_sem ↓] Go.wp_at_zero Go.wp_at_succ
attribute [local go_sem] str_size
set_option linter.unusedVariables false
set_option maxRecDepth 100000

def textV (p : Nat) (o : Option (List UInt8 × Nat)) : Value := match o with
  | some x => .tuple #[wv ⟨3, x.1, 0, p⟩, .int .i64 ((p + x.2 : Nat) : Int)]
  | none => .tuple #[noW, .int .i64 (-1)]
theorem textV_some (p q : Nat) (t : List UInt8) (h : p ≤ q) : textV p (some (t, q - p)) = .tuple #[.agg #[.int .i64 3, .string (str t), .int .i64 0, .int .i64 (p : Int)], .int .i64 (q : Int)] := by
  have e : p + (q - p) = q := by omega
  simp only [textV, e]
  rfl
/-- the word's box, as the function makes it -/
def Zero (w : World) (g : Nat) : Prop := w.heap[g]? = some (.cells #[.int .i64 0, .string ⟨#[]⟩, .int .i64 0, .int .i64 0] 71 (0, 0))
theorem Zero.cell {w : World} {g : Nat} (h : Zero w g) (i : Nat) : w.cell? ⟨g, i, none⟩ = (#[.int .i64 0, .string ⟨#[]⟩, .int .i64 0, .int .i64 0] : Array Value)[i]? := cell_of_row _ _ i _ _ _ h
theorem Zero.free {w : World} {g : Nat} (h : Zero w g) (i : Nat) : w.frozen? ⟨g, i, none⟩ = false := by unfold Zero at h; simp [World.frozen?, h]
theorem Zero.below {w w' : World} {g : Nat} (h : Zero w g) (b : Below w.heap.size w w') : Zero w' g := (b.block _ (block_lt h)).trans h
theorem Zero.set {w : World} {g : Nat} (h : Zero w g) (a b c d : Value) : ((((w.setCell ⟨g, 0, none⟩ a).setCell ⟨g, 1, none⟩ b).setCell ⟨g, 2, none⟩ c).setCell ⟨g, 3, none⟩ d).heap[g]? = some (.cells #[a, b, c, d] 71 (0, 0)) := by
  unfold Zero at h
  simp [World.setCell, Array.getElem?_modify, h]
theorem set4_below {w wx : World} {g : Nat} (h : Below w.heap.size w wx) (hg : w.heap.size ≤ g) (a b c d : Value) : Below w.heap.size w ((((wx.setCell ⟨g, 0, none⟩ a).setCell ⟨g, 1, none⟩ b).setCell ⟨g, 2, none⟩ c).setCell ⟨g, 3, none⟩ d) :=
  (((h.setCell (p := ⟨g, 0, none⟩) hg _).setCell (p := ⟨g, 1, none⟩) hg _).setCell (p := ⟨g, 2, none⟩) hg _).setCell (p := ⟨g, 3, none⟩) hg _
set_option maxHeartbeats 2000000 in
theorem text_any (l : List UInt8) (p : Nat) (hp : p < l.length) (hl : l.length ≤ 100000) (w : World) :
    Calls Tryd.prog 52 #[.string (str l), .int .i64 (p : Int)] w fun e w' => e = .returned (textV p (txtScan (l.drop (p + 1)) false [] 1)) ∧ Below w.heap.size w w' := by
  obtain ⟨L, hL⟩ : ∃ L, L = l.length := ⟨_, rfl⟩
  have hp2 : (p : Int) < (L : Int) := by omega
  have hl2 : L ≤ 100000 := by omega
  have hLr := Lib.hid hL
  have hp3 : p < L := by omega
  have hp4 : IntKind.i64.wrap ((p : Int) + 1) = (p : Int) + 1 := by rw [IntKind.wrap_i64]; omega
  replace hp := Lib.hid hp; replace hl := Lib.hid hl; replace hp2 := Lib.hid hp2; replace hl2 := Lib.hid hl2; replace hp3 := Lib.hid hp3
  have hsz : (str l).size = L := by rw [str_size, hL]
  clear hL
  go_enter Tryd.func52, Tryd.ntmps52
  go_wp2
  go_loopg [6, 7] (L - (p + 1)) (fun gn s6 s7 wr => ∃ (q : Nat) (acc : List UInt8), s7 = .int .i64 (q : Int) ∧ p + 1 ≤ q ∧ q + gn = L ∧ acc.length ≤ q ∧ txtScan (l.drop (p + 1)) false [] 1 = txtScan (l.drop q) false acc (q - p) ∧ Zero wr w.heap.size ∧ BRow wr (w.heap.size + 1) s6 acc ∧ Below w.heap.size w wr)
  case atStart => exact ⟨p + 1, [], by go_num, Nat.le_refl _, by have := hp3.out; omega, by simp, by rw [show p + 1 - p = 1 by omega], heap_alloc_new w _, BRow.nil _ _, by go_grown⟩
  case round =>
    obtain ⟨q, acc, rfl, hq1, hq2, hal, hq3, hz, hrow, hbel⟩ := hrel
    have hzc := hz.cell
    have hzf := hz.free
    have z0 := hzc 0; have z1 := hzc 1; have z2 := hzc 2; have z3 := hzc 3
    have f0 := hzf 0; have f1 := hzf 1; have f2 := hzf 2; have f3 := hzf 3
    clear hzc hzf
    have htext := hrow.text
    replace hz := Lib.hid hz; replace hrow := Lib.hid hrow; replace hbel := Lib.hid hbel; replace hal := Lib.hid hal
    by_cases hk : gk = 0
    · subst hk
      obtain rfl : q = L := by omega
      have hd : l.drop q = [] := List.drop_eq_nil_of_le (by have := hLr.out; omega)
      have hlt : ¬ ((q : Int) < (q : Int)) := by omega
      rw [hd, txtScan] at hq3
      replace hq3 := Lib.hid hq3
      clear hd hq2
      replace hq1 := Lib.hid hq1
      go_wp2
      refine bodyPost_ret (word_results (fn := Tryd.f52) rfl _ _ w.heap.size #[.int .i64 0, .string ⟨#[]⟩, .int .i64 0, .int .i64 0] (.int .i64 (-1)) rfl rfl (hz.out.set _ _ _ _) rfl) rfl ⟨?_, set4_below hbel.out (Nat.le_refl _) _ _ _ _⟩
      rw [hq3.out]; rfl
    · obtain ⟨K, rfl⟩ : ∃ K : Nat, gk = K + 1 := ⟨gk - 1, by omega⟩
      have hqL : q < L := by omega
      obtain ⟨c, hc⟩ : ∃ c, l[q]? = some c := ⟨_, List.getElem?_eq_getElem (show q < l.length by have := hLr.out; omega)⟩
      have hd := drop_at l q c hc
      have i0 : (0 : Int) ≤ (q : Int) := by omega
      have i1 : (q : Int) < (L : Int) := by omega
      have i3 : IntKind.i64.wrap ((q : Int) + 1) = (q : Int) + 1 := by have := hl2.out; rw [IntKind.wrap_i64]; omega
      have hall : acc.length < 1000000000 := by have := hal.out; have := hl2.out; omega
      obtain ⟨m, hm⟩ : ∃ m, m = c.toNat := ⟨_, rfl⟩
      have hm256 : m < 256 := by rw [hm]; exact u8_lt c
      have hg : ∀ h : q < (str l).size, (((str l)[q]'h).toNat : Int) = (m : Int) := fun h => by rw [at_str l q c hc h, hm]
      rw [hd, txtScan] at hq3
      rw [← hm] at hq3
      clear hk hd hc
      replace hq1 := Lib.hid hq1; replace hq2 := Lib.hid hq2; replace hqL := Lib.hid hqL; replace hall := Lib.hid hall; replace hm256 := Lib.hid hm256; replace hm := Lib.hid hm
      by_cases h34 : m = 34
      · subst h34
        rw [if_pos rfl] at hq3
        replace hq3 := Lib.hid hq3
        go_wp2
        refine bodyPost_ret (word_results (fn := Tryd.f52) rfl _ _ w.heap.size #[.int .i64 3, .string (str acc), .int .i64 0, .int .i64 (p : Int)] (.int .i64 ((q + 1 : Nat) : Int)) rfl (by first | rfl | (simp; done)) (hz.out.set _ _ _ _) rfl) rfl ⟨?_, set4_below hbel.out (Nat.le_refl _) _ _ _ _⟩
        rw [hq3.out, show q - p + 1 = (q + 1) - p by have := hq1.out; omega, textV_some _ _ _ (by have := hq1.out; omega)]
      · rw [if_neg h34] at hq3
        have n34 : ((m : Int) == 34) = false := by simp; omega
        have n34b : ¬ (m : Int) = 34 := by omega
        by_cases h32 : m < 32
        · rw [if_pos h32] at hq3
          have q32 : (m : Int) < 32 := by omega
          replace hq3 := Lib.hid hq3
          clear h32 h34
          go_wp2
          refine bodyPost_ret (word_results (fn := Tryd.f52) rfl _ _ w.heap.size #[.int .i64 0, .string ⟨#[]⟩, .int .i64 0, .int .i64 0] (.int .i64 (-1)) rfl rfl (hz.out.set _ _ _ _) rfl) rfl ⟨?_, set4_below hbel.out (Nat.le_refl _) _ _ _ _⟩
          rw [hq3.out]; rfl
        · rw [if_neg h32] at hq3
          have q32 : ¬ (m : Int) < 32 := by omega
          by_cases h92 : m = 92
          · subst h92
            rw [if_pos rfl] at hq3
            clear h34 h32 n34 n34b q32
            by_cases hend : q + 1 = L
            · have hd2 : l.drop (q + 1) = [] := List.drop_eq_nil_of_le (by have := hLr.out; omega)
              rw [hd2, txtScan] at hq3
              have heq : ((q : Int) + 1) = (L : Int) := by omega
              have heq2 : (((q : Int) + 1) == (L : Int)) = true := by simpa using heq
              have heq3 : decide (q + 1 = L) = true := by simpa using hend
              replace hq3 := Lib.hid hq3
              clear hd2 heq
              replace hend := Lib.hid hend
              go_wp2
              refine bodyPost_ret (word_results (fn := Tryd.f52) rfl _ _ w.heap.size #[.int .i64 0, .string ⟨#[]⟩, .int .i64 0, .int .i64 0] (.int .i64 (-1)) rfl rfl (hz.out.set _ _ _ _) rfl) rfl ⟨?_, set4_below hbel.out (Nat.le_refl _) _ _ _ _⟩
              rw [hq3.out]; rfl
            · obtain ⟨d, hc2⟩ : ∃ d, l[q + 1]? = some d := ⟨_, List.getElem?_eq_getElem (show q + 1 < l.length by have := hLr.out; have := hqL.out; omega)⟩
              have hd2 := drop_at l (q + 1) d hc2
              obtain ⟨md, hmd⟩ : ∃ m, m = d.toNat := ⟨_, rfl⟩
              have hmd256 : md < 256 := by rw [hmd]; exact u8_lt d
              rw [hd2, txtScan, ← hmd] at hq3
              obtain ⟨q1, hq1e⟩ : ∃ x, x = q + 1 := ⟨_, rfl⟩
              have hg2 : ∀ h : q1 < (str l).size, (((str l)[q1]'h).toNat : Int) = (md : Int) := fun h => by subst hq1e; rw [at_str l (q + 1) d hc2 h, hmd]
              have i4 : IntKind.i64.wrap ((q : Int) + 1) = (q1 : Int) := by rw [i3]; omega
              have j0 : (0 : Int) ≤ (q1 : Int) := by omega
              have j1 : (q1 : Int) < (L : Int) := by have := hqL.out; omega
              have j2 : ((q1 : Int) == (L : Int)) = false := by simp; omega
              have j3 : decide (q1 = L) = false := by simp; omega
              have j4 : IntKind.i64.wrap ((q1 : Int) + 1) = (q1 : Int) + 1 := by have := hl2.out; rw [IntKind.wrap_i64]; omega
              clear hend hd2 hc2 i3
              replace hmd := Lib.hid hmd; replace hmd256 := Lib.hid hmd256; replace hq1e := Lib.hid hq1e
              by_cases hok : md = 34 ∨ md = 92
              · rw [if_pos hok] at hq3
                have hq4 : txtScan (l.drop (p + 1)) false [] 1 = txtScan (l.drop (q1 + 1)) false (acc ++ [d]) (q1 + 1 - p) := by rw [hq3]; have := hq1.out; have := hq1e.out; congr 1 <;> (first | omega | (congr 1; omega) | skip)
                replace hq4 := Lib.hid hq4
                obtain ⟨K2, hK2⟩ : ∃ K2, K = K2 + 1 := ⟨K - 1, by have := hq2.out; have := hq1e.out; omega⟩
                replace hK2 := Lib.hid hK2
                clear hq3
                rcases hok with h | h
                · have t1 : ((md : Int) != 34) = false := by simp; omega
                  have t2 : ((md : Int) == 34) = true := by simp; omega
                  clear h
                  go_wp2_with (at_builtin; refine wpList_append_byte rfl _ _ rfl (w.heap.size + 1) _ acc rfl (hrow.out.alloc _) _ _ _ rfl (newCell _ _ _ 0) ?ha hall.out ?hb ?_; (case ha => have := hmd256.out; omega); (case hb => have := hbel.out.size; have := block_lt hz.out; simp; omega); intro v2 w2 hrow2 hgrow2)
                  have hz2 : Zero w2 w.heap.size := (hgrow2.block _ (by have := block_lt hz.out; simp; omega) (by intro e; have := (hrow.out.lt _ e.symm).1; omega)).trans (hz.out.below ((Below.refl _ _).alloc (Nat.le_refl _) _))
                  have hbel2 : Below w.heap.size w w2 := (hbel.out.alloc hbel.out.size _).grown hgrow2 (by have := hbel.out.size; simp; omega) (fun g hg => by have := (hrow.out.lt g hg).1; omega)
                  rw [show UInt8.ofNat ((md : Nat) : Int).toNat = d from by rw [Int.toNat_natCast, hmd.out, UInt8.ofNat_toNat]] at hrow2
                  replace hz2 := Lib.hid hz2; replace hbel2 := Lib.hid hbel2; replace hrow2 := Lib.hid hrow2
                  go_roundg K2
                  case measure => have := hK2.out; omega
                  case rel => exact ⟨q1 + 1, acc ++ [d], by go_num, by have := hq1.out; have := hq1e.out; omega, by have := hq2.out; have := hq1e.out; have := hK2.out; omega, by rw [List.length_append]; have := hal.out; have := hq1e.out; simp; omega, hq4.out, hz2.out, hrow2.out, hbel2.out⟩
                · have t1 : ((md : Int) != 34) = true := by simp; omega
                  have t2 : ((md : Int) == 34) = false := by simp; omega
                  have t3 : ((md : Int) != 92) = false := by simp; omega
                  have t4 : ((md : Int) == 92) = true := by simp; omega
                  clear h
                  go_wp2_with (at_builtin; refine wpList_append_byte rfl _ _ rfl (w.heap.size + 1) _ acc rfl (hrow.out.alloc _) _ _ _ rfl (newCell _ _ _ 0) ?ha hall.out ?hb ?_; (case ha => have := hmd256.out; omega); (case hb => have := hbel.out.size; have := block_lt hz.out; simp; omega); intro v2 w2 hrow2 hgrow2)
                  have hz2 : Zero w2 w.heap.size := (hgrow2.block _ (by have := block_lt hz.out; simp; omega) (by intro e; have := (hrow.out.lt _ e.symm).1; omega)).trans (hz.out.below ((Below.refl _ _).alloc (Nat.le_refl _) _))
                  have hbel2 : Below w.heap.size w w2 := (hbel.out.alloc hbel.out.size _).grown hgrow2 (by have := hbel.out.size; simp; omega) (fun g hg => by have := (hrow.out.lt g hg).1; omega)
                  rw [show UInt8.ofNat ((md : Nat) : Int).toNat = d from by rw [Int.toNat_natCast, hmd.out, UInt8.ofNat_toNat]] at hrow2
                  replace hz2 := Lib.hid hz2; replace hbel2 := Lib.hid hbel2; replace hrow2 := Lib.hid hrow2
                  go_roundg K2
                  case measure => have := hK2.out; omega
                  case rel => exact ⟨q1 + 1, acc ++ [d], by go_num, by have := hq1.out; have := hq1e.out; omega, by have := hq2.out; have := hq1e.out; have := hK2.out; omega, by rw [List.length_append]; have := hal.out; have := hq1e.out; simp; omega, hq4.out, hz2.out, hrow2.out, hbel2.out⟩
              · rw [if_neg hok] at hq3
                have t1 : ((md : Int) != 34) = true := by simp; omega
                have t2 : ((md : Int) == 34) = false := by simp; omega
                have t3 : ((md : Int) != 92) = true := by simp; omega
                have t4 : ((md : Int) == 92) = false := by simp; omega
                replace hq3 := Lib.hid hq3
                clear hok
                go_wp2
                refine bodyPost_ret (word_results (fn := Tryd.f52) rfl _ _ w.heap.size #[.int .i64 0, .string ⟨#[]⟩, .int .i64 0, .int .i64 0] (.int .i64 (-1)) rfl rfl (hz.out.set _ _ _ _) rfl) rfl ⟨?_, set4_below hbel.out (Nat.le_refl _) _ _ _ _⟩
                rw [hq3.out]; rfl
          · rw [if_neg h92] at hq3
            have n92 : ((m : Int) == 92) = false := by simp; omega
            have n92b : ¬ (m : Int) = 92 := by omega
            have hq4 : txtScan (l.drop (p + 1)) false [] 1 = txtScan (l.drop (q + 1)) false (acc ++ [c]) (q + 1 - p) := by rw [hq3]; have := hq1.out; congr 1; omega
            replace hq4 := Lib.hid hq4
            clear hq3 h92 h32 h34
            go_wp2_with (at_builtin; refine wpList_append_byte rfl _ _ rfl (w.heap.size + 1) _ acc rfl (hrow.out.alloc _) _ _ _ rfl (newCell _ _ _ 0) ?ha hall.out ?hb ?_; (case ha => have := hm256.out; omega); (case hb => have := hbel.out.size; have := block_lt hz.out; simp; omega); intro v2 w2 hrow2 hgrow2)
            have hz2 : Zero w2 w.heap.size := (hgrow2.block _ (by have := block_lt hz.out; simp; omega) (by intro e; have := (hrow.out.lt _ e.symm).1; omega)).trans (hz.out.below ((Below.refl _ _).alloc (Nat.le_refl _) _))
            have hbel2 : Below w.heap.size w w2 := (hbel.out.alloc hbel.out.size _).grown hgrow2 (by have := hbel.out.size; simp; omega) (fun g hg => by have := (hrow.out.lt g hg).1; omega)
            rw [show UInt8.ofNat ((m : Nat) : Int).toNat = c from by rw [Int.toNat_natCast, hm.out, UInt8.ofNat_toNat]] at hrow2
            replace hz2 := Lib.hid hz2; replace hbel2 := Lib.hid hbel2; replace hrow2 := Lib.hid hrow2
            go_roundg K
            case measure => omega
            case rel => exact ⟨q + 1, acc ++ [c], by go_num, by have := hq1.out; omega, by have := hq2.out; omega, by rw [List.length_append]; have := hal.out; simp; omega, hq4.out, hz2.out, hrow2.out, hbel2.out⟩
end Go.Proofs.YtgbkpkioijbgoaaDoor.lex
