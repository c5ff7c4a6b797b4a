/- The words of questions (package lex): marks. The table of marks is a premise. No other condition. -/
import Derived.Test.YtgbkpkioijbgoaaDoorLex3
import Derived.Test.YtgbkpkioijbgoaaDoorShelf
import Derived.BigRegion
import Derived.Deep.QuietTactic
import Derived.BigQuiet
import Derived.StillTailTactics
namespace Go.Proofs.YtgbkpkioijbgoaaDoor.lex
open Go.RowKit
attribute [local go_sem ↓] Go.wp_at_zero Go.wp_at_succ
attribute [local go_sem] str_size
set_option linter.unusedVariables false
set_option maxRecDepth 100000

def MarksAt (w : World) : Prop := (∀ i m, marksL[i]? = some m → w.cell? ⟨0, i, none⟩ = some (.string (str m))) ∧ 0 < w.heap.size
theorem MarksAt.keep {w w' : World} (h : MarksAt w) (b : Below w.heap.size w w') : MarksAt w' := ⟨fun i m hm => (b.cell h.2).trans (h.1 i m hm), Nat.lt_of_lt_of_le h.2 b.size⟩
theorem marks_small : ∀ m ∈ marksL, 0 < m.length ∧ m.length ≤ 2 := by decide
def markV (r : List UInt8) (p : Nat) : Value := if markN r = 0 then .tuple #[noW, .int .i64 (-1)] else .tuple #[wv ⟨4, r.take (markN r), 0, p⟩, .int .i64 ((p + markN r : Nat) : Int)]
set_option maxHeartbeats 2000000 in
theorem mark_any (l : List UInt8) (p : Nat) (hp : p < l.length) (hl : l.length ≤ 100000) (w : World) (hM : MarksAt w) :
    Calls Tryd.prog 53 #[.string (str l), .int .i64 (p : Int)] w fun e w' => e = .returned (markV (l.drop p) p) ∧ Below w.heap.size w w' := by
  obtain ⟨L, hL⟩ : ∃ L, L = l.length := ⟨_, rfl⟩
  have hp2 : (p : Int) ≤ (L : Int) := by omega
  have hp0 : (0 : Int) ≤ (p : Int) := by omega
  have hl2 : L ≤ 100000 := by omega
  have hLr := Lib.hid hL
  have hp3 : p < L := by omega
  have hcut : (str l).extract p L = str (l.drop p) := by rw [cut_extract, List.take_of_length_le (by rw [List.length_drop]; omega)]
  replace hp := Lib.hid hp; replace hl := Lib.hid hl; replace hl2 := Lib.hid hl2; replace hp3 := Lib.hid hp3
  have hsz : (str l).size = L := by rw [str_size, hL]
  clear hL
  obtain ⟨r, hr⟩ : ∃ r, r = l.drop p := ⟨_, rfl⟩
  rw [← hr] at hcut ⊢
  clear hr
  go_enter Tryd.func53, Tryd.ntmps53
  go_wp2
  go_loopg [7] 18 (fun gn s7 wr => ∃ i : Nat, s7 = .int .i64 (i : Int) ∧ i + gn = 18 ∧ markN r = markF (marksL.drop i) r ∧ Zero wr w.heap.size ∧ Below w.heap.size w wr)
  case atStart => exact ⟨0, rfl, rfl, rfl, heap_alloc_new w _, by go_grown⟩
  case round =>
    obtain ⟨i, rfl, hi, hq3, hz, hbel⟩ := hrel
    have hzc := hz.cell
    have hzf := hz.free
    have z0 := hzc 0; have z1 := hzc 1; have z2 := hzc 2; have z3 := hzc 3
    have f0 := hzf 0; have f1 := hzf 1; have f2 := hzf 2; have f3 := hzf 3
    clear hzc hzf
    by_cases hk : gk = 0
    · subst hk
      have hi2 : i = 18 := by omega
      have hv : markV r p = .tuple #[noW, .int .i64 (-1)] := by unfold markV; rw [if_pos]; rw [hq3, hi2]; rfl
      have hlt : ¬ (i : Int) < 18 := by omega
      replace hv := Lib.hid hv
      clear hq3 hi2 hi
      replace hz := Lib.hid hz; replace hbel := Lib.hid hbel
      go_wp2
      refine bodyPost_ret (word_results (fn := Tryd.f53) rfl _ _ w.heap.size #[.int .i64 0, .string ⟨#[]⟩, .int .i64 0, .int .i64 0] (.int .i64 (-1)) rfl rfl (hz.out.set _ _ _ _) rfl) rfl ⟨by rw [hv.out]; rfl, set4_below hbel.out (Nat.le_refl _) _ _ _ _⟩
    · obtain ⟨K, rfl⟩ : ∃ K : Nat, gk = K + 1 := ⟨gk - 1, by omega⟩
      have hlen : marksL.length = 18 := rfl
      obtain ⟨m, hm⟩ : ∃ m, marksL[i]? = some m := ⟨_, List.getElem?_eq_getElem (by omega)⟩
      have hms := marks_small m (List.mem_of_getElem? hm)
      have hdr : marksL.drop i = m :: marksL.drop (i + 1) := by
        obtain ⟨h1, h2⟩ := List.getElem?_eq_some_iff.1 hm
        rw [List.drop_eq_getElem_cons h1, h2]
      rw [hdr] at hq3
      have hMw := hM.keep hbel
      have hcell := hMw.1 i m hm
      have hne := hMw.2
      have i0 : (0 : Int) ≤ (i : Int) := by omega
      have i1 : (i : Int) < 18 := by omega
      have i3 : IntKind.i64.wrap ((i : Int) + 1) = (i : Int) + 1 := by rw [IntKind.wrap_i64]; omega
      have hpre := fun w' => Go.Proofs.Tryd.strings_HasPrefix (str r) (str m) w'
      have hpd : Lib.hasPrefix (str r).data.toList (str m).data.toList = m.isPrefixOf r := rfl
      rw [hpd] at hpre
      obtain ⟨M, hM2⟩ : ∃ M, M = m.length := ⟨_, rfl⟩
      have hMs : (str m).size = M := by rw [str_size, hM2]
      have i4 : IntKind.i64.wrap ((p : Int) + (M : Int)) = ((p + M : Nat) : Int) := by have := hl2.out; have := hp3.out; rw [IntKind.wrap_i64]; omega
      replace hM2 := Lib.hid hM2; replace hz := Lib.hid hz; replace hbel := Lib.hid hbel
      clear hm hdr hlen hk
      cases hb : m.isPrefixOf r
      · rw [markF_no _ _ _ hb] at hq3
        rw [hb] at hpre
        clear hms hb
        replace hpre := Lib.hid hpre; replace hMw := Lib.hid hMw; replace hq3 := Lib.hid hq3
        go_wp2
        go_quiet ((go_at_call 86; exact Calls.quiet_of_same (hpre.out _)))
        go_wp2
        have hz3 : Zero (wr.drewN nq) w.heap.size := hz.out
        have hb3 : Below w.heap.size w (wr.drewN nq) := belowDrewN hbel.out nq
        replace hz3 := Lib.hid hz3; replace hb3 := Lib.hid hb3
        go_roundg K
        case measure => omega
        case rel => exact ⟨i + 1, by go_num, by omega, hq3.out, hz3.out, hb3.out⟩
      · have hv : markV r p = .tuple #[.agg #[.int .i64 4, .string (str m), .int .i64 0, .int .i64 (p : Int)], .int .i64 ((p + M : Nat) : Int)] := by
          rw [markF_yes _ _ _ hb] at hq3
          unfold markV
          rw [if_neg (by omega), hq3, (prefix_len m r hb).2, hM2.out]
          rfl
        rw [hb] at hpre
        replace hv := Lib.hid hv
        clear hq3 hms hb
        replace hpre := Lib.hid hpre; replace hMw := Lib.hid hMw
        go_wp2
        go_quiet ((go_at_call 86; exact Calls.quiet_of_same (hpre.out _)))
        go_wp2
        have hz3 : Zero (wr.drewN nq) w.heap.size := hz.out
        have hb3 : Below w.heap.size w (wr.drewN nq) := belowDrewN hbel.out nq
        have y0 : (wr.drewN nq).cell? ⟨0, i, none⟩ = some (.string (str m)) := hcell
        generalize wr.drewN nq = wd at *
        have hzc := hz3.cell
        have hzf := hz3.free
        have y1 := hzc 0; have y2 := hzc 1; have y3 := hzc 2; have y4 := hzc 3
        have g0 := hzf 0; have g1 := hzf 1; have g2 := hzf 2; have g3 := hzf 3
        clear hzc hzf z0 z1 z2 z3 f0 f1 f2 f3
        replace hz3 := Lib.hid hz3; replace hb3 := Lib.hid hb3
        have n0 : ¬ w.heap.size = 0 := by have := hM.2; omega
        have n1 : ¬ 0 = w.heap.size := by have := hM.2; omega
        go_region_with fail
        all_goals (go_wp2_with fail)
        all_goals
          refine bodyPost_ret (word_results (fn := Tryd.f53) rfl _ _ w.heap.size #[.int .i64 4, .string (str m), .int .i64 0, .int .i64 (p : Int)] (.int .i64 ((p + M : Nat) : Int)) rfl (by first | rfl | (simp; done)) (hz3.out.set _ _ _ _) rfl) rfl ⟨by rw [hv.out], set4_below hb3.out.drew (Nat.le_refl _) _ _ _ _⟩
end Go.Proofs.YtgbkpkioijbgoaaDoor.lex
