/- A text in quotes: the code's and the document's (packages lex, lodestoneref32). No condition. -/
import Derived.Test.YtgbkpkioijbgoaaDoorLex6
import Derived.Laws.OwnMore
namespace Go.Proofs.YtgbkpkioijbgoaaDoor.lex
open Go.RowKit
attribute [local go_sem ↓] Go.wp_at_zero Go.wp_at_succ
attribute [local go_sem] str_size
set_option linter.unusedVariables false
set_option maxRecDepth 100000

theorem escL_append (a b : List UInt8) : escL (a ++ b) = escL a ++ escL b := by simp [escL]
theorem escL_len (l : List UInt8) : (escL l).length ≤ 2 * l.length := by
  induction l with
  | nil => simp [escL]
  | cons c r ih => rw [escL_cons]; split <;> simp <;> omega
theorem escL_take (l : List UInt8) (i : Nat) (c : UInt8) (h : l[i]? = some c) : escL (l.take (i + 1)) = escL (l.take i) ++ (if c.toNat = 34 ∨ c.toNat = 92 then [92, c] else [c]) := by
  rw [List.take_add_one, h, escL_append]; simp [escL]
theorem BRow.lit (w : World) (base : Nat) (n : Int) (b : UInt8) (hn : n = (b.toNat : Int)) (hb : base ≤ w.heap.size) : BRow (w.alloc (.cells #[.int .u8 n] 5)) base (.slice (some ⟨w.heap.size, 0, none⟩) 1 1) [b] := by
  subst hn
  exact World.ownsRow_lit w #[.int .u8 (b.toNat : Int)] 1 hb (by decide) rfl
set_option maxHeartbeats 2000000 in
theorem quote_any (l : List UInt8) (hl : l.length ≤ 1000) (w : World) : Calls Tryd.prog 100 #[.string (str l)] w fun e w' => e = .returned (.string (str (lexText l))) ∧ Below w.heap.size w w' := by
  replace hl := Lib.hid hl
  go_enter Tryd.func100, Tryd.ntmps100
  go_wp2
  go_loopg [3, 8] l.length (fun gn s3 s8 wr => ∃ i : Nat, s8 = .int .i64 (i : Int) ∧ i + gn = l.length ∧ BRow wr w.heap.size s3 (34 :: escL (l.take i)) ∧ Below w.heap.size w wr)
  case atStart => exact ⟨0, rfl, by omega, BRow.lit w _ 34 34 rfl (Nat.le_refl _), by go_grown⟩
  case round =>
    obtain ⟨i, rfl, hi, hrow, hbel⟩ := hrel
    have hel := escL_len (l.take i)
    rw [List.length_take] at hel
    have hall : (34 :: escL (l.take i)).length < 1000000000 := by have := hl.out; simp; omega
    have hall2 : (34 :: escL (l.take i) ++ [92]).length < 1000000000 := by have := hl.out; simp; omega
    replace hall := Lib.hid hall; replace hall2 := Lib.hid hall2
    clear hel
    replace hrow := Lib.hid hrow; replace hbel := Lib.hid hbel
    by_cases hk : gk = 0
    · subst hk
      obtain rfl : i = l.length := by omega
      have hlt : ¬ ((l.length : Int) < (l.length : Int)) := by omega
      clear hi
      go_wp2_with (at_builtin; refine wpList_append_byte rfl _ _ rfl w.heap.size _ _ rfl (hrow.out.alloc _) _ _ _ rfl (newCell _ _ _ 0) ?ha hall.out ?hb ?_; (case ha => omega); (case hb => have := hbel.out.size; simp; omega); intro v2 w2 hrow2 hgrow2; have htext := hrow2.text; replace hrow2 := Lib.hid hrow2; replace hgrow2 := Lib.hid hgrow2)
      go_ret
      refine ⟨?_, (hbel.out.alloc hbel.out.size _).grown hgrow2.out (by have := hbel.out.size; simp; omega) (fun g hg => (hrow.out.lt g hg).1)⟩
      rfl
    · obtain ⟨K, rfl⟩ : ∃ K : Nat, gk = K + 1 := ⟨gk - 1, by omega⟩
      have hil : i < l.length := by omega
      obtain ⟨c, hc⟩ : ∃ c, l[i]? = some c := ⟨_, List.getElem?_eq_getElem hil⟩
      have i0 : (0 : Int) ≤ (i : Int) := by omega
      have i1 : (i : Int) < (l.length : Int) := by omega
      have i3 : IntKind.i64.wrap ((i : Int) + 1) = (i : Int) + 1 := by have := hl.out; rw [IntKind.wrap_i64]; omega
      have htk := escL_take l i c hc
      obtain ⟨m, hm⟩ : ∃ m, m = c.toNat := ⟨_, rfl⟩
      have hm256 : m < 256 := by rw [hm]; exact u8_lt c
      have hg : ∀ h : i < (str l).size, (((str l)[i]'h).toNat : Int) = (m : Int) := fun h => by rw [at_str l i c hc h, hm]
      rw [← hm] at htk
      clear hk hc hil
      replace hm256 := Lib.hid hm256; replace hm := Lib.hid hm; replace hi := Lib.hid hi
      by_cases hq : m = 34 ∨ m = 92
      · rw [if_pos hq] at htk
        replace htk := Lib.hid htk
        have t1 : ((m : Int) == 34) = true ∨ (((m : Int) == 34) = false ∧ ((m : Int) == 92) = true) := by
          rcases hq with h | h
          · exact Or.inl (by simp; omega)
          · exact Or.inr ⟨by simp; omega, by simp; omega⟩
        clear hq
        rcases t1 with t1 | ⟨t1, t2⟩
        all_goals
          go_wp2_with (first
            | (at_builtin; refine wpList_append_byte rfl _ _ rfl w.heap.size _ _ rfl (hrow.out.alloc _) _ _ _ rfl (newCell _ _ _ 0) ?ha hall.out ?hb ?_; (case ha => omega); (case hb => have := hbel.out.size; simp; omega); intro v2 w2 hrow2 hgrow2; have hbel2 := (hbel.out.alloc hbel.out.size _).grown hgrow2 (by have := hbel.out.size; simp; omega) (fun g hg => (hrow.out.lt g hg).1); replace hrow2 := Lib.hid hrow2; replace hbel2 := Lib.hid hbel2; clear hgrow2)
            | (at_builtin; refine wpList_append_byte rfl _ _ rfl w.heap.size _ _ rfl (hrow2.out.alloc _) _ _ _ rfl (newCell _ _ _ 0) ?hc hall2.out ?hd ?_; (case hc => have := hm256.out; omega); (case hd => have := hbel2.out.size; simp; omega); intro v3 w3 hrow3 hgrow3; have hbel3 := (hbel2.out.alloc hbel2.out.size _).grown hgrow3 (by have := hbel2.out.size; simp; omega) (fun g hg => (hrow2.out.lt g hg).1); replace hrow3 := Lib.hid hrow3; replace hbel3 := Lib.hid hbel3; clear hgrow3))
          have hrow4 := hrow3.out
          rw [show UInt8.ofNat ((m : Nat) : Int).toNat = c from by rw [Int.toNat_natCast, hm.out, UInt8.ofNat_toNat], show 34 :: escL (l.take i) ++ [UInt8.ofNat (92 : Int).toNat] ++ [c] = 34 :: escL (l.take (i + 1)) from by rw [htk.out]; simp] at hrow4
          replace hrow4 := Lib.hid hrow4
          go_roundg K
          case measure => omega
          case rel => exact ⟨i + 1, by go_num, by have := hi.out; omega, hrow4.out, hbel3.out⟩
      · rw [if_neg hq] at htk
        replace htk := Lib.hid htk
        have t1 : ((m : Int) == 34) = false := by simp; omega
        have t2 : ((m : Int) == 92) = false := by simp; omega
        clear hq
        go_wp2_with (at_builtin; refine wpList_append_byte rfl _ _ rfl w.heap.size _ _ rfl (hrow.out.alloc _) _ _ _ rfl (newCell _ _ _ 0) ?ha hall.out ?hb ?_; (case ha => have := hm256.out; omega); (case hb => have := hbel.out.size; simp; omega); intro v2 w2 hrow2 hgrow2; have hbel2 := (hbel.out.alloc hbel.out.size _).grown hgrow2 (by have := hbel.out.size; simp; omega) (fun g hg => (hrow.out.lt g hg).1); replace hrow2 := Lib.hid hrow2; replace hbel2 := Lib.hid hbel2; clear hgrow2)
        have hrow4 := hrow2.out
        rw [show UInt8.ofNat ((m : Nat) : Int).toNat = c from by rw [Int.toNat_natCast, hm.out, UInt8.ofNat_toNat], show 34 :: escL (l.take i) ++ [c] = 34 :: escL (l.take (i + 1)) from by rw [htk.out]; simp] at hrow4
        replace hrow4 := Lib.hid hrow4
        go_roundg K
        case measure => omega
        case rel => exact ⟨i + 1, by go_num, by have := hi.out; omega, hrow4.out, hbel2.out⟩
theorem rquote_any (l : List UInt8) (hl : l.length ≤ 1000) (w : World) : Calls Tryd.prog 79 #[.string (str l)] w fun e w' => e = .returned (.string (str (lexText l))) ∧ Below w.heap.size w w' := by
  have hcut : ∀ (i : Nat) (c : UInt8), l[i]? = some c → (str l).extract i (i + 1) = str [c] := fun i c h => by
    obtain ⟨hi, he⟩ := List.getElem?_eq_some_iff.1 h
    rw [cut_extract, show i + 1 - i = 1 by omega, List.drop_eq_getElem_cons hi, he]; rfl
  have h34 : (⟨#[34]⟩ : ByteArray) = str [34] := rfl
  have h92 : (⟨#[92]⟩ : ByteArray) = str [92] := rfl
  replace hcut := Lib.hid hcut
  replace hl := Lib.hid hl
  go_enter Tryd.func79, Tryd.ntmps79
  go_wp2
  go_loopg [3, 4] l.length (fun gn s3 s4 wr => ∃ i : Nat, s3 = .string (str (34 :: escL (l.take i))) ∧ s4 = .int .i64 (i : Int) ∧ i + gn = l.length ∧ wr = w)
  case atStart => exact ⟨0, rfl, rfl, by omega, rfl⟩
  case round =>
    obtain ⟨i, rfl, rfl, hi, rfl⟩ := hrel
    have hel := escL_len (l.take i)
    rw [List.length_take] at hel
    by_cases hk : gk = 0
    · subst hk
      obtain rfl : i = l.length := by omega
      rw [List.take_length] at hel ⊢
      have hlt : ¬ ((l.length : Int) < (l.length : Int)) := by omega
      obtain ⟨E, hE⟩ : ∃ E, E = escL l := ⟨_, rfl⟩
      have hfin : lexText l = 34 :: E ++ [34] := by rw [hE]; rfl
      rw [← hE] at hel ⊢
      have hroom : ¬ 9223372036854775807 < E.length + 1 + 1 := by have := hl.out; omega
      replace hfin := Lib.hid hfin
      clear hE hel hi
      go_wp2
      go_ret
      exact ⟨by rw [hfin.out, ← str_append]; rfl, Below.refl _ _⟩
    · obtain ⟨K, rfl⟩ : ∃ K : Nat, gk = K + 1 := ⟨gk - 1, by omega⟩
      have hil : i < l.length := by omega
      obtain ⟨c, hc⟩ : ∃ c, l[i]? = some c := ⟨_, List.getElem?_eq_getElem hil⟩
      have i0 : (0 : Int) ≤ (i : Int) := by omega
      have i1 : (i : Int) < (l.length : Int) := by omega
      have i2 : (i : Int) + 1 ≤ (l.length : Int) := by omega
      have i3 : IntKind.i64.wrap ((i : Int) + 1) = (i : Int) + 1 := by have := hl.out; rw [IntKind.wrap_i64]; omega
      have htk := escL_take l i c hc
      have hcc := hcut.out i c hc
      obtain ⟨m, hm⟩ : ∃ m, m = c.toNat := ⟨_, rfl⟩
      have hg : ∀ h : i < (str l).size, (((str l)[i]'h).toNat : Int) = (m : Int) := fun h => by rw [at_str l i c hc h, hm]
      rw [← hm] at htk
      obtain ⟨E, hE⟩ : ∃ E, E = escL (l.take i) := ⟨_, rfl⟩
      rw [← hE] at hel htk ⊢
      have room1 : ¬ 9223372036854775807 < E.length + 1 + 1 := by have := hl.out; omega
      have room2 : ¬ 9223372036854775807 < E.length + 1 + 1 + 1 := by have := hl.out; omega
      clear hk hc hil hE hel hm
      replace hi := Lib.hid hi
      by_cases hq : m = 34 ∨ m = 92
      · rw [if_pos hq] at htk
        replace htk := Lib.hid htk
        have t1 : ((m : Int) == 34) = true ∨ (((m : Int) == 34) = false ∧ ((m : Int) == 92) = true) := by
          rcases hq with h | h
          · exact Or.inl (by simp; omega)
          · exact Or.inr ⟨by simp; omega, by simp; omega⟩
        clear hq
        rcases t1 with t1 | ⟨t1, t2⟩
        all_goals
          go_wp2
          go_roundg K
          case measure => omega
          case rel => exact ⟨i + 1, by rw [htk.out] <;> first | rfl | simp [str_append], by go_num, by have := hi.out; omega, rfl⟩
      · rw [if_neg hq] at htk
        replace htk := Lib.hid htk
        have t1 : ((m : Int) == 34) = false := by simp; omega
        have t2 : ((m : Int) == 92) = false := by simp; omega
        clear hq
        go_wp2
        go_roundg K
        case measure => omega
        case rel => exact ⟨i + 1, by rw [htk.out] <;> first | rfl | simp [str_append], by go_num, by have := hi.out; omega, rfl⟩
end Go.Proofs.YtgbkpkioijbgoaaDoor.lex
