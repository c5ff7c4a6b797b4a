/- A text in quotes: the code's and the document's (packages lex, lodestoneref32). No condition. A text in quotes is one word that says it, if it has no byte below 32: the law LexTexts. The table of marks is a premise. No other condition. The words of questions, as the document has them (package lodestoneref32): letters, digits, names, numbers. No condition. The words of questions, as the document has them (package lodestoneref32): texts in quotes. No condition. The words of questions, as the document has them (package lodestoneref32): marks. No condition. -/
import Derived.Test.YtgbkpkioijbgoaaDoorLex6
import Derived.Laws.OwnMore
import Derived.Laws.StructEq
import Derived.BigRegion
section
namespace Go.Proofs.YtgbkpkioijbgoaaDoor.lex
open Go.RowKit
attribute [local go_sem ↓] Go.wp_at_zero Go.wp_at_succ
attribute [local go_sem] str_size
set_option linter.unusedVariables false
set_option maxRecDepth 100000

theorem escL_append (a b : List UInt8) : escL (a ++ b) = escL a ++ escL b := by simp [escL]
theorem escL_len (l : List UInt8) : (escL l).length ≤ 2 * l.length := by
  induction l with
  | nil => simp [escL]
  | cons c r ih => rw [escL_cons]; split <;> simp <;> omega
theorem escL_take (l : List UInt8) (i : Nat) (c : UInt8) (h : l[i]? = some c) : escL (l.take (i + 1)) = escL (l.take i) ++ (if c.toNat = 34 ∨ c.toNat = 92 then [92, c] else [c]) := by
  rw [List.take_add_one, h, escL_append]; simp [escL]
theorem BRow.lit (w : World) (base : Nat) (n : Int) (b : UInt8) (hn : n = (b.toNat : Int)) (hb : base ≤ w.heap.size) : BRow (w.alloc (.cells #[.int .u8 n] 5)) base (.slice (some ⟨w.heap.size, 0, none⟩) 1 1) [b] := by
  subst hn
  exact World.ownsRow_lit w #[.int .u8 (b.toNat : Int)] 1 hb (by decide) rfl
set_option maxHeartbeats 2000000 in
theorem quote_any (l : List UInt8) (hl : l.length ≤ 1000) (w : World) : Calls Tryd.prog 100 #[.string (str l)] w fun e w' => e = .returned (.string (str (lexText l))) ∧ Below w.heap.size w w' := by
  replace hl := Lib.hid hl
  go_enter Tryd.func100, Tryd.ntmps100
  go_wp2
  go_loopg [3, 8] l.length (fun gn s3 s8 wr => ∃ i : Nat, s8 = .int .i64 (i : Int) ∧ i + gn = l.length ∧ BRow wr w.heap.size s3 (34 :: escL (l.take i)) ∧ Below w.heap.size w wr)
  case atStart => exact ⟨0, rfl, by omega, BRow.lit w _ 34 34 rfl (Nat.le_refl _), by go_grown⟩
  case round =>
    obtain ⟨i, rfl, hi, hrow, hbel⟩ := hrel
    have hel := escL_len (l.take i)
    rw [List.length_take] at hel
    have hall : (34 :: escL (l.take i)).length < 1000000000 := by have := hl.out; simp; omega
    have hall2 : (34 :: escL (l.take i) ++ [92]).length < 1000000000 := by have := hl.out; simp; omega
    replace hall := Lib.hid hall; replace hall2 := Lib.hid hall2
    clear hel
    replace hrow := Lib.hid hrow; replace hbel := Lib.hid hbel
    by_cases hk : gk = 0
    · subst hk
      obtain rfl : i = l.length := by omega
      have hlt : ¬ ((l.length : Int) < (l.length : Int)) := by omega
      clear hi
      go_wp2_with (at_builtin; refine wpList_append_byte rfl _ _ rfl w.heap.size _ _ rfl (hrow.out.alloc _) _ _ _ rfl (newCell _ _ _ 0) ?ha hall.out ?hb ?_; (case ha => omega); (case hb => have := hbel.out.size; simp; omega); intro v2 w2 hrow2 hgrow2; have htext := hrow2.text; replace hrow2 := Lib.hid hrow2; replace hgrow2 := Lib.hid hgrow2)
      go_ret
      refine ⟨?_, (hbel.out.alloc hbel.out.size _).grown hgrow2.out (by have := hbel.out.size; simp; omega) (fun g hg => (hrow.out.lt g hg).1)⟩
      rfl
    · obtain ⟨K, rfl⟩ : ∃ K : Nat, gk = K + 1 := ⟨gk - 1, by omega⟩
      have hil : i < l.length := by omega
      obtain ⟨c, hc⟩ : ∃ c, l[i]? = some c := ⟨_, List.getElem?_eq_getElem hil⟩
      have i0 : (0 : Int) ≤ (i : Int) := by omega
      have i1 : (i : Int) < (l.length : Int) := by omega
      have i3 : IntKind.i64.wrap ((i : Int) + 1) = (i : Int) + 1 := by have := hl.out; rw [IntKind.wrap_i64]; omega
      have htk := escL_take l i c hc
      obtain ⟨m, hm⟩ : ∃ m, m = c.toNat := ⟨_, rfl⟩
      have hm256 : m < 256 := by rw [hm]; exact u8_lt c
      have hg : ∀ h : i < (str l).size, (((str l)[i]'h).toNat : Int) = (m : Int) := fun h => by rw [at_str l i c hc h, hm]
      rw [← hm] at htk
      clear hk hc hil
      replace hm256 := Lib.hid hm256; replace hm := Lib.hid hm; replace hi := Lib.hid hi
      by_cases hq : m = 34 ∨ m = 92
      · rw [if_pos hq] at htk
        replace htk := Lib.hid htk
        have t1 : ((m : Int) == 34) = true ∨ (((m : Int) == 34) = false ∧ ((m : Int) == 92) = true) := by
          rcases hq with h | h
          · exact Or.inl (by simp; omega)
          · exact Or.inr ⟨by simp; omega, by simp; omega⟩
        clear hq
        rcases t1 with t1 | ⟨t1, t2⟩
        all_goals
          go_wp2_with (first
            | (at_builtin; refine wpList_append_byte rfl _ _ rfl w.heap.size _ _ rfl (hrow.out.alloc _) _ _ _ rfl (newCell _ _ _ 0) ?ha hall.out ?hb ?_; (case ha => omega); (case hb => have := hbel.out.size; simp; omega); intro v2 w2 hrow2 hgrow2; have hbel2 := (hbel.out.alloc hbel.out.size _).grown hgrow2 (by have := hbel.out.size; simp; omega) (fun g hg => (hrow.out.lt g hg).1); replace hrow2 := Lib.hid hrow2; replace hbel2 := Lib.hid hbel2; clear hgrow2)
            | (at_builtin; refine wpList_append_byte rfl _ _ rfl w.heap.size _ _ rfl (hrow2.out.alloc _) _ _ _ rfl (newCell _ _ _ 0) ?hc hall2.out ?hd ?_; (case hc => have := hm256.out; omega); (case hd => have := hbel2.out.size; simp; omega); intro v3 w3 hrow3 hgrow3; have hbel3 := (hbel2.out.alloc hbel2.out.size _).grown hgrow3 (by have := hbel2.out.size; simp; omega) (fun g hg => (hrow2.out.lt g hg).1); replace hrow3 := Lib.hid hrow3; replace hbel3 := Lib.hid hbel3; clear hgrow3))
          have hrow4 := hrow3.out
          rw [show UInt8.ofNat ((m : Nat) : Int).toNat = c from by rw [Int.toNat_natCast, hm.out, UInt8.ofNat_toNat], show 34 :: escL (l.take i) ++ [UInt8.ofNat (92 : Int).toNat] ++ [c] = 34 :: escL (l.take (i + 1)) from by rw [htk.out]; simp] at hrow4
          replace hrow4 := Lib.hid hrow4
          go_roundg K
          case measure => omega
          case rel => exact ⟨i + 1, by go_num, by have := hi.out; omega, hrow4.out, hbel3.out⟩
      · rw [if_neg hq] at htk
        replace htk := Lib.hid htk
        have t1 : ((m : Int) == 34) = false := by simp; omega
        have t2 : ((m : Int) == 92) = false := by simp; omega
        clear hq
        go_wp2_with (at_builtin; refine wpList_append_byte rfl _ _ rfl w.heap.size _ _ rfl (hrow.out.alloc _) _ _ _ rfl (newCell _ _ _ 0) ?ha hall.out ?hb ?_; (case ha => have := hm256.out; omega); (case hb => have := hbel.out.size; simp; omega); intro v2 w2 hrow2 hgrow2; have hbel2 := (hbel.out.alloc hbel.out.size _).grown hgrow2 (by have := hbel.out.size; simp; omega) (fun g hg => (hrow.out.lt g hg).1); replace hrow2 := Lib.hid hrow2; replace hbel2 := Lib.hid hbel2; clear hgrow2)
        have hrow4 := hrow2.out
        rw [show UInt8.ofNat ((m : Nat) : Int).toNat = c from by rw [Int.toNat_natCast, hm.out, UInt8.ofNat_toNat], show 34 :: escL (l.take i) ++ [c] = 34 :: escL (l.take (i + 1)) from by rw [htk.out]; simp] at hrow4
        replace hrow4 := Lib.hid hrow4
        go_roundg K
        case measure => omega
        case rel => exact ⟨i + 1, by go_num, by have := hi.out; omega, hrow4.out, hbel2.out⟩
theorem rquote_any (l : List UInt8) (hl : l.length ≤ 1000) (w : World) : Calls Tryd.prog 79 #[.string (str l)] w fun e w' => e = .returned (.string (str (lexText l))) ∧ Below w.heap.size w w' := by
  have hcut : ∀ (i : Nat) (c : UInt8), l[i]? = some c → (str l).extract i (i + 1) = str [c] := fun i c h => by
    obtain ⟨hi, he⟩ := List.getElem?_eq_some_iff.1 h
    rw [cut_extract, show i + 1 - i = 1 by omega, List.drop_eq_getElem_cons hi, he]; rfl
  have h34 : (⟨#[34]⟩ : ByteArray) = str [34] := rfl
  have h92 : (⟨#[92]⟩ : ByteArray) = str [92] := rfl
  replace hcut := Lib.hid hcut
  replace hl := Lib.hid hl
  go_enter Tryd.func79, Tryd.ntmps79
  go_wp2
  go_loopg [3, 4] l.length (fun gn s3 s4 wr => ∃ i : Nat, s3 = .string (str (34 :: escL (l.take i))) ∧ s4 = .int .i64 (i : Int) ∧ i + gn = l.length ∧ wr = w)
  case atStart => exact ⟨0, rfl, rfl, by omega, rfl⟩
  case round =>
    obtain ⟨i, rfl, rfl, hi, rfl⟩ := hrel
    have hel := escL_len (l.take i)
    rw [List.length_take] at hel
    by_cases hk : gk = 0
    · subst hk
      obtain rfl : i = l.length := by omega
      rw [List.take_length] at hel ⊢
      have hlt : ¬ ((l.length : Int) < (l.length : Int)) := by omega
      obtain ⟨E, hE⟩ : ∃ E, E = escL l := ⟨_, rfl⟩
      have hfin : lexText l = 34 :: E ++ [34] := by rw [hE]; rfl
      rw [← hE] at hel ⊢
      have hroom : ¬ 9223372036854775807 < E.length + 1 + 1 := by have := hl.out; omega
      replace hfin := Lib.hid hfin
      clear hE hel hi
      go_wp2
      go_ret
      exact ⟨by rw [hfin.out, ← str_append]; rfl, Below.refl _ _⟩
    · obtain ⟨K, rfl⟩ : ∃ K : Nat, gk = K + 1 := ⟨gk - 1, by omega⟩
      have hil : i < l.length := by omega
      obtain ⟨c, hc⟩ : ∃ c, l[i]? = some c := ⟨_, List.getElem?_eq_getElem hil⟩
      have i0 : (0 : Int) ≤ (i : Int) := by omega
      have i1 : (i : Int) < (l.length : Int) := by omega
      have i2 : (i : Int) + 1 ≤ (l.length : Int) := by omega
      have i3 : IntKind.i64.wrap ((i : Int) + 1) = (i : Int) + 1 := by have := hl.out; rw [IntKind.wrap_i64]; omega
      have htk := escL_take l i c hc
      have hcc := hcut.out i c hc
      obtain ⟨m, hm⟩ : ∃ m, m = c.toNat := ⟨_, rfl⟩
      have hg : ∀ h : i < (str l).size, (((str l)[i]'h).toNat : Int) = (m : Int) := fun h => by rw [at_str l i c hc h, hm]
      rw [← hm] at htk
      obtain ⟨E, hE⟩ : ∃ E, E = escL (l.take i) := ⟨_, rfl⟩
      rw [← hE] at hel htk ⊢
      have room1 : ¬ 9223372036854775807 < E.length + 1 + 1 := by have := hl.out; omega
      have room2 : ¬ 9223372036854775807 < E.length + 1 + 1 + 1 := by have := hl.out; omega
      clear hk hc hil hE hel hm
      replace hi := Lib.hid hi
      by_cases hq : m = 34 ∨ m = 92
      · rw [if_pos hq] at htk
        replace htk := Lib.hid htk
        have t1 : ((m : Int) == 34) = true ∨ (((m : Int) == 34) = false ∧ ((m : Int) == 92) = true) := by
          rcases hq with h | h
          · exact Or.inl (by simp; omega)
          · exact Or.inr ⟨by simp; omega, by simp; omega⟩
        clear hq
        rcases t1 with t1 | ⟨t1, t2⟩
        all_goals
          go_wp2
          go_roundg K
          case measure => omega
          case rel => exact ⟨i + 1, by rw [htk.out] <;> first | rfl | simp [str_append], by go_num, by have := hi.out; omega, rfl⟩
      · rw [if_neg hq] at htk
        replace htk := Lib.hid htk
        have t1 : ((m : Int) == 34) = false := by simp; omega
        have t2 : ((m : Int) == 92) = false := by simp; omega
        clear hq
        go_wp2
        go_roundg K
        case measure => omega
        case rel => exact ⟨i + 1, by rw [htk.out] <;> first | rfl | simp [str_append], by go_num, by have := hi.out; omega, rfl⟩
end Go.Proofs.YtgbkpkioijbgoaaDoor.lex
end
section
namespace Go.Proofs.YtgbkpkioijbgoaaDoor.lex
open Go.RowKit
attribute [local go_sem ↓] Go.wp_at_zero Go.wp_at_succ
attribute [local go_sem] str_size
set_option linter.unusedVariables false
set_option maxRecDepth 100000

theorem cut_min (s : ByteArray) (k : Nat) : s.extract 0 (min (s.size : Int) k).toNat = str (s.data.toList.take k) := by
  by_cases h : s.size ≤ k
  · rw [show (min (s.size : Int) (k : Int)).toNat = s.size by omega]
    exact cut_whole s k h
  · rw [show (min (s.size : Int) (k : Int)).toNat = k by omega]
    exact cut_text s k
def plainB (l : List UInt8) : Bool := l.all fun c => decide (32 ≤ c.toNat)
theorem plain_take (l : List UInt8) (i : Nat) (c : UInt8) (h : l[i]? = some c) : plainB (l.take (i + 1)) = (plainB (l.take i) && decide (32 ≤ c.toNat)) := by
  unfold plainB; rw [List.take_add_one, h]; simp
theorem plain_yes (l : List UInt8) (h : plainB l = true) : ∀ c ∈ l, 32 ≤ c.toNat := by
  intro c hc; unfold plainB at h; simpa using List.all_eq_true.1 h c hc
theorem plain_no (l : List UInt8) (h : plainB l = false) : ∃ c ∈ l, c.toNat < 32 := by
  unfold plainB at h
  obtain ⟨c, hc, h2⟩ := List.all_eq_false.1 h
  exact ⟨c, hc, by simpa using h2⟩
theorem lexText_len (l : List UInt8) : (lexText l).length ≤ 2 * l.length + 2 := by
  have := escL_len l
  simp [lexText]; omega
def TwoAt (w : World) (b : Nat) (T : ByteArray) (z : Nat) : Prop := b < w.heap.size ∧ w.cell? ⟨b, 0, none⟩ = some (.int .i64 3) ∧ w.cell? ⟨b, 1, none⟩ = some (.string T) ∧ w.cell? ⟨b, 2, none⟩ = some (.int .i64 0) ∧ w.cell? ⟨b, 3, none⟩ = some (.int .i64 0) ∧ w.cell? ⟨b, 7, none⟩ = some (.int .i64 (z : Int))
theorem TwoAt.below {w w' : World} {b : Nat} {T : ByteArray} {z : Nat} (h : TwoAt w b T z) (k : Below w.heap.size w w') : TwoAt w' b T z :=
  ⟨Nat.lt_of_lt_of_le h.1 k.size, (k.cell h.1).trans h.2.1, (k.cell h.1).trans h.2.2.1, (k.cell h.1).trans h.2.2.2.1, (k.cell h.1).trans h.2.2.2.2.1, (k.cell h.1).trans h.2.2.2.2.2⟩
end Go.Proofs.YtgbkpkioijbgoaaDoor.lex
end
section
namespace Go.Proofs.YtgbkpkioijbgoaaDoor.lex
open Go.RowKit
attribute [local go_sem ↓] Go.wp_at_zero Go.wp_at_succ
attribute [local go_sem] str_size
set_option linter.unusedVariables false
set_option maxRecDepth 100000

theorem rletter_any (c : UInt8) (w : World) : Calls Tryd.prog 63 #[.int .u8 (c.toNat : Int)] w fun e w' => e = .returned (.bool (letB c)) ∧ w = w' := by
  have hlt := u8_lt c
  unfold letB
  generalize c.toNat = n at hlt ⊢
  have hcase : n < 65 ∨ (65 ≤ n ∧ n ≤ 90) ∨ (91 ≤ n ∧ n ≤ 94) ∨ n = 95 ∨ n = 96 ∨ (97 ≤ n ∧ n ≤ 122) ∨ 123 ≤ n := by omega
  rcases hcase with h | h | h | h | h | h | h
  · have e : ((decide (97 ≤ n) && decide (n ≤ 122)) || (decide (65 ≤ n) && decide (n ≤ 90)) || decide (n = 95)) = false := by simp; omega
    rw [e]
    have q1 : ¬ (97 : Int) ≤ (n : Int) := by omega
    have q2 : ¬ (65 : Int) ≤ (n : Int) := by omega
    have q3 : ((n : Int) == 95) = false := by simp; omega
    clear e h hlt
    go_enter Tryd.func63, Tryd.ntmps63
    go_wp2
    go_ret
    exact ⟨rfl, rfl⟩
  · have e : ((decide (97 ≤ n) && decide (n ≤ 122)) || (decide (65 ≤ n) && decide (n ≤ 90)) || decide (n = 95)) = true := by simp; omega
    rw [e]
    have q1 : ¬ (97 : Int) ≤ (n : Int) := by omega
    have q2 : (65 : Int) ≤ (n : Int) := by omega
    have q3 : (n : Int) ≤ 90 := by omega
    clear e h hlt
    go_enter Tryd.func63, Tryd.ntmps63
    go_wp2
    go_ret
    exact ⟨rfl, rfl⟩
  · have e : ((decide (97 ≤ n) && decide (n ≤ 122)) || (decide (65 ≤ n) && decide (n ≤ 90)) || decide (n = 95)) = false := by simp; omega
    rw [e]
    have q1 : ¬ (97 : Int) ≤ (n : Int) := by omega
    have q2 : (65 : Int) ≤ (n : Int) := by omega
    have q4 : ¬ (n : Int) ≤ 90 := by omega
    have q3 : ((n : Int) == 95) = false := by simp; omega
    clear e h hlt
    go_enter Tryd.func63, Tryd.ntmps63
    go_wp2
    go_ret
    exact ⟨rfl, rfl⟩
  · subst h
    clear hlt
    go_enter Tryd.func63, Tryd.ntmps63
    go_wp2
    go_ret
    exact ⟨rfl, rfl⟩
  · subst h
    clear hlt
    go_enter Tryd.func63, Tryd.ntmps63
    go_wp2
    go_ret
    exact ⟨rfl, rfl⟩
  · have e : ((decide (97 ≤ n) && decide (n ≤ 122)) || (decide (65 ≤ n) && decide (n ≤ 90)) || decide (n = 95)) = true := by simp; omega
    rw [e]
    have q1 : (97 : Int) ≤ (n : Int) := by omega
    have q2 : (n : Int) ≤ 122 := by omega
    clear e h hlt
    go_enter Tryd.func63, Tryd.ntmps63
    go_wp2
    go_ret
    exact ⟨rfl, rfl⟩
  · have e : ((decide (97 ≤ n) && decide (n ≤ 122)) || (decide (65 ≤ n) && decide (n ≤ 90)) || decide (n = 95)) = false := by simp; omega
    rw [e]
    have q1 : (97 : Int) ≤ (n : Int) := by omega
    have q2 : ¬ (n : Int) ≤ 122 := by omega
    have q4 : (65 : Int) ≤ (n : Int) := by omega
    have q5 : ¬ (n : Int) ≤ 90 := by omega
    have q3 : ((n : Int) == 95) = false := by simp; omega
    clear e h hlt
    go_enter Tryd.func63, Tryd.ntmps63
    go_wp2
    go_ret
    exact ⟨rfl, rfl⟩
theorem rdigit_any (c : UInt8) (w : World) : Calls Tryd.prog 65 #[.int .u8 (c.toNat : Int)] w fun e w' => e = .returned (.bool (digB c)) ∧ w = w' := by
  have hlt := u8_lt c
  unfold digB
  generalize c.toNat = n at hlt ⊢
  by_cases h1 : 48 ≤ n
  · by_cases h2 : n ≤ 57
    · have e : (decide (48 ≤ n) && decide (n ≤ 57)) = true := by simp; omega
      rw [e]
      have q1 : (48 : Int) ≤ (n : Int) := by omega
      have q2 : (n : Int) ≤ 57 := by omega
      clear e h1 h2 hlt
      go_enter Tryd.func65, Tryd.ntmps65
      go_wp2
      go_ret
      exact ⟨rfl, rfl⟩
    · have e : (decide (48 ≤ n) && decide (n ≤ 57)) = false := by simp; omega
      rw [e]
      have q1 : (48 : Int) ≤ (n : Int) := by omega
      have q2 : ¬ (n : Int) ≤ 57 := by omega
      clear e h1 h2 hlt
      go_enter Tryd.func65, Tryd.ntmps65
      go_wp2
      go_ret
      exact ⟨rfl, rfl⟩
  · have e : (decide (48 ≤ n) && decide (n ≤ 57)) = false := by simp; omega
    rw [e]
    have q1 : ¬ (48 : Int) ≤ (n : Int) := by omega
    clear e h1 hlt
    go_enter Tryd.func65, Tryd.ntmps65
    go_wp2
    go_ret
    exact ⟨rfl, rfl⟩
theorem rblank_any (c : UInt8) (w : World) : Calls Tryd.prog 62 #[.int .u8 (c.toNat : Int)] w fun e w' => e = .returned (.bool (blankB c)) ∧ w = w' := by
  have hlt := u8_lt c
  unfold blankB
  generalize c.toNat = n at hlt ⊢
  have hcase : n = 32 ∨ n = 9 ∨ n = 10 ∨ (n ≠ 32 ∧ n ≠ 9 ∧ n ≠ 10) := by omega
  rcases hcase with rfl | rfl | rfl | ⟨h1, h2, h3⟩
  · clear hlt
    go_enter Tryd.func62, Tryd.ntmps62
    go_wp2
    go_ret
    exact ⟨rfl, rfl⟩
  · clear hlt
    go_enter Tryd.func62, Tryd.ntmps62
    go_wp2
    go_ret
    exact ⟨rfl, rfl⟩
  · clear hlt
    go_enter Tryd.func62, Tryd.ntmps62
    go_wp2
    go_ret
    exact ⟨rfl, rfl⟩
  · have e : (decide (n = 32) || decide (n = 9) || decide (n = 10)) = false := by simp [h1, h2, h3]
    rw [e]
    have q1 : ((n : Int) == 32) = false := by simp; omega
    have q2 : ((n : Int) == 9) = false := by simp; omega
    have q3 : ((n : Int) == 10) = false := by simp; omega
    clear e h1 h2 h3 hlt
    go_enter Tryd.func62, Tryd.ntmps62
    go_wp2
    go_ret
    exact ⟨rfl, rfl⟩
theorem rname_any (l : List UInt8) (p : Nat) (hp : p ≤ l.length) (hl : l.length ≤ 100000) (w : World) :
    Calls Tryd.prog 64 #[.string (str l), .int .i64 (p : Int)] w fun e w' => e = .returned (.int .i64 (nameN (l.drop p) : Int)) ∧ w = w' := by
  obtain ⟨L, hL⟩ : ∃ L, L = l.length := ⟨_, rfl⟩
  have hp2 : (p : Int) ≤ (L : Int) := by omega
  have hl2 : L ≤ 100000 := by omega
  have hLr := Lib.hid hL
  replace hp := Lib.hid hp; replace hl := Lib.hid hl; replace hp2 := Lib.hid hp2; replace hl2 := Lib.hid hl2
  have hsz : (str l).size = L := by rw [str_size, hL]
  clear hL
  go_enter Tryd.func64, Tryd.ntmps64
  go_wp2
  go_loopg [5] (L - p) (fun gn s wr => ∃ q : Nat, s = .int .i64 (q : Int) ∧ p ≤ q ∧ q + gn = L ∧ nameN (l.drop p) = (q - p) + nameN (l.drop q) ∧ wr = w)
  case atStart => exact ⟨p, rfl, Nat.le_refl _, by have := hp2.out; omega, by omega, rfl⟩
  case round =>
    obtain ⟨q, rfl, hq1, hq2, hq3, rfl⟩ := hrel
    by_cases hk : gk = 0
    · subst hk
      obtain rfl : q = L := by omega
      have hd : nameN (l.drop q) = 0 := by rw [List.drop_eq_nil_of_le (by have := hLr.out; omega)]; rfl
      have hfin : nameN (l.drop p) = q - p := by omega
      have i5 : IntKind.i64.wrap ((q : Int) - (p : Int)) = ((q - p : Nat) : Int) := by have := hl2.out; rw [IntKind.wrap_i64]; omega
      have hlt : ¬ ((q : Int) < (q : Int)) := by omega
      replace hfin := Lib.hid hfin
      clear hd hq3 hq2
      replace hq1 := Lib.hid hq1
      go_wp2
      go_ret
      exact ⟨by rw [hfin.out]; rfl, rfl⟩
    · obtain ⟨K, rfl⟩ : ∃ K : Nat, gk = K + 1 := ⟨gk - 1, by omega⟩
      have hqL : q < L := by omega
      obtain ⟨c, hc⟩ : ∃ c, l[q]? = some c := ⟨_, List.getElem?_eq_getElem (show q < l.length by have := hLr.out; omega)⟩
      have hd := drop_at l q c hc
      have i0 : (0 : Int) ≤ (q : Int) := by omega
      have i1 : (q : Int) < (L : Int) := by omega
      have i3 : IntKind.i64.wrap ((q : Int) + 1) = (q : Int) + 1 := by have := hl2.out; rw [IntKind.wrap_i64]; omega
      have i5 : IntKind.i64.wrap ((q : Int) - (p : Int)) = ((q - p : Nat) : Int) := by have := hl2.out; rw [IntKind.wrap_i64]; omega
      have hg := at_str l q c hc
      have cl := rletter_any c
      have cd := rdigit_any c
      have hnm : nameN (l.drop q) = if wordB c then nameN (l.drop (q + 1)) + 1 else 0 := by rw [hd]; rfl
      clear hk hd hc
      replace hq1 := Lib.hid hq1; replace hq2 := Lib.hid hq2; replace hqL := Lib.hid hqL
      by_cases hl1 : letB c = true
      · rw [hl1] at cl
        have hw : wordB c = true := by unfold wordB; rw [hl1]; rfl
        rw [if_pos hw] at hnm
        have hnx : nameN (l.drop p) = (q + 1 - p) + nameN (l.drop (q + 1)) := by have := hq1.out; omega
        clear hnm hq3 hl1 hw
        replace hnx := Lib.hid hnx; replace cl := Lib.hid cl; replace i5 := Lib.hid i5
        go_wp2_with (go_at_call 63; (with_reducible refine (cl.out _).mono ?_); rintro e w' ⟨rfl, rfl⟩)
        go_roundg K
        case measure => omega
        case rel => exact ⟨q + 1, by go_num, by have := hq1.out; omega, by have := hq2.out; omega, hnx.out, rfl⟩
      · rw [Bool.not_eq_true] at hl1
        rw [hl1] at cl
        by_cases hl2 : digB c = true
        · rw [hl2] at cd
          have hw : wordB c = true := by unfold wordB; rw [hl1, hl2]; rfl
          rw [if_pos hw] at hnm
          have hnx : nameN (l.drop p) = (q + 1 - p) + nameN (l.drop (q + 1)) := by have := hq1.out; omega
          clear hnm hq3 hl1 hw hl2
          replace hnx := Lib.hid hnx; replace cl := Lib.hid cl; replace cd := Lib.hid cd; replace i5 := Lib.hid i5
          go_wp2_with (first
            | (go_at_call 63; (with_reducible refine (cl.out _).mono ?_); rintro e w' ⟨rfl, rfl⟩)
            | (go_at_call 65; (with_reducible refine (cd.out _).mono ?_); rintro e w' ⟨rfl, rfl⟩))
          go_roundg K
          case measure => omega
          case rel => exact ⟨q + 1, by go_num, by have := hq1.out; omega, by have := hq2.out; omega, hnx.out, rfl⟩
        · rw [Bool.not_eq_true] at hl2
          rw [hl2] at cd
          have hw : wordB c = false := by unfold wordB; rw [hl1, hl2]; rfl
          rw [if_neg (by rw [hw]; decide)] at hnm
          have hfin : nameN (l.drop p) = q - p := by omega
          clear hnm hq3 hl1 hw hl2
          replace hfin := Lib.hid hfin; replace cl := Lib.hid cl; replace cd := Lib.hid cd
          go_wp2_with (first
            | (go_at_call 63; (with_reducible refine (cl.out _).mono ?_); rintro e w' ⟨rfl, rfl⟩)
            | (go_at_call 65; (with_reducible refine (cd.out _).mono ?_); rintro e w' ⟨rfl, rfl⟩))
          go_ret
          exact ⟨by rw [hfin.out]; rfl, rfl⟩
/-- the number of digits alone -/
def rnum : List UInt8 → Nat → Option Nat
  | [], n => some n
  | c :: r, n => if digB c then (if (9223372036854775807 - (c.toNat - 48)) / 10 < n then none else rnum r (10 * n + (c.toNat - 48))) else none
theorem scan_rnum : ∀ (l : List UInt8) (n k : Nat), numScan l n k = (rnum (l.take (nameN l)) n).map fun m => (m, k + nameN l)
  | [], n, k => rfl
  | c :: r, n, k => by
    rw [numScan, nameN]
    by_cases hd : digB c = true
    · have hw : wordB c = true := by unfold wordB; rw [hd]; simp
      rw [if_pos hd, if_pos hw, List.take_succ_cons, rnum, if_pos hd]
      by_cases ho : (9223372036854775807 - (c.toNat - 48)) / 10 < n
      · rw [if_pos ho, if_pos ho]; rfl
      · rw [if_neg ho, if_neg ho, scan_rnum r]
        congr 1
        funext m
        rw [show k + 1 + nameN r = k + (nameN r + 1) by omega]
    · rw [if_neg hd]
      by_cases hl : letB c = true
      · have hw : wordB c = true := by unfold wordB; rw [hl]; rfl
        rw [if_pos hl, if_pos hw, List.take_succ_cons, rnum, if_neg hd]; rfl
      · have hw : ¬ wordB c = true := by unfold wordB; simp at hl hd ⊢; exact ⟨hl, hd⟩
        rw [if_neg hl, if_neg hw]; rfl
def rnumV (o : Option Nat) : Value := match o with
  | some n => .tuple #[.int .i64 (n : Int), .bool true]
  | none => .tuple #[.int .i64 0, .bool false]
set_option maxHeartbeats 1000000 in
theorem rnumber_any (l : List UInt8) (hl : l.length ≤ 100000) (w : World) :
    Calls Tryd.prog 66 #[.string (str l)] w fun e w' => e = .returned (rnumV (rnum l 0)) ∧ w = w' := by
  obtain ⟨L, hL⟩ : ∃ L, L = l.length := ⟨_, rfl⟩
  have hl2 : L ≤ 100000 := by omega
  have hLr := Lib.hid hL
  replace hl := Lib.hid hl; replace hl2 := Lib.hid hl2
  have hsz : (str l).size = L := by rw [str_size, hL]
  clear hL
  go_enter Tryd.func66, Tryd.ntmps66
  go_wp2
  go_loopg [4, 5] L (fun gn s4 s5 wr => ∃ n q : Nat, s4 = .int .i64 (n : Int) ∧ s5 = .int .i64 (q : Int) ∧ q + gn = L ∧ n ≤ 9223372036854775807 ∧ rnum l 0 = rnum (l.drop q) n ∧ wr = w)
  case atStart => exact ⟨0, 0, rfl, rfl, by omega, by omega, rfl, rfl⟩
  case round =>
    obtain ⟨n, q, rfl, rfl, hq2, hn, hq3, rfl⟩ := hrel
    replace hn := Lib.hid hn
    by_cases hk : gk = 0
    · subst hk
      obtain rfl : q = L := by omega
      have hd : l.drop q = [] := List.drop_eq_nil_of_le (by have := hLr.out; omega)
      have hlt : ¬ ((q : Int) < (q : Int)) := by omega
      rw [hd, rnum] at hq3
      replace hq3 := Lib.hid hq3
      clear hd hq2
      go_wp2
      go_ret2
      exact ⟨by rw [hq3.out]; rfl, rfl⟩
    · obtain ⟨K, rfl⟩ : ∃ K : Nat, gk = K + 1 := ⟨gk - 1, by omega⟩
      have hqL : q < L := by omega
      obtain ⟨c, hc⟩ : ∃ c, l[q]? = some c := ⟨_, List.getElem?_eq_getElem (show q < l.length by have := hLr.out; omega)⟩
      have hd := drop_at l q c hc
      have i0 : (0 : Int) ≤ (q : Int) := by omega
      have i1 : (q : Int) < (L : Int) := by omega
      have i3 : IntKind.i64.wrap ((q : Int) + 1) = (q : Int) + 1 := by have := hl2.out; rw [IntKind.wrap_i64]; omega
      have hg := at_str l q c hc
      have cd := rdigit_any c
      have h256 := u8_lt c
      rw [hd, rnum] at hq3
      clear hk hd hc
      replace hq2 := Lib.hid hq2; replace hqL := Lib.hid hqL
      have s2 : IntKind.i64.wrap (c.toNat : Int) = (c.toNat : Int) := by rw [IntKind.wrap_i64]; omega
      by_cases hd1 : digB c = true
      · rw [hd1] at cd
        rw [if_pos hd1] at hq3
        have hcr : 48 ≤ c.toNat ∧ c.toNat ≤ 57 := by unfold digB at hd1; simpa using hd1
        obtain ⟨d, hdd⟩ : ∃ d, d = c.toNat - 48 := ⟨_, rfl⟩
        rw [← hdd] at hq3
        have hd9 : d ≤ 9 := by omega
        have s1 : IntKind.i64.wrap ((c.toNat : Int) - 48) = (d : Int) := by rw [IntKind.wrap_i64]; omega
        have s1b : (c.toNat : Int) - 48 = (d : Int) := by omega
        obtain ⟨Q, hQ⟩ : ∃ Q, Q = (9223372036854775807 - d) / 10 := ⟨_, rfl⟩
        rw [← hQ] at hq3
        have s3 : IntKind.i64.wrap (9223372036854775807 - (d : Int)) = 9223372036854775807 - (d : Int) := by rw [IntKind.wrap_i64]; omega
        have s4 : (9223372036854775807 - (d : Int)).tdiv 10 = (Q : Int) := by rw [hQ, Int.tdiv_eq_ediv_of_nonneg (by omega)]; omega
        have s5 : (9223372036854775807 - (d : Int)) / 10 = (Q : Int) := by rw [hQ]; omega
        have s6 : (0 : Int) ≤ 9223372036854775807 - (d : Int) := by omega
        have nb : Q < n ∨ (n ≤ Q ∧ 10 * n + d ≤ 9223372036854775807) := by omega
        have s7 : (0 : Int) ≤ (d : Int) := by omega
        have s8 : (d : Int) ≤ 9 := by omega
        clear hcr hdd hd9 hd1 hQ h256
        rcases nb with hb | ⟨hb, hb2⟩
        · rw [if_pos hb] at hq3
          have hlt : (Q : Int) < (n : Int) := by omega
          replace hq3 := Lib.hid hq3; replace cd := Lib.hid cd
          clear hb
          go_wp2_with (go_at_call 65; (with_reducible refine (cd.out _).mono ?_); rintro e w' ⟨rfl, rfl⟩)
          go_ret2
          exact ⟨by rw [hq3.out]; rfl, rfl⟩
        · rw [if_neg (by omega)] at hq3
          have hlt : ¬ (Q : Int) < (n : Int) := by omega
          have hlt2 : decide ((Q : Int) < (n : Int)) = false := by simpa using hlt
          obtain ⟨m, hm⟩ : ∃ m, m = 10 * n + d := ⟨_, rfl⟩
          rw [← hm] at hq3
          obtain ⟨t, ht⟩ : ∃ t, t = 10 * n := ⟨_, rfl⟩
          have m1 : IntKind.i64.wrap ((n : Int) * 10) = (t : Int) := by rw [IntKind.wrap_i64]; omega
          have m2 : IntKind.i64.wrap ((t : Int) + (d : Int)) = (m : Int) := by rw [IntKind.wrap_i64]; omega
          have m3 : m ≤ 9223372036854775807 := by omega
          clear hb hb2 hm ht
          replace hq3 := Lib.hid hq3; replace cd := Lib.hid cd; replace m3 := Lib.hid m3
          go_wp2_with (go_at_call 65; (with_reducible refine (cd.out _).mono ?_); rintro e w' ⟨rfl, rfl⟩)
          go_roundg K
          case measure => omega
          case rel => exact ⟨m, q + 1, rfl, by go_num, by have := hq2.out; omega, m3.out, hq3.out, rfl⟩
      · have hd1f : digB c = false := by simpa using hd1
        rw [hd1f] at cd
        rw [if_neg hd1] at hq3
        have s1 : IntKind.i64.wrap ((c.toNat : Int) - 48) = (c.toNat : Int) - 48 := by rw [IntKind.wrap_i64]; omega
        replace hq3 := Lib.hid hq3; replace cd := Lib.hid cd; replace h256 := Lib.hid h256
        clear hd1 hd1f
        go_wp2_with (go_at_call 65; (with_reducible refine (cd.out _).mono ?_); rintro e w' ⟨rfl, rfl⟩)
        go_ret2
        exact ⟨by rw [hq3.out]; rfl, rfl⟩
end Go.Proofs.YtgbkpkioijbgoaaDoor.lex
end
section
namespace Go.Proofs.YtgbkpkioijbgoaaDoor.lex
open Go.RowKit
attribute [local go_sem ↓] Go.wp_at_zero Go.wp_at_succ
attribute [local go_sem] str_size
set_option linter.unusedVariables false
set_option maxRecDepth 100000

def rtextV (o : Option (List UInt8 × Nat)) : Value := match o with
  | some x => .tuple #[.string (str x.1), .int .i64 (x.2 : Int)]
  | none => .tuple #[.string ⟨#[]⟩, .int .i64 0]
set_option maxHeartbeats 2000000 in
theorem rtext_any (l : List UInt8) (p : Nat) (hp : p < l.length) (hl : l.length ≤ 100000) (w : World) :
    Calls Tryd.prog 67 #[.string (str l), .int .i64 (p : Int)] w fun e w' => e = .returned (rtextV (txtScan (l.drop (p + 1)) false [] 1)) ∧ w = w' := by
  have hcut : ∀ (i : Nat) (c : UInt8), l[i]? = some c → (str l).extract i (i + 1) = str [c] := fun i c h => by
    obtain ⟨hi, he⟩ := List.getElem?_eq_some_iff.1 h
    rw [cut_extract, show i + 1 - i = 1 by omega, List.drop_eq_getElem_cons hi, he]; rfl
  obtain ⟨L, hL⟩ : ∃ L, L = l.length := ⟨_, rfl⟩
  have hp2 : (p : Int) < (L : Int) := by omega
  have hl2 : L ≤ 100000 := by omega
  have hLr := Lib.hid hL
  have hp3 : p < L := by omega
  have hp4 : IntKind.i64.wrap ((p : Int) + 1) = (p : Int) + 1 := by rw [IntKind.wrap_i64]; omega
  replace hp := Lib.hid hp; replace hl := Lib.hid hl; replace hp2 := Lib.hid hp2; replace hl2 := Lib.hid hl2; replace hp3 := Lib.hid hp3; replace hcut := Lib.hid hcut
  have hsz : (str l).size = L := by rw [str_size, hL]
  clear hL
  go_enter Tryd.func67, Tryd.ntmps67
  go_wp2
  go_loopg [6, 7] (L - (p + 1)) (fun gn s6 s7 wr => ∃ (q : Nat) (acc : List UInt8), s6 = .string (str acc) ∧ s7 = .int .i64 (q : Int) ∧ p + 1 ≤ q ∧ q + gn = L ∧ acc.length ≤ q ∧ txtScan (l.drop (p + 1)) false [] 1 = txtScan (l.drop q) false acc (q - p) ∧ wr = w)
  case atStart => exact ⟨p + 1, [], rfl, by go_num, Nat.le_refl _, by have := hp3.out; omega, by simp, by rw [show p + 1 - p = 1 by omega], rfl⟩
  case round =>
    obtain ⟨q, acc, rfl, rfl, hq1, hq2, hal, hq3, rfl⟩ := hrel
    replace hal := Lib.hid hal
    by_cases hk : gk = 0
    · subst hk
      obtain rfl : q = L := by omega
      have hd : l.drop q = [] := List.drop_eq_nil_of_le (by have := hLr.out; omega)
      have hlt : ¬ ((q : Int) < (q : Int)) := by omega
      rw [hd, txtScan] at hq3
      replace hq3 := Lib.hid hq3
      clear hd hq2
      replace hq1 := Lib.hid hq1
      go_wp2
      go_ret2
      exact ⟨by rw [hq3.out]; rfl, rfl⟩
    · obtain ⟨K, rfl⟩ : ∃ K : Nat, gk = K + 1 := ⟨gk - 1, by omega⟩
      have hqL : q < L := by omega
      obtain ⟨c, hc⟩ : ∃ c, l[q]? = some c := ⟨_, List.getElem?_eq_getElem (show q < l.length by have := hLr.out; omega)⟩
      have hd := drop_at l q c hc
      have hcc := hcut.out q c hc
      have i0 : (0 : Int) ≤ (q : Int) := by omega
      have i1 : (q : Int) < (L : Int) := by omega
      have i2 : (q : Int) + 1 ≤ (L : Int) := by omega
      have i3 : IntKind.i64.wrap ((q : Int) + 1) = (q : Int) + 1 := by have := hl2.out; rw [IntKind.wrap_i64]; omega
      have i6 : IntKind.i64.wrap ((q : Int) + 1 - (p : Int)) = ((q + 1 - p : Nat) : Int) := by have := hl2.out; rw [IntKind.wrap_i64]; omega
      have room1 : ¬ 9223372036854775807 < acc.length + 1 := by have := hal.out; have := hl2.out; omega
      obtain ⟨m, hm⟩ : ∃ m, m = c.toNat := ⟨_, rfl⟩
      have hg : ∀ h : q < (str l).size, (((str l)[q]'h).toNat : Int) = (m : Int) := fun h => by rw [at_str l q c hc h, hm]
      rw [hd, txtScan] at hq3
      rw [← hm] at hq3
      clear hk hd hc
      replace hq1 := Lib.hid hq1; replace hq2 := Lib.hid hq2; replace hqL := Lib.hid hqL; replace hm := Lib.hid hm
      by_cases h34 : m = 34
      · subst h34
        rw [if_pos rfl] at hq3
        replace hq3 := Lib.hid hq3
        clear hcc
        go_wp2
        go_ret2
        exact ⟨by rw [hq3.out, show q - p + 1 = q + 1 - p by have := hq1.out; omega]; rfl, rfl⟩
      · rw [if_neg h34] at hq3
        replace i6 := Lib.hid i6
        have n34 : ((m : Int) == 34) = false := by simp; omega
        have n34b : ¬ (m : Int) = 34 := by omega
        by_cases h32 : m < 32
        · rw [if_pos h32] at hq3
          have q32 : (m : Int) < 32 := by omega
          replace hq3 := Lib.hid hq3
          clear h32 h34 hcc
          go_wp2
          go_ret2
          exact ⟨by rw [hq3.out]; rfl, rfl⟩
        · rw [if_neg h32] at hq3
          have q32 : ¬ (m : Int) < 32 := by omega
          by_cases h92 : m = 92
          · subst h92
            rw [if_pos rfl] at hq3
            clear h34 h32 n34 n34b q32 hcc
            by_cases hend : q + 1 = L
            · have hd2 : l.drop (q + 1) = [] := List.drop_eq_nil_of_le (by have := hLr.out; omega)
              rw [hd2, txtScan] at hq3
              have heq : ((q : Int) + 1) = (L : Int) := by omega
              have heq2 : (((q : Int) + 1) == (L : Int)) = true := by simpa using heq
              have heq3 : decide (q + 1 = L) = true := by simpa using hend
              replace hq3 := Lib.hid hq3
              clear hd2 heq
              replace hend := Lib.hid hend
              go_wp2
              go_ret2
              exact ⟨by rw [hq3.out]; rfl, rfl⟩
            · obtain ⟨d, hc2⟩ : ∃ d, l[q + 1]? = some d := ⟨_, List.getElem?_eq_getElem (show q + 1 < l.length by have := hLr.out; have := hqL.out; omega)⟩
              have hd2 := drop_at l (q + 1) d hc2
              obtain ⟨md, hmd⟩ : ∃ m, m = d.toNat := ⟨_, rfl⟩
              rw [hd2, txtScan, ← hmd] at hq3
              obtain ⟨q1, hq1e⟩ : ∃ x, x = q + 1 := ⟨_, rfl⟩
              have hcc2 : (str l).extract q1 (q1 + 1) = str [d] := by subst hq1e; exact hcut.out (q + 1) d hc2
              have hg2 : ∀ h : q1 < (str l).size, (((str l)[q1]'h).toNat : Int) = (md : Int) := fun h => by subst hq1e; rw [at_str l (q + 1) d hc2 h, hmd]
              have i4 : IntKind.i64.wrap ((q : Int) + 1) = (q1 : Int) := by rw [i3]; omega
              have j0 : (0 : Int) ≤ (q1 : Int) := by omega
              have j1 : (q1 : Int) < (L : Int) := by have := hqL.out; omega
              have j2 : ((q1 : Int) == (L : Int)) = false := by simp; omega
              have j3 : decide (q1 = L) = false := by simp; omega
              have j4 : IntKind.i64.wrap ((q1 : Int) + 1) = (q1 : Int) + 1 := by have := hl2.out; rw [IntKind.wrap_i64]; omega
              have j5 : (q1 : Int) + 1 ≤ (L : Int) := by have := hqL.out; omega
              clear hend hd2 hc2 i3 i2
              replace hmd := Lib.hid hmd; replace hq1e := Lib.hid hq1e
              by_cases hok : md = 34 ∨ md = 92
              · rw [if_pos hok] at hq3
                have hq4 : txtScan (l.drop (p + 1)) false [] 1 = txtScan (l.drop (q1 + 1)) false (acc ++ [d]) (q1 + 1 - p) := by rw [hq3]; have := hq1.out; have := hq1e.out; congr 1 <;> (first | omega | (congr 1; omega) | skip)
                replace hq4 := Lib.hid hq4
                obtain ⟨K2, hK2⟩ : ∃ K2, K = K2 + 1 := ⟨K - 1, by have := hq2.out; have := hq1e.out; omega⟩
                replace hK2 := Lib.hid hK2
                clear hq3
                rcases hok with h | h
                · have t1 : ((md : Int) != 34) = false := by simp; omega
                  have t2 : ((md : Int) == 34) = true := by simp; omega
                  clear h
                  go_wp2
                  go_roundg K2
                  case measure => have := hK2.out; omega
                  case rel => exact ⟨q1 + 1, acc ++ [d], by first | rfl | rw [str_append] | simp [str_append], by go_num, by have := hq1.out; have := hq1e.out; omega, by have := hq2.out; have := hq1e.out; have := hK2.out; omega, by rw [List.length_append]; have := hal.out; have := hq1e.out; simp; omega, hq4.out, rfl⟩
                · have t1 : ((md : Int) != 34) = true := by simp; omega
                  have t2 : ((md : Int) == 34) = false := by simp; omega
                  have t3 : ((md : Int) != 92) = false := by simp; omega
                  have t4 : ((md : Int) == 92) = true := by simp; omega
                  clear h
                  go_wp2
                  go_roundg K2
                  case measure => have := hK2.out; omega
                  case rel => exact ⟨q1 + 1, acc ++ [d], by first | rfl | rw [str_append] | simp [str_append], by go_num, by have := hq1.out; have := hq1e.out; omega, by have := hq2.out; have := hq1e.out; have := hK2.out; omega, by rw [List.length_append]; have := hal.out; have := hq1e.out; simp; omega, hq4.out, rfl⟩
              · rw [if_neg hok] at hq3
                have t1 : ((md : Int) != 34) = true := by simp; omega
                have t2 : ((md : Int) == 34) = false := by simp; omega
                have t3 : ((md : Int) != 92) = true := by simp; omega
                have t4 : ((md : Int) == 92) = false := by simp; omega
                replace hq3 := Lib.hid hq3
                clear hok
                go_wp2
                go_ret2
                exact ⟨by rw [hq3.out]; rfl, rfl⟩
          · rw [if_neg h92] at hq3
            have n92 : ((m : Int) == 92) = false := by simp; omega
            have n92b : ¬ (m : Int) = 92 := by omega
            have hq4 : txtScan (l.drop (p + 1)) false [] 1 = txtScan (l.drop (q + 1)) false (acc ++ [c]) (q + 1 - p) := by rw [hq3]; have := hq1.out; congr 1; omega
            replace hq4 := Lib.hid hq4
            clear hq3 h92 h32 h34
            go_wp2
            go_roundg K
            case measure => omega
            case rel => exact ⟨q + 1, acc ++ [c], by first | rfl | rw [str_append] | simp [str_append], by go_num, by have := hq1.out; omega, by have := hq2.out; omega, by rw [List.length_append]; have := hal.out; simp; omega, hq4.out, rfl⟩
end Go.Proofs.YtgbkpkioijbgoaaDoor.lex
end
section
namespace Go.Proofs.YtgbkpkioijbgoaaDoor.lex
open Go.RowKit
attribute [local go_sem ↓] Go.wp_at_zero Go.wp_at_succ
attribute [local go_sem] str_size
set_option linter.unusedVariables false
set_option maxRecDepth 100000

def twoB (c d : UInt8) : Bool := (45 == c && 62 == d) || (60 == c && 45 == d) || (33 == c && 61 == d) || (60 == c && 61 == d) || (62 == c && 61 == d)
def oneB (c : UInt8) : Bool := (40 : UInt8) == c || (41 : UInt8) == c || (91 : UInt8) == c || (93 : UInt8) == c || (123 : UInt8) == c || (125 : UInt8) == c || (58 : UInt8) == c || (44 : UInt8) == c || (46 : UInt8) == c || (45 : UInt8) == c || (60 : UInt8) == c || (62 : UInt8) == c || (61 : UInt8) == c
theorem pre2 (a b c d : UInt8) (r : List UInt8) : [a, b].isPrefixOf (c :: d :: r) = (a == c && b == d) := by simp [List.isPrefixOf]
theorem pre1 (a c : UInt8) (r : List UInt8) : [a].isPrefixOf (c :: r) = (a == c) := by simp [List.isPrefixOf]
theorem pre0 (a b c : UInt8) : [a, b].isPrefixOf [c] = false := by simp [List.isPrefixOf]
theorem marks_head (c d : UInt8) (r : List UInt8) : markN (c :: d :: r) = if twoB c d then 2 else if oneB c then 1 else 0 := by
  unfold markN marksL twoB oneB
  cases b0 : (((45 : UInt8) == c) && ((62 : UInt8) == d))
  rotate_left
  · rw [markF_yes _ _ _ (by rw [pre2]; exact b0)]; simp
  rw [markF_no _ _ _ (by rw [pre2]; exact b0)]
  cases b1 : (((60 : UInt8) == c) && ((45 : UInt8) == d))
  rotate_left
  · rw [markF_yes _ _ _ (by rw [pre2]; exact b1)]; simp
  rw [markF_no _ _ _ (by rw [pre2]; exact b1)]
  cases b2 : (((33 : UInt8) == c) && ((61 : UInt8) == d))
  rotate_left
  · rw [markF_yes _ _ _ (by rw [pre2]; exact b2)]; simp
  rw [markF_no _ _ _ (by rw [pre2]; exact b2)]
  cases b3 : (((60 : UInt8) == c) && ((61 : UInt8) == d))
  rotate_left
  · rw [markF_yes _ _ _ (by rw [pre2]; exact b3)]; simp
  rw [markF_no _ _ _ (by rw [pre2]; exact b3)]
  cases b4 : (((62 : UInt8) == c) && ((61 : UInt8) == d))
  rotate_left
  · rw [markF_yes _ _ _ (by rw [pre2]; exact b4)]; simp
  rw [markF_no _ _ _ (by rw [pre2]; exact b4)]
  cases a0 : ((40 : UInt8) == c)
  rotate_left
  · rw [markF_yes _ _ _ (by rw [pre1]; exact a0)]; simp
  rw [markF_no _ _ _ (by rw [pre1]; exact a0)]
  cases a1 : ((41 : UInt8) == c)
  rotate_left
  · rw [markF_yes _ _ _ (by rw [pre1]; exact a1)]; simp
  rw [markF_no _ _ _ (by rw [pre1]; exact a1)]
  cases a2 : ((91 : UInt8) == c)
  rotate_left
  · rw [markF_yes _ _ _ (by rw [pre1]; exact a2)]; simp
  rw [markF_no _ _ _ (by rw [pre1]; exact a2)]
  cases a3 : ((93 : UInt8) == c)
  rotate_left
  · rw [markF_yes _ _ _ (by rw [pre1]; exact a3)]; simp
  rw [markF_no _ _ _ (by rw [pre1]; exact a3)]
  cases a4 : ((123 : UInt8) == c)
  rotate_left
  · rw [markF_yes _ _ _ (by rw [pre1]; exact a4)]; simp
  rw [markF_no _ _ _ (by rw [pre1]; exact a4)]
  cases a5 : ((125 : UInt8) == c)
  rotate_left
  · rw [markF_yes _ _ _ (by rw [pre1]; exact a5)]; simp
  rw [markF_no _ _ _ (by rw [pre1]; exact a5)]
  cases a6 : ((58 : UInt8) == c)
  rotate_left
  · rw [markF_yes _ _ _ (by rw [pre1]; exact a6)]; simp
  rw [markF_no _ _ _ (by rw [pre1]; exact a6)]
  cases a7 : ((44 : UInt8) == c)
  rotate_left
  · rw [markF_yes _ _ _ (by rw [pre1]; exact a7)]; simp
  rw [markF_no _ _ _ (by rw [pre1]; exact a7)]
  cases a8 : ((46 : UInt8) == c)
  rotate_left
  · rw [markF_yes _ _ _ (by rw [pre1]; exact a8)]; simp
  rw [markF_no _ _ _ (by rw [pre1]; exact a8)]
  cases a9 : ((45 : UInt8) == c)
  rotate_left
  · rw [markF_yes _ _ _ (by rw [pre1]; exact a9)]; simp
  rw [markF_no _ _ _ (by rw [pre1]; exact a9)]
  cases a10 : ((60 : UInt8) == c)
  rotate_left
  · rw [markF_yes _ _ _ (by rw [pre1]; exact a10)]; simp
  rw [markF_no _ _ _ (by rw [pre1]; exact a10)]
  cases a11 : ((62 : UInt8) == c)
  rotate_left
  · rw [markF_yes _ _ _ (by rw [pre1]; exact a11)]; simp
  rw [markF_no _ _ _ (by rw [pre1]; exact a11)]
  cases a12 : ((61 : UInt8) == c)
  rotate_left
  · rw [markF_yes _ _ _ (by rw [pre1]; exact a12)]; simp
  rw [markF_no _ _ _ (by rw [pre1]; exact a12)]
  simp [markF]
theorem marks_last (c : UInt8) : markN [c] = if oneB c then 1 else 0 := by
  unfold markN marksL oneB
  rw [markF_no _ _ _ (pre0 _ _ _), markF_no _ _ _ (pre0 _ _ _), markF_no _ _ _ (pre0 _ _ _), markF_no _ _ _ (pre0 _ _ _), markF_no _ _ _ (pre0 _ _ _)]
  cases a0 : ((40 : UInt8) == c)
  rotate_left
  · rw [markF_yes _ _ _ (by rw [pre1]; exact a0)]; simp
  rw [markF_no _ _ _ (by rw [pre1]; exact a0)]
  cases a1 : ((41 : UInt8) == c)
  rotate_left
  · rw [markF_yes _ _ _ (by rw [pre1]; exact a1)]; simp
  rw [markF_no _ _ _ (by rw [pre1]; exact a1)]
  cases a2 : ((91 : UInt8) == c)
  rotate_left
  · rw [markF_yes _ _ _ (by rw [pre1]; exact a2)]; simp
  rw [markF_no _ _ _ (by rw [pre1]; exact a2)]
  cases a3 : ((93 : UInt8) == c)
  rotate_left
  · rw [markF_yes _ _ _ (by rw [pre1]; exact a3)]; simp
  rw [markF_no _ _ _ (by rw [pre1]; exact a3)]
  cases a4 : ((123 : UInt8) == c)
  rotate_left
  · rw [markF_yes _ _ _ (by rw [pre1]; exact a4)]; simp
  rw [markF_no _ _ _ (by rw [pre1]; exact a4)]
  cases a5 : ((125 : UInt8) == c)
  rotate_left
  · rw [markF_yes _ _ _ (by rw [pre1]; exact a5)]; simp
  rw [markF_no _ _ _ (by rw [pre1]; exact a5)]
  cases a6 : ((58 : UInt8) == c)
  rotate_left
  · rw [markF_yes _ _ _ (by rw [pre1]; exact a6)]; simp
  rw [markF_no _ _ _ (by rw [pre1]; exact a6)]
  cases a7 : ((44 : UInt8) == c)
  rotate_left
  · rw [markF_yes _ _ _ (by rw [pre1]; exact a7)]; simp
  rw [markF_no _ _ _ (by rw [pre1]; exact a7)]
  cases a8 : ((46 : UInt8) == c)
  rotate_left
  · rw [markF_yes _ _ _ (by rw [pre1]; exact a8)]; simp
  rw [markF_no _ _ _ (by rw [pre1]; exact a8)]
  cases a9 : ((45 : UInt8) == c)
  rotate_left
  · rw [markF_yes _ _ _ (by rw [pre1]; exact a9)]; simp
  rw [markF_no _ _ _ (by rw [pre1]; exact a9)]
  cases a10 : ((60 : UInt8) == c)
  rotate_left
  · rw [markF_yes _ _ _ (by rw [pre1]; exact a10)]; simp
  rw [markF_no _ _ _ (by rw [pre1]; exact a10)]
  cases a11 : ((62 : UInt8) == c)
  rotate_left
  · rw [markF_yes _ _ _ (by rw [pre1]; exact a11)]; simp
  rw [markF_no _ _ _ (by rw [pre1]; exact a11)]
  cases a12 : ((61 : UInt8) == c)
  rotate_left
  · rw [markF_yes _ _ _ (by rw [pre1]; exact a12)]; simp
  rw [markF_no _ _ _ (by rw [pre1]; exact a12)]
  simp [markF]
theorem one_yes (c : UInt8) (h : oneB c = true) : c.toNat = 40 ∨ c.toNat = 41 ∨ c.toNat = 91 ∨ c.toNat = 93 ∨ c.toNat = 123 ∨ c.toNat = 125 ∨ c.toNat = 58 ∨ c.toNat = 44 ∨ c.toNat = 46 ∨ c.toNat = 45 ∨ c.toNat = 60 ∨ c.toNat = 62 ∨ c.toNat = 61 := by
  unfold oneB at h
  simp only [Bool.or_eq_true, beq_iff_eq] at h
  have k : ∀ d : UInt8, d = c → c.toNat = d.toNat := fun d h => by rw [h]
  rcases h with ((((((((((((h | h) | h) | h) | h) | h) | h) | h) | h) | h) | h) | h) | h) <;> (have := k _ h; simp at this; omega)
theorem one_no (c : UInt8) (h : oneB c = false) : c.toNat ≠ 40 ∧ c.toNat ≠ 41 ∧ c.toNat ≠ 91 ∧ c.toNat ≠ 93 ∧ c.toNat ≠ 123 ∧ c.toNat ≠ 125 ∧ c.toNat ≠ 58 ∧ c.toNat ≠ 44 ∧ c.toNat ≠ 46 ∧ c.toNat ≠ 45 ∧ c.toNat ≠ 60 ∧ c.toNat ≠ 62 ∧ c.toNat ≠ 61 := by
  unfold oneB at h
  simp only [Bool.or_eq_false_iff, beq_eq_false_iff_ne] at h
  have k : ∀ d : UInt8, d ≠ c → c.toNat ≠ d.toNat := fun d h e => h (UInt8.toNat_inj.1 e.symm)
  obtain ⟨⟨⟨⟨⟨⟨⟨⟨⟨⟨⟨⟨h1, h2⟩, h3⟩, h4⟩, h5⟩, h6⟩, h7⟩, h8⟩, h9⟩, h10⟩, h11⟩, h12⟩, h13⟩ := h
  exact ⟨k _ h1, k _ h2, k _ h3, k _ h4, k _ h5, k _ h6, k _ h7, k _ h8, k _ h9, k _ h10, k _ h11, k _ h12, k _ h13⟩
theorem two_yes (c d : UInt8) (h : twoB c d = true) : (c = 45 ∧ d = 62) ∨ (c = 60 ∧ d = 45) ∨ (c = 33 ∧ d = 61) ∨ (c = 60 ∧ d = 61) ∨ (c = 62 ∧ d = 61) := by
  unfold twoB at h
  simp only [Bool.or_eq_true, Bool.and_eq_true, beq_iff_eq] at h
  rcases h with (((h | h) | h) | h) | h <;> simp [← h.1, ← h.2]
theorem two_no (c d : UInt8) (h : twoB c d = false) : ∀ a b : UInt8, ((a = 45 ∧ b = 62) ∨ (a = 60 ∧ b = 45) ∨ (a = 33 ∧ b = 61) ∨ (a = 60 ∧ b = 61) ∨ (a = 62 ∧ b = 61)) → ([c, d] == [a, b]) = false := by
  intro a b hab
  cases h2 : ([c, d] == [a, b])
  · rfl
  · simp at h2
    obtain ⟨rfl, rfl⟩ := h2
    unfold twoB at h
    rcases hab with ⟨rfl, rfl⟩ | ⟨rfl, rfl⟩ | ⟨rfl, rfl⟩ | ⟨rfl, rfl⟩ | ⟨rfl, rfl⟩ <;> simp at h
set_option maxHeartbeats 8000000 in
theorem rmark_any (l : List UInt8) (p : Nat) (hp : p < l.length) (hl : l.length ≤ 100000) (w : World) :
    Calls Tryd.prog 68 #[.string (str l), .int .i64 (p : Int)] w fun e w' => e = .returned (.int .i64 (markN (l.drop p) : Int)) ∧ w = w' := by
  obtain ⟨L, hL⟩ : ∃ L, L = l.length := ⟨_, rfl⟩
  have hl2 : L ≤ 100000 := by omega
  have hp3 : p < L := by omega
  have hsz : (str l).size = L := by rw [str_size, hL]
  obtain ⟨c, hc⟩ : ∃ c, l[p]? = some c := ⟨_, List.getElem?_eq_getElem hp⟩
  have hd := drop_at l p c hc
  have i0 : (0 : Int) ≤ (p : Int) := by omega
  have i1 : (p : Int) < (L : Int) := by omega
  have i3 : IntKind.i64.wrap ((p : Int) + 1) = (p : Int) + 1 := by rw [IntKind.wrap_i64]; omega
  have i4 : IntKind.i64.wrap ((p : Int) + 2) = (p : Int) + 2 := by rw [IntKind.wrap_i64]; omega
  by_cases hend : p + 1 = L
  · have hd2 : l.drop (p + 1) = [] := List.drop_eq_nil_of_le (by omega)
    rw [hd, hd2, marks_last]
    have j1 : ¬ (p : Int) + 1 < (L : Int) := by omega
    obtain ⟨m, hm⟩ : ∃ m, m = c.toNat := ⟨_, rfl⟩
    have hg : ∀ h : p < (str l).size, (((str l)[p]'h).toNat : Int) = (m : Int) := fun h => by rw [at_str l p c hc h, hm]
    by_cases ho : oneB c = true
    · rw [if_pos ho]
      have h13 := one_yes c ho
      rw [← hm] at h13
      clear ho hd hd2 hc hend hp3 hp hl hl2 hL hm
      rcases h13 with rfl | rfl | rfl | rfl | rfl | rfl | rfl | rfl | rfl | rfl | rfl | rfl | rfl
      all_goals (
        go_enter Tryd.func68, Tryd.ntmps68
        go_wp2
        go_ret
        exact ⟨rfl, rfl⟩)
    · rw [if_neg ho]
      have ho2 : oneB c = false := by simpa using ho
      have h13 := one_no c ho2
      rw [← hm] at h13
      obtain ⟨n1, n2, n3, n4, n5, n6, n7, n8, n9, n10, n11, n12, n13⟩ := h13
      have t1 : ((m : Int) == 40) = false := by simp; omega
      have t2 : ((m : Int) == 41) = false := by simp; omega
      have t3 : ((m : Int) == 91) = false := by simp; omega
      have t4 : ((m : Int) == 93) = false := by simp; omega
      have t5 : ((m : Int) == 123) = false := by simp; omega
      have t6 : ((m : Int) == 125) = false := by simp; omega
      have t7 : ((m : Int) == 58) = false := by simp; omega
      have t8 : ((m : Int) == 44) = false := by simp; omega
      have t9 : ((m : Int) == 46) = false := by simp; omega
      have t10 : ((m : Int) == 45) = false := by simp; omega
      have t11 : ((m : Int) == 60) = false := by simp; omega
      have t12 : ((m : Int) == 62) = false := by simp; omega
      have t13 : ((m : Int) == 61) = false := by simp; omega
      clear ho ho2 hd hd2 hc hend hp3 hp hl hl2 hL hm n1 n2 n3 n4 n5 n6 n7 n8 n9 n10 n11 n12 n13
      go_enter Tryd.func68, Tryd.ntmps68
      go_wp2
      go_ret
      exact ⟨rfl, rfl⟩
  · obtain ⟨d, hc2⟩ : ∃ d, l[p + 1]? = some d := ⟨_, List.getElem?_eq_getElem (by omega)⟩
    have hd2 := drop_at l (p + 1) d hc2
    have j1 : (p : Int) + 1 < (L : Int) := by omega
    have j2 : (p : Int) + 2 ≤ (L : Int) := by omega
    have hcut : (str l).extract p (p + 2) = str [c, d] := by rw [cut_extract, show p + 2 - p = 2 by omega, hd, hd2]; rfl
    rw [hd, hd2, marks_head]
    by_cases ht : twoB c d = true
    · rw [if_pos ht]
      have h5 := two_yes c d ht
      have hcut2 : ∀ a b : UInt8, c = a ∧ d = b → (str l).extract p (p + 2) = (⟨#[a, b]⟩ : ByteArray) := fun a b h => by rw [hcut, h.1, h.2]; rfl
      clear ht hd hd2 hc hc2 hend hp3 hp hl hl2 hL hcut
      rcases h5 with h | h | h | h | h
      all_goals (
        have hcut3 := hcut2 _ _ h
        clear hcut2 h
        go_enter Tryd.func68, Tryd.ntmps68
        go_wp2
        go_ret
        exact ⟨rfl, rfl⟩)
    · rw [if_neg ht]
      have ht2 : twoB c d = false := by simpa using ht
      have hno := two_no c d ht2
      obtain ⟨S2, hS2⟩ : ∃ S, S = str [c, d] := ⟨_, rfl⟩
      rw [← hS2] at hcut
      have s0 : (S2.toList == [45, 62]) = false := by rw [hS2, str_bl]; exact hno 45 62 (by simp)
      have r0 : ¬ S2.toList = [45, 62] := by simpa using s0
      have s1 : (S2.toList == [60, 45]) = false := by rw [hS2, str_bl]; exact hno 60 45 (by simp)
      have r1 : ¬ S2.toList = [60, 45] := by simpa using s1
      have s2 : (S2.toList == [33, 61]) = false := by rw [hS2, str_bl]; exact hno 33 61 (by simp)
      have r2 : ¬ S2.toList = [33, 61] := by simpa using s2
      have s3 : (S2.toList == [60, 61]) = false := by rw [hS2, str_bl]; exact hno 60 61 (by simp)
      have r3 : ¬ S2.toList = [60, 61] := by simpa using s3
      have s4 : (S2.toList == [62, 61]) = false := by rw [hS2, str_bl]; exact hno 62 61 (by simp)
      have r4 : ¬ S2.toList = [62, 61] := by simpa using s4
      obtain ⟨m, hm⟩ : ∃ m, m = c.toNat := ⟨_, rfl⟩
      have hg : ∀ h : p < (str l).size, (((str l)[p]'h).toNat : Int) = (m : Int) := fun h => by rw [at_str l p c hc h, hm]
      by_cases ho : oneB c = true
      · rw [if_pos ho]
        have h13 := one_yes c ho
        rw [← hm] at h13
        clear ho hd hd2 hc hc2 hend hp3 hp hl hl2 hL hm ht ht2 hno hS2
        rcases h13 with rfl | rfl | rfl | rfl | rfl | rfl | rfl | rfl | rfl | rfl | rfl | rfl | rfl
        all_goals (
          go_enter Tryd.func68, Tryd.ntmps68
          go_wp2
          go_ret
          exact ⟨rfl, rfl⟩)
      · rw [if_neg ho]
        have ho2 : oneB c = false := by simpa using ho
        have h13 := one_no c ho2
        rw [← hm] at h13
        obtain ⟨n1, n2, n3, n4, n5, n6, n7, n8, n9, n10, n11, n12, n13⟩ := h13
        have t1 : ((m : Int) == 40) = false := by simp; omega
        have t2 : ((m : Int) == 41) = false := by simp; omega
        have t3 : ((m : Int) == 91) = false := by simp; omega
        have t4 : ((m : Int) == 93) = false := by simp; omega
        have t5 : ((m : Int) == 123) = false := by simp; omega
        have t6 : ((m : Int) == 125) = false := by simp; omega
        have t7 : ((m : Int) == 58) = false := by simp; omega
        have t8 : ((m : Int) == 44) = false := by simp; omega
        have t9 : ((m : Int) == 46) = false := by simp; omega
        have t10 : ((m : Int) == 45) = false := by simp; omega
        have t11 : ((m : Int) == 60) = false := by simp; omega
        have t12 : ((m : Int) == 62) = false := by simp; omega
        have t13 : ((m : Int) == 61) = false := by simp; omega
        clear ho ho2 hd hd2 hc hc2 hend hp3 hp hl hl2 hL hm ht ht2 hno hS2 n1 n2 n3 n4 n5 n6 n7 n8 n9 n10 n11 n12 n13
        go_enter Tryd.func68, Tryd.ntmps68
        go_wp2
        go_ret
        exact ⟨rfl, rfl⟩
end Go.Proofs.YtgbkpkioijbgoaaDoor.lex
end
