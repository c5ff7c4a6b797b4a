/- Bytes sealed for a place (package seal). The table of salts is a premise. No other condition. -/
import Derived.Test.YtcdcipfojfnblaaGreatDoorMgHm
import Derived.Test.YtcdcipfojfnblaaGreatDoorHigh
import Derived.Test.YtcdcipfojfnblaaGreatDoorBox
import Derived.StillTailTactics
import Derived.Deep.RegionHeld3
import Derived.Test.YtcdcipfojfnblaaGreatDoorMgCha
namespace Go.Proofs.YtcdcipfojfnblaaGreatDoor.sha
open Go.RowKit
attribute [local go_sem ↓] Go.wp_at_zero Go.wp_at_succ
attribute [local go_sem] str_size str_append
set_option linter.unusedVariables false
set_option maxRecDepth 100000

def stagL (G : List UInt8) (n : Nat) (no l : List UInt8) : List UInt8 := tagL G (high.beL 4 n ++ (no ++ l))
def turnL (key : ByteArray) (no l : List UInt8) : List UInt8 := chacha.turnedL key (str no) l l.length
def sealL (key : ByteArray) (G : List UInt8) (n : Nat) (no l : List UInt8) : List UInt8 := turnL key no l ++ stagL G n no (turnL key no l)
theorem stagL_len (G : List UInt8) (n : Nat) (no l : List UInt8) : (stagL G n no l).length = 32 := tagL_len _ _
theorem turnL_len (key : ByteArray) (no l : List UInt8) : (turnL key no l).length = l.length := chacha.turnedL_len _ _ _ _
theorem turnL_twice (key : ByteArray) (no l : List UInt8) : turnL key no (turnL key no l) = l := by
  have h := chacha.turnedL_twice key (str no) l l.length
  show chacha.turnedL key (str no) (chacha.turnedL key (str no) l l.length) (chacha.turnedL key (str no) l l.length).length = l
  rw [chacha.turnedL_len]; exact h
theorem sealL_len (key : ByteArray) (G : List UInt8) (n : Nat) (no l : List UInt8) : (sealL key G n no l).length = l.length + 32 := by rw [sealL, List.length_append, turnL_len, stagL_len]
set_option maxRecDepth 100000 in
theorem stag_any (T : ByteArray) (G no l : List UInt8) (p : Int) (n : Nat) (hw : IntKind.u32.wrap p = (n : Int)) (hn : n < 4294967296) (hG : G.length ≤ 1000000) (hno : no.length ≤ 1000) (hl : l.length ≤ 1000000) (w : World) (hT : SaltAt w salts) :
    Calls Tryz.prog 89 #[.agg #[.string T, .string (str G)], .int .i64 p, .string (str no), .string (str l)] w fun e w' => e = .returned (.string (str (stagL G n no l))) ∧ Below w.heap.size w w' := by
  have c1 : ∀ w', Calls Tryz.prog 65 #[.int .u32 (n : Int)] w' fun e w2 => e = .returned (.string (str (high.beL 4 n))) ∧ Below w'.heap.size w' w2 := fun w' => high.small_put n hn w'
  have hbl := high.beL_length 4 n
  have c2 : ∀ w', SaltAt w' salts → Calls Tryz.prog 112 #[.string (str G), .string (str (high.beL 4 n ++ (no ++ l)))] w' fun e w2 => e = .returned (.string (str (stagL G n no l))) ∧ Below w'.heap.size w' w2 := fun w' h => tag_any G (high.beL 4 n ++ (no ++ l)) (by omega) (by rw [List.length_append, List.length_append, hbl]; omega) w' h
  obtain ⟨B, hB⟩ : ∃ B, B = high.beL 4 n := ⟨_, rfl⟩
  obtain ⟨S, hS⟩ : ∃ B, B = str (stagL G n no l) := ⟨_, rfl⟩
  rw [← hB] at c1 c2 hbl
  rw [← hS] at c2 ⊢
  obtain ⟨a, ha⟩ : ∃ a, a = no.length := ⟨_, rfl⟩
  obtain ⟨b, hb⟩ : ∃ a, a = l.length := ⟨_, rfl⟩
  have r1 : ¬ 9223372036854775807 < 4 + no.length := by omega
  have r2 : ¬ 9223372036854775807 < 4 + no.length + l.length := by omega
  have r3 : ¬ 9223372036854775807 < 4 + (no.length + l.length) := by omega
  have hbb := Below.refl (w.alloc (.cells #[.string T, .string (str G)] 142)).heap.size (w.alloc (.cells #[.string T, .string (str G)] 142))
  have hT0 : SaltAt (w.alloc (.cells #[.string T, .string (str G)] 142)) salts := hT.keep ((Below.refl _ w).alloc (Nat.le_refl _) _)
  replace hbb := Lib.hid hbb
  clear hB hS ha hb hG hno hl
  replace c1 := Lib.hid c1; replace c2 := Lib.hid c2; replace hT := Lib.hid hT; replace hT0 := Lib.hid hT0; replace hn := Lib.hid hn
  have d0 : (w.alloc (.cells #[.string T, .string (str G)] 142)).cell? ⟨w.heap.size, 1, none⟩ = some (.string (str G)) := newCell _ _ _ 1
  replace d0 := Lib.hid d0
  have hlt : w.heap.size < (w.alloc (.cells #[.string T, .string (str G)] 142)).drew.heap.size := by simp
  replace hlt := Lib.hid hlt
  go_enter Tryz.func89, Tryz.ntmps89
  go_wp2
  go_region_held3 (fun w' => Below (w.alloc (.cells #[.string T, .string (str G)] 142)).heap.size (w.alloc (.cells #[.string T, .string (str G)] 142)) w' ∧ SaltAt w' salts ∧ w.heap.size < w'.heap.size ∧ w'.cell? ⟨w.heap.size, 1, none⟩ = some (.string (str G)))
    (first | exact ⟨hbb.out.drew, hT0.out.keep hbb.out.drew, hlt.out, d0.out⟩ | (go_split_ands; exact ⟨belowCont (by assumption) (by assumption), hT0.out.keep (belowCont (by assumption) (by assumption)), Nat.lt_of_lt_of_le (by assumption) (Below.size (by assumption)), (Below.cell (by assumption) (by assumption)).trans (by assumption)⟩))
    (first
      | (go_at_call 65; (with_reducible refine (c1.out _).mono ?_); rintro e w1 ⟨rfl, hb⟩)
      | (go_at_call 112; (with_reducible refine (c2.out _ (by go_split_ands; assumption)).mono ?_); rintro e w1 ⟨rfl, hb⟩))
  all_goals go_wp2
  all_goals go_ret
  all_goals (go_split_ands; exact ⟨rfl, (boxRow (by assumption)).2.2.2⟩)
theorem smay_yes (key : ByteArray) (no : List UInt8) (hk : key.size = 32) (hno : no.length = 12) (w : World) : Calls Tryz.prog 87 #[.string key, .string (str no)] w fun e w2 => e = .returned (.bool true) ∧ Below w.heap.size w w2 := by
  have := chacha.may_any key (str no) w
  simpa [hk, hno, str_size] using this
set_option maxRecDepth 100000 in
theorem put_any (key : ByteArray) (G no l : List UInt8) (p : Int) (n : Nat) (hw : IntKind.u32.wrap p = (n : Int)) (hn : n < 4294967296) (hk : key.size = 32) (hG : G.length ≤ 1000000) (hno : no.length = 12) (hl : l.length ≤ 1000000) (w : World) (hT : SaltAt w salts) :
    Calls Tryz.prog 66 #[.agg #[.string key, .string (str G)], .int .i64 p, .string (str no), .string (str l)] w fun e w' => e = .returned (.string (str (sealL key G n no l))) ∧ Below w.heap.size w w' := by
  have c1 := fun w' => smay_yes key no hk hno w'
  have c2 : ∀ w', Calls Tryz.prog 88 #[.string key, .string (str no), .string (str l)] w' fun e w2 => e = .returned (.string (str (turnL key no l))) ∧ Below w'.heap.size w' w2 := fun w' => chacha.turn_any key (str no) l hk (by rw [str_size]; exact hno) (by omega) w'
  have c3 := fun w' h => stag_any key G no (turnL key no l) p n hw hn hG (by omega) (by rw [turnL_len]; exact hl) w' h
  have e1 : sealL key G n no l = turnL key no l ++ stagL G n no (turnL key no l) := rfl
  have l1 := turnL_len key no l
  have l2 := stagL_len G n no (turnL key no l)
  obtain ⟨U, hU⟩ : ∃ U, U = turnL key no l := ⟨_, rfl⟩
  rw [← hU] at c2 c3 e1 l1 l2
  obtain ⟨S, hS⟩ : ∃ V, V = stagL G n no U := ⟨_, rfl⟩
  rw [← hS] at c3 e1 l2
  rw [e1]
  have r1 : ¬ 9223372036854775807 < l.length + 32 := by omega
  clear e1 hU hS hw hn hk hG hno hl
  have hbb := Below.refl (w.alloc (.cells #[.string key, .string (str G)] 142)).heap.size (w.alloc (.cells #[.string key, .string (str G)] 142))
  have hT0 : SaltAt (w.alloc (.cells #[.string key, .string (str G)] 142)) salts := hT.keep ((Below.refl _ w).alloc (Nat.le_refl _) _)
  replace hbb := Lib.hid hbb
  replace c1 := Lib.hid c1; replace c2 := Lib.hid c2; replace c3 := Lib.hid c3; replace hT := Lib.hid hT; replace hT0 := Lib.hid hT0
  go_enter Tryz.func66, Tryz.ntmps66
  go_wp2_with (first
    | (go_at_call 87; (with_reducible refine (c1.out _).mono ?_); rintro e w1 ⟨rfl, b1⟩; replace hbb := Lib.hid (belowCont hbb.out b1); clear b1; obtain ⟨-, hcell, -, -⟩ := boxRow hbb.out; have d0 := hcell 0; have d1 := hcell 1; clear hcell)
    | (go_at_call 88; (with_reducible refine (c2.out _).mono ?_); rintro e w1 ⟨rfl, b1⟩; replace hbb := Lib.hid (belowCont hbb.out b1); clear b1; obtain ⟨-, hcell, -, -⟩ := boxRow hbb.out; have d0 := hcell 0; have d1 := hcell 1; clear hcell)
    | (go_at_call 89; (with_reducible refine (c3.out _ (hT0.out.keep hbb.out)).mono ?_); rintro e w1 ⟨rfl, b1⟩; replace hbb := Lib.hid (belowCont hbb.out b1); clear b1; obtain ⟨-, hcell, -, -⟩ := boxRow hbb.out; have d0 := hcell 0; have d1 := hcell 1; clear hcell))
  all_goals go_outline
  all_goals go_ret
  all_goals exact ⟨rfl, (boxRow hbb.out).2.2.2⟩
theorem put_not (key nonce : ByteArray) (G s : ByteArray) (p : Int) (h : ¬ (key.size = 32 ∧ nonce.size = 12)) (w : World) :
    Calls Tryz.prog 66 #[.agg #[.string key, .string G], .int .i64 p, .string nonce, .string s] w fun e w' => e = .returned (.string ⟨#[]⟩) ∧ Below w.heap.size w w' := by
  have c1 := fun w' => chacha.may_not key nonce h w'
  clear h
  replace c1 := Lib.hid c1
  go_enter Tryz.func66, Tryz.ntmps66
  go_wp2_with (go_at_call 87; (with_reducible refine (c1.out _).mono ?_); rintro e w1 ⟨rfl, b1⟩; replace b1 := Lib.hid b1)
  all_goals go_ret
  all_goals exact ⟨rfl, (boxRow b1.out).2.2.2⟩
theorem get_not (key nonce : ByteArray) (G s : ByteArray) (p : Int) (hs : s.size ≤ 1000000) (h : s.size < 32 ∨ ¬ (key.size = 32 ∧ nonce.size = 12)) (w : World) :
    Calls Tryz.prog 71 #[.agg #[.string key, .string G], .int .i64 p, .string nonce, .string s] w fun e w' => e = .returned (.tuple #[.string ⟨#[]⟩, .int .i64 2]) ∧ Below w.heap.size w w' := by
  have hw : IntKind.i64.wrap ((s.size : Int) - 32) = (s.size : Int) - 32 := by rw [IntKind.wrap_i64]; omega
  by_cases h0 : s.size < 32
  · have h1 : (s.size : Int) - 32 < 0 := by omega
    clear h hs
    go_enter Tryz.func71, Tryz.ntmps71
    go_wp2
    go_returns
    exact ⟨rfl, (Below.refl _ _).alloc (Nat.le_refl _) _⟩
  · have c1 := fun w' => chacha.may_not key nonce (h.resolve_left h0) w'
    have h1 : ¬ (s.size : Int) - 32 < 0 := by omega
    have h2 : ¬ (s.size : Int) < 32 := by omega
    clear h hs
    replace c1 := Lib.hid c1
    go_enter Tryz.func71, Tryz.ntmps71
    go_wp2_with (go_at_call 87; (with_reducible refine (c1.out _).mono ?_); rintro e w1 ⟨rfl, b1⟩; replace b1 := Lib.hid b1)
    all_goals go_returns
    all_goals exact ⟨rfl, (boxRow b1.out).2.2.2⟩
set_option maxRecDepth 100000 in
theorem get_any (key : ByteArray) (G no tu ta : List UInt8) (p : Int) (n : Nat) (hw : IntKind.u32.wrap p = (n : Int)) (hn : n < 4294967296) (hk : key.size = 32) (hG : G.length ≤ 1000000) (hno : no.length = 12) (hl : tu.length ≤ 100000) (hta : ta.length = 32) (w : World) (hT : SaltAt w salts) :
    Calls Tryz.prog 71 #[.agg #[.string key, .string (str G)], .int .i64 p, .string (str no), .string (str (tu ++ ta))] w fun e w' => e = .returned (.tuple (if ta = stagL G n no tu then #[.string (str (turnL key no tu)), .int .i64 0] else #[.string ⟨#[]⟩, .int .i64 100])) ∧ Below w.heap.size w w' := by
  have c1 := fun w' => smay_yes key no hk hno w'
  have c2 : ∀ w', Calls Tryz.prog 88 #[.string key, .string (str no), .string (str tu)] w' fun e w2 => e = .returned (.string (str (turnL key no tu))) ∧ Below w'.heap.size w' w2 := fun w' => chacha.turn_any key (str no) tu hk (by rw [str_size]; exact hno) (by omega) w'
  have c3 := fun w' h => stag_any key G no tu p n hw hn hG (by omega) (by omega) w' h
  have hsl := stagL_len G n no tu
  have c4 := fun w' => same_any (str ta) (str (stagL G n no tu)) (by rw [str_size]; omega) (by rw [str_size]; omega) w'
  have hd : decide (str ta = str (stagL G n no tu)) = decide (ta = stagL G n no tu) := decide_eq_decide.mpr ⟨fun e => congrArg (fun x => x.data.toList) e, fun e => by rw [e]⟩
  rw [hd] at c4
  obtain ⟨S0, hS0⟩ : ∃ S, S = str (tu ++ ta) := ⟨_, rfl⟩
  obtain ⟨z, hz⟩ : ∃ z, z = S0.size := ⟨_, rfl⟩
  obtain ⟨a, ha⟩ : ∃ a, a = tu.length := ⟨_, rfl⟩
  have hza : z = a + 32 := by rw [hz, hS0, str_size, List.length_append, ha, hta]
  have hx1 : S0.extract 0 a = str tu := by rw [hS0, cut_extract, ha]; simp
  have hx2 : S0.extract a z = str ta := by rw [hS0, cut_extract, hza, ha, show tu.length + 32 - tu.length = ta.length by omega]; simp
  have hzs : S0.size = z := hz.symm
  have w1 : IntKind.i64.wrap ((z : Int) - 32) = (a : Int) := by rw [IntKind.wrap_i64]; omega
  have w2 : ¬ (a : Int) < 0 := by omega
  have w3 : (0 : Int) ≤ (a : Int) := by omega
  have w4 : (a : Int) ≤ (z : Int) := by omega
  rw [← hS0]
  obtain ⟨S, hS⟩ : ∃ U, U = str (stagL G n no tu) := ⟨_, rfl⟩
  obtain ⟨U, hU⟩ : ∃ U, U = str (turnL key no tu) := ⟨_, rfl⟩
  obtain ⟨T0, hT0⟩ : ∃ U, U = str tu := ⟨_, rfl⟩
  obtain ⟨A0, hA0⟩ : ∃ U, U = str ta := ⟨_, rfl⟩
  rw [← hS] at c3 c4
  rw [← hU] at c2 ⊢
  rw [← hT0] at c2 c3 hx1
  rw [← hA0] at c4 hx2
  by_cases hq : ta = stagL G n no tu
  · rw [if_pos hq]
    rw [decide_eq_true hq] at c4
    clear hq hS hU hT0 hA0 hw hn hk hG hno hl hta hS0 hz ha hza hd hsl
    have hbb := Below.refl (w.alloc (.cells #[.string key, .string (str G)] 142)).heap.size (w.alloc (.cells #[.string key, .string (str G)] 142))
    have hT0 : SaltAt (w.alloc (.cells #[.string key, .string (str G)] 142)) salts := hT.keep ((Below.refl _ w).alloc (Nat.le_refl _) _)
    replace hbb := Lib.hid hbb
    replace c1 := Lib.hid c1; replace c2 := Lib.hid c2; replace c3 := Lib.hid c3; replace c4 := Lib.hid c4; replace hT := Lib.hid hT; replace hT0 := Lib.hid hT0
    go_enter Tryz.func71, Tryz.ntmps71
    go_upto_region 4 with (first
      | (go_at_call 87; (with_reducible refine (c1.out _).mono ?_); rintro e w1 ⟨rfl, b1⟩; replace hbb := Lib.hid (belowCont hbb.out b1); clear b1; obtain ⟨-, hcell, -, -⟩ := boxRow hbb.out; have d0 := hcell 0; have d1 := hcell 1; clear hcell))
    refine wp_region_still_lit (by kernel_rfl) (by kernel_rfl) ?_
    change wpStill _ _ (World.drew _) _ _ _
    repeat still_step
    refine wpStill_nil ?_
    replace hbb := Lib.hid hbb.out.drew
    go_wp2_with (first
      | (go_at_call 87; (with_reducible refine (c1.out _).mono ?_); rintro e w1 ⟨rfl, b1⟩; replace hbb := Lib.hid (belowCont hbb.out b1); clear b1; obtain ⟨-, hcell, -, -⟩ := boxRow hbb.out; have d0 := hcell 0; have d1 := hcell 1; clear hcell)
      | (go_at_call 88; (with_reducible refine (c2.out _).mono ?_); rintro e w1 ⟨rfl, b1⟩; replace hbb := Lib.hid (belowCont hbb.out b1); clear b1; obtain ⟨-, hcell, -, -⟩ := boxRow hbb.out; have d0 := hcell 0; have d1 := hcell 1; clear hcell)
      | (go_at_call 89; (with_reducible refine (c3.out _ (hT0.out.keep hbb.out)).mono ?_); rintro e w1 ⟨rfl, b1⟩; replace hbb := Lib.hid (belowCont hbb.out b1); clear b1; obtain ⟨-, hcell, -, -⟩ := boxRow hbb.out; have d0 := hcell 0; have d1 := hcell 1; clear hcell)
      | (go_at_call 96; (with_reducible refine (c4.out _).mono ?_); rintro e w1 ⟨rfl, b1⟩; replace hbb := Lib.hid (belowCont hbb.out b1); clear b1; obtain ⟨-, hcell, -, -⟩ := boxRow hbb.out; have d0 := hcell 0; have d1 := hcell 1; clear hcell))
    all_goals go_outline
    all_goals go_returns
    all_goals exact ⟨rfl, (boxRow hbb.out).2.2.2⟩
  · rw [if_neg hq]
    rw [decide_eq_false hq] at c4
    clear hq hS hU hT0 hA0 hw hn hk hG hno hl hta hS0 hz ha hza hd hsl
    have hbb := Below.refl (w.alloc (.cells #[.string key, .string (str G)] 142)).heap.size (w.alloc (.cells #[.string key, .string (str G)] 142))
    have hT0 : SaltAt (w.alloc (.cells #[.string key, .string (str G)] 142)) salts := hT.keep ((Below.refl _ w).alloc (Nat.le_refl _) _)
    replace hbb := Lib.hid hbb
    replace c1 := Lib.hid c1; replace c2 := Lib.hid c2; replace c3 := Lib.hid c3; replace c4 := Lib.hid c4; replace hT := Lib.hid hT; replace hT0 := Lib.hid hT0
    go_enter Tryz.func71, Tryz.ntmps71
    go_upto_region 4 with (first
      | (go_at_call 87; (with_reducible refine (c1.out _).mono ?_); rintro e w1 ⟨rfl, b1⟩; replace hbb := Lib.hid (belowCont hbb.out b1); clear b1; obtain ⟨-, hcell, -, -⟩ := boxRow hbb.out; have d0 := hcell 0; have d1 := hcell 1; clear hcell))
    refine wp_region_still_lit (by kernel_rfl) (by kernel_rfl) ?_
    change wpStill _ _ (World.drew _) _ _ _
    repeat still_step
    refine wpStill_nil ?_
    replace hbb := Lib.hid hbb.out.drew
    go_wp2_with (first
      | (go_at_call 87; (with_reducible refine (c1.out _).mono ?_); rintro e w1 ⟨rfl, b1⟩; replace hbb := Lib.hid (belowCont hbb.out b1); clear b1; obtain ⟨-, hcell, -, -⟩ := boxRow hbb.out; have d0 := hcell 0; have d1 := hcell 1; clear hcell)
      | (go_at_call 88; (with_reducible refine (c2.out _).mono ?_); rintro e w1 ⟨rfl, b1⟩; replace hbb := Lib.hid (belowCont hbb.out b1); clear b1; obtain ⟨-, hcell, -, -⟩ := boxRow hbb.out; have d0 := hcell 0; have d1 := hcell 1; clear hcell)
      | (go_at_call 89; (with_reducible refine (c3.out _ (hT0.out.keep hbb.out)).mono ?_); rintro e w1 ⟨rfl, b1⟩; replace hbb := Lib.hid (belowCont hbb.out b1); clear b1; obtain ⟨-, hcell, -, -⟩ := boxRow hbb.out; have d0 := hcell 0; have d1 := hcell 1; clear hcell)
      | (go_at_call 96; (with_reducible refine (c4.out _).mono ?_); rintro e w1 ⟨rfl, b1⟩; replace hbb := Lib.hid (belowCont hbb.out b1); clear b1; obtain ⟨-, hcell, -, -⟩ := boxRow hbb.out; have d0 := hcell 0; have d1 := hcell 1; clear hcell))
    all_goals go_outline
    all_goals go_returns
    all_goals exact ⟨rfl, (boxRow hbb.out).2.2.2⟩
end Go.Proofs.YtcdcipfojfnblaaGreatDoor.sha
