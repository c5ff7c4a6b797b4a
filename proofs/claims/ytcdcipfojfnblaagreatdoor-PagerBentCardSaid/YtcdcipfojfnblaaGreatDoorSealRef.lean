/- Sealed bytes: the document's own, what each law of package seal asks first, its keys and nonces. The table of salts is a premise. No other condition. -/
import Derived.Test.YtcdcipfojfnblaaGreatDoorSeal
import Derived.Test.YtcdcipfojfnblaaGreatDoorMgHm
import Derived.Test.YtcdcipfojfnblaaGreatDoorMgChR
namespace Go.Proofs.YtcdcipfojfnblaaGreatDoor.sha
open Go.RowKit
attribute [local go_sem ↓] Go.wp_at_zero Go.wp_at_succ
attribute [local go_sem] str_size str_append
set_option linter.unusedVariables false
set_option maxRecDepth 100000

theorem rseal_any (key : ByteArray) (G no l : List UInt8) (p : Int) (n : Nat) (hw : IntKind.u32.wrap p = (n : Int)) (hn : n < 4294967296) (hk : key.size = 32) (hG : G.length ≤ 1000000) (hno : no.length = 12) (hl : l.length ≤ 100000) (w : World) :
    Calls Tryz.prog 57 #[.string key, .string (str G), .int .i64 p, .string (str no), .string (str l)] w fun e w' => e = .returned (.string (str (sealL key G n no l))) ∧ Below w.heap.size w w' := by
  have c1 : ∀ w', Calls Tryz.prog 76 #[.string key, .string (str no), .string (str l)] w' fun e w2 => e = .returned (.string (str (turnL key no l))) ∧ Below w'.heap.size w' w2 := fun w' => chacha.rturn_any key (str no) l hk (by rw [str_size]; exact hno) (by omega) w'
  have c2 : ∀ w', Calls Tryz.prog 55 #[.int .u64 (n : Int), .int .i64 4] w' fun e w2 => e = .returned (.string (str (high.beL 4 n))) ∧ Below w'.heap.size w' w2 := fun w' => high.refHigh_any n 4 (by omega) (by omega) w'
  have hbl := high.beL_length 4 n
  have l1 := turnL_len key no l
  have l2 := stagL_len G n no (turnL key no l)
  have c3 : ∀ w', Calls Tryz.prog 75 #[.string (str G), .string (str (high.beL 4 n ++ (no ++ turnL key no l)))] w' fun e w2 => e = .returned (.string (str (stagL G n no (turnL key no l)))) ∧ Below w'.heap.size w' w2 := fun w' => rtag_any G (high.beL 4 n ++ (no ++ turnL key no l)) (by omega) (by rw [List.length_append, List.length_append, hbl, l1]; omega) w'
  have e1 : sealL key G n no l = turnL key no l ++ stagL G n no (turnL key no l) := rfl
  have hw2 : IntKind.u64.wrap (n : Int) = (n : Int) := IntWalk.u64_in _ (by omega)
  obtain ⟨B, hB⟩ : ∃ B, B = high.beL 4 n := ⟨_, rfl⟩
  obtain ⟨U, hU⟩ : ∃ U, U = turnL key no l := ⟨_, rfl⟩
  rw [← hB] at c2 c3 hbl
  rw [← hU] at c1 c3 e1 l1 l2
  obtain ⟨S, hS⟩ : ∃ V, V = stagL G n no U := ⟨_, rfl⟩
  rw [← hS] at c3 e1 l2
  rw [e1]
  have r0 : ¬ 9223372036854775807 < 4 + no.length := by omega
  have r1 : ¬ 9223372036854775807 < 4 + no.length + l.length := by omega
  have r2 : ¬ 9223372036854775807 < 4 + (no.length + l.length) := by omega
  have r3 : ¬ 9223372036854775807 < l.length + 32 := by omega
  clear e1 hB hU hS hn hk hG hno hl
  have hbb : Below w.heap.size w w := Below.refl _ _
  replace hbb := Lib.hid hbb
  replace c1 := Lib.hid c1; replace c2 := Lib.hid c2; replace c3 := Lib.hid c3
  go_enter Tryz.func57, Tryz.ntmps57
  go_wp2_with (first
    | (go_at_call 76; (with_reducible refine (c1.out _).mono ?_); rintro e w1 ⟨rfl, b1⟩; replace hbb := Lib.hid (belowCont hbb.out b1); clear b1)
    | (go_at_call 55; (with_reducible refine (c2.out _).mono ?_); rintro e w1 ⟨rfl, b1⟩; replace hbb := Lib.hid (belowCont hbb.out b1); clear b1)
    | (go_at_call 75; (with_reducible refine (c3.out _).mono ?_); rintro e w1 ⟨rfl, b1⟩; replace hbb := Lib.hid (belowCont hbb.out b1); clear b1))
  all_goals go_ret
  all_goals exact ⟨rfl, hbb.out⟩
theorem get_put (key : ByteArray) (G no l : List UInt8) (p : Int) (n : Nat) (hw : IntKind.u32.wrap p = (n : Int)) (hn : n < 4294967296) (hk : key.size = 32) (hG : G.length ≤ 1000000) (hno : no.length = 12) (hl : l.length ≤ 100000) (w : World) (hT : SaltAt w salts) :
    Calls Tryz.prog 71 #[.agg #[.string key, .string (str G)], .int .i64 p, .string (str no), .string (str (sealL key G n no l))] w fun e w' => e = .returned (.tuple #[.string (str l), .int .i64 0]) ∧ Below w.heap.size w w' := by
  have h := get_any key G no (turnL key no l) (stagL G n no (turnL key no l)) p n hw hn hk hG hno (by rw [turnL_len]; exact hl) (stagL_len _ _ _ _) w hT
  rw [if_pos rfl, turnL_twice] at h
  exact h
def tag50 (s : ByteArray) : List UInt8 := s.data.toList.take 50
theorem tag50_len (s : ByteArray) : (tag50 s).length ≤ 50 := by rw [tag50, List.length_take]; omega
def nonceL (s : ByteArray) : List UInt8 := (chacha.nonceOf s).data.toList
theorem nonceL_len (s : ByteArray) : (nonceL s).length = 12 := by
  have := chacha.nonceOf_size s
  rw [nonceL, Array.length_toList]; exact this
end Go.Proofs.YtcdcipfojfnblaaGreatDoor.sha
