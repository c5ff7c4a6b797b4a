/- Any block of any key and nonce is the document's; any bytes turned are the document's, and turned again what they were. No condition. -/
import Derived.Test.YtfgefcnllbganaaChachaAwake
import Derived.Test.YtfgefcnllbganaaChaRef4
namespace Go.Proofs.Ytfgefcnllbganaa.chacha
open Go.RowKit
attribute [local go_sem ↓] Go.wp_at_zero Go.wp_at_succ
set_option linter.unusedVariables false

def keyOf (s : ByteArray) : ByteArray := (s ++ ⟨#[48, 49, 50, 51, 52, 53, 54, 55, 56, 57, 97, 98, 99, 100, 101, 102, 48, 49, 50, 51, 52, 53, 54, 55, 56, 57, 97, 98, 99, 100, 101, 102]⟩).extract 0 32
def nonceOf (s : ByteArray) : ByteArray := (s ++ ⟨#[48, 49, 50, 51, 52, 53, 54, 55, 56, 57, 97, 98]⟩).extract 0 12
theorem keyOf_size (s : ByteArray) : (keyOf s).size = 32 := by
  unfold keyOf
  rw [ByteArray.size_extract, ByteArray.size_append]
  show min 32 (s.size + 32) - 0 = 32
  omega
theorem nonceOf_size (s : ByteArray) : (nonceOf s).size = 12 := by
  unfold nonceOf
  rw [ByteArray.size_extract, ByteArray.size_append]
  show min 12 (s.size + 12) - 0 = 12
  omega
theorem key_any (s : ByteArray) (hs : s.size ≤ reachBytes) (w : World) : Calls Try.prog 10 #[.string s] w fun e w' => e = .returned (.string (keyOf s)) ∧ Below w.heap.size w w' := by
  have h1 : ¬ 9223372036854775807 < s.size + 32 := by unfold reachBytes at hs; omega
  clear hs
  go_enter Try.func10, Try.ntmps10
  go_wp2
  go_ret
  exact ⟨rfl, Below.refl _ _⟩
theorem nonce_any (s : ByteArray) (hs : s.size ≤ reachBytes) (w : World) : Calls Try.prog 11 #[.string s] w fun e w' => e = .returned (.string (nonceOf s)) ∧ Below w.heap.size w w' := by
  have h1 : ¬ 9223372036854775807 < s.size + 12 := by unfold reachBytes at hs; omega
  clear hs
  go_enter Try.func11, Try.ntmps11
  go_wp2
  go_ret
  exact ⟨rfl, Below.refl _ _⟩

set_option maxRecDepth 100000 in
theorem chachaBlocks_walk (a0 a1 : ByteArray) (a2 : Int) (w : World) (w0 : a0.size ≤ reachBytes) (w1 : a1.size ≤ reachBytes) (w2 : (Lit.int .u32 a2).wf = true) :
    Calls Try.prog 3 #[.string a0, .string a1, .int .u32 a2] w fun e w' => e = .returned (.bool true) ∧ Below w.heap.size w w' := by
  obtain ⟨n, rfl, hn⟩ : ∃ n : Nat, a2 = (n : Int) ∧ n < 4294967296 := by
    have : 0 ≤ a2 ∧ a2 ≤ 4294967295 := by simpa [Lit.wf, IntKind.min, IntKind.max, IntKind.signed, IntKind.bits] using w2
    exact ⟨a2.toNat, by omega, by omega⟩
  have hk := fun w' => key_any a0 w0 w'
  have hno := fun w' => nonce_any a1 w1 w'
  have hb := fun w' => block_any (keyOf a0) (nonceOf a1) n (keyOf_size a0) (nonceOf_size a1) hn w'
  have hr := fun w' => rblock_any (keyOf a0) (nonceOf a1) n (keyOf_size a0) (nonceOf_size a1) hn w'
  obtain ⟨T, hT⟩ : ∃ T, T = str (blockU (stAt (keyOf a0) (nonceOf a1) n)) := ⟨_, rfl⟩
  obtain ⟨k0, hk0⟩ : ∃ k, k = keyOf a0 := ⟨_, rfl⟩
  obtain ⟨n0, hn0⟩ : ∃ k, k = nonceOf a1 := ⟨_, rfl⟩
  rw [← hT, ← hk0, ← hn0] at hb hr
  rw [← hk0] at hk
  rw [← hn0] at hno
  have hbb : Below w.heap.size w w := Below.refl _ _
  replace hbb := Lib.hid hbb
  replace hk := Lib.hid hk
  replace hno := Lib.hid hno
  replace hb := Lib.hid hb
  replace hr := Lib.hid hr
  clear w0 w1 w2 hn hT hk0 hn0
  go_enter Try.func3, Try.ntmps3
  go_wp2_with (first
    | (go_at_call 8; (with_reducible refine (awake_any _).mono ?_); rintro e w1 ⟨rfl, b1⟩; replace hbb := Lib.hid (belowCont hbb.out b1))
    | (go_at_call 10; (with_reducible refine (hk.out _).mono ?_); rintro e w1 ⟨rfl, b1⟩; replace hbb := Lib.hid (belowCont hbb.out b1))
    | (go_at_call 11; (with_reducible refine (hno.out _).mono ?_); rintro e w1 ⟨rfl, b1⟩; replace hbb := Lib.hid (belowCont hbb.out b1))
    | (go_at_call 9; (with_reducible refine (hb.out _).mono ?_); rintro e w1 ⟨rfl, b1⟩; replace hbb := Lib.hid (belowCont hbb.out b1))
    | (go_at_call 12; (with_reducible refine (hr.out _).mono ?_); rintro e w1 ⟨rfl, b1⟩; replace hbb := Lib.hid (belowCont hbb.out b1)))
  all_goals go_ret
  all_goals exact ⟨rfl, hbb.out⟩

set_option maxRecDepth 100000 in
theorem chachaTurns_walk (a0 a1 a2 : ByteArray) (w : World) (w0 : a0.size ≤ reachBytes) (w1 : a1.size ≤ reachBytes) (w2 : a2.size ≤ reachBytes) :
    Calls Try.prog 4 #[.string a0, .string a1, .string a2] w fun e w' => e = .returned (.bool true) ∧ Below w.heap.size w w' := by
  obtain ⟨T, hT⟩ : ∃ T : List UInt8, T = a2.data.toList.take 500 := ⟨_, rfl⟩
  have hx : a2.extract 0 500 = str T := by rw [hT]; exact cut_text _ _
  have hx2 : a2.size ≤ 500 → a2.extract 0 a2.size = str T := by intro h; rw [hT]; exact cut_whole _ _ h
  have hTl : T.length ≤ 500 := by rw [hT, List.length_take]; omega
  clear hT
  have hk := fun w' => key_any a0 w0 w'
  have hno := fun w' => nonce_any a1 w1 w'
  have hb := fun w' => turn_any (keyOf a0) (nonceOf a1) T (keyOf_size a0) (nonceOf_size a1) (by omega) w'
  have hr := fun w' => rturn_any (keyOf a0) (nonceOf a1) T (keyOf_size a0) (nonceOf_size a1) (by omega) w'
  obtain ⟨U, hU⟩ : ∃ U, U = turnedL (keyOf a0) (nonceOf a1) T T.length := ⟨_, rfl⟩
  have hc : ∀ w', Calls Try.prog 13 #[.string (keyOf a0), .string (nonceOf a1), .string (str U)] w' fun e w2 => e = .returned (.string (str T)) ∧ Below w'.heap.size w' w2 := fun w' => by
    have hl : U.length = T.length := by rw [hU, turnedL_len]
    have := turn_any (keyOf a0) (nonceOf a1) U (keyOf_size a0) (nonceOf_size a1) (by omega) w'
    have e : turnedL (keyOf a0) (nonceOf a1) U U.length = T := by rw [hl, hU, turnedL_twice]
    rwa [e] at this
  obtain ⟨T0, hT0⟩ : ∃ X, X = str T := ⟨_, rfl⟩
  obtain ⟨U0, hU0⟩ : ∃ X, X = str U := ⟨_, rfl⟩
  obtain ⟨k0, hk0⟩ : ∃ k, k = keyOf a0 := ⟨_, rfl⟩
  obtain ⟨n0, hn0⟩ : ∃ k, k = nonceOf a1 := ⟨_, rfl⟩
  rw [← hU, ← hU0, ← hk0, ← hn0, ← hT0] at hb hr
  rw [← hU0, ← hk0, ← hn0, ← hT0] at hc
  rw [← hT0] at hx hx2
  rw [← hk0] at hk
  rw [← hn0] at hno
  have hbb : Below w.heap.size w w := Below.refl _ _
  replace hbb := Lib.hid hbb
  replace hk := Lib.hid hk
  replace hno := Lib.hid hno
  replace hb := Lib.hid hb
  replace hr := Lib.hid hr
  replace hc := Lib.hid hc
  replace hx2 := Lib.hid hx2
  replace hx := Lib.hid hx
  clear w0 w1 w2 hTl hU hT0 hU0 hk0 hn0
  go_enter Try.func4, Try.ntmps4
  go_upto_region 1 with fail
  go_cut [7] from 9 (fun v wx => v = .string T0 ∧ wx = w)
  case first =>
    by_cases h : a2.size ≤ 500
    · have e := hx2.out h
      go_wp2
      go_meet
      case rel => exact ⟨rfl, rfl⟩
    · have e := hx.out
      go_wp2
      go_meet
      case rel => exact ⟨rfl, rfl⟩
  case rest =>
    obtain ⟨rfl, rfl⟩ := hcut
    go_wp2_with (first
      | (go_at_call 8; (with_reducible refine (awake_any _).mono ?_); rintro e w1 ⟨rfl, b1⟩; replace hbb := Lib.hid (belowCont hbb.out b1))
      | (go_at_call 10; (with_reducible refine (hk.out _).mono ?_); rintro e w1 ⟨rfl, b1⟩; replace hbb := Lib.hid (belowCont hbb.out b1))
      | (go_at_call 11; (with_reducible refine (hno.out _).mono ?_); rintro e w1 ⟨rfl, b1⟩; replace hbb := Lib.hid (belowCont hbb.out b1))
      | (go_at_call 13; (with_reducible refine (hb.out _).mono ?_); rintro e w1 ⟨rfl, b1⟩; replace hbb := Lib.hid (belowCont hbb.out b1))
      | (go_at_call 13; (with_reducible refine (hc.out _).mono ?_); rintro e w1 ⟨rfl, b1⟩; replace hbb := Lib.hid (belowCont hbb.out b1))
      | (go_at_call 14; (with_reducible refine (hr.out _).mono ?_); rintro e w1 ⟨rfl, b1⟩; replace hbb := Lib.hid (belowCont hbb.out b1)))
    all_goals go_ret
    all_goals exact ⟨rfl, hbb.out⟩
end Go.Proofs.Ytfgefcnllbganaa.chacha
