/- No disk has no power; disks of other sizes there are none of: the law DiskNone. No condition. -/
import Derived.Test.YtdhboldmffiklabDisk4
namespace Go.Proofs.Ytdhboldmffiklab.disk
open Go.RowKit
attribute [local go_sem ↓] Go.wp_at_zero Go.wp_at_succ
attribute [local go_sem] str_size
set_option linter.unusedVariables false
set_option maxRecDepth 100000

def blockL (c : UInt8) : List UInt8 := List.replicate 512 c
theorem blockL_len (c : UInt8) : (blockL c).length = 512 := List.length_replicate ..
def piece (c : UInt8) (i : Nat) : List UInt8 := List.replicate i c ++ List.replicate (512 - i) 0
theorem piece_len (c : UInt8) (i : Nat) (h : i ≤ 512) : (piece c i).length = 512 := by simp [piece]; omega
theorem piece_step (c : UInt8) (i : Nat) (h : i < 512) : (piece c i).set i c = piece c (i + 1) := by
  apply List.ext_getElem?
  intro j
  unfold piece
  rw [List.getElem?_set]
  by_cases hj : i = j
  · subst hj
    rw [if_pos rfl, if_pos (by simp; omega), List.getElem?_append_left (by simp), List.getElem?_replicate, if_pos (by omega)]
  · rw [if_neg hj]
    by_cases h1 : j < i
    · rw [List.getElem?_append_left (by simp; exact h1), List.getElem?_append_left (by simp; omega), List.getElem?_replicate, List.getElem?_replicate, if_pos h1, if_pos (by omega)]
    · rw [List.getElem?_append_right (by simp; omega), List.getElem?_append_right (by simp; omega), List.getElem?_replicate, List.getElem?_replicate]
      simp
      by_cases h2 : j < 512
      · rw [if_pos (by omega), if_pos (by omega)]
      · rw [if_neg (by omega), if_neg (by omega)]
theorem block_any (c : UInt8) (w : World) : Calls Try.prog 27 #[.int .u8 (c.toNat : Int)] w fun e w' => e = .returned (.string (str (blockL c))) ∧ Below w.heap.size w w' := by
  have hmk : ∀ W, (Instr.makeSlice 37 (.int .i64 512) (.int .i64 512)).run Try.prog W = .ok (.slice (some ⟨W.heap.size, 0, none⟩) 512 512) (W.alloc (.cells (madeCells (Value.int .u8 0).cells 512) 5)) := fun W => run_make_bytes 512 (by omega) W
  have hb0 := byteBlk_made w 512
  replace hb0 := Lib.hid hb0
  go_enter Try.func27, Try.ntmps27
  go_wp2
  go_loopg [4] 512 (fun gn s4 wr => ∃ i : Nat, s4 = .int .i64 (i : Int) ∧ i + gn = 512 ∧ ByteBlk wr w.heap.size (piece c i) ∧ Below w.heap.size w wr)
  case atStart => exact ⟨0, rfl, by omega, by have h : piece c 0 = List.replicate 512 0 := by simp [piece]
                                              rw [h]; exact hb0.out, (Below.refl _ _).alloc (Nat.le_refl _) _⟩
  case round =>
    obtain ⟨i, rfl, hik, hblk, hB⟩ := hrel
    by_cases hi : i < 512
    · obtain ⟨K, rfl⟩ : ∃ K : Nat, gk = K + 1 := ⟨gk - 1, by omega⟩
      have e1 : (0 : Int) ≤ (i : Int) := by omega
      have e2 : (i : Int) < 512 := by omega
      have hl := piece_len c i (by omega)
      have hc := hblk.cell (i := i) (by omega)
      have hf := hblk.free i
      have hp := hblk.put (i := i) (n := (c.toNat : Int)) ⟨by omega, by have := UInt8.toNat_lt c; omega⟩
      have hcc : UInt8.ofNat ((c.toNat : Int)).toNat = c := by simp
      rw [hcc, piece_step c i hi] at hp
      have hik2 := Lib.hid hik
      replace hp := Lib.hid hp; replace hB := Lib.hid hB
      clear hblk hl hik hi hcc
      go_wp2
      go_roundg K
      case measure => omega
      case rel => exact ⟨i + 1, by first | go_num | (simp; unfold wrap64; omega), by have := hik2.out; omega, hp.out, hB.out.setCell (p := ⟨w.heap.size, i, none⟩) (Nat.le_refl _) _⟩
    · obtain rfl : i = 512 := by omega
      have ht := hblk.text 512
      have hl := piece_len c 512 (by omega)
      rw [hl] at ht
      have hw : piece c 512 = blockL c := by simp [piece, blockL]
      rw [hw] at ht
      clear hblk hik hi hl hw
      go_wp2
      go_ret
      exact ⟨rfl, hB⟩
/-- the states that 'awake' goes through: written; behind the failure -/
def wokeSt (s : List UInt8) : DSt := DSt.wrote { (blankSt (List.replicate 2 Z512)) with acts := 1 } 0 s
theorem wokeSt_f (s : List UInt8) : (wokeSt s).f ((0 : Nat) : Int) = some s := by simp [wokeSt, DSt.wrote]
theorem wokeSt_see (s : List UInt8) : (wokeSt s).see 0 = s := by unfold DSt.see; rw [wokeSt_f]
theorem wokeSt_row (s : List UInt8) : (wokeSt s).row = [0] := rfl
theorem wokeSt_len (s : List UInt8) : (wokeSt s).sure.length = 2 := rfl
theorem wokeSt_dead (s : List UInt8) : (wokeSt s).dead = false := rfl
def backSt (s : List UInt8) : DSt := { (wokeSt s).off with dead := false }
theorem backSt_len (s : List UInt8) : (backSt s).sure.length = 2 := rfl
theorem backSt_dead (s : List UInt8) : (backSt s).dead = false := rfl
theorem backSt_see (s : List UInt8) : (backSt s).see 0 = Z512 := rfl
theorem z512_block : Z512 = blockL 0 := rfl
theorem kawake_disk (w : World) : Calls Try.prog 25 #[] w fun e w' => e = .returned (.bool true) ∧ Below w.heap.size w w' := by
  have c1 : Calls Try.prog 24 #[.int .i64 2, .slice none 0 0] w fun e w' => e = .returned (.tuple #[.pointer (some ⟨w.heap.size + 1 + 1 + 1, 0, none⟩), .int .i64 0]) ∧ DiskAt w' w.heap.size (w.heap.size + 1 + 1 + 1) w.heap.size (w.heap.size + 1) (w.heap.size + 1 + 1) (.slice none 0 0) (blankSt (List.replicate 2 Z512)) ∧ Below w.heap.size w w' := new_ok 2 (by decide) (by decide) w
  have c2 : ∀ w', Calls Try.prog 27 #[.int .u8 97] w' fun e w2 => e = .returned (.string (str (blockL 97))) ∧ Below w'.heap.size w' w2 := fun w' => block_any 97 w'
  have c3 : ∀ w', Calls Try.prog 27 #[.int .u8 0] w' fun e w2 => e = .returned (.string (str (blockL 0))) ∧ Below w'.heap.size w' w2 := fun w' => block_any 0 w'
  obtain ⟨L, hL⟩ : ∃ L, L = blockL 97 := ⟨_, rfl⟩
  have hLl : L.length = 512 := by rw [hL]; exact blockL_len 97
  rw [← hL] at c2
  have c4 : ∀ w' B g q m k v, DiskAt w' B g q m k v (blankSt (List.replicate 2 Z512)) → Calls Try.prog 26 #[.pointer (some ⟨g, 0, none⟩), .int .i64 0, .string (str L)] w' fun e w2 => e = .returned (.int .i64 0) ∧ (∃ v2, DiskAt w2 B g q m k v2 (wokeSt L)) ∧ Below B w' w2 := fun w' B g q m k v h => write_first h rfl (by decide) 0 L (by decide) (by decide) hLl rfl (by decide)
  have c5 : ∀ w' B g q m k v, DiskAt w' B g q m k v (wokeSt L) → Calls Try.prog 30 #[.pointer (some ⟨g, 0, none⟩), .int .i64 0] w' fun e w2 => e = .returned (.tuple #[.string (str L), .int .i64 0]) ∧ Below w'.heap.size w' w2 := fun w' B g q m k v h => by
    have := read_any h (wokeSt_dead L) 0 (by rw [wokeSt_len]; decide) (by rw [wokeSt_len]; decide)
    rw [wokeSt_see] at this
    exact this
  have c6 : ∀ w' B g q m k v, DiskAt w' B g q m k v (wokeSt L) → Calls Try.prog 29 #[.pointer (some ⟨g, 0, none⟩), .int .u64 0] w' fun e w2 => e = .returned (.tuple #[]) ∧ (∃ m2, DiskAt w2 B g q m2 k (.slice none 0 0) (wokeSt L).off) ∧ Below B w' w2 := fun w' B g q m k v h => fail_zero h (wokeSt_dead L) 0 (wokeSt_row L) (by rw [wokeSt_len]; decide) (by rw [wokeSt_len]; decide) L (wokeSt_f L)
  have c7 : ∀ w' B g q m k v, DiskAt w' B g q m k v (wokeSt L).off → Calls Try.prog 18 #[.pointer (some ⟨g, 0, none⟩)] w' fun e w2 => e = .returned (.tuple #[]) ∧ DiskAt w2 B g q m k v (backSt L) ∧ Below B w' w2 := fun w' B g q m k v h => up_any h
  have c8 : ∀ w' B g q m k v, DiskAt w' B g q m k v (backSt L) → Calls Try.prog 30 #[.pointer (some ⟨g, 0, none⟩), .int .i64 0] w' fun e w2 => e = .returned (.tuple #[.string (str (blockL 0)), .int .i64 0]) ∧ Below w'.heap.size w' w2 := fun w' B g q m k v h => by
    have := read_any h (backSt_dead L) 0 (by rw [backSt_len]; decide) (by rw [backSt_len]; decide)
    rw [backSt_see, z512_block] at this
    exact this
  obtain ⟨W97, hW97⟩ : ∃ x, x = str L := ⟨_, rfl⟩
  obtain ⟨W0, hW0⟩ : ∃ x, x = str (blockL 0) := ⟨_, rfl⟩
  rw [← hW97] at c2 c4 c5
  rw [← hW0] at c3 c8
  have hse : (W97.toList == W97.toList) = true := by simp
  have hse0 : (W0.toList == W0.toList) = true := by simp
  clear hL hLl hW97 hW0
  replace c1 := Lib.hid c1; replace c2 := Lib.hid c2; replace c3 := Lib.hid c3; replace c4 := Lib.hid c4; replace c5 := Lib.hid c5; replace c6 := Lib.hid c6; replace c7 := Lib.hid c7; replace c8 := Lib.hid c8
  go_enter Try.func25, Try.ntmps25
  go_wp2_with (first
    | (go_at_call 24; (with_reducible refine c1.out.mono ?_); rintro e w1 ⟨rfl, hD, b1⟩; replace hD := Lib.hid hD; replace b1 := Lib.hid b1)
    | (go_at_call 27; (with_reducible refine (c2.out _).mono ?_); rintro e w2 ⟨rfl, b2⟩; replace b1 := Lib.hid (belowCont b1.out b2); (try replace hD := Lib.hid (hD.out.below b2)); (try replace hE := Lib.hid (hE.out.below b2)); (try replace hG := Lib.hid (hG.out.below b2)); clear b2)
    | (go_at_call 27; (with_reducible refine (c3.out _).mono ?_); rintro e w2 ⟨rfl, b2⟩; replace b1 := Lib.hid (belowCont b1.out b2); (try replace hG := Lib.hid (hG.out.below b2)); clear b2)
    | (go_at_call 26; (with_reducible refine (c4.out _ _ _ _ _ _ _ hD.out).mono ?_); rintro e w3 ⟨rfl, ⟨v2, hE⟩, b3⟩; replace b1 := Lib.hid (b1.out.trans b3); replace hE := Lib.hid hE; clear hD b3)
    | (go_at_call 30; (with_reducible refine (c5.out _ _ _ _ _ _ _ hE.out).mono ?_); rintro e w4 ⟨rfl, b4⟩; replace b1 := Lib.hid (belowCont b1.out b4); replace hE := Lib.hid (hE.out.below b4); clear b4)
    | (go_at_call 29; (with_reducible refine (c6.out _ _ _ _ _ _ _ hE.out).mono ?_); rintro e w5 ⟨rfl, ⟨m2, hF⟩, b5⟩; replace b1 := Lib.hid (b1.out.trans b5); replace hF := Lib.hid hF; clear hE b5)
    | (go_at_call 18; (with_reducible refine (c7.out _ _ _ _ _ _ _ hF.out).mono ?_); rintro e w6 ⟨rfl, hG, b6⟩; replace b1 := Lib.hid (b1.out.trans b6); replace hG := Lib.hid hG; clear hF b6)
    | (go_at_call 30; (with_reducible refine (c8.out _ _ _ _ _ _ _ hG.out).mono ?_); rintro e w7 ⟨rfl, b7⟩; replace b1 := Lib.hid (belowCont b1.out b7); replace hG := Lib.hid (hG.out.below b7); clear b7))
  go_outline
  all_goals go_ret
  all_goals exact ⟨rfl, b1.out⟩
end Go.Proofs.Ytdhboldmffiklab.disk
