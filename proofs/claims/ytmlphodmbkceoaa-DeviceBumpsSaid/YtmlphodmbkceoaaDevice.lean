/- A device (package device) on a disk, where no cut is planned; the law DeviceInput. No condition. -/
import Derived.Test.YtmlphodmbkceoaaDisk2
namespace Go.Proofs.Ytmlphodmbkceoaa.disk
open Go.RowKit
attribute [local go_sem ↓] Go.wp_at_zero Go.wp_at_succ
attribute [local go_sem] str_size
set_option linter.unusedVariables false
set_option maxRecDepth 100000

def Z33 : List UInt8 := List.replicate 33 0
theorem repeat_z33 : Lib.repeatL [0] 33 = Z33 := by decide +kernel
theorem repeat33_any (w : World) : Calls Try.prog 118 #[.string ⟨#[0]⟩, .int .i64 33] w fun e w' => e = .returned (.string (str Z33)) ∧ Below w.heap.size w w' := by
  have h := Go.Proofs.Try.strings_Repeat ⟨#[0]⟩ 33 w (by decide) (by decide)
  have e : Lib.repeatL (⟨#[0]⟩ : ByteArray).data.toList 33 = Z33 := repeat_z33
  rw [e] at h
  exact h
def wordL (c : UInt8) : List UInt8 := List.replicate 33 c
theorem wordL_len (c : UInt8) : (wordL c).length = 33 := List.length_replicate ..
def part (c : UInt8) (i : Nat) : List UInt8 := List.replicate i c ++ List.replicate (33 - i) 0
theorem part_len (c : UInt8) (i : Nat) (h : i ≤ 33) : (part c i).length = 33 := by simp [part]; omega
theorem part_step (c : UInt8) (i : Nat) (h : i < 33) : (part c i).set i c = part c (i + 1) := by
  apply List.ext_getElem?
  intro j
  unfold part
  rw [List.getElem?_set]
  by_cases hj : i = j
  · subst hj
    rw [if_pos rfl, if_pos (by simp; omega), List.getElem?_append_left (by simp), List.getElem?_replicate, if_pos (by omega)]
  · rw [if_neg hj]
    by_cases h1 : j < i
    · rw [List.getElem?_append_left (by simp; exact h1), List.getElem?_append_left (by simp; omega), List.getElem?_replicate, List.getElem?_replicate, if_pos h1, if_pos (by omega)]
    · rw [List.getElem?_append_right (by simp; omega), List.getElem?_append_right (by simp; omega), List.getElem?_replicate, List.getElem?_replicate]
      simp
      by_cases h2 : j < 33
      · rw [if_pos (by omega), if_pos (by omega)]
      · rw [if_neg (by omega), if_neg (by omega)]
theorem word_any (c : UInt8) (w : World) : Calls Try.prog 47 #[.int .u8 (c.toNat : Int)] w fun e w' => e = .returned (.string (str (wordL c))) ∧ Below w.heap.size w w' := by
  have hmk : ∀ W, (Instr.makeSlice 36 (.int .i64 33) (.int .i64 33)).run Try.prog W = .ok (.slice (some ⟨W.heap.size, 0, none⟩) 33 33) (W.alloc (.cells (madeCells (Value.int .u8 0).cells 33) 5)) := fun W => run_make_bytes 33 (by omega) W
  have hb0 := byteBlk_made w 33
  replace hb0 := Lib.hid hb0
  go_enter Try.func47, Try.ntmps47
  go_wp2
  go_loopg [4] 33 (fun gn s4 wr => ∃ i : Nat, s4 = .int .i64 (i : Int) ∧ i + gn = 33 ∧ ByteBlk wr w.heap.size (part c i) ∧ Below w.heap.size w wr)
  case atStart => exact ⟨0, rfl, by omega, by have h : part c 0 = List.replicate 33 0 := by simp [part]
                                              rw [h]; exact hb0.out, (Below.refl _ _).alloc (Nat.le_refl _) _⟩
  case round =>
    obtain ⟨i, rfl, hik, hblk, hB⟩ := hrel
    by_cases hi : i < 33
    · obtain ⟨K, rfl⟩ : ∃ K : Nat, gk = K + 1 := ⟨gk - 1, by omega⟩
      have e1 : (0 : Int) ≤ (i : Int) := by omega
      have e2 : (i : Int) < 33 := by omega
      have hl := part_len c i (by omega)
      have hc := hblk.cell (i := i) (by omega)
      have hf := hblk.free i
      have hp := hblk.put (i := i) (n := (c.toNat : Int)) ⟨by omega, by have := UInt8.toNat_lt c; omega⟩
      have hcc : UInt8.ofNat ((c.toNat : Int)).toNat = c := by simp
      rw [hcc, part_step c i hi] at hp
      have hik2 := Lib.hid hik
      replace hp := Lib.hid hp; replace hB := Lib.hid hB
      clear hblk hl hik hi hcc
      go_wp2
      go_roundg K
      case measure => omega
      case rel => exact ⟨i + 1, by first | go_num | (simp; unfold wrap64; omega), by have := hik2.out; omega, hp.out, hB.out.setCell (p := ⟨w.heap.size, i, none⟩) (Nat.le_refl _) _⟩
    · obtain rfl : i = 33 := by omega
      have ht := hblk.text 33
      have hl := part_len c 33 (by omega)
      rw [hl] at ht
      have hw : part c 33 = wordL c := by simp [part, wordL]
      rw [hw] at ht
      clear hblk hik hi hl hw
      go_wp2
      go_ret
      exact ⟨rfl, hB⟩
/-- a device in block d -/
def DevAt (w : World) (d : Nat) (key reg : ByteArray) (c : Nat) (g : Nat) : Prop := w.heap[d]? = some (.cells #[.string key, .string reg, .int .u64 (c : Int), .pointer (some ⟨g, 0, none⟩)] 150 (0, 0))
section
variable {w w' : World} {d : Nat} {key reg : ByteArray} {c g : Nat}
theorem DevAt.keep (h : DevAt w d key reg c g) {X : List Nat} (k : Keeps X w w') (hd : d ∉ X) : DevAt w' d key reg c g := (k.block _ (block_lt h) hd).trans h
theorem DevAt.below (h : DevAt w d key reg c g) (k : Below w.heap.size w w') : DevAt w' d key reg c g := h.keep (Keeps.ofBelow k []) (by simp)
theorem DevAt.cells (h : DevAt w d key reg c g) : w.cell? ⟨d, 0, none⟩ = some (.string key) ∧ w.cell? ⟨d, 1, none⟩ = some (.string reg) ∧ w.cell? ⟨d, 2, none⟩ = some (.int .u64 (c : Int)) ∧ w.cell? ⟨d, 3, none⟩ = some (.pointer (some ⟨g, 0, none⟩)) :=
  ⟨cell_of_row _ _ 0 _ _ _ h, cell_of_row _ _ 1 _ _ _ h, cell_of_row _ _ 2 _ _ _ h, cell_of_row _ _ 3 _ _ _ h⟩
theorem DevAt.free (h : DevAt w d key reg c g) (i : Nat) : w.frozen? ⟨d, i, none⟩ = false := by unfold DevAt at h; simp [World.frozen?, h]
theorem DevAt.put (h : DevAt w d key reg c g) (reg2 : ByteArray) (c2 : Nat) (z : Int) (hz : z = (c2 : Int)) : DevAt ((w.setCell ⟨d, 2, none⟩ (.int .u64 z)).setCell ⟨d, 1, none⟩ (.string reg2)) d key reg2 c2 g := by
  subst hz
  unfold DevAt at h ⊢
  simp [World.setCell, Array.getElem?_modify, h]
theorem counter_any (h : DevAt w d key reg c g) : Calls Try.prog 54 #[.pointer (some ⟨d, 0, none⟩)] w fun e w' => e = .returned (.int .u64 (c : Int)) ∧ Below w.heap.size w w' := by
  obtain ⟨d0, d1, d2, d3⟩ := h.cells
  clear h d0 d1 d3
  go_enter Try.func54, Try.ntmps54
  go_wp2
  go_ret
  exact ⟨rfl, by go_grown⟩
theorem register_any (h : DevAt w d key reg c g) : Calls Try.prog 49 #[.pointer (some ⟨d, 0, none⟩)] w fun e w' => e = .returned (.string reg) ∧ Below w.heap.size w w' := by
  obtain ⟨d0, d1, d2, d3⟩ := h.cells
  clear h d0 d2 d3
  go_enter Try.func49, Try.ntmps49
  go_wp2
  go_ret
  exact ⟨rfl, by go_grown⟩
end
theorem counter_nil (w : World) : Calls Try.prog 54 #[.pointer none] w fun e w' => e = .returned (.int .u64 0) ∧ Below w.heap.size w w' := by
  go_enter Try.func54, Try.ntmps54
  go_wp2
  go_ret
  exact ⟨rfl, by go_grown⟩
theorem register_nil (w : World) : Calls Try.prog 49 #[.pointer none] w fun e w' => e = .returned (.string ⟨#[]⟩) ∧ Below w.heap.size w w' := by
  go_enter Try.func49, Try.ntmps49
  go_wp2
  go_ret
  exact ⟨rfl, by go_grown⟩
theorem key_nil (w : World) : Calls Try.prog 55 #[.pointer none] w fun e w' => e = .returned (.string ⟨#[]⟩) ∧ Below w.heap.size w w' := by
  go_enter Try.func55, Try.ntmps55
  go_wp2
  go_ret
  exact ⟨rfl, by go_grown⟩
theorem bump_nil (s : ByteArray) (w : World) : Calls Try.prog 53 #[.pointer none, .string s] w fun e w' => e = .returned (.int .i64 1) ∧ Below w.heap.size w w' := by
  go_enter Try.func53, Try.ntmps53
  go_wp2
  go_ret
  exact ⟨rfl, by go_grown⟩
theorem bump_bad (s : ByteArray) (hs : ¬ s.size = 33) (d : Nat) (w : World) : Calls Try.prog 53 #[.pointer (some ⟨d, 0, none⟩), .string s] w fun e w' => e = .returned (.int .i64 1) ∧ Below w.heap.size w w' := by
  have h1 : ¬ (s.size : Int) = 33 := by omega
  have h2 : ((s.size : Int) == 33) = false := by simpa using h1
  clear hs
  go_enter Try.func53, Try.ntmps53
  go_wp2
  go_ret
  exact ⟨rfl, by go_grown⟩
theorem dnew_bad (key : ByteArray) (p : Option Addr) (h : ¬ key.size = 32 ∨ p = none) (w : World) : Calls Try.prog 102 #[.string key, .pointer p] w fun e w' => e = .returned (.tuple #[.pointer none, .int .i64 1]) ∧ Below w.heap.size w w' := by
  by_cases h1 : key.size = 32
  · have h2 : p = none := h.resolve_left (fun hh => hh h1)
    subst h2
    have h3 : (key.size : Int) = 32 := by omega
    clear h h1
    go_enter Try.func102, Try.ntmps102
    go_wp2
    go_returns
    exact ⟨rfl, by go_grown⟩
  · have h3 : ¬ (key.size : Int) = 32 := by omega
    have h4 : ((key.size : Int) == 32) = false := by simpa using h3
    clear h h1
    go_enter Try.func102, Try.ntmps102
    go_wp2
    go_returns
    exact ⟨rfl, by go_grown⟩
theorem dnew_ok (key : ByteArray) (g : Nat) (h : key.size = 32) (w : World) : Calls Try.prog 102 #[.string key, .pointer (some ⟨g, 0, none⟩)] w fun e w' => ∃ d, e = .returned (.tuple #[.pointer (some ⟨d, 0, none⟩), .int .i64 0]) ∧ w.heap.size ≤ d ∧ DevAt w' d key (str Z33) 0 g ∧ Below w.heap.size w w' := by
  have h3 : (key.size : Int) = 32 := by omega
  clear h
  go_enter Try.func102, Try.ntmps102
  go_wp2_with (go_at_call 118; (with_reducible refine (repeat33_any _).mono ?_); rintro e w1 ⟨rfl, b1⟩)
  go_outline
  go_returns
  exact ⟨_, rfl, b1.size, heap_alloc_new w1 _, b1.alloc b1.size _⟩
end Go.Proofs.Ytmlphodmbkceoaa.disk
