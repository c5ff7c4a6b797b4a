/- ChaCha20 (package chacha): what a block and what turned bytes are, as lists. No condition. -/
import Derived.Test.YtdhboldmffiklabDoorChacha4
import Derived.Laws.BitsAllLaws
namespace Go.Proofs.YtdhboldmffiklabDoor.chacha
open Go.RowKit
set_option linter.unusedVariables false
set_option maxRecDepth 100000

/-- the state of a key and a nonce at this block -/
def stAt (key nonce : ByteArray) (n : Nat) : List Nat := (begunL key nonce).set 12 n
/-- the bytes of a state's block -/
def blockU (xs : List Nat) : List UInt8 := (blockL xs).map UInt8.ofNat
def padAt (key nonce : ByteArray) (j : Nat) : UInt8 := (blockU (stAt key nonce (j / 64 % 4294967296))).getD (j % 64) 0
/-- bytes of which the first m are turned -/
def turnedL (key nonce : ByteArray) (l : List UInt8) (m : Nat) : List UInt8 := l.mapIdx fun j b => if j < m then b ^^^ padAt key nonce j else b
theorem turnedL_len (key nonce : ByteArray) (l : List UInt8) (m : Nat) : (turnedL key nonce l m).length = l.length := by simp [turnedL]
theorem turnedL_zero (key nonce : ByteArray) (l : List UInt8) : turnedL key nonce l 0 = l := by
  apply List.ext_getElem
  · exact turnedL_len _ _ _ _
  · intro i h1 h2; simp [turnedL]
theorem turnedL_at (key nonce : ByteArray) (l : List UInt8) (m : Nat) (h : m < l.length) : (turnedL key nonce l m).getD m 0 = l.getD m 0 := by
  simp [turnedL, List.getD, List.getElem?_eq_getElem h]
theorem turnedL_step (key nonce : ByteArray) (l : List UInt8) (m : Nat) (h : m < l.length) : (turnedL key nonce l m).set m (l.getD m 0 ^^^ padAt key nonce m) = turnedL key nonce l (m + 1) := by
  apply List.ext_getElem
  · simp [turnedL]
  · intro i h1 h2
    simp only [turnedL, List.getElem_set, List.getElem_mapIdx]
    by_cases e : m = i
    · subst e; simp [List.getD, List.getElem?_eq_getElem h]
    · rw [if_neg e]
      have : (i < m) ↔ (i < m + 1) := by omega
      simp [this]
theorem turnedL_twice (key nonce : ByteArray) (l : List UInt8) (m : Nat) : turnedL key nonce (turnedL key nonce l m) m = l := by
  apply List.ext_getElem
  · simp [turnedL]
  · intro i h1 h2
    simp only [turnedL, List.getElem_mapIdx]
    split
    · rw [UInt8.xor_assoc, UInt8.xor_self, UInt8.xor_zero]
    · rfl
theorem byteAt_lt (s : ByteArray) (i : Nat) : byteAt s i < 256 := UInt8.toNat_lt _
theorem wordAt_lt (s : ByteArray) (i : Nat) : wordAt s i < 4294967296 := by
  have h0 := byteAt_lt s i
  have h1 := byteAt_lt s (i + 1)
  have h2 := byteAt_lt s (i + 2)
  have h3 := byteAt_lt s (i + 3)
  unfold wordAt; omega
theorem keyed_small (key : ByteArray) (k : Nat) : Small (keyed key k) := by
  induction k with
  | zero =>
    intro i
    show consts.getD i 0 < 4294967296
    rcases Nat.lt_or_ge i 16 with h | h
    · have : ∀ i : Fin 16, consts.getD i.1 0 < 4294967296 := by decide
      exact this ⟨i, h⟩
    · rw [List.getD_eq_getElem?_getD, List.getElem?_eq_none h]; decide
  | succ k ih => exact ih.set _ _ (wordAt_lt _ _)
theorem nonced_small (key nonce : ByteArray) (k : Nat) : Small (nonced key nonce k) := by
  induction k with
  | zero => exact keyed_small key 8
  | succ k ih => exact ih.set _ _ (wordAt_lt _ _)
theorem begun_good (key nonce : ByteArray) : Good (begunL key nonce) := ⟨nonced_len _ _ _, nonced_small _ _ _⟩
theorem stAt_good (key nonce : ByteArray) (n : Nat) (hn : n < 4294967296) : Good (stAt key nonce n) :=
  ⟨by simp [stAt, (begun_good key nonce).1], (begun_good key nonce).2.set _ _ hn⟩
theorem stAt_12 (key nonce : ByteArray) (n : Nat) : (stAt key nonce n).getD 12 0 = n := by
  have := (begun_good key nonce).1
  simp [stAt, List.getD, List.getElem?_set, this]
theorem stAt_set (key nonce : ByteArray) (n m : Nat) : (stAt key nonce n).set 12 m = stAt key nonce m := by simp [stAt]
theorem getD_set_far (xs : List Nat) (i j n : Nat) (h : i ≠ j) : (xs.set i n).getD j 0 = xs.getD j 0 := by
  simp [List.getD_eq_getElem?_getD, List.getElem?_set, h]
theorem keyed_12 (key : ByteArray) : ∀ k, k ≤ 8 → (keyed key k).getD 12 0 = 0
  | 0, _ => rfl
  | k + 1, h => (getD_set_far _ _ _ _ (by omega)).trans (keyed_12 key k (by omega))
theorem nonced_12 (key nonce : ByteArray) : ∀ k, (nonced key nonce k).getD 12 0 = 0
  | 0 => keyed_12 key 8 (Nat.le_refl _)
  | k + 1 => (getD_set_far _ _ _ _ (by omega)).trans (nonced_12 key nonce k)
theorem set_same (xs : List Nat) (i : Nat) : xs.set i (xs.getD i 0) = xs := by
  apply List.ext_getElem
  · simp
  · intro j h1 h2
    simp only [List.getElem_set]
    split
    · rename_i h; subst h; simp [List.getD_eq_getElem?_getD, List.getElem?_eq_getElem h2]
    · rfl
theorem stAt_zero (key nonce : ByteArray) : stAt key nonce 0 = begunL key nonce := by
  have h := nonced_12 key nonce 3
  have e := set_same (nonced key nonce 3) 12
  rw [h] at e
  exact e
theorem outL_lt (ns : List Nat) (k : Nat) : ∀ x ∈ outL ns k, x < 256 := by
  induction k with
  | zero => intro x hx; simp [outL] at hx; omega
  | succ k ih =>
    intro x hx
    rcases List.mem_or_eq_of_mem_set hx with hx | rfl
    · rcases List.mem_or_eq_of_mem_set hx with hx | rfl
      · rcases List.mem_or_eq_of_mem_set hx with hx | rfl
        · rcases List.mem_or_eq_of_mem_set hx with hx | rfl
          · exact ih x hx
          · exact Nat.mod_lt _ (by decide)
        · exact Nat.mod_lt _ (by decide)
      · exact Nat.mod_lt _ (by decide)
    · exact Nat.mod_lt _ (by decide)
theorem blockL_lt (xs : List Nat) : ∀ x ∈ blockL xs, x < 256 := outL_lt _ _
theorem blockL_len (xs : List Nat) : (blockL xs).length = 64 := outL_len _ _
theorem blockU_len (xs : List Nat) : (blockU xs).length = 64 := by simp [blockU, blockL_len]
theorem blockU_at (xs : List Nat) (i : Nat) (hi : i < 64) : ((blockU xs).getD i 0).toNat = (blockL xs).getD i 0 := by
  have h : i < (blockL xs).length := by rw [blockL_len]; exact hi
  have e := blockL_lt xs _ (List.getElem_mem h)
  simp only [blockU, List.getD, List.getElem?_map, List.getElem?_eq_getElem h]
  simp [UInt8.toNat_ofNat']
  omega
theorem Bytes8.at_ {w : World} {q : Nat} {xs : List Nat} (h : Bytes8 w q (blockL xs)) : BytesAt w q (blockU xs) :=
  ⟨block_lt h, fun i hi => ⟨by rw [blockU_len] at hi; rw [blockU_at xs i hi]; exact h.cell (by rw [blockL_len]; exact hi), h.free i⟩⟩
theorem xor_u8 (a b : UInt8) : bits .xor .u8 (a.toNat : Int) (b.toNat : Int) = (((a ^^^ b).toNat : Nat) : Int) := by
  rw [Go.u8_xor_nat _ _ (UInt8.toNat_lt _) (UInt8.toNat_lt _), UInt8.toNat_xor]
end Go.Proofs.YtdhboldmffiklabDoor.chacha
