/- SHA-256 (package sha): what is mixed, as lists. No condition. -/
import Derived.Test.YtplfbpihhcnnmaaDoorWRows
namespace Go.Proofs.YtplfbpihhcnnmaaDoor.sha
open Go.RowKit
set_option linter.unusedVariables false
set_option maxRecDepth 100000

def add32 (x y : Nat) : Nat := (x + y) % 4294967296
theorem add32_lt (x y : Nat) : add32 x y < 4294967296 := Nat.mod_lt _ (by decide)
def rotr (x s : Nat) : Nat := rotl x (32 - s)
theorem rotr_lt (x s : Nat) (h : x < 4294967296) : rotr x s < 4294967296 := rotl_lt _ _ h (by omega)
def low0 (x : Nat) : Nat := (rotr x 7 ^^^ rotr x 18) ^^^ x / 8
def low1 (x : Nat) : Nat := (rotr x 17 ^^^ rotr x 19) ^^^ x / 1024
theorem xor_lt {x y : Nat} (h : x < 4294967296) (k : y < 4294967296) : x ^^^ y < 4294967296 := Nat.xor_lt_two_pow (n := 32) h k
theorem and_lt {x y : Nat} (h : x < 4294967296) : x &&& y < 4294967296 := Nat.lt_of_le_of_lt Nat.and_le_left h
theorem low0_lt (x : Nat) (h : x < 4294967296) : low0 x < 4294967296 := xor_lt (xor_lt (rotr_lt _ _ h) (rotr_lt _ _ h)) (by omega)
theorem low1_lt (x : Nat) (h : x < 4294967296) : low1 x < 4294967296 := xor_lt (xor_lt (rotr_lt _ _ h) (rotr_lt _ _ h)) (by omega)
def byteAt (s : ByteArray) (i : Nat) : Nat := (s.data.getD i 0).toNat
theorem byteAt_lt (s : ByteArray) (i : Nat) : byteAt s i < 256 := UInt8.toNat_lt _
theorem byteAt_eq (s : ByteArray) (j : Nat) (hj : j < s.size) : byteAt s j = (s[j]'hj).toNat := by
  have h : j < s.data.size := hj
  have e : s.data.getD j 0 = s.data[j]'h := by simp only [Array.getD]; rw [dif_pos h]; rfl
  unfold byteAt
  rw [e]
  rfl
/-- four bytes as a word, the highest first -/
def beWord (s : ByteArray) (i : Nat) : Nat := byteAt s i * 16777216 + byteAt s (i + 1) * 65536 + byteAt s (i + 2) * 256 + byteAt s (i + 3)
theorem beWord_lt (s : ByteArray) (i : Nat) : beWord s i < 4294967296 := by
  have h0 := byteAt_lt s i
  have h1 := byteAt_lt s (i + 1)
  have h2 := byteAt_lt s (i + 2)
  have h3 := byteAt_lt s (i + 3)
  unfold beWord; omega
def nextW (l : List Nat) (k : Nat) : Nat := add32 (add32 (add32 (l.getD (k - 16) 0) (low0 (l.getD (k - 15) 0))) (l.getD (k - 7) 0)) (low1 (l.getD (k - 2) 0))
/-- a block's words, the first k of 64 -/
def sprL (s : ByteArray) : Nat → List Nat
  | 0 => List.replicate 64 0
  | k + 1 => (sprL s k).set k (if k < 16 then beWord s (4 * k) else nextW (sprL s k) k)
theorem sprL_len (s : ByteArray) (k : Nat) : (sprL s k).length = 64 := by
  induction k with
  | zero => simp [sprL]
  | succ k ih => simp [sprL, ih]
def Small (xs : List Nat) : Prop := ∀ i, xs.getD i 0 < 4294967296
theorem Small.set {xs : List Nat} (h : Small xs) (i n : Nat) (hn : n < 4294967296) : Small (xs.set i n) := by
  intro j
  have := h j
  simp only [List.getD_eq_getElem?_getD, List.getElem?_set] at this ⊢
  split
  · split <;> simp <;> omega
  · exact this
theorem sprL_small (s : ByteArray) (k : Nat) : Small (sprL s k) := by
  induction k with
  | zero =>
    intro i
    show (List.replicate 64 0).getD i 0 < _
    rw [List.getD_eq_getElem?_getD, List.getElem?_replicate]
    split <;> simp
  | succ k ih =>
    unfold sprL
    split
    · exact ih.set _ _ (beWord_lt _ _)
    · exact ih.set _ _ (add32_lt _ _)
/-- the eight words that are mixed -/
structure V8 where
  a : Nat
  b : Nat
  c : Nat
  d : Nat
  e : Nat
  f : Nat
  g : Nat
  h : Nat
def V8.ok (v : V8) : Prop := v.a < 4294967296 ∧ v.b < 4294967296 ∧ v.c < 4294967296 ∧ v.d < 4294967296 ∧ v.e < 4294967296 ∧ v.f < 4294967296 ∧ v.g < 4294967296 ∧ v.h < 4294967296
def sig1 (e : Nat) : Nat := (rotr e 6 ^^^ rotr e 11) ^^^ rotr e 25
def sig0 (a : Nat) : Nat := (rotr a 2 ^^^ rotr a 13) ^^^ rotr a 22
theorem sig1_lt (e : Nat) (h : e < 4294967296) : sig1 e < 4294967296 := xor_lt (xor_lt (rotr_lt _ _ h) (rotr_lt _ _ h)) (rotr_lt _ _ h)
theorem sig0_lt (e : Nat) (h : e < 4294967296) : sig0 e < 4294967296 := xor_lt (xor_lt (rotr_lt _ _ h) (rotr_lt _ _ h)) (rotr_lt _ _ h)
def cho (e f g : Nat) : Nat := (e &&& f) ^^^ ((4294967295 - e) &&& g)
def maj (a b c : Nat) : Nat := ((a &&& b) ^^^ (a &&& c)) ^^^ (b &&& c)
theorem cho_lt (e f g : Nat) (h : e < 4294967296) : cho e f g < 4294967296 := xor_lt (and_lt h) (and_lt (by omega))
theorem maj_lt (a b c : Nat) (h : a < 4294967296) (k : b < 4294967296) : maj a b c < 4294967296 := xor_lt (xor_lt (and_lt h) (and_lt h)) (and_lt k)
def tOf (w s : Nat) (v : V8) : Nat := add32 (add32 (add32 (add32 v.h (sig1 v.e)) (cho v.e v.f v.g)) s) w
def uOf (v : V8) : Nat := add32 (sig0 v.a) (maj v.a v.b v.c)
def stepV (w s : Nat) (v : V8) : V8 := ⟨add32 (tOf w s v) (uOf v), v.a, v.b, v.c, add32 v.d (tOf w s v), v.e, v.f, v.g⟩
theorem stepV_ok {v : V8} (h : v.ok) (w s : Nat) : (stepV w s v).ok := ⟨add32_lt _ _, h.1, h.2.1, h.2.2.1, add32_lt _ _, h.2.2.2.2.1, h.2.2.2.2.2.1, h.2.2.2.2.2.2.1⟩
def runV (ws ss : List Nat) (v : V8) : Nat → V8
  | 0 => v
  | k + 1 => stepV (ws.getD k 0) (ss.getD k 0) (runV ws ss v k)
theorem runV_ok (ws ss : List Nat) {v : V8} (h : v.ok) (k : Nat) : (runV ws ss v k).ok := by
  induction k with
  | zero => exact h
  | succ k ih => exact stepV_ok ih _ _
def ofL (l : List Nat) : V8 := ⟨l.getD 0 0, l.getD 1 0, l.getD 2 0, l.getD 3 0, l.getD 4 0, l.getD 5 0, l.getD 6 0, l.getD 7 0⟩
theorem ofL_ok {l : List Nat} (h : Small l) : (ofL l).ok := ⟨h 0, h 1, h 2, h 3, h 4, h 5, h 6, h 7⟩
def addV (l : List Nat) (v : V8) : List Nat := [add32 (l.getD 0 0) v.a, add32 (l.getD 1 0) v.b, add32 (l.getD 2 0) v.c, add32 (l.getD 3 0) v.d, add32 (l.getD 4 0) v.e, add32 (l.getD 5 0) v.f, add32 (l.getD 6 0) v.g, add32 (l.getD 7 0) v.h]
/-- the words behind one block more -/
def mixedL (ss l : List Nat) (s : ByteArray) : List Nat := addV l (runV (sprL s 64) ss (ofL l) 64)
theorem addV_small (l : List Nat) (v : V8) : Small (addV l v) := by
  intro i
  match i with
  | 0 => exact add32_lt _ _
  | 1 => exact add32_lt _ _
  | 2 => exact add32_lt _ _
  | 3 => exact add32_lt _ _
  | 4 => exact add32_lt _ _
  | 5 => exact add32_lt _ _
  | 6 => exact add32_lt _ _
  | 7 => exact add32_lt _ _
  | i + 8 => simp [addV, List.getD]
theorem mixedL_good (ss l : List Nat) (s : ByteArray) : (mixedL ss l s).length = 8 ∧ Small (mixedL ss l s) := ⟨rfl, addV_small _ _⟩
/-- the words behind k blocks of a text -/
def hashL (ss h : List Nat) (l : List UInt8) : Nat → List Nat
  | 0 => h
  | k + 1 => mixedL ss (hashL ss h l k) (str ((l.drop (64 * k)).take 64))
theorem hashL_good (ss : List Nat) {h : List Nat} (hh : h.length = 8 ∧ Small h) (l : List UInt8) (k : Nat) : (hashL ss h l k).length = 8 ∧ Small (hashL ss h l k) := by
  cases k with
  | zero => exact hh
  | succ k => exact mixedL_good _ _ _
theorem or4be (a b c d : Nat) (ha : a < 256) (hb : b < 256) (hc : c < 256) (hd : d < 256) :
    bits .or .u32 (bits .or .u32 (bits .or .u32 ((a : Int) % 4294967296 * 16777216 % 4294967296) ((b : Int) % 4294967296 * 65536 % 4294967296)) ((c : Int) % 4294967296 * 256 % 4294967296)) ((d : Int) % 4294967296) = ((a * 16777216 + b * 65536 + c * 256 + d : Nat) : Int) := by
  have e1 : (a : Int) % 4294967296 * 16777216 % 4294967296 = ((a * 16777216 : Nat) : Int) := by omega
  have e2 : (b : Int) % 4294967296 * 65536 % 4294967296 = ((b * 65536 : Nat) : Int) := by omega
  have e3 : (c : Int) % 4294967296 * 256 % 4294967296 = ((c * 256 : Nat) : Int) := by omega
  have e4 : (d : Int) % 4294967296 = ((d : Nat) : Int) := by omega
  have j1 : a * 16777216 ||| b * 65536 = a * 16777216 + b * 65536 := nat_join 24 _ _ (by omega) (by omega)
  have j2 : (a * 16777216 + b * 65536) ||| c * 256 = a * 16777216 + b * 65536 + c * 256 := nat_join 16 _ _ (by omega) (by omega)
  have j3 : (a * 16777216 + b * 65536 + c * 256) ||| d = a * 16777216 + b * 65536 + c * 256 + d := nat_join 8 _ _ (by omega) (by omega)
  rw [e1, e2, e3, e4, u32_or_nat _ _ (by omega) (by omega), j1, u32_or_nat _ _ (by omega) (by omega), j2, u32_or_nat _ _ (by omega) (by omega), j3]
end Go.Proofs.YtplfbpihhcnnmaaDoor.sha
