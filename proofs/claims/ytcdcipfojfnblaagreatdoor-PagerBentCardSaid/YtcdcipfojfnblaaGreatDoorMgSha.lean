/- Words of 32 bits: rows of them, sums, turns. No condition. Whole arrays by value, of words or of bytes; a turn that leaves the world as it is. No condition. SHA-256 (package sha): what is mixed, as lists. No condition. SHA-256 (package sha): a block's words, spread. No condition. SHA-256 (package sha): the words behind one block more. The table of salts is a premise. No other condition. SHA-256 (package sha): words as bytes. No condition. SHA-256 (package sha): the last bytes, filled up. No condition. SHA-256 (package sha): the sum of bytes. The table of salts is a premise. No other condition. -/
import Derived.Test.YtcdcipfojfnblaaGreatDoorBase
import Derived.Test.YtcdcipfojfnblaaGreatDoorBytes2
import Derived.Laws.BitsAllLaws
import Derived.Deep.DeepCutAuto
import Derived.Deep.WholeRow
import Derived.BigRegion
import Derived.Lib.BufferWrite
import Derived.StillTailTactics
section
namespace Go.Proofs.YtcdcipfojfnblaaGreatDoor
open Go.RowKit
attribute [local go_sem ↓] Go.wp_at_zero Go.wp_at_succ
set_option linter.unusedVariables false
set_option maxRecDepth 100000

def word (n : Nat) : Value := .int .u32 (n : Int)
/-- block g is a row of these words -/
def Words (w : World) (g : Nat) (t : TypeId) (xs : List Nat) : Prop := w.heap[g]? = some (.cells (xs.map word).toArray t (0, 0))
section
variable {w w' : World} {g : Nat} {t : TypeId} {xs : List Nat}
theorem Words.keep (h : Words w g t xs) {X : List Nat} (k : Keeps X w w') (hg : g ∉ X) : Words w' g t xs := (k.block _ (block_lt h) hg).trans h
theorem Words.below (h : Words w g t xs) (k : Below w.heap.size w w') : Words w' g t xs := h.keep (Keeps.ofBelow k []) (by simp)
theorem Words.cell (h : Words w g t xs) {i : Nat} (hi : i < xs.length) : w.cell? ⟨g, i, none⟩ = some (.int .u32 ((xs.getD i 0 : Nat) : Int)) := by
  rw [cell_of_row _ _ i _ _ _ h]; simp [word, List.getElem?_eq_getElem hi, List.getD]
theorem Words.free (h : Words w g t xs) (i : Nat) : w.frozen? ⟨g, i, none⟩ = false := by unfold Words at h; simp [World.frozen?, h]
theorem Words.put (h : Words w g t xs) (i n : Nat) : Words (w.setCell ⟨g, i, none⟩ (.int .u32 (n : Int))) g t (xs.set i n) := by
  unfold Words at h ⊢; simp [World.setCell, Array.getElem?_modify, h, List.map_set, word]
theorem Words.drew (h : Words w g t xs) : Words w.drew g t xs := h
theorem Words.drewN (h : Words w g t xs) (n : Nat) : Words (w.drewN n) g t xs := h
end

def w32 : Nat := 4294967296
def rotl (x s : Nat) : Nat := (x * 2 ^ s % 4294967296) ||| (x / 2 ^ (32 - s))
theorem rotl_lt (x s : Nat) (hx : x < 4294967296) (hs : s ≤ 32) : rotl x s < 4294967296 := by
  have h1 : x * 2 ^ s % 4294967296 < 2 ^ 32 := Nat.mod_lt _ (by decide)
  have h2 : x / 2 ^ (32 - s) < 2 ^ 32 := Nat.lt_of_le_of_lt (Nat.div_le_self _ _) hx
  exact Nat.or_lt_two_pow h1 h2
theorem rotl_sum (x s : Nat) (hx : x < 4294967296) (hs : s ≤ 32) : rotl x s = x * 2 ^ s % 4294967296 + x / 2 ^ (32 - s) := by
  unfold rotl
  apply nat_join s
  · have e : (4294967296 : Nat) = 2 ^ s * 2 ^ (32 - s) := by rw [← Nat.pow_add, show s + (32 - s) = 32 by omega]
    rw [e, Nat.mul_comm x, Nat.mul_mod_mul_left, Nat.mul_mod_right]
  · rw [Nat.div_lt_iff_lt_mul (Nat.pow_pos (by decide)), ← Nat.pow_add, show s + (32 - s) = 32 by omega]; exact hx

theorem rot_walk (x s : Nat) (k : Int) (hx : x < 4294967296) (hs : 1 ≤ s ∧ s ≤ 31) (hk : bits .and .u64 (IntKind.u64.wrap k) 31 = (s : Int)) (w : World) :
    Calls Tryz.prog 115 #[.int .u32 (x : Int), .int .i64 k] w fun e w' => e = .returned (.int .u32 ((rotl x s : Nat) : Int)) ∧ Below w.heap.size w w' := by
  obtain ⟨h1, h2⟩ := hs
  obtain ⟨s0, s1⟩ : (0 : Int) ≤ s ∧ (s : Int) ≤ 31 := ⟨by omega, by omega⟩
  go_enter Tryz.func115, Tryz.ntmps115
  go_wp2
  go_ret
  refine ⟨?_, Below.refl _ _⟩
  have e1 : (x : Int) * 2 ^ s % 4294967296 = ((x * 2 ^ s % 4294967296 : Nat) : Int) := by simp
  have e2 : (x : Int) / 2 ^ (32 - s) = ((x / 2 ^ (32 - s) : Nat) : Int) := by simp
  show Ending.returned (.int .u32 (bits .or .u32 ((x : Int) * 2 ^ s % 4294967296) ((x : Int) / 2 ^ (32 - s)))) = _
  rw [e1, e2, u32_or_nat _ _ (Nat.mod_lt _ (by decide)) (Nat.lt_of_le_of_lt (Nat.div_le_self _ _) hx)]
  rfl
theorem and_31u (n : Nat) (hn : n < 18446744073709551616) : bits .and .u64 (n : Int) 31 = ((n % 32 : Nat) : Int) := by
  have := u64_and_nat n 31 hn (by omega)
  rw [show ((31 : Nat) : Int) = 31 from rfl] at this
  rw [this, Nat.and_two_pow_sub_one_eq_mod _ 5]
/-- turned to the left by s -/
theorem rotL (x s : Nat) (hx : x < 4294967296) (hs : 1 ≤ s ∧ s ≤ 31) (w : World) :
    Calls Tryz.prog 115 #[.int .u32 (x : Int), .int .i64 (s : Int)] w fun e w' => e = .returned (.int .u32 ((rotl x s : Nat) : Int)) ∧ Below w.heap.size w w' :=
  rot_walk x s s hx hs (by rw [IntWalk.u64_in _ (by omega), and_31u s (by omega)]; omega) w
/-- turned to the right by s -/
theorem rotR (x s : Nat) (hx : x < 4294967296) (hs : 1 ≤ s ∧ s ≤ 31) (w : World) :
    Calls Tryz.prog 115 #[.int .u32 (x : Int), .int .i64 (-(s : Int))] w fun e w' => e = .returned (.int .u32 ((rotl x (32 - s) : Nat) : Int)) ∧ Below w.heap.size w w' :=
  rot_walk x (32 - s) _ hx (by omega) (by
    have e : IntKind.u64.wrap (-(s : Int)) = ((18446744073709551616 - s : Nat) : Int) := by rw [IntKind.wrap_u64]; omega
    rw [e, and_31u _ (by omega)]; omega) w
end Go.Proofs.YtcdcipfojfnblaaGreatDoor
end
section
namespace Go.Proofs.YtcdcipfojfnblaaGreatDoor
open Go.RowKit
attribute [local go_sem ↓] Go.wp_at_zero Go.wp_at_succ
set_option linter.unusedVariables false
set_option maxRecDepth 100000

def byteN (n : Nat) : Value := .int .u8 (n : Int)
/-- block g is a row of these bytes, of this array type -/
def BytesT (w : World) (g : Nat) (t : TypeId) (l : List Nat) : Prop := w.heap[g]? = some (.cells (l.map byteN).toArray t (0, 0))
section
variable {w w' : World} {g : Nat} {t : TypeId} {l : List Nat}
theorem BytesT.cell (h : BytesT w g t l) {i : Nat} (hi : i < l.length) : w.cell? ⟨g, i, none⟩ = some (.int .u8 ((l.getD i 0 : Nat) : Int)) := by
  rw [cell_of_row _ _ i _ _ _ h]; simp [byteN, List.getElem?_eq_getElem hi, List.getD]
theorem BytesT.free (h : BytesT w g t l) (i : Nat) : w.frozen? ⟨g, i, none⟩ = false := by unfold BytesT at h; simp [World.frozen?, h]
theorem BytesT.put (h : BytesT w g t l) (i n : Nat) : BytesT (w.setCell ⟨g, i, none⟩ (.int .u8 (n : Int))) g t (l.set i n) := by
  unfold BytesT at h ⊢; simp [World.setCell, Array.getElem?_modify, h, List.map_set, byteN]
theorem BytesT.keep (h : BytesT w g t l) {X : List Nat} (k : Keeps X w w') (hg : g ∉ X) : BytesT w' g t l := (k.block _ (block_lt h) hg).trans h
theorem BytesT.text (h : BytesT w g t l) (hl : ∀ x ∈ l, x < 256) (cap : Nat) : (convert 70 9 (.slice (some ⟨g, 0, none⟩) l.length cap)).run Tryz.prog w = .ok (.string (str (l.map UInt8.ofNat))) w := by
  have := run_convert_bytes_arg (P := Tryz.prog) w 70 5 Tryz.underlying70 Tryz.underlying5 g 0 l.length cap (l.map fun (b : Nat) => (b : Int)) (by simp) (fun i hi => by
    rw [Nat.zero_add, h.cell hi]; simp [List.getD, List.getElem?_eq_getElem hi]) 9 Tryz.underlying9
  rw [this]
  congr 2
  apply ByteArray.ext; apply Array.toList_inj.1
  rw [strOfNums_data, List.map_map]
  show _ = l.map UInt8.ofNat
  apply List.map_congr_left
  intro x hx
  have := hl x hx
  simp
end
theorem setRow_far (w : World) (g k : Nat) (cs : Array Value) (h : k ≠ g) : (w.setRow g cs).heap[k]? = w.heap[k]? := by
  simp only [World.setRow, Array.getElem?_modify]
  rw [if_neg (fun e => h e.symm)]
theorem keepsRow (w : World) (g : Nat) (cs : Array Value) : Keeps [g] w (w.setRow g cs) :=
  ⟨rfl, rfl, rfl, by simp [World.setRow], fun k hk hx => setRow_far w g k cs (by simpa using hx)⟩
theorem words_cells (xs : List Nat) : ((xs.map word).toArray).all (·.oneCell') = true := by
  rw [Array.all_eq_true_iff_forall_mem]
  intro v hv
  simp at hv
  obtain ⟨n, _, rfl⟩ := hv
  rfl
theorem bytes_cells (xs : List Nat) : ((xs.map byteN).toArray).all (·.oneCell') = true := by
  rw [Array.all_eq_true_iff_forall_mem]
  intro v hv
  simp at hv
  obtain ⟨n, _, rfl⟩ := hv
  rfl
section
variable {ops : Array Oper} {rest : List Oper} {o : Oper} {a : Act} {w : World} {Q : Exit → Act → World → Prop}
theorem wpList_store_words {t n : Nat} (hi : (Tryz.prog.info? t).map (·.size) = some n) (hgd : o.guard = none) (x y : Operand) (ho : o.op = .store t x y) (g : Nat) (xs : List Nat)
    (hx : a.eval x = .pointer (some ⟨g, 0, none⟩)) (hy : a.eval y = .agg (xs.map word).toArray) (hl : xs.length = n)
    (hz : ∃ z, w.heap[g]? = some (.cells z t (0, 0)) ∧ z.size = n)
    (h : ∀ w', Words w' g t xs → Keeps [g] w w' → wpList Tryz.prog ops Q rest (a.put o.dst undef) w') : wpList Tryz.prog ops Q (o :: rest) a w := by
  obtain ⟨z, hz1, hz2⟩ := hz
  have hs : ((xs.map word).toArray).size = n := by simp [hl]
  exact wpList_store_row hgd t x y ho g _ hx hy t z hz1 (by rw [hs]; exact hi) (by rw [hs, hz2]) (words_cells xs) (h _ (setRow_heap w g z _ t (0, 0) hz1) (keepsRow w g _))
theorem wpList_load_words {t n m e : Nat} (hi : (Tryz.prog.info? t).map (·.size) = some n) (hu : Tryz.prog.underlying t = some (.array m e)) (hgd : o.guard = none) (x : Operand) (ho : o.op = .load t x) (g : Nat) (xs : List Nat)
    (hx : a.eval x = .pointer (some ⟨g, 0, none⟩)) (hW : Words w g t xs) (hl : xs.length = n)
    (h : wpList Tryz.prog ops Q rest (a.put o.dst (.agg (xs.map word).toArray)) w) : wpList Tryz.prog ops Q (o :: rest) a w := by
  have hs : ((xs.map word).toArray).size = n := by simp [hl]
  exact wpList_load_row hgd t x ho g hx t _ (0, 0) _ hW hu rfl (by rw [hs]; exact hi) h
end
/-- a new block, and then only that block and newer ones change -/
theorem belowNew {w w1 w2 : World} {o : Obj} (h : Below w.heap.size w w1) (k : Keeps [w1.heap.size] (w1.alloc o) w2) : Below w.heap.size w w2 :=
  h.trans (((Below.refl _ w1).alloc h.size _).trans (k.below (by have := h.size; simp; omega) (by simp; exact h.size)))
theorem boxed2 (w : World) (cs : Array Value) (t : TypeId) (o : Obj) : ((w.alloc (.cells cs t)).alloc o).heap[w.heap.size]? = some (.cells cs t (0, 0)) := by
  rw [Below.heap_alloc _ _ _ (by simp)]
  exact heap_alloc_new w _
theorem boxed2b (w : World) (cs : Array Value) (t : TypeId) (o : Obj) : ((w.alloc o).alloc (.cells cs t)).heap[w.heap.size + 1]? = some (.cells cs t (0, 0)) := by
  have := heap_alloc_new (w.alloc o) (.cells cs t)
  simpa using this

/-- turned to the right, the world as it was -/
theorem rotr_same (x s : Nat) (hx : x < 4294967296) (hs : 1 ≤ s ∧ s ≤ 31) (w : World) :
    Calls Tryz.prog 115 #[.int .u32 (x : Int), .int .i64 (-(s : Int))] w fun e w' => e = .returned (.int .u32 ((rotl x (32 - s) : Nat) : Int)) ∧ w' = w := by
  obtain ⟨h1, h2⟩ := hs
  have hk : bits .and .u64 (IntKind.u64.wrap (-(s : Int))) 31 = ((32 - s : Nat) : Int) := by
    have e : IntKind.u64.wrap (-(s : Int)) = ((18446744073709551616 - s : Nat) : Int) := by rw [IntKind.wrap_u64]; omega
    rw [e, and_31u _ (by omega)]; omega
  obtain ⟨k, hkk⟩ : ∃ k, k = -(s : Int) := ⟨_, rfl⟩
  rw [← hkk] at hk ⊢
  obtain ⟨r, hr⟩ : ∃ r, r = 32 - s := ⟨_, rfl⟩
  rw [← hr] at hk ⊢
  have r0 : (0 : Int) ≤ r := by omega
  have r1 : (r : Int) ≤ 31 := by omega
  have hrr : 1 ≤ r ∧ r ≤ 31 := by omega
  clear hkk
  replace hr := Lib.hid hr
  clear h1 h2
  replace hrr := Lib.hid hrr
  go_enter Tryz.func115, Tryz.ntmps115
  go_wp2
  go_ret
  refine ⟨?_, rfl⟩
  have e1 : (x : Int) * 2 ^ r % 4294967296 = ((x * 2 ^ r % 4294967296 : Nat) : Int) := by simp
  have e2 : (x : Int) / 2 ^ (32 - r) = ((x / 2 ^ (32 - r) : Nat) : Int) := by simp
  show Ending.returned (.int .u32 (bits .or .u32 ((x : Int) * 2 ^ r % 4294967296) ((x : Int) / 2 ^ (32 - r)))) = _
  rw [e1, e2, u32_or_nat _ _ (Nat.mod_lt _ (by decide)) (Nat.lt_of_le_of_lt (Nat.div_le_self _ _) hx)]
  rfl
end Go.Proofs.YtcdcipfojfnblaaGreatDoor
end
section
namespace Go.Proofs.YtcdcipfojfnblaaGreatDoor.sha
open Go.RowKit
set_option linter.unusedVariables false
set_option maxRecDepth 100000

def add32 (x y : Nat) : Nat := (x + y) % 4294967296
theorem add32_lt (x y : Nat) : add32 x y < 4294967296 := Nat.mod_lt _ (by decide)
def rotr (x s : Nat) : Nat := rotl x (32 - s)
theorem rotr_lt (x s : Nat) (h : x < 4294967296) : rotr x s < 4294967296 := rotl_lt _ _ h (by omega)
def low0 (x : Nat) : Nat := (rotr x 7 ^^^ rotr x 18) ^^^ x / 8
def low1 (x : Nat) : Nat := (rotr x 17 ^^^ rotr x 19) ^^^ x / 1024
theorem xor_lt {x y : Nat} (h : x < 4294967296) (k : y < 4294967296) : x ^^^ y < 4294967296 := Nat.xor_lt_two_pow (n := 32) h k
theorem and_lt {x y : Nat} (h : x < 4294967296) : x &&& y < 4294967296 := Nat.lt_of_le_of_lt Nat.and_le_left h
theorem low0_lt (x : Nat) (h : x < 4294967296) : low0 x < 4294967296 := xor_lt (xor_lt (rotr_lt _ _ h) (rotr_lt _ _ h)) (by omega)
theorem low1_lt (x : Nat) (h : x < 4294967296) : low1 x < 4294967296 := xor_lt (xor_lt (rotr_lt _ _ h) (rotr_lt _ _ h)) (by omega)
def byteAt (s : ByteArray) (i : Nat) : Nat := (s.data.getD i 0).toNat
theorem byteAt_lt (s : ByteArray) (i : Nat) : byteAt s i < 256 := UInt8.toNat_lt _
theorem byteAt_eq (s : ByteArray) (j : Nat) (hj : j < s.size) : byteAt s j = (s[j]'hj).toNat := by
  have h : j < s.data.size := hj
  have e : s.data.getD j 0 = s.data[j]'h := by simp only [Array.getD]; rw [dif_pos h]; rfl
  unfold byteAt
  rw [e]
  rfl
/-- four bytes as a word, the highest first -/
def beWord (s : ByteArray) (i : Nat) : Nat := byteAt s i * 16777216 + byteAt s (i + 1) * 65536 + byteAt s (i + 2) * 256 + byteAt s (i + 3)
theorem beWord_lt (s : ByteArray) (i : Nat) : beWord s i < 4294967296 := by
  have h0 := byteAt_lt s i
  have h1 := byteAt_lt s (i + 1)
  have h2 := byteAt_lt s (i + 2)
  have h3 := byteAt_lt s (i + 3)
  unfold beWord; omega
def nextW (l : List Nat) (k : Nat) : Nat := add32 (add32 (add32 (l.getD (k - 16) 0) (low0 (l.getD (k - 15) 0))) (l.getD (k - 7) 0)) (low1 (l.getD (k - 2) 0))
/-- a block's words, the first k of 64 -/
def sprL (s : ByteArray) : Nat → List Nat
  | 0 => List.replicate 64 0
  | k + 1 => (sprL s k).set k (if k < 16 then beWord s (4 * k) else nextW (sprL s k) k)
theorem sprL_len (s : ByteArray) (k : Nat) : (sprL s k).length = 64 := by
  induction k with
  | zero => simp [sprL]
  | succ k ih => simp [sprL, ih]
def Small (xs : List Nat) : Prop := ∀ i, xs.getD i 0 < 4294967296
theorem Small.set {xs : List Nat} (h : Small xs) (i n : Nat) (hn : n < 4294967296) : Small (xs.set i n) := by
  intro j
  have := h j
  simp only [List.getD_eq_getElem?_getD, List.getElem?_set] at this ⊢
  split
  · split <;> simp <;> omega
  · exact this
theorem sprL_small (s : ByteArray) (k : Nat) : Small (sprL s k) := by
  induction k with
  | zero =>
    intro i
    show (List.replicate 64 0).getD i 0 < _
    rw [List.getD_eq_getElem?_getD, List.getElem?_replicate]
    split <;> simp
  | succ k ih =>
    unfold sprL
    split
    · exact ih.set _ _ (beWord_lt _ _)
    · exact ih.set _ _ (add32_lt _ _)
/-- the eight words that are mixed -/
structure V8 where
  a : Nat
  b : Nat
  c : Nat
  d : Nat
  e : Nat
  f : Nat
  g : Nat
  h : Nat
def V8.ok (v : V8) : Prop := v.a < 4294967296 ∧ v.b < 4294967296 ∧ v.c < 4294967296 ∧ v.d < 4294967296 ∧ v.e < 4294967296 ∧ v.f < 4294967296 ∧ v.g < 4294967296 ∧ v.h < 4294967296
def sig1 (e : Nat) : Nat := (rotr e 6 ^^^ rotr e 11) ^^^ rotr e 25
def sig0 (a : Nat) : Nat := (rotr a 2 ^^^ rotr a 13) ^^^ rotr a 22
theorem sig1_lt (e : Nat) (h : e < 4294967296) : sig1 e < 4294967296 := xor_lt (xor_lt (rotr_lt _ _ h) (rotr_lt _ _ h)) (rotr_lt _ _ h)
theorem sig0_lt (e : Nat) (h : e < 4294967296) : sig0 e < 4294967296 := xor_lt (xor_lt (rotr_lt _ _ h) (rotr_lt _ _ h)) (rotr_lt _ _ h)
def cho (e f g : Nat) : Nat := (e &&& f) ^^^ ((4294967295 - e) &&& g)
def maj (a b c : Nat) : Nat := ((a &&& b) ^^^ (a &&& c)) ^^^ (b &&& c)
theorem cho_lt (e f g : Nat) (h : e < 4294967296) : cho e f g < 4294967296 := xor_lt (and_lt h) (and_lt (by omega))
theorem maj_lt (a b c : Nat) (h : a < 4294967296) (k : b < 4294967296) : maj a b c < 4294967296 := xor_lt (xor_lt (and_lt h) (and_lt h)) (and_lt k)
def tOf (w s : Nat) (v : V8) : Nat := add32 (add32 (add32 (add32 v.h (sig1 v.e)) (cho v.e v.f v.g)) s) w
def uOf (v : V8) : Nat := add32 (sig0 v.a) (maj v.a v.b v.c)
def stepV (w s : Nat) (v : V8) : V8 := ⟨add32 (tOf w s v) (uOf v), v.a, v.b, v.c, add32 v.d (tOf w s v), v.e, v.f, v.g⟩
theorem stepV_ok {v : V8} (h : v.ok) (w s : Nat) : (stepV w s v).ok := ⟨add32_lt _ _, h.1, h.2.1, h.2.2.1, add32_lt _ _, h.2.2.2.2.1, h.2.2.2.2.2.1, h.2.2.2.2.2.2.1⟩
def runV (ws ss : List Nat) (v : V8) : Nat → V8
  | 0 => v
  | k + 1 => stepV (ws.getD k 0) (ss.getD k 0) (runV ws ss v k)
theorem runV_ok (ws ss : List Nat) {v : V8} (h : v.ok) (k : Nat) : (runV ws ss v k).ok := by
  induction k with
  | zero => exact h
  | succ k ih => exact stepV_ok ih _ _
def ofL (l : List Nat) : V8 := ⟨l.getD 0 0, l.getD 1 0, l.getD 2 0, l.getD 3 0, l.getD 4 0, l.getD 5 0, l.getD 6 0, l.getD 7 0⟩
theorem ofL_ok {l : List Nat} (h : Small l) : (ofL l).ok := ⟨h 0, h 1, h 2, h 3, h 4, h 5, h 6, h 7⟩
def addV (l : List Nat) (v : V8) : List Nat := [add32 (l.getD 0 0) v.a, add32 (l.getD 1 0) v.b, add32 (l.getD 2 0) v.c, add32 (l.getD 3 0) v.d, add32 (l.getD 4 0) v.e, add32 (l.getD 5 0) v.f, add32 (l.getD 6 0) v.g, add32 (l.getD 7 0) v.h]
/-- the words behind one block more -/
def mixedL (ss l : List Nat) (s : ByteArray) : List Nat := addV l (runV (sprL s 64) ss (ofL l) 64)
theorem addV_small (l : List Nat) (v : V8) : Small (addV l v) := by
  intro i
  match i with
  | 0 => exact add32_lt _ _
  | 1 => exact add32_lt _ _
  | 2 => exact add32_lt _ _
  | 3 => exact add32_lt _ _
  | 4 => exact add32_lt _ _
  | 5 => exact add32_lt _ _
  | 6 => exact add32_lt _ _
  | 7 => exact add32_lt _ _
  | i + 8 => simp [addV, List.getD]
theorem mixedL_good (ss l : List Nat) (s : ByteArray) : (mixedL ss l s).length = 8 ∧ Small (mixedL ss l s) := ⟨rfl, addV_small _ _⟩
/-- the words behind k blocks of a text -/
def hashL (ss h : List Nat) (l : List UInt8) : Nat → List Nat
  | 0 => h
  | k + 1 => mixedL ss (hashL ss h l k) (str ((l.drop (64 * k)).take 64))
theorem hashL_good (ss : List Nat) {h : List Nat} (hh : h.length = 8 ∧ Small h) (l : List UInt8) (k : Nat) : (hashL ss h l k).length = 8 ∧ Small (hashL ss h l k) := by
  cases k with
  | zero => exact hh
  | succ k => exact mixedL_good _ _ _
theorem or4be (a b c d : Nat) (ha : a < 256) (hb : b < 256) (hc : c < 256) (hd : d < 256) :
    bits .or .u32 (bits .or .u32 (bits .or .u32 ((a : Int) % 4294967296 * 16777216 % 4294967296) ((b : Int) % 4294967296 * 65536 % 4294967296)) ((c : Int) % 4294967296 * 256 % 4294967296)) ((d : Int) % 4294967296) = ((a * 16777216 + b * 65536 + c * 256 + d : Nat) : Int) := by
  have e1 : (a : Int) % 4294967296 * 16777216 % 4294967296 = ((a * 16777216 : Nat) : Int) := by omega
  have e2 : (b : Int) % 4294967296 * 65536 % 4294967296 = ((b * 65536 : Nat) : Int) := by omega
  have e3 : (c : Int) % 4294967296 * 256 % 4294967296 = ((c * 256 : Nat) : Int) := by omega
  have e4 : (d : Int) % 4294967296 = ((d : Nat) : Int) := by omega
  have j1 : a * 16777216 ||| b * 65536 = a * 16777216 + b * 65536 := nat_join 24 _ _ (by omega) (by omega)
  have j2 : (a * 16777216 + b * 65536) ||| c * 256 = a * 16777216 + b * 65536 + c * 256 := nat_join 16 _ _ (by omega) (by omega)
  have j3 : (a * 16777216 + b * 65536 + c * 256) ||| d = a * 16777216 + b * 65536 + c * 256 + d := nat_join 8 _ _ (by omega) (by omega)
  rw [e1, e2, e3, e4, u32_or_nat _ _ (by omega) (by omega), j1, u32_or_nat _ _ (by omega) (by omega), j2, u32_or_nat _ _ (by omega) (by omega), j3]
end Go.Proofs.YtcdcipfojfnblaaGreatDoor.sha
end
section
namespace Go.Proofs.YtcdcipfojfnblaaGreatDoor.sha
open Go.RowKit
attribute [local go_sem ↓] Go.wp_at_zero Go.wp_at_succ
set_option linter.unusedVariables false
set_option maxRecDepth 100000

theorem salts64 : (Tryz.prog.info? 189).map (·.size) = some 64 := by kernel_rfl
theorem zeroWords : ((List.replicate 64 0).map word).toArray = #[Value.int .u32 0, .int .u32 0, .int .u32 0, .int .u32 0, .int .u32 0, .int .u32 0, .int .u32 0, .int .u32 0, .int .u32 0, .int .u32 0, .int .u32 0, .int .u32 0, .int .u32 0, .int .u32 0, .int .u32 0, .int .u32 0, .int .u32 0, .int .u32 0, .int .u32 0, .int .u32 0, .int .u32 0, .int .u32 0, .int .u32 0, .int .u32 0, .int .u32 0, .int .u32 0, .int .u32 0, .int .u32 0, .int .u32 0, .int .u32 0, .int .u32 0, .int .u32 0, .int .u32 0, .int .u32 0, .int .u32 0, .int .u32 0, .int .u32 0, .int .u32 0, .int .u32 0, .int .u32 0, .int .u32 0, .int .u32 0, .int .u32 0, .int .u32 0, .int .u32 0, .int .u32 0, .int .u32 0, .int .u32 0, .int .u32 0, .int .u32 0, .int .u32 0, .int .u32 0, .int .u32 0, .int .u32 0, .int .u32 0, .int .u32 0, .int .u32 0, .int .u32 0, .int .u32 0, .int .u32 0, .int .u32 0, .int .u32 0, .int .u32 0, .int .u32 0] := rfl
/-- what stands while a block is spread -/
def Spr (w wr : World) (xs : List Nat) : Prop :=
  Words wr (w.heap.size + 1) 189 xs ∧ (∃ z, wr.heap[w.heap.size]? = some (.cells z 189 (0, 0)) ∧ z.size = 64) ∧ Below w.heap.size w wr
theorem Spr.words {w wr : World} {xs : List Nat} (h : Spr w wr xs) : Words wr (w.heap.size + 1) 189 xs := h.1
theorem Spr.put {w wr : World} {xs : List Nat} (h : Spr w wr xs) (i n : Nat) : Spr w (wr.setCell ⟨w.heap.size + 1, i, none⟩ (.int .u32 (n : Int))) (xs.set i n) :=
  ⟨h.1.put i n, h.2.1.imp fun z hz => ⟨(Below.heap_setCell wr _ _ _ (by simp)).trans hz.1, hz.2⟩, h.2.2.setCell (p := ⟨w.heap.size + 1, i, none⟩) (by simp) _⟩
theorem Spr.drew {w wr : World} {xs : List Nat} (h : Spr w wr xs) : Spr w wr.drew xs := ⟨h.1, h.2.1, h.2.2.drew⟩
set_option maxRecDepth 100000 in
set_option maxHeartbeats 8000000 in
theorem spread_any (s : ByteArray) (hs : s.size = 64) (w : World) :
    Calls Tryz.prog 114 #[.string s] w fun e w' => e = .returned (.agg ((sprL s 64).map word).toArray) ∧ Below w.heap.size w w' := by
  replace hs := Lib.hid hs
  go_enter Tryz.func114, Tryz.ntmps114
  go_wp2
  go_loopg [9] 16 (fun gn s9 wr => ∃ i : Nat, s9 = .int .i64 (i : Int) ∧ i + gn = 16 ∧ Spr w wr (sprL s i))
  case atStart =>
    refine ⟨0, rfl, rfl, ?_, ⟨_, boxed2 _ _ _ _, rfl⟩, by go_grown⟩
    show (_ : World).heap[_]? = some (Obj.cells ((List.replicate 64 0).map word).toArray 189 (0, 0))
    rw [zeroWords]
    exact boxed2b _ _ _ _
  case round =>
    obtain ⟨i, rfl, hi, hS⟩ := hrel
    by_cases h0 : gk = 0
    · obtain rfl : i = 16 := by omega
      replace hS := Lib.hid hS
      clear hi h0
      go_wp2
      go_loopg [6] 48 (fun gn s6 wr => ∃ i : Nat, s6 = .int .i64 (i : Int) ∧ i + gn = 64 ∧ 16 ≤ i ∧ Spr w wr (sprL s i))
      case atStart => exact ⟨16, rfl, rfl, Nat.le_refl _, hS.out⟩
      case round =>
        clear hS
        obtain ⟨i, rfl, hi, hi16, hS⟩ := hrel
        by_cases h0 : gk = 0
        · obtain rfl : i = 64 := by omega
          clear hi16
          obtain ⟨xs, hxs⟩ : ∃ xs, xs = sprL s 64 := ⟨_, rfl⟩
          have hl : xs.length = 64 := by rw [hxs]; exact sprL_len s 64
          rw [← hxs] at hS
          replace hxs := Lib.hid hxs
          replace hS := Lib.hid hS
          replace hl := Lib.hid hl
          clear hi h0
          go_wp2_with (first
            | (refine wpList_load_words salts64 Tryz.underlying189 rfl (.tmp 3) rfl (w.heap.size + 1) xs rfl hS.out.1 hl.out ?_)
            | (refine wpList_store_words salts64 rfl (.tmp 2) (.tmp 95) rfl w.heap.size xs rfl rfl hl.out hS.out.2.1 ?_; intro w5 W5 K5; replace W5 := Lib.hid W5; replace K5 := Lib.hid K5))
          have h1 : ((xs.map word).toArray).size = 64 := by simp [hl.out]
          exact bodyPost_ret (v := .agg (xs.map word).toArray) (results_cell_row rfl _ _ w.heap.size 189 (xs.map word).toArray (0, 0) _ rfl W5.out Tryz.underlying189 rfl (by rw [h1]; exact salts64)) rfl ⟨by rw [hxs.out], hS.out.2.2.trans (K5.out.below hS.out.2.2.size (by simp))⟩
        · obtain ⟨K, rfl⟩ : ∃ K : Nat, gk = K + 1 := ⟨gk - 1, by omega⟩
          have i0 : (0 : Int) ≤ (i : Int) := by omega
          have ilt : (i : Int) < 64 := by omega
          have hsm := sprL_small s i
          have hlen := sprL_len s i
          obtain ⟨k15, h15⟩ : ∃ k, k = i - 15 := ⟨_, rfl⟩
          obtain ⟨k2, h2⟩ : ∃ k, k = i - 2 := ⟨_, rfl⟩
          obtain ⟨k16, h16⟩ : ∃ k, k = i - 16 := ⟨_, rfl⟩
          obtain ⟨k7, h7⟩ : ∃ k, k = i - 7 := ⟨_, rfl⟩
          have e15 : IntKind.i64.wrap ((i : Int) - 15) = (k15 : Int) := by rw [IntKind.wrap_i64]; omega
          have e2 : IntKind.i64.wrap ((i : Int) - 2) = (k2 : Int) := by rw [IntKind.wrap_i64]; omega
          have e16 : IntKind.i64.wrap ((i : Int) - 16) = (k16 : Int) := by rw [IntKind.wrap_i64]; omega
          have e7 : IntKind.i64.wrap ((i : Int) - 7) = (k7 : Int) := by rw [IntKind.wrap_i64]; omega
          have p15 : (0 : Int) ≤ (k15 : Int) ∧ (k15 : Int) < 64 := by omega
          have p2 : (0 : Int) ≤ (k2 : Int) ∧ (k2 : Int) < 64 := by omega
          have p16 : (0 : Int) ≤ (k16 : Int) ∧ (k16 : Int) < 64 := by omega
          have p7 : (0 : Int) ≤ (k7 : Int) ∧ (k7 : Int) < 64 := by omega
          obtain ⟨p15a, p15b⟩ := p15
          obtain ⟨p2a, p2b⟩ := p2
          obtain ⟨p16a, p16b⟩ := p16
          obtain ⟨p7a, p7b⟩ := p7
          have c15 := hS.words.cell (i := k15) (by rw [hlen]; omega)
          have c2 := hS.words.cell (i := k2) (by rw [hlen]; omega)
          have c16 := hS.words.cell (i := k16) (by rw [hlen]; omega)
          have c7 := hS.words.cell (i := k7) (by rw [hlen]; omega)
          have x15 := hsm k15
          have x2 := hsm k2
          obtain ⟨y15, hy15⟩ : ∃ y, (sprL s i).getD k15 0 = y := ⟨_, rfl⟩
          obtain ⟨y2, hy2⟩ : ∃ y, (sprL s i).getD k2 0 = y := ⟨_, rfl⟩
          obtain ⟨y16, hy16⟩ : ∃ y, (sprL s i).getD k16 0 = y := ⟨_, rfl⟩
          obtain ⟨y7, hy7⟩ : ∃ y, (sprL s i).getD k7 0 = y := ⟨_, rfl⟩
          rw [hy15] at c15 x15; rw [hy2] at c2 x2; rw [hy16] at c16; rw [hy7] at c7
          obtain ⟨lo, hlo⟩ : ∃ l, l = low0 y15 := ⟨_, rfl⟩
          obtain ⟨hi0, hhi⟩ : ∃ l, l = low1 y2 := ⟨_, rfl⟩
          obtain ⟨nx, hnx⟩ : ∃ l, l = nextW (sprL s i) i := ⟨_, rfl⟩
          have hnx2 : nx = add32 (add32 (add32 y16 lo) y7) hi0 := by rw [hnx, nextW, ← h16, ← h15, ← h7, ← h2, hy16, hy15, hy7, hy2, hlo, hhi]
          have hqw : sprL s (i + 1) = (sprL s i).set i nx := by
            show (sprL s i).set i (if i < 16 then beWord s (4 * i) else nextW (sprL s i) i) = _
            rw [if_neg (by omega), ← hnx]
          have hP := hS.put i nx
          rw [← hqw] at hP
          have ci := hS.words.cell (i := i) (by rw [hlen]; omega)
          have fi := hS.words.free i
          have hi2 : i + (K + 1) = 64 := hi
          replace hi2 := Lib.hid hi2
          replace hP := Lib.hid hP
          replace hS := Lib.hid hS
          replace hnx2 := Lib.hid hnx2
          have hi16b := Lib.hid hi16
          clear hqw hnx hy15 hy2 hy16 hy7 hsm hlen hi h0 hi16
          replace h15 := Lib.hid h15; replace h2 := Lib.hid h2; replace h16 := Lib.hid h16; replace h7 := Lib.hid h7
          go_upto_region 11 with fail
          go_cut [7] from 42 to 94 (fun v wx => v = .int .u32 (lo : Int) ∧ wx = wr.drew)
          case first =>
            obtain ⟨r1, hr1⟩ : ∃ r, r = rotr y15 7 := ⟨_, rfl⟩
            obtain ⟨r2, hr2⟩ : ∃ r, r = rotr y15 18 := ⟨_, rfl⟩
            obtain ⟨r3, hr3⟩ : ∃ r, r = r1 ^^^ r2 := ⟨_, rfl⟩
            obtain ⟨r4, hr4⟩ : ∃ r, r = y15 / 8 := ⟨_, rfl⟩
            have t1 : ∀ w', Calls Tryz.prog 115 #[.int .u32 (y15 : Int), .int .i64 (-7)] w' fun e w2 => e = .returned (.int .u32 (r1 : Int)) ∧ w2 = w' := fun w' => by rw [hr1]; exact rotr_same y15 7 x15 (by omega) w'
            have t2 : ∀ w', Calls Tryz.prog 115 #[.int .u32 (y15 : Int), .int .i64 (-18)] w' fun e w2 => e = .returned (.int .u32 (r2 : Int)) ∧ w2 = w' := fun w' => by rw [hr2]; exact rotr_same y15 18 x15 (by omega) w'
            have b1 : bits .xor .u32 (r1 : Int) (r2 : Int) = (r3 : Int) := by rw [u32_xor_nat _ _ (by rw [hr1]; exact rotr_lt _ _ x15) (by rw [hr2]; exact rotr_lt _ _ x15), hr3]
            have b2 : (y15 : Int) / 8 = (r4 : Int) := by rw [hr4]; omega
            have b3 : bits .xor .u32 (r3 : Int) (r4 : Int) = (lo : Int) := by
              rw [u32_xor_nat _ _ (by rw [hr3, hr1, hr2]; exact xor_lt (rotr_lt _ _ x15) (rotr_lt _ _ x15)) (by omega), hlo, hr4, hr3, hr1, hr2]; rfl
            clear hr1 hr2 hr3 hr4 hlo hhi x15 x2
            replace t1 := Lib.hid t1; replace t2 := Lib.hid t2
            go_region_with (first | (go_at_call 115; (with_reducible refine (t1.out _).mono ?_); rintro e w1 ⟨rfl, rfl⟩) | (go_at_call 115; (with_reducible refine (t2.out _).mono ?_); rintro e w1 ⟨rfl, rfl⟩))
            all_goals go_wp2_with fail
            all_goals try go_meet
            all_goals exact ⟨rfl, rfl⟩
          case rest =>
          obtain ⟨rfl, rfl⟩ := hcut
          go_upto_region 12 with fail
          go_cut [8] from 42 to 94 (fun v wx => v = .int .u32 (hi0 : Int) ∧ wx = wr.drew.drew)
          case first =>
            obtain ⟨r1, hr1⟩ : ∃ r, r = rotr y2 17 := ⟨_, rfl⟩
            obtain ⟨r2, hr2⟩ : ∃ r, r = rotr y2 19 := ⟨_, rfl⟩
            obtain ⟨r3, hr3⟩ : ∃ r, r = r1 ^^^ r2 := ⟨_, rfl⟩
            obtain ⟨r4, hr4⟩ : ∃ r, r = y2 / 1024 := ⟨_, rfl⟩
            have t1 : ∀ w', Calls Tryz.prog 115 #[.int .u32 (y2 : Int), .int .i64 (-17)] w' fun e w2 => e = .returned (.int .u32 (r1 : Int)) ∧ w2 = w' := fun w' => by rw [hr1]; exact rotr_same y2 17 x2 (by omega) w'
            have t2 : ∀ w', Calls Tryz.prog 115 #[.int .u32 (y2 : Int), .int .i64 (-19)] w' fun e w2 => e = .returned (.int .u32 (r2 : Int)) ∧ w2 = w' := fun w' => by rw [hr2]; exact rotr_same y2 19 x2 (by omega) w'
            have b1 : bits .xor .u32 (r1 : Int) (r2 : Int) = (r3 : Int) := by rw [u32_xor_nat _ _ (by rw [hr1]; exact rotr_lt _ _ x2) (by rw [hr2]; exact rotr_lt _ _ x2), hr3]
            have b2 : (y2 : Int) / 1024 = (r4 : Int) := by rw [hr4]; omega
            have b3 : bits .xor .u32 (r3 : Int) (r4 : Int) = (hi0 : Int) := by
              rw [u32_xor_nat _ _ (by rw [hr3, hr1, hr2]; exact xor_lt (rotr_lt _ _ x2) (rotr_lt _ _ x2)) (by omega), hhi, hr4, hr3, hr1, hr2]; rfl
            clear hr1 hr2 hr3 hr4 hlo hhi x15 x2
            replace t1 := Lib.hid t1; replace t2 := Lib.hid t2
            go_region_with (first | (go_at_call 115; (with_reducible refine (t1.out _).mono ?_); rintro e w1 ⟨rfl, rfl⟩) | (go_at_call 115; (with_reducible refine (t2.out _).mono ?_); rintro e w1 ⟨rfl, rfl⟩))
            all_goals go_wp2_with fail
            all_goals try go_meet
            all_goals exact ⟨rfl, rfl⟩
          case rest =>
          obtain ⟨rfl, rfl⟩ := hcut
          clear hlo hhi x15 x2
          go_upto_region 13 with fail
          go_region
          all_goals go_wp2_with fail
          all_goals
            go_roundg K
            case measure => omega
            case rel =>
              have e : ((y16 : Int) + lo + y7 + hi0) % 4294967296 = (nx : Int) := by rw [hnx2.out]; unfold add32; omega
              refine ⟨i + 1, by go_num, by have := hi2.out; omega, by have := hi16b.out; omega, ?_⟩
              rw [e]
              exact hP.out.drew.drew.drew
    · obtain ⟨K, rfl⟩ : ∃ K : Nat, gk = K + 1 := ⟨gk - 1, by omega⟩
      have i1 : (i : Int) < 16 := by omega
      have i0 : (0 : Int) ≤ (i : Int) := by omega
      have i64 : (i : Int) < 64 := by omega
      obtain ⟨m, hm⟩ : ∃ m : Nat, m = 4 * i := ⟨_, rfl⟩
      have hm4 : 4 * (i : Int) = (m : Int) := by omega
      have z0 : (0 : Int) ≤ (m : Int) := by omega
      have z1 : (0 : Int) ≤ (m : Int) + 1 := by omega
      have z2 : (0 : Int) ≤ (m : Int) + 2 := by omega
      have z3 : (0 : Int) ≤ (m : Int) + 3 := by omega
      have hss := hs.out
      have l0 : (m : Int) < s.size := by omega
      have l1 : (m : Int) + 1 < s.size := by omega
      have l2 : (m : Int) + 2 < s.size := by omega
      have l3 : (m : Int) + 3 < s.size := by omega
      have v1 : IntKind.i64.wrap ((m : Int) + 1) = (m : Int) + 1 := by rw [IntKind.wrap_i64]; omega
      have v2 : IntKind.i64.wrap ((m : Int) + 2) = (m : Int) + 2 := by rw [IntKind.wrap_i64]; omega
      have v3 : IntKind.i64.wrap ((m : Int) + 3) = (m : Int) + 3 := by rw [IntKind.wrap_i64]; omega
      have g0 : ∀ h, ((s[m]'h).toNat : Int) = ((byteAt s m : Nat) : Int) := fun h => by rw [byteAt_eq s m h]
      have g1 : ∀ h, ((s[m + 1]'h).toNat : Int) = ((byteAt s (m + 1) : Nat) : Int) := fun h => by rw [byteAt_eq s (m + 1) h]
      have g2 : ∀ h, ((s[m + 2]'h).toNat : Int) = ((byteAt s (m + 2) : Nat) : Int) := fun h => by rw [byteAt_eq s (m + 2) h]
      have g3 : ∀ h, ((s[m + 3]'h).toNat : Int) = ((byteAt s (m + 3) : Nat) : Int) := fun h => by rw [byteAt_eq s (m + 3) h]
      obtain ⟨b0, hb0⟩ : ∃ b, b = byteAt s m := ⟨_, rfl⟩
      obtain ⟨b1, hb1⟩ : ∃ b, b = byteAt s (m + 1) := ⟨_, rfl⟩
      obtain ⟨b2, hb2⟩ : ∃ b, b = byteAt s (m + 2) := ⟨_, rfl⟩
      obtain ⟨b3, hb3⟩ : ∃ b, b = byteAt s (m + 3) := ⟨_, rfl⟩
      have q0 := byteAt_lt s m
      have q1 := byteAt_lt s (m + 1)
      have q2 := byteAt_lt s (m + 2)
      have q3 := byteAt_lt s (m + 3)
      rw [← hb0] at g0 q0; rw [← hb1] at g1 q1; rw [← hb2] at g2 q2; rw [← hb3] at g3 q3
      have hor := or4be b0 b1 b2 b3 q0 q1 q2 q3
      obtain ⟨q, hq⟩ : ∃ q, q = b0 * 16777216 + b1 * 65536 + b2 * 256 + b3 := ⟨_, rfl⟩
      rw [← hq] at hor
      have hqw : sprL s (i + 1) = (sprL s i).set i q := by
        show (sprL s i).set i (if i < 16 then beWord s (4 * i) else nextW (sprL s i) i) = _
        rw [if_pos (by omega), beWord, ← hm, ← hb0, ← hb1, ← hb2, ← hb3, hq]
      have hP := hS.put i q
      rw [← hqw] at hP
      have c1 := hS.words.cell (i := i) (by rw [sprL_len]; omega)
      have f1 := hS.words.free i
      have hi2 : i + (K + 1) = 16 := hi
      replace hi2 := Lib.hid hi2
      replace hP := Lib.hid hP
      replace hS := Lib.hid hS
      clear hb0 hb1 hb2 hb3 q0 q1 q2 q3 hq hqw hss hi h0
      replace hm := Lib.hid hm
      go_upto_region 6 with fail
      go_region
      all_goals go_wp2_with fail
      all_goals
        go_roundg K
        case measure => omega
        case rel => exact ⟨i + 1, by go_num, by have := hi2.out; omega, hP.out.drew⟩
end Go.Proofs.YtcdcipfojfnblaaGreatDoor.sha
end
section
namespace Go.Proofs.YtcdcipfojfnblaaGreatDoor.sha
open Go.RowKit
attribute [local go_sem ↓] Go.wp_at_zero Go.wp_at_succ
set_option linter.unusedVariables false
set_option maxRecDepth 100000

theorem eight8 : (Tryz.prog.info? 115).map (·.size) = some 8 := by kernel_rfl
/-- the table of salts lies here -/
def SaltAt (w : World) (ss : List Nat) : Prop := (∀ i, i < 64 → w.cell? ⟨0, i, none⟩ = some (.int .u32 ((ss.getD i 0 : Nat) : Int))) ∧ 0 < w.heap.size
theorem SaltAt.keep {w w' : World} {ss : List Nat} (h : SaltAt w ss) (k : Below w.heap.size w w') : SaltAt w' ss :=
  ⟨fun i hi => (k.cell h.2).trans (h.1 i hi), Nat.lt_of_lt_of_le h.2 k.size⟩
/-- what stands while words are mixed: the old ones, the block's, the table -/
def Mix (w wr : World) (W5 : Nat) (hs ws ss : List Nat) : Prop :=
  Words wr w.heap.size 115 hs ∧ (∃ z, wr.heap[w.heap.size + 1]? = some (.cells z 115 (0, 0)) ∧ z.size = 8) ∧ Words wr W5 189 ws ∧ SaltAt wr ss ∧ Below w.heap.size w wr
theorem Mix.drew {w wr : World} {W5 : Nat} {hs ws ss : List Nat} (h : Mix w wr W5 hs ws ss) : Mix w wr.drew W5 hs ws ss := ⟨h.1, h.2.1, h.2.2.1, h.2.2.2.1, h.2.2.2.2.drew⟩
theorem Mix.drewN {w wr : World} {W5 : Nat} {hs ws ss : List Nat} (h : Mix w wr W5 hs ws ss) (n : Nat) : Mix w (wr.drewN n) W5 hs ws ss := ⟨h.1, h.2.1, h.2.2.1, h.2.2.2.1, belowDrewN h.2.2.2.2 n⟩
theorem Mix.old {w wr : World} {W5 : Nat} {hs ws ss : List Nat} (h : Mix w wr W5 hs ws ss) : Words wr w.heap.size 115 hs := h.1
theorem Mix.ws {w wr : World} {W5 : Nat} {hs ws ss : List Nat} (h : Mix w wr W5 hs ws ss) : Words wr W5 189 ws := h.2.2.1
theorem Mix.ss {w wr : World} {W5 : Nat} {hs ws ss : List Nat} (h : Mix w wr W5 hs ws ss) {i : Nat} (hi : i < 64) : wr.cell? ⟨0, i, none⟩ = some (.int .u32 ((ss.getD i 0 : Nat) : Int)) := h.2.2.2.1.1 i hi
theorem not_32 (e : Nat) (h : e < 4294967296) : bits .xor .u32 IntKind.u32.max (e : Int) = ((4294967295 - e : Nat) : Int) := by
  show bits .xor .u32 ((4294967295 : Nat) : Int) (e : Int) = _
  rw [u32_xor_nat _ _ (by decide) h]
  congr 1
  apply Nat.eq_of_testBit_eq
  intro i
  have h1 := Nat.testBit_two_pow_sub_one 32 i
  have h2 := Nat.testBit_two_pow_sub_succ (n := 32) (x := e) h i
  rw [Nat.testBit_xor, show (4294967295 : Nat) = 2 ^ 32 - 1 from rfl, h1, show 2 ^ 32 - 1 - e = 2 ^ 32 - (e + 1) by omega, h2]
  by_cases hi : i < 32
  · simp [hi]
  · have : e.testBit i = false := Nat.testBit_lt_two_pow (Nat.lt_of_lt_of_le h (Nat.pow_le_pow_right (by decide) (by omega) : 2 ^ 32 ≤ 2 ^ i))
    simp [hi, this]
theorem mix_start {w w1 w2 : World} {cs zs : Array Value} {o : Obj} {hs ws ss : List Nat} (hcs : cs = (hs.map word).toArray) (hz : zs.size = 8)
    (b1 : Below ((w.alloc (.cells cs 115)).alloc (.cells zs 115)).heap.size ((w.alloc (.cells cs 115)).alloc (.cells zs 115)) w1) (hT : SaltAt w ss)
    (K2 : Keeps [w1.heap.size] (w1.alloc o) w2) (W2 : Words w2 w1.heap.size 189 ws) : Mix w w2 w1.heap.size hs ws ss := by
  have hsz := b1.size
  simp at hsz
  have kk : Keeps [w1.heap.size] ((w.alloc (.cells cs 115)).alloc (.cells zs 115)) w2 := ((Keeps.ofBelow b1 [w1.heap.size]).alloc o).trans K2
  have bel : Below w.heap.size w w2 := (((Below.refl _ w).alloc (Nat.le_refl _) _).alloc (by simp) _).trans (kk.below (by simp; omega) (by simp; omega))
  refine ⟨?_, ⟨zs, ?_, hz⟩, W2, hT.keep bel, bel⟩
  · unfold Words; rw [← hcs]
    exact (kk.block _ (by simp; omega) (by simp; omega)).trans (boxed2 _ _ _ _)
  · exact (kk.block _ (by simp) (by simp; omega)).trans (boxed2b _ _ _ _)
set_option maxRecDepth 100000 in
set_option maxHeartbeats 8000000 in
theorem mixed_any (ss hs : List Nat) (s : ByteArray) (h8 : hs.length = 8) (hsm : Small hs) (hsz : s.size = 64) (w : World) (hT : SaltAt w ss) (hss : Small ss) :
    Calls Tryz.prog 92 #[.agg (hs.map word).toArray, .string s] w fun e w' => e = .returned (.agg ((mixedL ss hs s).map word).toArray) ∧ Below w.heap.size w w' := by
  have hspr := fun w' => spread_any s hsz w'
  obtain ⟨ws, hws⟩ : ∃ ws, ws = sprL s 64 := ⟨_, rfl⟩
  have hwl : ws.length = 64 := by rw [hws]; exact sprL_len s 64
  have hwm : Small ws := by rw [hws]; exact sprL_small s 64
  have hml : mixedL ss hs s = addV hs (runV ws ss (ofL hs) 64) := by rw [hws]; rfl
  rw [← hws] at hspr
  rw [hml]
  have hok := fun k => runV_ok ws ss (ofL_ok hsm) k
  obtain ⟨v0, hv0⟩ : ∃ v, v = ofL hs := ⟨_, rfl⟩
  rw [← hv0] at hok ⊢
  obtain ⟨cs, hcs⟩ : ∃ cs, cs = (hs.map word).toArray := ⟨_, rfl⟩
  rw [← hcs]
  clear hws hml hsz
  replace hspr := Lib.hid hspr
  replace hwl := Lib.hid hwl
  replace hwm := Lib.hid hwm
  replace hok := Lib.hid hok
  replace hv0 := Lib.hid hv0
  replace hcs := Lib.hid hcs
  replace hT := Lib.hid hT
  replace h8 := Lib.hid h8
  replace hsm := Lib.hid hsm
  replace hss := Lib.hid hss
  go_enter Tryz.func92, Tryz.ntmps92
  go_upto_region 2 with (first
    | (go_at_call 114; (with_reducible refine (hspr.out _).mono ?_); rintro e w1 ⟨rfl, b1⟩; replace b1 := Lib.hid b1)
    | (refine wpList_store_words salts64 rfl (.tmp 5) (.tmp 19) rfl _ ws rfl rfl hwl.out ⟨_, heap_alloc_new _ _, rfl⟩ ?_; intro w2 W2 K2; replace W2 := Lib.hid W2; replace K2 := Lib.hid K2))
  have hM := mix_start (hs := hs) hcs.out rfl b1.out hT.out K2.out W2.out
  obtain ⟨W5, hW5⟩ : ∃ W, W = w1.heap.size := ⟨_, rfl⟩
  rw [← hW5] at hM ⊢
  replace hW5 := Lib.hid hW5
  clear b1 W2 K2 hT
  have va : v0.a = hs.getD 0 0 := by rw [hv0.out]; rfl
  have vb : v0.b = hs.getD 1 0 := by rw [hv0.out]; rfl
  have vc : v0.c = hs.getD 2 0 := by rw [hv0.out]; rfl
  have vd : v0.d = hs.getD 3 0 := by rw [hv0.out]; rfl
  have ve : v0.e = hs.getD 4 0 := by rw [hv0.out]; rfl
  have vf : v0.f = hs.getD 5 0 := by rw [hv0.out]; rfl
  have vg : v0.g = hs.getD 6 0 := by rw [hv0.out]; rfl
  have vh : v0.h = hs.getD 7 0 := by rw [hv0.out]; rfl
  replace va := Lib.hid va; replace vb := Lib.hid vb; replace vc := Lib.hid vc; replace vd := Lib.hid vd
  replace ve := Lib.hid ve; replace vf := Lib.hid vf; replace vg := Lib.hid vg; replace vh := Lib.hid vh
  have hOld := hM.old
  replace hM := Lib.hid hM
  have hl := h8.out
  simp only [Act.put]
  go_cut [6, 7, 8, 9] from 18 (fun a b c d wx => a = .int .u32 (v0.a : Int) ∧ b = .int .u32 (v0.b : Int) ∧ c = .int .u32 (v0.c : Int) ∧ d = .int .u32 (v0.d : Int) ∧ Mix w wx W5 hs ws ss)
  case first =>
    have c0 := hOld.cell (i := 0) (by omega)
    have c1 := hOld.cell (i := 1) (by omega)
    have c2 := hOld.cell (i := 2) (by omega)
    have c3 := hOld.cell (i := 3) (by omega)
    rw [← va.out] at c0; rw [← vb.out] at c1; rw [← vc.out] at c2; rw [← vd.out] at c3
    replace hOld := Lib.hid hOld
    clear hl
    go_quiet (fail)
    all_goals go_wp2_with fail
    all_goals try go_meet
    all_goals exact ⟨rfl, rfl, rfl, rfl, hM.out.drewN _⟩
  case rest =>
  clear hM hOld
  obtain ⟨rfl, rfl, rfl, rfl, hM⟩ := hcut
  have hOld := hM.old
  replace hM := Lib.hid hM
  go_upto_region 3 with fail
  go_cut [10, 11, 12, 13] from 18 (fun a b c d wx => a = .int .u32 (v0.e : Int) ∧ b = .int .u32 (v0.f : Int) ∧ c = .int .u32 (v0.g : Int) ∧ d = .int .u32 (v0.h : Int) ∧ Mix w wx W5 hs ws ss)
  case first =>
    have c4 := hOld.cell (i := 4) (by omega)
    have c5 := hOld.cell (i := 5) (by omega)
    have c6 := hOld.cell (i := 6) (by omega)
    have c7 := hOld.cell (i := 7) (by omega)
    rw [← ve.out] at c4; rw [← vf.out] at c5; rw [← vg.out] at c6; rw [← vh.out] at c7
    replace hOld := Lib.hid hOld
    clear hl
    go_quiet (fail)
    all_goals go_wp2_with fail
    all_goals try go_meet
    all_goals exact ⟨rfl, rfl, rfl, rfl, hM.out.drewN _⟩
  case rest =>
  clear hM hOld
  obtain ⟨rfl, rfl, rfl, rfl, hM⟩ := hcut
  replace hM := Lib.hid hM
  clear hl va vb vc vd ve vf vg vh
  go_upto_region 5 with fail
  go_loopg [6, 7, 8, 9, 10, 11, 12, 13, 36] 64 (fun gn s6 s7 s8 s9 s10 s11 s12 s13 s36 wr => ∃ i : Nat, s36 = .int .i64 (i : Int) ∧ i + gn = 64 ∧ s6 = .int .u32 ((runV ws ss v0 i).a : Int) ∧ s7 = .int .u32 ((runV ws ss v0 i).b : Int) ∧ s8 = .int .u32 ((runV ws ss v0 i).c : Int) ∧ s9 = .int .u32 ((runV ws ss v0 i).d : Int) ∧ s10 = .int .u32 ((runV ws ss v0 i).e : Int) ∧ s11 = .int .u32 ((runV ws ss v0 i).f : Int) ∧ s12 = .int .u32 ((runV ws ss v0 i).g : Int) ∧ s13 = .int .u32 ((runV ws ss v0 i).h : Int) ∧ Mix w wr W5 hs ws ss)
  case atStart => exact ⟨0, rfl, rfl, rfl, rfl, rfl, rfl, rfl, rfl, rfl, rfl, hM.out⟩
  case round =>
    clear hM
    obtain ⟨i, rfl, hi, rfl, rfl, rfl, rfl, rfl, rfl, rfl, rfl, hM⟩ := hrel
    have hv := hok.out i
    obtain ⟨v, hve⟩ : ∃ v, v = runV ws ss v0 i := ⟨_, rfl⟩
    rw [← hve] at hv ⊢
    obtain ⟨a, b, c, d, e, f, g, h⟩ := v
    obtain ⟨ha, hb, hc, hd, he, hf, hg, hh⟩ := hv
    dsimp only at ha hb hc hd he hf hg hh ⊢
    by_cases h0 : gk = 0
    · obtain rfl : i = 64 := by omega
      obtain ⟨y0, hy0⟩ : ∃ y, y = hs.getD 0 0 := ⟨_, rfl⟩
      have c0 := hM.old.cell (i := 0) (by rw [h8.out]; decide)
      rw [← hy0] at c0
      obtain ⟨x0, hx0⟩ : ∃ x, x = add32 y0 a := ⟨_, rfl⟩
      have e0 : ((y0 : Int) + a) % 4294967296 = (x0 : Int) := by rw [hx0]; simp [add32]
      obtain ⟨y1, hy1⟩ : ∃ y, y = hs.getD 1 0 := ⟨_, rfl⟩
      have c1 := hM.old.cell (i := 1) (by rw [h8.out]; decide)
      rw [← hy1] at c1
      obtain ⟨x1, hx1⟩ : ∃ x, x = add32 y1 b := ⟨_, rfl⟩
      have e1 : ((y1 : Int) + b) % 4294967296 = (x1 : Int) := by rw [hx1]; simp [add32]
      obtain ⟨y2, hy2⟩ : ∃ y, y = hs.getD 2 0 := ⟨_, rfl⟩
      have c2 := hM.old.cell (i := 2) (by rw [h8.out]; decide)
      rw [← hy2] at c2
      obtain ⟨x2, hx2⟩ : ∃ x, x = add32 y2 c := ⟨_, rfl⟩
      have e2 : ((y2 : Int) + c) % 4294967296 = (x2 : Int) := by rw [hx2]; simp [add32]
      obtain ⟨y3, hy3⟩ : ∃ y, y = hs.getD 3 0 := ⟨_, rfl⟩
      have c3 := hM.old.cell (i := 3) (by rw [h8.out]; decide)
      rw [← hy3] at c3
      obtain ⟨x3, hx3⟩ : ∃ x, x = add32 y3 d := ⟨_, rfl⟩
      have e3 : ((y3 : Int) + d) % 4294967296 = (x3 : Int) := by rw [hx3]; simp [add32]
      obtain ⟨y4, hy4⟩ : ∃ y, y = hs.getD 4 0 := ⟨_, rfl⟩
      have c4 := hM.old.cell (i := 4) (by rw [h8.out]; decide)
      rw [← hy4] at c4
      obtain ⟨x4, hx4⟩ : ∃ x, x = add32 y4 e := ⟨_, rfl⟩
      have e4 : ((y4 : Int) + e) % 4294967296 = (x4 : Int) := by rw [hx4]; simp [add32]
      obtain ⟨y5, hy5⟩ : ∃ y, y = hs.getD 5 0 := ⟨_, rfl⟩
      have c5 := hM.old.cell (i := 5) (by rw [h8.out]; decide)
      rw [← hy5] at c5
      obtain ⟨x5, hx5⟩ : ∃ x, x = add32 y5 f := ⟨_, rfl⟩
      have e5 : ((y5 : Int) + f) % 4294967296 = (x5 : Int) := by rw [hx5]; simp [add32]
      obtain ⟨y6, hy6⟩ : ∃ y, y = hs.getD 6 0 := ⟨_, rfl⟩
      have c6 := hM.old.cell (i := 6) (by rw [h8.out]; decide)
      rw [← hy6] at c6
      obtain ⟨x6, hx6⟩ : ∃ x, x = add32 y6 g := ⟨_, rfl⟩
      have e6 : ((y6 : Int) + g) % 4294967296 = (x6 : Int) := by rw [hx6]; simp [add32]
      obtain ⟨y7, hy7⟩ : ∃ y, y = hs.getD 7 0 := ⟨_, rfl⟩
      have c7 := hM.old.cell (i := 7) (by rw [h8.out]; decide)
      rw [← hy7] at c7
      obtain ⟨x7, hx7⟩ : ∃ x, x = add32 y7 h := ⟨_, rfl⟩
      have e7 : ((y7 : Int) + h) % 4294967296 = (x7 : Int) := by rw [hx7]; simp [add32]
      have hfin : addV hs (runV ws ss v0 64) = [x0, x1, x2, x3, x4, x5, x6, x7] := by
        rw [← hve, hx0, hx1, hx2, hx3, hx4, hx5, hx6, hx7, hy0, hy1, hy2, hy3, hy4, hy5, hy6, hy7]; rfl
      replace hfin := Lib.hid hfin
      replace hM := Lib.hid hM
      clear hve hx0 hx1 hx2 hx3 hx4 hx5 hx6 hx7 hy0 hy1 hy2 hy3 hy4 hy5 hy6 hy7 ha hb hc hd he hf hg hh hi h0
      go_wp2_with (refine wpList_store_words eight8 rfl (.tmp 4) (.tmp 133) rfl (w.heap.size + 1) [x0, x1, x2, x3, x4, x5, x6, x7] rfl rfl rfl hM.out.2.1 ?_; intro w5 W5' K5; replace W5' := Lib.hid W5'; replace K5 := Lib.hid K5)
      exact bodyPost_ret (v := .agg (([x0, x1, x2, x3, x4, x5, x6, x7]).map word).toArray) (results_cell_row rfl _ _ (w.heap.size + 1) 115 _ (0, 0) _ rfl W5'.out Tryz.underlying115 rfl eight8) rfl ⟨by rw [hfin.out], hM.out.2.2.2.2.trans (K5.out.below hM.out.2.2.2.2.size (by simp))⟩
    · obtain ⟨K, rfl⟩ : ∃ K : Nat, gk = K + 1 := ⟨gk - 1, by omega⟩
      have i1 : (i : Int) < 64 := by omega
      have i0 : (0 : Int) ≤ (i : Int) := by omega
      have cw := hM.ws.cell (i := i) (by rw [hwl.out]; omega)
      have cs2 := hM.ss (i := i) (by omega)
      obtain ⟨x, hx⟩ : ∃ x, x = ws.getD i 0 := ⟨_, rfl⟩
      obtain ⟨sv, hsv⟩ : ∃ x, x = ss.getD i 0 := ⟨_, rfl⟩
      rw [← hx] at cw
      rw [← hsv] at cs2
      replace hM := Lib.hid hM
      have hi2 := Lib.hid hi
      replace hve := Lib.hid hve
      replace hx := Lib.hid hx
      replace hsv := Lib.hid hsv
      clear hi h0
      obtain ⟨r1, hr1⟩ : ∃ r, r = rotr e 6 := ⟨_, rfl⟩
      obtain ⟨r2, hr2⟩ : ∃ r, r = rotr e 11 := ⟨_, rfl⟩
      obtain ⟨r3, hr3⟩ : ∃ r, r = r1 ^^^ r2 := ⟨_, rfl⟩
      obtain ⟨r4, hr4⟩ : ∃ r, r = rotr e 25 := ⟨_, rfl⟩
      obtain ⟨S1, hS1⟩ : ∃ r, r = sig1 e := ⟨_, rfl⟩
      have t1 : ∀ w', Calls Tryz.prog 115 #[.int .u32 (e : Int), .int .i64 (-6)] w' fun e w2 => e = .returned (.int .u32 (r1 : Int)) ∧ w2 = w' := fun w' => by rw [hr1]; exact rotr_same e 6 he (by omega) w'
      have t2 : ∀ w', Calls Tryz.prog 115 #[.int .u32 (e : Int), .int .i64 (-11)] w' fun e w2 => e = .returned (.int .u32 (r2 : Int)) ∧ w2 = w' := fun w' => by rw [hr2]; exact rotr_same e 11 he (by omega) w'
      have t3 : ∀ w', Calls Tryz.prog 115 #[.int .u32 (e : Int), .int .i64 (-25)] w' fun e w2 => e = .returned (.int .u32 (r4 : Int)) ∧ w2 = w' := fun w' => by rw [hr4]; exact rotr_same e 25 he (by omega) w'
      have b1 : bits .xor .u32 (r1 : Int) (r2 : Int) = (r3 : Int) := by rw [u32_xor_nat _ _ (by rw [hr1]; exact rotr_lt _ _ he) (by rw [hr2]; exact rotr_lt _ _ he), hr3]
      have b2 : bits .xor .u32 (r3 : Int) (r4 : Int) = (S1 : Int) := by
        rw [u32_xor_nat _ _ (by rw [hr3, hr1, hr2]; exact xor_lt (rotr_lt _ _ he) (rotr_lt _ _ he)) (by rw [hr4]; exact rotr_lt _ _ he), hS1, hr4, hr3, hr1, hr2]; rfl
      clear hr1 hr2 hr3 hr4
      replace hS1 := Lib.hid hS1
      replace t1 := Lib.hid t1; replace t2 := Lib.hid t2; replace t3 := Lib.hid t3
      go_upto_region 8 with (first | (go_at_call 115; (with_reducible refine (t1.out _).mono ?_); rintro e w1 ⟨rfl, rfl⟩) | (go_at_call 115; (with_reducible refine (t2.out _).mono ?_); rintro e w1 ⟨rfl, rfl⟩) | (go_at_call 115; (with_reducible refine (t3.out _).mono ?_); rintro e w1 ⟨rfl, rfl⟩))
      clear b1 b2 t1 t2 t3
      go_cut [16] from 37 to 100 (fun p wx => p = .int .u32 (tOf x sv ⟨a, b, c, d, e, f, g, h⟩ : Int) ∧ Mix w wx W5 hs ws ss)
      case first =>
        obtain ⟨p1, hp1⟩ : ∃ p, p = e &&& f := ⟨_, rfl⟩
        obtain ⟨ne, hne⟩ : ∃ p, p = 4294967295 - e := ⟨_, rfl⟩
        obtain ⟨p2, hp2⟩ : ∃ p, p = ne &&& g := ⟨_, rfl⟩
        obtain ⟨C, hC⟩ : ∃ p, p = cho e f g := ⟨_, rfl⟩
        have b1 : bits .and .u32 (e : Int) (f : Int) = (p1 : Int) := by rw [u32_and_nat _ _ he hf, hp1]
        have b2 : bits .xor .u32 IntKind.u32.max (e : Int) = (ne : Int) := by rw [not_32 e he, hne]
        have b3 : bits .and .u32 (ne : Int) (g : Int) = (p2 : Int) := by rw [u32_and_nat _ _ (by omega) hg, hp2]
        have b4 : bits .xor .u32 (p1 : Int) (p2 : Int) = (C : Int) := by
          rw [u32_xor_nat _ _ (by rw [hp1]; exact and_lt he) (by rw [hp2]; exact and_lt (by omega)), hC, hp1, hp2, hne]; rfl
        have hfin : ((h : Int) + S1 + C + sv + x) % 4294967296 = ((tOf x sv ⟨a, b, c, d, e, f, g, h⟩ : Nat) : Int) := by
          rw [hS1.out, hC]; unfold tOf add32; dsimp only; omega
        clear hp1 hne hp2 hC
        go_quiet (fail)
        all_goals go_wp2_with fail
        all_goals go_meet
        all_goals exact ⟨by first | rfl | rw [hfin], hM.out.drewN _⟩
      case rest =>
      obtain ⟨rfl, hM⟩ := hcut
      replace hM := Lib.hid hM
      obtain ⟨t, ht⟩ : ∃ t, t = tOf x sv ⟨a, b, c, d, e, f, g, h⟩ := ⟨_, rfl⟩
      rw [← ht]
      have hst : runV ws ss v0 (i + 1) = stepV x sv ⟨a, b, c, d, e, f, g, h⟩ := by
        show stepV (ws.getD i 0) (ss.getD i 0) (runV ws ss v0 i) = _
        rw [← hve.out, ← hx.out, ← hsv.out]
      replace hst := Lib.hid hst
      replace ht := Lib.hid ht
      obtain ⟨r1, hr1⟩ : ∃ r, r = rotr a 2 := ⟨_, rfl⟩
      obtain ⟨r2, hr2⟩ : ∃ r, r = rotr a 13 := ⟨_, rfl⟩
      obtain ⟨r3, hr3⟩ : ∃ r, r = r1 ^^^ r2 := ⟨_, rfl⟩
      obtain ⟨r4, hr4⟩ : ∃ r, r = rotr a 22 := ⟨_, rfl⟩
      obtain ⟨S0, hS0⟩ : ∃ r, r = sig0 a := ⟨_, rfl⟩
      have t1 : ∀ w', Calls Tryz.prog 115 #[.int .u32 (a : Int), .int .i64 (-2)] w' fun e w2 => e = .returned (.int .u32 (r1 : Int)) ∧ w2 = w' := fun w' => by rw [hr1]; exact rotr_same a 2 ha (by omega) w'
      have t2 : ∀ w', Calls Tryz.prog 115 #[.int .u32 (a : Int), .int .i64 (-13)] w' fun e w2 => e = .returned (.int .u32 (r2 : Int)) ∧ w2 = w' := fun w' => by rw [hr2]; exact rotr_same a 13 ha (by omega) w'
      have t3 : ∀ w', Calls Tryz.prog 115 #[.int .u32 (a : Int), .int .i64 (-22)] w' fun e w2 => e = .returned (.int .u32 (r4 : Int)) ∧ w2 = w' := fun w' => by rw [hr4]; exact rotr_same a 22 ha (by omega) w'
      have b1 : bits .xor .u32 (r1 : Int) (r2 : Int) = (r3 : Int) := by rw [u32_xor_nat _ _ (by rw [hr1]; exact rotr_lt _ _ ha) (by rw [hr2]; exact rotr_lt _ _ ha), hr3]
      have b2 : bits .xor .u32 (r3 : Int) (r4 : Int) = (S0 : Int) := by
        rw [u32_xor_nat _ _ (by rw [hr3, hr1, hr2]; exact xor_lt (rotr_lt _ _ ha) (rotr_lt _ _ ha)) (by rw [hr4]; exact rotr_lt _ _ ha), hS0, hr4, hr3, hr1, hr2]; rfl
      obtain ⟨p1, hp1⟩ : ∃ p, p = a &&& b := ⟨_, rfl⟩
      obtain ⟨p2, hp2⟩ : ∃ p, p = a &&& c := ⟨_, rfl⟩
      obtain ⟨p3, hp3⟩ : ∃ p, p = p1 ^^^ p2 := ⟨_, rfl⟩
      obtain ⟨p4, hp4⟩ : ∃ p, p = b &&& c := ⟨_, rfl⟩
      obtain ⟨mj, hmj⟩ : ∃ p, p = maj a b c := ⟨_, rfl⟩
      have q1 : bits .and .u32 (a : Int) (b : Int) = (p1 : Int) := by rw [u32_and_nat _ _ ha hb, hp1]
      have q2 : bits .and .u32 (a : Int) (c : Int) = (p2 : Int) := by rw [u32_and_nat _ _ ha hc, hp2]
      have q3 : bits .xor .u32 (p1 : Int) (p2 : Int) = (p3 : Int) := by rw [u32_xor_nat _ _ (by rw [hp1]; exact and_lt ha) (by rw [hp2]; exact and_lt ha), hp3]
      have q4 : bits .and .u32 (b : Int) (c : Int) = (p4 : Int) := by rw [u32_and_nat _ _ hb hc, hp4]
      have q5 : bits .xor .u32 (p3 : Int) (p4 : Int) = (mj : Int) := by
        rw [u32_xor_nat _ _ (by rw [hp3, hp1, hp2]; exact xor_lt (and_lt ha) (and_lt ha)) (by rw [hp4]; exact and_lt hb), hmj, hp4, hp3, hp2, hp1]; rfl
      obtain ⟨u, hu⟩ : ∃ u, u = uOf ⟨a, b, c, d, e, f, g, h⟩ := ⟨_, rfl⟩
      have q6 : ((S0 : Int) + mj) % 4294967296 = (u : Int) := by rw [hu, hS0, hmj]; unfold uOf add32; dsimp only; omega
      obtain ⟨n1, hn1⟩ : ∃ n, n = add32 t u := ⟨_, rfl⟩
      obtain ⟨n2, hn2⟩ : ∃ n, n = add32 d t := ⟨_, rfl⟩
      have q7 : ((t : Int) + u) % 4294967296 = (n1 : Int) := by rw [hn1]; unfold add32; omega
      have q8 : ((d : Int) + t) % 4294967296 = (n2 : Int) := by rw [hn2]; unfold add32; omega
      have hV : runV ws ss v0 (i + 1) = ⟨n1, a, b, c, n2, e, f, g⟩ := by rw [hst.out, hn1, hn2, hu, ht.out]; rfl
      replace hV := Lib.hid hV
      clear hr1 hr2 hr3 hr4 hS0 hp1 hp2 hp3 hp4 hmj hu hn1 hn2
      replace t1 := Lib.hid t1; replace t2 := Lib.hid t2; replace t3 := Lib.hid t3
      clear ha hb hc hd he hf hg hh
      go_wp2_with (first | (go_at_call 115; (with_reducible refine (t1.out _).mono ?_); rintro e w1 ⟨rfl, rfl⟩) | (go_at_call 115; (with_reducible refine (t2.out _).mono ?_); rintro e w1 ⟨rfl, rfl⟩) | (go_at_call 115; (with_reducible refine (t3.out _).mono ?_); rintro e w1 ⟨rfl, rfl⟩))
      go_roundg K
      case measure => omega
      case rel =>
        refine ⟨i + 1, by go_num, by have := hi2.out; omega, ?_⟩
        rw [hV.out]
        exact ⟨by first | rfl | rw [q7], rfl, rfl, rfl, by first | rfl | rw [q8], rfl, rfl, rfl, hM.out⟩
end Go.Proofs.YtcdcipfojfnblaaGreatDoor.sha
end
section
namespace Go.Proofs.YtcdcipfojfnblaaGreatDoor.sha
open Go.RowKit
attribute [local go_sem ↓] Go.wp_at_zero Go.wp_at_succ
set_option linter.unusedVariables false
set_option maxRecDepth 100000

theorem eight8b : (Tryz.prog.info? 115).map (·.size) = some 8 := by kernel_rfl
/-- the bytes of so many words, the highest first, in a row of 32 -/
def outW (ns : List Nat) : Nat → List Nat
  | 0 => List.replicate 32 0
  | k + 1 => ((((outW ns k).set (4 * k) (ns.getD k 0 / 16777216 % 256)).set (4 * k + 1) (ns.getD k 0 / 65536 % 256)).set (4 * k + 2) (ns.getD k 0 / 256 % 256)).set (4 * k + 3) (ns.getD k 0 % 256)
theorem outW_len (ns : List Nat) (k : Nat) : (outW ns k).length = 32 := by
  induction k with
  | zero => simp [outW]
  | succ k ih => simp [outW, ih]
theorem outW_lt (ns : List Nat) (k : Nat) : ∀ x ∈ outW ns k, x < 256 := by
  induction k with
  | zero => intro x hx; simp [outW] at hx; omega
  | succ k ih =>
    intro x hx
    rcases List.mem_or_eq_of_mem_set hx with hx | rfl
    · rcases List.mem_or_eq_of_mem_set hx with hx | rfl
      · rcases List.mem_or_eq_of_mem_set hx with hx | rfl
        · rcases List.mem_or_eq_of_mem_set hx with hx | rfl
          · exact ih x hx
          · exact Nat.mod_lt _ (by decide)
        · exact Nat.mod_lt _ (by decide)
      · exact Nat.mod_lt _ (by decide)
    · exact Nat.mod_lt _ (by decide)
/-- the same, one behind the other -/
def outB (ns : List Nat) : Nat → List UInt8
  | 0 => []
  | k + 1 => outB ns k ++ [UInt8.ofNat (ns.getD k 0 / 16777216 % 256), UInt8.ofNat (ns.getD k 0 / 65536 % 256), UInt8.ofNat (ns.getD k 0 / 256 % 256), UInt8.ofNat (ns.getD k 0 % 256)]
theorem outB_len (ns : List Nat) (k : Nat) : (outB ns k).length = 4 * k := by
  induction k with
  | zero => rfl
  | succ k ih => simp [outB, ih]; omega
theorem set4 (A B : List Nat) (n : Nat) (hA : A.length = n) (x y z u a b c d : Nat) : ((((A ++ x :: y :: z :: u :: B).set n a).set (n + 1) b).set (n + 2) c).set (n + 3) d = A ++ a :: b :: c :: d :: B := by
  subst hA
  simp [List.set_append]
theorem outW_form (ns : List Nat) : ∀ k, k ≤ 8 → (∃ A : List Nat, outW ns k = A ++ List.replicate (32 - 4 * k) 0 ∧ A.length = 4 * k ∧ A.map UInt8.ofNat = outB ns k)
  | 0, _ => ⟨[], rfl, rfl, rfl⟩
  | k + 1, h => by
    obtain ⟨A, h1, h2, h3⟩ := outW_form ns k (by omega)
    refine ⟨A ++ [ns.getD k 0 / 16777216 % 256, ns.getD k 0 / 65536 % 256, ns.getD k 0 / 256 % 256, ns.getD k 0 % 256], ?_, ?_, ?_⟩
    · show ((((outW ns k).set (4 * k) _).set (4 * k + 1) _).set (4 * k + 2) _).set (4 * k + 3) _ = _
      rw [h1, show 32 - 4 * k = (32 - 4 * (k + 1)) + 1 + 1 + 1 + 1 by omega, List.replicate_succ, List.replicate_succ, List.replicate_succ, List.replicate_succ, set4 A _ (4 * k) h2]
      simp
    · simp [h2]; omega
    · rw [List.map_append, h3]; rfl
theorem outW_outB (ns : List Nat) : (outW ns 8).map UInt8.ofNat = outB ns 8 := by
  obtain ⟨A, h1, h2, h3⟩ := outW_form ns 8 (by omega)
  rw [h1]; simpa using h3
theorem zeroBytes : ((List.replicate 32 0).map byteN).toArray = #[Value.int .u8 0, .int .u8 0, .int .u8 0, .int .u8 0, .int .u8 0, .int .u8 0, .int .u8 0, .int .u8 0, .int .u8 0, .int .u8 0, .int .u8 0, .int .u8 0, .int .u8 0, .int .u8 0, .int .u8 0, .int .u8 0, .int .u8 0, .int .u8 0, .int .u8 0, .int .u8 0, .int .u8 0, .int .u8 0, .int .u8 0, .int .u8 0, .int .u8 0, .int .u8 0, .int .u8 0, .int .u8 0, .int .u8 0, .int .u8 0, .int .u8 0, .int .u8 0] := rfl
theorem word_at (hs : List Nat) (i : Nat) (h : i < ((hs.map word).toArray).size) : ((hs.map word).toArray)[i]'h = Value.int .u32 ((hs.getD i 0 : Nat) : Int) := by
  have h2 : i < hs.length := by simpa using h
  simp [word, List.getD, List.getElem?_eq_getElem h2]
theorem run_index_eight (cs : Array Value) (i : Nat) (v : Value) (hi : i < 8) (hv : cs[i]? = some v) (w : World) : (Instr.index 115 (.agg cs) (.int .i64 (i : Int))).run Tryz.prog w = .ok v w := by
  have h1 : (0 : Int) ≤ (i : Int) ∧ (i : Int) < ((8 : Nat) : Int) := by omega
  simp [Instr.index, run_underlying Tryz.underlying115, asIntOf, h1, go_sem]
  rw [if_pos hi, hv]
  rfl
set_option maxRecDepth 100000 in
set_option maxHeartbeats 4000000 in
theorem written_any (hs : List Nat) (h8 : hs.length = 8) (hsm : Small hs) (w : World) :
    Calls Tryz.prog 94 #[.agg (hs.map word).toArray] w fun e w' => e = .returned (.string (str (outB hs 8))) ∧ Below w.heap.size w w' := by
  obtain ⟨cs, hcs⟩ : ∃ cs, cs = (hs.map word).toArray := ⟨_, rfl⟩
  have hcl : cs.size = 8 := by rw [hcs]; simp [h8]
  have hat : ∀ i (h : i < cs.size), cs[i]'h = Value.int .u32 ((hs.getD i 0 : Nat) : Int) := by subst hcs; exact fun i h => word_at hs i h
  rw [← hcs]
  replace hcs := Lib.hid hcs
  replace hsm := Lib.hid hsm
  go_enter Tryz.func94, Tryz.ntmps94
  go_wp2_with (refine wpList_load_words eight8b Tryz.underlying115 rfl (.tmp 1) rfl w.heap.size hs rfl (by unfold Words; rw [← hcs.out]; exact boxed2 _ _ _ _) h8 ?_)
  rw [← hcs.out]
  have hB0 : BytesT ((w.alloc (.cells cs 115)).alloc (.cells #[Value.int .u8 0, .int .u8 0, .int .u8 0, .int .u8 0, .int .u8 0, .int .u8 0, .int .u8 0, .int .u8 0, .int .u8 0, .int .u8 0, .int .u8 0, .int .u8 0, .int .u8 0, .int .u8 0, .int .u8 0, .int .u8 0, .int .u8 0, .int .u8 0, .int .u8 0, .int .u8 0, .int .u8 0, .int .u8 0, .int .u8 0, .int .u8 0, .int .u8 0, .int .u8 0, .int .u8 0, .int .u8 0, .int .u8 0, .int .u8 0, .int .u8 0, .int .u8 0] 192)) (w.heap.size + 1) 192 (outW hs 0) := by
    show (_ : World).heap[_]? = some (Obj.cells ((List.replicate 32 0).map byteN).toArray 192 (0, 0))
    rw [zeroBytes]; exact boxed2b _ _ _ _
  go_loopg [7] 8 (fun gn s7 wr => ∃ i : Nat, s7 = .int .i64 (i : Int) ∧ i + gn = 8 ∧ BytesT wr (w.heap.size + 1) 192 (outW hs i) ∧ Below w.heap.size w wr)
  case atStart => exact ⟨0, rfl, rfl, hB0, by go_grown⟩
  case round =>
    clear hB0
    obtain ⟨i, rfl, hi, hO, hB⟩ := hrel
    by_cases h0 : gk = 0
    · obtain rfl : i = 8 := by omega
      have ht := hO.text (outW_lt hs 8) 32
      rw [outW_len, outW_outB] at ht
      replace hO := Lib.hid hO
      clear hi h0 hat
      go_wp2
      go_ret
      exact ⟨rfl, hB⟩
    · obtain ⟨K, rfl⟩ : ∃ K : Nat, gk = K + 1 := ⟨gk - 1, by omega⟩
      have i1 : (i : Int) < 8 := by omega
      have i0 : (0 : Int) ≤ (i : Int) := by omega
      obtain ⟨n, hn⟩ : ∃ n, n = hs.getD i 0 := ⟨_, rfl⟩
      have hnl : n < 4294967296 := by rw [hn]; exact hsm.out i
      have hati : ∀ h, cs[i]'h = Value.int .u32 (n : Int) := fun h => by rw [hn]; exact hat i h
      have hrun := fun w' => run_index_eight cs i (Value.int .u32 (n : Int)) (by omega) (by rw [Array.getElem?_eq_getElem (by omega), hati]) w'
      clear hat hati
      obtain ⟨v0, hv0⟩ : ∃ v, v = n / 16777216 % 256 := ⟨_, rfl⟩
      obtain ⟨v1, hv1⟩ : ∃ v, v = n / 65536 % 256 := ⟨_, rfl⟩
      obtain ⟨v2, hv2⟩ : ∃ v, v = n / 256 % 256 := ⟨_, rfl⟩
      obtain ⟨v3, hv3⟩ : ∃ v, v = n % 256 := ⟨_, rfl⟩
      have e0 : (n : Int) / 16777216 % 256 = (v0 : Int) := by omega
      have e1 : (n : Int) / 65536 % 256 = (v1 : Int) := by omega
      have e2 : (n : Int) / 256 % 256 = (v2 : Int) := by omega
      have e3 : (n : Int) % 256 = (v3 : Int) := by omega
      obtain ⟨m, hm⟩ : ∃ m : Nat, m = 4 * i := ⟨_, rfl⟩
      have hm4 : 4 * (i : Int) = (m : Int) := by omega
      have z0 : (0 : Int) ≤ (m : Int) := by omega
      have z1 : (0 : Int) ≤ (m : Int) + 1 := by omega
      have z2 : (0 : Int) ≤ (m : Int) + 2 := by omega
      have z3 : (0 : Int) ≤ (m : Int) + 3 := by omega
      have l0 : (m : Int) < 32 := by omega
      have l1 : (m : Int) + 1 < 32 := by omega
      have l2 : (m : Int) + 2 < 32 := by omega
      have l3 : (m : Int) + 3 < 32 := by omega
      have hL := outW_len hs i
      obtain ⟨l, hl⟩ : ∃ l, l = outW hs i := ⟨_, rfl⟩
      rw [← hl] at hO hL
      have c0 := hO.cell (i := m) (by omega)
      have f0 := hO.free m
      have B1 := hO.put m v0
      have c1 := B1.cell (i := m + 1) (by simp; omega)
      have f1 := B1.free (m + 1)
      have B2 := B1.put (m + 1) v1
      have c2 := B2.cell (i := m + 2) (by simp; omega)
      have f2 := B2.free (m + 2)
      have B3 := B2.put (m + 2) v2
      have c3 := B3.cell (i := m + 3) (by simp; omega)
      have f3 := B3.free (m + 3)
      have B4 := B3.put (m + 3) v3
      have hnext : outW hs (i + 1) = (((l.set m v0).set (m + 1) v1).set (m + 2) v2).set (m + 3) v3 := by
        show ((((outW hs i).set (4 * i) (hs.getD i 0 / 16777216 % 256)).set (4 * i + 1) (hs.getD i 0 / 65536 % 256)).set (4 * i + 2) (hs.getD i 0 / 256 % 256)).set (4 * i + 3) (hs.getD i 0 % 256) = _
        rw [← hn, ← hm, ← hl, hv0, hv1, hv2, hv3]
      rw [← hnext] at B4
      have hi2 : i + (K + 1) = 8 := hi
      replace hi2 := Lib.hid hi2
      replace B4 := Lib.hid B4
      clear B1 B2 B3 hO hnext hl hL hv0 hv1 hv2 hv3 hn hnl hi h0
      replace hm := Lib.hid hm
      go_wp2
      go_roundg K
      case measure => omega
      case rel =>
        refine ⟨i + 1, by go_num, by have := hi2.out; omega, B4.out, ?_⟩
        exact (((hB.setCell (p := ⟨w.heap.size + 1, m, none⟩) (by simp) _).setCell (p := ⟨w.heap.size + 1, m + 1, none⟩) (by simp) _).setCell (p := ⟨w.heap.size + 1, m + 2, none⟩) (by simp) _).setCell (p := ⟨w.heap.size + 1, m + 3, none⟩) (by simp) _
end Go.Proofs.YtcdcipfojfnblaaGreatDoor.sha
end
section
namespace Go.Proofs.YtcdcipfojfnblaaGreatDoor.sha
open Go.RowKit
attribute [local go_sem ↓] Go.wp_at_zero Go.wp_at_succ
attribute [local go_sem] str_size
set_option linter.unusedVariables false
set_option maxRecDepth 100000

/-- 'copy(b, s)', s a text that fits -/
theorem wpList_copy_text {w : World} {ops : Array Oper} {rest : List Oper} {o : Oper} {a : Act} {Q : Exit → Act → World → Prop} (hgd : o.guard = none) (d x : Operand)
    (ho : o.op = .call { callee := .builtin .copy, args := #[d, x], argTypes := #[70, 9] }) (q n cap : Nat) (L l : List UInt8) (hd : a.eval d = .slice (some ⟨q, 0, none⟩) n cap) (hx : a.eval x = .string (str l))
    (hL : ByteBlk w q L) (h1 : l.length ≤ n) (h2 : l.length ≤ L.length)
    (h : ∀ w', ByteBlk w' q (l ++ L.drop l.length) → Keeps [q] w w' → wpList Tryz.prog ops Q rest (a.put o.dst (.int .i64 (l.length : Int))) w') : wpList Tryz.prog ops Q (o :: rest) a w := by
  refine wpList_plain hgd fun K hK => ?_
  have hs1 : (Tryz.prog.info? 5).map (·.size) = some 1 := by kernel_rfl
  have hrun := Go.Lib.run_copy_row_string (P := Tryz.prog) w 70 9 o.type 5 q 0 n cap (str l) (cellsOf L).toArray 5 Tryz.underlying70 hs1 hL (by rw [str_size]; exact h1) (by rw [str_size]; simpa [cellsOf] using h2)
  have e : ((cellsOf L).toArray.toList.take 0 ++ Go.Lib.byteCells (str l).data.toList ++ (cellsOf L).toArray.toList.drop (0 + (str l).size)).toArray = (cellsOf (l ++ L.drop l.length)).toArray := by
    rw [str_size, cellsOf_append]
    simp [cellsOf, str, Go.Lib.byteCells]
  rw [e] at hrun
  unfold Oper.wp
  simp [execOp, ho, resolve, invoke, builtin, hd, hx, hrun, Result.andThen]
  rw [str_size]
  exact hK _ _ (h _ (setRow_heap w q _ _ 5 (0, 0) hL) (keepsRow w q _))

def be8 (n : Nat) : List UInt8 := [UInt8.ofNat (n / 256 ^ 7 % 256), UInt8.ofNat (n / 256 ^ 6 % 256), UInt8.ofNat (n / 256 ^ 5 % 256), UInt8.ofNat (n / 256 ^ 4 % 256), UInt8.ofNat (n / 256 ^ 3 % 256), UInt8.ofNat (n / 256 ^ 2 % 256), UInt8.ofNat (n / 256 ^ 1 % 256), UInt8.ofNat (n / 256 ^ 0 % 256)]
/-- bytes with so many of the last set, the last one first -/
def fillK (L : List UInt8) (Z n : Nat) : Nat → List UInt8
  | 0 => L
  | k + 1 => (fillK L Z n k).set (Z - (k + 1)) (UInt8.ofNat (n / 256 ^ k % 256))
theorem fillK_len (L : List UInt8) (Z n k : Nat) : (fillK L Z n k).length = L.length := by
  induction k with
  | zero => rfl
  | succ k ih => simp [fillK, ih]
theorem set_right (A B : List UInt8) (i : Nat) (x : UInt8) (h : A.length ≤ i) : (A ++ B).set i x = A ++ B.set (i - A.length) x := by rw [List.set_append, if_neg (by omega)]
theorem fillK_8 (A : List UInt8) (Z n : Nat) (h : A.length + 8 = Z) : fillK (A ++ List.replicate 8 0) Z n 8 = A ++ be8 n := by
  subst h
  simp only [fillK]
  rw [set_right _ _ _ _ (by omega), set_right _ _ _ _ (by omega), set_right _ _ _ _ (by omega), set_right _ _ _ _ (by omega), set_right _ _ _ _ (by omega), set_right _ _ _ _ (by omega), set_right _ _ _ _ (by omega), set_right _ _ _ _ (by omega)]
  rw [show A.length + 8 - (0 + 1) - A.length = 7 by omega, show A.length + 8 - (1 + 1) - A.length = 6 by omega, show A.length + 8 - (2 + 1) - A.length = 5 by omega, show A.length + 8 - (3 + 1) - A.length = 4 by omega, show A.length + 8 - (4 + 1) - A.length = 3 by omega, show A.length + 8 - (5 + 1) - A.length = 2 by omega, show A.length + 8 - (6 + 1) - A.length = 1 by omega, show A.length + 8 - (7 + 1) - A.length = 0 by omega]
  rfl
/-- how long the last blocks are -/
def lastZ (r : List UInt8) : Nat := if r.length + 9 ≤ 64 then 64 else 128
/-- the last bytes of a text of N bytes, filled up -/
def filledL (r : List UInt8) (N : Nat) : List UInt8 := r ++ 128 :: List.replicate (lastZ r - r.length - 9) 0 ++ be8 (N * 8 % 18446744073709551616)
theorem lastZ_ge (r : List UInt8) (h : r.length < 64) : r.length + 9 ≤ lastZ r := by unfold lastZ; split <;> omega
theorem filledL_len (r : List UInt8) (N : Nat) (h : r.length < 64) : (filledL r N).length = lastZ r := by
  have := lastZ_ge r h
  simp [filledL, be8]; omega
theorem fill_start (r : List UInt8) (h : r.length < 64) : (r ++ (List.replicate (lastZ r) (0 : UInt8)).drop r.length).set r.length 128 = (r ++ 128 :: List.replicate (lastZ r - r.length - 9) 0) ++ List.replicate 8 0 := by
  have hz := lastZ_ge r h
  obtain ⟨k, hk⟩ : ∃ k, lastZ r - r.length - 9 = k := ⟨_, rfl⟩
  rw [hk, List.drop_replicate, show lastZ r - r.length = (k + 8) + 1 by omega, List.replicate_succ, List.set_append]
  rw [if_neg (by omega), Nat.sub_self, ← List.replicate_append_replicate]
  simp

set_option maxRecDepth 100000 in
set_option maxHeartbeats 4000000 in
theorem filled_64 (r : List UInt8) (hr : r.length < 64) (hcc : lastZ r = 64) (N : Nat) (hN : N < 18446744073709551616) (w : World) :
    Calls Tryz.prog 93 #[.string (str r), .int .u64 (N : Int)] w fun e w' => e = .returned (.string (str (filledL r N))) ∧ Below w.heap.size w w' := by
  have hz9 := lastZ_ge r hr
  have hst := fill_start r hr
  have hlen := filledL_len r N hr
  have hif : ¬ (64 < (r.length : Int) + 9) := by unfold lastZ at hcc; split at hcc <;> omega
  rw [hcc] at hz9 hst hlen
  have hmk : ∀ W : World, (Instr.makeSlice 70 (.int .i64 64) (.int .i64 64)).run Tryz.prog W = .ok (.slice (some ⟨W.heap.size, 0, none⟩) 64 64) (W.alloc (.cells (madeCells (Value.int .u8 0).cells 64) 5)) := fun W => run_make_bytes 64 (by omega) W
  have hb0 := byteBlk_made w 64
  obtain ⟨n, hn⟩ : ∃ n, n = N * 8 % 18446744073709551616 := ⟨_, rfl⟩
  have e8 : IntKind.u64.wrap ((N : Int) * 8) = (n : Int) := by rw [IntKind.wrap_u64]; omega
  have hfl : fillK ((r ++ 128 :: List.replicate (64 - r.length - 9) 0) ++ List.replicate 8 0) 64 n 8 = filledL r N := by
    rw [fillK_8 _ 64 n (by simp; omega), hn]; unfold filledL; rw [hcc]
  obtain ⟨L1, hL1⟩ : ∃ L, L = (r ++ (List.replicate 64 (0 : UInt8)).drop r.length) := ⟨_, rfl⟩
  obtain ⟨L2, hL2⟩ : ∃ L, L = (r ++ 128 :: List.replicate (64 - r.length - 9) 0) ++ List.replicate 8 0 := ⟨_, rfl⟩
  rw [← hL2] at hfl hst
  rw [← hL1] at hst
  have hl1 : L1.length = 64 := by rw [hL1]; simp; omega
  have hl2 : L2.length = 64 := by rw [← hst]; simp [hl1]
  replace hst := Lib.hid hst
  replace hlen := Lib.hid hlen
  replace hb0 := Lib.hid hb0
  replace hfl := Lib.hid hfl
  replace hL1 := Lib.hid hL1
  replace hl1 := Lib.hid hl1
  replace hl2 := Lib.hid hl2
  have w1 : IntKind.i64.wrap ((r.length : Int) + 1) = (r.length : Int) + 1 := by rw [IntKind.wrap_i64]; omega
  have w2 : IntKind.i64.wrap ((r.length : Int) + 1 + 8) = (r.length : Int) + 9 := by rw [IntKind.wrap_i64]; omega
  have r0 : (0 : Int) ≤ (r.length : Int) := by omega
  have r1 : (r.length : Int) < 64 := by omega
  replace hz9 := Lib.hid hz9
  replace hr := Lib.hid hr
  clear hL2 hn hN hcc
  go_enter Tryz.func93, Tryz.ntmps93
  go_upto_region 6 with (refine wpList_copy_text rfl (.tmp 16) (.tmp 17) rfl w.heap.size 64 64 (List.replicate 64 0) r rfl rfl hb0.out (by have := hr.out; omega) (by have := hr.out; simp; omega) ?_; intro w5 B5 K5; rw [← hL1.out] at B5; replace B5 := Lib.hid B5; replace K5 := Lib.hid K5)
  have hB5 : Below w.heap.size w w5 := ((Below.refl _ w).alloc (Nat.le_refl _) _).trans (K5.out.below (by simp) (by simp))
  have c1 := B5.out.cell (i := r.length) (by rw [hl1.out]; omega)
  have f1 := B5.out.free r.length
  have P := B5.out.put (i := r.length) (n := 128) (by omega)
  have hB6 := hB5.setCell (p := ⟨w.heap.size, r.length, none⟩) (Nat.le_refl _) (.int .u8 128)
  rw [show UInt8.ofNat (128 : Int).toNat = 128 from rfl, hst.out] at P
  replace P := Lib.hid P
  replace hB6 := Lib.hid hB6
  clear K5 B5 hB5
  go_wp2
  go_loopg [7, 8] 8 (fun gn s7 s8 wr => ∃ k : Nat, s8 = .int .i64 ((k : Int) + 1) ∧ k + gn = 8 ∧ s7 = .int .u64 ((n / 256 ^ k : Nat) : Int) ∧ ByteBlk wr w.heap.size (fillK L2 64 n k) ∧ Below w.heap.size w wr)
  case atStart => exact ⟨0, rfl, rfl, by simp, P.out, hB6.out⟩
  case round =>
    clear P hB6 c1 f1
    obtain ⟨k, rfl, hk, rfl, hO, hB⟩ := hrel
    by_cases h0 : gk = 0
    · obtain rfl : k = 8 := by omega
      rw [hfl.out] at hO
      have ht := hO.text 64
      rw [hlen.out] at ht
      replace hO := Lib.hid hO
      clear hk h0
      go_wp2
      go_ret
      exact ⟨rfl, hB⟩
    · obtain ⟨K, rfl⟩ : ∃ K : Nat, gk = K + 1 := ⟨gk - 1, by omega⟩
      have k1 : (k : Int) + 1 ≤ 8 := by omega
      obtain ⟨p, hp⟩ : ∃ p : Nat, p = 64 - (k + 1) := ⟨_, rfl⟩
      have hpI : (64 : Int) - ((k : Int) + 1) = (p : Int) := by omega
      have hpw : IntKind.i64.wrap (p : Int) = (p : Int) := by rw [IntKind.wrap_i64]; omega
      have p0 : (0 : Int) ≤ (p : Int) := by omega
      have p1 : (p : Int) < 64 := by omega
      have c1 := hO.cell (i := p) (by rw [fillK_len, hl2.out]; omega)
      have f1 := hO.free p
      obtain ⟨m, hm⟩ : ∃ m, m = n / 256 ^ k := ⟨_, rfl⟩
      obtain ⟨v, hv⟩ : ∃ v : Nat, v = m % 256 := ⟨_, rfl⟩
      have e1 : (m : Int) % 256 = (v : Int) := by omega
      have P := hO.put (i := p) (n := (v : Int)) (by omega)
      have hm2 : n / 256 ^ (k + 1) = m / 256 := by rw [hm, Nat.div_div_eq_div_mul, ← Nat.pow_succ]
      have hnext : fillK L2 64 n (k + 1) = (fillK L2 64 n k).set p (UInt8.ofNat (v : Int).toNat) := by
        rw [Int.toNat_natCast, hv, hm, hp]; rfl
      rw [← hnext] at P
      rw [← hm]
      have hk2 : k + (K + 1) = 8 := hk
      replace hk2 := Lib.hid hk2
      replace P := Lib.hid P
      replace hO := Lib.hid hO
      replace hm2 := Lib.hid hm2
      clear hnext hv hm hk h0
      replace hp := Lib.hid hp
      go_wp2
      go_roundg K
      case measure => omega
      case rel => exact ⟨k + 1, by go_num, by have := hk2.out; omega, by rw [hm2.out]; go_num, P.out, hB.setCell (p := ⟨w.heap.size, p, none⟩) (Nat.le_refl _) _⟩

set_option maxRecDepth 100000 in
set_option maxHeartbeats 4000000 in
theorem filled_128 (r : List UInt8) (hr : r.length < 64) (hcc : lastZ r = 128) (N : Nat) (hN : N < 18446744073709551616) (w : World) :
    Calls Tryz.prog 93 #[.string (str r), .int .u64 (N : Int)] w fun e w' => e = .returned (.string (str (filledL r N))) ∧ Below w.heap.size w w' := by
  have hz9 := lastZ_ge r hr
  have hst := fill_start r hr
  have hlen := filledL_len r N hr
  have hif : 64 < (r.length : Int) + 9 := by unfold lastZ at hcc; split at hcc <;> omega
  rw [hcc] at hz9 hst hlen
  have hmk : ∀ W : World, (Instr.makeSlice 70 (.int .i64 128) (.int .i64 128)).run Tryz.prog W = .ok (.slice (some ⟨W.heap.size, 0, none⟩) 128 128) (W.alloc (.cells (madeCells (Value.int .u8 0).cells 128) 5)) := fun W => run_make_bytes 128 (by omega) W
  have hb0 := byteBlk_made w 128
  obtain ⟨n, hn⟩ : ∃ n, n = N * 8 % 18446744073709551616 := ⟨_, rfl⟩
  have e8 : IntKind.u64.wrap ((N : Int) * 8) = (n : Int) := by rw [IntKind.wrap_u64]; omega
  have hfl : fillK ((r ++ 128 :: List.replicate (128 - r.length - 9) 0) ++ List.replicate 8 0) 128 n 8 = filledL r N := by
    rw [fillK_8 _ 128 n (by simp; omega), hn]; unfold filledL; rw [hcc]
  obtain ⟨L1, hL1⟩ : ∃ L, L = (r ++ (List.replicate 128 (0 : UInt8)).drop r.length) := ⟨_, rfl⟩
  obtain ⟨L2, hL2⟩ : ∃ L, L = (r ++ 128 :: List.replicate (128 - r.length - 9) 0) ++ List.replicate 8 0 := ⟨_, rfl⟩
  rw [← hL2] at hfl hst
  rw [← hL1] at hst
  have hl1 : L1.length = 128 := by rw [hL1]; simp; omega
  have hl2 : L2.length = 128 := by rw [← hst]; simp [hl1]
  replace hst := Lib.hid hst
  replace hlen := Lib.hid hlen
  replace hb0 := Lib.hid hb0
  replace hfl := Lib.hid hfl
  replace hL1 := Lib.hid hL1
  replace hl1 := Lib.hid hl1
  replace hl2 := Lib.hid hl2
  have w1 : IntKind.i64.wrap ((r.length : Int) + 1) = (r.length : Int) + 1 := by rw [IntKind.wrap_i64]; omega
  have w2 : IntKind.i64.wrap ((r.length : Int) + 1 + 8) = (r.length : Int) + 9 := by rw [IntKind.wrap_i64]; omega
  have r0 : (0 : Int) ≤ (r.length : Int) := by omega
  have r1 : (r.length : Int) < 128 := by omega
  replace hz9 := Lib.hid hz9
  replace hr := Lib.hid hr
  clear hL2 hn hN hcc
  go_enter Tryz.func93, Tryz.ntmps93
  go_upto_region 6 with (refine wpList_copy_text rfl (.tmp 16) (.tmp 17) rfl w.heap.size 128 128 (List.replicate 128 0) r rfl rfl hb0.out (by have := hr.out; omega) (by have := hr.out; simp; omega) ?_; intro w5 B5 K5; rw [← hL1.out] at B5; replace B5 := Lib.hid B5; replace K5 := Lib.hid K5)
  have hB5 : Below w.heap.size w w5 := ((Below.refl _ w).alloc (Nat.le_refl _) _).trans (K5.out.below (by simp) (by simp))
  have c1 := B5.out.cell (i := r.length) (by rw [hl1.out]; omega)
  have f1 := B5.out.free r.length
  have P := B5.out.put (i := r.length) (n := 128) (by omega)
  have hB6 := hB5.setCell (p := ⟨w.heap.size, r.length, none⟩) (Nat.le_refl _) (.int .u8 128)
  rw [show UInt8.ofNat (128 : Int).toNat = 128 from rfl, hst.out] at P
  replace P := Lib.hid P
  replace hB6 := Lib.hid hB6
  clear K5 B5 hB5
  go_wp2
  go_loopg [7, 8] 8 (fun gn s7 s8 wr => ∃ k : Nat, s8 = .int .i64 ((k : Int) + 1) ∧ k + gn = 8 ∧ s7 = .int .u64 ((n / 256 ^ k : Nat) : Int) ∧ ByteBlk wr w.heap.size (fillK L2 128 n k) ∧ Below w.heap.size w wr)
  case atStart => exact ⟨0, rfl, rfl, by simp, P.out, hB6.out⟩
  case round =>
    clear P hB6 c1 f1
    obtain ⟨k, rfl, hk, rfl, hO, hB⟩ := hrel
    by_cases h0 : gk = 0
    · obtain rfl : k = 8 := by omega
      rw [hfl.out] at hO
      have ht := hO.text 128
      rw [hlen.out] at ht
      replace hO := Lib.hid hO
      clear hk h0
      go_wp2
      go_ret
      exact ⟨rfl, hB⟩
    · obtain ⟨K, rfl⟩ : ∃ K : Nat, gk = K + 1 := ⟨gk - 1, by omega⟩
      have k1 : (k : Int) + 1 ≤ 8 := by omega
      obtain ⟨p, hp⟩ : ∃ p : Nat, p = 128 - (k + 1) := ⟨_, rfl⟩
      have hpI : (128 : Int) - ((k : Int) + 1) = (p : Int) := by omega
      have hpw : IntKind.i64.wrap (p : Int) = (p : Int) := by rw [IntKind.wrap_i64]; omega
      have p0 : (0 : Int) ≤ (p : Int) := by omega
      have p1 : (p : Int) < 128 := by omega
      have c1 := hO.cell (i := p) (by rw [fillK_len, hl2.out]; omega)
      have f1 := hO.free p
      obtain ⟨m, hm⟩ : ∃ m, m = n / 256 ^ k := ⟨_, rfl⟩
      obtain ⟨v, hv⟩ : ∃ v : Nat, v = m % 256 := ⟨_, rfl⟩
      have e1 : (m : Int) % 256 = (v : Int) := by omega
      have P := hO.put (i := p) (n := (v : Int)) (by omega)
      have hm2 : n / 256 ^ (k + 1) = m / 256 := by rw [hm, Nat.div_div_eq_div_mul, ← Nat.pow_succ]
      have hnext : fillK L2 128 n (k + 1) = (fillK L2 128 n k).set p (UInt8.ofNat (v : Int).toNat) := by
        rw [Int.toNat_natCast, hv, hm, hp]; rfl
      rw [← hnext] at P
      rw [← hm]
      have hk2 : k + (K + 1) = 8 := hk
      replace hk2 := Lib.hid hk2
      replace P := Lib.hid P
      replace hO := Lib.hid hO
      replace hm2 := Lib.hid hm2
      clear hnext hv hm hk h0
      replace hp := Lib.hid hp
      go_wp2
      go_roundg K
      case measure => omega
      case rel => exact ⟨k + 1, by go_num, by have := hk2.out; omega, by rw [hm2.out]; go_num, P.out, hB.setCell (p := ⟨w.heap.size, p, none⟩) (Nat.le_refl _) _⟩
theorem filled_any (r : List UInt8) (hr : r.length < 64) (N : Nat) (hN : N < 18446744073709551616) (w : World) :
    Calls Tryz.prog 93 #[.string (str r), .int .u64 (N : Int)] w fun e w' => e = .returned (.string (str (filledL r N))) ∧ Below w.heap.size w w' := by
  by_cases h : r.length + 9 ≤ 64
  · exact filled_64 r hr (if_pos h) N hN w
  · exact filled_128 r hr (if_neg h) N hN w
end Go.Proofs.YtcdcipfojfnblaaGreatDoor.sha
end
section
namespace Go.Proofs.YtcdcipfojfnblaaGreatDoor.sha
open Go.RowKit
attribute [local go_sem ↓] Go.wp_at_zero Go.wp_at_succ
set_option linter.unusedVariables false
set_option maxRecDepth 100000

theorem still_load_words {ops : Array Oper} {rest : List Oper} {o : Oper} {a : Act} {w : World} {Q : Act → Prop} {t n m e : Nat} (hi : (Tryz.prog.info? t).map (·.size) = some n) (hu : Tryz.prog.underlying t = some (.array m e)) (hgd : o.guard = none) (x : Operand) (ho : o.op = .load t x) (g : Nat) (xs : List Nat)
    (hx : a.eval x = .pointer (some ⟨g, 0, none⟩)) (hW : Words w g t xs) (hl : xs.length = n)
    (h : wpStill Tryz.prog ops w Q rest (a.put o.dst (.agg (xs.map word).toArray))) : wpStill Tryz.prog ops w Q (o :: rest) a := by
  have hs : ((xs.map word).toArray).size = n := by simp [hl]
  have hwant : Region.wanted o (yielded ops a.tmps) = true := by simp [Region.wanted, hgd]
  have hrun : (execOp a.eval o).run Tryz.prog w = .ok (.value (.agg (xs.map word).toArray)) w := by
    have := run_loadVar_row (P := Tryz.prog) w g t t _ (0, 0) _ hW hu rfl (by rw [hs]; exact hi)
    simp [execOp, ho, hx, Instr.loadAt, Instr.sureAddr, this, Result.andThen]
  show (if Region.wanted o (yielded ops a.tmps) then o.still Tryz.prog a w _ else _)
  rw [if_pos hwant]
  unfold Oper.still
  rw [hrun, Oper.stillUpon_value]
  exact h

def H0 : List Nat := [1779033703, 3144134277, 1013904242, 2773480762, 1359893119, 2600822924, 528734635, 1541459225]
theorem H0_good : H0.length = 8 ∧ Small H0 := by
  refine ⟨rfl, fun i => ?_⟩
  match i with
  | 0 | 1 | 2 | 3 | 4 | 5 | 6 | 7 => decide
  | i + 8 => simp [H0, List.getD]
/-- the bytes of a text behind its whole blocks -/
def restL (l : List UInt8) : List UInt8 := l.drop (64 * (l.length / 64))
/-- the sum of bytes -/
def shaB (ss : List Nat) (l : List UInt8) : List UInt8 := outB (hashL ss (hashL ss H0 l (l.length / 64)) (filledL (restL l) l.length) (lastZ (restL l) / 64)) 8
theorem shaB_len (ss : List Nat) (l : List UInt8) : (shaB ss l).length = 32 := outB_len _ _
set_option maxRecDepth 100000 in
set_option maxHeartbeats 8000000 in
theorem sum_any (ss : List Nat) (hss : Small ss) (l : List UInt8) (hl : l.length ≤ 1000000000) (w : World) (hT : SaltAt w ss) :
    Calls Tryz.prog 68 #[.string (str l)] w fun e w' => e = .returned (.string (str (shaB ss l))) ∧ Below w.heap.size w w' := by
  obtain ⟨S0, hS0⟩ : ∃ S, S = str l := ⟨_, rfl⟩
  have hSs : S0.size = l.length := by rw [hS0, str_size]
  have hext : ∀ a b, S0.extract a b = str ((l.drop a).take (b - a)) := fun a b => by rw [hS0]; exact cut_extract l a b
  obtain ⟨m, hm⟩ : ∃ m, m = l.length / 64 := ⟨_, rfl⟩
  obtain ⟨r, hr⟩ : ∃ r, r = restL l := ⟨_, rfl⟩
  have hrl : r.length < 64 := by rw [hr, restL, List.length_drop]; omega
  have hrest : S0.extract (64 * m) l.length = str r := by
    rw [hext, hr, restL, ← hm, List.take_of_length_le (by rw [List.length_drop]; exact Nat.le_refl _)]
  obtain ⟨R, hR⟩ : ∃ R, R = filledL r l.length := ⟨_, rfl⟩
  obtain ⟨nz, hnz⟩ : ∃ nz, nz = lastZ r / 64 := ⟨_, rfl⟩
  have hRl : R.length = 64 * nz := by
    rw [hR, filledL_len r _ hrl, hnz]; unfold lastZ; split <;> omega
  obtain ⟨H1, hH1⟩ : ∃ H, H = hashL ss H0 l m := ⟨_, rfl⟩
  have hg1 : H1.length = 8 ∧ Small H1 := by rw [hH1]; exact hashL_good ss H0_good l m
  have hfin : shaB ss l = outB (hashL ss H1 R nz) 8 := by rw [hH1, hR, hnz, hm, hr]; rfl
  have hfil := fun w' => filled_any r hrl l.length (by omega) w'
  rw [← hR] at hfil
  have hwri := fun w' => written_any (hashL ss H1 R nz) (hashL_good ss hg1 R nz).1 (hashL_good ss hg1 R nz).2 w'
  rw [← hfin] at hwri
  obtain ⟨T0, hT0⟩ : ∃ T, T = str R := ⟨_, rfl⟩
  have hTs : T0.size = 64 * nz := by rw [hT0, str_size, hRl]
  have hextR : ∀ a b, T0.extract a b = str ((R.drop a).take (b - a)) := fun a b => by rw [hT0]; exact cut_extract R a b
  rw [← hT0] at hfil
  have hrem : (l.length : Int) % 64 = (l.length : Int) - 64 * (m : Int) := by omega
  have hrem2 : (l.length : Int).tmod 64 = (l.length : Int) - 64 * (m : Int) := by rw [IntWalk.rem_in _ _ (by omega)]; exact hrem
  have hsub : (l.length : Int) - ((l.length : Int) - 64 * (m : Int)) = 64 * (m : Int) := by omega
  have hw1 : IntKind.i64.wrap (64 * (m : Int)) = 64 * (m : Int) := by rw [IntKind.wrap_i64]; omega
  have hnz2 : nz ≤ 2 := by rw [hnz]; unfold lastZ; split <;> omega
  have hm0 : (0 : Int) ≤ 64 * (m : Int) := by omega
  have hml : 64 * (m : Int) ≤ (l.length : Int) := by omega
  have hu64 : (l.length : Int) % 18446744073709551616 = (l.length : Int) := by omega
  have hu64b : IntKind.u64.wrap (l.length : Int) = (l.length : Int) := by rw [IntKind.wrap_u64]; omega
  rw [← hS0]
  clear hS0 hT0 hR hr hfin
  replace hH1 := Lib.hid hH1; replace hnz := Lib.hid hnz; replace hm := Lib.hid hm; replace hrl := Lib.hid hrl
  replace hfil := Lib.hid hfil; replace hwri := Lib.hid hwri; replace hext := Lib.hid hext; replace hextR := Lib.hid hextR
  replace hg1 := Lib.hid hg1; replace hT := Lib.hid hT; replace hss := Lib.hid hss; replace hl := Lib.hid hl; replace hRl := Lib.hid hRl; replace hnz2 := Lib.hid hnz2
  replace hrem := Lib.hid hrem
  go_enter Tryz.func68, Tryz.ntmps68
  go_wp2_with (refine wpList_store_words eight8 rfl (.tmp 3) (.tmp 8) rfl w.heap.size H0 rfl rfl rfl ⟨_, heap_alloc_new _ _, rfl⟩ ?_; intro w3 W3 K3; replace K3 := Lib.hid K3; replace W3 := Lib.hid W3)
  have hB3 : Below w.heap.size w w3 := ((Below.refl _ w).alloc (Nat.le_refl _) _).trans (K3.out.below (by simp) (by simp))
  replace hB3 := Lib.hid hB3
  clear K3
  go_loopg [5] m (fun gn s5 wr => ∃ k : Nat, s5 = .int .i64 (64 * (k : Int)) ∧ k + gn = m ∧ Words wr w.heap.size 115 (hashL ss H0 l k) ∧ Below w.heap.size w wr)
  case atStart => exact ⟨0, rfl, by omega, W3.out, hB3.out⟩
  case round =>
    clear W3 hB3
    obtain ⟨k, rfl, hk, hW, hB⟩ := hrel
    by_cases h0 : gk = 0
    · obtain rfl : k = m := by omega
      rw [← hH1.out] at hW
      have hlt : ¬ (64 * (k : Int) < 64 * (k : Int)) := by omega
      replace hW := Lib.hid hW
      replace hB := Lib.hid hB
      clear hk h0
      go_wp2_with (go_at_call 93; (with_reducible refine (hfil.out _).mono ?_); rintro e w4 ⟨rfl, b4⟩; replace hW := Lib.hid (hW.out.below b4); replace hB := Lib.hid (belowCont hB.out b4); replace b4 := Lib.hid b4)
      go_loopg [7] nz (fun gn s7 wr => ∃ k : Nat, s7 = .int .i64 (64 * (k : Int)) ∧ k + gn = nz ∧ Words wr w.heap.size 115 (hashL ss H1 R k) ∧ Below w.heap.size w wr)
      case atStart => exact ⟨0, rfl, by omega, hW.out, hB.out⟩
      case round =>
        clear hW hB
        obtain ⟨j, rfl, hj, hW, hB⟩ := hrel
        by_cases h0 : gk = 0
        · obtain rfl : j = nz := by omega
          have hlt2 : ¬ (64 * (j : Int) < 64 * (j : Int)) := by omega
          have hgj := (hashL_good ss hg1.out R j).1
          obtain ⟨ys, hys⟩ : ∃ ys, ys = hashL ss H1 R j := ⟨_, rfl⟩
          have hwri2 := hwri.out
          rw [← hys] at hW hgj hwri2
          replace hW := Lib.hid hW
          replace hB := Lib.hid hB
          replace hgj := Lib.hid hgj
          replace hwri2 := Lib.hid hwri2
          clear hj h0 hys
          go_wp2_with (first
            | (refine wpList_load_words eight8 Tryz.underlying115 rfl (.tmp 3) rfl w.heap.size ys rfl hW.out hgj.out ?_)
            | (go_at_call 94; (with_reducible refine (hwri2.out _).mono ?_); rintro e w4 ⟨rfl, b4⟩; replace hB := Lib.hid (belowCont hB.out b4)))
          go_ret
          exact ⟨rfl, hB.out⟩
        · obtain ⟨K, rfl⟩ : ∃ K : Nat, gk = K + 1 := ⟨gk - 1, by omega⟩
          have k0 : (0 : Int) ≤ 64 * (j : Int) := by omega
          have k1 : 64 * (j : Int) < 64 * (nz : Int) := by omega
          have k2 : 64 * (j : Int) + 64 ≤ 64 * (nz : Int) := by omega
          have k3 : 64 * (j : Int) ≤ 64 * (j : Int) + 64 := by omega
          have k5 : IntKind.i64.wrap (64 * (j : Int) + 64) = 64 * (j : Int) + 64 := by have := hl.out; have := hnz2.out; rw [IntKind.wrap_i64]; omega
          obtain ⟨blk, hblk⟩ : ∃ b, b = str ((R.drop (64 * j)).take 64) := ⟨_, rfl⟩
          have hbs : blk.size = 64 := by rw [hblk, str_size, List.length_take, List.length_drop]; have := hRl.out; omega
          have hcut : T0.extract (64 * j) (64 * j + 64) = blk := by rw [hextR.out, hblk, show 64 * j + 64 - 64 * j = 64 by omega]
          have hgk := hashL_good ss hg1.out R j
          obtain ⟨ys, hys⟩ : ∃ ys, ys = hashL ss H1 R j := ⟨_, rfl⟩
          have hnext : hashL ss H1 R (j + 1) = mixedL ss ys blk := by rw [hys, hblk]; rfl
          rw [← hys] at hgk hW
          have hmix := fun w' hs => mixed_any ss ys blk hgk.1 hgk.2 hbs w' hs hss.out
          rw [← hnext] at hmix
          obtain ⟨zs, hzs⟩ : ∃ zs, zs = hashL ss H1 R (j + 1) := ⟨_, rfl⟩
          have hgz := (hashL_good ss hg1.out R (j + 1)).1
          rw [← hzs] at hmix hgz
          have hlen := hgk.1
          have hk2 := Lib.hid hj
          have hSalt := hT.out.keep hB
          clear hgk hnext hys hblk hj h0
          replace hzs := Lib.hid hzs; replace hmix := Lib.hid hmix; replace hlen := Lib.hid hlen; replace hgz := Lib.hid hgz; replace hSalt := Lib.hid hSalt; replace hbs := Lib.hid hbs
          replace hW := Lib.hid hW; replace hB := Lib.hid hB
          go_upto_region 11 with fail
          refine wp_region_still_tail 6 (by kernel_rfl) (by kernel_rfl) ?_
          simp only [List.take_succ_cons, List.take_zero, List.drop_succ_cons, List.drop_zero]
          refine still_load_words eight8 Tryz.underlying115 rfl (.tmp 3) rfl w.heap.size ys rfl hW.out hlen.out ?_
          repeat still_step
          try refine wpStill_nil ?_
          change wpList _ _ _ _ _ wr.drew
          have hW2 : Words wr.drew w.heap.size 115 ys := hW.out
          have hB2 : Below w.heap.size w wr.drew := hB.out.drew
          have hS2 : SaltAt wr.drew ss := hSalt.out
          generalize wr.drew = wd at *
          replace hW2 := Lib.hid hW2; replace hB2 := Lib.hid hB2; replace hS2 := Lib.hid hS2
          clear hW hB hSalt
          go_wp2_with (first
            | (go_at_call 92; (try rw [hcut]); (with_reducible refine (hmix.out _ hS2.out).mono ?_); rintro e w4 ⟨rfl, b4⟩; replace hW2 := Lib.hid (hW2.out.below b4); replace hB2 := Lib.hid (belowCont hB2.out b4))
            | (refine wpList_store_words eight8 rfl (.tmp 3) (.tmp 46) rfl w.heap.size zs rfl rfl hgz.out ⟨_, hW2.out, by simp [hlen.out]⟩ ?_; intro w5 W5 K5; replace W5 := Lib.hid W5; replace hB2 := Lib.hid (hB2.out.trans (K5.below hB2.out.size (by simp))); clear K5))
          go_roundg K
          case measure => omega
          case rel => exact ⟨j + 1, by rw [show 64 * (j : Int) + 64 = 64 * ((j + 1 : Nat) : Int) by omega], by have := hk2.out; omega, by rw [← hzs.out]; exact W5.out, hB2.out⟩
    · obtain ⟨K, rfl⟩ : ∃ K : Nat, gk = K + 1 := ⟨gk - 1, by omega⟩
      have k0 : (0 : Int) ≤ 64 * (k : Int) := by omega
      have k1 : 64 * (k : Int) < 64 * (m : Int) := by omega
      have k2 : 64 * (k : Int) + 64 ≤ (l.length : Int) := by omega
      have k3 : 64 * (k : Int) ≤ 64 * (k : Int) + 64 := by omega
      have k5 : IntKind.i64.wrap (64 * (k : Int) + 64) = 64 * (k : Int) + 64 := by have := hl.out; have := hnz2.out; rw [IntKind.wrap_i64]; omega
      obtain ⟨blk, hblk⟩ : ∃ b, b = str ((l.drop (64 * k)).take 64) := ⟨_, rfl⟩
      have hbs : blk.size = 64 := by rw [hblk, str_size, List.length_take, List.length_drop]; have := hm.out; omega
      have hcut : S0.extract (64 * k) (64 * k + 64) = blk := by rw [hext.out, hblk, show 64 * k + 64 - 64 * k = 64 by omega]
      have hgk := hashL_good ss H0_good l k
      obtain ⟨ys, hys⟩ : ∃ ys, ys = hashL ss H0 l k := ⟨_, rfl⟩
      have hnext : hashL ss H0 l (k + 1) = mixedL ss ys blk := by rw [hys, hblk]; rfl
      rw [← hys] at hgk hW
      have hmix := fun w' hs => mixed_any ss ys blk hgk.1 hgk.2 hbs w' hs hss.out
      rw [← hnext] at hmix
      obtain ⟨zs, hzs⟩ : ∃ zs, zs = hashL ss H0 l (k + 1) := ⟨_, rfl⟩
      have hgz := (hashL_good ss H0_good l (k + 1)).1
      rw [← hzs] at hmix hgz
      have hlen := hgk.1
      have hk2 := Lib.hid hk
      have hSalt := hT.out.keep hB
      clear hgk hnext hys hblk hk h0
      replace hzs := Lib.hid hzs; replace hmix := Lib.hid hmix; replace hlen := Lib.hid hlen; replace hgz := Lib.hid hgz; replace hSalt := Lib.hid hSalt; replace hbs := Lib.hid hbs
      replace hW := Lib.hid hW; replace hB := Lib.hid hB
      go_upto_region 6 with fail
      refine wp_region_still_tail 6 (by kernel_rfl) (by kernel_rfl) ?_
      simp only [List.take_succ_cons, List.take_zero, List.drop_succ_cons, List.drop_zero]
      refine still_load_words eight8 Tryz.underlying115 rfl (.tmp 3) rfl w.heap.size ys rfl hW.out hlen.out ?_
      repeat still_step
      try refine wpStill_nil ?_
      change wpList _ _ _ _ _ wr.drew
      have hW2 : Words wr.drew w.heap.size 115 ys := hW.out
      have hB2 : Below w.heap.size w wr.drew := hB.out.drew
      have hS2 : SaltAt wr.drew ss := hSalt.out
      generalize wr.drew = wd at *
      replace hW2 := Lib.hid hW2; replace hB2 := Lib.hid hB2; replace hS2 := Lib.hid hS2
      clear hW hB hSalt
      go_wp2_with (first
        | (go_at_call 92; (try rw [hcut]); (with_reducible refine (hmix.out _ hS2.out).mono ?_); rintro e w4 ⟨rfl, b4⟩; replace hW2 := Lib.hid (hW2.out.below b4); replace hB2 := Lib.hid (belowCont hB2.out b4))
        | (refine wpList_store_words eight8 rfl (.tmp 3) (.tmp 26) rfl w.heap.size zs rfl rfl hgz.out ⟨_, hW2.out, by simp [hlen.out]⟩ ?_; intro w5 W5 K5; replace W5 := Lib.hid W5; replace hB2 := Lib.hid (hB2.out.trans (K5.below hB2.out.size (by simp))); clear K5))
      go_roundg K
      case measure => omega
      case rel => exact ⟨k + 1, by rw [show 64 * (k : Int) + 64 = 64 * ((k + 1 : Nat) : Int) by omega], by have := hk2.out; omega, by rw [← hzs.out]; exact W5.out, hB2.out⟩
end Go.Proofs.YtcdcipfojfnblaaGreatDoor.sha
end
