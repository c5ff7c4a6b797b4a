/- Whole arrays by value, of words or of bytes; a turn that leaves the world as it is. No condition. -/
import Derived.Test.YtplfbpihhcnnmaaDoorWords
import Derived.Test.YtplfbpihhcnnmaaDoorBytes2
import Derived.Laws.BitsAllLaws
import Derived.Deep.DeepCutAuto
import Derived.Deep.WholeRow
import Derived.BigRegion
namespace Go.Proofs.YtplfbpihhcnnmaaDoor
open Go.RowKit
attribute [local go_sem ↓] Go.wp_at_zero Go.wp_at_succ
set_option linter.unusedVariables false
set_option maxRecDepth 100000

def byteN (n : Nat) : Value := .int .u8 (n : Int)
/-- block g is a row of these bytes, of this array type -/
def BytesT (w : World) (g : Nat) (t : TypeId) (l : List Nat) : Prop := w.heap[g]? = some (.cells (l.map byteN).toArray t (0, 0))
section
variable {w w' : World} {g : Nat} {t : TypeId} {l : List Nat}
theorem BytesT.cell (h : BytesT w g t l) {i : Nat} (hi : i < l.length) : w.cell? ⟨g, i, none⟩ = some (.int .u8 ((l.getD i 0 : Nat) : Int)) := by
  rw [cell_of_row _ _ i _ _ _ h]; simp [byteN, List.getElem?_eq_getElem hi, List.getD]
theorem BytesT.free (h : BytesT w g t l) (i : Nat) : w.frozen? ⟨g, i, none⟩ = false := by unfold BytesT at h; simp [World.frozen?, h]
theorem BytesT.put (h : BytesT w g t l) (i n : Nat) : BytesT (w.setCell ⟨g, i, none⟩ (.int .u8 (n : Int))) g t (l.set i n) := by
  unfold BytesT at h ⊢; simp [World.setCell, Array.getElem?_modify, h, List.map_set, byteN]
theorem BytesT.keep (h : BytesT w g t l) {X : List Nat} (k : Keeps X w w') (hg : g ∉ X) : BytesT w' g t l := (k.block _ (block_lt h) hg).trans h
theorem BytesT.text (h : BytesT w g t l) (hl : ∀ x ∈ l, x < 256) (cap : Nat) : (convert 79 9 (.slice (some ⟨g, 0, none⟩) l.length cap)).run Tryd.prog w = .ok (.string (str (l.map UInt8.ofNat))) w := by
  have := run_convert_bytes_arg (P := Tryd.prog) w 79 5 Tryd.underlying79 Tryd.underlying5 g 0 l.length cap (l.map fun (b : Nat) => (b : Int)) (by simp) (fun i hi => by
    rw [Nat.zero_add, h.cell hi]; simp [List.getD, List.getElem?_eq_getElem hi]) 9 Tryd.underlying9
  rw [this]
  congr 2
  apply ByteArray.ext; apply Array.toList_inj.1
  rw [strOfNums_data, List.map_map]
  show _ = l.map UInt8.ofNat
  apply List.map_congr_left
  intro x hx
  have := hl x hx
  simp
end
theorem setRow_far (w : World) (g k : Nat) (cs : Array Value) (h : k ≠ g) : (w.setRow g cs).heap[k]? = w.heap[k]? := by
  simp only [World.setRow, Array.getElem?_modify]
  rw [if_neg (fun e => h e.symm)]
theorem keepsRow (w : World) (g : Nat) (cs : Array Value) : Keeps [g] w (w.setRow g cs) :=
  ⟨rfl, rfl, rfl, by simp [World.setRow], fun k hk hx => setRow_far w g k cs (by simpa using hx)⟩
theorem words_cells (xs : List Nat) : ((xs.map word).toArray).all (·.oneCell') = true := by
  rw [Array.all_eq_true_iff_forall_mem]
  intro v hv
  simp at hv
  obtain ⟨n, _, rfl⟩ := hv
  rfl
theorem bytes_cells (xs : List Nat) : ((xs.map byteN).toArray).all (·.oneCell') = true := by
  rw [Array.all_eq_true_iff_forall_mem]
  intro v hv
  simp at hv
  obtain ⟨n, _, rfl⟩ := hv
  rfl
section
variable {ops : Array Oper} {rest : List Oper} {o : Oper} {a : Act} {w : World} {Q : Exit → Act → World → Prop}
theorem wpList_store_words {t n : Nat} (hi : (Tryd.prog.info? t).map (·.size) = some n) (hgd : o.guard = none) (x y : Operand) (ho : o.op = .store t x y) (g : Nat) (xs : List Nat)
    (hx : a.eval x = .pointer (some ⟨g, 0, none⟩)) (hy : a.eval y = .agg (xs.map word).toArray) (hl : xs.length = n)
    (hz : ∃ z, w.heap[g]? = some (.cells z t (0, 0)) ∧ z.size = n)
    (h : ∀ w', Words w' g t xs → Keeps [g] w w' → wpList Tryd.prog ops Q rest (a.put o.dst undef) w') : wpList Tryd.prog ops Q (o :: rest) a w := by
  obtain ⟨z, hz1, hz2⟩ := hz
  have hs : ((xs.map word).toArray).size = n := by simp [hl]
  exact wpList_store_row hgd t x y ho g _ hx hy t z hz1 (by rw [hs]; exact hi) (by rw [hs, hz2]) (words_cells xs) (h _ (setRow_heap w g z _ t (0, 0) hz1) (keepsRow w g _))
theorem wpList_load_words {t n m e : Nat} (hi : (Tryd.prog.info? t).map (·.size) = some n) (hu : Tryd.prog.underlying t = some (.array m e)) (hgd : o.guard = none) (x : Operand) (ho : o.op = .load t x) (g : Nat) (xs : List Nat)
    (hx : a.eval x = .pointer (some ⟨g, 0, none⟩)) (hW : Words w g t xs) (hl : xs.length = n)
    (h : wpList Tryd.prog ops Q rest (a.put o.dst (.agg (xs.map word).toArray)) w) : wpList Tryd.prog ops Q (o :: rest) a w := by
  have hs : ((xs.map word).toArray).size = n := by simp [hl]
  exact wpList_load_row hgd t x ho g hx t _ (0, 0) _ hW hu rfl (by rw [hs]; exact hi) h
end
/-- a new block, and then only that block and newer ones change -/
theorem belowNew {w w1 w2 : World} {o : Obj} (h : Below w.heap.size w w1) (k : Keeps [w1.heap.size] (w1.alloc o) w2) : Below w.heap.size w w2 :=
  h.trans (((Below.refl _ w1).alloc h.size _).trans (k.below (by have := h.size; simp; omega) (by simp; exact h.size)))
theorem boxed2 (w : World) (cs : Array Value) (t : TypeId) (o : Obj) : ((w.alloc (.cells cs t)).alloc o).heap[w.heap.size]? = some (.cells cs t (0, 0)) := by
  rw [Below.heap_alloc _ _ _ (by simp)]
  exact heap_alloc_new w _
theorem boxed2b (w : World) (cs : Array Value) (t : TypeId) (o : Obj) : ((w.alloc o).alloc (.cells cs t)).heap[w.heap.size + 1]? = some (.cells cs t (0, 0)) := by
  have := heap_alloc_new (w.alloc o) (.cells cs t)
  simpa using this

/-- turned to the right, the world as it was -/
theorem rotr_same (x s : Nat) (hx : x < 4294967296) (hs : 1 ≤ s ∧ s ≤ 31) (w : World) :
    Calls Tryd.prog 167 #[.int .u32 (x : Int), .int .i64 (-(s : Int))] w fun e w' => e = .returned (.int .u32 ((rotl x (32 - s) : Nat) : Int)) ∧ w' = w := by
  obtain ⟨h1, h2⟩ := hs
  have hk : bits .and .u64 (IntKind.u64.wrap (-(s : Int))) 31 = ((32 - s : Nat) : Int) := by
    have e : IntKind.u64.wrap (-(s : Int)) = ((18446744073709551616 - s : Nat) : Int) := by rw [IntKind.wrap_u64]; omega
    rw [e, and_31u _ (by omega)]; omega
  obtain ⟨k, hkk⟩ : ∃ k, k = -(s : Int) := ⟨_, rfl⟩
  rw [← hkk] at hk ⊢
  obtain ⟨r, hr⟩ : ∃ r, r = 32 - s := ⟨_, rfl⟩
  rw [← hr] at hk ⊢
  have r0 : (0 : Int) ≤ r := by omega
  have r1 : (r : Int) ≤ 31 := by omega
  have hrr : 1 ≤ r ∧ r ≤ 31 := by omega
  clear hkk
  replace hr := Lib.hid hr
  clear h1 h2
  replace hrr := Lib.hid hrr
  go_enter Tryd.func167, Tryd.ntmps167
  go_wp2
  go_ret
  refine ⟨?_, rfl⟩
  have e1 : (x : Int) * 2 ^ r % 4294967296 = ((x * 2 ^ r % 4294967296 : Nat) : Int) := by simp
  have e2 : (x : Int) / 2 ^ (32 - r) = ((x / 2 ^ (32 - r) : Nat) : Int) := by simp
  show Ending.returned (.int .u32 (bits .or .u32 ((x : Int) * 2 ^ r % 4294967296) ((x : Int) / 2 ^ (32 - r)))) = _
  rw [e1, e2, u32_or_nat _ _ (Nat.mod_lt _ (by decide)) (Nat.lt_of_le_of_lt (Nat.div_le_self _ _) hx)]
  rfl
end Go.Proofs.YtplfbpihhcnnmaaDoor
