/- Rows of bytes that a call makes itself: what is appended, and what they are as a text. No condition. -/
import Derived.Test.YtgbkpkioijbgoaaDoorBase
import Derived.Laws.BytesArg
import Derived.Lib.ConvBytes
import Derived.Laws.CopyOwn
import Derived.Deep.AppendLies
namespace Go.Proofs.YtgbkpkioijbgoaaDoor
open Go.RowKit
set_option linter.unusedVariables false
set_option maxRecDepth 100000

/-- a list of bytes as a text -/
def str (l : List UInt8) : ByteArray := ⟨l.toArray⟩
theorem str_size (l : List UInt8) : (str l).size = l.length := by simp [str, ByteArray.size]
theorem str_toList (l : List UInt8) : (str l).data.toList = l := rfl
theorem str_bl (l : List UInt8) : (str l).toList = l := ByteArray.toList_eq _
theorem str_get0 (b : UInt8) (r : List UInt8) (h : 0 < (str (b :: r)).size) : (str (b :: r))[0]'h = b := rfl
theorem str_of (s : ByteArray) : str s.data.toList = s := rfl
theorem str_append (a b : List UInt8) : str a ++ str b = str (a ++ b) := by
  apply ByteArray.ext; simp [str]
def cellsOf (l : List UInt8) : List Value := l.map fun b => Value.int .u8 (b.toNat : Int)
theorem cellsOf_append (a b : List UInt8) : cellsOf (a ++ b) = cellsOf a ++ cellsOf b := by simp [cellsOf]
theorem cellsOf_length (a : List UInt8) : (cellsOf a).length = a.length := by simp [cellsOf]

/-- the slice v is a row of the call's own, from block number 'base' on, that holds these bytes -/
def BRow (w : World) (base : Nat) (v : Value) (l : List UInt8) : Prop := w.ownsRow base 5 1 v l.length (cellsOf l)
theorem BRow.nil (w : World) (base : Nat) : BRow w base (.slice none 0 0) [] := World.ownsRow_nil w base 5 1

theorem byteInfo : (Tryd.prog.info? 5).map (fun i => (i.zero, i.size, i.bytes)) = some (some (.int .u8 0), 1, 1) := by kernel_rfl

theorem BRow.below {w w' : World} {base : Nat} {v : Value} {l : List UInt8} (h : BRow w base v l) (k : Below w.heap.size w w') : BRow w' base v l :=
  World.ownsRow.kept (row := none) h ⟨k.os, k.tape, k.output, k.size, fun i hi _ => k.block i hi⟩ (by rcases h' : v.ownBlock with _ | b; exact Or.inl rfl; exact Or.inr (by simp))
theorem BRow.alloc {w : World} {base : Nat} {v : Value} {l : List UInt8} (h : BRow w base v l) (o : Obj) : BRow (w.alloc o) base v l := World.ownsRow.alloc h o

/-- 'append(b, x)' of a byte -/
theorem wpList_append_byte {w : World} {ops : Array Oper} {rest : List Oper} {o : Oper} {a : Act} {Q : Exit → Act → World → Prop} (hgd : o.guard = none) (s x : Operand)
    (ho : o.op = .call { callee := .builtin .append, args := #[s, x], argTypes := #[129, 129] })
    (base : Nat) (v : Value) (l : List UInt8) (hs : a.eval s = v) (hown : BRow w base v l) (g c : Nat) (n : Int) (hx : a.eval x = .slice (some ⟨g, 0, none⟩) 1 c) (hc : w.cell? ⟨g, 0, none⟩ = some (.int .u8 n)) (hn : 0 ≤ n ∧ n < 256)
    (hl : l.length < 1000000000) (hbase : base ≤ w.heap.size)
    (h : ∀ v' w', BRow w' base v' (l ++ [UInt8.ofNat n.toNat]) → w.grownBy w' v.ownBlock → wpList Tryd.prog ops Q rest (a.put o.dst v') w') : wpList Tryd.prog ops Q (o :: rest) a w := by
  obtain ⟨i, hi, hz, hsz, hby⟩ := info_parts byteInfo
  refine wpList_append_own w hgd s x 129 ho base 5 i (.int .u8 0) 1 1 Tryd.underlying129 hi hz hsz hby rfl (by decide) v l.length (cellsOf l) hs hown ⟨g, 0, none⟩ 1 c [.int .u8 n] hx rfl ?_ ?_ ?_ ?_ hbase ?_
  · intro j u hj
    match j, hj with
    | 0, hj => simp at hj; subst hj; simpa [Addr.add] using hc
  · intro u hu; simp at hu; subst hu; rfl
  · unfold maxLen; omega
  · omega
  · intro v' w' h1 h2 _
    refine h v' w' ?_ h2
    have e : (UInt8.ofNat n.toNat).toNat = n.toNat := by rw [UInt8.toNat_ofNat']; exact Nat.mod_eq_of_lt (by omega)
    unfold BRow
    rw [cellsOf_append, List.length_append]
    simpa [cellsOf, e, Int.toNat_of_nonneg hn.1] using h1

/-- 'string(b)' of such a row -/
theorem BRow.text {w : World} {base : Nat} {v : Value} {l : List UInt8} (h : BRow w base v l) : (convert 129 9 v).run Tryd.prog w = .ok (.string (str l)) w := by
  rcases h.2 with ⟨rfl, h0⟩ | ⟨g, cap, cur, rfl, hb, hg, h1, h2, h3, h4⟩
  · have : l = [] := List.eq_nil_of_length_eq_zero h0
    subst this
    exact run_convert_bytes_nil w 129 5 Tryd.underlying129 Tryd.underlying5 0 0 9 Tryd.underlying9
  · have hc := World.ownsRow.cells h (g := g) rfl
    have := run_convert_bytes_arg (P := Tryd.prog) w 129 5 Tryd.underlying129 Tryd.underlying5 g 0 l.length cap (l.map fun b => (b.toNat : Int)) (by simp) (fun i hi => by
      have := hc i (.int .u8 (l[i].toNat : Int)) (by simp [cellsOf, List.getElem?_eq_getElem hi])
      rw [show (⟨g, 0, none⟩ : Addr).add i = ⟨g, 0 + i, none⟩ from by unfold Addr.add; split <;> simp_all] at this
      rw [this]; simp [List.getD, List.getElem?_eq_getElem hi]) 9 Tryd.underlying9
    rw [this]
    congr 2
    apply ByteArray.ext; apply Array.toList_inj.1
    rw [strOfNums_data, List.map_map]
    show _ = l
    conv => rhs; rw [← List.map_id l]
    apply List.map_congr_left
    intro x _
    simp

/-- block q is a row of these bytes -/
def ByteBlk (w : World) (q : Nat) (l : List UInt8) : Prop := w.heap[q]? = some (.cells (cellsOf l).toArray 5 (0, 0))
section
variable {w w' : World} {q : Nat} {l : List UInt8}
theorem ByteBlk.keep (h : ByteBlk w q l) {X : List Nat} (k : Keeps X w w') (hg : q ∉ X) : ByteBlk w' q l := (k.block _ (block_lt h) hg).trans h
theorem ByteBlk.below (h : ByteBlk w q l) (k : Below w.heap.size w w') : ByteBlk w' q l := h.keep (Keeps.ofBelow k []) (by simp)
theorem ByteBlk.cell (h : ByteBlk w q l) {i : Nat} (hi : i < l.length) : w.cell? ⟨q, i, none⟩ = some (.int .u8 ((l.getD i 0).toNat : Int)) := by
  rw [cell_of_row _ _ i _ _ _ h]; simp [cellsOf, List.getElem?_eq_getElem hi, List.getD]
theorem ByteBlk.free (h : ByteBlk w q l) (i : Nat) : w.frozen? ⟨q, i, none⟩ = false := by unfold ByteBlk at h; simp [World.frozen?, h]
theorem ByteBlk.put (h : ByteBlk w q l) {i : Nat} {n : Int} (hn : 0 ≤ n ∧ n < 256) : ByteBlk (w.setCell ⟨q, i, none⟩ (.int .u8 n)) q (l.set i (UInt8.ofNat n.toNat)) := by
  have e : (UInt8.ofNat n.toNat).toNat = n.toNat := by rw [UInt8.toNat_ofNat']; exact Nat.mod_eq_of_lt (by omega)
  have e2 : ((UInt8.ofNat n.toNat).toNat : Int) = n := by rw [e]; omega
  unfold ByteBlk at h ⊢; simp only [World.setCell, Array.getElem?_modify, h]
  simp only [cellsOf, List.map_set, e2]; simp
theorem ByteBlk.text (h : ByteBlk w q l) (cap : Nat) : (convert 129 9 (.slice (some ⟨q, 0, none⟩) l.length cap)).run Tryd.prog w = .ok (.string (str l)) w := by
  have := run_convert_bytes_arg (P := Tryd.prog) w 129 5 Tryd.underlying129 Tryd.underlying5 q 0 l.length cap (l.map fun b => (b.toNat : Int)) (by simp) (fun i hi => by
    rw [Nat.zero_add, h.cell hi]; simp [List.getD, List.getElem?_eq_getElem hi]) 9 Tryd.underlying9
  rw [this]
  congr 2
  apply ByteArray.ext; apply Array.toList_inj.1
  rw [strOfNums_data, List.map_map]
  show _ = l
  conv => rhs; rw [← List.map_id l]
  apply List.map_congr_left
  intro x _
  simp
end
theorem made_bytes (n : Nat) : madeCells (Value.int .u8 0).cells n = (cellsOf (List.replicate n 0)).toArray := by
  apply Array.ext
  · simp [madeCells, cellsOf]
  · intro i h1 h2
    have e : i % 1 = 0 := Nat.mod_one i
    simp [madeCells, cellsOf, Value.cells, e]
theorem byteBlk_made (w : World) (n : Nat) : ByteBlk (w.alloc (.cells (madeCells (Value.int .u8 0).cells n) 5)) w.heap.size (List.replicate n 0) := by
  unfold ByteBlk; rw [made_bytes]; exact heap_alloc_new w _
/-- 'make([]byte, n)' -/
theorem run_make_bytes (n : Nat) (hn : n ≤ 140737488355328) (W : World) : (Instr.makeSlice 129 (.int .i64 (n : Int)) (.int .i64 (n : Int))).run Tryd.prog W = .ok (.slice (some ⟨W.heap.size, 0, none⟩) n n) (W.alloc (.cells (madeCells (Value.int .u8 0).cells n) 5)) := by
  obtain ⟨i, hi, hz, hsz, hby⟩ := info_parts byteInfo
  have h := run_make (P := Tryd.prog) W 129 5 i (.int .u8 0) Tryd.underlying129 hi hz .i64 .i64 n n (by omega) (by omega) (by rw [hby]; omega) (by omega)
  rw [hsz] at h
  simpa only [Int.toNat_natCast, Nat.mul_one] using h
/-- 'string([]byte{n})' -/
theorem conv_one (W : World) (n : Int) : (convert 129 9 (.slice (some ⟨W.heap.size, 0, none⟩) 1 1)).run Tryd.prog (W.alloc (.cells #[.int .u8 n] 5)) = .ok (.string (str [UInt8.ofNat n.toNat])) (W.alloc (.cells #[.int .u8 n] 5)) := by
  rw [run_convert_bytes_arg (P := Tryd.prog) (W.alloc (.cells #[.int .u8 n] 5)) 129 5 Tryd.underlying129 Tryd.underlying5 W.heap.size 0 1 1 [n] rfl (fun i hi => by
    obtain rfl : i = 0 := by omega
    exact newCell W _ _ 0) 9 Tryd.underlying9]
  rfl

/-- from cell 0 of block q on these bytes stand, and may be written -/
def BytesAt (w : World) (q : Nat) (l : List UInt8) : Prop :=
  q < w.heap.size ∧ ∀ i, i < l.length → w.cell? ⟨q, i, none⟩ = some (.int .u8 ((l.getD i 0).toNat : Int)) ∧ w.frozen? ⟨q, i, none⟩ = false
section
variable {w w' : World} {q : Nat} {l : List UInt8}
theorem BytesAt.keep (h : BytesAt w q l) {X : List Nat} (k : Keeps X w w') (hg : q ∉ X) : BytesAt w' q l :=
  ⟨Nat.lt_of_lt_of_le h.1 k.size, fun i hi => ⟨(k.cell h.1 hg).trans (h.2 i hi).1, (World.frozen?_of_block (w := w) (k.block _ h.1 hg)).trans (h.2 i hi).2⟩⟩
theorem BytesAt.below (h : BytesAt w q l) (k : Below w.heap.size w w') : BytesAt w' q l := h.keep (Keeps.ofBelow k []) (by simp)
theorem ByteBlk.at_ (h : ByteBlk w q l) : BytesAt w q l := ⟨block_lt h, fun i hi => ⟨h.cell hi, h.free i⟩⟩
theorem BytesAt.put (h : BytesAt w q l) {i : Nat} (hi : i < l.length) {n : Int} (hn : 0 ≤ n ∧ n < 256) : BytesAt (w.setCell ⟨q, i, none⟩ (.int .u8 n)) q (l.set i (UInt8.ofNat n.toNat)) := by
  have e : (UInt8.ofNat n.toNat).toNat = n.toNat := by rw [UInt8.toNat_ofNat']; exact Nat.mod_eq_of_lt (by omega)
  have e2 : ((UInt8.ofNat n.toNat).toNat : Int) = n := by rw [e]; omega
  refine ⟨by simpa [World.setCell] using h.1, fun j hj => ?_⟩
  rw [List.length_set] at hj
  by_cases hij : i = j
  · subst hij
    refine ⟨?_, by rw [World.frozen?_setCell]; exact (h.2 i hi).2⟩
    have hc := (h.2 i hi).1
    have : (w.setCell ⟨q, i, none⟩ (.int .u8 n)).cell? ⟨q, i, none⟩ = some (.int .u8 n) := by
      simp [World.cell?, World.setCell, Array.getElem?_modify] at hc ⊢
      split at hc <;> simp_all
      rename_i c el fz hq
      obtain ⟨hlt, hv⟩ := Array.getElem?_eq_some_iff.1 hc
      simp [hlt]
    rw [this]; simp [List.getD, List.getElem?_set, hj]; omega
  · refine ⟨?_, by rw [World.frozen?_setCell]; exact (h.2 j hj).2⟩
    rw [World.cell?_setCell_other w ⟨q, i, none⟩ ⟨q, j, none⟩ _ (fun e => hij (by injection e))]
    rw [(h.2 j hj).1]; simp [List.getD, List.getElem?_set, hij]
theorem BytesAt.text (h : BytesAt w q l) (cap : Nat) : (convert 129 9 (.slice (some ⟨q, 0, none⟩) l.length cap)).run Tryd.prog w = .ok (.string (str l)) w := by
  have := run_convert_bytes_arg (P := Tryd.prog) w 129 5 Tryd.underlying129 Tryd.underlying5 q 0 l.length cap (l.map fun b => (b.toNat : Int)) (by simp) (fun i hi => by
    rw [Nat.zero_add, (h.2 i hi).1]; simp [List.getD, List.getElem?_eq_getElem hi]) 9 Tryd.underlying9
  rw [this]
  congr 2
  apply ByteArray.ext; apply Array.toList_inj.1
  rw [strOfNums_data, List.map_map]
  show _ = l
  conv => rhs; rw [← List.map_id l]
  apply List.map_congr_left
  intro x _
  simp
end
/-- '[]byte(s)' -/
theorem wpList_conv_bytes {w : World} {ops : Array Oper} {rest : List Oper} {o : Oper} {a : Act} {Q : Exit → Act → World → Prop} (hgd : o.guard = none) (x : Operand) (hop : o.op = Op.convert 9 129 x)
    (l : List UInt8) (hx : a.eval x = .string (str l))
    (h : ∀ w' cap, BytesAt w' w.heap.size l → Below w.heap.size w w' → l.length ≤ cap → wpList Tryd.prog ops Q rest (a.put o.dst (.slice (some ⟨w.heap.size, 0, none⟩) l.length cap)) w') : wpList Tryd.prog ops Q (o :: rest) a w := by
  refine wpList_plain hgd fun K' hK' => ?_
  have hr := Lib.run_convert_string_bytes (P := Tryd.prog) w 9 129 5 (str l) Tryd.underlying9 Tryd.underlying129 Tryd.underlying5
  rw [str_size] at hr
  unfold Oper.wp
  simp only [execOp, hop, hx, Sem.run_bind, hr, Result.andThen_ok, Sem.run_pure]
  refine hK' _ _ (h _ _ ⟨by rw [Lib.bytesWorld_size]; omega, fun i hi => ⟨?_, ?_⟩⟩ ⟨rfl, rfl, rfl, by rw [Lib.bytesWorld_size]; omega, fun k hk => Lib.bytesWorld_at_old w _ _ k hk⟩ (grownCap_ge _ _ _ _))
  · exact Lib.bytesWorld_cell w _ _ i (by rw [str_size]; exact hi)
  · have hsz : l.length ≤ (Lib.bytesCells w 5 (str l)).size := by simp [Lib.bytesCells, str]
    simp [World.frozen?, Lib.bytesWorld_at_new]
    omega
end Go.Proofs.YtgbkpkioijbgoaaDoor
