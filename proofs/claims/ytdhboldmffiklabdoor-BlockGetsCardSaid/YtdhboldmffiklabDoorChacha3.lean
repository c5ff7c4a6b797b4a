/- ChaCha20 (package chacha): the state of a key and a nonce. No condition. -/
import Derived.Test.YtdhboldmffiklabDoorChacha2
import Derived.Deep.WholeRow
namespace Go.Proofs.YtdhboldmffiklabDoor.chacha
open Go.RowKit
attribute [local go_sem ↓] Go.wp_at_zero Go.wp_at_succ
set_option linter.unusedVariables false
set_option maxRecDepth 100000

def consts : List Nat := [1634760805, 857760878, 2036477234, 1797285236, 0, 0, 0, 0, 0, 0, 0, 0, 0, 0, 0, 0]
def keyed (key : ByteArray) : Nat → List Nat
  | 0 => consts
  | k + 1 => (keyed key k).set (4 + k) (wordAt key (4 * k))
def nonced (key nonce : ByteArray) : Nat → List Nat
  | 0 => keyed key 8
  | k + 1 => (nonced key nonce k).set (13 + k) (wordAt nonce (4 * k))
def begunL (key nonce : ByteArray) : List Nat := nonced key nonce 3
theorem keyed_len (key : ByteArray) (k : Nat) : (keyed key k).length = 16 := by
  induction k with
  | zero => rfl
  | succ k ih => simp [keyed, ih]
theorem nonced_len (key nonce : ByteArray) (k : Nat) : (nonced key nonce k).length = 16 := by
  induction k with
  | zero => exact keyed_len key 8
  | succ k ih => simp [nonced, ih]
theorem belowRow {B g : Nat} {a w : World} (h : Below B a w) (hg : B ≤ g) (cs : Array Value) : Below B a (w.setRow g cs) :=
  ⟨h.os, h.tape, h.output, by simpa [World.setRow] using h.size, fun k hk => by
    have e : (w.setRow g cs).heap[k]? = w.heap[k]? := by
      simp only [World.setRow, Array.getElem?_modify]
      rw [if_neg (by omega)]
    exact e.trans (h.block k hk)⟩
theorem newWords2 (w : World) (z : Array Value) (cs : Array Value) (t : TypeId) (xs : List Nat) (h : (xs.map word).toArray = cs) : Words ((w.alloc (.cells z t)).alloc (.cells cs t)) (w.heap.size + 1) t xs := by
  subst h
  have := heap_alloc_new (w.alloc (.cells z t)) (.cells (xs.map word).toArray t)
  have e : (w.alloc (.cells z t)).heap.size = w.heap.size + 1 := by simp
  rw [e] at this
  exact this
theorem newZ (w : World) (z : Array Value) (cs : Array Value) (t : TypeId) : ((w.alloc (.cells z t)).alloc (.cells cs t)).heap[w.heap.size]? = some (.cells z t (0, 0)) := by
  rw [Below.heap_alloc _ _ _ (by simp)]
  exact heap_alloc_new w _
set_option maxRecDepth 100000 in
set_option maxHeartbeats 400000 in
theorem begun_any (key nonce : ByteArray) (hk : key.size = 32) (hn : nonce.size = 12) (w : World) :
    Calls Tryd.prog 177 #[.string key, .string nonce] w fun e w' => e = .returned (.agg ((begunL key nonce).map word).toArray) ∧ Below w.heap.size w w' := by
  go_enter Tryd.func177, Tryd.ntmps177
  go_wp2
  go_loopg [9] 8 (fun gn s9 wr => ∃ i : Nat, s9 = .int .i64 (i : Int) ∧ i + gn = 8 ∧ Words wr (w.heap.size + 1) 236 (keyed key i) ∧ (∃ z, wr.heap[w.heap.size]? = some (.cells z 236 (0, 0)) ∧ z.size = 16) ∧ Below w.heap.size w wr)
  case atStart => exact ⟨0, rfl, rfl, newWords2 w _ _ 236 consts rfl, ⟨_, newZ w _ _ 236, rfl⟩, by go_grown⟩
  case round =>
    obtain ⟨i, rfl, hi, hW, hZ, hB⟩ := hrel
    by_cases h0 : gk = 0
    · obtain rfl : i = 8 := by omega
      replace hZ := Lib.hid hZ
      replace hW := Lib.hid hW
      clear hi h0
      go_wp2
      go_loopg [20] 3 (fun gn s9 wr => ∃ i : Nat, s9 = .int .i64 (i : Int) ∧ i + gn = 3 ∧ Words wr (w.heap.size + 1) 236 (nonced key nonce i) ∧ (∃ z, wr.heap[w.heap.size]? = some (.cells z 236 (0, 0)) ∧ z.size = 16) ∧ Below w.heap.size w wr)
      case atStart => exact ⟨0, rfl, rfl, hW.out, hZ.out, hB⟩
      case round =>
        obtain ⟨i, rfl, hi, hW, hZ, hB⟩ := hrel
        by_cases h0 : gk = 0
        · obtain rfl : i = 3 := by omega
          obtain ⟨z, hz1, hz2⟩ := hZ
          obtain ⟨cs, hcs⟩ : ∃ cs, cs = ((nonced key nonce 3).map word).toArray := ⟨_, rfl⟩
          have hsz : cs.size = 16 := by rw [hcs]; simp [nonced_len]
          have h1c : cs.all (·.oneCell') = true := by
            rw [hcs, Array.all_eq_true_iff_forall_mem]
            intro v hv
            simp at hv
            obtain ⟨n, _, rfl⟩ := hv
            rfl
          have hWc : wr.heap[w.heap.size + 1]? = some (.cells cs 236 (0, 0)) := by rw [hcs]; exact hW
          have hi16 : (Tryd.prog.info? 236).map (·.size) = some 16 := by kernel_rfl
          have hres := setRow_heap wr w.heap.size z cs 236 (0, 0) hz1
          replace hi16 := Lib.hid hi16
          replace hres := Lib.hid hres
          replace hW := Lib.hid hW
          replace hWc := Lib.hid hWc
          replace hz1 := Lib.hid hz1
          replace hcs := Lib.hid hcs
          replace h1c := Lib.hid h1c
          clear hi h0
          go_wp2_with (first | (refine wpList_load_row rfl 236 (.tmp 5) rfl (w.heap.size + 1) rfl 236 cs (0, 0) _ hWc.out Tryd.underlying236 rfl (by rw [hsz]; exact hi16.out) ?_) | (refine wpList_store_row rfl 236 (.tmp 4) (.tmp 31) rfl w.heap.size cs rfl rfl 236 z hz1.out (by rw [hsz]; exact hi16.out) (by rw [hz2, hsz]) h1c.out ?_))
          exact bodyPost_ret (v := .agg cs) (results_cell_row rfl _ _ w.heap.size 236 cs (0, 0) _ rfl hres.out Tryd.underlying236 rfl (by rw [hsz]; exact hi16.out)) rfl ⟨by rw [hcs.out]; rfl, belowRow hB (Nat.le_refl _) cs⟩
        · obtain ⟨K, rfl⟩ : ∃ K : Nat, gk = K + 1 := ⟨gk - 1, by omega⟩
          have i1 : (i : Int) < 3 := by omega
          have i0 : (0 : Int) ≤ (i : Int) := by omega
          have hw := fun w' => word_any nonce (4 * i) w' (by omega) (by omega)
          have e4 : ((4 * i : Nat) : Int) = 4 * (i : Int) := by omega
          rw [e4] at hw
          obtain ⟨q, hq⟩ : ∃ q, q = wordAt nonce (4 * i) := ⟨_, rfl⟩
          rw [← hq] at hw
          have hl := nonced_len key nonce i
          have hS : ∀ w1, Below wr.heap.size wr w1 → Words w1 (w.heap.size + 1) 236 (nonced key nonce i) := fun w1 b => hW.below b
          have hZ2 : ∀ w1, Below wr.heap.size wr w1 → ∃ z, w1.heap[w.heap.size]? = some (.cells z 236 (0, 0)) ∧ z.size = 16 := fun w1 b => hZ.imp fun z h => ⟨(b.block _ (block_lt h.1)).trans h.1, h.2⟩
          replace hZ := Lib.hid hZ
          replace hZ2 := Lib.hid hZ2
          replace hW := Lib.hid hW
          replace hw := Lib.hid hw
          replace hS := Lib.hid hS
          replace hq := Lib.hid hq
          go_wp2_with (go_at_call 203; (with_reducible refine (hw.out _).mono ?_); rintro e w1 ⟨rfl, b1⟩; have W1 := hS.out _ b1; have f1 := W1.free (13 + i); have c1 := W1.cell (i := 13 + i) (by omega); replace W1 := Lib.hid W1)
          go_roundg K
          case measure => omega
          case rel =>
            refine ⟨i + 1, by go_num, by omega, ?_, ?_, (belowCont hB b1).setCell (by simp) _⟩
            · have e := W1.out.put (13 + i) q
              show Words _ _ _ ((nonced key nonce i).set (13 + i) (wordAt nonce (4 * i)))
              rw [← hq.out]; exact e
            · obtain ⟨z, h1, h2⟩ := hZ2.out _ b1
              exact ⟨z, (Below.heap_setCell w1 _ _ _ (by simp)).trans h1, h2⟩
    · obtain ⟨K, rfl⟩ : ∃ K : Nat, gk = K + 1 := ⟨gk - 1, by omega⟩
      have i1 : (i : Int) < 8 := by omega
      have i0 : (0 : Int) ≤ (i : Int) := by omega
      have hw := fun w' => word_any key (4 * i) w' (by omega) (by omega)
      have e4 : ((4 * i : Nat) : Int) = 4 * (i : Int) := by omega
      rw [e4] at hw
      obtain ⟨q, hq⟩ : ∃ q, q = wordAt key (4 * i) := ⟨_, rfl⟩
      rw [← hq] at hw
      have hl := keyed_len key i
      have hS : ∀ w1, Below wr.heap.size wr w1 → Words w1 (w.heap.size + 1) 236 (keyed key i) := fun w1 b => hW.below b
      have hZ2 : ∀ w1, Below wr.heap.size wr w1 → ∃ z, w1.heap[w.heap.size]? = some (.cells z 236 (0, 0)) ∧ z.size = 16 := fun w1 b => hZ.imp fun z h => ⟨(b.block _ (block_lt h.1)).trans h.1, h.2⟩
      replace hZ := Lib.hid hZ
      replace hZ2 := Lib.hid hZ2
      replace hW := Lib.hid hW
      replace hw := Lib.hid hw
      replace hS := Lib.hid hS
      replace hq := Lib.hid hq
      go_wp2_with (go_at_call 203; (with_reducible refine (hw.out _).mono ?_); rintro e w1 ⟨rfl, b1⟩; have W1 := hS.out _ b1; have f1 := W1.free (4 + i); have c1 := W1.cell (i := 4 + i) (by omega); replace W1 := Lib.hid W1)
      go_roundg K
      case measure => omega
      case rel =>
        refine ⟨i + 1, by go_num, by omega, ?_, ?_, (belowCont hB b1).setCell (by simp) _⟩
        · have e := W1.out.put (4 + i) q
          show Words _ _ _ ((keyed key i).set (4 + i) (wordAt key (4 * i)))
          rw [← hq.out]; exact e
        · obtain ⟨z, h1, h2⟩ := hZ2.out _ b1
          exact ⟨z, (Below.heap_setCell w1 _ _ _ (by simp)).trans h1, h2⟩
end Go.Proofs.YtdhboldmffiklabDoor.chacha
