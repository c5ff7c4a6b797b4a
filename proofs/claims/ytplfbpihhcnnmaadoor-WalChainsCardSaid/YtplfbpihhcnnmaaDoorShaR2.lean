/- The document's own SHA-256 (package lodestoneref01): the words behind a block. No condition. -/
import Derived.Test.YtplfbpihhcnnmaaDoorShaR1
namespace Go.Proofs.YtplfbpihhcnnmaaDoor.sha
open Go.RowKit
attribute [local go_sem ↓] Go.wp_at_zero Go.wp_at_succ
set_option linter.unusedVariables false
set_option maxRecDepth 100000

theorem u32Info : (Tryd.prog.info? 111).map (fun i => (i.zero, i.size, i.bytes)) = some (some (.int .u32 0), 1, 4) := by kernel_rfl
/-- 'make([]uint32, 64)' -/
theorem run_make_64 (W : World) : (Instr.makeSlice 113 (.int .i64 64) (.int .i64 64)).run Tryd.prog W = .ok (.slice (some ⟨W.heap.size, 0, none⟩) 64 64) (W.alloc (.cells ((List.replicate 64 0).map word).toArray 111)) := by
  obtain ⟨i, hi, hz, hsz, hby⟩ := info_parts u32Info
  have h := run_make (P := Tryd.prog) W 113 111 i (.int .u32 0) Tryd.underlying113 hi hz .i64 .i64 64 64 (by omega) (by omega) (by rw [hby]; decide) (by decide)
  rw [hsz] at h
  have e : madeCells (Value.int .u32 0).cells 64 = ((List.replicate 64 0).map word).toArray := by kernel_rfl
  simpa [e] using h
theorem leftTurns (x s q : Nat) (hx : x < 4294967296) (hs : s = 2 ∨ s = 6 ∨ s = 7 ∨ s = 11 ∨ s = 13 ∨ s = 17 ∨ s = 18 ∨ s = 19 ∨ s = 22 ∨ s = 25) (hq : q = rotr x s) (w : World) :
    Calls Tryd.prog 127 #[.int .u32 (x : Int), .int .u64 (s : Int)] w fun e w' => e = .returned (.int .u32 (q : Int)) ∧ w' = w := by rw [hq]; exact rturn_any x s hx hs w
/-- what stands while words are made: the old ones, the block's, the salts -/
def RMix (w wr : World) (G : Nat) (hs ws ss : List Nat) : Prop :=
  Words wr w.heap.size 112 hs ∧ (∃ z, wr.heap[w.heap.size + 1]? = some (.cells z 112 (0, 0)) ∧ z.size = 8) ∧ Words wr (w.heap.size + 1 + 1) 111 ws ∧ Words wr G 111 ss ∧ G < w.heap.size ∧ Below w.heap.size w wr
theorem RMix.drew {w wr : World} {G : Nat} {hs ws ss : List Nat} (h : RMix w wr G hs ws ss) : RMix w wr.drew G hs ws ss := ⟨h.1, h.2.1, h.2.2.1, h.2.2.2.1, h.2.2.2.2.1, h.2.2.2.2.2.drew⟩
theorem RMix.drewN {w wr : World} {G : Nat} {hs ws ss : List Nat} (h : RMix w wr G hs ws ss) (n : Nat) : RMix w (wr.drewN n) G hs ws ss := ⟨h.1, h.2.1, h.2.2.1, h.2.2.2.1, h.2.2.2.2.1, belowDrewN h.2.2.2.2.2 n⟩
theorem RMix.old {w wr : World} {G : Nat} {hs ws ss : List Nat} (h : RMix w wr G hs ws ss) : Words wr w.heap.size 112 hs := h.1
theorem RMix.ws {w wr : World} {G : Nat} {hs ws ss : List Nat} (h : RMix w wr G hs ws ss) : Words wr (w.heap.size + 1 + 1) 111 ws := h.2.2.1
theorem RMix.ss {w wr : World} {G : Nat} {hs ws ss : List Nat} (h : RMix w wr G hs ws ss) : Words wr G 111 ss := h.2.2.2.1
theorem RMix.res {w wr : World} {G : Nat} {hs ws ss : List Nat} (h : RMix w wr G hs ws ss) : ∃ z, wr.heap[w.heap.size + 1]? = some (.cells z 112 (0, 0)) ∧ z.size = 8 := h.2.1
theorem RMix.low {w wr : World} {G : Nat} {hs ws ss : List Nat} (h : RMix w wr G hs ws ss) : Below w.heap.size w wr := h.2.2.2.2.2
theorem RMix.put {w wr : World} {G : Nat} {hs ws ss : List Nat} (h : RMix w wr G hs ws ss) (i n : Nat) : RMix w (wr.setCell ⟨w.heap.size + 1 + 1, i, none⟩ (.int .u32 (n : Int))) G hs (ws.set i n) ss := by
  have k := (Keeps.refl [w.heap.size + 1 + 1] wr).setCell (p := ⟨w.heap.size + 1 + 1, i, none⟩) (Or.inl (by simp)) (.int .u32 (n : Int))
  exact ⟨h.1.keep k (by simp; omega), h.2.1.imp fun z hz => ⟨(k.block _ (block_lt hz.1) (by simp)).trans hz.1, hz.2⟩, h.2.2.1.put i n, h.2.2.2.1.keep k (by have := h.2.2.2.2.1; simp; omega), h.2.2.2.2.1, h.2.2.2.2.2.setCell (p := ⟨w.heap.size + 1 + 1, i, none⟩) (by simp; omega) _⟩
theorem rmix_start {w : World} {cs zs : Array Value} {hs ss : List Nat} {G : Nat} (hcs : cs = (hs.map word).toArray) (hz : zs.size = 8) (hG : Words w G 111 ss) :
    RMix w (((w.alloc (.cells cs 112)).alloc (.cells zs 112)).alloc (.cells ((List.replicate 64 0).map word).toArray 111)) G hs (List.replicate 64 0) ss := by
  have hlt := block_lt hG
  have bel : Below w.heap.size w (((w.alloc (.cells cs 112)).alloc (.cells zs 112)).alloc (.cells ((List.replicate 64 0).map word).toArray 111)) := (((Below.refl _ w).alloc (Nat.le_refl _) _).alloc (by simp) _).alloc (by simp; omega) _
  refine ⟨?_, ⟨zs, ?_, hz⟩, ?_, hG.below bel, hlt, bel⟩
  · unfold Words; rw [← hcs, Below.heap_alloc _ _ _ (by simp; omega)]; exact boxed2 _ _ _ _
  · rw [Below.heap_alloc _ _ _ (by simp)]; exact boxed2b _ _ _ _
  · have := heap_alloc_new ((w.alloc (.cells cs 112)).alloc (.cells zs 112)) (.cells ((List.replicate 64 0).map word).toArray 111)
    simpa [Words] using this
end Go.Proofs.YtplfbpihhcnnmaaDoor.sha
