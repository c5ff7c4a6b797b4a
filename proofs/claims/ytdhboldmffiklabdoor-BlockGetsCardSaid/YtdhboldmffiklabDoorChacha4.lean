/- ChaCha20 (package chacha): a state stirred. No condition. -/
import Derived.Test.YtdhboldmffiklabDoorChacha
import Derived.Test.YtdhboldmffiklabDoorChacha3
namespace Go.Proofs.YtdhboldmffiklabDoor.chacha
open Go.RowKit
attribute [local go_sem ↓] Go.wp_at_zero Go.wp_at_succ
set_option linter.unusedVariables false
set_option maxRecDepth 100000

def cols (xs : List Nat) : Nat → List Nat
  | 0 => xs
  | k + 1 => quarterL (cols xs k) k (4 + k) (8 + k) (12 + k)
def diags (xs : List Nat) : Nat → List Nat
  | 0 => xs
  | k + 1 => quarterL (diags xs k) k (4 + (k + 1) % 4) (8 + (k + 2) % 4) (12 + (k + 3) % 4)
def rounds (xs : List Nat) : Nat → List Nat
  | 0 => xs
  | k + 1 => diags (cols (rounds xs k) 4) 4
def Good (xs : List Nat) : Prop := xs.length = 16 ∧ Small xs
theorem Good.quarter {xs : List Nat} (h : Good xs) (a b c d : Nat) : Good (quarterL xs a b c d) := by
  refine ⟨by simp [quarterL, xorRot_len, addTo_len, h.1], ?_⟩
  unfold quarterL
  exact ((((((((h.2.addTo _ _).xorRot _ _ _ (by omega)).addTo _ _).xorRot _ _ _ (by omega)).addTo _ _).xorRot _ _ _ (by omega)).addTo _ _).xorRot _ _ _ (by omega))
theorem Good.cols {xs : List Nat} (h : Good xs) (k : Nat) : Good (cols xs k) := by
  induction k with
  | zero => exact h
  | succ k ih => exact ih.quarter _ _ _ _
theorem Good.diags {xs : List Nat} (h : Good xs) (k : Nat) : Good (diags xs k) := by
  induction k with
  | zero => exact h
  | succ k ih => exact ih.quarter _ _ _ _
theorem Good.rounds {xs : List Nat} (h : Good xs) (k : Nat) : Good (rounds xs k) := by
  induction k with
  | zero => exact h
  | succ k ih => exact (ih.cols 4).diags 4
def byteN (n : Nat) : Value := .int .u8 (n : Int)
/-- the bytes of so many words, the lowest first -/
def outL (ns : List Nat) : Nat → List Nat
  | 0 => List.replicate 64 0
  | k + 1 => ((((outL ns k).set (4 * k) (ns.getD k 0 % 256)).set (4 * k + 1) (ns.getD k 0 / 256 % 256)).set (4 * k + 2) (ns.getD k 0 / 65536 % 256)).set (4 * k + 3) (ns.getD k 0 / 16777216 % 256)
def sums (xs ys : List Nat) : List Nat := (List.range 16).map fun i => add32 (xs.getD i 0) (ys.getD i 0)
def blockL (xs : List Nat) : List Nat := outL (sums (rounds xs 10) xs) 16

theorem boxed2 (w : World) (cs : Array Value) (t : TypeId) (o : Obj) : ((w.alloc (.cells cs t)).alloc o).heap[w.heap.size]? = some (.cells cs t (0, 0)) := by
  rw [Below.heap_alloc _ _ _ (by simp)]
  exact heap_alloc_new w _
theorem boxed3 (w : World) (cs : Array Value) (t : TypeId) (o o2 : Obj) : (((w.alloc o).alloc o2).alloc (.cells cs t)).heap[w.heap.size + 1 + 1]? = some (.cells cs t (0, 0)) := by
  have := heap_alloc_new ((w.alloc o).alloc o2) (.cells cs t)
  simpa using this
theorem boxed1 (w : World) (cs : Array Value) (t : TypeId) (o o2 : Obj) : (((w.alloc o).alloc (.cells cs t)).alloc o2).heap[w.heap.size + 1]? = some (.cells cs t (0, 0)) := by
  have := boxed2 (w.alloc o) cs t o2
  simpa using this
theorem boxed0 (w : World) (cs : Array Value) (t : TypeId) (o o2 : Obj) : (((w.alloc (.cells cs t)).alloc o).alloc o2).heap[w.heap.size]? = some (.cells cs t (0, 0)) := by
  rw [Below.heap_alloc _ _ _ (by simp; omega)]
  exact boxed2 w cs t o
theorem setRow_far (w : World) (g k : Nat) (cs : Array Value) (h : k ≠ g) : (w.setRow g cs).heap[k]? = w.heap[k]? := by
  simp only [World.setRow, Array.getElem?_modify]
  rw [if_neg (fun e => h e.symm)]
def Bytes8 (w : World) (g : Nat) (l : List Nat) : Prop := w.heap[g]? = some (.cells (l.map byteN).toArray 238 (0, 0))
theorem Bytes8.cell {w : World} {g : Nat} {l : List Nat} (h : Bytes8 w g l) {i : Nat} (hi : i < l.length) : w.cell? ⟨g, i, none⟩ = some (.int .u8 ((l.getD i 0 : Nat) : Int)) := by
  rw [cell_of_row _ _ i _ _ _ h]; simp [byteN, List.getElem?_eq_getElem hi, List.getD]
theorem Bytes8.free {w : World} {g : Nat} {l : List Nat} (h : Bytes8 w g l) (i : Nat) : w.frozen? ⟨g, i, none⟩ = false := by unfold Bytes8 at h; simp [World.frozen?, h]
theorem Bytes8.put {w : World} {g : Nat} {l : List Nat} (h : Bytes8 w g l) (i n : Nat) : Bytes8 (w.setCell ⟨g, i, none⟩ (.int .u8 (n : Int))) g (l.set i n) := by
  unfold Bytes8 at h ⊢; simp [World.setCell, Array.getElem?_modify, h, List.map_set, byteN]
theorem Bytes8.keep {w w' : World} {g : Nat} {l : List Nat} (h : Bytes8 w g l) {X : List Nat} (k : Keeps X w w') (hg : g ∉ X) : Bytes8 w' g l := (k.block _ (block_lt h) hg).trans h
theorem outL_len (ns : List Nat) (k : Nat) : (outL ns k).length = 64 := by
  induction k with
  | zero => simp [outL]
  | succ k ih => simp [outL, ih]
/-- what stands while a state is stirred -/
def Stir (w wr : World) (xs ys : List Nat) : Prop :=
  Words wr w.heap.size 236 xs ∧ Words wr (w.heap.size + 1 + 1) 236 ys ∧ (∃ z, wr.heap[w.heap.size + 1]? = some (.cells z 238 (0, 0)) ∧ z.size = 64) ∧ Below w.heap.size w wr
theorem Stir.words {w wr : World} {xs ys : List Nat} (h : Stir w wr xs ys) : Words wr (w.heap.size + 1 + 1) 236 ys := h.2.1
theorem Stir.next {w wr w1 : World} {xs ys zs : List Nat} (h : Stir w wr xs ys) (k : Keeps [w.heap.size + 1 + 1] wr w1) (hz : Words w1 (w.heap.size + 1 + 1) 236 zs) : Stir w w1 xs zs :=
  ⟨h.1.keep k (by simp; omega), hz, h.2.2.1.imp fun z hz => ⟨(k.block _ (block_lt hz.1) (by simp)).trans hz.1, hz.2⟩, h.2.2.2.trans (k.below h.2.2.2.size (by simp; omega))⟩
theorem Stir.keep {w wr w1 : World} {xs ys : List Nat} {G : Nat} (h : Stir w wr xs ys) (k : Keeps [G] wr w1) (hG : w.heap.size + 1 + 1 < G) : Stir w w1 xs ys :=
  ⟨h.1.keep k (by simp; omega), h.2.1.keep k (by simp; omega), h.2.2.1.imp fun z hz => ⟨(k.block _ (block_lt hz.1) (by simp; omega)).trans hz.1, hz.2⟩, h.2.2.2.trans (k.below h.2.2.2.size (by simp; omega))⟩
set_option maxRecDepth 100000 in
set_option maxHeartbeats 8000000 in
theorem stirred_any (xs : List Nat) (hg : Good xs) (w : World) :
    Calls Tryd.prog 178 #[.agg (xs.map word).toArray] w fun e w' => e = .returned (.agg ((blockL xs).map byteN).toArray) ∧ Below w.heap.size w w' := by
  obtain ⟨cs, hcs⟩ : ∃ cs, cs = (xs.map word).toArray := ⟨_, rfl⟩
  have hsz : cs.size = 16 := by rw [hcs]; simp [hg.1]
  have h1c : cs.all (·.oneCell') = true := by
    rw [hcs, Array.all_eq_true_iff_forall_mem]
    intro v hv
    simp at hv
    obtain ⟨n, _, rfl⟩ := hv
    rfl
  have hi16 : (Tryd.prog.info? 236).map (·.size) = some 16 := by kernel_rfl
  rw [← hcs]
  replace h1c := Lib.hid h1c
  replace hi16 := Lib.hid hi16
  replace hcs := Lib.hid hcs
  go_enter Tryd.func178, Tryd.ntmps178
  go_wp2_with (first | (refine wpList_load_row rfl 236 (.tmp 1) rfl w.heap.size rfl 236 cs (0, 0) _ (boxed2 _ _ _ _) Tryd.underlying236 rfl (by rw [hsz]; exact hi16.out) ?_) | (refine wpList_store_row rfl 236 (.tmp 3) (.tmp 9) rfl (w.heap.size + 1 + 1) cs rfl rfl 236 _ (boxed3 _ _ _ _ _) (by rw [hsz]; exact hi16.out) (by rw [hsz]; rfl) h1c.out ?_))
  go_loopg [10] 10 (fun gn s10 wr => ∃ i : Nat, s10 = .int .i64 (i : Int) ∧ i + gn = 10 ∧ Stir w wr xs (rounds xs i))
  case atStart =>
    refine ⟨0, rfl, rfl, ?_, ?_, ⟨_, (setRow_far _ _ _ _ (by omega)).trans (boxed1 _ _ _ _ _), rfl⟩, ?_⟩
    · unfold Words; rw [← hcs.out]; exact (setRow_far _ _ _ _ (by omega)).trans (boxed0 _ _ _ _ _)
    · show Words _ _ _ xs
      unfold Words; rw [← hcs.out]; exact setRow_heap _ _ _ cs 236 (0, 0) (boxed3 _ _ _ _ _)
    · exact belowRow (by go_grown) (by omega) cs
  case round =>
    obtain ⟨i, rfl, hi, hS⟩ := hrel
    by_cases h0 : gk = 0
    · obtain rfl : i = 10 := by omega
      have hG := hg.rounds 10
      obtain ⟨zs, hzs⟩ : ∃ zs, zs = rounds xs 10 := ⟨_, rfl⟩
      rw [← hzs] at hS hG
      have hs0 : Stir w (wr.alloc (.cells ((List.replicate 64 0).map byteN).toArray 238)) xs zs := hS.next ((Keeps.refl _ wr).alloc _) (hS.words.keep ((Keeps.refl [] wr).alloc _) (by simp))
      have hb0 : Bytes8 (wr.alloc (.cells ((List.replicate 64 0).map byteN).toArray 238)) wr.heap.size (outL (sums zs xs) 0) := heap_alloc_new wr _
      obtain ⟨G, hGG⟩ : ∃ G, G = wr.heap.size := ⟨_, rfl⟩
      have hGw : w.heap.size + 1 + 1 < G := by rw [hGG]; exact block_lt hS.words
      replace hS := Lib.hid hS
      replace hG := Lib.hid hG
      replace hzs := Lib.hid hzs
      replace hs0 := Lib.hid hs0
      replace hb0 := Lib.hid hb0
      clear h0 hi
      go_wp2
      go_loopg [43] 16 (fun gn s43 w4 => ∃ i : Nat, s43 = .int .i64 (i : Int) ∧ i + gn = 16 ∧ Stir w w4 xs zs ∧ Bytes8 w4 G (outL (sums zs xs) i))
      case atStart => exact ⟨0, rfl, rfl, hs0.out, by rw [hGG]; exact hb0.out⟩
      case round =>
        rw [← hGG]
        replace hGG := Lib.hid hGG
        obtain ⟨i, rfl, hi, hT, hO⟩ := hrel
        by_cases h0 : gk = 0
        · obtain rfl : i = 16 := by omega
          obtain ⟨z, hz1, hz2⟩ := hT.2.2.1
          have hBel := hT.2.2.2
          obtain ⟨cs6, hcs6⟩ : ∃ c, c = ((outL (sums zs xs) 16).map byteN).toArray := ⟨_, rfl⟩
          have hs6 : cs6.size = 64 := by rw [hcs6]; simp [outL_len]
          have h16 : cs6.all (·.oneCell') = true := by
            rw [hcs6, Array.all_eq_true_iff_forall_mem]
            intro v hv
            simp at hv
            obtain ⟨n, _, rfl⟩ := hv
            rfl
          have hG6 : wr.heap[G]? = some (.cells cs6 238 (0, 0)) := by rw [hcs6]; exact hO
          have hi64 : (Tryd.prog.info? 238).map (·.size) = some 64 := by kernel_rfl
          have hres := setRow_heap wr (w.heap.size + 1) z cs6 238 (0, 0) hz1
          replace hi64 := Lib.hid hi64
          replace hres := Lib.hid hres
          replace hG6 := Lib.hid hG6
          replace hz1 := Lib.hid hz1
          replace hcs6 := Lib.hid hcs6
          replace h16 := Lib.hid h16
          replace hT := Lib.hid hT
          replace hO := Lib.hid hO
          clear hi h0
          go_wp2_with (first | (refine wpList_load_row rfl 238 (.tmp 6) rfl G rfl 238 cs6 (0, 0) _ hG6.out Tryd.underlying238 rfl (by rw [hs6]; exact hi64.out) ?_) | (refine wpList_store_row rfl 238 (.tmp 2) (.tmp 80) rfl (w.heap.size + 1) cs6 rfl rfl 238 z hz1.out (by rw [hs6]; exact hi64.out) (by rw [hz2, hs6]) h16.out ?_))
          exact bodyPost_ret (v := .agg cs6) (results_cell_row rfl _ _ (w.heap.size + 1) 238 cs6 (0, 0) _ rfl hres.out Tryd.underlying238 rfl (by rw [hs6]; exact hi64.out)) rfl ⟨by rw [hcs6.out, hzs.out]; rfl, belowRow hBel (by omega) cs6⟩
        · obtain ⟨K, rfl⟩ : ∃ K : Nat, gk = K + 1 := ⟨gk - 1, by omega⟩
          have i1 : (i : Int) < 16 := by omega
          have i0 : (0 : Int) ≤ (i : Int) := by omega
          have ca := hT.words.cell (i := i) (by rw [hG.out.1]; omega)
          have cb := hT.1.cell (i := i) (by rw [hg.1]; omega)
          obtain ⟨y1, e1⟩ : ∃ y, zs.getD i 0 = y := ⟨_, rfl⟩
          obtain ⟨y2, e2⟩ : ∃ y, xs.getD i 0 = y := ⟨_, rfl⟩
          rw [e1] at ca; rw [e2] at cb
          obtain ⟨z, hz⟩ : ∃ z, add32 y1 y2 = z := ⟨_, rfl⟩
          have ez : ((y1 : Int) + y2) % 4294967296 = (z : Int) := by rw [← hz]; simp [add32]
          have hsum : (sums zs xs).getD i 0 = z := by rw [← hz, ← e1, ← e2]; simp [sums, List.getD, show i < 16 by omega]
          replace hsum := Lib.hid hsum
          replace hT := Lib.hid hT
          replace hO := Lib.hid hO
          clear hz e1 e2
          replace hGw := Lib.hid hGw
          go_upto_region 19 with fail
          go_cut [8] from 44 to 79 (fun v wx => v = .int .u32 (z : Int) ∧ wx = wr.drew)
          case first =>
            go_region
            all_goals go_wp2_with fail
            all_goals go_meet
            all_goals exact ⟨by rw [ez], rfl⟩
          case rest =>
          obtain ⟨rfl, rfl⟩ := hcut
          obtain ⟨l0, hl0⟩ : ∃ l, l = outL (sums zs xs) i := ⟨_, rfl⟩
          have B0 : Bytes8 wr.drew G l0 := by rw [hl0]; exact hO.out
          have L0 : l0.length = 64 := by rw [hl0]; exact outL_len _ _
          have K0 : Keeps [G] wr wr.drew := (Keeps.refl [G] wr).drew
          replace hl0 := Lib.hid hl0
          clear ca cb ez
          obtain ⟨v0, hv0⟩ : ∃ v : Nat, v = z % 256 := ⟨_, rfl⟩
          have ev0 : (z : Int) % 256 = (v0 : Int) := by omega
          go_upto_region 20 with fail
          go_cut [] from 44 to 79 (fun wx => Bytes8 wx G (l0.set (4 * i) v0) ∧ Keeps [G] wr wx)
          case first =>
            have cc : wr.cell? ⟨G, 4 * i, none⟩ = some (.int .u8 ((l0.getD (4 * i) 0 : Nat) : Int)) := B0.cell (by omega)
            have ff : wr.frozen? ⟨G, 4 * i, none⟩ = false := B0.free (4 * i)
            have bnd : 4 * (i : Int) < 64 := by omega
            have bn0 : 0 ≤ 4 * (i : Int) := by omega
            have P := B0.put (4 * i) v0
            have Q := K0.setCell (p := ⟨G, 4 * i, none⟩) (Or.inl (by simp)) (.int .u8 (v0 : Int))
            replace P := Lib.hid P; replace Q := Lib.hid Q; replace B0 := Lib.hid B0; replace K0 := Lib.hid K0; replace hv0 := Lib.hid hv0
            go_wp2
            try go_meet
            exact ⟨P.out, Q.out⟩
          case rest =>
          obtain ⟨B1, K1⟩ := hcut
          obtain ⟨l1, hl1⟩ : ∃ l, l = l0.set (4 * i) v0 := ⟨_, rfl⟩
          rw [← hl1] at B1
          have L1 : l1.length = 64 := by rw [hl1]; simp [L0]
          replace hl1 := Lib.hid hl1
          replace hv0 := Lib.hid hv0
          clear B0 K0 L0 ev0
          obtain ⟨v1, hv1⟩ : ∃ v : Nat, v = z / 256 % 256 := ⟨_, rfl⟩
          have ev1 : (z : Int) / 256 % 256 = (v1 : Int) := by omega
          go_upto_region 21 with fail
          go_cut [] from 44 to 79 (fun wx => Bytes8 wx G (l1.set (4 * i + 1) v1) ∧ Keeps [G] wr wx)
          case first =>
            have cc : wc.cell? ⟨G, 4 * i + 1, none⟩ = some (.int .u8 ((l1.getD (4 * i + 1) 0 : Nat) : Int)) := B1.cell (by omega)
            have ff : wc.frozen? ⟨G, 4 * i + 1, none⟩ = false := B1.free (4 * i + 1)
            have bnd : 4 * (i : Int) + 1 < 64 := by omega
            have bn0 : 0 ≤ 4 * (i : Int) + 1 := by omega
            have P := B1.put (4 * i + 1) v1
            have Q := K1.setCell (p := ⟨G, 4 * i + 1, none⟩) (Or.inl (by simp)) (.int .u8 (v1 : Int))
            replace P := Lib.hid P; replace Q := Lib.hid Q; replace B1 := Lib.hid B1; replace K1 := Lib.hid K1; replace hv1 := Lib.hid hv1
            go_wp2
            try go_meet
            exact ⟨P.out, Q.out⟩
          case rest =>
          obtain ⟨B2, K2⟩ := hcut
          obtain ⟨l2, hl2⟩ : ∃ l, l = l1.set (4 * i + 1) v1 := ⟨_, rfl⟩
          rw [← hl2] at B2
          have L2 : l2.length = 64 := by rw [hl2]; simp [L1]
          replace hl2 := Lib.hid hl2
          replace hv1 := Lib.hid hv1
          clear B1 K1 L1 ev1
          obtain ⟨v2, hv2⟩ : ∃ v : Nat, v = z / 65536 % 256 := ⟨_, rfl⟩
          have ev2 : (z : Int) / 65536 % 256 = (v2 : Int) := by omega
          go_upto_region 22 with fail
          go_cut [] from 44 to 79 (fun wx => Bytes8 wx G (l2.set (4 * i + 2) v2) ∧ Keeps [G] wr wx)
          case first =>
            have cc : wc.cell? ⟨G, 4 * i + 2, none⟩ = some (.int .u8 ((l2.getD (4 * i + 2) 0 : Nat) : Int)) := B2.cell (by omega)
            have ff : wc.frozen? ⟨G, 4 * i + 2, none⟩ = false := B2.free (4 * i + 2)
            have bnd : 4 * (i : Int) + 2 < 64 := by omega
            have bn0 : 0 ≤ 4 * (i : Int) + 2 := by omega
            have P := B2.put (4 * i + 2) v2
            have Q := K2.setCell (p := ⟨G, 4 * i + 2, none⟩) (Or.inl (by simp)) (.int .u8 (v2 : Int))
            replace P := Lib.hid P; replace Q := Lib.hid Q; replace B2 := Lib.hid B2; replace K2 := Lib.hid K2; replace hv2 := Lib.hid hv2
            go_wp2
            try go_meet
            exact ⟨P.out, Q.out⟩
          case rest =>
          obtain ⟨B3, K3⟩ := hcut
          obtain ⟨l3, hl3⟩ : ∃ l, l = l2.set (4 * i + 2) v2 := ⟨_, rfl⟩
          rw [← hl3] at B3
          have L3 : l3.length = 64 := by rw [hl3]; simp [L2]
          replace hl3 := Lib.hid hl3
          replace hv2 := Lib.hid hv2
          clear B2 K2 L2 ev2
          obtain ⟨v3, hv3⟩ : ∃ v : Nat, v = z / 16777216 % 256 := ⟨_, rfl⟩
          have ev3 : (z : Int) / 16777216 % 256 = (v3 : Int) := by omega
          go_upto_region 23 with fail
          have cc : wc.cell? ⟨G, 4 * i + 3, none⟩ = some (.int .u8 ((l3.getD (4 * i + 3) 0 : Nat) : Int)) := B3.cell (by omega)
          have ff : wc.frozen? ⟨G, 4 * i + 3, none⟩ = false := B3.free (4 * i + 3)
          have bnd : 4 * (i : Int) + 3 < 64 := by omega
          have bn0 : 0 ≤ 4 * (i : Int) + 3 := by omega
          have P := B3.put (4 * i + 3) v3
          have Q := K3.setCell (p := ⟨G, 4 * i + 3, none⟩) (Or.inl (by simp)) (.int .u8 (v3 : Int))
          replace P := Lib.hid P; replace Q := Lib.hid Q; replace B3 := Lib.hid B3; replace K3 := Lib.hid K3; replace hv3 := Lib.hid hv3
          go_wp2
          rw [hGG.out]
          go_roundg K
          case measure => omega
          case rel =>
            rw [← hGG.out]
            refine ⟨i + 1, by go_num, by omega, hT.out.keep Q.out hGw.out, ?_⟩
            show Bytes8 _ G (((((outL (sums zs xs) i).set (4 * i) ((sums zs xs).getD i 0 % 256)).set (4 * i + 1) ((sums zs xs).getD i 0 / 256 % 256)).set (4 * i + 2) ((sums zs xs).getD i 0 / 65536 % 256)).set (4 * i + 3) ((sums zs xs).getD i 0 / 16777216 % 256))
            rw [hsum.out, ← hv0.out, ← hv1.out, ← hv2.out, ← hv3.out, ← hl0.out, ← hl1.out, ← hl2.out, ← hl3.out]
            exact P.out
    · obtain ⟨K, rfl⟩ : ∃ K : Nat, gk = K + 1 := ⟨gk - 1, by omega⟩
      have i1 : (i : Int) < 10 := by omega
      have i0 : (0 : Int) ≤ (i : Int) := by omega
      have hG := hg.rounds i
      obtain ⟨ys, hys⟩ : ∃ ys, ys = rounds xs i := ⟨_, rfl⟩
      rw [← hys] at hS hG
      replace hS := Lib.hid hS
      replace hG := Lib.hid hG
      replace hys := Lib.hid hys
      go_wp2
      go_loopg [12] 4 (fun gn s12 wr => ∃ j : Nat, s12 = .int .i64 (j : Int) ∧ j + gn = 4 ∧ Stir w wr xs (cols ys j))
      case atStart => exact ⟨0, rfl, rfl, hS.out⟩
      case round =>
        obtain ⟨j, rfl, hj, hT⟩ := hrel
        by_cases h0 : gk = 0
        · obtain rfl : j = 4 := by omega
          replace hT := Lib.hid hT
          clear h0 hj
          go_wp2
          go_loopg [24] 4 (fun gn s24 wr => ∃ j : Nat, s24 = .int .i64 (j : Int) ∧ j + gn = 4 ∧ Stir w wr xs (diags (cols ys 4) j))
          case atStart => exact ⟨0, rfl, rfl, hT.out⟩
          case round =>
            clear hT
            obtain ⟨j, rfl, hj, hT⟩ := hrel
            by_cases h0 : gk = 0
            · obtain rfl : j = 4 := by omega
              replace hT := Lib.hid hT
              clear h0 hj
              go_wp2
              go_roundg K
              case measure => omega
              case rel => exact ⟨i + 1, by go_num, by omega, by show Stir w _ xs (diags (cols (rounds xs i) 4) 4); rw [← hys.out]; exact hT.out⟩
            obtain ⟨K3, rfl⟩ : ∃ K3 : Nat, gk = K3 + 1 := ⟨gk - 1, by omega⟩
            have hGj := (hG.out.cols 4).diags j
            have hj4 : j = 0 ∨ j = 1 ∨ j = 2 ∨ j = 3 := by omega
            rcases hj4 with rfl | rfl | rfl | rfl
            · have hq : ∀ w', Words w' (w.heap.size + 1 + 1) 236 (diags (cols ys 4) 0) → Calls Tryd.prog 204 #[.pointer (some ⟨w.heap.size + 1 + 1, 0, none⟩), .int .i64 0, .int .i64 5, .int .i64 10, .int .i64 15] w' fun e w2 => e = .returned (.tuple #[]) ∧ Words w2 (w.heap.size + 1 + 1) 236 (quarterL (diags (cols ys 4) 0) 0 5 10 15) ∧ Keeps [w.heap.size + 1 + 1] w' w2 := fun w' h => quarter_any (w.heap.size + 1 + 1) 236 (diags (cols ys 4) 0) 0 5 10 15 w' h hGj.1 hGj.2 (by omega) (by omega) (by omega) (by omega)
              replace hq := Lib.hid hq
              replace hT := Lib.hid hT
              clear hGj
              go_wp2_with (go_at_call 204; (with_reducible refine (hq.out _ hT.out.words).mono ?_); rintro e w1 ⟨rfl, W1, K1⟩; replace W1 := Lib.hid W1; replace K1 := Lib.hid K1)
              go_roundg K3
              case measure => omega
              case rel => exact ⟨1, by go_num, by omega, hT.out.next K1.out W1.out⟩
            · have hq : ∀ w', Words w' (w.heap.size + 1 + 1) 236 (diags (cols ys 4) 1) → Calls Tryd.prog 204 #[.pointer (some ⟨w.heap.size + 1 + 1, 0, none⟩), .int .i64 1, .int .i64 6, .int .i64 11, .int .i64 12] w' fun e w2 => e = .returned (.tuple #[]) ∧ Words w2 (w.heap.size + 1 + 1) 236 (quarterL (diags (cols ys 4) 1) 1 6 11 12) ∧ Keeps [w.heap.size + 1 + 1] w' w2 := fun w' h => quarter_any (w.heap.size + 1 + 1) 236 (diags (cols ys 4) 1) 1 6 11 12 w' h hGj.1 hGj.2 (by omega) (by omega) (by omega) (by omega)
              replace hq := Lib.hid hq
              replace hT := Lib.hid hT
              clear hGj
              go_wp2_with (go_at_call 204; (with_reducible refine (hq.out _ hT.out.words).mono ?_); rintro e w1 ⟨rfl, W1, K1⟩; replace W1 := Lib.hid W1; replace K1 := Lib.hid K1)
              go_roundg K3
              case measure => omega
              case rel => exact ⟨2, by go_num, by omega, hT.out.next K1.out W1.out⟩
            · have hq : ∀ w', Words w' (w.heap.size + 1 + 1) 236 (diags (cols ys 4) 2) → Calls Tryd.prog 204 #[.pointer (some ⟨w.heap.size + 1 + 1, 0, none⟩), .int .i64 2, .int .i64 7, .int .i64 8, .int .i64 13] w' fun e w2 => e = .returned (.tuple #[]) ∧ Words w2 (w.heap.size + 1 + 1) 236 (quarterL (diags (cols ys 4) 2) 2 7 8 13) ∧ Keeps [w.heap.size + 1 + 1] w' w2 := fun w' h => quarter_any (w.heap.size + 1 + 1) 236 (diags (cols ys 4) 2) 2 7 8 13 w' h hGj.1 hGj.2 (by omega) (by omega) (by omega) (by omega)
              replace hq := Lib.hid hq
              replace hT := Lib.hid hT
              clear hGj
              go_wp2_with (go_at_call 204; (with_reducible refine (hq.out _ hT.out.words).mono ?_); rintro e w1 ⟨rfl, W1, K1⟩; replace W1 := Lib.hid W1; replace K1 := Lib.hid K1)
              go_roundg K3
              case measure => omega
              case rel => exact ⟨3, by go_num, by omega, hT.out.next K1.out W1.out⟩
            · have hq : ∀ w', Words w' (w.heap.size + 1 + 1) 236 (diags (cols ys 4) 3) → Calls Tryd.prog 204 #[.pointer (some ⟨w.heap.size + 1 + 1, 0, none⟩), .int .i64 3, .int .i64 4, .int .i64 9, .int .i64 14] w' fun e w2 => e = .returned (.tuple #[]) ∧ Words w2 (w.heap.size + 1 + 1) 236 (quarterL (diags (cols ys 4) 3) 3 4 9 14) ∧ Keeps [w.heap.size + 1 + 1] w' w2 := fun w' h => quarter_any (w.heap.size + 1 + 1) 236 (diags (cols ys 4) 3) 3 4 9 14 w' h hGj.1 hGj.2 (by omega) (by omega) (by omega) (by omega)
              replace hq := Lib.hid hq
              replace hT := Lib.hid hT
              clear hGj
              go_wp2_with (go_at_call 204; (with_reducible refine (hq.out _ hT.out.words).mono ?_); rintro e w1 ⟨rfl, W1, K1⟩; replace W1 := Lib.hid W1; replace K1 := Lib.hid K1)
              go_roundg K3
              case measure => omega
              case rel => exact ⟨4, by go_num, by omega, hT.out.next K1.out W1.out⟩
        · obtain ⟨K2, rfl⟩ : ∃ K2 : Nat, gk = K2 + 1 := ⟨gk - 1, by omega⟩
          have j1 : (j : Int) < 4 := by omega
          have j0 : (0 : Int) ≤ (j : Int) := by omega
          have hGj := hG.out.cols j
          have hq : ∀ w', Words w' (w.heap.size + 1 + 1) 236 (cols ys j) → Calls Tryd.prog 204 #[.pointer (some ⟨w.heap.size + 1 + 1, 0, none⟩), .int .i64 (j : Int), .int .i64 (4 + (j : Int)), .int .i64 (8 + (j : Int)), .int .i64 (12 + (j : Int))] w' fun e w2 => e = .returned (.tuple #[]) ∧ Words w2 (w.heap.size + 1 + 1) 236 (quarterL (cols ys j) j (4 + j) (8 + j) (12 + j)) ∧ Keeps [w.heap.size + 1 + 1] w' w2 := fun w' h => by
            have := quarter_any (w.heap.size + 1 + 1) 236 (cols ys j) j (4 + j) (8 + j) (12 + j) w' h hGj.1 hGj.2 (by omega) (by omega) (by omega) (by omega)
            rw [show ((4 + j : Nat) : Int) = 4 + (j : Int) by omega, show ((8 + j : Nat) : Int) = 8 + (j : Int) by omega, show ((12 + j : Nat) : Int) = 12 + (j : Int) by omega] at this
            exact this
          replace hq := Lib.hid hq
          replace hT := Lib.hid hT
          clear hGj
          go_wp2_with (go_at_call 204; (with_reducible refine (hq.out _ hT.out.words).mono ?_); rintro e w1 ⟨rfl, W1, K1⟩; replace W1 := Lib.hid W1; replace K1 := Lib.hid K1)
          go_roundg K2
          case measure => omega
          case rel => exact ⟨j + 1, by go_num, by omega, hT.out.next K1.out W1.out⟩
end Go.Proofs.YtdhboldmffiklabDoor.chacha
