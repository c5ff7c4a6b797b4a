/- The document's own ChaCha20 (package lodestoneref03): four words mixed. No condition. -/
import Derived.Test.YtdhboldmffiklabDoorChaRef
namespace Go.Proofs.YtdhboldmffiklabDoor.chacha
open Go.RowKit
attribute [local go_sem ↓] Go.wp_at_zero Go.wp_at_succ
set_option linter.unusedVariables false
set_option maxRecDepth 100000

/-- by how much the words are turned -/
def ByAt (w : World) (g : Nat) : Prop := w.heap[g]? = some (.cells #[.int .u64 16, .int .u64 12, .int .u64 8, .int .u64 7] 56 (0, 0))
theorem ByAt.cell {w : World} {g : Nat} (h : ByAt w g) {k : Nat} (hk : k < 4) : w.cell? ⟨g, k, none⟩ = some (.int .u64 ((byN k : Nat) : Int)) := by
  rw [cell_of_row _ _ k _ _ _ h]
  have : k = 0 ∨ k = 1 ∨ k = 2 ∨ k = 3 := by omega
  rcases this with rfl | rfl | rfl | rfl <;> rfl
/-- what stands while four words are mixed -/
def Mix (w wr : World) (xs : List Nat) : Prop :=
  Words wr w.heap.size 236 xs ∧ (∃ z, wr.heap[w.heap.size + 1]? = some (.cells z 236 (0, 0)) ∧ z.size = 16) ∧ ByAt wr (w.heap.size + 1 + 1) ∧ Below w.heap.size w wr
theorem Mix.put {w wr w1 : World} {xs ys : List Nat} (h : Mix w wr xs) (k : Keeps [w.heap.size] wr w1) (hw : Words w1 w.heap.size 236 ys) : Mix w w1 ys :=
  ⟨hw, h.2.1.imp fun z hz => ⟨(k.block _ (block_lt hz.1) (by simp)).trans hz.1, hz.2⟩, (k.block _ (block_lt h.2.2.1) (by simp; omega)).trans h.2.2.1, h.2.2.2.trans (k.below h.2.2.2.size (by simp))⟩
set_option maxRecDepth 100000 in
set_option maxHeartbeats 8000000 in
theorem rquarter_any (xs : List Nat) (a b c d : Nat) (hg : Good xs) (ha : a < 16) (hb : b < 16) (hc : c < 16) (hd : d < 16) (w : World) :
    Calls Tryd.prog 187 #[.agg (xs.map word).toArray, .int .i64 (a : Int), .int .i64 (b : Int), .int .i64 (c : Int), .int .i64 (d : Int)] w fun e w' => e = .returned (.agg ((quarterL xs a b c d).map word).toArray) ∧ Below w.heap.size w w' := by
  have a0 : (0 : Int) ≤ a := by omega
  have a1 : (a : Int) < 16 := by omega
  have b0 : (0 : Int) ≤ b := by omega
  have b1 : (b : Int) < 16 := by omega
  have c0 : (0 : Int) ≤ c := by omega
  have c1 : (c : Int) < 16 := by omega
  have d0 : (0 : Int) ≤ d := by omega
  have d1 : (d : Int) < 16 := by omega
  obtain ⟨cs, hcs⟩ : ∃ cs, cs = (xs.map word).toArray := ⟨_, rfl⟩
  rw [← hcs]
  replace hcs := Lib.hid hcs
  replace hg := Lib.hid hg
  go_enter Tryd.func187, Tryd.ntmps187
  go_wp2
  go_loopg [12] 4 (fun gn s12 wr => ∃ i : Nat, s12 = .int .i64 (i : Int) ∧ i + gn = 4 ∧ Mix w wr (qsteps xs a b c d i))
  case atStart =>
    refine ⟨0, rfl, rfl, ?_, ⟨_, boxed1 _ _ _ _ _, rfl⟩, ?_, by go_grown⟩
    · unfold Words
      show _ = some (Obj.cells (xs.map word).toArray 236 (0, 0))
      rw [← hcs.out]
      exact boxed0 _ _ _ _ _
    · exact boxed3 _ _ _ _ _
  case round =>
    obtain ⟨i, rfl, hi, hM⟩ := hrel
    have hgi := qsteps_good hg.out a b c d i (by omega)
    by_cases h0 : gk = 0
    · obtain rfl : i = 4 := by omega
      obtain ⟨ys, hys⟩ : ∃ ys, ys = qsteps xs a b c d 4 := ⟨_, rfl⟩
      have hq : ys = quarterL xs a b c d := by rw [hys, qsteps_four]
      rw [← hys] at hM hgi
      clear hys h0 hi
      replace hM := Lib.hid hM
      replace hgi := Lib.hid hgi
      replace hq := Lib.hid hq
      go_wp2_with (first
        | (refine wpList_load_words rfl (.tmp 5) rfl w.heap.size ys rfl hM.out.1 hgi.out.1 ?_)
        | (refine wpList_store_words rfl (.tmp 10) (.tmp 65) rfl (w.heap.size + 1) ys rfl rfl hgi.out.1 hM.out.2.1 ?_; intro w5 W5 K5; replace W5 := Lib.hid W5; replace K5 := Lib.hid K5))
      have hs : ((ys.map word).toArray).size = 16 := by simp [hgi.out.1]
      exact bodyPost_ret (v := .agg (ys.map word).toArray) (results_cell_row rfl _ _ (w.heap.size + 1) 236 (ys.map word).toArray (0, 0) _ rfl W5.out Tryd.underlying236 rfl (by rw [hs]; exact state16)) rfl ⟨by rw [hq.out], hM.out.2.2.2.trans (K5.out.below hM.out.2.2.2.size (by simp))⟩
    · obtain ⟨K, rfl⟩ : ∃ K : Nat, gk = K + 1 := ⟨gk - 1, by omega⟩
      have i4 : (i : Int) < 4 := by omega
      have i0 : (0 : Int) ≤ (i : Int) := by omega
      have hby := byN_is i (by omega)
      have hbc := hM.2.2.1.cell (k := i) (by omega)
      have hbl := block_lt hM.2.2.1
      obtain ⟨s, hs⟩ : ∃ s, s = byN i := ⟨_, rfl⟩
      rw [← hs] at hby hbc
      obtain ⟨ys, hys⟩ : ∃ ys, ys = qsteps xs a b c d i := ⟨_, rfl⟩
      rw [← hys] at hM hgi
      have hW := hM.1
      have hi2 := Lib.hid hi
      replace hM := Lib.hid hM
      replace hgi := Lib.hid hgi
      replace hys := Lib.hid hys
      replace hs := Lib.hid hs
      replace hby := Lib.hid hby
      clear hi h0
      by_cases hev : i % 2 = 0
      · have hev1 : (i : Int).tmod 2 = 0 := by rw [IntWalk.rem_in _ _ (by omega)]; omega
        have hev2 : (i : Int) % 2 = 0 := by omega
        replace hev := Lib.hid hev
        go_upto_region 6 with fail
        go_cut [] from 14 to 64 (fun wx => Words wx w.heap.size 236 (addTo ys a b) ∧ Keeps [w.heap.size] wr wx)
        case first =>
          have ca := hW.cell (i := a) (by rw [hgi.out.1]; omega)
          have cb := hW.cell (i := b) (by rw [hgi.out.1]; omega)
          have fa := hW.free a
          have hp := hW.put a (add32 (ys.getD a 0) (ys.getD b 0))
          have hk := (Keeps.refl [w.heap.size] wr).setCell (p := ⟨w.heap.size, a, none⟩) (Or.inl (by simp)) (.int .u32 ((add32 (ys.getD a 0) (ys.getD b 0) : Nat) : Int))
          obtain ⟨y1, e1⟩ : ∃ y, ys.getD a 0 = y := ⟨_, rfl⟩
          obtain ⟨y2, e2⟩ : ∃ y, ys.getD b 0 = y := ⟨_, rfl⟩
          rw [e1] at ca; rw [e2] at cb; rw [e1, e2] at hp hk
          obtain ⟨z, hz⟩ : ∃ z, add32 y1 y2 = z := ⟨_, rfl⟩
          have ez : ((y1 : Int) + y2) % 4294967296 = (z : Int) := by rw [← hz]; simp [add32]
          have hcur : Words (wr.setCell ⟨w.heap.size, a, none⟩ (.int .u32 ((add32 y1 y2 : Nat) : Int))) w.heap.size 236 (addTo ys a b) := by unfold addTo; rw [e1, e2]; exact hp
          rw [hz] at hcur hk
          replace hcur := Lib.hid hcur; replace hk := Lib.hid hk; clear hp e1 e2 hz
          replace hW := Lib.hid hW
          go_region
          all_goals go_wp2_with fail
          all_goals try go_meet
          all_goals exact ⟨hcur.out.drew, hk.out.drew⟩
        case rest =>
        obtain ⟨hW1, hK1⟩ := hcut
        clear hW hbc
        obtain ⟨zs, hzs⟩ : ∃ zs, zs = addTo ys a b := ⟨_, rfl⟩
        have hgz : Good zs := by rw [hzs]; exact ⟨by simp [addTo_len, hgi.out.1], hgi.out.2.addTo _ _⟩
        rw [← hzs] at hW1
        have hM1 : Mix w wc zs := hM.out.put hK1 hW1
        have ca := hW1.cell (i := d) (by rw [hgz.1]; omega)
        have cb := hW1.cell (i := a) (by rw [hgz.1]; omega)
        have fa := hW1.free d
        have hbc := hM1.2.2.1.cell (k := i) (by omega)
        rw [← hs.out] at hbc
        obtain ⟨y1, e1⟩ : ∃ y, zs.getD d 0 = y := ⟨_, rfl⟩
        obtain ⟨y2, e2⟩ : ∃ y, zs.getD a 0 = y := ⟨_, rfl⟩
        have l1 : y1 < 4294967296 := e1 ▸ hgz.2 d
        have l2 : y2 < 4294967296 := e2 ▸ hgz.2 a
        rw [e1] at ca; rw [e2] at cb
        obtain ⟨z, hz⟩ : ∃ z : Nat, z = y1 ^^^ y2 := ⟨_, rfl⟩
        have ez : bits .xor .u32 (y1 : Int) (y2 : Int) = (z : Int) := by rw [u32_xor_nat _ _ l1 l2, hz]
        obtain ⟨q1, hq1⟩ : ∃ q : Nat, q = rotl z s := ⟨_, rfl⟩
        have hr : ∀ w', Calls Tryd.prog 210 #[.int .u32 (z : Int), .int .u64 (s : Int)] w' fun e w2 => e = .returned (.int .u32 (q1 : Int)) ∧ w2 = w' := fun w' => by
          have := rleft_any z s (by rw [hz]; exact Nat.xor_lt_two_pow (n := 32) l1 l2) hby.out w'
          rw [← hq1] at this; exact this
        have hP : Words (wc.setCell ⟨w.heap.size, d, none⟩ (.int .u32 (q1 : Int))) w.heap.size 236 (xorRot zs d a s) := by
          have := hW1.put d q1
          unfold xorRot; rw [e1, e2, ← hz, ← hq1]; exact this
        have hk := (Keeps.refl [w.heap.size] wc).setCell (p := ⟨w.heap.size, d, none⟩) (Or.inl (by simp)) (.int .u32 (q1 : Int))
        have hM2 := hM1.put hk hP
        clear l1 l2 e1 e2 hz hq1 hk hP hM1 hK1 hW1
        replace hr := Lib.hid hr; replace hM2 := Lib.hid hM2; replace hgz := Lib.hid hgz; replace hzs := Lib.hid hzs
        go_upto_region 7 with fail
        go_region_with (go_at_call 210; (with_reducible refine (hr.out _).mono ?_); rintro e w1 ⟨rfl, rfl⟩)
        all_goals go_wp2_with fail
        all_goals
          go_roundg K
          case measure => omega
          case rel =>
            refine ⟨i + 1, by go_num, by have := hi2.out; omega, ?_⟩
            have e : qsteps xs a b c d (i + 1) = xorRot zs d a s := by
              show (if i % 2 = 0 then _ else _) = _
              rw [if_pos hev.out, ← hys.out, ← hzs.out, ← hs.out]
            rw [e]
            exact ⟨hM2.out.1.drew, hM2.out.2.1, hM2.out.2.2.1, hM2.out.2.2.2.drew⟩
      · have hev1 : (i : Int).tmod 2 = 1 := by rw [IntWalk.rem_in _ _ (by omega)]; omega
        have hev2 : (i : Int) % 2 = 1 := by omega
        replace hev := Lib.hid hev
        go_upto_region 8 with fail
        go_cut [] from 14 to 64 (fun wx => Words wx w.heap.size 236 (addTo ys c d) ∧ Keeps [w.heap.size] wr wx)
        case first =>
          have ca := hW.cell (i := c) (by rw [hgi.out.1]; omega)
          have cb := hW.cell (i := d) (by rw [hgi.out.1]; omega)
          have fa := hW.free c
          have hp := hW.put c (add32 (ys.getD c 0) (ys.getD d 0))
          have hk := (Keeps.refl [w.heap.size] wr).setCell (p := ⟨w.heap.size, c, none⟩) (Or.inl (by simp)) (.int .u32 ((add32 (ys.getD c 0) (ys.getD d 0) : Nat) : Int))
          obtain ⟨y1, e1⟩ : ∃ y, ys.getD c 0 = y := ⟨_, rfl⟩
          obtain ⟨y2, e2⟩ : ∃ y, ys.getD d 0 = y := ⟨_, rfl⟩
          rw [e1] at ca; rw [e2] at cb; rw [e1, e2] at hp hk
          obtain ⟨z, hz⟩ : ∃ z, add32 y1 y2 = z := ⟨_, rfl⟩
          have ez : ((y1 : Int) + y2) % 4294967296 = (z : Int) := by rw [← hz]; simp [add32]
          have hcur : Words (wr.setCell ⟨w.heap.size, c, none⟩ (.int .u32 ((add32 y1 y2 : Nat) : Int))) w.heap.size 236 (addTo ys c d) := by unfold addTo; rw [e1, e2]; exact hp
          rw [hz] at hcur hk
          replace hcur := Lib.hid hcur; replace hk := Lib.hid hk; clear hp e1 e2 hz
          replace hW := Lib.hid hW
          go_region
          all_goals go_wp2_with fail
          all_goals try go_meet
          all_goals exact ⟨hcur.out.drew, hk.out.drew⟩
        case rest =>
        obtain ⟨hW1, hK1⟩ := hcut
        clear hW hbc
        obtain ⟨zs, hzs⟩ : ∃ zs, zs = addTo ys c d := ⟨_, rfl⟩
        have hgz : Good zs := by rw [hzs]; exact ⟨by simp [addTo_len, hgi.out.1], hgi.out.2.addTo _ _⟩
        rw [← hzs] at hW1
        have hM1 : Mix w wc zs := hM.out.put hK1 hW1
        have ca := hW1.cell (i := b) (by rw [hgz.1]; omega)
        have cb := hW1.cell (i := c) (by rw [hgz.1]; omega)
        have fa := hW1.free b
        have hbc := hM1.2.2.1.cell (k := i) (by omega)
        rw [← hs.out] at hbc
        obtain ⟨y1, e1⟩ : ∃ y, zs.getD b 0 = y := ⟨_, rfl⟩
        obtain ⟨y2, e2⟩ : ∃ y, zs.getD c 0 = y := ⟨_, rfl⟩
        have l1 : y1 < 4294967296 := e1 ▸ hgz.2 b
        have l2 : y2 < 4294967296 := e2 ▸ hgz.2 c
        rw [e1] at ca; rw [e2] at cb
        obtain ⟨z, hz⟩ : ∃ z : Nat, z = y1 ^^^ y2 := ⟨_, rfl⟩
        have ez : bits .xor .u32 (y1 : Int) (y2 : Int) = (z : Int) := by rw [u32_xor_nat _ _ l1 l2, hz]
        obtain ⟨q1, hq1⟩ : ∃ q : Nat, q = rotl z s := ⟨_, rfl⟩
        have hr : ∀ w', Calls Tryd.prog 210 #[.int .u32 (z : Int), .int .u64 (s : Int)] w' fun e w2 => e = .returned (.int .u32 (q1 : Int)) ∧ w2 = w' := fun w' => by
          have := rleft_any z s (by rw [hz]; exact Nat.xor_lt_two_pow (n := 32) l1 l2) hby.out w'
          rw [← hq1] at this; exact this
        have hP : Words (wc.setCell ⟨w.heap.size, b, none⟩ (.int .u32 (q1 : Int))) w.heap.size 236 (xorRot zs b c s) := by
          have := hW1.put b q1
          unfold xorRot; rw [e1, e2, ← hz, ← hq1]; exact this
        have hk := (Keeps.refl [w.heap.size] wc).setCell (p := ⟨w.heap.size, b, none⟩) (Or.inl (by simp)) (.int .u32 (q1 : Int))
        have hM2 := hM1.put hk hP
        clear l1 l2 e1 e2 hz hq1 hk hP hM1 hK1 hW1
        replace hr := Lib.hid hr; replace hM2 := Lib.hid hM2; replace hgz := Lib.hid hgz; replace hzs := Lib.hid hzs
        go_upto_region 9 with fail
        go_region_with (go_at_call 210; (with_reducible refine (hr.out _).mono ?_); rintro e w1 ⟨rfl, rfl⟩)
        all_goals go_wp2_with fail
        all_goals
          go_roundg K
          case measure => omega
          case rel =>
            refine ⟨i + 1, by go_num, by have := hi2.out; omega, ?_⟩
            have e : qsteps xs a b c d (i + 1) = xorRot zs b c s := by
              show (if i % 2 = 0 then _ else _) = _
              rw [if_neg hev.out, ← hys.out, ← hzs.out, ← hs.out]
            rw [e]
            exact ⟨hM2.out.1.drew, hM2.out.2.1, hM2.out.2.2.1, hM2.out.2.2.2.drew⟩
end Go.Proofs.YtdhboldmffiklabDoor.chacha
