/- The document's own ChaCha20 (package lodestoneref03): a word turned, four bytes as a word, four words mixed. No condition. The document's own ChaCha20 (package lodestoneref03): four words mixed. No condition. The document's own ChaCha20 (package lodestoneref03): a block. No condition. 'append(b, x)' of a byte in a region that draws its order. No condition. The document's own ChaCha20 (package lodestoneref03): bytes turned. No condition. Any block of any key and nonce is the document's; any bytes turned are the document's, and turned again what they were. No condition. -/
import Derived.Test.YtcdcipfojfnblaaGreatDoorMgCha
import Derived.Test.YtcdcipfojfnblaaGreatDoorBytes
import Derived.Deep.RegionLaw
import Derived.Laws.OwnMore
section
namespace Go.Proofs.YtcdcipfojfnblaaGreatDoor.chacha
open Go.RowKit
attribute [local go_sem ↓] Go.wp_at_zero Go.wp_at_succ
set_option linter.unusedVariables false
set_option maxRecDepth 100000

theorem rleft_any (x s : Nat) (hx : x < 4294967296) (hs : s = 16 ∨ s = 12 ∨ s = 8 ∨ s = 7) (w : World) :
    Calls Tryz.prog 133 #[.int .u32 (x : Int), .int .u64 (s : Int)] w fun e w' => e = .returned (.int .u32 ((rotl x s : Nat) : Int)) ∧ w' = w := by
  have hr := rotl_sum x s hx (by omega)
  have hl := rotl_lt x s hx (by omega)
  rcases hs with rfl | rfl | rfl | rfl
  all_goals replace hr := Lib.hid hr
  all_goals replace hl := Lib.hid hl
  all_goals go_enter Tryz.func133, Tryz.ntmps133
  all_goals go_wp2
  all_goals go_ret
  all_goals refine ⟨congrArg (fun x => Ending.returned (Value.int .u32 x)) ?_, rfl⟩
  all_goals have h1 := hr.out
  all_goals have h2 := hl.out
  all_goals (trace_state; omega)
set_option maxRecDepth 100000 in
theorem rword_any (s : ByteArray) (i : Nat) (w : World) (h : i + 4 ≤ s.size) (hi : i ≤ 1000) :
    Calls Tryz.prog 122 #[.string s, .int .i64 (i : Int)] w fun e w' => e = .returned (.int .u32 ((wordAt s i : Nat) : Int)) ∧ Below w.heap.size w w' := by
  have i0 : (0 : Int) ≤ (i : Int) := by omega
  have i1 : (i : Int) < s.size := by omega
  have i2 : (i : Int) + 1 < s.size := by omega
  have i3 : (i : Int) + 2 < s.size := by omega
  have i4 : (i : Int) + 3 < s.size := by omega
  have i5 : (i : Int) ≤ 1000 := by omega
  have v1 : IntKind.i64.wrap ((i : Int) + 1) = (i : Int) + 1 := by rw [IntKind.wrap_i64]; omega
  have v2 : IntKind.i64.wrap ((i : Int) + 2) = (i : Int) + 2 := by rw [IntKind.wrap_i64]; omega
  have v3 : IntKind.i64.wrap ((i : Int) + 3) = (i : Int) + 3 := by rw [IntKind.wrap_i64]; omega
  have z1 : (0 : Int) ≤ (i : Int) + 1 := by omega
  have z2 : (0 : Int) ≤ (i : Int) + 2 := by omega
  have z3 : (0 : Int) ≤ (i : Int) + 3 := by omega
  go_enter Tryz.func122, Tryz.ntmps122
  go_upto_region 1 with fail
  go_region
  all_goals go_wp2
  all_goals go_ret
  all_goals refine ⟨?_, by go_grown⟩
  refine congrArg (fun x => Ending.returned (Value.int .u32 x)) ?_
  unfold wordAt
  rw [byteAt_eq s i (by omega), byteAt_eq s (i + 1) (by omega), byteAt_eq s (i + 2) (by omega), byteAt_eq s (i + 3) (by omega)]
  have b0 := UInt8.toNat_lt (s[i]'(by omega))
  have b1 := UInt8.toNat_lt (s[i + 1]'(by omega))
  have b2 := UInt8.toNat_lt (s[i + 2]'(by omega))
  have b3 := UInt8.toNat_lt (s[i + 3]'(by omega))
  omega

def byN (k : Nat) : Nat := [16, 12, 8, 7].getD k 0
/-- so many steps of the four -/
def qsteps (xs : List Nat) (a b c d : Nat) : Nat → List Nat
  | 0 => xs
  | k + 1 => if k % 2 = 0 then xorRot (addTo (qsteps xs a b c d k) a b) d a (byN k) else xorRot (addTo (qsteps xs a b c d k) c d) b c (byN k)
theorem qsteps_four (xs : List Nat) (a b c d : Nat) : qsteps xs a b c d 4 = quarterL xs a b c d := by
  simp [qsteps, quarterL, byN]
theorem qsteps_good {xs : List Nat} (h : Good xs) (a b c d : Nat) : ∀ k, k ≤ 4 → Good (qsteps xs a b c d k)
  | 0, _ => h
  | k + 1, hk => by
    have ih := qsteps_good h a b c d k (by omega)
    have hb : byN k ≤ 32 := by
      have : k = 0 ∨ k = 1 ∨ k = 2 ∨ k = 3 := by omega
      rcases this with rfl | rfl | rfl | rfl <;> decide
    unfold qsteps
    split
    · exact ⟨by simp [xorRot_len, addTo_len, ih.1], (ih.2.addTo _ _).xorRot _ _ _ hb⟩
    · exact ⟨by simp [xorRot_len, addTo_len, ih.1], (ih.2.addTo _ _).xorRot _ _ _ hb⟩
theorem byN_is (k : Nat) (h : k < 4) : byN k = 16 ∨ byN k = 12 ∨ byN k = 8 ∨ byN k = 7 := by
  have : k = 0 ∨ k = 1 ∨ k = 2 ∨ k = 3 := by omega
  rcases this with rfl | rfl | rfl | rfl <;> decide
end Go.Proofs.YtcdcipfojfnblaaGreatDoor.chacha
end
section
namespace Go.Proofs.YtcdcipfojfnblaaGreatDoor.chacha
open Go.RowKit
attribute [local go_sem ↓] Go.wp_at_zero Go.wp_at_succ
set_option linter.unusedVariables false
set_option maxRecDepth 100000

/-- by how much the words are turned -/
def ByAt (w : World) (g : Nat) : Prop := w.heap[g]? = some (.cells #[.int .u64 16, .int .u64 12, .int .u64 8, .int .u64 7] 53 (0, 0))
theorem ByAt.cell {w : World} {g : Nat} (h : ByAt w g) {k : Nat} (hk : k < 4) : w.cell? ⟨g, k, none⟩ = some (.int .u64 ((byN k : Nat) : Int)) := by
  rw [cell_of_row _ _ k _ _ _ h]
  have : k = 0 ∨ k = 1 ∨ k = 2 ∨ k = 3 := by omega
  rcases this with rfl | rfl | rfl | rfl <;> rfl
/-- what stands while four words are mixed -/
def Mix (w wr : World) (xs : List Nat) : Prop :=
  Words wr w.heap.size 184 xs ∧ (∃ z, wr.heap[w.heap.size + 1]? = some (.cells z 184 (0, 0)) ∧ z.size = 16) ∧ ByAt wr (w.heap.size + 1 + 1) ∧ Below w.heap.size w wr
theorem Mix.put {w wr w1 : World} {xs ys : List Nat} (h : Mix w wr xs) (k : Keeps [w.heap.size] wr w1) (hw : Words w1 w.heap.size 184 ys) : Mix w w1 ys :=
  ⟨hw, h.2.1.imp fun z hz => ⟨(k.block _ (block_lt hz.1) (by simp)).trans hz.1, hz.2⟩, (k.block _ (block_lt h.2.2.1) (by simp; omega)).trans h.2.2.1, h.2.2.2.trans (k.below h.2.2.2.size (by simp))⟩
set_option maxRecDepth 100000 in
set_option maxHeartbeats 8000000 in
theorem rquarter_any (xs : List Nat) (a b c d : Nat) (hg : Good xs) (ha : a < 16) (hb : b < 16) (hc : c < 16) (hd : d < 16) (w : World) :
    Calls Tryz.prog 123 #[.agg (xs.map word).toArray, .int .i64 (a : Int), .int .i64 (b : Int), .int .i64 (c : Int), .int .i64 (d : Int)] w fun e w' => e = .returned (.agg ((quarterL xs a b c d).map word).toArray) ∧ Below w.heap.size w w' := by
  have a0 : (0 : Int) ≤ a := by omega
  have a1 : (a : Int) < 16 := by omega
  have b0 : (0 : Int) ≤ b := by omega
  have b1 : (b : Int) < 16 := by omega
  have c0 : (0 : Int) ≤ c := by omega
  have c1 : (c : Int) < 16 := by omega
  have d0 : (0 : Int) ≤ d := by omega
  have d1 : (d : Int) < 16 := by omega
  obtain ⟨cs, hcs⟩ : ∃ cs, cs = (xs.map word).toArray := ⟨_, rfl⟩
  rw [← hcs]
  replace hcs := Lib.hid hcs
  replace hg := Lib.hid hg
  go_enter Tryz.func123, Tryz.ntmps123
  go_wp2
  go_loopg [12] 4 (fun gn s12 wr => ∃ i : Nat, s12 = .int .i64 (i : Int) ∧ i + gn = 4 ∧ Mix w wr (qsteps xs a b c d i))
  case atStart =>
    refine ⟨0, rfl, rfl, ?_, ⟨_, boxed1 _ _ _ _ _, rfl⟩, ?_, by go_grown⟩
    · unfold Words
      show _ = some (Obj.cells (xs.map word).toArray 184 (0, 0))
      rw [← hcs.out]
      exact boxed0 _ _ _ _ _
    · exact boxed3 _ _ _ _ _
  case round =>
    obtain ⟨i, rfl, hi, hM⟩ := hrel
    have hgi := qsteps_good hg.out a b c d i (by omega)
    by_cases h0 : gk = 0
    · obtain rfl : i = 4 := by omega
      obtain ⟨ys, hys⟩ : ∃ ys, ys = qsteps xs a b c d 4 := ⟨_, rfl⟩
      have hq : ys = quarterL xs a b c d := by rw [hys, qsteps_four]
      rw [← hys] at hM hgi
      clear hys h0 hi
      replace hM := Lib.hid hM
      replace hgi := Lib.hid hgi
      replace hq := Lib.hid hq
      go_wp2_with (first
        | (refine wpList_load_words rfl (.tmp 5) rfl w.heap.size ys rfl hM.out.1 hgi.out.1 ?_)
        | (refine wpList_store_words rfl (.tmp 10) (.tmp 65) rfl (w.heap.size + 1) ys rfl rfl hgi.out.1 hM.out.2.1 ?_; intro w5 W5 K5; replace W5 := Lib.hid W5; replace K5 := Lib.hid K5))
      have hs : ((ys.map word).toArray).size = 16 := by simp [hgi.out.1]
      exact bodyPost_ret (v := .agg (ys.map word).toArray) (results_cell_row rfl _ _ (w.heap.size + 1) 184 (ys.map word).toArray (0, 0) _ rfl W5.out Tryz.underlying184 rfl (by rw [hs]; exact state16)) rfl ⟨by rw [hq.out], hM.out.2.2.2.trans (K5.out.below hM.out.2.2.2.size (by simp))⟩
    · obtain ⟨K, rfl⟩ : ∃ K : Nat, gk = K + 1 := ⟨gk - 1, by omega⟩
      have i4 : (i : Int) < 4 := by omega
      have i0 : (0 : Int) ≤ (i : Int) := by omega
      have hby := byN_is i (by omega)
      have hbc := hM.2.2.1.cell (k := i) (by omega)
      have hbl := block_lt hM.2.2.1
      obtain ⟨s, hs⟩ : ∃ s, s = byN i := ⟨_, rfl⟩
      rw [← hs] at hby hbc
      obtain ⟨ys, hys⟩ : ∃ ys, ys = qsteps xs a b c d i := ⟨_, rfl⟩
      rw [← hys] at hM hgi
      have hW := hM.1
      have hi2 := Lib.hid hi
      replace hM := Lib.hid hM
      replace hgi := Lib.hid hgi
      replace hys := Lib.hid hys
      replace hs := Lib.hid hs
      replace hby := Lib.hid hby
      clear hi h0
      by_cases hev : i % 2 = 0
      · have hev1 : (i : Int).tmod 2 = 0 := by rw [IntWalk.rem_in _ _ (by omega)]; omega
        have hev2 : (i : Int) % 2 = 0 := by omega
        replace hev := Lib.hid hev
        go_upto_region 6 with fail
        go_cut [] from 14 to 64 (fun wx => Words wx w.heap.size 184 (addTo ys a b) ∧ Keeps [w.heap.size] wr wx)
        case first =>
          have ca := hW.cell (i := a) (by rw [hgi.out.1]; omega)
          have cb := hW.cell (i := b) (by rw [hgi.out.1]; omega)
          have fa := hW.free a
          have hp := hW.put a (add32 (ys.getD a 0) (ys.getD b 0))
          have hk := (Keeps.refl [w.heap.size] wr).setCell (p := ⟨w.heap.size, a, none⟩) (Or.inl (by simp)) (.int .u32 ((add32 (ys.getD a 0) (ys.getD b 0) : Nat) : Int))
          obtain ⟨y1, e1⟩ : ∃ y, ys.getD a 0 = y := ⟨_, rfl⟩
          obtain ⟨y2, e2⟩ : ∃ y, ys.getD b 0 = y := ⟨_, rfl⟩
          rw [e1] at ca; rw [e2] at cb; rw [e1, e2] at hp hk
          obtain ⟨z, hz⟩ : ∃ z, add32 y1 y2 = z := ⟨_, rfl⟩
          have ez : ((y1 : Int) + y2) % 4294967296 = (z : Int) := by rw [← hz]; simp [add32]
          have hcur : Words (wr.setCell ⟨w.heap.size, a, none⟩ (.int .u32 ((add32 y1 y2 : Nat) : Int))) w.heap.size 184 (addTo ys a b) := by unfold addTo; rw [e1, e2]; exact hp
          rw [hz] at hcur hk
          replace hcur := Lib.hid hcur; replace hk := Lib.hid hk; clear hp e1 e2 hz
          replace hW := Lib.hid hW
          go_region
          all_goals go_wp2_with fail
          all_goals try go_meet
          all_goals exact ⟨hcur.out.drew, hk.out.drew⟩
        case rest =>
        obtain ⟨hW1, hK1⟩ := hcut
        clear hW hbc
        obtain ⟨zs, hzs⟩ : ∃ zs, zs = addTo ys a b := ⟨_, rfl⟩
        have hgz : Good zs := by rw [hzs]; exact ⟨by simp [addTo_len, hgi.out.1], hgi.out.2.addTo _ _⟩
        rw [← hzs] at hW1
        have hM1 : Mix w wc zs := hM.out.put hK1 hW1
        have ca := hW1.cell (i := d) (by rw [hgz.1]; omega)
        have cb := hW1.cell (i := a) (by rw [hgz.1]; omega)
        have fa := hW1.free d
        have hbc := hM1.2.2.1.cell (k := i) (by omega)
        rw [← hs.out] at hbc
        obtain ⟨y1, e1⟩ : ∃ y, zs.getD d 0 = y := ⟨_, rfl⟩
        obtain ⟨y2, e2⟩ : ∃ y, zs.getD a 0 = y := ⟨_, rfl⟩
        have l1 : y1 < 4294967296 := e1 ▸ hgz.2 d
        have l2 : y2 < 4294967296 := e2 ▸ hgz.2 a
        rw [e1] at ca; rw [e2] at cb
        obtain ⟨z, hz⟩ : ∃ z : Nat, z = y1 ^^^ y2 := ⟨_, rfl⟩
        have ez : bits .xor .u32 (y1 : Int) (y2 : Int) = (z : Int) := by rw [u32_xor_nat _ _ l1 l2, hz]
        obtain ⟨q1, hq1⟩ : ∃ q : Nat, q = rotl z s := ⟨_, rfl⟩
        have hr : ∀ w', Calls Tryz.prog 133 #[.int .u32 (z : Int), .int .u64 (s : Int)] w' fun e w2 => e = .returned (.int .u32 (q1 : Int)) ∧ w2 = w' := fun w' => by
          have := rleft_any z s (by rw [hz]; exact Nat.xor_lt_two_pow (n := 32) l1 l2) hby.out w'
          rw [← hq1] at this; exact this
        have hP : Words (wc.setCell ⟨w.heap.size, d, none⟩ (.int .u32 (q1 : Int))) w.heap.size 184 (xorRot zs d a s) := by
          have := hW1.put d q1
          unfold xorRot; rw [e1, e2, ← hz, ← hq1]; exact this
        have hk := (Keeps.refl [w.heap.size] wc).setCell (p := ⟨w.heap.size, d, none⟩) (Or.inl (by simp)) (.int .u32 (q1 : Int))
        have hM2 := hM1.put hk hP
        clear l1 l2 e1 e2 hz hq1 hk hP hM1 hK1 hW1
        replace hr := Lib.hid hr; replace hM2 := Lib.hid hM2; replace hgz := Lib.hid hgz; replace hzs := Lib.hid hzs
        go_upto_region 7 with fail
        go_region_with (go_at_call 133; (with_reducible refine (hr.out _).mono ?_); rintro e w1 ⟨rfl, rfl⟩)
        all_goals go_wp2_with fail
        all_goals
          go_roundg K
          case measure => omega
          case rel =>
            refine ⟨i + 1, by go_num, by have := hi2.out; omega, ?_⟩
            have e : qsteps xs a b c d (i + 1) = xorRot zs d a s := by
              show (if i % 2 = 0 then _ else _) = _
              rw [if_pos hev.out, ← hys.out, ← hzs.out, ← hs.out]
            rw [e]
            exact ⟨hM2.out.1.drew, hM2.out.2.1, hM2.out.2.2.1, hM2.out.2.2.2.drew⟩
      · have hev1 : (i : Int).tmod 2 = 1 := by rw [IntWalk.rem_in _ _ (by omega)]; omega
        have hev2 : (i : Int) % 2 = 1 := by omega
        replace hev := Lib.hid hev
        go_upto_region 8 with fail
        go_cut [] from 14 to 64 (fun wx => Words wx w.heap.size 184 (addTo ys c d) ∧ Keeps [w.heap.size] wr wx)
        case first =>
          have ca := hW.cell (i := c) (by rw [hgi.out.1]; omega)
          have cb := hW.cell (i := d) (by rw [hgi.out.1]; omega)
          have fa := hW.free c
          have hp := hW.put c (add32 (ys.getD c 0) (ys.getD d 0))
          have hk := (Keeps.refl [w.heap.size] wr).setCell (p := ⟨w.heap.size, c, none⟩) (Or.inl (by simp)) (.int .u32 ((add32 (ys.getD c 0) (ys.getD d 0) : Nat) : Int))
          obtain ⟨y1, e1⟩ : ∃ y, ys.getD c 0 = y := ⟨_, rfl⟩
          obtain ⟨y2, e2⟩ : ∃ y, ys.getD d 0 = y := ⟨_, rfl⟩
          rw [e1] at ca; rw [e2] at cb; rw [e1, e2] at hp hk
          obtain ⟨z, hz⟩ : ∃ z, add32 y1 y2 = z := ⟨_, rfl⟩
          have ez : ((y1 : Int) + y2) % 4294967296 = (z : Int) := by rw [← hz]; simp [add32]
          have hcur : Words (wr.setCell ⟨w.heap.size, c, none⟩ (.int .u32 ((add32 y1 y2 : Nat) : Int))) w.heap.size 184 (addTo ys c d) := by unfold addTo; rw [e1, e2]; exact hp
          rw [hz] at hcur hk
          replace hcur := Lib.hid hcur; replace hk := Lib.hid hk; clear hp e1 e2 hz
          replace hW := Lib.hid hW
          go_region
          all_goals go_wp2_with fail
          all_goals try go_meet
          all_goals exact ⟨hcur.out.drew, hk.out.drew⟩
        case rest =>
        obtain ⟨hW1, hK1⟩ := hcut
        clear hW hbc
        obtain ⟨zs, hzs⟩ : ∃ zs, zs = addTo ys c d := ⟨_, rfl⟩
        have hgz : Good zs := by rw [hzs]; exact ⟨by simp [addTo_len, hgi.out.1], hgi.out.2.addTo _ _⟩
        rw [← hzs] at hW1
        have hM1 : Mix w wc zs := hM.out.put hK1 hW1
        have ca := hW1.cell (i := b) (by rw [hgz.1]; omega)
        have cb := hW1.cell (i := c) (by rw [hgz.1]; omega)
        have fa := hW1.free b
        have hbc := hM1.2.2.1.cell (k := i) (by omega)
        rw [← hs.out] at hbc
        obtain ⟨y1, e1⟩ : ∃ y, zs.getD b 0 = y := ⟨_, rfl⟩
        obtain ⟨y2, e2⟩ : ∃ y, zs.getD c 0 = y := ⟨_, rfl⟩
        have l1 : y1 < 4294967296 := e1 ▸ hgz.2 b
        have l2 : y2 < 4294967296 := e2 ▸ hgz.2 c
        rw [e1] at ca; rw [e2] at cb
        obtain ⟨z, hz⟩ : ∃ z : Nat, z = y1 ^^^ y2 := ⟨_, rfl⟩
        have ez : bits .xor .u32 (y1 : Int) (y2 : Int) = (z : Int) := by rw [u32_xor_nat _ _ l1 l2, hz]
        obtain ⟨q1, hq1⟩ : ∃ q : Nat, q = rotl z s := ⟨_, rfl⟩
        have hr : ∀ w', Calls Tryz.prog 133 #[.int .u32 (z : Int), .int .u64 (s : Int)] w' fun e w2 => e = .returned (.int .u32 (q1 : Int)) ∧ w2 = w' := fun w' => by
          have := rleft_any z s (by rw [hz]; exact Nat.xor_lt_two_pow (n := 32) l1 l2) hby.out w'
          rw [← hq1] at this; exact this
        have hP : Words (wc.setCell ⟨w.heap.size, b, none⟩ (.int .u32 (q1 : Int))) w.heap.size 184 (xorRot zs b c s) := by
          have := hW1.put b q1
          unfold xorRot; rw [e1, e2, ← hz, ← hq1]; exact this
        have hk := (Keeps.refl [w.heap.size] wc).setCell (p := ⟨w.heap.size, b, none⟩) (Or.inl (by simp)) (.int .u32 (q1 : Int))
        have hM2 := hM1.put hk hP
        clear l1 l2 e1 e2 hz hq1 hk hP hM1 hK1 hW1
        replace hr := Lib.hid hr; replace hM2 := Lib.hid hM2; replace hgz := Lib.hid hgz; replace hzs := Lib.hid hzs
        go_upto_region 9 with fail
        go_region_with (go_at_call 133; (with_reducible refine (hr.out _).mono ?_); rintro e w1 ⟨rfl, rfl⟩)
        all_goals go_wp2_with fail
        all_goals
          go_roundg K
          case measure => omega
          case rel =>
            refine ⟨i + 1, by go_num, by have := hi2.out; omega, ?_⟩
            have e : qsteps xs a b c d (i + 1) = xorRot zs b c s := by
              show (if i % 2 = 0 then _ else _) = _
              rw [if_neg hev.out, ← hys.out, ← hzs.out, ← hs.out]
            rw [e]
            exact ⟨hM2.out.1.drew, hM2.out.2.1, hM2.out.2.2.1, hM2.out.2.2.2.drew⟩
end Go.Proofs.YtcdcipfojfnblaaGreatDoor.chacha
end
section
namespace Go.Proofs.YtcdcipfojfnblaaGreatDoor.chacha
open Go.RowKit
attribute [local go_sem ↓] Go.wp_at_zero Go.wp_at_succ
attribute [local go_sem] str_size str_append
set_option linter.unusedVariables false
set_option maxRecDepth 100000

/-- 'string([]byte{a, b, c, d})' -/
theorem conv_four (W : World) (q : Nat) (n0 n1 n2 n3 : Int) (h : W.heap[q]? = some (.cells #[.int .u8 n0, .int .u8 n1, .int .u8 n2, .int .u8 n3] 5 (0, 0))) : (convert 70 9 (.slice (some ⟨q, 0, none⟩) 4 4)).run Tryz.prog W = .ok (.string (str [UInt8.ofNat n0.toNat, UInt8.ofNat n1.toNat, UInt8.ofNat n2.toNat, UInt8.ofNat n3.toNat])) W := by
  rw [run_convert_bytes_arg (P := Tryz.prog) W 70 5 Tryz.underlying70 Tryz.underlying5 q 0 4 4 [n0, n1, n2, n3] rfl (fun i hi => by
    rw [cell_of_row _ _ _ _ _ _ h]
    have : i = 0 ∨ i = 1 ∨ i = 2 ∨ i = 3 := by omega
    rcases this with rfl | rfl | rfl | rfl <;> rfl) 9 Tryz.underlying9]
  rfl
/-- the bytes of so many words, one behind the other -/
def outP (ns : List Nat) : Nat → List UInt8
  | 0 => []
  | k + 1 => outP ns k ++ [UInt8.ofNat (ns.getD k 0 % 256), UInt8.ofNat (ns.getD k 0 / 256 % 256), UInt8.ofNat (ns.getD k 0 / 65536 % 256), UInt8.ofNat (ns.getD k 0 / 16777216 % 256)]
theorem outP_len (ns : List Nat) (k : Nat) : (outP ns k).length = 4 * k := by
  induction k with
  | zero => rfl
  | succ k ih => simp [outP, ih]; omega
theorem set4 (A B : List Nat) (n : Nat) (hA : A.length = n) (x y z u a b c d : Nat) : ((((A ++ x :: y :: z :: u :: B).set n a).set (n + 1) b).set (n + 2) c).set (n + 3) d = A ++ a :: b :: c :: d :: B := by
  subst hA
  simp [List.set_append]
theorem outL_form (ns : List Nat) : ∀ k, k ≤ 16 → (∃ A : List Nat, outL ns k = A ++ List.replicate (64 - 4 * k) 0 ∧ A.length = 4 * k ∧ A.map UInt8.ofNat = outP ns k)
  | 0, _ => ⟨[], rfl, rfl, rfl⟩
  | k + 1, h => by
    obtain ⟨A, h1, h2, h3⟩ := outL_form ns k (by omega)
    refine ⟨A ++ [ns.getD k 0 % 256, ns.getD k 0 / 256 % 256, ns.getD k 0 / 65536 % 256, ns.getD k 0 / 16777216 % 256], ?_, ?_, ?_⟩
    · show ((((outL ns k).set (4 * k) _).set (4 * k + 1) _).set (4 * k + 2) _).set (4 * k + 3) _ = _
      rw [h1, show 64 - 4 * k = (64 - 4 * (k + 1)) + 1 + 1 + 1 + 1 by omega, List.replicate_succ, List.replicate_succ, List.replicate_succ, List.replicate_succ, set4 A _ (4 * k) h2]
      simp
    · simp [h2]; omega
    · rw [List.map_append, h3]; rfl
theorem outL_outP (ns : List Nat) : (outL ns 16).map UInt8.ofNat = outP ns 16 := by
  obtain ⟨A, h1, h2, h3⟩ := outL_form ns 16 (by omega)
  rw [h1]; simpa using h3

/-- what stands while a block is made: the first state and what is stirred -/
def Two (w wr : World) (X : Nat) (fs xs : List Nat) : Prop :=
  Words wr w.heap.size 184 fs ∧ Words wr X 184 xs ∧ w.heap.size < X ∧ Below w.heap.size w wr
theorem Two.below {w wr w1 : World} {X : Nat} {fs xs : List Nat} (h : Two w wr X fs xs) (k : Below wr.heap.size wr w1) : Two w w1 X fs xs :=
  ⟨h.1.below k, h.2.1.below k, h.2.2.1, belowCont h.2.2.2 k⟩
theorem Two.old {w wr : World} {X : Nat} {fs xs : List Nat} (h : Two w wr X fs xs) (hl : xs.length = 16) : ∃ z, wr.heap[X]? = some (.cells z 184 (0, 0)) ∧ z.size = 16 := ⟨_, h.2.1, by simp [hl]⟩
theorem Two.store {w wr w1 : World} {X : Nat} {fs xs ys : List Nat} (h : Two w wr X fs xs) (k : Keeps [X] wr w1) (hw : Words w1 X 184 ys) : Two w w1 X fs ys :=
  ⟨h.1.keep k (by have := h.2.2.1; simp; omega), hw, h.2.2.1, h.2.2.2.trans (k.below h.2.2.2.size (by have := h.2.2.1; simp; omega))⟩
theorem word4 (w : World) (cs : Array Value) (t : TypeId) (xs : List Nat) (h : (xs.map word).toArray = cs) : Words (w.alloc (.cells cs t)) w.heap.size t xs := by
  subst h; exact heap_alloc_new _ _

theorem round_step (ys : List Nat) : diags (cols ys 4) 4 = quarterL (quarterL (quarterL (quarterL (quarterL (quarterL (quarterL (quarterL ys 0 4 8 12) 1 5 9 13) 2 6 10 14) 3 7 11 15) 0 5 10 15) 1 6 11 12) 2 7 8 13) 3 4 9 14 := rfl
theorem rounds_succ (xs : List Nat) (k : Nat) : rounds xs (k + 1) = diags (cols (rounds xs k) 4) 4 := rfl
theorem Two.fs {w wr : World} {X : Nat} {fs xs : List Nat} (h : Two w wr X fs xs) : Words wr w.heap.size 184 fs := h.1
theorem Two.low {w wr : World} {X : Nat} {fs xs : List Nat} (h : Two w wr X fs xs) : Below w.heap.size w wr := h.2.2.2
attribute [local irreducible] quarterL Two
theorem Two.mk {w wr : World} {X : Nat} {fs xs : List Nat} (h : Words wr w.heap.size 184 fs ∧ Words wr X 184 xs ∧ w.heap.size < X ∧ Below w.heap.size w wr) : Two w wr X fs xs := by unfold Two; exact h
theorem Two.xs {w wr : World} {X : Nat} {fs xs : List Nat} (h : Two w wr X fs xs) : Words wr X 184 xs := by unfold Two at h; exact h.2.1
set_option maxRecDepth 100000 in
set_option maxHeartbeats 4000000 in
theorem rblock_any (key nonce : ByteArray) (n : Nat) (hk : key.size = 32) (hn : nonce.size = 12) (hN : n < 4294967296) (w : World) :
    Calls Tryz.prog 104 #[.string key, .string nonce, .int .u32 (n : Int)] w fun e w' => e = .returned (.string (str (blockU (stAt key nonce n)))) ∧ Below w.heap.size w w' := by
  go_enter Tryz.func104, Tryz.ntmps104
  go_wp2_with (refine wpList_store_words rfl (.tmp 7) (.tmp 15) rfl w.heap.size consts rfl rfl rfl ⟨_, heap_alloc_new _ _, rfl⟩ ?_; intro w3 W3 K3; replace K3 := Lib.hid K3; replace W3 := Lib.hid W3)
  have hB3 : Below w.heap.size w w3 := ((Below.refl _ w).alloc (Nat.le_refl _) _).trans (K3.out.below (by simp) (by simp))
  clear K3
  replace hB3 := Lib.hid hB3
  go_loopg [8] 8 (fun gn s8 wr => ∃ i : Nat, s8 = .int .i64 (i : Int) ∧ i + gn = 8 ∧ Words wr w.heap.size 184 (keyed key i) ∧ Below w.heap.size w wr)
  case atStart => exact ⟨0, rfl, rfl, W3.out, hB3.out⟩
  case round =>
    clear W3 hB3
    obtain ⟨i, rfl, hi, hW, hB⟩ := hrel
    by_cases h0 : gk = 0
    · obtain rfl : i = 8 := by omega
      have c12 := hW.cell (i := 12) (by rw [keyed_len]; decide)
      have f12 := hW.free 12
      have P := hW.put 12 n
      have B := hB.setCell (p := ⟨w.heap.size, 12, none⟩) (Nat.le_refl _) (.int .u32 (n : Int))
      replace P := Lib.hid P
      replace B := Lib.hid B
      clear hW hB hi h0
      go_wp2
      go_loopg [9] 3 (fun gn s9 wr => ∃ i : Nat, s9 = .int .i64 (i : Int) ∧ i + gn = 3 ∧ Words wr w.heap.size 184 ((nonced key nonce i).set 12 n) ∧ Below w.heap.size w wr)
      case atStart => exact ⟨0, rfl, rfl, P.out, B.out⟩
      case round =>
        clear P B c12 f12
        obtain ⟨i, rfl, hi, hW, hB⟩ := hrel
        by_cases h0 : gk = 0
        · obtain rfl : i = 3 := by omega
          have hgf := stAt_good key nonce n hN
          have hW2 : Words wr w.heap.size 184 (stAt key nonce n) := hW
          obtain ⟨fs, hfs⟩ : ∃ fs, fs = stAt key nonce n := ⟨_, rfl⟩
          rw [← hfs] at hgf hW2
          obtain ⟨X, hX⟩ : ∃ X, X = wr.heap.size := ⟨_, rfl⟩
          have hFX : w.heap.size < X := by rw [hX]; exact block_lt hW2
          have hB2 := hB
          have hgx := hgf
          replace hW2 := Lib.hid hW2
          replace hgf := Lib.hid hgf
          replace hgx := Lib.hid hgx
          replace hfs := Lib.hid hfs
          replace hB2 := Lib.hid hB2
          replace hFX := Lib.hid hFX
          clear hi h0 hW hB
          go_wp2_with (first
            | (refine wpList_load_words rfl (.tmp 7) rfl w.heap.size fs rfl hW2.out hgf.out.1 ?_)
            | (refine wpList_store_words rfl (.tmp 10) (.tmp 40) rfl wr.heap.size fs rfl rfl hgf.out.1 ⟨_, heap_alloc_new _ _, rfl⟩ ?_; intro w5 W5 K5; replace W5 := Lib.hid W5; replace K5 := Lib.hid (((Keeps.refl [wr.heap.size] wr).alloc _).trans K5)))
          rw [← hX] at W5 K5 ⊢
          have hT0 : Two w w5 X fs (rounds fs 0) := Two.mk ⟨hW2.out.keep K5.out (by have := hFX.out; simp; omega), W5.out, hFX.out, hB2.out.trans (K5.out.below hB2.out.size (by have := hFX.out; simp; omega))⟩
          replace hT0 := Lib.hid hT0
          clear hX W5 K5 hB2 hW2
          go_loopg [11] 10 (fun gn s11 wr => ∃ i : Nat, s11 = .int .i64 (i : Int) ∧ i + gn = 10 ∧ Two w wr X fs (rounds fs i))
          case atStart => exact ⟨0, rfl, rfl, hT0.out⟩
          case round =>
            clear hT0
            obtain ⟨i, rfl, hi, hT⟩ := hrel
            have hG := hgf.out.rounds i
            by_cases h0 : gk = 0
            · obtain rfl : i = 10 := by omega
              obtain ⟨zs, hzs⟩ : ∃ zs, zs = rounds fs 10 := ⟨_, rfl⟩
              rw [← hzs] at hT hG
              obtain ⟨ns, hns⟩ : ∃ ns, ns = sums zs fs := ⟨_, rfl⟩
              have hout : outP ns 16 = blockU (stAt key nonce n) := by rw [hns, hzs, ← hfs.out, ← outL_outP]; rfl
              have hsum : ∀ i, i < 16 → ns.getD i 0 = add32 (zs.getD i 0) (fs.getD i 0) := fun i hi => by rw [hns]; simp [sums, List.getD, hi]
              replace hsum := Lib.hid hsum
              replace hout := Lib.hid hout
              replace hT := Lib.hid hT
              replace hG := Lib.hid hG
              clear hi h0 hzs hns
              go_wp2
              go_loopg [12, 13] 16 (fun gn s12 s13 wr => ∃ i : Nat, s12 = .string (str (outP ns i)) ∧ s13 = .int .i64 (i : Int) ∧ i + gn = 16 ∧ Two w wr X fs zs)
              case atStart => exact ⟨0, rfl, rfl, rfl, hT.out⟩
              case round =>
                clear hT
                obtain ⟨i, rfl, rfl, hi, hT⟩ := hrel
                by_cases h0 : gk = 0
                · obtain rfl : i = 16 := by omega
                  rw [hout.out]
                  replace hT := Lib.hid hT
                  clear hi h0
                  go_wp2
                  go_ret
                  exact ⟨rfl, hT.out.low⟩
                · obtain ⟨K, rfl⟩ : ∃ K : Nat, gk = K + 1 := ⟨gk - 1, by omega⟩
                  have i1 : (i : Int) < 16 := by omega
                  have i0 : (0 : Int) ≤ (i : Int) := by omega
                  have ca := hT.xs.cell (i := i) (by rw [hG.out.1]; omega)
                  have cb := hT.fs.cell (i := i) (by rw [hgx.out.1]; omega)
                  have hs := hsum.out i (by omega)
                  obtain ⟨y1, e1⟩ : ∃ y, zs.getD i 0 = y := ⟨_, rfl⟩
                  obtain ⟨y2, e2⟩ : ∃ y, fs.getD i 0 = y := ⟨_, rfl⟩
                  rw [e1] at ca; rw [e2] at cb; rw [e1, e2] at hs
                  obtain ⟨z, hz⟩ : ∃ z, z = add32 y1 y2 := ⟨_, rfl⟩
                  have ez : ((y1 : Int) + y2) % 4294967296 = (z : Int) := by rw [hz]; simp [add32]
                  have hzl : z < 4294967296 := by rw [hz]; exact Nat.mod_lt _ (by decide)
                  rw [← hz] at hs
                  replace hs := Lib.hid hs
                  replace hT := Lib.hid hT
                  have hi2 := Lib.hid hi
                  replace hzl := Lib.hid hzl
                  clear e1 e2 hz hi h0
                  go_upto_region 27 with fail
                  go_cut [14] from 61 to 89 (fun v wx => v = .int .u32 (z : Int) ∧ wx = wr.drew)
                  case first =>
                    go_region
                    all_goals go_wp2_with fail
                    all_goals go_meet
                    all_goals exact ⟨by rw [ez], rfl⟩
                  case rest =>
                  obtain ⟨rfl, rfl⟩ := hcut
                  obtain ⟨v0, hv0⟩ : ∃ v : Nat, v = z % 256 := ⟨_, rfl⟩
                  obtain ⟨v1, hv1⟩ : ∃ v : Nat, v = z / 256 % 256 := ⟨_, rfl⟩
                  obtain ⟨v2, hv2⟩ : ∃ v : Nat, v = z / 65536 % 256 := ⟨_, rfl⟩
                  obtain ⟨v3, hv3⟩ : ∃ v : Nat, v = z / 16777216 % 256 := ⟨_, rfl⟩
                  have hzl := hzl.out
                  have ev0 : (z : Int) % 256 = (v0 : Int) := by omega
                  have ev1 : (z : Int) / 256 % 256 = (v1 : Int) := by omega
                  have ev2 : (z : Int) / 65536 % 256 = (v2 : Int) := by omega
                  have ev3 : (z : Int) / 16777216 = (v3 : Int) := by omega
                  have eu0 : IntKind.u8.wrap (v0 : Int) = v0 := IntWalk.u8_in _ (by omega)
                  have eu1 : IntKind.u8.wrap (v1 : Int) = v1 := IntWalk.u8_in _ (by omega)
                  have eu2 : IntKind.u8.wrap (v2 : Int) = v2 := IntWalk.u8_in _ (by omega)
                  have eu3 : IntKind.u8.wrap (v3 : Int) = v3 := IntWalk.u8_in _ (by omega)
                  replace hv0 := Lib.hid hv0; replace hv1 := Lib.hid hv1; replace hv2 := Lib.hid hv2; replace hv3 := Lib.hid hv3
                  have hw4 := conv_four (wr.alloc (.cells #[.int .u8 (v0 : Int), .int .u8 (v1 : Int), .int .u8 (v2 : Int), .int .u8 (v3 : Int)] 5)).drew wr.heap.size (v0 : Int) (v1 : Int) (v2 : Int) (v3 : Int) (heap_alloc_new wr _)
                  have hlen : (outP ns i).length = 4 * i := outP_len ns i
                  have hroom : ¬ 9223372036854775807 < 4 * i + 4 := by omega
                  clear ca cb ez
                  go_wp2_with fail
                  go_roundg K
                  case measure => omega
                  case rel =>
                    refine ⟨i + 1, ?_, by go_num, by have := hi2.out; omega, hT.out.below (by go_grown)⟩
                    show _ = Value.string (str (outP ns i ++ [UInt8.ofNat (ns.getD i 0 % 256), UInt8.ofNat (ns.getD i 0 / 256 % 256), UInt8.ofNat (ns.getD i 0 / 65536 % 256), UInt8.ofNat (ns.getD i 0 / 16777216 % 256)]))
                    rw [hs.out, ← hv0.out, ← hv1.out, ← hv2.out, ← hv3.out]
            · obtain ⟨K, rfl⟩ : ∃ K : Nat, gk = K + 1 := ⟨gk - 1, by omega⟩
              have i1 : (i : Int) < 10 := by omega
              have i0 : (0 : Int) ≤ (i : Int) := by omega
              obtain ⟨ys, hys⟩ : ∃ ys, ys = rounds fs i := ⟨_, rfl⟩
              rw [← hys] at hT hG
              have hq1 : ∀ (zs : List Nat) (hz : Good zs) (w' : World), Calls Tryz.prog 123 #[.agg (zs.map word).toArray, .int .i64 0, .int .i64 4, .int .i64 8, .int .i64 12] w' fun e w2 => e = .returned (.agg ((quarterL zs 0 4 8 12).map word).toArray) ∧ Below w'.heap.size w' w2 := fun zs hz w' => rquarter_any zs 0 4 8 12 hz (by decide) (by decide) (by decide) (by decide) w'
              have hq2 : ∀ (zs : List Nat) (hz : Good zs) (w' : World), Calls Tryz.prog 123 #[.agg (zs.map word).toArray, .int .i64 1, .int .i64 5, .int .i64 9, .int .i64 13] w' fun e w2 => e = .returned (.agg ((quarterL zs 1 5 9 13).map word).toArray) ∧ Below w'.heap.size w' w2 := fun zs hz w' => rquarter_any zs 1 5 9 13 hz (by decide) (by decide) (by decide) (by decide) w'
              have hq3 : ∀ (zs : List Nat) (hz : Good zs) (w' : World), Calls Tryz.prog 123 #[.agg (zs.map word).toArray, .int .i64 2, .int .i64 6, .int .i64 10, .int .i64 14] w' fun e w2 => e = .returned (.agg ((quarterL zs 2 6 10 14).map word).toArray) ∧ Below w'.heap.size w' w2 := fun zs hz w' => rquarter_any zs 2 6 10 14 hz (by decide) (by decide) (by decide) (by decide) w'
              have hq4 : ∀ (zs : List Nat) (hz : Good zs) (w' : World), Calls Tryz.prog 123 #[.agg (zs.map word).toArray, .int .i64 3, .int .i64 7, .int .i64 11, .int .i64 15] w' fun e w2 => e = .returned (.agg ((quarterL zs 3 7 11 15).map word).toArray) ∧ Below w'.heap.size w' w2 := fun zs hz w' => rquarter_any zs 3 7 11 15 hz (by decide) (by decide) (by decide) (by decide) w'
              have hq5 : ∀ (zs : List Nat) (hz : Good zs) (w' : World), Calls Tryz.prog 123 #[.agg (zs.map word).toArray, .int .i64 0, .int .i64 5, .int .i64 10, .int .i64 15] w' fun e w2 => e = .returned (.agg ((quarterL zs 0 5 10 15).map word).toArray) ∧ Below w'.heap.size w' w2 := fun zs hz w' => rquarter_any zs 0 5 10 15 hz (by decide) (by decide) (by decide) (by decide) w'
              have hq6 : ∀ (zs : List Nat) (hz : Good zs) (w' : World), Calls Tryz.prog 123 #[.agg (zs.map word).toArray, .int .i64 1, .int .i64 6, .int .i64 11, .int .i64 12] w' fun e w2 => e = .returned (.agg ((quarterL zs 1 6 11 12).map word).toArray) ∧ Below w'.heap.size w' w2 := fun zs hz w' => rquarter_any zs 1 6 11 12 hz (by decide) (by decide) (by decide) (by decide) w'
              have hq7 : ∀ (zs : List Nat) (hz : Good zs) (w' : World), Calls Tryz.prog 123 #[.agg (zs.map word).toArray, .int .i64 2, .int .i64 7, .int .i64 8, .int .i64 13] w' fun e w2 => e = .returned (.agg ((quarterL zs 2 7 8 13).map word).toArray) ∧ Below w'.heap.size w' w2 := fun zs hz w' => rquarter_any zs 2 7 8 13 hz (by decide) (by decide) (by decide) (by decide) w'
              have hq8 : ∀ (zs : List Nat) (hz : Good zs) (w' : World), Calls Tryz.prog 123 #[.agg (zs.map word).toArray, .int .i64 3, .int .i64 4, .int .i64 9, .int .i64 14] w' fun e w2 => e = .returned (.agg ((quarterL zs 3 4 9 14).map word).toArray) ∧ Below w'.heap.size w' w2 := fun zs hz w' => rquarter_any zs 3 4 9 14 hz (by decide) (by decide) (by decide) (by decide) w'
              replace hq1 := Lib.hid hq1
              replace hq2 := Lib.hid hq2
              replace hq3 := Lib.hid hq3
              replace hq4 := Lib.hid hq4
              replace hq5 := Lib.hid hq5
              replace hq6 := Lib.hid hq6
              replace hq7 := Lib.hid hq7
              replace hq8 := Lib.hid hq8
              replace hT := Lib.hid hT
              replace hG := Lib.hid hG
              replace hys := Lib.hid hys
              have hi2 := Lib.hid hi
              clear hi h0
              go_wp2_with (first
                | (refine wpList_load_words rfl (.tmp 10) rfl X _ rfl hT.out.xs hG.out.1 ?_)
                | (go_at_call 123; (with_reducible refine (hq1.out _ hG.out _).mono ?_); rintro e w5 ⟨rfl, b5⟩; have hGo := Lib.hid hG.out.1; replace hT := Lib.hid (hT.out.below b5); replace hG := Lib.hid (hG.out.quarter 0 4 8 12); clear b5)
                | (go_at_call 123; (with_reducible refine (hq2.out _ hG.out _).mono ?_); rintro e w5 ⟨rfl, b5⟩; have hGo := Lib.hid hG.out.1; replace hT := Lib.hid (hT.out.below b5); replace hG := Lib.hid (hG.out.quarter 1 5 9 13); clear b5)
                | (go_at_call 123; (with_reducible refine (hq3.out _ hG.out _).mono ?_); rintro e w5 ⟨rfl, b5⟩; have hGo := Lib.hid hG.out.1; replace hT := Lib.hid (hT.out.below b5); replace hG := Lib.hid (hG.out.quarter 2 6 10 14); clear b5)
                | (go_at_call 123; (with_reducible refine (hq4.out _ hG.out _).mono ?_); rintro e w5 ⟨rfl, b5⟩; have hGo := Lib.hid hG.out.1; replace hT := Lib.hid (hT.out.below b5); replace hG := Lib.hid (hG.out.quarter 3 7 11 15); clear b5)
                | (go_at_call 123; (with_reducible refine (hq5.out _ hG.out _).mono ?_); rintro e w5 ⟨rfl, b5⟩; have hGo := Lib.hid hG.out.1; replace hT := Lib.hid (hT.out.below b5); replace hG := Lib.hid (hG.out.quarter 0 5 10 15); clear b5)
                | (go_at_call 123; (with_reducible refine (hq6.out _ hG.out _).mono ?_); rintro e w5 ⟨rfl, b5⟩; have hGo := Lib.hid hG.out.1; replace hT := Lib.hid (hT.out.below b5); replace hG := Lib.hid (hG.out.quarter 1 6 11 12); clear b5)
                | (go_at_call 123; (with_reducible refine (hq7.out _ hG.out _).mono ?_); rintro e w5 ⟨rfl, b5⟩; have hGo := Lib.hid hG.out.1; replace hT := Lib.hid (hT.out.below b5); replace hG := Lib.hid (hG.out.quarter 2 7 8 13); clear b5)
                | (go_at_call 123; (with_reducible refine (hq8.out _ hG.out _).mono ?_); rintro e w5 ⟨rfl, b5⟩; have hGo := Lib.hid hG.out.1; replace hT := Lib.hid (hT.out.below b5); replace hG := Lib.hid (hG.out.quarter 3 4 9 14); clear b5)
                | (refine wpList_store_words rfl (.tmp 10) (.tmp 46) rfl X _ rfl rfl hG.out.1 (hT.out.old hGo.out) ?_; intro w6 W6 K6; replace hT := Lib.hid (hT.out.store K6 W6); clear W6 K6 hGo)
                | (refine wpList_store_words rfl (.tmp 10) (.tmp 48) rfl X _ rfl rfl hG.out.1 (hT.out.old hGo.out) ?_; intro w6 W6 K6; replace hT := Lib.hid (hT.out.store K6 W6); clear W6 K6 hGo)
                | (refine wpList_store_words rfl (.tmp 10) (.tmp 50) rfl X _ rfl rfl hG.out.1 (hT.out.old hGo.out) ?_; intro w6 W6 K6; replace hT := Lib.hid (hT.out.store K6 W6); clear W6 K6 hGo)
                | (refine wpList_store_words rfl (.tmp 10) (.tmp 52) rfl X _ rfl rfl hG.out.1 (hT.out.old hGo.out) ?_; intro w6 W6 K6; replace hT := Lib.hid (hT.out.store K6 W6); clear W6 K6 hGo)
                | (refine wpList_store_words rfl (.tmp 10) (.tmp 54) rfl X _ rfl rfl hG.out.1 (hT.out.old hGo.out) ?_; intro w6 W6 K6; replace hT := Lib.hid (hT.out.store K6 W6); clear W6 K6 hGo)
                | (refine wpList_store_words rfl (.tmp 10) (.tmp 56) rfl X _ rfl rfl hG.out.1 (hT.out.old hGo.out) ?_; intro w6 W6 K6; replace hT := Lib.hid (hT.out.store K6 W6); clear W6 K6 hGo)
                | (refine wpList_store_words rfl (.tmp 10) (.tmp 58) rfl X _ rfl rfl hG.out.1 (hT.out.old hGo.out) ?_; intro w6 W6 K6; replace hT := Lib.hid (hT.out.store K6 W6); clear W6 K6 hGo)
                | (refine wpList_store_words rfl (.tmp 10) (.tmp 60) rfl X _ rfl rfl hG.out.1 (hT.out.old hGo.out) ?_; intro w6 W6 K6; replace hT := Lib.hid (hT.out.store K6 W6); clear W6 K6 hGo))
              go_roundg K
              case measure => omega
              case rel =>
                refine ⟨i + 1, by go_num, by have := hi2.out; omega, ?_⟩
                rw [rounds_succ, ← hys.out, round_step]
                exact hT.out
        · obtain ⟨K, rfl⟩ : ∃ K : Nat, gk = K + 1 := ⟨gk - 1, by omega⟩
          have i1 : (i : Int) < 3 := by omega
          have i0 : (0 : Int) ≤ (i : Int) := by omega
          have hw := fun w' => rword_any nonce (4 * i) w' (by omega) (by omega)
          have e4 : ((4 * i : Nat) : Int) = 4 * (i : Int) := by omega
          rw [e4] at hw
          obtain ⟨q, hq⟩ : ∃ q, q = wordAt nonce (4 * i) := ⟨_, rfl⟩
          rw [← hq] at hw
          have hl : ((nonced key nonce i).set 12 n).length = 16 := by simp [nonced_len]
          have hS : ∀ w1, Below wr.heap.size wr w1 → Words w1 w.heap.size 184 ((nonced key nonce i).set 12 n) := fun w1 b => hW.below b
          replace hW := Lib.hid hW
          replace hw := Lib.hid hw
          replace hS := Lib.hid hS
          replace hq := Lib.hid hq
          replace hl := Lib.hid hl
          go_wp2_with (go_at_call 122; (with_reducible refine (hw.out _).mono ?_); rintro e w1 ⟨rfl, b1⟩; have W1 := hS.out _ b1; have f1 := W1.free (13 + i); have c1 := W1.cell (i := 13 + i) (by rw [hl.out]; omega); replace W1 := Lib.hid W1)
          go_roundg K
          case measure => omega
          case rel =>
            refine ⟨i + 1, by go_num, by omega, ?_, (belowCont hB b1).setCell (by simp) _⟩
            have e := W1.out.put (13 + i) q
            show Words _ _ _ (((nonced key nonce i).set (13 + i) (wordAt nonce (4 * i))).set 12 n)
            rw [List.set_comm _ _ (by omega), ← hq.out]; exact e
    · obtain ⟨K, rfl⟩ : ∃ K : Nat, gk = K + 1 := ⟨gk - 1, by omega⟩
      have i1 : (i : Int) < 8 := by omega
      have i0 : (0 : Int) ≤ (i : Int) := by omega
      have hw := fun w' => rword_any key (4 * i) w' (by omega) (by omega)
      have e4 : ((4 * i : Nat) : Int) = 4 * (i : Int) := by omega
      rw [e4] at hw
      obtain ⟨q, hq⟩ : ∃ q, q = wordAt key (4 * i) := ⟨_, rfl⟩
      rw [← hq] at hw
      have hl := keyed_len key i
      have hS : ∀ w1, Below wr.heap.size wr w1 → Words w1 w.heap.size 184 (keyed key i) := fun w1 b => hW.below b
      replace hW := Lib.hid hW
      replace hw := Lib.hid hw
      replace hS := Lib.hid hS
      replace hq := Lib.hid hq
      go_wp2_with (go_at_call 122; (with_reducible refine (hw.out _).mono ?_); rintro e w1 ⟨rfl, b1⟩; have W1 := hS.out _ b1; have f1 := W1.free (4 + i); have c1 := W1.cell (i := 4 + i) (by omega); replace W1 := Lib.hid W1)
      go_roundg K
      case measure => omega
      case rel =>
        refine ⟨i + 1, by go_num, by omega, ?_, (belowCont hB b1).setCell (by simp) _⟩
        have e := W1.out.put (4 + i) q
        show Words _ _ _ ((keyed key i).set (4 + i) (wordAt key (4 * i)))
        rw [← hq.out]; exact e
end Go.Proofs.YtcdcipfojfnblaaGreatDoor.chacha
end
section
namespace Go.Proofs.YtcdcipfojfnblaaGreatDoor
open Go.RowKit
set_option linter.unusedVariables false
set_option maxRecDepth 100000

theorem step_append_byte {w : World} {ops : Array Oper} {o : Oper} {a : Act} {K : Act → World → Prop} {Q : Exit → Act → World → Prop} {E : Prop} (hgd : o.guard = none) (s x : Operand)
    (ho : o.op = .call { callee := .builtin .append, args := #[s, x], argTypes := #[70, 70] })
    (base : Nat) (v : Value) (l : List UInt8) (hs : a.eval s = v) (hown : BRow w base v l) (g c : Nat) (b : UInt8) (hx : a.eval x = .slice (some ⟨g, 0, none⟩) 1 c) (hc : w.cell? ⟨g, 0, none⟩ = some (.int .u8 (b.toNat : Int)))
    (hl : l.length < 1000000000) (hbase : base ≤ w.heap.size)
    (h : ∀ v' w', BRow w' base v' (l ++ [b]) → w.grownBy w' v.ownBlock → K (a.put o.dst v') w') :
    if Region.wanted o (yielded ops a.tmps) = true then Oper.wp Tryz.prog o a w K Q else E := by
  obtain ⟨i, hi, hz, hsz, hby⟩ := info_parts byteInfo
  refine step_append_lies w hgd s x 70 ho base 5 i (.int .u8 0) 1 1 Tryz.underlying70 hi hz hsz hby rfl (by decide) v l.length (cellsOf l) hs hown ⟨g, 0, none⟩ 1 c [.int .u8 (b.toNat : Int)] hx rfl ?_ ?_ (by decide) ?_ ?_ hbase _ rfl ?_
  · intro j u hj
    match j, hj with
    | 0, hj => simp at hj; subst hj; simpa [Addr.add] using hc
  · intro u hu; simp at hu; subst hu; rfl
  · unfold maxLen; omega
  · omega
  · intro g' cap w' h1 h2 _ _
    refine h _ w' ?_ h2
    unfold BRow
    rw [cellsOf_append, List.length_append]
    exact h1
end Go.Proofs.YtcdcipfojfnblaaGreatDoor
end
section
namespace Go.Proofs.YtcdcipfojfnblaaGreatDoor.chacha
open Go.RowKit
attribute [local go_sem ↓] Go.wp_at_zero Go.wp_at_succ
set_option linter.unusedVariables false
set_option maxRecDepth 100000

/-- what the first m bytes turned are -/
def outT (key nonce : ByteArray) (l : List UInt8) (m : Nat) : List UInt8 := (turnedL key nonce l l.length).take m
theorem outT_step (key nonce : ByteArray) (l : List UInt8) (m : Nat) (h : m < l.length) : outT key nonce l (m + 1) = outT key nonce l m ++ [l.getD m 0 ^^^ padAt key nonce m] := by
  unfold outT
  rw [List.take_add_one, List.getElem?_eq_getElem (by rw [turnedL_len]; exact h)]
  simp [turnedL, h, List.getD, List.getElem?_eq_getElem h]
theorem outT_len (key nonce : ByteArray) (l : List UInt8) (m : Nat) : (outT key nonce l m).length ≤ l.length := by
  unfold outT; rw [List.length_take, turnedL_len]; omega
theorem outT_whole (key nonce : ByteArray) (l : List UInt8) (m : Nat) (h : l.length ≤ m) : outT key nonce l m = turnedL key nonce l l.length := by
  unfold outT; exact List.take_of_length_le (by rw [turnedL_len]; exact h)
theorem str_getD (l : List UInt8) (i : Nat) (h : i < (str l).size) : (str l)[i]'h = l.getD i 0 := by
  have h2 : i < l.length := by rwa [str_size] at h
  simp [List.getD, List.getElem?_eq_getElem h2]
  rfl
theorem rowEmpty (w : World) : BRow (w.alloc (.cells #[] 5)) w.heap.size (.slice (some ⟨w.heap.size, 0, none⟩) 0 0) [] := World.ownsRow_lit w #[] 0 (Nat.le_refl _) (by unfold maxLen; omega) rfl
set_option maxRecDepth 100000 in
set_option maxHeartbeats 4000000 in
theorem rturn_any (key nonce : ByteArray) (l : List UInt8) (hk : key.size = 32) (hn : nonce.size = 12) (hl : l.length ≤ 1000000) (w : World) :
    Calls Tryz.prog 76 #[.string key, .string nonce, .string (str l)] w fun e w' => e = .returned (.string (str (turnedL key nonce l l.length))) ∧ Below w.heap.size w w' := by
  have hblk := fun n hN w' => rblock_any key nonce n hk hn hN w'
  obtain ⟨S0, hS0⟩ : ∃ S, S = str l := ⟨_, rfl⟩
  have hSs : S0.size = l.length := by rw [hS0, str_size]
  have hSg : ∀ i (h : i < S0.size), S0[i]'h = l.getD i 0 := by subst hS0; exact fun i h => str_getD l i h
  rw [← hS0]
  clear hS0
  clear hk hn
  obtain ⟨m, hm⟩ : ∃ m : Nat, m = (l.length + 63) / 64 := ⟨_, rfl⟩
  replace hblk := Lib.hid hblk
  replace hl := Lib.hid hl
  replace hm := Lib.hid hm
  replace hSg := Lib.hid hSg
  go_enter Tryz.func76, Tryz.ntmps76
  go_wp2
  go_loopg [7, 8] m (fun gn s7 s8 wr => ∃ i : Nat, s8 = .int .i64 (64 * (i : Int)) ∧ i + gn = m ∧ BRow wr w.heap.size s7 (outT key nonce l (64 * i)) ∧ Below w.heap.size w wr)
  case atStart => exact ⟨0, rfl, by omega, rowEmpty w, by go_grown⟩
  case round =>
    obtain ⟨i, rfl, hi, hR, hB⟩ := hrel
    have hlo := hl.out
    have hmo := hm.out
    by_cases h0 : gk = 0
    · obtain rfl : i = m := by omega
      have hge : ¬ (64 * (i : Int) < (l.length : Int)) := by omega
      rw [outT_whole key nonce l (64 * i) (by omega)] at hR
      have hconv := hR.text
      replace hR := Lib.hid hR
      clear hlo hmo h0 hi
      go_wp2
      go_ret
      exact ⟨rfl, hB⟩
    · obtain ⟨K, rfl⟩ : ∃ K : Nat, gk = K + 1 := ⟨gk - 1, by omega⟩
      have hi2 := Lib.hid hi
      have hlt : 64 * (i : Int) < (l.length : Int) := by omega
      have hi0 : (0 : Int) ≤ 64 * (i : Int) := by omega
      have hw64 : IntKind.i64.wrap (64 * (i : Int) + 64) = 64 * (i : Int) + 64 := by rw [IntKind.wrap_i64]; omega
      have hwq : wrap64 (i : Int) = i := by unfold wrap64; omega
      have hwm : (i : Int) % 4294967296 = i := by omega
      have hb := fun w' => hblk.out i (by omega) w'
      obtain ⟨P0, hP0⟩ : ∃ P, P = str (blockU (stAt key nonce i)) := ⟨_, rfl⟩
      rw [← hP0] at hb
      have hPs : P0.size = 64 := by rw [hP0, str_size, blockU_len]
      have hPg : ∀ j (h : j < P0.size), P0[j]'h = padAt key nonce (64 * i + j) := by
        subst hP0
        intro j h
        rw [str_getD, padAt]
        rw [hPs] at h
        have e1 : (64 * i + j) / 64 % 4294967296 = i := by omega
        have e2 : (64 * i + j) % 64 = j := by omega
        rw [e1, e2]
      obtain ⟨c, hc⟩ : ∃ c : Nat, c = min 64 (l.length - 64 * i) := ⟨_, rfl⟩
      have hil : 64 * i + c ≤ l.length := by omega
      have hc64 : c ≤ 64 := by omega
      replace hc := Lib.hid hc
      replace hil := Lib.hid hil
      replace hc64 := Lib.hid hc64
      replace hb := Lib.hid hb
      replace hP0 := Lib.hid hP0
      replace hPg := Lib.hid hPg
      replace hR := Lib.hid hR
      clear hlo hmo h0 hi
      go_wp2_with (go_at_call 104; (with_reducible refine (hb.out _).mono ?_); rintro e w5 ⟨rfl, b5⟩; replace hR := Lib.hid (hR.out.below b5); replace hB := belowCont hB b5; replace b5 := Lib.hid b5)
      go_loopg [7, 10] c (fun gn s7 s10 wr => ∃ j kk : Nat, kk = 64 * i + j ∧ s10 = .int .i64 (kk : Int) ∧ j + gn = c ∧ BRow wr w.heap.size s7 (outT key nonce l kk) ∧ Below w.heap.size w wr)
      case atStart => exact ⟨0, 64 * i, rfl, by go_num, by omega, hR.out, hB⟩
      case round =>
        clear hR hB
        obtain ⟨j, kk, hkk, rfl, hj, hR, hB⟩ := hrel
        have hil2 := hil.out
        have hc642 := hc64.out
        by_cases h0 : gk = 0
        · obtain rfl : j = c := by omega
          have hwk : IntKind.i64.wrap (64 * (i : Int) + 64) = 64 * (i : Int) + 64 := hw64
          have hfin : outT key nonce l kk = outT key nonce l (64 * (i + 1)) := by
            have := hc.out
            by_cases h : j = 64
            · rw [hkk, h]; congr 1
            · rw [outT_whole key nonce l kk (by omega), outT_whole key nonce l (64 * (i + 1)) (by omega)]
          by_cases h : j = 64
          · have hn1 : ¬ ((kk : Int) < 64 * (i : Int) + 64) := by omega
            replace hR := Lib.hid hR
            replace hkk := Lib.hid hkk
            replace hfin := Lib.hid hfin
            clear hil2 hc642 h0 hj h
            go_wp2
            go_roundg K
            case measure => omega
            case rel => exact ⟨i + 1, by rw [show 64 * (i : Int) + 64 = 64 * ((i + 1 : Nat) : Int) by omega], by have := hi2.out; omega, by rw [← hfin.out]; exact hR.out, hB⟩
          · have hn1 : (kk : Int) < 64 * (i : Int) + 64 := by omega
            have hn2 : ¬ ((kk : Int) < (l.length : Int)) := by have := hc.out; omega
            replace hR := Lib.hid hR
            replace hkk := Lib.hid hkk
            replace hfin := Lib.hid hfin
            clear hil2 hc642 h0 hj h
            go_wp2
            go_roundg K
            case measure => omega
            case rel => exact ⟨i + 1, by rw [show 64 * (i : Int) + 64 = 64 * ((i + 1 : Nat) : Int) by omega], by have := hi2.out; omega, by rw [← hfin.out]; exact hR.out, hB⟩
        · obtain ⟨K2, rfl⟩ : ∃ K2 : Nat, gk = K2 + 1 := ⟨gk - 1, by omega⟩
          have hn1 : (kk : Int) < 64 * (i : Int) + 64 := by omega
          have hn2 : (kk : Int) < (l.length : Int) := by omega
          have hn0 : (0 : Int) ≤ (kk : Int) := by omega
          have hsub : IntKind.i64.wrap ((kk : Int) - 64 * (i : Int)) = (j : Int) := by rw [IntKind.wrap_i64]; omega
          have j0 : (0 : Int) ≤ (j : Int) := by omega
          have j64 : (j : Int) < 64 := by omega
          have hkl : kk < l.length := by omega
          have hxor : ∀ (h1 : kk < S0.size) (h2 : j < P0.size), bits .xor .u8 (((S0[kk]'h1).toNat : Nat) : Int) (((P0[j]'h2).toNat : Nat) : Int) = (((l.getD kk 0 ^^^ padAt key nonce kk).toNat : Nat) : Int) := fun h1 h2 => by
            rw [hSg.out, hPg.out, xor_u8, hkk]
          obtain ⟨x, hx⟩ : ∃ x, x = l.getD kk 0 ^^^ padAt key nonce kk := ⟨_, rfl⟩
          rw [← hx] at hxor
          have hstep : outT key nonce l (kk + 1) = outT key nonce l kk ++ [x] := by rw [hx]; exact outT_step key nonce l kk hkl
          have holen : (outT key nonce l kk).length < 1000000000 := by have := outT_len key nonce l kk; have := hl.out; omega
          have hx256 : (0 : Int) ≤ (x.toNat : Int) ∧ (x.toNat : Int) < 256 := ⟨Int.natCast_nonneg _, by have := UInt8.toNat_lt x; omega⟩
          have hj2 : j + (K2 + 1) = c := hj
          replace hj2 := Lib.hid hj2
          replace hstep := Lib.hid hstep
          replace holen := Lib.hid holen
          replace hx256 := Lib.hid hx256
          replace hR := Lib.hid hR
          replace hkk := Lib.hid hkk
          clear hil2 hc642 h0 hj hx hkl
          go_upto_region 9 with fail
          go_region_law (refine step_append_byte rfl _ _ rfl w.heap.size _ (outT key nonce l kk) rfl (hR.out.alloc _) wr.heap.size 1 x rfl (newCell wr _ _ 0) holen.out ?hb ?_; (case hb => have := hB.size; simp; omega); intro v2 w2 hrow2 hgrow2)
          all_goals go_wp2_with fail
          all_goals
            go_roundg K2
            case measure => omega
            case rel => exact ⟨j + 1, kk + 1, by have := hkk.out; omega, by go_num, by have := hj2.out; omega, by rw [hstep.out]; exact hrow2, (hB.drew.alloc hB.size _).grown hgrow2 (by have := hB.size; simp; omega) (fun g hg => (hR.out.lt g hg).1)⟩
end Go.Proofs.YtcdcipfojfnblaaGreatDoor.chacha
end
section
namespace Go.Proofs.YtcdcipfojfnblaaGreatDoor.chacha
open Go.RowKit
attribute [local go_sem ↓] Go.wp_at_zero Go.wp_at_succ
set_option linter.unusedVariables false
set_option maxRecDepth 100000

def keyOf (s : ByteArray) : ByteArray := (s ++ ⟨#[48, 49, 50, 51, 52, 53, 54, 55, 56, 57, 97, 98, 99, 100, 101, 102, 48, 49, 50, 51, 52, 53, 54, 55, 56, 57, 97, 98, 99, 100, 101, 102]⟩).extract 0 32
def nonceOf (s : ByteArray) : ByteArray := (s ++ ⟨#[48, 49, 50, 51, 52, 53, 54, 55, 56, 57, 97, 98]⟩).extract 0 12
theorem keyOf_size (s : ByteArray) : (keyOf s).size = 32 := by
  unfold keyOf
  rw [ByteArray.size_extract, ByteArray.size_append]
  show min 32 (s.size + 32) - 0 = 32
  omega
theorem nonceOf_size (s : ByteArray) : (nonceOf s).size = 12 := by
  unfold nonceOf
  rw [ByteArray.size_extract, ByteArray.size_append]
  show min 12 (s.size + 12) - 0 = 12
  omega
end Go.Proofs.YtcdcipfojfnblaaGreatDoor.chacha
end
