/- Tags of bytes under a key (package hmac) and the document's own. The table of salts is a premise. No other condition. -/
import Derived.Test.YtdhboldmffiklabDoorShaLaws
namespace Go.Proofs.YtdhboldmffiklabDoor.sha
open Go.RowKit
attribute [local go_sem ↓] Go.wp_at_zero Go.wp_at_succ
attribute [local go_sem] str_size str_append conv_one conv_one_drew
set_option linter.unusedVariables false
set_option maxRecDepth 100000

/-- a key of at most a block -/
def keyL (k : List UInt8) : List UInt8 := if 64 < k.length then shaB salts k else k
theorem keyL_len (k : List UInt8) : (keyL k).length ≤ 64 := by
  unfold keyL; split
  · rw [shaB_len]; decide
  · omega
/-- a key as a block -/
def padK (k : List UInt8) : List UInt8 := keyL k ++ List.replicate (64 - (keyL k).length) 0
theorem padK_len (k : List UInt8) : (padK k).length = 64 := by have := keyL_len k; simp [padK]; omega
/-- bytes of which the first n are changed by a mark -/
def xorL (l : List UInt8) (m : UInt8) (n : Nat) : List UInt8 := l.mapIdx fun j b => if j < n then b ^^^ m else b
theorem xorL_len (l : List UInt8) (m : UInt8) (n : Nat) : (xorL l m n).length = l.length := by simp [xorL]
theorem xorL_zero (l : List UInt8) (m : UInt8) : xorL l m 0 = l := by
  apply List.ext_getElem
  · simp [xorL]
  · intro i h1 h2; simp [xorL]
theorem xorL_at (l : List UInt8) (m : UInt8) (n : Nat) (h : n < l.length) : (xorL l m n).getD n 0 = l.getD n 0 := by
  simp [xorL, List.getD, List.getElem?_eq_getElem h]
theorem xorL_step (l : List UInt8) (m : UInt8) (n : Nat) (h : n < l.length) : (xorL l m n).set n (l.getD n 0 ^^^ m) = xorL l m (n + 1) := by
  apply List.ext_getElem
  · simp [xorL]
  · intro i h1 h2
    simp only [xorL, List.getElem_set, List.getElem_mapIdx]
    by_cases e : n = i
    · subst e; simp [List.getD, List.getElem?_eq_getElem h]
    · rw [if_neg e]
      have : (i < n) ↔ (i < n + 1) := by omega
      simp [this]
/-- a key as a block, each byte changed by a mark -/
def markL (k : List UInt8) (m : UInt8) : List UInt8 := xorL (padK k) m 64
theorem markL_len (k : List UInt8) (m : UInt8) : (markL k m).length = 64 := by rw [markL, xorL_len, padK_len]
/-- the tag of bytes under a key -/
def tagL (k s : List UInt8) : List UInt8 := shaB salts (markL k 92 ++ shaB salts (markL k 54 ++ s))
theorem tagL_len (k s : List UInt8) : (tagL k s).length = 32 := shaB_len _ _
theorem xor_u8 (a b : UInt8) : bits .xor .u8 (a.toNat : Int) (b.toNat : Int) = (((a ^^^ b).toNat : Nat) : Int) := by
  rw [Go.u8_xor_nat _ _ (UInt8.toNat_lt _) (UInt8.toNat_lt _), UInt8.toNat_xor]
theorem drop_zeros (l : List UInt8) : (List.replicate 64 (0 : UInt8)).drop l.length = List.replicate (64 - l.length) 0 := by rw [List.drop_replicate]

set_option maxRecDepth 100000 in
set_option maxHeartbeats 4000000 in
theorem marked_any (k : List UInt8) (m : UInt8) (hk : k.length ≤ 1000000000) (w : World) (hT : SaltAt w salts) :
    Calls Tryd.prog 206 #[.string (str k), .int .u8 (m.toNat : Int)] w fun e w' => e = .returned (.string (str (markL k m))) ∧ Below w.heap.size w w' := by
  have hs := sum_any salts salts_small k hk w hT
  have hmk : ∀ W : World, (Instr.makeSlice 52 (.int .i64 64) (.int .i64 64)).run Tryd.prog W = .ok (.slice (some ⟨W.heap.size, 0, none⟩) 64 64) (W.alloc (.cells (madeCells (Value.int .u8 0).cells 64) 5)) := fun W => run_make_bytes 64 (by omega) W
  obtain ⟨q, hq⟩ : ∃ q, q = keyL k := ⟨_, rfl⟩
  have hql : q.length ≤ 64 := by rw [hq]; exact keyL_len k
  obtain ⟨P, hP⟩ : ∃ P, P = padK k := ⟨_, rfl⟩
  have hPq : q ++ (List.replicate 64 (0 : UInt8)).drop q.length = P := by rw [drop_zeros, hP, hq]; rfl
  have hPl : P.length = 64 := by rw [hP]; exact padK_len k
  have hfin : markL k m = xorL P m 64 := by rw [hP]; rfl
  have hb0 : ∀ W : World, ByteBlk (W.alloc (.cells (madeCells (Value.int .u8 0).cells 64) 5)) W.heap.size (List.replicate 64 0) := fun W => byteBlk_made W 64
  have hbig : 64 < k.length → shaB salts k = q := by intro h; rw [hq]; exact (if_pos h).symm
  have hsmall : ¬ 64 < k.length → k = q := by intro h; rw [hq]; exact (if_neg h).symm
  replace hs := Lib.hid hs
  replace hq := Lib.hid hq
  replace hql := Lib.hid hql
  replace hPq := Lib.hid hPq
  replace hPl := Lib.hid hPl
  replace hfin := Lib.hid hfin
  replace hb0 := Lib.hid hb0
  replace hbig := Lib.hid hbig
  replace hsmall := Lib.hid hsmall
  clear hP hk hT
  obtain ⟨v, hv⟩ : ∃ v : Int, v = (m.toNat : Int) := ⟨_, rfl⟩
  rw [← hv]
  have hx : ∀ b : UInt8, bits .xor .u8 (b.toNat : Int) v = (((b ^^^ m).toNat : Nat) : Int) := fun b => by rw [hv]; exact xor_u8 b m
  replace hv := Lib.hid hv
  replace hx := Lib.hid hx
  go_enter Tryd.func206, Tryd.ntmps206
  go_upto_if 9 with fail
  go_cut [0] from 9 (fun v wx => v = .string (str q) ∧ Below w.heap.size w wx)
  case first =>
    by_cases h : 64 < k.length
    · have hI : (64 : Int) < (k.length : Int) := by omega
      have hq2 := hbig.out h
      rw [hq2] at hs
      replace hq2 := Lib.hid hq2
      clear h
      go_wp2_with (go_at_call 97; (with_reducible refine hs.out.mono ?_); rintro e w1 ⟨rfl, b1⟩; replace b1 := Lib.hid b1)
      go_meet
      exact ⟨rfl, b1.out⟩
    · have hI : ¬ (64 : Int) < (k.length : Int) := by omega
      have hq2 := hsmall.out h
      replace hq2 := Lib.hid hq2
      clear h
      go_wp2
      go_meet
      exact ⟨by rw [hq2.out], Below.refl _ _⟩
  case rest =>
  obtain ⟨rfl, hB⟩ := hcut
  obtain ⟨G, hG⟩ : ∃ G, G = wc.heap.size := ⟨_, rfl⟩
  have hbw := hb0.out wc
  rw [← hG] at hbw
  replace hbw := Lib.hid hbw
  have hwG : w.heap.size ≤ G := by rw [hG]; exact hB.size
  replace hB := Lib.hid hB
  replace hwG := Lib.hid hwG
  go_wp2_with (refine wpList_copy_text rfl (.tmp 13) (.tmp 14) rfl wc.heap.size 64 64 (List.replicate 64 0) q rfl rfl (hb0.out wc) hql.out (by rw [List.length_replicate]; exact hql.out) ?_; intro w5 B5 K5; rw [hPq.out] at B5; replace B5 := Lib.hid B5; replace K5 := Lib.hid K5)
  have hB5 : Below w.heap.size w w5 := (hB.out.alloc hB.out.size _).trans (K5.out.below (by have := hB.out.size; simp; omega) (by simp; exact hB.out.size))
  have hB5' : ByteBlk w5 G (xorL P m 0) := by rw [xorL_zero, hG]; exact B5.out
  rw [← hG]
  replace hB5 := Lib.hid hB5
  replace hB5' := Lib.hid hB5'
  clear B5 K5 hB hbw hG
  go_loopg [18] 64 (fun gn s18 wr => ∃ i : Nat, s18 = .int .i64 (i : Int) ∧ i + gn = 64 ∧ ByteBlk wr G (xorL P m i) ∧ Below w.heap.size w wr)
  case atStart => exact ⟨0, rfl, rfl, hB5'.out, hB5.out⟩
  case round =>
    clear hB5 hB5'
    obtain ⟨i, rfl, hi, hO, hB⟩ := hrel
    by_cases h0 : gk = 0
    · obtain rfl : i = 64 := by omega
      have ht := hO.text 64
      rw [xorL_len, hPl.out, ← hfin.out] at ht
      replace hO := Lib.hid hO
      clear hi h0
      go_wp2
      go_ret
      exact ⟨rfl, hB⟩
    · obtain ⟨K, rfl⟩ : ∃ K : Nat, gk = K + 1 := ⟨gk - 1, by omega⟩
      have i1 : (i : Int) < 64 := by omega
      have i0 : (0 : Int) ≤ (i : Int) := by omega
      have hil : i < P.length := by rw [hPl.out]; omega
      have hc := hO.cell (i := i) (by rw [xorL_len]; exact hil)
      have hf := hO.free i
      rw [xorL_at _ _ _ hil] at hc
      have hput := hO.put (i := i) (n := ((P.getD i 0 ^^^ m).toNat : Int)) ⟨Int.natCast_nonneg _, by have := UInt8.toNat_lt (P.getD i 0 ^^^ m); omega⟩
      rw [Int.toNat_natCast, UInt8.ofNat_toNat, xorL_step P m i hil] at hput
      have hx2 := hx.out (P.getD i 0)
      obtain ⟨n1, hn1⟩ : ∃ n : Nat, n = (P.getD i 0).toNat := ⟨_, rfl⟩
      obtain ⟨n2, hn2⟩ : ∃ n : Nat, n = (P.getD i 0 ^^^ m).toNat := ⟨_, rfl⟩
      rw [← hn1] at hc hx2
      rw [← hn2] at hx2 hput
      have hi2 := Lib.hid hi
      replace hput := Lib.hid hput
      replace hO := Lib.hid hO
      clear hn1 hn2 hi h0 hil
      go_wp2
      go_roundg K
      case measure => omega
      case rel => exact ⟨i + 1, by go_num, by have := hi2.out; omega, hput.out, hB.setCell (p := ⟨G, i, none⟩) hwG.out _⟩
end Go.Proofs.YtdhboldmffiklabDoor.sha
