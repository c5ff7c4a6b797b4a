/- Tags of bytes under a key (package hmac) and the document's own. The table of salts is a premise. No other condition. The document's own tags of bytes under a key. No condition. Tags of bytes under a key (package hmac). The table of salts is a premise. No other condition. The tag of any bytes under any key is the document's. The table of salts is a premise. No other condition. So many bytes of a key (package hmac). The table of salts is a premise. No other condition. So many bytes of a key, the document's own. No condition. Two texts are the same just if they are. No condition. -/
import Derived.Test.YtcdcipfojfnblaaGreatDoorMgShR
import Derived.Test.YtcdcipfojfnblaaGreatDoorShelf
import Derived.Laws.OwnMore
import Derived.Lib.Join
section
namespace Go.Proofs.YtcdcipfojfnblaaGreatDoor.sha
open Go.RowKit
attribute [local go_sem ↓] Go.wp_at_zero Go.wp_at_succ
attribute [local go_sem] str_size str_append conv_one conv_one_drew
set_option linter.unusedVariables false
set_option maxRecDepth 100000

/-- a key of at most a block -/
def keyL (k : List UInt8) : List UInt8 := if 64 < k.length then shaB salts k else k
theorem keyL_len (k : List UInt8) : (keyL k).length ≤ 64 := by
  unfold keyL; split
  · rw [shaB_len]; decide
  · omega
/-- a key as a block -/
def padK (k : List UInt8) : List UInt8 := keyL k ++ List.replicate (64 - (keyL k).length) 0
theorem padK_len (k : List UInt8) : (padK k).length = 64 := by have := keyL_len k; simp [padK]; omega
/-- bytes of which the first n are changed by a mark -/
def xorL (l : List UInt8) (m : UInt8) (n : Nat) : List UInt8 := l.mapIdx fun j b => if j < n then b ^^^ m else b
theorem xorL_len (l : List UInt8) (m : UInt8) (n : Nat) : (xorL l m n).length = l.length := by simp [xorL]
theorem xorL_zero (l : List UInt8) (m : UInt8) : xorL l m 0 = l := by
  apply List.ext_getElem
  · simp [xorL]
  · intro i h1 h2; simp [xorL]
theorem xorL_at (l : List UInt8) (m : UInt8) (n : Nat) (h : n < l.length) : (xorL l m n).getD n 0 = l.getD n 0 := by
  simp [xorL, List.getD, List.getElem?_eq_getElem h]
theorem xorL_step (l : List UInt8) (m : UInt8) (n : Nat) (h : n < l.length) : (xorL l m n).set n (l.getD n 0 ^^^ m) = xorL l m (n + 1) := by
  apply List.ext_getElem
  · simp [xorL]
  · intro i h1 h2
    simp only [xorL, List.getElem_set, List.getElem_mapIdx]
    by_cases e : n = i
    · subst e; simp [List.getD, List.getElem?_eq_getElem h]
    · rw [if_neg e]
      have : (i < n) ↔ (i < n + 1) := by omega
      simp [this]
/-- a key as a block, each byte changed by a mark -/
def markL (k : List UInt8) (m : UInt8) : List UInt8 := xorL (padK k) m 64
theorem markL_len (k : List UInt8) (m : UInt8) : (markL k m).length = 64 := by rw [markL, xorL_len, padK_len]
/-- the tag of bytes under a key -/
def tagL (k s : List UInt8) : List UInt8 := shaB salts (markL k 92 ++ shaB salts (markL k 54 ++ s))
theorem tagL_len (k s : List UInt8) : (tagL k s).length = 32 := shaB_len _ _
theorem xor_u8 (a b : UInt8) : bits .xor .u8 (a.toNat : Int) (b.toNat : Int) = (((a ^^^ b).toNat : Nat) : Int) := by
  rw [Go.u8_xor_nat _ _ (UInt8.toNat_lt _) (UInt8.toNat_lt _), UInt8.toNat_xor]
theorem drop_zeros (l : List UInt8) : (List.replicate 64 (0 : UInt8)).drop l.length = List.replicate (64 - l.length) 0 := by rw [List.drop_replicate]

set_option maxRecDepth 100000 in
set_option maxHeartbeats 4000000 in
theorem marked_any (k : List UInt8) (m : UInt8) (hk : k.length ≤ 1000000000) (w : World) (hT : SaltAt w salts) :
    Calls Tryz.prog 129 #[.string (str k), .int .u8 (m.toNat : Int)] w fun e w' => e = .returned (.string (str (markL k m))) ∧ Below w.heap.size w w' := by
  have hs := sum_any salts salts_small k hk w hT
  have hmk : ∀ W : World, (Instr.makeSlice 70 (.int .i64 64) (.int .i64 64)).run Tryz.prog W = .ok (.slice (some ⟨W.heap.size, 0, none⟩) 64 64) (W.alloc (.cells (madeCells (Value.int .u8 0).cells 64) 5)) := fun W => run_make_bytes 64 (by omega) W
  obtain ⟨q, hq⟩ : ∃ q, q = keyL k := ⟨_, rfl⟩
  have hql : q.length ≤ 64 := by rw [hq]; exact keyL_len k
  obtain ⟨P, hP⟩ : ∃ P, P = padK k := ⟨_, rfl⟩
  have hPq : q ++ (List.replicate 64 (0 : UInt8)).drop q.length = P := by rw [drop_zeros, hP, hq]; rfl
  have hPl : P.length = 64 := by rw [hP]; exact padK_len k
  have hfin : markL k m = xorL P m 64 := by rw [hP]; rfl
  have hb0 : ∀ W : World, ByteBlk (W.alloc (.cells (madeCells (Value.int .u8 0).cells 64) 5)) W.heap.size (List.replicate 64 0) := fun W => byteBlk_made W 64
  have hbig : 64 < k.length → shaB salts k = q := by intro h; rw [hq]; exact (if_pos h).symm
  have hsmall : ¬ 64 < k.length → k = q := by intro h; rw [hq]; exact (if_neg h).symm
  replace hs := Lib.hid hs
  replace hq := Lib.hid hq
  replace hql := Lib.hid hql
  replace hPq := Lib.hid hPq
  replace hPl := Lib.hid hPl
  replace hfin := Lib.hid hfin
  replace hb0 := Lib.hid hb0
  replace hbig := Lib.hid hbig
  replace hsmall := Lib.hid hsmall
  clear hP hk hT
  obtain ⟨v, hv⟩ : ∃ v : Int, v = (m.toNat : Int) := ⟨_, rfl⟩
  rw [← hv]
  have hx : ∀ b : UInt8, bits .xor .u8 (b.toNat : Int) v = (((b ^^^ m).toNat : Nat) : Int) := fun b => by rw [hv]; exact xor_u8 b m
  replace hv := Lib.hid hv
  replace hx := Lib.hid hx
  go_enter Tryz.func129, Tryz.ntmps129
  go_upto_if 9 with fail
  go_cut [0] from 9 (fun v wx => v = .string (str q) ∧ Below w.heap.size w wx)
  case first =>
    by_cases h : 64 < k.length
    · have hI : (64 : Int) < (k.length : Int) := by omega
      have hq2 := hbig.out h
      rw [hq2] at hs
      replace hq2 := Lib.hid hq2
      clear h
      go_wp2_with (go_at_call 68; (with_reducible refine hs.out.mono ?_); rintro e w1 ⟨rfl, b1⟩; replace b1 := Lib.hid b1)
      go_meet
      exact ⟨rfl, b1.out⟩
    · have hI : ¬ (64 : Int) < (k.length : Int) := by omega
      have hq2 := hsmall.out h
      replace hq2 := Lib.hid hq2
      clear h
      go_wp2
      go_meet
      exact ⟨by rw [hq2.out], Below.refl _ _⟩
  case rest =>
  obtain ⟨rfl, hB⟩ := hcut
  obtain ⟨G, hG⟩ : ∃ G, G = wc.heap.size := ⟨_, rfl⟩
  have hbw := hb0.out wc
  rw [← hG] at hbw
  replace hbw := Lib.hid hbw
  have hwG : w.heap.size ≤ G := by rw [hG]; exact hB.size
  replace hB := Lib.hid hB
  replace hwG := Lib.hid hwG
  go_wp2_with (refine wpList_copy_text rfl (.tmp 13) (.tmp 14) rfl wc.heap.size 64 64 (List.replicate 64 0) q rfl rfl (hb0.out wc) hql.out (by rw [List.length_replicate]; exact hql.out) ?_; intro w5 B5 K5; rw [hPq.out] at B5; replace B5 := Lib.hid B5; replace K5 := Lib.hid K5)
  have hB5 : Below w.heap.size w w5 := (hB.out.alloc hB.out.size _).trans (K5.out.below (by have := hB.out.size; simp; omega) (by simp; exact hB.out.size))
  have hB5' : ByteBlk w5 G (xorL P m 0) := by rw [xorL_zero, hG]; exact B5.out
  rw [← hG]
  replace hB5 := Lib.hid hB5
  replace hB5' := Lib.hid hB5'
  clear B5 K5 hB hbw hG
  go_loopg [18] 64 (fun gn s18 wr => ∃ i : Nat, s18 = .int .i64 (i : Int) ∧ i + gn = 64 ∧ ByteBlk wr G (xorL P m i) ∧ Below w.heap.size w wr)
  case atStart => exact ⟨0, rfl, rfl, hB5'.out, hB5.out⟩
  case round =>
    clear hB5 hB5'
    obtain ⟨i, rfl, hi, hO, hB⟩ := hrel
    by_cases h0 : gk = 0
    · obtain rfl : i = 64 := by omega
      have ht := hO.text 64
      rw [xorL_len, hPl.out, ← hfin.out] at ht
      replace hO := Lib.hid hO
      clear hi h0
      go_wp2
      go_ret
      exact ⟨rfl, hB⟩
    · obtain ⟨K, rfl⟩ : ∃ K : Nat, gk = K + 1 := ⟨gk - 1, by omega⟩
      have i1 : (i : Int) < 64 := by omega
      have i0 : (0 : Int) ≤ (i : Int) := by omega
      have hil : i < P.length := by rw [hPl.out]; omega
      have hc := hO.cell (i := i) (by rw [xorL_len]; exact hil)
      have hf := hO.free i
      rw [xorL_at _ _ _ hil] at hc
      have hput := hO.put (i := i) (n := ((P.getD i 0 ^^^ m).toNat : Int)) ⟨Int.natCast_nonneg _, by have := UInt8.toNat_lt (P.getD i 0 ^^^ m); omega⟩
      rw [Int.toNat_natCast, UInt8.ofNat_toNat, xorL_step P m i hil] at hput
      have hx2 := hx.out (P.getD i 0)
      obtain ⟨n1, hn1⟩ : ∃ n : Nat, n = (P.getD i 0).toNat := ⟨_, rfl⟩
      obtain ⟨n2, hn2⟩ : ∃ n : Nat, n = (P.getD i 0 ^^^ m).toNat := ⟨_, rfl⟩
      rw [← hn1] at hc hx2
      rw [← hn2] at hx2 hput
      have hi2 := Lib.hid hi
      replace hput := Lib.hid hput
      replace hO := Lib.hid hO
      clear hn1 hn2 hi h0 hil
      go_wp2
      go_roundg K
      case measure => omega
      case rel => exact ⟨i + 1, by go_num, by have := hi2.out; omega, hput.out, hB.setCell (p := ⟨G, i, none⟩) hwG.out _⟩
end Go.Proofs.YtcdcipfojfnblaaGreatDoor.sha
end
section
namespace Go.Proofs.YtcdcipfojfnblaaGreatDoor.sha
open Go.RowKit
attribute [local go_sem ↓] Go.wp_at_zero Go.wp_at_succ
attribute [local go_sem] str_size str_append conv_one conv_one_drew
set_option linter.unusedVariables false
set_option maxRecDepth 100000

def preL (P : List UInt8) (m : UInt8) (i : Nat) : List UInt8 := (P.take i).map (· ^^^ m)
theorem preL_step (P : List UInt8) (m : UInt8) (i : Nat) (h : i < P.length) : preL P m (i + 1) = preL P m i ++ [P.getD i 0 ^^^ m] := by
  unfold preL
  rw [List.take_add_one, List.getElem?_eq_getElem h, List.map_append]
  congr 1
  simp [List.getD, List.getElem?_eq_getElem h]
theorem preL_len (P : List UInt8) (m : UInt8) (i : Nat) (h : i ≤ P.length) : (preL P m i).length = i := by simp [preL]; omega
theorem preL_all (P : List UInt8) (m : UInt8) (h : P.length = 64) : preL P m 64 = xorL P m 64 := by
  apply List.ext_getElem
  · simp [preL, xorL, h]
  · intro i h1 h2
    have hi : i < 64 := by rw [xorL_len, h] at h2; exact h2
    simp [preL, xorL, hi]
theorem str_getD (l : List UInt8) (i : Nat) (h : i < (str l).size) : (str l)[i]'h = l.getD i 0 := by
  have h2 : i < l.length := by rwa [str_size] at h
  simp [List.getD, List.getElem?_eq_getElem h2]
  rfl
set_option maxRecDepth 100000 in
set_option maxHeartbeats 4000000 in
theorem rtag_any (k s : List UInt8) (hk : k.length ≤ 1000000000) (hs : s.length ≤ 100000000) (w : World) :
    Calls Tryz.prog 75 #[.string (str k), .string (str s)] w fun e w' => e = .returned (.string (str (tagL k s))) ∧ Below w.heap.size w w' := by
  have hsk := rsum_any k hk w
  obtain ⟨q, hq⟩ : ∃ q, q = keyL k := ⟨_, rfl⟩
  have hql : q.length ≤ 64 := by rw [hq]; exact keyL_len k
  obtain ⟨P, hP⟩ : ∃ P, P = padK k := ⟨_, rfl⟩
  have hPl : P.length = 64 := by rw [hP]; exact padK_len k
  have hPat : ∀ i, i < q.length → P.getD i 0 = q.getD i 0 := fun i hi => by
    rw [hP, padK, ← hq]; simp [List.getD, List.getElem?_append_left hi]
  have hPz : ∀ i, ¬ i < q.length → P.getD i 0 = 0 := fun i hi => by
    rw [hP, padK, ← hq, List.getD_eq_getElem?_getD, List.getElem?_append_right (by omega), List.getElem?_replicate]
    split <;> rfl
  have hf1 : preL P 54 64 = markL k 54 := by rw [preL_all P 54 hPl, hP]; rfl
  have hf2 : preL P 92 64 = markL k 92 := by rw [preL_all P 92 hPl, hP]; rfl
  have hin := fun w' => rsum_any (markL k 54 ++ s) (by rw [List.length_append, markL_len]; omega) w'
  have hout := fun w' => rsum_any (markL k 92 ++ shaB salts (markL k 54 ++ s)) (by rw [List.length_append, markL_len, shaB_len]; decide) w'
  have htag : shaB salts (markL k 92 ++ shaB salts (markL k 54 ++ s)) = tagL k s := rfl
  rw [htag] at hout
  have hbig : 64 < k.length → shaB salts k = q := by intro h; rw [hq]; exact (if_pos h).symm
  have hsmall : ¬ 64 < k.length → k = q := by intro h; rw [hq]; exact (if_neg h).symm
  have ml1 := markL_len k 54
  have ml2 := markL_len k 92
  obtain ⟨M1, hM1⟩ : ∃ M, M = markL k 54 := ⟨_, rfl⟩
  obtain ⟨M2, hM2⟩ : ∃ M, M = markL k 92 := ⟨_, rfl⟩
  rw [← hM1] at hin hout hf1 ml1
  rw [← hM2] at hout hf2 ml2
  obtain ⟨I, hI0⟩ : ∃ I, I = shaB salts (M1 ++ s) := ⟨_, rfl⟩
  have hIl : I.length = 32 := by rw [hI0]; exact shaB_len _ _
  rw [← hI0] at hin hout
  have room1 : ¬ 9223372036854775807 < 64 + s.length := by omega
  have room2 : ¬ 9223372036854775807 < 64 + 32 := by omega
  clear hP hq hk hs hM1 hM2 hI0 htag
  replace hsk := Lib.hid hsk; replace hql := Lib.hid hql; replace hPl := Lib.hid hPl; replace hPat := Lib.hid hPat; replace hPz := Lib.hid hPz
  replace hf1 := Lib.hid hf1; replace hf2 := Lib.hid hf2; replace hin := Lib.hid hin; replace hout := Lib.hid hout; replace hbig := Lib.hid hbig; replace hsmall := Lib.hid hsmall
  go_enter Tryz.func75, Tryz.ntmps75
  go_upto_if 11 with fail
  go_cut [0] from 11 (fun v wx => v = .string (str q) ∧ Below w.heap.size w wx)
  case first =>
    by_cases h : 64 < k.length
    · have hI : (64 : Int) < (k.length : Int) := by omega
      have hq2 := hbig.out h
      rw [hq2] at hsk
      replace hq2 := Lib.hid hq2
      clear h
      go_wp2_with (go_at_call 25; (with_reducible refine hsk.out.mono ?_); rintro e w1 ⟨rfl, b1⟩; replace b1 := Lib.hid b1)
      go_meet
      exact ⟨rfl, b1.out⟩
    · have hI : ¬ (64 : Int) < (k.length : Int) := by omega
      have hq2 := hsmall.out h
      replace hq2 := Lib.hid hq2
      clear h
      go_wp2
      go_meet
      exact ⟨by rw [hq2.out], Below.refl _ _⟩
  case rest =>
  obtain ⟨rfl, hB⟩ := hcut
  replace hB := Lib.hid hB
  go_wp2
  go_loopg [5, 6, 7] 64 (fun gn s5 s6 s7 wr => ∃ i : Nat, s5 = .string (str (preL P 54 i)) ∧ s6 = .string (str (preL P 92 i)) ∧ s7 = .int .i64 (i : Int) ∧ i + gn = 64 ∧ Below w.heap.size w wr)
  case atStart => exact ⟨0, rfl, rfl, rfl, rfl, hB.out⟩
  case round =>
    clear hB
    obtain ⟨i, rfl, rfl, rfl, hi, hB⟩ := hrel
    by_cases h0 : gk = 0
    · obtain rfl : i = 64 := by omega
      rw [hf1.out, hf2.out]
      replace hB := Lib.hid hB
      clear hi h0
      go_wp2_with (first
        | (go_at_call 25; (with_reducible refine (hin.out _).mono ?_); rintro e w1 ⟨rfl, b1⟩; replace hB := Lib.hid (belowCont hB.out b1))
        | (go_at_call 25; (with_reducible refine (hout.out _).mono ?_); rintro e w1 ⟨rfl, b1⟩; replace hB := Lib.hid (belowCont hB.out b1)))
      go_ret
      exact ⟨rfl, hB.out⟩
    · obtain ⟨K, rfl⟩ : ∃ K : Nat, gk = K + 1 := ⟨gk - 1, by omega⟩
      have i1 : (i : Int) < 64 := by omega
      have i0 : (0 : Int) ≤ (i : Int) := by omega
      have hil : i < P.length := by rw [hPl.out]; omega
      have l1 := preL_len P 54 i (by omega)
      have l2 := preL_len P 92 i (by omega)
      have n1 := preL_step P 54 i hil
      have n2 := preL_step P 92 i hil
      have room3 : ¬ 9223372036854775807 < i + 1 := by omega
      obtain ⟨b, hb⟩ : ∃ b, b = P.getD i 0 := ⟨_, rfl⟩
      rw [← hb] at n1 n2
      have hpat := hPat.out i
      have hpz := hPz.out i
      rw [← hb] at hpat hpz
      obtain ⟨nb, hnb⟩ : ∃ n : Nat, n = b.toNat := ⟨_, rfl⟩
      have x1 : bits .xor .u8 (nb : Int) 54 = (((b ^^^ 54).toNat : Nat) : Int) := by rw [hnb]; exact xor_u8 b 54
      have x2 : bits .xor .u8 (nb : Int) 92 = (((b ^^^ 92).toNat : Nat) : Int) := by rw [hnb]; exact xor_u8 b 92
      obtain ⟨c1, hc1⟩ : ∃ n : Nat, n = (b ^^^ 54).toNat := ⟨_, rfl⟩
      obtain ⟨c2, hc2⟩ : ∃ n : Nat, n = (b ^^^ 92).toNat := ⟨_, rfl⟩
      rw [← hc1] at x1
      rw [← hc2] at x2
      have m1 : preL P 54 (i + 1) = preL P 54 i ++ [UInt8.ofNat c1] := by rw [n1, hc1, UInt8.ofNat_toNat]
      have m2 : preL P 92 (i + 1) = preL P 92 i ++ [UInt8.ofNat c2] := by rw [n2, hc2, UInt8.ofNat_toNat]
      have hcv2 := conv_at ((wr.alloc (.cells #[.int .u8 (c1 : Int)] 5)).alloc (.cells #[.int .u8 (c2 : Int)] 5)) (wr.heap.size + 1) 1 (c2 : Int) (cell_of_row _ _ 0 _ _ _ (boxed2b _ _ _ _))
      have hi2 := Lib.hid hi
      replace m1 := Lib.hid m1; replace m2 := Lib.hid m2
      replace hB := Lib.hid hB
      clear n1 n2 hc1 hc2 hi h0 hil
      by_cases hlt : i < q.length
      · have hI : (i : Int) < (q.length : Int) := by omega
        have hget : ∀ h, (((str q)[i]'h).toNat : Int) = (nb : Int) := fun h => by rw [str_getD, ← hpat hlt, hnb]
        clear hpat hpz hb hnb hlt
        go_wp2
        go_roundg K
        case measure => omega
        case rel => exact ⟨i + 1, by rw [m1.out] <;> first | rfl | simp, by rw [m2.out] <;> first | rfl | simp, by go_num, by have := hi2.out; omega, (hB.out.alloc hB.out.size _).alloc (by have := hB.out.size; simp; omega) _⟩
      · have hI : ¬ (i : Int) < (q.length : Int) := by omega
        have hz : nb = 0 := by rw [hnb, hpz hlt]; rfl
        subst hz
        have x1' : bits .xor .u8 0 54 = (c1 : Int) := x1
        have x2' : bits .xor .u8 0 92 = (c2 : Int) := x2
        clear hpat hpz hb hnb hlt x1 x2
        go_wp2
        go_roundg K
        case measure => omega
        case rel => exact ⟨i + 1, by rw [m1.out] <;> first | rfl | simp, by rw [m2.out] <;> first | rfl | simp, by go_num, by have := hi2.out; omega, (hB.out.alloc hB.out.size _).alloc (by have := hB.out.size; simp; omega) _⟩
end Go.Proofs.YtcdcipfojfnblaaGreatDoor.sha
end
section
namespace Go.Proofs.YtcdcipfojfnblaaGreatDoor.sha
open Go.RowKit
attribute [local go_sem ↓] Go.wp_at_zero Go.wp_at_succ
attribute [local go_sem] str_size str_append
set_option linter.unusedVariables false
set_option maxRecDepth 100000

/-- from place o of block b on these texts lie -/
def Parts (w : World) (b o : Nat) (ls : List (List UInt8)) : Prop := (∀ j l, ls[j]? = some l → w.cell? ⟨b, o + j, none⟩ = some (.string (str l))) ∧ b < w.heap.size
theorem Parts.below {w w' : World} {b o : Nat} {ls : List (List UInt8)} (h : Parts w b o ls) (k : Below w.heap.size w w') : Parts w' b o ls :=
  ⟨fun j l hj => (k.cell h.2).trans (h.1 j l hj), Nat.lt_of_lt_of_le h.2 k.size⟩
theorem parts_news {w : World} {b o : Nat} {ls : List (List UInt8)} (h : Parts w b o ls) : ∀ j u, (ls.map fun l => Value.string (str l))[j]? = some u → w.cell? ((⟨b, o, none⟩ : Addr).add j) = some u := by
  intro j u hj
  rw [List.getElem?_map] at hj
  obtain ⟨l, hl, rfl⟩ := Option.map_eq_some_iff.1 hj
  have e : (⟨b, o, none⟩ : Addr).add j = ⟨b, o + j, none⟩ := by unfold Addr.add; split <;> simp_all
  rw [e]; exact h.1 j l hl
theorem join_nil : ∀ ls : List (List UInt8), Lib.join ls [] = ls.flatten
  | [] => rfl
  | [l] => by simp [Lib.join]
  | l :: m :: r => by
    have := join_nil (m :: r)
    simp [Lib.join] at this ⊢
    first | exact this | simpa using this | simp [this]
theorem strs_data (ls : List (List UInt8)) : (ls.map str).map (·.data.toList) = ls := by
  rw [List.map_map]; exact List.map_id'' (fun l => rfl) ls
theorem sumOf_any (ls : List (List UInt8)) (b o c : Nat) (hn : ls.length ≤ 1000) (hc : ls.length ≤ c) (hl : ls.flatten.length ≤ 1000000000) (w : World) (hP : Parts w b o ls) (hT : SaltAt w salts) :
    Calls Tryz.prog 128 #[.slice (some ⟨b, o, none⟩) ls.length c] w fun e w' => e = .returned (.string (str (shaB salts ls.flatten))) ∧ Below w.heap.size w w' := by
  have hj : Calls Tryz.prog 134 #[.slice (some ⟨b, o, none⟩) ls.length c, .string ⟨#[]⟩] w fun e w' => e = .returned (.string (str ls.flatten)) ∧ Below w.heap.size w w' := by
    have h := Go.Proofs.Tryz.strings_Join b o c (ls.map str) ⟨#[]⟩ w (fun j x hx => by
      rw [List.getElem?_map] at hx
      obtain ⟨l, hl, rfl⟩ := Option.map_eq_some_iff.1 hx
      exact hP.1 j l hl) hP.2 (by simp; omega) (by simpa using hc) (by rw [strs_data]; show (Lib.join ls []).length ≤ _; rw [join_nil]; omega)
    rw [strs_data] at h
    have e : Lib.join ls (⟨#[]⟩ : ByteArray).data.toList = ls.flatten := join_nil ls
    rw [e, List.length_map] at h
    exact h
  have hs := fun w' h => sum_any salts salts_small ls.flatten hl w' h
  clear hP hc hn hl
  obtain ⟨n, hn⟩ : ∃ n, n = ls.length := ⟨_, rfl⟩
  obtain ⟨F, hF⟩ : ∃ F, F = ls.flatten := ⟨_, rfl⟩
  rw [← hn, ← hF] at hj
  rw [← hF] at hs
  rw [← hn, ← hF]
  clear hn hF
  replace hj := Lib.hid hj
  replace hs := Lib.hid hs
  replace hT := Lib.hid hT
  go_enter Tryz.func128, Tryz.ntmps128
  go_wp2_with (first
    | (go_at_call 134; (with_reducible refine hj.out.mono ?_); rintro e w1 ⟨rfl, b1⟩; replace b1 := Lib.hid b1)
    | (go_at_call 68; (with_reducible refine (hs.out _ (hT.out.keep b1.out)).mono ?_); rintro e w2 ⟨rfl, b2⟩; replace b2 := Lib.hid (belowCont b1.out b2)))
  go_ret
  exact ⟨rfl, b2.out⟩
theorem strInfo : (Tryz.prog.info? 9).map (fun i => (i.zero, i.size, i.bytes)) = some (some (.string ⟨#[]⟩), 1, 16) := by kernel_rfl
theorem parts_two (w : World) (x y : List UInt8) : Parts (w.alloc (.cells #[.string (str x), .string (str y)] 9)) w.heap.size 0 [x, y] :=
  ⟨fun j l hj => by
    rw [cell_of_row _ _ _ _ _ _ (heap_alloc_new w _)]
    match j, hj with
    | 0, hj => simp at hj; subst hj; rfl
    | 1, hj => simp at hj; subst hj; rfl, by simp⟩
theorem parts_one (w : World) (x : List UInt8) : Parts (w.alloc (.cells #[.string (str x)] 9)) w.heap.size 0 [x] :=
  ⟨fun j l hj => by
    rw [cell_of_row _ _ _ _ _ _ (heap_alloc_new w _)]
    match j, hj with
    | 0, hj => simp at hj; subst hj; rfl, by simp⟩
set_option maxRecDepth 100000 in
set_option maxHeartbeats 4000000 in
theorem tagOf_any (k : List UInt8) (ls : List (List UInt8)) (b o c : Nat) (hk : k.length ≤ 1000000000) (hn0 : 0 < ls.length) (hn : ls.length ≤ 100) (hl : ls.flatten.length ≤ 100000000) (w : World) (hP : Parts w b o ls) (hT : SaltAt w salts) :
    Calls Tryz.prog 113 #[.string (str k), .slice (some ⟨b, o, none⟩) ls.length c] w fun e w' => e = .returned (.string (str (tagL k ls.flatten))) ∧ Below w.heap.size w w' := by
  have hm1 : ∀ w', SaltAt w' salts → Calls Tryz.prog 129 #[.string (str k), .int .u8 54] w' fun e w2 => e = .returned (.string (str (markL k 54))) ∧ Below w'.heap.size w' w2 := fun w' h => marked_any k 54 hk w' h
  have hm2 : ∀ w', SaltAt w' salts → Calls Tryz.prog 129 #[.string (str k), .int .u8 92] w' fun e w2 => e = .returned (.string (str (markL k 92))) ∧ Below w'.heap.size w' w2 := fun w' h => marked_any k 92 hk w' h
  have ml1 := markL_len k 54
  have ml2 := markL_len k 92
  have hs1 := fun w' g cap hc h h2 => sumOf_any (markL k 54 :: ls) g 0 cap (by rw [List.length_cons]; omega) hc (by rw [List.flatten_cons, List.length_append, ml1]; omega) w' h h2
  have hs2 := fun w' g h h2 => sumOf_any [markL k 92, shaB salts (markL k 54 ++ ls.flatten)] g 0 2 (by simp) (by simp) (by simp [ml2, shaB_len]) w' h h2
  have hfin : shaB salts [markL k 92, shaB salts (markL k 54 ++ ls.flatten)].flatten = tagL k ls.flatten := by simp [tagL]
  have hI : shaB salts (markL k 54 :: ls).flatten = shaB salts (markL k 54 ++ ls.flatten) := by simp
  rw [hfin] at hs2
  rw [hI] at hs1
  obtain ⟨M1, hM1⟩ : ∃ M, M = markL k 54 := ⟨_, rfl⟩
  obtain ⟨M2, hM2⟩ : ∃ M, M = markL k 92 := ⟨_, rfl⟩
  obtain ⟨I, hI0⟩ : ∃ I, I = shaB salts (markL k 54 ++ ls.flatten) := ⟨_, rfl⟩
  rw [← hI0] at hs1 hs2
  rw [← hM1] at hm1 hs1
  rw [← hM2] at hm2 hs2
  obtain ⟨i, hi, hz, hsz, hby⟩ := info_parts strInfo
  obtain ⟨n, hnn⟩ : ∃ n, n = ls.length := ⟨_, rfl⟩
  have hs1' : ∀ w' g cap, 1 + n ≤ cap → Parts w' g 0 (M1 :: ls) → SaltAt w' salts → Calls Tryz.prog 128 #[.slice (some ⟨g, 0, none⟩) (1 + n) cap] w' fun e w2 => e = .returned (.string (str I)) ∧ Below w'.heap.size w' w2 := fun w' g cap hc h h2 => by
    have e : (M1 :: ls).length = 1 + n := by rw [hnn]; simp; omega
    have := hs1 w' g cap (by rw [e]; exact hc) h h2
    rwa [e] at this
  have hs2' : ∀ w' g, Parts w' g 0 [M2, I] → SaltAt w' salts → Calls Tryz.prog 128 #[.slice (some ⟨g, 0, none⟩) 2 2] w' fun e w2 => e = .returned (.string (str (tagL k ls.flatten))) ∧ Below w'.heap.size w' w2 := fun w' g h h2 => hs2 w' g h h2
  rw [← hnn]
  clear hM1 hM2 hI0 hfin hI hs1 hs2 ml1 ml2
  replace hm1 := Lib.hid hm1; replace hm2 := Lib.hid hm2; replace hs1' := Lib.hid hs1'; replace hs2' := Lib.hid hs2'
  replace hP := Lib.hid hP; replace hT := Lib.hid hT; replace hnn := Lib.hid hnn
  replace hn := Lib.hid hn; replace hn0 := Lib.hid hn0; replace hl := Lib.hid hl; replace hk := Lib.hid hk
  replace hi := Lib.hid hi; replace hz := Lib.hid hz; replace hsz := Lib.hid hsz; replace hby := Lib.hid hby
  go_enter Tryz.func113, Tryz.ntmps113
  go_wp2_with (first
    | (go_at_call 129; (with_reducible refine (hm1.out _ hT.out).mono ?_); rintro e w1 ⟨rfl, b1⟩; replace b1 := Lib.hid b1)
    | (at_builtin; refine wpList_append_lies _ rfl (.tmp 8) (.tmp 9) 107 rfl w.heap.size 9 i (.string ⟨#[]⟩) 1 16 Tryz.underlying107 hi.out hz.out hsz.out hby.out rfl (by decide) (.slice (some ⟨w1.heap.size, 0, none⟩) 1 1) 1 [.string (str M1)] rfl ?own ⟨b, o, none⟩ n c (ls.map fun l => .string (str l)) rfl ?len ?news ?one ?pos ?mx ?byt ?base _ rfl ?_; (case own => exact World.ownsRow_lit w1 #[.string (str M1)] 1 b1.out.size (by decide) rfl); (case len => rw [hnn.out]; simp); (case news => exact parts_news ((hP.out.below b1.out).below ((Below.refl _ w1).alloc (Nat.le_refl _) _))); (case one => intro u hu; simp at hu; obtain ⟨l, _, rfl⟩ := hu; rfl); (case pos => rw [hnn.out]; exact hn0.out); (case mx => have := hn.out; rw [hnn.out]; unfold maxLen; omega); (case byt => have := hn.out; rw [hnn.out]; omega); (case base => have := b1.out.size; simp; omega); intro g cap w2 hown hgrow hat hlt; replace hown := Lib.hid hown; replace hgrow := Lib.hid hgrow; replace hat := Lib.hid hat; replace hlt := Lib.hid hlt))
  have hlen : 1 + n ≤ cap := by
    rcases hown.out.2 with ⟨h', _⟩ | ⟨g', cap', cur, h', _, _, h1, _⟩
    · simp at h'
    · simp only [Value.slice.injEq] at h'
      rw [h'.2.2]; exact h1
  have hP2 : Parts w2 g 0 (M1 :: ls) := ⟨fun j l hj => by
    have hjl : j < 1 + n := by
      have := (List.getElem?_eq_some_iff.1 hj).1
      rw [hnn.out]; simp at this; omega
    have h1 := hown.out.cellAt j (by omega)
    rw [Nat.zero_add, h1]
    match j, hj with
    | 0, hj => simp at hj; subst hj; rfl
    | j + 1, hj =>
      simp at hj
      simp [hj], hlt.out⟩
  have hB2 : Below w.heap.size w w2 := (b1.out.alloc b1.out.size _).grown hgrow.out (by have := b1.out.size; simp; omega) (fun g hg => by simp [Value.ownBlock] at hg; rw [← hg]; exact b1.out.size)
  replace hP2 := Lib.hid hP2; replace hB2 := Lib.hid hB2
  clear hown hgrow hat
  replace hlen := Lib.hid hlen
  go_wp2_with (first
    | (go_at_call 128; (with_reducible refine (hs1'.out _ _ _ hlen.out hP2.out (hT.out.keep hB2.out)).mono ?_); rintro e w3 ⟨rfl, b3⟩; replace hB2 := Lib.hid (belowCont hB2.out b3); clear b3)
    | (go_at_call 129; (with_reducible refine (hm2.out _ (hT.out.keep hB2.out)).mono ?_); rintro e w4 ⟨rfl, b4⟩; replace hB2 := Lib.hid (belowCont hB2.out b4); have hP4 := parts_two w4 M2 I; have hB4 := hB2.out.alloc hB2.out.size (.cells #[.string (str M2), .string (str I)] 9); replace hP4 := Lib.hid hP4; replace hB4 := Lib.hid hB4; clear b4)
    | (go_at_call 128; (with_reducible refine (hs2'.out _ _ hP4.out (hT.out.keep hB4.out)).mono ?_); rintro e w5 ⟨rfl, b5⟩; replace hB4 := Lib.hid (belowCont hB4.out b5)))
  go_ret
  exact ⟨rfl, hB4.out⟩
theorem tag_any (k s : List UInt8) (hk : k.length ≤ 1000000000) (hs : s.length ≤ 100000000) (w : World) (hT : SaltAt w salts) :
    Calls Tryz.prog 112 #[.string (str k), .string (str s)] w fun e w' => e = .returned (.string (str (tagL k s))) ∧ Below w.heap.size w w' := by
  have hP := parts_one w s
  have hB := (Below.refl _ w).alloc (Nat.le_refl w.heap.size) (.cells #[.string (str s)] 9)
  have ht : Calls Tryz.prog 113 #[.string (str k), .slice (some ⟨w.heap.size, 0, none⟩) 1 1] (w.alloc (.cells #[.string (str s)] 9)) fun e w' => e = .returned (.string (str (tagL k s))) ∧ Below (w.alloc (.cells #[.string (str s)] 9)).heap.size (w.alloc (.cells #[.string (str s)] 9)) w' := by
    have := tagOf_any k [s] w.heap.size 0 1 hk (by simp) (by simp) (by simpa using hs) _ hP (hT.keep hB)
    have e : [s].flatten = s := by simp
    rw [e] at this; exact this
  clear hP hT hk hs
  replace ht := Lib.hid ht
  replace hB := Lib.hid hB
  go_enter Tryz.func112, Tryz.ntmps112
  go_wp2_with (go_at_call 113; (with_reducible refine ht.out.mono ?_); rintro e w1 ⟨rfl, b1⟩; replace b1 := Lib.hid b1)
  go_ret
  exact ⟨rfl, belowCont hB.out b1.out⟩
theorem extract_any (k s : List UInt8) (hk : k.length ≤ 1000000000) (hs : s.length ≤ 100000000) (w : World) (hT : SaltAt w salts) :
    Calls Tryz.prog 91 #[.string (str k), .string (str s)] w fun e w' => e = .returned (.string (str (tagL k s))) ∧ Below w.heap.size w w' := by
  have ht := tag_any k s hk hs w hT
  clear hT hk hs
  replace ht := Lib.hid ht
  go_enter Tryz.func91, Tryz.ntmps91
  go_wp2_with (go_at_call 112; (with_reducible refine ht.out.mono ?_); rintro e w1 ⟨rfl, b1⟩; replace b1 := Lib.hid b1)
  go_ret
  exact ⟨rfl, b1.out⟩
end Go.Proofs.YtcdcipfojfnblaaGreatDoor.sha
end
section
namespace Go.Proofs.YtcdcipfojfnblaaGreatDoor.sha
open Go.RowKit
attribute [local go_sem ↓] Go.wp_at_zero Go.wp_at_succ
set_option linter.unusedVariables false
set_option maxRecDepth 100000

set_option maxRecDepth 100000 in
theorem known_tag : tagL [] [] = [182, 19, 103, 154, 8, 20, 217, 236, 119, 47, 149, 215, 120, 195, 95, 197, 255, 22, 151, 196, 147, 113, 86, 83, 198, 199, 18, 20, 66, 146, 197, 173] := by decide +kernel
theorem cut_min (s : ByteArray) (k : Nat) : s.extract 0 (min (s.size : Int) k).toNat = str (s.data.toList.take k) := by
  by_cases h : s.size ≤ k
  · rw [show (min (s.size : Int) k).toNat = s.size by omega]; exact cut_whole s k h
  · rw [show (min (s.size : Int) k).toNat = k by omega]; exact cut_text s k
end Go.Proofs.YtcdcipfojfnblaaGreatDoor.sha
end
section
namespace Go.Proofs.YtcdcipfojfnblaaGreatDoor.sha
open Go.RowKit
attribute [local go_sem ↓] Go.wp_at_zero Go.wp_at_succ
attribute [local go_sem] str_size str_append conv_one conv_one_drew
set_option linter.unusedVariables false
set_option maxRecDepth 100000

/-- the i-th piece, and all of them -/
def lastK (k p : List UInt8) : Nat → List UInt8
  | 0 => []
  | i + 1 => tagL k [lastK k p i, p, [UInt8.ofNat (i + 1)]].flatten
def allK (k p : List UInt8) : Nat → List UInt8
  | 0 => []
  | i + 1 => allK k p i ++ lastK k p (i + 1)
theorem lastK_len (k p : List UInt8) (i : Nat) : (lastK k p i).length ≤ 32 := by
  cases i with
  | zero => exact Nat.zero_le _
  | succ i => exact Nat.le_of_eq (tagL_len _ _)
theorem lastK_len1 (k p : List UInt8) (i : Nat) : (lastK k p (i + 1)).length = 32 := tagL_len _ _
theorem allK_len (k p : List UInt8) (i : Nat) : (allK k p i).length = 32 * i := by
  induction i with
  | zero => rfl
  | succ i ih => rw [allK, List.length_append, ih, lastK_len1]; omega
theorem parts_three (w : World) (o : Obj) (x y z : List UInt8) : Parts ((w.alloc o).alloc (.cells #[.string (str x), .string (str y), .string (str z)] 9)) (w.heap.size + 1) 0 [x, y, z] :=
  ⟨fun j l hj => by
    rw [cell_of_row _ _ _ _ _ _ (boxed2b w _ _ o)]
    match j, hj with
    | 0, hj => simp at hj; subst hj; rfl
    | 1, hj => simp at hj; subst hj; rfl
    | 2, hj => simp at hj; subst hj; rfl, by simp⟩
theorem expand_bad (k p : ByteArray) (x : Int) (h : x < 0 ∨ 8160 < x) (w : World) : Calls Tryz.prog 90 #[.string k, .string p, .int .i64 x] w fun e w' => e = .returned (.tuple #[.string ⟨#[]⟩, .int .i64 1]) ∧ Below w.heap.size w w' := by
  by_cases h0 : x < 0
  · clear h
    go_enter Tryz.func90, Tryz.ntmps90
    go_wp2
    go_returns
    exact ⟨rfl, Below.refl _ _⟩
  · have h1 : 8160 < x := by omega
    clear h
    go_enter Tryz.func90, Tryz.ntmps90
    go_wp2
    go_returns
    exact ⟨rfl, Below.refl _ _⟩
set_option maxRecDepth 100000 in
set_option maxHeartbeats 4000000 in
theorem expand_any (k p : List UInt8) (N : Nat) (hN : N ≤ 8160) (hk : k.length ≤ 1000000) (hp : p.length ≤ 1000000) (w : World) (hT : SaltAt w salts) :
    Calls Tryz.prog 90 #[.string (str k), .string (str p), .int .i64 (N : Int)] w fun e w' => e = .returned (.tuple #[.string (str ((allK k p ((N + 31) / 32)).take N)), .int .i64 0]) ∧ Below w.heap.size w w' := by
  have n0 : ¬ (N : Int) < 0 := by omega
  have n1 : ¬ (8160 : Int) < (N : Int) := by omega
  have n2 : (0 : Int) ≤ (N : Int) := by omega
  obtain ⟨m, hm⟩ : ∃ m, m = (N + 31) / 32 := ⟨_, rfl⟩
  rw [← hm]
  have hkk : k.length ≤ 1000000000 := by omega
  replace hN := Lib.hid hN; replace hm := Lib.hid hm; replace hT := Lib.hid hT
  replace hk := Lib.hid hk; replace hp := Lib.hid hp; replace hkk := Lib.hid hkk
  go_enter Tryz.func90, Tryz.ntmps90
  go_wp2
  go_loopg [8, 9, 10] m (fun gn s8 s9 s10 wr => ∃ i : Nat, s8 = .string (str (allK k p i)) ∧ s9 = .string (str (lastK k p i)) ∧ s10 = .int .i64 ((i : Int) + 1) ∧ i + gn = m ∧ Below w.heap.size w wr)
  case atStart => exact ⟨0, rfl, rfl, rfl, by omega, Below.refl _ _⟩
  case round =>
    obtain ⟨i, rfl, rfl, rfl, hi, hB⟩ := hrel
    have hal := allK_len k p i
    have hll := lastK_len k p i
    by_cases h0 : gk = 0
    · obtain rfl : i = m := by omega
      have hge : ¬ (32 * (i : Int) < (N : Int)) := by have := hm.out; omega
      have hle : (N : Int) ≤ 32 * (i : Int) := by omega
      have hcut : (str (allK k p i)).extract 0 N = str ((allK k p i).take N) := by rw [cut_extract]; simp
      obtain ⟨A, hA⟩ : ∃ A, A = allK k p i := ⟨_, rfl⟩
      rw [← hA] at hal hcut ⊢
      replace hA := Lib.hid hA
      replace hll := Lib.hid hll
      clear hi h0
      go_wp2
      go_returns
      exact ⟨by rw [hA.out]; rfl, hB⟩
    · obtain ⟨K, rfl⟩ : ∃ K : Nat, gk = K + 1 := ⟨gk - 1, by omega⟩
      have hlt : 32 * (i : Int) < (N : Int) := by have := hm.out; omega
      have hi255 : i < 255 := by have := hN.out; omega
      have e1 : ((i : Int) + 1) % 256 = (i : Int) + 1 := by omega
      have e2 : IntKind.u8.wrap ((i : Int) + 1) = (i : Int) + 1 := IntWalk.u8_in _ (by omega)
      have e3 : IntKind.i64.wrap ((i : Int) + 1 + 1) = (i : Int) + 1 + 1 := by rw [IntKind.wrap_i64]; omega
      have e4 : UInt8.ofNat ((i : Int) + 1).toNat = UInt8.ofNat (i + 1) := rfl
      have hll1 := lastK_len1 k p i
      have hroom : ¬ 9223372036854775807 < 32 * i + 32 := by omega
      have htag := tagOf_any k [lastK k p i, p, [UInt8.ofNat (i + 1)]] (wr.heap.size + 1) 0 3 hkk.out (by simp) (by simp) (by have := hp.out; simp; omega) ((wr.alloc (.cells #[.int .u8 ((i : Int) + 1)] 5)).alloc (.cells #[.string (str (lastK k p i)), .string (str p), .string (str [UInt8.ofNat (i + 1)])] 9)) (parts_three wr _ _ _ _) (hT.out.keep ((hB.alloc hB.size _).alloc (by have := hB.size; simp; omega) _))
      have hnl : tagL k [lastK k p i, p, [UInt8.ofNat (i + 1)]].flatten = lastK k p (i + 1) := rfl
      rw [hnl] at htag
      have htag2 : Calls Tryz.prog 113 #[.string (str k), .slice (some ⟨wr.heap.size + 1, 0, none⟩) 3 3] ((wr.alloc (.cells #[.int .u8 ((i : Int) + 1)] 5)).alloc (.cells #[.string (str (lastK k p i)), .string (str p), .string (str [UInt8.ofNat (i + 1)])] 9)) fun e w' => e = .returned (.string (str (lastK k p (i + 1)))) ∧ Below ((wr.alloc (.cells #[.int .u8 ((i : Int) + 1)] 5)).alloc (.cells #[.string (str (lastK k p i)), .string (str p), .string (str [UInt8.ofNat (i + 1)])] 9)).heap.size ((wr.alloc (.cells #[.int .u8 ((i : Int) + 1)] 5)).alloc (.cells #[.string (str (lastK k p i)), .string (str p), .string (str [UInt8.ofNat (i + 1)])] 9)) w' := htag
      have hB2 := (hB.alloc hB.size (.cells #[.int .u8 ((i : Int) + 1)] 5)).alloc (by have := hB.size; simp; omega) (.cells #[.string (str (lastK k p i)), .string (str p), .string (str [UInt8.ofNat (i + 1)])] 9)
      have hnext : allK k p (i + 1) = allK k p i ++ lastK k p (i + 1) := rfl
      obtain ⟨A, hA⟩ : ∃ A, A = allK k p i := ⟨_, rfl⟩
      obtain ⟨L, hL⟩ : ∃ L, L = lastK k p i := ⟨_, rfl⟩
      obtain ⟨L1, hL1⟩ : ∃ L, L = lastK k p (i + 1) := ⟨_, rfl⟩
      rw [← hL, ← hL1] at htag2
      rw [← hA, ← hL1] at hnext
      rw [← hL] at hB2
      rw [← hL1] at hll1
      rw [← hA] at hal
      rw [← hA, ← hL]
      have e5 : UInt8.ofNat (i + 1) = UInt8.ofNat i + 1 := by simp
      rw [e5] at htag2 hB2
      have hi2 := Lib.hid hi
      replace hnext := Lib.hid hnext; replace htag2 := Lib.hid htag2; replace hB2 := Lib.hid hB2; replace hL1 := Lib.hid hL1
      clear htag hnl hll hA hL hi h0
      go_wp2_with (go_at_call 113; (with_reducible refine htag2.out.mono ?_); rintro e w3 ⟨rfl, b3⟩; replace hB2 := Lib.hid (belowCont hB2.out b3); clear b3)
      go_roundg K
      case measure => omega
      case rel => exact ⟨i + 1, by rw [hnext.out] <;> first | rfl | simp, by rw [hL1.out], by first | rfl | (congr 1; omega) | (simp; omega), by have := hi2.out; omega, hB2.out⟩
end Go.Proofs.YtcdcipfojfnblaaGreatDoor.sha
end
section
namespace Go.Proofs.YtcdcipfojfnblaaGreatDoor.sha
open Go.RowKit
attribute [local go_sem ↓] Go.wp_at_zero Go.wp_at_succ
attribute [local go_sem] str_size str_append conv_one conv_one_drew
set_option linter.unusedVariables false
set_option maxRecDepth 100000

set_option maxRecDepth 100000 in
set_option maxHeartbeats 4000000 in
theorem rexpand_any (k p : List UInt8) (N : Nat) (hN : N ≤ 8160) (hk : k.length ≤ 1000000) (hp : p.length ≤ 1000000) (w : World) :
    Calls Tryz.prog 74 #[.string (str k), .string (str p), .int .i64 (N : Int)] w fun e w' => e = .returned (.string (str ((allK k p ((N + 31) / 32)).take N))) ∧ Below w.heap.size w w' := by
  have n2 : (0 : Int) ≤ (N : Int) := by omega
  obtain ⟨m, hm⟩ : ∃ m, m = (N + 31) / 32 := ⟨_, rfl⟩
  rw [← hm]
  have hkk : k.length ≤ 1000000000 := by omega
  replace hN := Lib.hid hN; replace hm := Lib.hid hm
  replace hk := Lib.hid hk; replace hp := Lib.hid hp; replace hkk := Lib.hid hkk
  go_enter Tryz.func74, Tryz.ntmps74
  go_wp2
  go_loopg [7, 8, 9] m (fun gn s8 s9 s10 wr => ∃ i : Nat, s8 = .string (str (allK k p i)) ∧ s9 = .string (str (lastK k p i)) ∧ s10 = .int .i64 ((i : Int) + 1) ∧ i + gn = m ∧ Below w.heap.size w wr)
  case atStart => exact ⟨0, rfl, rfl, rfl, by omega, Below.refl _ _⟩
  case round =>
    obtain ⟨i, rfl, rfl, rfl, hi, hB⟩ := hrel
    have hal := allK_len k p i
    have hll := lastK_len k p i
    by_cases h0 : gk = 0
    · obtain rfl : i = m := by omega
      have hge : ¬ (32 * (i : Int) < (N : Int)) := by have := hm.out; omega
      have hle : (N : Int) ≤ 32 * (i : Int) := by omega
      have hcut : (str (allK k p i)).extract 0 N = str ((allK k p i).take N) := by rw [cut_extract]; simp
      obtain ⟨A, hA⟩ : ∃ A, A = allK k p i := ⟨_, rfl⟩
      rw [← hA] at hal hcut ⊢
      replace hA := Lib.hid hA
      replace hll := Lib.hid hll
      clear hi h0
      go_wp2
      go_ret
      exact ⟨by rw [hA.out]; rfl, hB⟩
    · obtain ⟨K, rfl⟩ : ∃ K : Nat, gk = K + 1 := ⟨gk - 1, by omega⟩
      have hlt : 32 * (i : Int) < (N : Int) := by have := hm.out; omega
      have hi255 : i < 255 := by have := hN.out; omega
      have e1 : ((i : Int) + 1) % 256 = (i : Int) + 1 := by omega
      have e2 : IntKind.u8.wrap ((i : Int) + 1) = (i : Int) + 1 := IntWalk.u8_in _ (by omega)
      have e3 : IntKind.i64.wrap ((i : Int) + 1 + 1) = (i : Int) + 1 + 1 := by rw [IntKind.wrap_i64]; omega
      have hll1 := lastK_len1 k p i
      have hroom : ¬ 9223372036854775807 < 32 * i + 32 := by omega
      obtain ⟨ll, hlln⟩ : ∃ n, n = (lastK k p i).length := ⟨_, rfl⟩
      have r1 : ¬ 9223372036854775807 < ll + p.length := by have := hp.out; omega
      have r2 : ¬ 9223372036854775807 < ll + p.length + 1 := by have := hp.out; omega
      have htag := fun w' => rtag_any k (lastK k p i ++ p ++ [UInt8.ofNat (i + 1)]) hkk.out (by have := hp.out; simp; omega) w'
      have hnl : tagL k (lastK k p i ++ p ++ [UInt8.ofNat (i + 1)]) = lastK k p (i + 1) := by show _ = tagL k [lastK k p i, p, [UInt8.ofNat (i + 1)]].flatten; simp
      rw [hnl] at htag
      have hnext : allK k p (i + 1) = allK k p i ++ lastK k p (i + 1) := rfl
      obtain ⟨A, hA⟩ : ∃ A, A = allK k p i := ⟨_, rfl⟩
      obtain ⟨L, hL⟩ : ∃ L, L = lastK k p i := ⟨_, rfl⟩
      obtain ⟨L1, hL1⟩ : ∃ L, L = lastK k p (i + 1) := ⟨_, rfl⟩
      rw [← hL] at hlln
      rw [← hL, ← hL1] at htag
      rw [← hA, ← hL1] at hnext
      rw [← hL1] at hll1
      rw [← hA] at hal
      rw [← hA, ← hL]
      have hLl : L.length = ll := hlln.symm
      have e5 : UInt8.ofNat (i + 1) = UInt8.ofNat i + 1 := by simp
      rw [e5] at htag
      simp only [List.append_assoc] at htag
      have hi2 := Lib.hid hi
      replace hnext := Lib.hid hnext; replace htag := Lib.hid htag; replace hL1 := Lib.hid hL1
      clear hnl hll hA hL hi h0 hlln
      go_wp2_with (go_at_call 75; (with_reducible refine (htag.out _).mono ?_); rintro e w3 ⟨rfl, b3⟩; have hB2 := belowCont (hB.alloc hB.size (.cells #[.int .u8 ((i : Int) + 1)] 5)) b3; replace hB2 := Lib.hid hB2; clear b3)
      go_roundg K
      case measure => omega
      case rel => exact ⟨i + 1, by rw [hnext.out] <;> first | rfl | simp, by rw [hL1.out], by first | rfl | (congr 1; omega) | (simp; omega), by have := hi2.out; omega, hB2.out⟩
end Go.Proofs.YtcdcipfojfnblaaGreatDoor.sha
end
section
namespace Go.Proofs.YtcdcipfojfnblaaGreatDoor.sha
open Go.RowKit
attribute [local go_sem ↓] Go.wp_at_zero Go.wp_at_succ
set_option linter.unusedVariables false
set_option maxRecDepth 100000

theorem or_u8 (a b : UInt8) : bits .or .u8 (a.toNat : Int) (b.toNat : Int) = (((a ||| b).toNat : Nat) : Int) := by
  rw [Go.u8_or_nat _ _ (UInt8.toNat_lt _) (UInt8.toNat_lt _), UInt8.toNat_or]
theorem orx_zero (u x y : UInt8) : u ||| (x ^^^ y) = 0 ↔ u = 0 ∧ x = y := by
  rw [UInt8.or_eq_zero_iff, UInt8.xor_eq_zero_iff]
/-- equal up to i -/
def Even (a b : ByteArray) (i : Nat) : Prop := ∀ j, j < i → a.data.getD j 0 = b.data.getD j 0
theorem Even.nil (a b : ByteArray) : Even a b 0 := fun j h => absurd h (Nat.not_lt_zero j)
theorem even_step (a b : ByteArray) (i : Nat) : Even a b (i + 1) ↔ Even a b i ∧ a.data.getD i 0 = b.data.getD i 0 :=
  ⟨fun h => ⟨fun j hj => h j (by omega), h i (by omega)⟩, fun h j hj => by
    by_cases e : j = i
    · rw [e]; exact h.2
    · exact h.1 j (by omega)⟩
theorem even_all (a b : ByteArray) (h : a.size = b.size) : Even a b b.size ↔ a = b := by
  constructor
  · intro k
    apply ByteArray.ext
    apply Array.ext
    · exact h
    · intro i h1 h2
      have := k i h2
      have e1 : a.data.getD i 0 = a.data[i]'h1 := by simp only [Array.getD]; rw [dif_pos h1]; rfl
      have e2 : b.data.getD i 0 = b.data[i]'h2 := by simp only [Array.getD]; rw [dif_pos h2]; rfl
      rw [← e1, ← e2]; exact this
  · rintro rfl j _; rfl
theorem get_u8 (s : ByteArray) (i : Nat) (h : i < s.size) : s[i]'h = s.data.getD i 0 := by
  have h2 : i < s.data.size := h
  have e : s.data.getD i 0 = s.data[i]'h2 := by simp only [Array.getD]; rw [dif_pos h2]; rfl
  rw [e]; rfl
set_option maxRecDepth 100000 in
theorem same_any (a b : ByteArray) (ha : a.size ≤ 1000000) (hb : b.size ≤ 1000000) (w : World) : Calls Tryz.prog 96 #[.string a, .string b] w fun e w' => e = .returned (.bool (decide (a = b))) ∧ Below w.heap.size w w' := by
  by_cases h0 : a.size = b.size
  · have h1 : (a.size : Int) = (b.size : Int) := by omega
    have hall := even_all a b h0
    replace hall := Lib.hid hall; replace ha := Lib.hid ha; replace hb := Lib.hid hb
    go_enter Tryz.func96, Tryz.ntmps96
    go_wp2
    go_loopg [5, 14] b.size (fun gn s5 s14 wr => ∃ i : Nat, ∃ u : UInt8, s5 = .int .u8 (u.toNat : Int) ∧ s14 = .int .i64 (i : Int) ∧ i + gn = b.size ∧ (u = 0 ↔ Even a b i) ∧ Below w.heap.size w wr)
    case atStart => exact ⟨0, 0, rfl, rfl, by omega, ⟨fun _ => Even.nil a b, fun _ => rfl⟩, Below.refl _ _⟩
    case round =>
      obtain ⟨i, u, rfl, rfl, hi, hev, hB⟩ := hrel
      by_cases hg : gk = 0
      · obtain rfl : i = b.size := by omega
        have hn : ¬ ((b.size : Int) < (b.size : Int)) := by omega
        have hfin : (decide ((u.toNat : Int) = 0)) = decide (a = b) := by
          have e1 : (u.toNat : Int) = 0 ↔ u = 0 := by rw [← UInt8.toNat_inj]; have : (0 : UInt8).toNat = 0 := rfl; omega
          exact decide_eq_decide.mpr (e1.trans (hev.trans hall.out))
        replace hfin := Lib.hid hfin; replace hev := Lib.hid hev
        clear hi hg
        go_wp2
        go_ret
        exact ⟨by rw [← hfin.out]; first | rfl | simp, hB⟩
      · obtain ⟨K, rfl⟩ : ∃ K : Nat, gk = K + 1 := ⟨gk - 1, by omega⟩
        have hib : i < b.size := by omega
        have hia : i < a.size := by omega
        have e0 : (0 : Int) ≤ (i : Int) := by omega
        have e1 : (i : Int) < (a.size : Int) := by omega
        have e2 : (i : Int) < (b.size : Int) := by omega
        have g1 := get_u8 a i hia
        have g2 := get_u8 b i hib
        have hx := xor_u8 (a.data.getD i 0) (b.data.getD i 0)
        have ho := or_u8 u (a.data.getD i 0 ^^^ b.data.getD i 0)
        have hev2 : u ||| (a.data.getD i 0 ^^^ b.data.getD i 0) = 0 ↔ Even a b (i + 1) := by rw [orx_zero, hev, even_step]
        obtain ⟨X, hX⟩ : ∃ X, X = a.data.getD i 0 := ⟨_, rfl⟩
        obtain ⟨Y, hY⟩ : ∃ X, X = b.data.getD i 0 := ⟨_, rfl⟩
        rw [← hX] at g1
        rw [← hY] at g2
        rw [← hX, ← hY] at hx ho hev2
        replace hev2 := Lib.hid hev2; replace hev := Lib.hid hev
        have hi2 := Lib.hid hi
        clear hX hY hi hg
        go_wp2
        go_upto_region 7 with fail
        refine wp_region_still_lit (by kernel_rfl) (by kernel_rfl) ?_
        change wpStill _ _ wr.drew _ _ _
        repeat still_step
        refine wpStill_nil ?_
        have hB2 := hB.drew
        replace hB2 := Lib.hid hB2
        go_wp2
        go_roundg K
        case measure => omega
        case rel => exact ⟨i + 1, u ||| (X ^^^ Y), congrArg (Value.int .u8) ho, by (have := hi2.out; have := hb.out; simp; unfold wrap64; omega), by have := hi2.out; omega, hev2.out, hB2.out⟩
  · have h1 : ¬ (a.size : Int) = (b.size : Int) := by omega
    have h2 : ¬ a = b := by intro h; exact h0 (by rw [h])
    go_enter Tryz.func96, Tryz.ntmps96
    go_wp2
    go_ret
    exact ⟨by simp [h2], Below.refl _ _⟩
end Go.Proofs.YtcdcipfojfnblaaGreatDoor.sha
end
