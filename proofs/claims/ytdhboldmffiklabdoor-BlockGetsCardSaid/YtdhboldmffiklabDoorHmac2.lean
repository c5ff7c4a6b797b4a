/- The document's own tags of bytes under a key. No condition. -/
import Derived.Test.YtdhboldmffiklabDoorHmac
namespace Go.Proofs.YtdhboldmffiklabDoor.sha
open Go.RowKit
attribute [local go_sem ↓] Go.wp_at_zero Go.wp_at_succ
attribute [local go_sem] str_size str_append conv_one conv_one_drew
set_option linter.unusedVariables false
set_option maxRecDepth 100000

def preL (P : List UInt8) (m : UInt8) (i : Nat) : List UInt8 := (P.take i).map (· ^^^ m)
theorem preL_step (P : List UInt8) (m : UInt8) (i : Nat) (h : i < P.length) : preL P m (i + 1) = preL P m i ++ [P.getD i 0 ^^^ m] := by
  unfold preL
  rw [List.take_add_one, List.getElem?_eq_getElem h, List.map_append]
  congr 1
  simp [List.getD, List.getElem?_eq_getElem h]
theorem preL_len (P : List UInt8) (m : UInt8) (i : Nat) (h : i ≤ P.length) : (preL P m i).length = i := by simp [preL]; omega
theorem preL_all (P : List UInt8) (m : UInt8) (h : P.length = 64) : preL P m 64 = xorL P m 64 := by
  apply List.ext_getElem
  · simp [preL, xorL, h]
  · intro i h1 h2
    have hi : i < 64 := by rw [xorL_len, h] at h2; exact h2
    simp [preL, xorL, hi]
theorem str_getD (l : List UInt8) (i : Nat) (h : i < (str l).size) : (str l)[i]'h = l.getD i 0 := by
  have h2 : i < l.length := by rwa [str_size] at h
  simp [List.getD, List.getElem?_eq_getElem h2]
  rfl
set_option maxRecDepth 100000 in
set_option maxHeartbeats 4000000 in
theorem rtag_any (k s : List UInt8) (hk : k.length ≤ 1000000000) (hs : s.length ≤ 100000000) (w : World) :
    Calls Tryd.prog 32 #[.string (str k), .string (str s)] w fun e w' => e = .returned (.string (str (tagL k s))) ∧ Below w.heap.size w w' := by
  have hsk := rsum_any k hk w
  obtain ⟨q, hq⟩ : ∃ q, q = keyL k := ⟨_, rfl⟩
  have hql : q.length ≤ 64 := by rw [hq]; exact keyL_len k
  obtain ⟨P, hP⟩ : ∃ P, P = padK k := ⟨_, rfl⟩
  have hPl : P.length = 64 := by rw [hP]; exact padK_len k
  have hPat : ∀ i, i < q.length → P.getD i 0 = q.getD i 0 := fun i hi => by
    rw [hP, padK, ← hq]; simp [List.getD, List.getElem?_append_left hi]
  have hPz : ∀ i, ¬ i < q.length → P.getD i 0 = 0 := fun i hi => by
    rw [hP, padK, ← hq, List.getD_eq_getElem?_getD, List.getElem?_append_right (by omega), List.getElem?_replicate]
    split <;> rfl
  have hf1 : preL P 54 64 = markL k 54 := by rw [preL_all P 54 hPl, hP]; rfl
  have hf2 : preL P 92 64 = markL k 92 := by rw [preL_all P 92 hPl, hP]; rfl
  have hin := fun w' => rsum_any (markL k 54 ++ s) (by rw [List.length_append, markL_len]; omega) w'
  have hout := fun w' => rsum_any (markL k 92 ++ shaB salts (markL k 54 ++ s)) (by rw [List.length_append, markL_len, shaB_len]; decide) w'
  have htag : shaB salts (markL k 92 ++ shaB salts (markL k 54 ++ s)) = tagL k s := rfl
  rw [htag] at hout
  have hbig : 64 < k.length → shaB salts k = q := by intro h; rw [hq]; exact (if_pos h).symm
  have hsmall : ¬ 64 < k.length → k = q := by intro h; rw [hq]; exact (if_neg h).symm
  have ml1 := markL_len k 54
  have ml2 := markL_len k 92
  obtain ⟨M1, hM1⟩ : ∃ M, M = markL k 54 := ⟨_, rfl⟩
  obtain ⟨M2, hM2⟩ : ∃ M, M = markL k 92 := ⟨_, rfl⟩
  rw [← hM1] at hin hout hf1 ml1
  rw [← hM2] at hout hf2 ml2
  obtain ⟨I, hI0⟩ : ∃ I, I = shaB salts (M1 ++ s) := ⟨_, rfl⟩
  have hIl : I.length = 32 := by rw [hI0]; exact shaB_len _ _
  rw [← hI0] at hin hout
  have room1 : ¬ 9223372036854775807 < 64 + s.length := by omega
  have room2 : ¬ 9223372036854775807 < 64 + 32 := by omega
  clear hP hq hk hs hM1 hM2 hI0 htag
  replace hsk := Lib.hid hsk; replace hql := Lib.hid hql; replace hPl := Lib.hid hPl; replace hPat := Lib.hid hPat; replace hPz := Lib.hid hPz
  replace hf1 := Lib.hid hf1; replace hf2 := Lib.hid hf2; replace hin := Lib.hid hin; replace hout := Lib.hid hout; replace hbig := Lib.hid hbig; replace hsmall := Lib.hid hsmall
  go_enter Tryd.func32, Tryd.ntmps32
  go_upto_if 11 with fail
  go_cut [0] from 11 (fun v wx => v = .string (str q) ∧ Below w.heap.size w wx)
  case first =>
    by_cases h : 64 < k.length
    · have hI : (64 : Int) < (k.length : Int) := by omega
      have hq2 := hbig.out h
      rw [hq2] at hsk
      replace hq2 := Lib.hid hq2
      clear h
      go_wp2_with (go_at_call 12; (with_reducible refine hsk.out.mono ?_); rintro e w1 ⟨rfl, b1⟩; replace b1 := Lib.hid b1)
      go_meet
      exact ⟨rfl, b1.out⟩
    · have hI : ¬ (64 : Int) < (k.length : Int) := by omega
      have hq2 := hsmall.out h
      replace hq2 := Lib.hid hq2
      clear h
      go_wp2
      go_meet
      exact ⟨by rw [hq2.out], Below.refl _ _⟩
  case rest =>
  obtain ⟨rfl, hB⟩ := hcut
  replace hB := Lib.hid hB
  go_wp2
  go_loopg [5, 6, 7] 64 (fun gn s5 s6 s7 wr => ∃ i : Nat, s5 = .string (str (preL P 54 i)) ∧ s6 = .string (str (preL P 92 i)) ∧ s7 = .int .i64 (i : Int) ∧ i + gn = 64 ∧ Below w.heap.size w wr)
  case atStart => exact ⟨0, rfl, rfl, rfl, rfl, hB.out⟩
  case round =>
    clear hB
    obtain ⟨i, rfl, rfl, rfl, hi, hB⟩ := hrel
    by_cases h0 : gk = 0
    · obtain rfl : i = 64 := by omega
      rw [hf1.out, hf2.out]
      replace hB := Lib.hid hB
      clear hi h0
      go_wp2_with (first
        | (go_at_call 12; (with_reducible refine (hin.out _).mono ?_); rintro e w1 ⟨rfl, b1⟩; replace hB := Lib.hid (belowCont hB.out b1))
        | (go_at_call 12; (with_reducible refine (hout.out _).mono ?_); rintro e w1 ⟨rfl, b1⟩; replace hB := Lib.hid (belowCont hB.out b1)))
      go_ret
      exact ⟨rfl, hB.out⟩
    · obtain ⟨K, rfl⟩ : ∃ K : Nat, gk = K + 1 := ⟨gk - 1, by omega⟩
      have i1 : (i : Int) < 64 := by omega
      have i0 : (0 : Int) ≤ (i : Int) := by omega
      have hil : i < P.length := by rw [hPl.out]; omega
      have l1 := preL_len P 54 i (by omega)
      have l2 := preL_len P 92 i (by omega)
      have n1 := preL_step P 54 i hil
      have n2 := preL_step P 92 i hil
      have room3 : ¬ 9223372036854775807 < i + 1 := by omega
      obtain ⟨b, hb⟩ : ∃ b, b = P.getD i 0 := ⟨_, rfl⟩
      rw [← hb] at n1 n2
      have hpat := hPat.out i
      have hpz := hPz.out i
      rw [← hb] at hpat hpz
      obtain ⟨nb, hnb⟩ : ∃ n : Nat, n = b.toNat := ⟨_, rfl⟩
      have x1 : bits .xor .u8 (nb : Int) 54 = (((b ^^^ 54).toNat : Nat) : Int) := by rw [hnb]; exact xor_u8 b 54
      have x2 : bits .xor .u8 (nb : Int) 92 = (((b ^^^ 92).toNat : Nat) : Int) := by rw [hnb]; exact xor_u8 b 92
      obtain ⟨c1, hc1⟩ : ∃ n : Nat, n = (b ^^^ 54).toNat := ⟨_, rfl⟩
      obtain ⟨c2, hc2⟩ : ∃ n : Nat, n = (b ^^^ 92).toNat := ⟨_, rfl⟩
      rw [← hc1] at x1
      rw [← hc2] at x2
      have m1 : preL P 54 (i + 1) = preL P 54 i ++ [UInt8.ofNat c1] := by rw [n1, hc1, UInt8.ofNat_toNat]
      have m2 : preL P 92 (i + 1) = preL P 92 i ++ [UInt8.ofNat c2] := by rw [n2, hc2, UInt8.ofNat_toNat]
      have hcv2 := conv_at ((wr.alloc (.cells #[.int .u8 (c1 : Int)] 5)).alloc (.cells #[.int .u8 (c2 : Int)] 5)) (wr.heap.size + 1) 1 (c2 : Int) (cell_of_row _ _ 0 _ _ _ (boxed2b _ _ _ _))
      have hi2 := Lib.hid hi
      replace m1 := Lib.hid m1; replace m2 := Lib.hid m2
      replace hB := Lib.hid hB
      clear n1 n2 hc1 hc2 hi h0 hil
      by_cases hlt : i < q.length
      · have hI : (i : Int) < (q.length : Int) := by omega
        have hget : ∀ h, (((str q)[i]'h).toNat : Int) = (nb : Int) := fun h => by rw [str_getD, ← hpat hlt, hnb]
        clear hpat hpz hb hnb hlt
        go_wp2
        go_roundg K
        case measure => omega
        case rel => exact ⟨i + 1, by rw [m1.out] <;> first | rfl | simp, by rw [m2.out] <;> first | rfl | simp, by go_num, by have := hi2.out; omega, (hB.out.alloc hB.out.size _).alloc (by have := hB.out.size; simp; omega) _⟩
      · have hI : ¬ (i : Int) < (q.length : Int) := by omega
        have hz : nb = 0 := by rw [hnb, hpz hlt]; rfl
        subst hz
        have x1' : bits .xor .u8 0 54 = (c1 : Int) := x1
        have x2' : bits .xor .u8 0 92 = (c2 : Int) := x2
        clear hpat hpz hb hnb hlt x1 x2
        go_wp2
        go_roundg K
        case measure => omega
        case rel => exact ⟨i + 1, by rw [m1.out] <;> first | rfl | simp, by rw [m2.out] <;> first | rfl | simp, by go_num, by have := hi2.out; omega, (hB.out.alloc hB.out.size _).alloc (by have := hB.out.size; simp; omega) _⟩
end Go.Proofs.YtdhboldmffiklabDoor.sha
