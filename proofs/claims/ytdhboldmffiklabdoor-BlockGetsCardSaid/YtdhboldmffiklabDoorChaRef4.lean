/- The document's own ChaCha20 (package lodestoneref03): bytes turned. No condition. -/
import Derived.Test.YtdhboldmffiklabDoorChaRef3
import Derived.Test.YtdhboldmffiklabDoorChacha7
import Derived.Laws.OwnMore
import Derived.Test.YtdhboldmffiklabDoorBytes3
namespace Go.Proofs.YtdhboldmffiklabDoor.chacha
open Go.RowKit
attribute [local go_sem ↓] Go.wp_at_zero Go.wp_at_succ
set_option linter.unusedVariables false
set_option maxRecDepth 100000

/-- what the first m bytes turned are -/
def outT (key nonce : ByteArray) (l : List UInt8) (m : Nat) : List UInt8 := (turnedL key nonce l l.length).take m
theorem outT_step (key nonce : ByteArray) (l : List UInt8) (m : Nat) (h : m < l.length) : outT key nonce l (m + 1) = outT key nonce l m ++ [l.getD m 0 ^^^ padAt key nonce m] := by
  unfold outT
  rw [List.take_add_one, List.getElem?_eq_getElem (by rw [turnedL_len]; exact h)]
  simp [turnedL, h, List.getD, List.getElem?_eq_getElem h]
theorem outT_len (key nonce : ByteArray) (l : List UInt8) (m : Nat) : (outT key nonce l m).length ≤ l.length := by
  unfold outT; rw [List.length_take, turnedL_len]; omega
theorem outT_whole (key nonce : ByteArray) (l : List UInt8) (m : Nat) (h : l.length ≤ m) : outT key nonce l m = turnedL key nonce l l.length := by
  unfold outT; exact List.take_of_length_le (by rw [turnedL_len]; exact h)
theorem str_getD (l : List UInt8) (i : Nat) (h : i < (str l).size) : (str l)[i]'h = l.getD i 0 := by
  have h2 : i < l.length := by rwa [str_size] at h
  simp [List.getD, List.getElem?_eq_getElem h2]
  rfl
theorem rowEmpty (w : World) : BRow (w.alloc (.cells #[] 5)) w.heap.size (.slice (some ⟨w.heap.size, 0, none⟩) 0 0) [] := World.ownsRow_lit w #[] 0 (Nat.le_refl _) (by unfold maxLen; omega) rfl
set_option maxRecDepth 100000 in
set_option maxHeartbeats 4000000 in
theorem rturn_any (key nonce : ByteArray) (l : List UInt8) (hk : key.size = 32) (hn : nonce.size = 12) (hl : l.length ≤ 1000000) (w : World) :
    Calls Tryd.prog 79 #[.string key, .string nonce, .string (str l)] w fun e w' => e = .returned (.string (str (turnedL key nonce l l.length))) ∧ Below w.heap.size w w' := by
  have hblk := fun n hN w' => rblock_any key nonce n hk hn hN w'
  obtain ⟨S0, hS0⟩ : ∃ S, S = str l := ⟨_, rfl⟩
  have hSs : S0.size = l.length := by rw [hS0, str_size]
  have hSg : ∀ i (h : i < S0.size), S0[i]'h = l.getD i 0 := by subst hS0; exact fun i h => str_getD l i h
  rw [← hS0]
  clear hS0
  clear hk hn
  obtain ⟨m, hm⟩ : ∃ m : Nat, m = (l.length + 63) / 64 := ⟨_, rfl⟩
  replace hblk := Lib.hid hblk
  replace hl := Lib.hid hl
  replace hm := Lib.hid hm
  replace hSg := Lib.hid hSg
  go_enter Tryd.func79, Tryd.ntmps79
  go_wp2
  go_loopg [7, 8] m (fun gn s7 s8 wr => ∃ i : Nat, s8 = .int .i64 (64 * (i : Int)) ∧ i + gn = m ∧ BRow wr w.heap.size s7 (outT key nonce l (64 * i)) ∧ Below w.heap.size w wr)
  case atStart => exact ⟨0, rfl, by omega, rowEmpty w, by go_grown⟩
  case round =>
    obtain ⟨i, rfl, hi, hR, hB⟩ := hrel
    have hlo := hl.out
    have hmo := hm.out
    by_cases h0 : gk = 0
    · obtain rfl : i = m := by omega
      have hge : ¬ (64 * (i : Int) < (l.length : Int)) := by omega
      rw [outT_whole key nonce l (64 * i) (by omega)] at hR
      have hconv := hR.text
      replace hR := Lib.hid hR
      clear hlo hmo h0 hi
      go_wp2
      go_ret
      exact ⟨rfl, hB⟩
    · obtain ⟨K, rfl⟩ : ∃ K : Nat, gk = K + 1 := ⟨gk - 1, by omega⟩
      have hi2 := Lib.hid hi
      have hlt : 64 * (i : Int) < (l.length : Int) := by omega
      have hi0 : (0 : Int) ≤ 64 * (i : Int) := by omega
      have hw64 : IntKind.i64.wrap (64 * (i : Int) + 64) = 64 * (i : Int) + 64 := by rw [IntKind.wrap_i64]; omega
      have hwq : wrap64 (i : Int) = i := by unfold wrap64; omega
      have hwm : (i : Int) % 4294967296 = i := by omega
      have hb := fun w' => hblk.out i (by omega) w'
      obtain ⟨P0, hP0⟩ : ∃ P, P = str (blockU (stAt key nonce i)) := ⟨_, rfl⟩
      rw [← hP0] at hb
      have hPs : P0.size = 64 := by rw [hP0, str_size, blockU_len]
      have hPg : ∀ j (h : j < P0.size), P0[j]'h = padAt key nonce (64 * i + j) := by
        subst hP0
        intro j h
        rw [str_getD, padAt]
        rw [hPs] at h
        have e1 : (64 * i + j) / 64 % 4294967296 = i := by omega
        have e2 : (64 * i + j) % 64 = j := by omega
        rw [e1, e2]
      obtain ⟨c, hc⟩ : ∃ c : Nat, c = min 64 (l.length - 64 * i) := ⟨_, rfl⟩
      have hil : 64 * i + c ≤ l.length := by omega
      have hc64 : c ≤ 64 := by omega
      replace hc := Lib.hid hc
      replace hil := Lib.hid hil
      replace hc64 := Lib.hid hc64
      replace hb := Lib.hid hb
      replace hP0 := Lib.hid hP0
      replace hPg := Lib.hid hPg
      replace hR := Lib.hid hR
      clear hlo hmo h0 hi
      go_wp2_with (go_at_call 138; (with_reducible refine (hb.out _).mono ?_); rintro e w5 ⟨rfl, b5⟩; replace hR := Lib.hid (hR.out.below b5); replace hB := belowCont hB b5; replace b5 := Lib.hid b5)
      go_loopg [7, 10] c (fun gn s7 s10 wr => ∃ j kk : Nat, kk = 64 * i + j ∧ s10 = .int .i64 (kk : Int) ∧ j + gn = c ∧ BRow wr w.heap.size s7 (outT key nonce l kk) ∧ Below w.heap.size w wr)
      case atStart => exact ⟨0, 64 * i, rfl, by go_num, by omega, hR.out, hB⟩
      case round =>
        clear hR hB
        obtain ⟨j, kk, hkk, rfl, hj, hR, hB⟩ := hrel
        have hil2 := hil.out
        have hc642 := hc64.out
        by_cases h0 : gk = 0
        · obtain rfl : j = c := by omega
          have hwk : IntKind.i64.wrap (64 * (i : Int) + 64) = 64 * (i : Int) + 64 := hw64
          have hfin : outT key nonce l kk = outT key nonce l (64 * (i + 1)) := by
            have := hc.out
            by_cases h : j = 64
            · rw [hkk, h]; congr 1
            · rw [outT_whole key nonce l kk (by omega), outT_whole key nonce l (64 * (i + 1)) (by omega)]
          by_cases h : j = 64
          · have hn1 : ¬ ((kk : Int) < 64 * (i : Int) + 64) := by omega
            replace hR := Lib.hid hR
            replace hkk := Lib.hid hkk
            replace hfin := Lib.hid hfin
            clear hil2 hc642 h0 hj h
            go_wp2
            go_roundg K
            case measure => omega
            case rel => exact ⟨i + 1, by rw [show 64 * (i : Int) + 64 = 64 * ((i + 1 : Nat) : Int) by omega], by have := hi2.out; omega, by rw [← hfin.out]; exact hR.out, hB⟩
          · have hn1 : (kk : Int) < 64 * (i : Int) + 64 := by omega
            have hn2 : ¬ ((kk : Int) < (l.length : Int)) := by have := hc.out; omega
            replace hR := Lib.hid hR
            replace hkk := Lib.hid hkk
            replace hfin := Lib.hid hfin
            clear hil2 hc642 h0 hj h
            go_wp2
            go_roundg K
            case measure => omega
            case rel => exact ⟨i + 1, by rw [show 64 * (i : Int) + 64 = 64 * ((i + 1 : Nat) : Int) by omega], by have := hi2.out; omega, by rw [← hfin.out]; exact hR.out, hB⟩
        · obtain ⟨K2, rfl⟩ : ∃ K2 : Nat, gk = K2 + 1 := ⟨gk - 1, by omega⟩
          have hn1 : (kk : Int) < 64 * (i : Int) + 64 := by omega
          have hn2 : (kk : Int) < (l.length : Int) := by omega
          have hn0 : (0 : Int) ≤ (kk : Int) := by omega
          have hsub : IntKind.i64.wrap ((kk : Int) - 64 * (i : Int)) = (j : Int) := by rw [IntKind.wrap_i64]; omega
          have j0 : (0 : Int) ≤ (j : Int) := by omega
          have j64 : (j : Int) < 64 := by omega
          have hkl : kk < l.length := by omega
          have hxor : ∀ (h1 : kk < S0.size) (h2 : j < P0.size), bits .xor .u8 (((S0[kk]'h1).toNat : Nat) : Int) (((P0[j]'h2).toNat : Nat) : Int) = (((l.getD kk 0 ^^^ padAt key nonce kk).toNat : Nat) : Int) := fun h1 h2 => by
            rw [hSg.out, hPg.out, xor_u8, hkk]
          obtain ⟨x, hx⟩ : ∃ x, x = l.getD kk 0 ^^^ padAt key nonce kk := ⟨_, rfl⟩
          rw [← hx] at hxor
          have hstep : outT key nonce l (kk + 1) = outT key nonce l kk ++ [x] := by rw [hx]; exact outT_step key nonce l kk hkl
          have holen : (outT key nonce l kk).length < 1000000000 := by have := outT_len key nonce l kk; have := hl.out; omega
          have hx256 : (0 : Int) ≤ (x.toNat : Int) ∧ (x.toNat : Int) < 256 := ⟨Int.natCast_nonneg _, by have := UInt8.toNat_lt x; omega⟩
          have hj2 : j + (K2 + 1) = c := hj
          replace hj2 := Lib.hid hj2
          replace hstep := Lib.hid hstep
          replace holen := Lib.hid holen
          replace hx256 := Lib.hid hx256
          replace hR := Lib.hid hR
          replace hkk := Lib.hid hkk
          clear hil2 hc642 h0 hj hx hkl
          go_upto_region 9 with fail
          go_region_law (refine step_append_byte rfl _ _ rfl w.heap.size _ (outT key nonce l kk) rfl (hR.out.alloc _) wr.heap.size 1 x rfl (newCell wr _ _ 0) holen.out ?hb ?_; (case hb => have := hB.size; simp; omega); intro v2 w2 hrow2 hgrow2)
          all_goals go_wp2_with fail
          all_goals
            go_roundg K2
            case measure => omega
            case rel => exact ⟨j + 1, kk + 1, by have := hkk.out; omega, by go_num, by have := hj2.out; omega, by rw [hstep.out]; exact hrow2, (hB.drew.alloc hB.size _).grown hgrow2 (by have := hB.size; simp; omega) (fun g hg => (hR.out.lt g hg).1)⟩
end Go.Proofs.YtdhboldmffiklabDoor.chacha
