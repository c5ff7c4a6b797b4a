/- So it is of bytes of any length around a block. The table of salts is a premise. No other condition. -/
import Derived.Test.YtfgefcnllbganaaDoorShaLaws
namespace Go.Proofs.YtfgefcnllbganaaDoor.sha
open Go.RowKit
attribute [local go_sem ↓] Go.wp_at_zero Go.wp_at_succ
set_option linter.unusedVariables false

set_option maxRecDepth 100000 in
set_option maxHeartbeats 4000000 in
theorem shaLong_walk (a0 a1 : Int) (w : World) (w0 : (Lit.int .i64 a0).wf = true) (w1 : (Lit.int .u8 a1).wf = true) (hT : SaltAt w salts) :
    Calls Tryd.prog 4 #[.int .i64 a0, .int .u8 a1] w fun e w' => e = .returned (.bool true) ∧ Below w.heap.size w w' := by
  have hand := and_255 a0
  obtain ⟨k, hk, hk2⟩ : ∃ k : Nat, a0 % 256 = (k : Int) ∧ k < 256 := ⟨(a0 % 256).toNat, by omega, by omega⟩
  rw [hk] at hand
  clear hk w0
  have hmk := fun W => run_make_bytes k (by omega) W
  have hb0 := byteBlk_made w k
  replace hb0 := Lib.hid hb0
  replace hT := Lib.hid hT
  replace hk2 := Lib.hid hk2
  go_enter Tryd.func4, Tryd.ntmps4
  go_wp2
  go_loopg [6] k (fun gn s6 wr => ∃ (i : Nat) (l : List UInt8), s6 = .int .i64 (i : Int) ∧ i + gn = k ∧ l.length = k ∧ ByteBlk wr w.heap.size l ∧ Below w.heap.size w wr)
  case atStart => exact ⟨0, List.replicate k 0, rfl, by omega, by simp, hb0.out, (Below.refl _ _).alloc (Nat.le_refl _) _⟩
  case round =>
    clear hb0
    obtain ⟨i, l, rfl, hi, hl, hO, hB⟩ := hrel
    by_cases h0 : gk = 0
    · obtain rfl : i = k := by omega
      have hlt : ¬ ((i : Int) < (i : Int)) := by omega
      have hl2 : l.length ≤ 1000000000 := by have := hk2.out; omega
      have hs := fun w' h => sum_any salts salts_small l hl2 w' h
      have hr := fun w' => rsum_any l hl2 w'
      have hconv : ∀ W, ByteBlk W w.heap.size l → (convert 25 9 (.slice (some ⟨w.heap.size, 0, none⟩) i i)).run Tryd.prog W = .ok (.string (str l)) W := fun W h => by have := h.text i; rwa [hl] at this
      obtain ⟨U, hU⟩ : ∃ U, U = str (shaB salts l) := ⟨_, rfl⟩
      rw [← hU] at hs hr
      obtain ⟨T0, hT0⟩ : ∃ X, X = str l := ⟨_, rfl⟩
      rw [← hT0] at hs hr
      rw [← hT0] at hconv
      have hO2 : ByteBlk wr.drew w.heap.size l := hO
      have hB2 : Below w.heap.size w wr.drew := hB.drew
      have hcv := hconv wr hO
      have hcv0 := hconv wr.drew hO2
      replace hs := Lib.hid hs
      replace hr := Lib.hid hr
      replace hconv := Lib.hid hconv
      replace hO2 := Lib.hid hO2
      replace hB2 := Lib.hid hB2
      clear hU hT0 hl2 hi h0 hl hO hB
      go_upto_region 6 with fail
      go_region_with (first
        | (go_at_call 10; (with_reducible refine (awake_any _ (hT.out.keep hB2.out)).mono ?_); rintro e w1 ⟨rfl, b1⟩; replace hO2 := Lib.hid (hO2.out.below b1); replace hB2 := Lib.hid (belowCont hB2.out b1); have hcv1 := hconv.out _ hO2.out; replace b1 := Lib.hid b1)
        | (go_at_call 11; (with_reducible refine (hs.out _ (hT.out.keep hB2.out)).mono ?_); rintro e w2 ⟨rfl, b2⟩; replace hO2 := Lib.hid (hO2.out.below b2); replace hB2 := Lib.hid (belowCont hB2.out b2); have hcv2 := hconv.out _ hO2.out; replace b2 := Lib.hid b2)
        | (go_at_call 12; (with_reducible refine (hr.out _).mono ?_); rintro e w3 ⟨rfl, b3⟩; replace hO2 := Lib.hid (hO2.out.below b3); replace hB2 := Lib.hid (belowCont hB2.out b3); have hcv3 := hconv.out _ hO2.out; replace b3 := Lib.hid b3))
      all_goals go_wp2_with fail
      all_goals go_ret
      all_goals exact ⟨rfl, hB2.out⟩
    · obtain ⟨K, rfl⟩ : ∃ K : Nat, gk = K + 1 := ⟨gk - 1, by omega⟩
      have i0 : (0 : Int) ≤ (i : Int) := by omega
      have i1 : (i : Int) < (k : Int) := by omega
      have i2 : (i : Int) < 256 := by have := hk2.out; omega
      have i3 : (i : Int) % 256 = (i : Int) := by omega
      have hc := hO.cell (i := i) (by omega)
      have hf := hO.free i
      have hi2 := Lib.hid hi
      replace hl := Lib.hid hl
      replace hO := Lib.hid hO
      clear hi h0
      go_wp2
      go_roundg K
      case measure => omega
      case rel =>
        refine ⟨i + 1, _, by go_num, by have := hi2.out; omega, ?_, hO.out.put (n := (a1 + (i : Int)) % 256) ⟨by omega, by omega⟩, hB.setCell (Nat.le_refl _) _⟩
        simpa using hl.out
end Go.Proofs.YtfgefcnllbganaaDoor.sha
