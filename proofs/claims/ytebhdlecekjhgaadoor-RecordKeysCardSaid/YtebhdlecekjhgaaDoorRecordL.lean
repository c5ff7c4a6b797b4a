/- The law RecordKeys, given its awake (one theorem a Bool; written by wip/tools/genrec.py). Condition: awake answers true. -/
import Derived.Test.YtebhdlecekjhgaaDoorRecord
import Derived.Deep.RegionHeld3
import Derived.Deep.Cut
import Derived.BigRegion
namespace Go.Proofs.YtebhdlecekjhgaaDoor.order
open Go.RowKit
attribute [local go_sem ↓] Go.wp_at_zero Go.wp_at_succ
attribute [local go_sem] str_size
set_option linter.unusedVariables false
set_option maxRecDepth 100000

def Fits (a b : ByteArray) : Prop := a.size + b.size ≤ 9223372036854775807
theorem run_add_fits {P : Program} (w : World) (a b : ByteArray) (h : Fits a b) : (Op.stringOp .add a b).run P w = .ok (.string (a ++ b)) w := run_string_add_sum w a b h
attribute [local go_sem high] run_add_fits
theorem and_63r (x : Int) : bits .and .i64 x 63 = x % 64 := and_mask x 6 63 (by decide) (by decide)
theorem or_one (n : Nat) (hn : n < 18446744073709551616) : ∃ E : Nat, bits .or .u64 (n : Int) 1 = (E : Int) ∧ E ≠ 0 ∧ E < 18446744073709551616 := by
  refine ⟨n ||| 1, ?_, ?_, ?_⟩
  · exact u64_or_nat n 1 hn (by decide)
  · have := @Nat.right_le_or n 1; omega
  · exact Nat.or_lt_two_pow (n := 64) hn (by decide)
set_option maxHeartbeats 4000000 in
theorem recordKeys_false (n0 i1 i2 : Nat) (a2 : Int) (h0 : n0 < 18446744073709551616) (h1 : i1 < 18446744073709551616) (h2 : i2 < 18446744073709551616) (w : World) (hAw : ∀ w', Calls Tryd.prog 31 #[] w' fun e w2 => e = .returned (.bool true) ∧ Below w'.heap.size w' w2) :
    Calls Tryd.prog 7 #[.bool false, .agg #[.int .u64 (n0 : Int), .int .u64 (i1 : Int), .int .u64 (i2 : Int)], .int .i64 a2] w fun e w' => e = .returned (.bool true) ∧ Below w.heap.size w w' := by
  obtain ⟨k, hk, hk64⟩ : ∃ k : Nat, bits .and .i64 a2 63 = (k : Int) ∧ k < 64 := ⟨(a2 % 64).toNat, by rw [and_63r a2]; omega, by omega⟩
  obtain ⟨E, hor, hE0, hE64⟩ := or_one i1 h1
  obtain ⟨M, hM⟩ : ∃ M : Int, M = -1 - (k : Int) := ⟨_, rfl⟩
  have hwM : IntKind.i64.wrap (-1 - (k : Int)) = M := by rw [IntKind.wrap_i64]; omega
  have hwk : IntKind.u64.wrap (k : Int) = (k : Int) := by rw [IntKind.wrap_u64]; omega
  have c0 := fun w' => rnumB n0 h0 w'
  have ck := fun w' => rnumB k (by omega) w'
  have ce := fun w' => rnumB E hE64 w'
  have kA := fun w' => key_any false i2 w'
  have kB := fun w' => rkey_any false i2 h2 w'
  have bA := fun w' => beside_all false n0 E M (by omega) w'
  have bT := fun w' => beside_type false n0 k (by omega) w'
  have bO := fun w' => beside_one false n0 k E (by omega) hE0 w'
  have e0 : markO false = ⟨#[105]⟩ := rfl
  rw [e0] at bA bT bO
  have s0 := numB_size n0
  have sk := numB_size k
  have se := numB_size E
  obtain ⟨Y, hY⟩ : ∃ Y, Y = markE false ++ numB i2 := ⟨_, rfl⟩
  obtain ⟨B0, hB0⟩ : ∃ B, B = numB n0 := ⟨_, rfl⟩
  obtain ⟨K, hK⟩ : ∃ B, B = numB k := ⟨_, rfl⟩
  obtain ⟨EB, hEB⟩ : ∃ B, B = numB E := ⟨_, rfl⟩
  simp only [← hY] at kA kB
  simp only [← hB0, ← hK, ← hEB] at c0 ck ce bA bT bO s0 sk se
  obtain ⟨H, hH⟩ : ∃ H, H = (⟨#[105]⟩ : ByteArray) ++ B0 := ⟨_, rfl⟩
  simp only [← hH] at bA bT bO
  have sH : H.size ≤ 10 := by rw [hH, ByteArray.size_append]; have : (⟨#[105]⟩ : ByteArray).size = 1 := rfl; omega
  have f1 : Fits H K := by unfold Fits; omega
  have f2 : Fits (H ++ K) EB := by unfold Fits; rw [ByteArray.size_append]; omega
  have q1 : (H.toList == H.toList) = true := by simp
  have q2 : ((H ++ K).toList == (H ++ K).toList) = true := by simp
  have q3 : ((H ++ K ++ EB).toList == (H ++ K ++ EB).toList) = true := by simp
  have q4 : (Y.toList == Y.toList) = true := by simp
  clear hY hB0 hK hEB h0 h1 h2 hE0 hE64 hM hk64 e0 sk se sH
  replace c0 := Lib.hid c0; replace ck := Lib.hid ck; replace ce := Lib.hid ce; replace kA := Lib.hid kA; replace kB := Lib.hid kB; replace bA := Lib.hid bA; replace bT := Lib.hid bT; replace bO := Lib.hid bO; replace hH := Lib.hid hH; replace hAw := Lib.hid hAw
  go_enter Tryd.func7, Tryd.ntmps7
  go_upto_region 1 with fail
  have hlt : w.heap.size < (w.alloc (.cells #[.int .u64 (n0 : Int), .int .u64 (i1 : Int), .int .u64 (i2 : Int)] 52)).heap.size := by simp
  have d0 : (w.alloc (.cells #[.int .u64 (n0 : Int), .int .u64 (i1 : Int), .int .u64 (i2 : Int)] 52)).cell? ⟨w.heap.size, 0, none⟩ = some (.int .u64 (n0 : Int)) := newCell w #[.int .u64 (n0 : Int), .int .u64 (i1 : Int), .int .u64 (i2 : Int)] 52 0
  have d1 : (w.alloc (.cells #[.int .u64 (n0 : Int), .int .u64 (i1 : Int), .int .u64 (i2 : Int)] 52)).cell? ⟨w.heap.size, 1, none⟩ = some (.int .u64 (i1 : Int)) := newCell w #[.int .u64 (n0 : Int), .int .u64 (i1 : Int), .int .u64 (i2 : Int)] 52 1
  have d2 : (w.alloc (.cells #[.int .u64 (n0 : Int), .int .u64 (i1 : Int), .int .u64 (i2 : Int)] 52)).cell? ⟨w.heap.size, 2, none⟩ = some (.int .u64 (i2 : Int)) := newCell w #[.int .u64 (n0 : Int), .int .u64 (i1 : Int), .int .u64 (i2 : Int)] 52 2
  replace hlt := Lib.hid hlt
  go_region_held3 (fun w' => Below w.heap.size w w' ∧ w.heap.size < w'.heap.size ∧ w'.cell? ⟨w.heap.size, 0, none⟩ = some (.int .u64 (n0 : Int)) ∧ w'.cell? ⟨w.heap.size, 1, none⟩ = some (.int .u64 (i1 : Int)) ∧ w'.cell? ⟨w.heap.size, 2, none⟩ = some (.int .u64 (i2 : Int)))
    (first
    | exact ⟨((Below.refl _ _).alloc (Nat.le_refl _) _).drew, hlt.out, d0, d1, d2⟩
    | (go_split_ands; exact ⟨by assumption, by assumption, by assumption, by assumption, by assumption⟩)
    | (go_split_ands; exact ⟨belowCont (by assumption) (by assumption), Nat.lt_of_lt_of_le (by assumption) (Below.size (by assumption)), (Below.cell (by assumption) (by assumption)).trans (by assumption), (Below.cell (by assumption) (by assumption)).trans (by assumption), (Below.cell (by assumption) (by assumption)).trans (by assumption)⟩))
    (fail)
  clear d0 d1 d2 hlt
  obtain ⟨b0, z0, d0, d1, d2⟩ := ‹Below _ w _ ∧ _›
  replace b0 := Lib.hid b0; replace z0 := Lib.hid z0
  go_upto_region 6 with (go_at_call 30; (with_reducible refine (c0.out _).mono ?_); rintro e w1 ⟨rfl, hb⟩; have g0 := (hb.cell z0.out).trans d0; have g1 := (hb.cell z0.out).trans d1; have g2 := (hb.cell z0.out).trans d2; have zz := Lib.hid (Nat.lt_of_lt_of_le z0.out hb.size); have bb := Lib.hid (belowCont b0.out hb); clear hb)
  rw [← hH.out]
  clear d0 d1 d2 hor s0
  go_region_held3 (fun w' => Below w.heap.size w w' ∧ w.heap.size < w'.heap.size ∧ w'.cell? ⟨w.heap.size, 0, none⟩ = some (.int .u64 (n0 : Int)) ∧ w'.cell? ⟨w.heap.size, 1, none⟩ = some (.int .u64 (i1 : Int)) ∧ w'.cell? ⟨w.heap.size, 2, none⟩ = some (.int .u64 (i2 : Int)))
    (first
    | exact ⟨bb.out.drew, zz.out, g0, g1, g2⟩
    | (go_split_ands; exact ⟨by assumption, by assumption, by assumption, by assumption, by assumption⟩)
    | (go_split_ands; exact ⟨belowCont (by assumption) (by assumption), Nat.lt_of_lt_of_le (by assumption) (Below.size (by assumption)), (Below.cell (by assumption) (by assumption)).trans (by assumption), (Below.cell (by assumption) (by assumption)).trans (by assumption), (Below.cell (by assumption) (by assumption)).trans (by assumption)⟩))
    (first
      | (go_at_call 31; (with_reducible refine (hAw.out _).mono ?_); rintro e w1 ⟨rfl, hb⟩)
      | (go_at_call 32; (with_reducible refine (kA.out _).mono ?_); rintro e w1 ⟨rfl, hb⟩)
      | (go_at_call 33; (with_reducible refine (kB.out _).mono ?_); rintro e w1 ⟨rfl, hb⟩)
      | (go_at_call 34; (with_reducible refine (bA.out _).mono ?_); rintro e w1 ⟨rfl, hb⟩)
      | (go_at_call 34; (with_reducible refine (bT.out _).mono ?_); rintro e w1 ⟨rfl, hb⟩)
      | (go_at_call 34; (with_reducible refine (bO.out _).mono ?_); rintro e w1 ⟨rfl, hb⟩)
      | (go_at_call 30; (with_reducible refine (ck.out _).mono ?_); rintro e w1 ⟨rfl, hb⟩)
      | (go_at_call 30; (with_reducible refine (ce.out _).mono ?_); rintro e w1 ⟨rfl, hb⟩))
  go_wp2
  go_ret
  go_split_ands; exact ⟨rfl, by assumption⟩
set_option maxHeartbeats 4000000 in
theorem recordKeys_true (n0 i1 i2 : Nat) (a2 : Int) (h0 : n0 < 18446744073709551616) (h1 : i1 < 18446744073709551616) (h2 : i2 < 18446744073709551616) (w : World) (hAw : ∀ w', Calls Tryd.prog 31 #[] w' fun e w2 => e = .returned (.bool true) ∧ Below w'.heap.size w' w2) :
    Calls Tryd.prog 7 #[.bool true, .agg #[.int .u64 (n0 : Int), .int .u64 (i1 : Int), .int .u64 (i2 : Int)], .int .i64 a2] w fun e w' => e = .returned (.bool true) ∧ Below w.heap.size w w' := by
  obtain ⟨k, hk, hk64⟩ : ∃ k : Nat, bits .and .i64 a2 63 = (k : Int) ∧ k < 64 := ⟨(a2 % 64).toNat, by rw [and_63r a2]; omega, by omega⟩
  obtain ⟨E, hor, hE0, hE64⟩ := or_one i1 h1
  obtain ⟨M, hM⟩ : ∃ M : Int, M = -1 - (k : Int) := ⟨_, rfl⟩
  have hwM : IntKind.i64.wrap (-1 - (k : Int)) = M := by rw [IntKind.wrap_i64]; omega
  have hwk : IntKind.u64.wrap (k : Int) = (k : Int) := by rw [IntKind.wrap_u64]; omega
  have c0 := fun w' => rnumB n0 h0 w'
  have ck := fun w' => rnumB k (by omega) w'
  have ce := fun w' => rnumB E hE64 w'
  have kA := fun w' => key_any true i2 w'
  have kB := fun w' => rkey_any true i2 h2 w'
  have bA := fun w' => beside_all true n0 E M (by omega) w'
  have bT := fun w' => beside_type true n0 k (by omega) w'
  have bO := fun w' => beside_one true n0 k E (by omega) hE0 w'
  have e0 : markO true = ⟨#[111]⟩ := rfl
  rw [e0] at bA bT bO
  have s0 := numB_size n0
  have sk := numB_size k
  have se := numB_size E
  obtain ⟨Y, hY⟩ : ∃ Y, Y = markE true ++ numB i2 := ⟨_, rfl⟩
  obtain ⟨B0, hB0⟩ : ∃ B, B = numB n0 := ⟨_, rfl⟩
  obtain ⟨K, hK⟩ : ∃ B, B = numB k := ⟨_, rfl⟩
  obtain ⟨EB, hEB⟩ : ∃ B, B = numB E := ⟨_, rfl⟩
  simp only [← hY] at kA kB
  simp only [← hB0, ← hK, ← hEB] at c0 ck ce bA bT bO s0 sk se
  obtain ⟨H, hH⟩ : ∃ H, H = (⟨#[111]⟩ : ByteArray) ++ B0 := ⟨_, rfl⟩
  simp only [← hH] at bA bT bO
  have sH : H.size ≤ 10 := by rw [hH, ByteArray.size_append]; have : (⟨#[111]⟩ : ByteArray).size = 1 := rfl; omega
  have f1 : Fits H K := by unfold Fits; omega
  have f2 : Fits (H ++ K) EB := by unfold Fits; rw [ByteArray.size_append]; omega
  have q1 : (H.toList == H.toList) = true := by simp
  have q2 : ((H ++ K).toList == (H ++ K).toList) = true := by simp
  have q3 : ((H ++ K ++ EB).toList == (H ++ K ++ EB).toList) = true := by simp
  have q4 : (Y.toList == Y.toList) = true := by simp
  clear hY hB0 hK hEB h0 h1 h2 hE0 hE64 hM hk64 e0 sk se sH
  replace c0 := Lib.hid c0; replace ck := Lib.hid ck; replace ce := Lib.hid ce; replace kA := Lib.hid kA; replace kB := Lib.hid kB; replace bA := Lib.hid bA; replace bT := Lib.hid bT; replace bO := Lib.hid bO; replace hH := Lib.hid hH; replace hAw := Lib.hid hAw
  go_enter Tryd.func7, Tryd.ntmps7
  go_upto_region 1 with fail
  have hlt : w.heap.size < (w.alloc (.cells #[.int .u64 (n0 : Int), .int .u64 (i1 : Int), .int .u64 (i2 : Int)] 52)).heap.size := by simp
  have d0 : (w.alloc (.cells #[.int .u64 (n0 : Int), .int .u64 (i1 : Int), .int .u64 (i2 : Int)] 52)).cell? ⟨w.heap.size, 0, none⟩ = some (.int .u64 (n0 : Int)) := newCell w #[.int .u64 (n0 : Int), .int .u64 (i1 : Int), .int .u64 (i2 : Int)] 52 0
  have d1 : (w.alloc (.cells #[.int .u64 (n0 : Int), .int .u64 (i1 : Int), .int .u64 (i2 : Int)] 52)).cell? ⟨w.heap.size, 1, none⟩ = some (.int .u64 (i1 : Int)) := newCell w #[.int .u64 (n0 : Int), .int .u64 (i1 : Int), .int .u64 (i2 : Int)] 52 1
  have d2 : (w.alloc (.cells #[.int .u64 (n0 : Int), .int .u64 (i1 : Int), .int .u64 (i2 : Int)] 52)).cell? ⟨w.heap.size, 2, none⟩ = some (.int .u64 (i2 : Int)) := newCell w #[.int .u64 (n0 : Int), .int .u64 (i1 : Int), .int .u64 (i2 : Int)] 52 2
  replace hlt := Lib.hid hlt
  go_region_held3 (fun w' => Below w.heap.size w w' ∧ w.heap.size < w'.heap.size ∧ w'.cell? ⟨w.heap.size, 0, none⟩ = some (.int .u64 (n0 : Int)) ∧ w'.cell? ⟨w.heap.size, 1, none⟩ = some (.int .u64 (i1 : Int)) ∧ w'.cell? ⟨w.heap.size, 2, none⟩ = some (.int .u64 (i2 : Int)))
    (first
    | exact ⟨((Below.refl _ _).alloc (Nat.le_refl _) _).drew, hlt.out, d0, d1, d2⟩
    | (go_split_ands; exact ⟨by assumption, by assumption, by assumption, by assumption, by assumption⟩)
    | (go_split_ands; exact ⟨belowCont (by assumption) (by assumption), Nat.lt_of_lt_of_le (by assumption) (Below.size (by assumption)), (Below.cell (by assumption) (by assumption)).trans (by assumption), (Below.cell (by assumption) (by assumption)).trans (by assumption), (Below.cell (by assumption) (by assumption)).trans (by assumption)⟩))
    (fail)
  clear d0 d1 d2 hlt
  obtain ⟨b0, z0, d0, d1, d2⟩ := ‹Below _ w _ ∧ _›
  replace b0 := Lib.hid b0; replace z0 := Lib.hid z0
  go_upto_region 6 with (go_at_call 30; (with_reducible refine (c0.out _).mono ?_); rintro e w1 ⟨rfl, hb⟩; have g0 := (hb.cell z0.out).trans d0; have g1 := (hb.cell z0.out).trans d1; have g2 := (hb.cell z0.out).trans d2; have zz := Lib.hid (Nat.lt_of_lt_of_le z0.out hb.size); have bb := Lib.hid (belowCont b0.out hb); clear hb)
  rw [← hH.out]
  clear d0 d1 d2 hor s0
  go_region_held3 (fun w' => Below w.heap.size w w' ∧ w.heap.size < w'.heap.size ∧ w'.cell? ⟨w.heap.size, 0, none⟩ = some (.int .u64 (n0 : Int)) ∧ w'.cell? ⟨w.heap.size, 1, none⟩ = some (.int .u64 (i1 : Int)) ∧ w'.cell? ⟨w.heap.size, 2, none⟩ = some (.int .u64 (i2 : Int)))
    (first
    | exact ⟨bb.out.drew, zz.out, g0, g1, g2⟩
    | (go_split_ands; exact ⟨by assumption, by assumption, by assumption, by assumption, by assumption⟩)
    | (go_split_ands; exact ⟨belowCont (by assumption) (by assumption), Nat.lt_of_lt_of_le (by assumption) (Below.size (by assumption)), (Below.cell (by assumption) (by assumption)).trans (by assumption), (Below.cell (by assumption) (by assumption)).trans (by assumption), (Below.cell (by assumption) (by assumption)).trans (by assumption)⟩))
    (first
      | (go_at_call 31; (with_reducible refine (hAw.out _).mono ?_); rintro e w1 ⟨rfl, hb⟩)
      | (go_at_call 32; (with_reducible refine (kA.out _).mono ?_); rintro e w1 ⟨rfl, hb⟩)
      | (go_at_call 33; (with_reducible refine (kB.out _).mono ?_); rintro e w1 ⟨rfl, hb⟩)
      | (go_at_call 34; (with_reducible refine (bA.out _).mono ?_); rintro e w1 ⟨rfl, hb⟩)
      | (go_at_call 34; (with_reducible refine (bT.out _).mono ?_); rintro e w1 ⟨rfl, hb⟩)
      | (go_at_call 34; (with_reducible refine (bO.out _).mono ?_); rintro e w1 ⟨rfl, hb⟩)
      | (go_at_call 30; (with_reducible refine (ck.out _).mono ?_); rintro e w1 ⟨rfl, hb⟩)
      | (go_at_call 30; (with_reducible refine (ce.out _).mono ?_); rintro e w1 ⟨rfl, hb⟩))
  go_wp2
  go_ret
  go_split_ands; exact ⟨rfl, by assumption⟩
end Go.Proofs.YtebhdlecekjhgaaDoor.order
