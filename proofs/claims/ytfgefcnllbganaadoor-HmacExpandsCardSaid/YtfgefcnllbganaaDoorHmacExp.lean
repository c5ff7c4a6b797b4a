/- So many bytes of a key are the document's; fewer are their beginning. The table of salts is a premise. No other condition. -/
import Derived.Test.YtfgefcnllbganaaDoorHmac5
import Derived.Test.YtfgefcnllbganaaDoorHmacTags
namespace Go.Proofs.YtfgefcnllbganaaDoor.sha
open Go.RowKit
attribute [local go_sem ↓] Go.wp_at_zero Go.wp_at_succ
set_option linter.unusedVariables false

theorem allK_pre (k p : List UInt8) (i j : Nat) : allK k p (i + j) = allK k p i ++ (allK k p (i + j)).drop (32 * i) := by
  induction j with
  | zero =>
    have h : (allK k p i).drop (32 * i) = [] := List.drop_eq_nil_of_le (by rw [allK_len]; exact Nat.le_refl _)
    rw [Nat.add_zero, h, List.append_nil]
  | succ j ih =>
    have h : allK k p (i + (j + 1)) = allK k p (i + j) ++ lastK k p (i + j + 1) := rfl
    rw [h, List.drop_append_of_le_length (by rw [allK_len]; omega), ← List.append_assoc, ← ih]
theorem allK_take (k p : List UInt8) (i c n : Nat) (hi : i ≤ c) (hn : n ≤ 32 * i) : (allK k p c).take n = (allK k p i).take n := by
  obtain ⟨j, rfl⟩ : ∃ j, c = i + j := ⟨c - i, by omega⟩
  rw [allK_pre k p i j, List.take_append_of_le_length (by rw [allK_len]; exact hn)]
theorem half_cut (k p : List UInt8) (m : Nat) : (str ((allK k p ((m + 31) / 32)).take m)).extract 0 (m / 2) = str ((allK k p ((m / 2 + 31) / 32)).take (m / 2)) := by
  rw [cut_extract]
  have e : (allK k p ((m + 31) / 32)).take (m / 2) = (allK k p ((m / 2 + 31) / 32)).take (m / 2) := allK_take _ _ _ _ _ (by omega) (by omega)
  rw [← e]
  simp [List.take_take, Nat.min_eq_left (Nat.div_le_self m 2), Nat.min_eq_right (Nat.div_le_self m 2)]
theorem take_size (k p : List UInt8) (m : Nat) : (str ((allK k p ((m + 31) / 32)).take m)).size = m := by
  rw [str_size, List.length_take, allK_len]; omega
set_option maxRecDepth 100000 in
set_option maxHeartbeats 1000000 in
theorem hmacExpands_walk (a0 a1 : ByteArray) (a2 : Int) (w : World) (w0 : a0.size ≤ reachBytes) (w1 : a1.size ≤ reachBytes) (w2 : (Lit.int .i64 a2).wf = true) (hT : SaltAt w salts) :
    Calls Tryd.prog 7 #[.string a0, .string a1, .int .i64 a2] w fun e w' => e = .returned (.bool true) ∧ Below w.heap.size w w' := by
  clear w0 w1 w2
  have hk : a0.extract 0 (min (a0.size : Int) 100).toNat = str (a0.data.toList.take 100) := cut_min a0 100
  have ht : a1.extract 0 (min (a1.size : Int) 50).toNat = str (a1.data.toList.take 50) := cut_min a1 50
  obtain ⟨k, hk0⟩ : ∃ k, k = a0.data.toList.take 100 := ⟨_, rfl⟩
  obtain ⟨t, ht0⟩ : ∃ k, k = a1.data.toList.take 50 := ⟨_, rfl⟩
  have hkl : k.length ≤ 100 := by rw [hk0, List.length_take]; omega
  have htl : t.length ≤ 50 := by rw [ht0, List.length_take]; omega
  rw [← hk0] at hk
  rw [← ht0] at ht
  have hand := and_255 a2
  obtain ⟨m, hz, hm⟩ : ∃ z : Nat, a2 % 256 = (z : Int) ∧ z < 256 := ⟨(a2 % 256).toNat, by omega, by omega⟩
  rw [hz] at hand
  clear hz
  have d1 : (m : Int).tdiv 2 = ((m / 2 : Nat) : Int) := rfl
  have d2 : IntKind.i64.wrap ((m : Int).tdiv 2) = ((m / 2 : Nat) : Int) := by rw [d1, IntKind.wrap_i64]; omega
  have d3 : (m : Int) / 2 = ((m / 2 : Nat) : Int) := by omega
  have d4 : wrap64 ((m / 2 : Nat) : Int) = ((m / 2 : Nat) : Int) := by unfold wrap64; omega
  obtain ⟨n, hn⟩ : ∃ n, n = m / 2 := ⟨_, rfl⟩
  have hhalf := half_cut k t m
  have hsz := take_size k t m
  have c1 := fun w' h => expand_any k t m (by omega) (by omega) (by omega) w' h
  have c2 := fun w' h => expand_any k t (m / 2) (by omega) (by omega) (by omega) w' h
  have c3 := fun w' => rexpand_any k t m (by omega) (by omega) (by omega) w'
  rw [← hn] at c2 hhalf d1 d2 d3 d4
  obtain ⟨K0, hK0⟩ : ∃ X, X = str k := ⟨_, rfl⟩
  obtain ⟨T0, hT0⟩ : ∃ X, X = str t := ⟨_, rfl⟩
  obtain ⟨M0, hM0⟩ : ∃ X, X = str ((allK k t ((m + 31) / 32)).take m) := ⟨_, rfl⟩
  obtain ⟨N0, hN0⟩ : ∃ X, X = str ((allK k t ((n + 31) / 32)).take n) := ⟨_, rfl⟩
  rw [← hK0, ← hT0] at c1 c2 c3
  rw [← hM0] at c1 c3
  rw [← hM0, ← hN0] at hhalf
  rw [← hM0] at hsz
  rw [← hN0] at c2
  rw [← hK0] at hk
  rw [← hT0] at ht
  have b1 : (0 : Int) ≤ min (a0.size : Int) 100 := by omega
  have b2 : min (a0.size : Int) 100 ≤ (a0.size : Int) := by omega
  have b3 : (0 : Int) ≤ min (a1.size : Int) 50 := by omega
  have b4 : min (a1.size : Int) 50 ≤ (a1.size : Int) := by omega
  have b5 : (n : Int) ≤ (m : Int) := by omega
  have b6 : n ≤ m := by omega
  have hbb : Below w.heap.size w w := Below.refl _ _
  replace hbb := Lib.hid hbb
  replace c1 := Lib.hid c1; replace c2 := Lib.hid c2; replace c3 := Lib.hid c3; replace hT := Lib.hid hT
  clear hk0 ht0 hkl htl hK0 hT0 hM0 hN0 hn hm
  go_enter Tryd.func7, Tryd.ntmps7
  go_upto_region 1 with fail
  go_cut [7, 8] from 9 (fun p q wx => p = .string K0 ∧ q = .string T0 ∧ wx = w.drew)
  case first =>
    refine wp_region_still_lit (by kernel_rfl) (by kernel_rfl) ?_
    change wpStill _ _ w.drew _ _ _
    repeat still_step
    refine wpStill_nil ?_
    go_wp2_with fail
    go_meet
    exact ⟨by first | rfl | rw [hk], by first | rfl | rw [ht], rfl⟩
  case rest =>
  obtain ⟨rfl, rfl, rfl⟩ := hcut
  replace hbb := Lib.hid hbb.out.drew
  go_wp2_with (first
    | (go_at_call 14; (with_reducible refine (hawake_any _ (hT.out.keep hbb.out)).mono ?_); rintro e w1 ⟨rfl, b1⟩; replace hbb := Lib.hid (belowCont hbb.out b1))
    | (go_at_call 18; (with_reducible refine (c1.out _ (hT.out.keep hbb.out)).mono ?_); rintro e w1 ⟨rfl, b1⟩; replace hbb := Lib.hid (belowCont hbb.out b1))
    | (go_at_call 18; (with_reducible refine (c2.out _ (hT.out.keep hbb.out)).mono ?_); rintro e w1 ⟨rfl, b1⟩; replace hbb := Lib.hid (belowCont hbb.out b1))
    | (go_at_call 19; (with_reducible refine (c3.out _).mono ?_); rintro e w1 ⟨rfl, b1⟩; replace hbb := Lib.hid (belowCont hbb.out b1)))
  all_goals go_ret
  all_goals exact ⟨rfl, hbb.out⟩
end Go.Proofs.YtfgefcnllbganaaDoor.sha
