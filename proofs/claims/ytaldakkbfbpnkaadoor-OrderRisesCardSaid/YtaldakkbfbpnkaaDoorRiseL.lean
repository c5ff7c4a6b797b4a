/- Parts rise as what they say, and none begins another one: the law. That a variable of the library holds a number is a premise. No other condition. -/
import Derived.Test.YtaldakkbfbpnkaaDoorRise
import Derived.StillTailTactics
namespace Go.Proofs.YtaldakkbfbpnkaaDoor.order
open Go.RowKit
attribute [local go_sem ↓] Go.wp_at_zero Go.wp_at_succ
attribute [local go_sem] str_bl str_size str_append
set_option linter.unusedVariables false
set_option maxRecDepth 100000

theorem cut_min (s : ByteArray) (k : Nat) : s.extract 0 (min (s.size : Int) k).toNat = str (s.data.toList.take k) := by
  by_cases h : s.size ≤ k
  · rw [show (min (s.size : Int) k).toNat = s.size by omega]; exact cut_whole s k h
  · rw [show (min (s.size : Int) k).toNat = k by omega]; exact cut_text s k
set_option maxHeartbeats 1000000 in
theorem orderRises_walk (a0 : Int) (a1 : Int) (a2_0 : ByteArray) (a2_1 : ByteArray) (w : World) (w0 : (Lit.int .u64 a0).wf = true) (w1 : (Lit.int .u64 a1).wf = true) (w2_0 : a2_0.size ≤ maxLen) (w2_1 : a2_1.size ≤ maxLen) (hM : MaxAt w) :
    Calls Tryd.prog 14 #[.int .u64 a0, .int .u64 a1, .agg #[.string a2_0, .string a2_1]] w fun e w' => e = .returned (.bool true) ∧ Below w.heap.size w w' := by
  clear w2_0 w2_1
  obtain ⟨a, rfl, hal⟩ : ∃ n : Nat, a0 = (n : Int) ∧ n < 18446744073709551616 := by
    have : 0 ≤ a0 ∧ a0 ≤ 18446744073709551615 := by simpa [Lit.wf, IntKind.min, IntKind.max, IntKind.signed, IntKind.bits] using w0
    exact ⟨a0.toNat, by omega, by omega⟩
  obtain ⟨b, rfl, hbl⟩ : ∃ n : Nat, a1 = (n : Int) ∧ n < 18446744073709551616 := by
    have : 0 ≤ a1 ∧ a1 ≤ 18446744073709551615 := by simpa [Lit.wf, IntKind.min, IntKind.max, IntKind.signed, IntKind.bits] using w1
    exact ⟨a1.toNat, by omega, by omega⟩
  clear w0 w1
  obtain ⟨x, hx, hx1, hx2⟩ : ∃ x : Int, IntKind.i64.wrap (a : Int) = x ∧ -9223372036854775808 ≤ x ∧ x < 9223372036854775808 := ⟨_, rfl, by rw [IntKind.wrap_i64]; omega, by rw [IntKind.wrap_i64]; omega⟩
  obtain ⟨y, hy, hy1, hy2⟩ : ∃ y : Int, IntKind.i64.wrap (b : Int) = y ∧ -9223372036854775808 ≤ y ∧ y < 9223372036854775808 := ⟨_, rfl, by rw [IntKind.wrap_i64]; omega, by rw [IntKind.wrap_i64]; omega⟩
  obtain ⟨ma, hma1, hma2, hma3⟩ := int_bits x
  obtain ⟨mb, hmb1, hmb2, hmb3⟩ := int_bits y
  have n2 : Op.bytesLess (32 :: beL 8 ma) (32 :: beL 8 mb) = decide (x < y) := by
    rw [less_int ma mb hma3 hmb3]
    apply decide_eq_decide.mpr
    rw [IntKind.wrap_u64, IntKind.wrap_u64] at hma2 hmb2
    clear hma1 hmb1 hx hy
    omega
  have n1 : Op.bytesLess (numP a) (numP b) = decide ((a : Int) < (b : Int)) := by
    rw [less_num a b hal hbl]; apply decide_eq_decide.mpr; omega
  have f1 := front_num a b hal hbl
  have cx : a2_0.extract 0 (min (a2_0.size : Int) 100).toNat = str (a2_0.data.toList.take 100) := cut_min a2_0 100
  have cy : a2_1.extract 0 (min (a2_1.size : Int) 100).toNat = str (a2_1.data.toList.take 100) := cut_min a2_1 100
  obtain ⟨T, hT0⟩ : ∃ k, k = a2_0.data.toList.take 100 := ⟨_, rfl⟩
  obtain ⟨U, hU0⟩ : ∃ k, k = a2_1.data.toList.take 100 := ⟨_, rfl⟩
  have hTl : T.length ≤ 100 := by rw [hT0, List.length_take]; omega
  have hUl : U.length ≤ 100 := by rw [hU0, List.length_take]; omega
  rw [← hT0] at cx
  rw [← hU0] at cy
  clear hT0 hU0
  have n3 := less_text T U
  have f3 := front_text T U
  have c1 := fun w' => onum_any a w'
  have c2 := fun w' => onum_any b w'
  have c3 := fun w' => oint_any ma x hma1 w'
  have c4 := fun w' => oint_any mb y hmb1 w'
  have c5 := fun w' h => otext_any T (by omega) w' h
  have c6 := fun w' h => otext_any U (by omega) w' h
  have c7 := fun w' => begins_any (textP T) (textP U) w'
  have c8 := fun w' => begins_any (numP a) (numP b) w'
  obtain ⟨La, hLa⟩ : ∃ X, X = numP a := ⟨_, rfl⟩
  obtain ⟨Lb, hLb⟩ : ∃ X, X = numP b := ⟨_, rfl⟩
  obtain ⟨Ia, hIa⟩ : ∃ X, X = 32 :: beL 8 ma := ⟨_, rfl⟩
  obtain ⟨Ib, hIb⟩ : ∃ X, X = 32 :: beL 8 mb := ⟨_, rfl⟩
  obtain ⟨Ta, hTa⟩ : ∃ X, X = textP T := ⟨_, rfl⟩
  obtain ⟨Tb, hTb⟩ : ∃ X, X = textP U := ⟨_, rfl⟩
  rw [← hLa] at c1 c8 n1 f1
  rw [← hLb] at c2 c8 n1 f1
  rw [← hIa] at c3 n2
  rw [← hIb] at c4 n2
  rw [← hTa] at c5 c7 n3 f3
  rw [← hTb] at c6 c7 n3 f3
  obtain ⟨p3, hp3⟩ : ∃ X, Ta.isPrefixOf Tb = X := ⟨_, rfl⟩
  obtain ⟨p1, hp1⟩ : ∃ X, La.isPrefixOf Lb = X := ⟨_, rfl⟩
  rw [hp3] at c7 f3
  rw [hp1] at c8 f1
  have b1 : (0 : Int) ≤ min (a2_0.size : Int) 100 := by omega
  have b2 : min (a2_0.size : Int) 100 ≤ (a2_0.size : Int) := by omega
  have b3 : (0 : Int) ≤ min (a2_1.size : Int) 100 := by omega
  have b4 : min (a2_1.size : Int) 100 ≤ (a2_1.size : Int) := by omega
  have hbb : Below w.heap.size w (w.alloc (.cells #[.string a2_0, .string a2_1] 57)).drew := ((Below.refl _ w).alloc (Nat.le_refl _) _).drew
  replace hbb := Lib.hid hbb
  clear hLa hLb hIa hIb hTa hTb hp3 hp1 hma1 hma2 hma3 hmb1 hmb2 hmb3 hx1 hx2 hy1 hy2 hTl hUl hal hbl
  replace c1 := Lib.hid c1; replace c2 := Lib.hid c2; replace c3 := Lib.hid c3; replace c4 := Lib.hid c4; replace c5 := Lib.hid c5; replace c6 := Lib.hid c6; replace c7 := Lib.hid c7; replace c8 := Lib.hid c8
  replace n1 := Lib.hid n1; replace n2 := Lib.hid n2; replace n3 := Lib.hid n3; replace f1 := Lib.hid f1; replace f3 := Lib.hid f3; replace hM := Lib.hid hM
  go_enter Tryd.func14, Tryd.ntmps14
  go_upto_region 1 with fail
  go_cut [7, 8] from 9 (fun p q wx => p = .string (str T) ∧ q = .string (str U) ∧ wx = (w.alloc (.cells #[.string a2_0, .string a2_1] 57)).drew)
  case first =>
    refine wp_region_still_lit (by kernel_rfl) (by kernel_rfl) ?_
    change wpStill _ _ (w.alloc (.cells #[.string a2_0, .string a2_1] 57)).drew _ _ _
    repeat still_step
    refine wpStill_nil ?_
    go_wp2_with fail
    go_meet
    exact ⟨by first | rfl | rw [cx], by first | rfl | rw [cy], rfl⟩
  case rest =>
  obtain ⟨rfl, rfl, rfl⟩ := hcut
  clear cx cy b1 b2 b3 b4
  have hTU : p3 = true → T = U := f3.out
  have hab : p1 = true → a = b := f1.out
  clear f1 f3
  have hs := less_same
  replace n1 := n1.out; replace n2 := n2.out; replace n3 := n3.out
  cases p3 <;> cases p1
  case true.true =>
    obtain rfl := hTU rfl; obtain rfl := hab rfl; clear hTU hab
    go_wp2_with (first
      | (go_at_call 40; (with_reducible refine (c1.out _).mono ?_); rintro e w1 ⟨rfl, b1⟩; replace hbb := Lib.hid (belowCont hbb.out b1); clear b1)
      | (go_at_call 40; (with_reducible refine (c2.out _).mono ?_); rintro e w1 ⟨rfl, b1⟩; replace hbb := Lib.hid (belowCont hbb.out b1); clear b1)
      | (go_at_call 41; (with_reducible refine (c3.out _).mono ?_); rintro e w1 ⟨rfl, b1⟩; replace hbb := Lib.hid (belowCont hbb.out b1); clear b1)
      | (go_at_call 41; (with_reducible refine (c4.out _).mono ?_); rintro e w1 ⟨rfl, b1⟩; replace hbb := Lib.hid (belowCont hbb.out b1); clear b1)
      | (go_at_call 42; (with_reducible refine (c5.out _ (hM.out.keep hbb.out)).mono ?_); rintro e w1 ⟨rfl, b1⟩; replace hbb := Lib.hid (belowCont hbb.out b1); clear b1)
      | (go_at_call 42; (with_reducible refine (c6.out _ (hM.out.keep hbb.out)).mono ?_); rintro e w1 ⟨rfl, b1⟩; replace hbb := Lib.hid (belowCont hbb.out b1); clear b1)
      | (go_at_call 43; (with_reducible refine (awake_any _).mono ?_); rintro e w1 ⟨rfl, b1⟩; replace hbb := Lib.hid (belowCont hbb.out b1); clear b1)
      | (go_at_call 44; (with_reducible refine (c7.out _).mono ?_); rintro e w1 ⟨rfl, rfl⟩)
      | (go_at_call 44; (with_reducible refine (c8.out _).mono ?_); rintro e w1 ⟨rfl, rfl⟩))
    all_goals go_ret
    all_goals exact ⟨rfl, hbb.out⟩
  case true.false =>
    obtain rfl := hTU rfl; clear hTU hab
    go_wp2_with (first
      | (go_at_call 40; (with_reducible refine (c1.out _).mono ?_); rintro e w1 ⟨rfl, b1⟩; replace hbb := Lib.hid (belowCont hbb.out b1); clear b1)
      | (go_at_call 40; (with_reducible refine (c2.out _).mono ?_); rintro e w1 ⟨rfl, b1⟩; replace hbb := Lib.hid (belowCont hbb.out b1); clear b1)
      | (go_at_call 41; (with_reducible refine (c3.out _).mono ?_); rintro e w1 ⟨rfl, b1⟩; replace hbb := Lib.hid (belowCont hbb.out b1); clear b1)
      | (go_at_call 41; (with_reducible refine (c4.out _).mono ?_); rintro e w1 ⟨rfl, b1⟩; replace hbb := Lib.hid (belowCont hbb.out b1); clear b1)
      | (go_at_call 42; (with_reducible refine (c5.out _ (hM.out.keep hbb.out)).mono ?_); rintro e w1 ⟨rfl, b1⟩; replace hbb := Lib.hid (belowCont hbb.out b1); clear b1)
      | (go_at_call 42; (with_reducible refine (c6.out _ (hM.out.keep hbb.out)).mono ?_); rintro e w1 ⟨rfl, b1⟩; replace hbb := Lib.hid (belowCont hbb.out b1); clear b1)
      | (go_at_call 43; (with_reducible refine (awake_any _).mono ?_); rintro e w1 ⟨rfl, b1⟩; replace hbb := Lib.hid (belowCont hbb.out b1); clear b1)
      | (go_at_call 44; (with_reducible refine (c7.out _).mono ?_); rintro e w1 ⟨rfl, rfl⟩)
      | (go_at_call 44; (with_reducible refine (c8.out _).mono ?_); rintro e w1 ⟨rfl, rfl⟩))
    all_goals go_ret
    all_goals exact ⟨rfl, hbb.out⟩
  case false.true =>
    obtain rfl := hab rfl; clear hTU hab
    go_wp2_with (first
      | (go_at_call 40; (with_reducible refine (c1.out _).mono ?_); rintro e w1 ⟨rfl, b1⟩; replace hbb := Lib.hid (belowCont hbb.out b1); clear b1)
      | (go_at_call 40; (with_reducible refine (c2.out _).mono ?_); rintro e w1 ⟨rfl, b1⟩; replace hbb := Lib.hid (belowCont hbb.out b1); clear b1)
      | (go_at_call 41; (with_reducible refine (c3.out _).mono ?_); rintro e w1 ⟨rfl, b1⟩; replace hbb := Lib.hid (belowCont hbb.out b1); clear b1)
      | (go_at_call 41; (with_reducible refine (c4.out _).mono ?_); rintro e w1 ⟨rfl, b1⟩; replace hbb := Lib.hid (belowCont hbb.out b1); clear b1)
      | (go_at_call 42; (with_reducible refine (c5.out _ (hM.out.keep hbb.out)).mono ?_); rintro e w1 ⟨rfl, b1⟩; replace hbb := Lib.hid (belowCont hbb.out b1); clear b1)
      | (go_at_call 42; (with_reducible refine (c6.out _ (hM.out.keep hbb.out)).mono ?_); rintro e w1 ⟨rfl, b1⟩; replace hbb := Lib.hid (belowCont hbb.out b1); clear b1)
      | (go_at_call 43; (with_reducible refine (awake_any _).mono ?_); rintro e w1 ⟨rfl, b1⟩; replace hbb := Lib.hid (belowCont hbb.out b1); clear b1)
      | (go_at_call 44; (with_reducible refine (c7.out _).mono ?_); rintro e w1 ⟨rfl, rfl⟩)
      | (go_at_call 44; (with_reducible refine (c8.out _).mono ?_); rintro e w1 ⟨rfl, rfl⟩))
    all_goals go_ret
    all_goals exact ⟨rfl, hbb.out⟩
  case false.false =>
    clear hTU hab
    go_wp2_with (first
      | (go_at_call 40; (with_reducible refine (c1.out _).mono ?_); rintro e w1 ⟨rfl, b1⟩; replace hbb := Lib.hid (belowCont hbb.out b1); clear b1)
      | (go_at_call 40; (with_reducible refine (c2.out _).mono ?_); rintro e w1 ⟨rfl, b1⟩; replace hbb := Lib.hid (belowCont hbb.out b1); clear b1)
      | (go_at_call 41; (with_reducible refine (c3.out _).mono ?_); rintro e w1 ⟨rfl, b1⟩; replace hbb := Lib.hid (belowCont hbb.out b1); clear b1)
      | (go_at_call 41; (with_reducible refine (c4.out _).mono ?_); rintro e w1 ⟨rfl, b1⟩; replace hbb := Lib.hid (belowCont hbb.out b1); clear b1)
      | (go_at_call 42; (with_reducible refine (c5.out _ (hM.out.keep hbb.out)).mono ?_); rintro e w1 ⟨rfl, b1⟩; replace hbb := Lib.hid (belowCont hbb.out b1); clear b1)
      | (go_at_call 42; (with_reducible refine (c6.out _ (hM.out.keep hbb.out)).mono ?_); rintro e w1 ⟨rfl, b1⟩; replace hbb := Lib.hid (belowCont hbb.out b1); clear b1)
      | (go_at_call 43; (with_reducible refine (awake_any _).mono ?_); rintro e w1 ⟨rfl, b1⟩; replace hbb := Lib.hid (belowCont hbb.out b1); clear b1)
      | (go_at_call 44; (with_reducible refine (c7.out _).mono ?_); rintro e w1 ⟨rfl, rfl⟩)
      | (go_at_call 44; (with_reducible refine (c8.out _).mono ?_); rintro e w1 ⟨rfl, rfl⟩))
    all_goals go_ret
    all_goals exact ⟨rfl, hbb.out⟩
end Go.Proofs.YtaldakkbfbpnkaaDoor.order
