/- The law ValuePuts, whole. No condition. -/
import Derived.Test.YtebhdlecekjhgaaValue8
namespace Go.Proofs.Ytebhdlecekjhgaa.value
open Go.RowKit
set_option linter.unusedVariables false
set_option maxRecDepth 100000

theorem and_1 (x : Int) : bits .and .i64 x 1 = x % 2 := and_mask x 1 1 (by decide) (by decide)
theorem told_none : Told 0 0 ⟨#[]⟩ true false [0] where
  may := may_none
  rmay := rmay_none
  words := fun w => words_of 0 0 ⟨#[]⟩ true may_none w
  rwords := fun w => rwords_of 0 0 ⟨#[]⟩ true rmay_none w
  put := put_none
  rput := rput_none
theorem told_0 : Told 1 0 ⟨#[]⟩ true true [1, 0] where
  may := may_0
  rmay := rmay_0
  words := fun w => words_of 1 0 ⟨#[]⟩ true may_0 w
  rwords := fun w => rwords_of 1 0 ⟨#[]⟩ true rmay_0 w
  put := put_0
  rput := rput_0
theorem told_1 : Told 1 1 ⟨#[]⟩ true true [1, 1] where
  may := may_1
  rmay := rmay_1
  words := fun w => words_of 1 1 ⟨#[]⟩ true may_1 w
  rwords := fun w => rwords_of 1 1 ⟨#[]⟩ true rmay_1 w
  put := put_1
  rput := rput_1
theorem told_int (n : Int) (u : Nat) (hu : IntKind.u64.wrap n = (u : Int)) (h : u < 18446744073709551616) : Told 2 n ⟨#[]⟩ true true (2 :: code.beL 8 u) where
  may := may_int n
  rmay := rmay_int n
  words := fun w => words_of 2 n ⟨#[]⟩ true (may_int n) w
  rwords := fun w => rwords_of 2 n ⟨#[]⟩ true (rmay_int n) w
  put := put_int n u hu
  rput := rput_int n u hu h
theorem told_txt (l : List UInt8) (hl : l.length ≤ 2000) : Told 3 0 (str l) true (wordsB true 3 (str l).size) (3 :: (code.numL l.length ++ l)) where
  may := may_txt _ true (by rw [str_size]; simp; omega)
  rmay := rmay_txt _ true (by rw [str_size]; simp; omega)
  words := fun w => words_of 3 0 _ true (may_txt _ true (by rw [str_size]; simp; omega)) w
  rwords := fun w => by
    have h := rwords_of 3 0 (str l) true (rmay_txt _ true (by rw [str_size]; simp; omega)) w
    have e : rwordsB true 3 (str l).size = wordsB true 3 (str l).size := by unfold rwordsB wordsB; simp
    rwa [e] at h
  put := put_txt l hl
  rput := rput_txt l hl
theorem told_long (s : ByteArray) (h : ¬ s.size ≤ 2000) : Told 3 0 s false false [] where
  may := may_txt _ false (by simp; omega)
  rmay := rmay_txt _ false (by simp; omega)
  words := fun w => words_of 3 0 _ false (may_txt _ false (by simp; omega)) w
  rwords := fun w => rwords_of 3 0 _ false (rmay_txt _ false (by simp; omega)) w
  put := put_bad _ _ _ (may_txt _ false (by simp; omega))
  rput := rput_bad _ _ _ (rmay_txt _ false (by simp; omega))
theorem told_odd (k n : Int) (s : ByteArray) (h : Odd k) : Told k n s false false [] where
  may := may_odd k n s h
  rmay := rmay_odd k n s h
  words := fun w => words_of k n s false (may_odd k n s h) w
  rwords := fun w => rwords_of k n s false (rmay_odd k n s h) w
  put := put_bad _ _ _ (may_odd k n s h)
  rput := rput_bad _ _ _ (rmay_odd k n s h)
theorem text_law (v0 v1 : Int) (v2 S0 : ByteArray) (long : Int) (hS0 : S0.size ≤ 60)
    (hnear : ∀ w, Calls Try.prog 14 #[.agg #[.int .i64 v0, .int .i64 v1, .string v2]] w fun e w' => e = .returned (.agg #[.int .i64 3, .int .i64 0, .string S0]) ∧ Below w.heap.size w w') (w : World) :
    Calls Try.prog 4 #[.agg #[.int .i64 v0, .int .i64 v1, .string v2], .int .i64 long] w fun e w' => e = .returned (.bool true) ∧ Below w.heap.size w w' := by
  obtain ⟨j, hj, hj2⟩ : ∃ j : Nat, bits .and .i64 long 2047 = (j : Int) ∧ j < 2048 := ⟨(long % 2048).toNat, by rw [and_2047]; omega, by omega⟩
  have hs : str (S0.data.toList ++ List.replicate j 0) = S0 ++ str (List.replicate j 0) := by rw [← str_append, str_of]
  have hl : (S0.data.toList ++ List.replicate j 0).length = S0.size + j := by simp
  by_cases h : S0.size + j ≤ 2000
  · have hn := code.numL_len64 (S0.data.toList ++ List.replicate j 0).length (by omega)
    exact text_true v0 v1 v2 long S0 _ j hS0 hj hj2 hs _ (3 :: (code.numL (S0.data.toList ++ List.replicate j 0).length ++ (S0.data.toList ++ List.replicate j 0))) (by simp) (by rw [List.length_cons, List.length_append]; omega) hnear (told_txt _ (by omega)) (fun w g hr => take_txt _ (by omega) hr) w
  · exact text_false v0 v1 v2 long S0 _ j hS0 hj hj2 hs hnear (told_long _ (by rw [str_size, hl]; omega)) w
theorem valuePuts_walk (a0_0 : Int) (a0_1 : Int) (a0_2 : ByteArray) (a1 : Int) (w : World) (w0_0 : (Lit.int .i64 a0_0).wf = true) (w0_1 : (Lit.int .i64 a0_1).wf = true) (w0_2 : a0_2.size ≤ maxLen) (w1 : (Lit.int .i64 a1).wf = true) :
    Calls Try.prog 4 #[.agg #[.int .i64 a0_0, .int .i64 a0_1, .string a0_2], .int .i64 a1] w fun e w' => e = .returned (.bool true) ∧ Below w.heap.size w w' := by
  have hk := and_7 a0_0
  have hcases : a0_0 % 8 = 0 ∨ a0_0 % 8 = 1 ∨ a0_0 % 8 = 2 ∨ a0_0 % 8 = 3 ∨ a0_0 % 8 = 4 ∨ a0_0 % 8 = 5 ∨ a0_0 % 8 = 6 ∨ a0_0 % 8 = 7 := by omega
  have hn := of_wf_i64 w0_1
  obtain ⟨u, hu, hu64⟩ : ∃ u : Nat, IntKind.u64.wrap a0_1 = (u : Int) ∧ u < 18446744073709551616 := ⟨(a0_1 % 18446744073709551616).toNat, by rw [IntKind.wrap_u64]; omega, by omega⟩
  have hui : IntKind.i64.wrap (u : Int) = a0_1 := by
    rw [IntKind.wrap_u64] at hu
    rw [IntKind.wrap_i64]
    omega
  rcases hcases with h | h | h | h | h | h | h | h
  · rw [h] at hk
    exact puts_true a0_0 a0_1 a0_2 a1 0 0 ⟨#[]⟩ false [0] (by decide) (by simp) (by decide) (near_0 _ _ _ hk) told_none (fun w g hr => take_none hr) w
  · rw [h] at hk
    have h1 := and_1 a0_1
    have h2 : a0_1 % 2 = 0 ∨ a0_1 % 2 = 1 := by omega
    rcases h2 with h2 | h2
    · rw [h2] at h1
      exact puts_true a0_0 a0_1 a0_2 a1 1 0 ⟨#[]⟩ true [1, 0] (by decide) (by simp) (by decide) (near_10 _ _ _ hk h1) told_0 (fun w g hr => take_0 hr) w
    · rw [h2] at h1
      exact puts_true a0_0 a0_1 a0_2 a1 1 1 ⟨#[]⟩ true [1, 1] (by decide) (by simp) (by decide) (near_11 _ _ _ hk h1) told_1 (fun w g hr => take_1 hr) w
  · rw [h] at hk
    exact puts_true a0_0 a0_1 a0_2 a1 2 a0_1 ⟨#[]⟩ true (2 :: code.beL 8 u) (by decide) (by simp) (by rw [List.length_cons, code.beL_length]; decide) (near_2 _ _ _ hk) (told_int a0_1 u hu hu64) (fun w g hr => take_int a0_1 u hui hu64 hr) w
  · rw [h] at hk
    exact puts_true a0_0 a0_1 a0_2 a1 2 a0_1 ⟨#[]⟩ true (2 :: code.beL 8 u) (by decide) (by simp) (by rw [List.length_cons, code.beL_length]; decide) (near_3 _ _ _ hk) (told_int a0_1 u hu hu64) (fun w g hr => take_int a0_1 u hui hu64 hr) w
  · rw [h] at hk
    by_cases hs : a0_2.size ≤ 60
    · exact text_law _ _ _ a0_2 a1 hs (near_4s _ _ _ hk hs) w
    · exact text_law _ _ _ (a0_2.extract 0 60) a1 (by rw [ByteArray.size_extract]; omega) (near_4l _ _ _ hk (by omega)) w
  · rw [h] at hk
    by_cases hs : a0_2.size ≤ 60
    · exact text_law _ _ _ a0_2 a1 hs (near_5s _ _ _ hk hs) w
    · exact text_law _ _ _ (a0_2.extract 0 60) a1 (by rw [ByteArray.size_extract]; omega) (near_5l _ _ _ hk (by omega)) w
  · rw [h] at hk
    by_cases hs : a0_2.size ≤ 60
    · exact text_law _ _ _ a0_2 a1 hs (near_6s _ _ _ hk hs) w
    · exact text_law _ _ _ (a0_2.extract 0 60) a1 (by rw [ByteArray.size_extract]; omega) (near_6l _ _ _ hk (by omega)) w
  · rw [h] at hk
    have ho : Odd a0_0 := ⟨by simp; omega, by simp; omega, by simp; omega, by simp; omega⟩
    by_cases hs : a0_2.size ≤ 2100
    · exact puts_false a0_0 a0_1 a0_2 a1 a0_0 a0_1 a0_2 ho.e3 (near_7s _ _ _ hk hs) (told_odd _ _ _ ho) w
    · exact puts_false a0_0 a0_1 a0_2 a1 a0_0 a0_1 (a0_2.extract 0 2100) ho.e3 (near_7l _ _ _ hk (by omega)) (told_odd _ _ _ ho) w
end Go.Proofs.Ytebhdlecekjhgaa.value
