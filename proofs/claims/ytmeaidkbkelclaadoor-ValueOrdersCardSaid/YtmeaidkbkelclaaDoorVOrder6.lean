/- Values are in order as the document says, and their parts rise as they do: the law ValueOrders, whole. That a variable of the library holds a number is a premise. No other condition. -/
import Derived.Test.YtmeaidkbkelclaaDoorVOrder5
import Derived.Test.YtmeaidkbkelclaaDoorValue6
namespace Go.Proofs.YtmeaidkbkelclaaDoor.vorder
open Go.RowKit
open Go.Proofs.YtmeaidkbkelclaaDoor.order (numP textP beL PAt MaxAt)
set_option linter.unusedVariables false
set_option maxRecDepth 100000

theorem int_back (n : Int) (h1 : -9223372036854775808 ≤ n) (h2 : n ≤ 9223372036854775807) : ∃ m : Nat, m = (n + 9223372036854775808).toNat ∧ m < 18446744073709551616 ∧ bits .xor .u64 (IntKind.u64.wrap n) 9223372036854775808 = (m : Int) ∧ IntKind.u64.wrap (IntKind.u64.wrap n + 9223372036854775808) = (m : Int) ∧ wrap64 (bits .xor .u64 (m : Int) 9223372036854775808) = n := by
  obtain ⟨m, a1, a2, a3⟩ := order.int_bits n
  have e : m = (n + 9223372036854775808).toNat := by
    rw [IntKind.wrap_u64, IntKind.wrap_u64] at a2
    clear a1
    omega
  refine ⟨m, e, a3, a1, a2, ?_⟩
  have hx := u64_xor_nat m 9223372036854775808 a3 (by decide)
  rw [order.xor63 m a3] at hx
  have e2 : bits .xor .u64 (m : Int) 9223372036854775808 = (((m + 9223372036854775808) % 18446744073709551616 : Nat) : Int) := hx
  rw [e2]
  unfold wrap64
  clear hx e2 a1 a2
  omega
theorem told_int (kk : Nat) (hk : kk < 3) (n : Int) (h1 : -9223372036854775808 ≤ n) (h2 : n ≤ 9223372036854775807) (hmay : ∀ W, Calls Tryd.prog 31 #[.agg #[.int .i64 (kk : Int), .int .i64 n, .string ⟨#[]⟩]] W fun e w' => e = .returned (.bool true) ∧ Below W.heap.size W w') : VTold (kk : Int) n ⟨#[]⟩ (partV kk (n + 9223372036854775808).toNat []) := by
  obtain ⟨m, e, a3, a1, a2, a4⟩ := int_back n h1 h2
  rw [← e]
  exact ⟨fun w _ => part_int kk hk n m a1 _ w, fun w => rpart_int kk hk n m a3 a2 _ w, fun w p g h => parted_int kk hk n m a3 a4 hmay (r := []) (by simpa using h), .inl ⟨kk, hk, rfl, h1, by omega, rfl, by rw [e]⟩⟩
theorem told_txt (l : List UInt8) (hl : l.length ≤ 60) (hmay : ∀ W, Calls Tryd.prog 31 #[.agg #[.int .i64 3, .int .i64 0, .string (str l)]] W fun e w' => e = .returned (.bool true) ∧ Below W.heap.size W w') : VTold 3 0 (str l) (partV 3 0 l) :=
  ⟨fun w h => part_txt l (by omega) w h, fun w => rpart_txt l (by omega) w, fun w p g h => parted_txt l (by omega) hmay (r := []) (by simpa using h), .inr ⟨rfl, rfl, l, rfl, hl, rfl⟩⟩
theorem and_1 (x : Int) : bits .and .i64 x 1 = x % 2 := and_mask x 1 1 (by decide) (by decide)
/-- what Near makes of a value, and what is told of it -/
def NearOk (a0 a1 : Int) (a2 : ByteArray) : Prop := ∃ (k n : Int) (s : ByteArray) (m : Bool) (P : List UInt8),
  (∀ w, Calls Tryd.prog 15 #[.agg #[.int .i64 a0, .int .i64 a1, .string a2]] w fun e w' => e = .returned (.agg #[.int .i64 k, .int .i64 n, .string s]) ∧ Below w.heap.size w w') ∧
  (∀ w, Calls Tryd.prog 31 #[.agg #[.int .i64 k, .int .i64 n, .string s]] w fun e w' => e = .returned (.bool m) ∧ Below w.heap.size w w') ∧ (m = true → VTold k n s P)
theorem near_text (a0 a1 : Int) (a2 S0 : ByteArray) (hS0 : S0.size ≤ 60) (hn : ∀ w, Calls Tryd.prog 15 #[.agg #[.int .i64 a0, .int .i64 a1, .string a2]] w fun e w' => e = .returned (.agg #[.int .i64 3, .int .i64 0, .string S0]) ∧ Below w.heap.size w w') : NearOk a0 a1 a2 := by
  have hm : ∀ w, Calls Tryd.prog 31 #[.agg #[.int .i64 3, .int .i64 0, .string S0]] w fun e w' => e = .returned (.bool true) ∧ Below w.heap.size w w' := value.may_txt S0 true (by simp; omega)
  have e : S0 = str S0.data.toList := (str_of S0).symm
  refine ⟨3, 0, S0, true, partV 3 0 S0.data.toList, hn, hm, fun _ => ?_⟩
  have hm2 := hm
  rw [e] at hm2 ⊢
  exact told_txt _ (by simpa using hS0) hm2
theorem near_odd (a0 a1 : Int) (a2 : ByteArray) (n : Int) (s : ByteArray) (h : a0 % 8 = 7) (hn : ∀ w, Calls Tryd.prog 15 #[.agg #[.int .i64 a0, .int .i64 a1, .string a2]] w fun e w' => e = .returned (.agg #[.int .i64 a0, .int .i64 n, .string s]) ∧ Below w.heap.size w w') : NearOk a0 a1 a2 :=
  ⟨a0, n, s, false, [], hn, value.may_odd a0 n s ⟨by simp; omega, by simp; omega, by simp; omega, by simp; omega⟩, fun e => by cases e⟩
theorem near_ok (a0 a1 : Int) (a2 : ByteArray) (w1 : (Lit.int .i64 a1).wf = true) : NearOk a0 a1 a2 := by
  have hk := and_7 a0
  have hn := of_wf_i64 w1
  have hcases : a0 % 8 = 0 ∨ a0 % 8 = 1 ∨ a0 % 8 = 2 ∨ a0 % 8 = 3 ∨ a0 % 8 = 4 ∨ a0 % 8 = 5 ∨ a0 % 8 = 6 ∨ a0 % 8 = 7 := by omega
  rcases hcases with h | h | h | h | h | h | h | h
  · rw [h] at hk
    exact ⟨0, 0, ⟨#[]⟩, true, _, value.near_0 _ _ _ hk, value.may_none, fun _ => told_int 0 (by omega) 0 (by omega) (by omega) value.may_none⟩
  · rw [h] at hk
    have h1 := and_1 a1
    have h2 : a1 % 2 = 0 ∨ a1 % 2 = 1 := by omega
    rcases h2 with h2 | h2
    · rw [h2] at h1
      exact ⟨1, 0, ⟨#[]⟩, true, _, value.near_10 _ _ _ hk h1, value.may_0, fun _ => told_int 1 (by omega) 0 (by omega) (by omega) value.may_0⟩
    · rw [h2] at h1
      exact ⟨1, 1, ⟨#[]⟩, true, _, value.near_11 _ _ _ hk h1, value.may_1, fun _ => told_int 1 (by omega) 1 (by omega) (by omega) value.may_1⟩
  · rw [h] at hk
    exact ⟨2, a1, ⟨#[]⟩, true, _, value.near_2 _ _ _ hk, value.may_int a1, fun _ => told_int 2 (by omega) a1 hn.1 hn.2 (value.may_int a1)⟩
  · rw [h] at hk
    exact ⟨2, a1, ⟨#[]⟩, true, _, value.near_3 _ _ _ hk, value.may_int a1, fun _ => told_int 2 (by omega) a1 hn.1 hn.2 (value.may_int a1)⟩
  · rw [h] at hk
    by_cases hs : a2.size ≤ 60
    · exact near_text _ _ _ a2 hs (value.near_4s _ _ _ hk hs)
    · exact near_text _ _ _ (a2.extract 0 60) (by rw [ByteArray.size_extract]; omega) (value.near_4l _ _ _ hk (by omega))
  · rw [h] at hk
    by_cases hs : a2.size ≤ 60
    · exact near_text _ _ _ a2 hs (value.near_5s _ _ _ hk hs)
    · exact near_text _ _ _ (a2.extract 0 60) (by rw [ByteArray.size_extract]; omega) (value.near_5l _ _ _ hk (by omega))
  · rw [h] at hk
    by_cases hs : a2.size ≤ 60
    · exact near_text _ _ _ a2 hs (value.near_6s _ _ _ hk hs)
    · exact near_text _ _ _ (a2.extract 0 60) (by rw [ByteArray.size_extract]; omega) (value.near_6l _ _ _ hk (by omega))
  · have h7 := h
    rw [h] at hk
    by_cases hs : a2.size ≤ 2100
    · exact near_odd a0 a1 a2 a1 a2 h7 (value.near_7s _ _ _ hk hs)
    · exact near_odd a0 a1 a2 a1 (a2.extract 0 2100) h7 (value.near_7l _ _ _ hk (by omega))
theorem valueOrders_walk (a0_0 : Int) (a0_1 : Int) (a0_2 : ByteArray) (a1_0 : Int) (a1_1 : Int) (a1_2 : ByteArray) (w : World) (w0_0 : (Lit.int .i64 a0_0).wf = true) (w0_1 : (Lit.int .i64 a0_1).wf = true) (w0_2 : a0_2.size ≤ maxLen) (w1_0 : (Lit.int .i64 a1_0).wf = true) (w1_1 : (Lit.int .i64 a1_1).wf = true) (w1_2 : a1_2.size ≤ maxLen) (hM : MaxAt w) :
    Calls Tryd.prog 6 #[.agg #[.int .i64 a0_0, .int .i64 a0_1, .string a0_2], .agg #[.int .i64 a1_0, .int .i64 a1_1, .string a1_2]] w fun e w' => e = .returned (.bool true) ∧ Below w.heap.size w w' := by
  obtain ⟨k, n, s, m, P, h1, h2, h3⟩ := near_ok a0_0 a0_1 a0_2 w0_1
  obtain ⟨k', n', s', m', P', h1', h2', h3'⟩ := near_ok a1_0 a1_1 a1_2 w1_1
  exact orders_law _ _ _ _ _ _ k n s k' n' s' h1 h1' m m' h2 h2' P P' h3 h3' w hM
end Go.Proofs.YtmeaidkbkelclaaDoor.vorder
