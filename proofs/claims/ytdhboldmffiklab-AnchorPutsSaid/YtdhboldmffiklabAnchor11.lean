/- An anchor that may be: its bytes by the code, by the document, and back. No other condition. -/
import Derived.Test.YtdhboldmffiklabAnchor9
namespace Go.Proofs.Ytdhboldmffiklab.anchor
open Go.RowKit
open Go.Proofs.Ytdhboldmffiklab.code
set_option linter.unusedVariables false
set_option maxRecDepth 100000

theorem mayRootB_true {p : Int} {s : ByteArray} (h : mayRootB p s = true) : (p = -1 ∧ s = ⟨#[]⟩) ∨ ((0 ≤ p ∧ p < 4096) ∧ s.size = 32) := by
  unfold mayRootB at h
  exact of_decide_eq_true h
theorem numL_pos (n : Nat) : 0 < (numL n).length := by
  by_cases h : n < 128
  · rw [numL_small n h]; simp
  · rw [numL_big n h]; simp
/-- what the three answer for one anchor -/
structure Yes (gen ep : Int) (T : Bool) (N : ByteArray) (P : Int) (S : ByteArray) (F M : Int) (C X : ByteArray) : Prop where
  most : X.size ≤ 400
  some : 0 < X.size
  put : ∀ w, Calls Try.prog 9 #[.agg #[.int .u64 gen, .int .u32 ep, .bool T, .string N, .int .i64 P, .string S, .int .i64 F, .int .i64 M, .string C]] w fun e w' => e = .returned (.string X) ∧ Below w.heap.size w w'
  rput : ∀ w, Calls Try.prog 12 #[.agg #[.int .u64 gen, .int .u32 ep, .bool T, .string N, .int .i64 P, .string S, .int .i64 F, .int .i64 M, .string C]] w fun e w' => e = .returned (.string X) ∧ Below w.heap.size w w'
  get : ∀ w, Calls Try.prog 10 #[.string X] w fun e w' => e = .returned (.tuple #[.agg #[.int .u64 gen, .int .u32 ep, .bool T, .string N, .int .i64 P, .string S, .int .i64 F, .int .i64 M, .string C], .int .i64 0]) ∧ Below w.heap.size w w'
theorem yes_of (gen ep : Int) (T : Bool) (N : ByteArray) (P : Int) (S : ByteArray) (F M : Int) (C : ByteArray) (hg : 0 ≤ gen ∧ gen < 18446744073709551616) (he : 0 ≤ ep ∧ ep < 4294967296) (h : okA T N P S F M C) : ∃ X, Yes gen ep T N P S F M C X := by
  have hmay := fun w => may_any gen ep T N P S F M C w
  have hrmay := fun w => rmay_any gen ep T N P S F M C w
  rw [decide_eq_true h] at hmay hrmay
  obtain ⟨hn, ht, hr, hf, hm, hc⟩ := h
  have hr := mayRootB_true hr
  obtain ⟨gn, hgn⟩ : ∃ n : Nat, gen = n := ⟨gen.toNat, by omega⟩
  obtain ⟨en, hen⟩ : ∃ n : Nat, ep = n := ⟨ep.toNat, by omega⟩
  obtain ⟨fn, hfn⟩ : ∃ n : Nat, F = n := ⟨F.toNat, by omega⟩
  obtain ⟨mn, hmn⟩ : ∃ n : Nat, M = n := ⟨M.toNat, by omega⟩
  obtain ⟨q, hq⟩ : ∃ n : Nat, P + 1 = n := ⟨(P + 1).toNat, by rcases hr with ⟨h, _⟩ | ⟨h, _⟩ <;> omega⟩
  have hq2 : q ≤ 4096 := by rcases hr with ⟨h, _⟩ | ⟨h, _⟩ <;> omega
  have hsz : S.size ≤ 32 := by
    rcases hr with ⟨_, h⟩ | ⟨_, h⟩
    · rw [h]; decide
    · omega
  subst hgn hen hfn hmn
  obtain ⟨nl, rfl⟩ : ∃ l : List UInt8, N = str l := ⟨N.data.toList, (str_of N).symm⟩
  obtain ⟨sl, rfl⟩ : ∃ l : List UInt8, S = str l := ⟨S.data.toList, (str_of S).symm⟩
  obtain ⟨cl, rfl⟩ : ∃ l : List UInt8, C = str l := ⟨C.data.toList, (str_of C).symm⟩
  rw [str_size] at hn hsz hc
  have l1 := numL_len64 gn (by omega)
  have l2 := numL_len64 nl.length (by omega)
  have l3 := numL_len64 q (by omega)
  have l4 := numL_len64 sl.length (by omega)
  have l5 := numL_len64 fn (by omega)
  have l6 := numL_len64 mn (by omega)
  have l0 := numL_pos gn
  have e4 : (beL 4 en).length = 4 := beL_length 4 en
  have hz : (str (numL gn)).size ≤ 10000 ∧ (str (beL 4 en)).size ≤ 10000 ∧ (str [if T then 1 else 0]).size ≤ 10000 ∧ (str (numL nl.length ++ nl)).size ≤ 10000 ∧ (str (numL q)).size ≤ 10000 ∧ (str (numL sl.length ++ sl)).size ≤ 10000 ∧ (str (numL fn)).size ≤ 10000 ∧ (str (numL mn)).size ≤ 10000 ∧ (str cl).size ≤ 10000 := by
    simp only [str_size, List.length_append, e4, List.length_singleton]
    omega
  have c1 : ∀ (l : List UInt8), l.length ≤ 300 → ∀ w, Calls Try.prog 53 #[.string (str l)] w fun e w' => e = .returned (.string (str (numL l.length ++ l))) ∧ Below w.heap.size w w' := fun l hl w => by
    have t := text_any (str l) (by rw [str_size]; omega) w
    rw [str_size, str_toList] at t
    exact t
  refine ⟨str (listB gn en q fn mn T nl sl cl), ?_, ?_, ?_, ?_, ?_⟩
  · rw [str_size]
    unfold listB
    simp only [List.length_cons, List.length_append, e4]
    omega
  · rw [str_size]
    unfold listB
    simp only [List.length_cons]
    omega
  · intro w
    rw [← listB_put]
    exact put_yes gn en q fn mn T P (str nl) (str sl) (str cl) _ _ _ _ _ _ _ _ (by omega) hq (by omega) (by omega) (by omega) hmay (num_any gn (by omega)) (small_put en (by omega)) (boolPut_any T) (c1 nl (by omega)) (num_any q (by omega)) (c1 sl (by omega)) (num_any fn (by omega)) (num_any mn (by omega)) hz w
  · intro w
    rw [← listB_put]
    exact rput_yes gn en q fn mn T P (str nl) (str sl) (str cl) _ _ _ _ _ _ _ _ (by omega) hq (by omega) (by omega) (by omega) hrmay (refNum_any gn (by omega)) (refHigh_any en 4 (by omega) (by omega)) (refBool_any T) (refText_any nl (by omega)) (refNum_any q (by omega)) (refText_any sl (by omega)) (refNum_any fn (by omega)) (refNum_any mn (by omega)) hz w
  · exact fun w => get_yes gn en q fn mn T P nl sl cl (by omega) (by omega) (by omega) hq2 (by omega) (by omega) hn hsz hc hmay w
end Go.Proofs.Ytdhboldmffiklab.anchor
