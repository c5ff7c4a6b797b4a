/- The law AnchorPuts, walked whole. Its texts are not longer than the row says. -/
import Derived.Test.YtdhboldmffiklabAnchor5
import Derived.Test.YtdhboldmffiklabAnchor10
import Derived.Test.YtdhboldmffiklabAnchor11
import Derived.SizedLaws
namespace Go.Proofs.Ytdhboldmffiklab.anchor
open Go.RowKit
attribute [local go_sem ↓] Go.wp_at_zero Go.wp_at_succ
attribute [local go_sem] str_size
set_option linter.unusedVariables false
set_option maxRecDepth 100000
attribute [local go_sem ↓] yielded_undef
set_option maxHeartbeats 4000000 in
theorem law_any (gen ep : Int) (tu : Bool) (nx : ByteArray) (pl : Int) (sm : ByteArray) (fr mn : Int) (ch : ByteArray) (odd : Int) (hg : 0 ≤ gen ∧ gen < 18446744073709551616) (he : 0 ≤ ep ∧ ep < 4294967296) (hnx : nx.size ≤ 140737488355328) (hch : ch.size ≤ 140737488355328) (hsm : sm.size ≤ 140737488355328) (w : World) :
    Calls Try.prog 3 #[.agg #[.int .u64 gen, .int .u32 ep, .bool tu, .string nx, .int .i64 pl, .string sm, .int .i64 fr, .int .i64 mn, .string ch], .int .i64 odd] w fun e w' => e = .returned (.bool true) ∧ Below w.heap.size w w' := by
  have cn := fun w' => near_any gen ep tu nx pl sm fr mn ch odd hnx hch hsm w'
  have hbb := Below.refl w.heap.size w
  clear hnx hch hsm
  replace cn := Lib.hid cn; replace hbb := Lib.hid hbb; replace hg := Lib.hid hg; replace he := Lib.hid he
  go_enter Try.func3, Try.ntmps3
  go_upto_region 2 with (go_at_call 8; (with_reducible refine (cn.out _).mono ?_); rintro e w1 ⟨T, N, P, S, F, M, C, rfl, _, b1⟩; replace hbb := Lib.hid (boxRow b1).2.2.2; clear b1)
  have ax0 : Ax w w1.heap.size #[.int .u64 gen, .int .u32 ep, .bool T, .string N, .int .i64 P, .string S, .int .i64 F, .int .i64 M, .string C] (w1.alloc (.cells #[.int .u64 gen, .int .u32 ep, .bool T, .string N, .int .i64 P, .string S, .int .i64 F, .int .i64 M, .string C] 27)) := ⟨heap_alloc_new w1 _, hbb.out.alloc hbb.out.size _⟩
  clear hbb
  generalize w1.alloc (.cells #[.int .u64 gen, .int .u32 ep, .bool T, .string N, .int .i64 P, .string S, .int .i64 F, .int .i64 M, .string C] 27) = W1 at ax0 ⊢
  generalize w1.heap.size = g at ax0 ⊢
  have hNN : (N.toList == N.toList) = true := by simp
  have hSS : (S.toList == S.toList) = true := by simp
  have hCC : (C.toList == C.toList) = true := by simp
  have hmay := fun w' => may_any gen ep T N P S F M C w'
  obtain ⟨d, d0, d1, d2, d3, d4, d5, d6, d7, d8⟩ := ax0.all
  have ax := Lib.hid ax0
  clear d ax0
  by_cases hok : okA T N P S F M C
  · obtain ⟨X, y⟩ := yes_of gen ep T N P S F M C hg.out he.out hok
    rw [decide_eq_true hok] at hmay
    have hx : (X.toList == (⟨#[]⟩ : ByteArray).toList) = false := by
      rw [← beq_toListBytes]
      cases hb : (X == (⟨#[]⟩ : ByteArray)) with
      | false => rfl
      | true => have e := (empty_beq X).1 hb; have := y.some; rw [e] at this; exact absurd this (by decide)
    obtain ⟨e1, e2, e3, e4⟩ := empty_forms X false hx
    have hXX : (X.toList == X.toList) = true := by simp
    have hmost : ¬ (400 : Int) < X.size := by have := y.most; omega
    have cp := y.put
    have cr := y.rput
    have cg := y.get
    clear y hok
    replace cp := Lib.hid cp; replace cr := Lib.hid cr; replace cg := Lib.hid cg; replace hmay := Lib.hid hmay
    go_upto_region 3 with (go_at_call 9; (with_reducible refine (cp.out _).mono ?_); rintro e w2 ⟨rfl, b2⟩; replace ax := Lib.hid (ax.out.below b2); clear b2)
    go_upto_region 4 with (go_at_call 10; (with_reducible refine (cg.out _).mono ?_); rintro e w3 ⟨rfl, b3⟩; replace ax := Lib.hid (ax.out.below b3); clear b3)
    have ay0 : Ax w w3.heap.size #[.int .u64 gen, .int .u32 ep, .bool T, .string N, .int .i64 P, .string S, .int .i64 F, .int .i64 M, .string C] (w3.alloc (.cells #[.int .u64 gen, .int .u32 ep, .bool T, .string N, .int .i64 P, .string S, .int .i64 F, .int .i64 M, .string C] 27)) := ⟨heap_alloc_new w3 _, ax.out.bel.alloc ax.out.bel.size _⟩
    have ax1 : Ax w g #[.int .u64 gen, .int .u32 ep, .bool T, .string N, .int .i64 P, .string S, .int .i64 F, .int .i64 M, .string C] (w3.alloc (.cells #[.int .u64 gen, .int .u32 ep, .bool T, .string N, .int .i64 P, .string S, .int .i64 F, .int .i64 M, .string C] 27)) := ax.out.below ((Below.refl _ _).alloc (Nat.le_refl _) _)
    clear ax
    generalize w3.alloc (.cells #[.int .u64 gen, .int .u32 ep, .bool T, .string N, .int .i64 P, .string S, .int .i64 F, .int .i64 M, .string C] 27) = W3 at ax1 ay0 ⊢
    generalize w3.heap.size = gy at ay0 ⊢
    have ax := Lib.hid ax1
    have ay := Lib.hid ay0
    clear ax1 ay0
    go_wp2_with (first
      | (go_at_call 11; (with_reducible refine (aawake_any _).mono ?_); rintro e w4 ⟨rfl, b4⟩; obtain ⟨ax1, p0, p1, p2, p3, p4, p5, p6, p7, p8⟩ := ax.out.next b4; obtain ⟨ay1, q0, q1, q2, q3, q4, q5, q6, q7, q8⟩ := ay.out.next b4; replace ax := Lib.hid ax1; replace ay := Lib.hid ay1; clear ax1 ay1 b4)
      | (go_at_call 12; (with_reducible refine (cr.out _).mono ?_); rintro e w4 ⟨rfl, b4⟩; obtain ⟨ax1, p0, p1, p2, p3, p4, p5, p6, p7, p8⟩ := ax.out.next b4; obtain ⟨ay1, q0, q1, q2, q3, q4, q5, q6, q7, q8⟩ := ay.out.next b4; replace ax := Lib.hid ax1; replace ay := Lib.hid ay1; clear ax1 ay1 b4)
      | (go_at_call 13; (with_reducible refine (hmay.out _).mono ?_); rintro e w4 ⟨rfl, b4⟩; obtain ⟨ax1, p0, p1, p2, p3, p4, p5, p6, p7, p8⟩ := ax.out.next b4; obtain ⟨ay1, q0, q1, q2, q3, q4, q5, q6, q7, q8⟩ := ay.out.next b4; replace ax := Lib.hid ax1; replace ay := Lib.hid ay1; clear ax1 ay1 b4))
    all_goals go_ret
    all_goals exact ⟨rfl, ax.out.bel⟩
  · rw [decide_eq_false hok] at hmay
    obtain ⟨X, hX⟩ : ∃ X, X = (⟨#[]⟩ : ByteArray) := ⟨_, rfl⟩
    have cp : ∀ w', Calls Try.prog 9 #[.agg #[.int .u64 gen, .int .u32 ep, .bool T, .string N, .int .i64 P, .string S, .int .i64 F, .int .i64 M, .string C]] w' fun e w2 => e = .returned (.string X) ∧ Below w'.heap.size w' w2 := fun w' => by rw [hX]; exact put_no gen ep T N P S F M C hok w'
    have cr : ∀ w', Calls Try.prog 12 #[.agg #[.int .u64 gen, .int .u32 ep, .bool T, .string N, .int .i64 P, .string S, .int .i64 F, .int .i64 M, .string C]] w' fun e w2 => e = .returned (.string X) ∧ Below w'.heap.size w' w2 := fun w' => by rw [hX]; exact rput_no gen ep T N P S F M C hok w'
    have cg : ∀ w', Calls Try.prog 10 #[.string X] w' fun e w2 => e = .returned (.tuple #[.agg #[.int .u64 0, .int .u32 0, .bool false, .string ⟨#[]⟩, .int .i64 0, .string ⟨#[]⟩, .int .i64 0, .int .i64 0, .string ⟨#[]⟩], .int .i64 2]) ∧ Below w'.heap.size w' w2 := fun w' => by rw [hX]; exact get_empty w'
    have hx : (X.toList == (⟨#[]⟩ : ByteArray).toList) = true := by rw [hX]; simp
    obtain ⟨e1, e2, e3, e4⟩ := empty_forms X true hx
    have hXX : (X.toList == X.toList) = true := by simp
    have hmost : ¬ (400 : Int) < X.size := by rw [hX]; decide
    clear hX hok e3
    replace cp := Lib.hid cp; replace cr := Lib.hid cr; replace cg := Lib.hid cg; replace hmay := Lib.hid hmay
    go_upto_region 3 with (go_at_call 9; (with_reducible refine (cp.out _).mono ?_); rintro e w2 ⟨rfl, b2⟩; replace ax := Lib.hid (ax.out.below b2); clear b2)
    go_upto_region 4 with (go_at_call 10; (with_reducible refine (cg.out _).mono ?_); rintro e w3 ⟨rfl, b3⟩; replace ax := Lib.hid (ax.out.below b3); clear b3)
    have ax1 : Ax w g #[.int .u64 gen, .int .u32 ep, .bool T, .string N, .int .i64 P, .string S, .int .i64 F, .int .i64 M, .string C] (w3.alloc (.cells #[.int .u64 0, .int .u32 0, .bool false, .string ⟨#[]⟩, .int .i64 0, .string ⟨#[]⟩, .int .i64 0, .int .i64 0, .string ⟨#[]⟩] 27)) := ax.out.below ((Below.refl _ _).alloc (Nat.le_refl _) _)
    clear ax
    generalize w3.alloc (.cells #[.int .u64 0, .int .u32 0, .bool false, .string ⟨#[]⟩, .int .i64 0, .string ⟨#[]⟩, .int .i64 0, .int .i64 0, .string ⟨#[]⟩] 27) = W3 at ax1 ⊢
    generalize w3.heap.size = gy
    have ax := Lib.hid ax1
    clear ax1
    go_wp2_with (first
      | (go_at_call 11; (with_reducible refine (aawake_any _).mono ?_); rintro e w4 ⟨rfl, b4⟩; obtain ⟨ax1, p0, p1, p2, p3, p4, p5, p6, p7, p8⟩ := ax.out.next b4; replace ax := Lib.hid ax1; clear ax1 b4)
      | (go_at_call 12; (with_reducible refine (cr.out _).mono ?_); rintro e w4 ⟨rfl, b4⟩; obtain ⟨ax1, p0, p1, p2, p3, p4, p5, p6, p7, p8⟩ := ax.out.next b4; replace ax := Lib.hid ax1; clear ax1 b4)
      | (go_at_call 13; (with_reducible refine (hmay.out _).mono ?_); rintro e w4 ⟨rfl, b4⟩; obtain ⟨ax1, p0, p1, p2, p3, p4, p5, p6, p7, p8⟩ := ax.out.next b4; replace ax := Lib.hid ax1; clear ax1 b4))
    all_goals go_ret
    all_goals exact ⟨rfl, ax.out.bel⟩
theorem anchorPuts_walk (a0_0 : Int) (a0_1 : Int) (a0_2 : Bool) (a0_3 : ByteArray) (a0_4 : Int) (a0_5 : ByteArray) (a0_6 : Int) (a0_7 : Int) (a0_8 : ByteArray) (a1 : Int) (w : World) (w0_0 : (Lit.int .u64 a0_0).wf = true) (w0_1 : (Lit.int .u32 a0_1).wf = true) (w0_4 : (Lit.int .i64 a0_4).wf = true) (w0_6 : (Lit.int .i64 a0_6).wf = true) (w0_7 : (Lit.int .i64 a0_7).wf = true) (z0_3 : a0_3.size ≤ reachBytes) (z0_5 : a0_5.size ≤ reachBytes) (z0_8 : a0_8.size ≤ reachBytes) (w1 : (Lit.int .i64 a1).wf = true) :
    Calls Try.prog 3 #[.agg #[.int .u64 a0_0, .int .u32 a0_1, .bool a0_2, .string a0_3, .int .i64 a0_4, .string a0_5, .int .i64 a0_6, .int .i64 a0_7, .string a0_8], .int .i64 a1] w fun e w' => e = .returned (.bool true) ∧ Below w.heap.size w w' := by
  have h0 : 0 ≤ a0_0 ∧ a0_0 ≤ 18446744073709551615 := by simpa [Lit.wf, IntKind.min, IntKind.max, IntKind.signed, IntKind.bits] using w0_0
  have h1 : 0 ≤ a0_1 ∧ a0_1 ≤ 4294967295 := by simpa [Lit.wf, IntKind.min, IntKind.max, IntKind.signed, IntKind.bits] using w0_1
  unfold reachBytes at z0_3 z0_5 z0_8
  exact law_any a0_0 a0_1 a0_2 a0_3 a0_4 a0_5 a0_6 a0_7 a0_8 a1 ⟨by omega, by omega⟩ ⟨by omega, by omega⟩ (by omega) (by omega) (by omega) w
end Go.Proofs.Ytdhboldmffiklab.anchor
