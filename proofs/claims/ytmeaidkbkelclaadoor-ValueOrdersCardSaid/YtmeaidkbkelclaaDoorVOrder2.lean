/- Values in order: value.Compare. No condition. -/
import Derived.Test.YtmeaidkbkelclaaDoorVOrder
import Derived.Deep.Cut
import Derived.StillTailTactics
namespace Go.Proofs.YtmeaidkbkelclaaDoor.vorder
open Go.RowKit
attribute [local go_sem ↓] Go.wp_at_zero Go.wp_at_succ
set_option linter.unusedVariables false
set_option maxRecDepth 100000

/-- the first that is not zero -/
def or3 (a b c : Int) : Int := if a = 0 then (if b = 0 then c else b) else a
theorem or3_any (a b c : Int) (q : Nat) (w : World) (h : w.heap[q]? = some (.cells #[.int .i64 a, .int .i64 b, .int .i64 c] 3 (0, 0))) : Calls Tryd.prog 71 #[.slice (some ⟨q, 0, none⟩) 3 3] w fun e w' => e = .returned (.int .i64 (or3 a b c)) ∧ w' = w := by
  have c0 : w.cell? ⟨q, 0, none⟩ = some (.int .i64 a) := cell_of_row _ _ 0 _ _ _ h
  have c1 : w.cell? ⟨q, 1, none⟩ = some (.int .i64 b) := cell_of_row _ _ 1 _ _ _ h
  have c2 : w.cell? ⟨q, 2, none⟩ = some (.int .i64 c) := cell_of_row _ _ 2 _ _ _ h
  clear h
  go_enter Tryd.func71, Tryd.ntmps71
  go_wp2
  go_loopw [8] (fun i wr => ∃ k : Nat, k ≤ 3 ∧ i = .int .i64 k ∧ wr = w ∧ (0 < k → a = 0) ∧ (1 < k → b = 0) ∧ (2 < k → c = 0)) (fun i _ => 3 - (intOf i).toNat)
  case atStart => exact ⟨0, by omega, rfl, rfl, by omega, by omega, by omega⟩
  case round =>
    obtain ⟨k, hk, rfl, rfl, h1, h2, h3⟩ := hrel
    have : k = 0 ∨ k = 1 ∨ k = 2 ∨ k = 3 := by omega
    clear hk
    rcases this with rfl | rfl | rfl | rfl
    · by_cases ha : a = 0
      · subst ha
        go_wp2
        go_roundw
        case rel => exact ⟨1, by omega, rfl, by simp⟩
        case measure => simp [intOf]
      · have hx : (a != 0) = true := by simpa using ha
        go_wp2
        go_ret
        exact ⟨by rw [or3, if_neg ha]; rfl, rfl⟩
    · have ha := h1 (by omega)
      by_cases hb : b = 0
      · subst hb
        go_wp2
        go_roundw
        case rel => exact ⟨2, by omega, rfl, by simp [ha]⟩
        case measure => simp [intOf]
      · have hx : (b != 0) = true := by simpa using hb
        go_wp2
        go_ret
        exact ⟨by rw [or3, if_pos ha, if_neg hb]; rfl, rfl⟩
    · have ha := h1 (by omega)
      have hb := h2 (by omega)
      by_cases hc : c = 0
      · subst hc
        go_wp2
        go_roundw
        case rel => exact ⟨3, by omega, rfl, by simp [ha, hb]⟩
        case measure => simp [intOf]
      · have hx : (c != 0) = true := by simpa using hc
        go_wp2
        go_ret
        exact ⟨by rw [or3, if_pos ha, if_pos hb]; rfl, rfl⟩
    · have ha := h1 (by omega)
      have hb := h2 (by omega)
      have hc := h3 (by omega)
      go_wp2
      go_ret
      exact ⟨by rw [or3, if_pos ha, if_pos hb, hc]; rfl, rfl⟩
/-- values in order: -1, 0 or 1 -/
def cmpV (k n : Int) (s : ByteArray) (k' n' : Int) (s' : ByteArray) : Int := or3 (ci k k') (ci n n') (cs s s')
theorem compare_any (k n : Int) (s : ByteArray) (k' n' : Int) (s' : ByteArray) (w : World) : Calls Tryd.prog 27 #[.agg #[.int .i64 k, .int .i64 n, .string s], .agg #[.int .i64 k', .int .i64 n', .string s']] w fun e w' => e = .returned (.int .i64 (cmpV k n s k' n' s')) ∧ Below w.heap.size w w' := by
  unfold cmpV
  have h1 := fun w' => cmp_i k k' w'
  have h2 := fun w' => cmp_l n n' w'
  have h3 := fun w' => cmp_s s s' w'
  generalize ci k k' = a at *
  generalize ci n n' = b at *
  generalize cs s s' = c at *
  have hb : Below w.heap.size w ((w.alloc (.cells #[.int .i64 k, .int .i64 n, .string s] 37)).alloc (.cells #[.int .i64 k', .int .i64 n', .string s'] 37)) := ((Below.refl _ _).alloc (Nat.le_refl _) _).alloc (by simp) _
  replace h1 := Lib.hid h1; replace h2 := Lib.hid h2; replace h3 := Lib.hid h3; replace hb := Lib.hid hb
  go_enter Tryd.func27, Tryd.ntmps27
  go_upto_region 1 with fail
  refine wp_region_still_tail 15 (by kernel_rfl) (by kernel_rfl) ?_
  simp only [List.take_succ_cons, List.take_zero, List.drop_succ_cons, List.drop_zero]
  change wpStill _ _ (World.drew _) _ _ _
  repeat still_step
  still_call (h1.out _)
  repeat still_step
  still_call (h2.out _)
  repeat still_step
  still_call (h3.out _)
  repeat still_step
  try refine wpStill_nil ?_
  change wpList _ _ _ _ _ (World.drew _)
  have hd := hb.out.drew
  generalize World.drew ((w.alloc (.cells #[.int .i64 k, .int .i64 n, .string s] 37)).alloc (.cells #[.int .i64 k', .int .i64 n', .string s'] 37)) = W0 at hd ⊢
  replace hd := Lib.hid hd
  go_wp2_with (go_at_call 71; (with_reducible refine (or3_any _ _ _ _ _ (heap_alloc_new _ _)).mono ?_); rintro e w1 ⟨rfl, rfl⟩)
  go_ret
  exact ⟨rfl, hd.out.alloc hd.out.size _⟩
theorem same_any (k n : Int) (s : ByteArray) (k' n' : Int) (s' : ByteArray) (w : World) : Calls Tryd.prog 30 #[.agg #[.int .i64 k, .int .i64 n, .string s], .agg #[.int .i64 k', .int .i64 n', .string s']] w fun e w' => e = .returned (.bool (decide (k = k' ∧ n = n' ∧ s.toList = s'.toList))) ∧ Below w.heap.size w w' := by
  obtain ⟨b, hbb⟩ : ∃ b, b = decide (k = k' ∧ n = n' ∧ s.toList = s'.toList) := ⟨_, rfl⟩
  rw [← hbb]
  replace hbb := Lib.hid hbb
  have hb : Below w.heap.size w ((w.alloc (.cells #[.int .i64 k, .int .i64 n, .string s] 37)).alloc (.cells #[.int .i64 k', .int .i64 n', .string s'] 37)) := ((Below.refl _ _).alloc (Nat.le_refl _) _).alloc (by simp) _
  go_enter Tryd.func30, Tryd.ntmps30
  clear hb
  go_wp2
  all_goals go_ret
  all_goals refine ⟨?_, ((Below.refl _ _).alloc (Nat.le_refl _) _).alloc (by simp) _⟩
  all_goals exact congrArg (fun x => Ending.returned (Value.bool x)) (by rw [hbb.out]; simp [*])
/-- cmp's laws, in plain numbers -/
theorem less_irrefl : ∀ l : List UInt8, Op.bytesLess l l = false
  | [] => rfl
  | a :: r => by
    show (decide (a < a) || (a == a && Op.bytesLess r r)) = false
    rw [less_irrefl r]; simp
theorem less_total : ∀ x y : List UInt8, Op.bytesLess x y = false → Op.bytesLess y x = false → x = y
  | [], [], _, _ => rfl
  | [], _ :: _, h, _ => by cases h
  | _ :: _, [], _, h => by cases h
  | a :: r, b :: t, h, k => by
    have h : (decide (a < b) || (a == b && Op.bytesLess r t)) = false := h
    have k : (decide (b < a) || (b == a && Op.bytesLess t r)) = false := k
    simp only [Bool.or_eq_false_iff, decide_eq_false_iff_not, Bool.and_eq_false_iff, beq_eq_false_iff_ne, ne_eq] at h k
    have e : a = b := UInt8.toNat_inj.1 (by have h1 := h.1; have k1 := k.1; rw [UInt8.lt_iff_toNat_lt] at h1 k1; omega)
    subst e
    rw [less_total r t (by simpa using h.2) (by simpa using k.2)]
theorem less_asymm : ∀ x y : List UInt8, Op.bytesLess x y = true → Op.bytesLess y x = false
  | [], [], h => by cases h
  | [], _ :: _, _ => rfl
  | _ :: _, [], h => by cases h
  | a :: r, b :: t, h => by
    have h : (decide (a < b) || (a == b && Op.bytesLess r t)) = true := h
    show (decide (b < a) || (b == a && Op.bytesLess t r)) = false
    simp only [Bool.or_eq_true, decide_eq_true_eq, Bool.and_eq_true, beq_iff_eq] at h
    simp only [Bool.or_eq_false_iff, decide_eq_false_iff_not, Bool.and_eq_false_iff, beq_eq_false_iff_ne, ne_eq]
    rcases h with h | ⟨e5, h5⟩
    · rw [UInt8.lt_iff_toNat_lt] at h
      refine ⟨by rw [UInt8.lt_iff_toNat_lt]; omega, .inl fun e => ?_⟩
      subst e; omega
    · subst e5
      exact ⟨by rw [UInt8.lt_iff_toNat_lt]; omega, .inr (by simpa using less_asymm r t h5)⟩
/-- three ways for two values -/
inductive Way (k n : Int) (s : ByteArray) (k' n' : Int) (s' : ByteArray) : Prop
  | less (c : cmpV k n s k' n' s' = -1) (d : cmpV k' n' s' k n s = 1) (l : lessV k n s k' n' s' = true) (m : lessV k' n' s' k n s = false) (q : ¬ (k = k' ∧ n = n' ∧ s.toList = s'.toList))
  | same (c : cmpV k n s k' n' s' = 0) (d : cmpV k' n' s' k n s = 0) (l : lessV k n s k' n' s' = false) (m : lessV k' n' s' k n s = false) (q : k = k' ∧ n = n' ∧ s.toList = s'.toList)
  | more (c : cmpV k n s k' n' s' = 1) (d : cmpV k' n' s' k n s = -1) (l : lessV k n s k' n' s' = false) (m : lessV k' n' s' k n s = true) (q : ¬ (k = k' ∧ n = n' ∧ s.toList = s'.toList))
theorem way (k n : Int) (s : ByteArray) (k' n' : Int) (s' : ByteArray) : Way k n s k' n' s' := by
  by_cases hk : k = k'
  · subst hk
    by_cases hn : n = n'
    · subst hn
      cases h : Op.bytesLess s.toList s'.toList with
      | true =>
        have h2 := less_asymm _ _ h
        have hne : ¬ s.toList = s'.toList := fun e => by rw [e, less_irrefl] at h; cases h
        have hne2 : ¬ s'.toList = s.toList := fun e => hne e.symm
        exact .less (by simp [cmpV, or3, ci, cs, h]) (by simp [cmpV, or3, ci, cs, h2, hne2]) (by simp [lessV, h]) (by simp [lessV, h2]) (by simp [hne])
      | false =>
        cases h2 : Op.bytesLess s'.toList s.toList with
        | true =>
          have hne : ¬ s.toList = s'.toList := fun e => by rw [e, less_irrefl] at h2; cases h2
          exact .more (by simp [cmpV, or3, ci, cs, h, hne]) (by simp [cmpV, or3, ci, cs, h2]) (by simp [lessV, h]) (by simp [lessV, h2]) (by simp [hne])
        | false =>
          have e := less_total _ _ h h2
          exact .same (by simp [cmpV, or3, ci, cs, h, e, less_irrefl]) (by simp [cmpV, or3, ci, cs, h2, e, less_irrefl]) (by simp [lessV, h]) (by simp [lessV, h2]) ⟨rfl, rfl, e⟩
    · have hn2 : ¬ n' = n := fun e => hn e.symm
      by_cases hl : n < n'
      · have hl2 : ¬ n' < n := by omega
        exact .less (by simp [cmpV, or3, ci, hl]) (by simp [cmpV, or3, ci, hl, hl2]) (by simp [lessV, hn, hl]) (by simp [lessV, hn2]; omega) (by simp [hn])
      · have hl2 : n' < n := by omega
        exact .more (by simp [cmpV, or3, ci, hl, hl2]) (by simp [cmpV, or3, ci, hl2]) (by simp [lessV, hn]; omega) (by simp [lessV, hn2, hl2]) (by simp [hn])
  · have hk2 : ¬ k' = k := fun e => hk e.symm
    by_cases hl : k < k'
    · have hl2 : ¬ k' < k := by omega
      exact .less (by simp [cmpV, or3, ci, hl]) (by simp [cmpV, or3, ci, hl, hl2]) (by simp [lessV, hk, hl]) (by simp [lessV, hk2]; omega) (by simp [hk])
    · have hl2 : k' < k := by omega
      exact .more (by simp [cmpV, or3, ci, hl, hl2]) (by simp [cmpV, or3, ci, hl2]) (by simp [lessV, hk]; omega) (by simp [lessV, hk2, hl2]) (by simp [hk])
end Go.Proofs.YtmeaidkbkelclaaDoor.vorder
