/- The ring: what May, On, Far and Room tell of any ring and place, and that so many places on, one by one, one comes where On tells. No condition. -/
import Derived.Test.YtfgefcnllbganabBase
namespace Go.Proofs.Ytfgefcnllbganab.ring
open Go.RowKit
attribute [local go_sem ↓] Go.wp_at_zero Go.wp_at_succ
set_option linter.unusedVariables false

def may (f l p : Int) : Bool := decide (0 ≤ f) && decide (f ≤ 4096) && decide (1 ≤ l) && decide (l ≤ 4096) && decide (f ≤ p) && decide (p < f + l)

theorem may_yes (f l p : Int) (w : World) (h1 : 0 ≤ f) (h2 : f ≤ 4096) (h3 : 1 ≤ l) (h4 : l ≤ 4096) (h5 : f ≤ p) (h6 : p < f + l) :
    Calls Try.prog 30 #[.agg #[.int .i64 f, .int .i64 l], .int .i64 p] w fun e w' => e = .returned (.bool true) ∧ Below w.heap.size w w' := by
  go_enter Try.func30, Try.ntmps30
  go_wp2
  go_ret
  exact ⟨rfl, by go_grown⟩

theorem may_no (f l p : Int) (w : World) (h : may f l p = false) :
    Calls Try.prog 30 #[.agg #[.int .i64 f, .int .i64 l], .int .i64 p] w fun e w' => e = .returned (.bool false) ∧ Below w.heap.size w w' := by
  by_cases h1 : f < 0
  · clear h; go_enter Try.func30, Try.ntmps30
    go_wp2; go_ret; exact ⟨rfl, by go_grown⟩
  by_cases h2 : 4096 < f
  · clear h; go_enter Try.func30, Try.ntmps30
    go_wp2; go_ret; exact ⟨rfl, by go_grown⟩
  by_cases h3 : l < 1
  · clear h; go_enter Try.func30, Try.ntmps30
    go_wp2; go_ret; exact ⟨rfl, by go_grown⟩
  by_cases h4 : 4096 < l
  · clear h; go_enter Try.func30, Try.ntmps30
    go_wp2; go_ret; exact ⟨rfl, by go_grown⟩
  by_cases h5 : p < f
  · clear h; go_enter Try.func30, Try.ntmps30
    go_wp2; go_ret; exact ⟨rfl, by go_grown⟩
  have h6 : ¬ p < f + l := by intro h6; simp [may] at h; omega
  clear h; go_enter Try.func30, Try.ntmps30
  go_wp2; go_ret; exact ⟨rfl, by go_grown⟩

theorem may_any (f l p : Int) (w : World) :
    Calls Try.prog 30 #[.agg #[.int .i64 f, .int .i64 l], .int .i64 p] w fun e w' => e = .returned (.bool (may f l p)) ∧ Below w.heap.size w w' := by
  by_cases h : may f l p = true
  · rw [h]; simp [may] at h
    exact may_yes f l p w (by omega) (by omega) (by omega) (by omega) (by omega) (by omega)
  · simp only [Bool.not_eq_true] at h
    rw [h]; exact may_no f l p w h

theorem may_true_iff (f l p : Int) : may f l p = true ↔ 0 ≤ f ∧ f ≤ 4096 ∧ 1 ≤ l ∧ l ≤ 4096 ∧ f ≤ p ∧ p < f + l := by
  simp [may]; omega

theorem on_no (f l p k : Int) (w : World) (h : may f l p = false ∨ k < 0) :
    Calls Try.prog 28 #[.agg #[.int .i64 f, .int .i64 l], .int .i64 p, .int .i64 k] w fun e w' => e = .returned (.int .i64 (-1)) ∧ Below w.heap.size w w' := by
  by_cases h1 : may f l p = false
  · clear h
    have hm := fun w' => may_no f l p w' h1
    have h1 := Lib.hid h1
    go_enter Try.func28, Try.ntmps28
    go_wp2_with (go_at_call 30; refine (hm _).mono ?_; rintro e w1 ⟨rfl, hb⟩)
    go_ret
    exact ⟨rfl, (((Below.refl _ _).alloc (Nat.le_refl _) _).trans (hb.mono (by simp)))⟩
  · have hk : k < 0 := by rcases h with h | h; exact absurd h h1; exact h
    have hm := fun w' => may_any f l p w'
    simp only [Bool.not_eq_false] at h1
    rw [h1] at hm
    clear h h1
    go_enter Try.func28, Try.ntmps28
    go_wp2_with (go_at_call 30; refine (hm _).mono ?_; rintro e w1 ⟨rfl, hb⟩)
    go_ret
    exact ⟨rfl, (((Below.refl _ _).alloc (Nat.le_refl _) _).trans (hb.mono (by simp)))⟩

/-- the place k behind p -/
def onv (f l p k : Int) : Int := f + (p - f + k) % l

theorem on_yes (f l p k : Int) (w : World) (h : may f l p = true) (hk : 0 ≤ k) (hk2 : k ≤ 9223372036854775807) :
    Calls Try.prog 28 #[.agg #[.int .i64 f, .int .i64 l], .int .i64 p, .int .i64 k] w fun e w' => e = .returned (.int .i64 (onv f l p k)) ∧ Below w.heap.size w w' := by
  have hm := fun w' => may_any f l p w'
  rw [h] at hm
  rw [may_true_iff] at h
  obtain ⟨h1, h2, h3, h4, h5, h6⟩ := h
  have hkl : 0 ≤ k % l := Int.emod_nonneg _ (by omega)
  have hkl2 : k % l < l := Int.emod_lt_of_pos _ (by omega)
  have hkk : 0 ≤ (p - f + k) % l := Int.emod_nonneg _ (by omega)
  have hkk2 : (p - f + k) % l < l := Int.emod_lt_of_pos _ (by omega)
  have hd : decide (k < 0) = false := by simp; omega
  go_enter Try.func28, Try.ntmps28
  go_wp2_with (go_at_call 30; refine (hm _).mono ?_; rintro e w1 ⟨rfl, hb⟩; obtain ⟨c0, c1, hs, hbb⟩ := box2 hb; clear hb)
  clear hm
  go_quiet (fail)
  go_wp2
  go_ret
  exact ⟨rfl, belowDrewN hbb _⟩

/-- how far q is behind p -/
def farv (l p q : Int) : Int := (q - p + l) % l
theorem far_yes (f l p q : Int) (w : World) (h : may f l p = true) (h' : may f l q = true) :
    Calls Try.prog 29 #[.agg #[.int .i64 f, .int .i64 l], .int .i64 p, .int .i64 q] w fun e w' => e = .returned (.int .i64 (farv l p q)) ∧ Below w.heap.size w w' := by
  have hm := fun w' => may_any f l p w'
  have hq := fun w' => may_any f l q w'
  rw [h] at hm
  rw [h'] at hq
  rw [may_true_iff] at h h'
  obtain ⟨h1, h2, h3, h4, h5, h6⟩ := h
  obtain ⟨-, -, -, -, h7, h8⟩ := h'
  have hkk : 0 ≤ (q - p + l) % l := Int.emod_nonneg _ (by omega)
  have hkk2 : (q - p + l) % l < l := Int.emod_lt_of_pos _ (by omega)
  go_enter Try.func29, Try.ntmps29
  go_wp2_with (first | (go_at_call 30; (with_reducible refine (hm _).mono ?_); rintro e w1 ⟨rfl, hb⟩; obtain ⟨c0, c1, hs, hbb⟩ := box2 hb; clear hb) | (go_at_call 30; (with_reducible refine (hq _).mono ?_); rintro e w2 ⟨rfl, hb2⟩; have c3 := (hb2.cell (p := ⟨w.heap.size, 0, none⟩) hs).trans c0; have c4 := (hb2.cell (p := ⟨w.heap.size, 1, none⟩) hs).trans c1; replace hbb := hbb.trans (hb2.mono (Nat.le_of_lt hs))))
  go_ret
  exact ⟨rfl, hbb⟩

theorem awake_any (w : World) : Calls Try.prog 27 #[] w fun e w' => e = .returned (.bool true) ∧ Below w.heap.size w w' := by
  have hc := fun w' => on_yes 2 4 5 1 w' (by decide) (by decide) (by decide)
  have e : onv 2 4 5 1 = 2 := by decide
  rw [e] at hc
  clear e
  go_enter Try.func27, Try.ntmps27
  go_wp2_with (go_at_call 28; (with_reducible refine (hc _).mono ?_); rintro e w1 ⟨rfl, hb⟩)
  go_ret
  exact ⟨rfl, hb⟩

theorem step_mod (a M : Int) (ha : 0 ≤ a) (hM : 0 < M) : (a + 1) % M = if a % M + 1 = M then 0 else a % M + 1 := by
  have h0 : 0 ≤ a % M := Int.emod_nonneg _ (by omega)
  have h1 : a % M < M := Int.emod_lt_of_pos _ hM
  have e : (a + 1) % M = (a % M + 1) % M := by rw [Int.add_emod, Int.add_emod (a % M)]; simp
  rw [e]
  by_cases h : a % M + 1 = M
  · rw [if_pos h, h]; simp
  · rw [if_neg h]; exact Int.emod_eq_of_lt (by omega) (by omega)

theorem far_at (r K M : Int) (hr0 : 0 ≤ r) (hr1 : r < M) : ((r + K) % M - r + M) % M = K % M := by
  have e : (r + K) % M - r + M = (K + M * (1 - (r + K) / M)) := by
    have := Int.emod_add_mul_ediv (r + K) M
    have e2 : M * (1 - (r + K) / M) = M - M * ((r + K) / M) := by rw [Int.mul_sub, Int.mul_one]
    rw [e2]; omega
  rw [e, Int.add_mul_emod_self_left]

set_option maxHeartbeats 400000 in
theorem walks_any (f l p k : Int) (w : World) :
    Calls Try.prog 6 #[.agg #[.int .i64 f, .int .i64 l], .int .i64 p, .int .i64 k] w fun e w' => e = .returned (.bool true) ∧ Below w.heap.size w w' := by
  have e1 := and_63 f
  have e2 := and_31 l
  have e3 := and_1023 p
  have e4 := and_127 k
  have f0 : 0 ≤ f % 64 := Int.emod_nonneg _ (by decide)
  have f1 : f % 64 < 64 := Int.emod_lt_of_pos _ (by decide)
  have l0 : 0 ≤ l % 32 := Int.emod_nonneg _ (by decide)
  have l1 : l % 32 < 32 := Int.emod_lt_of_pos _ (by decide)
  have p0 : 0 ≤ p % 1024 := Int.emod_nonneg _ (by decide)
  have k0 : 0 ≤ k % 128 := Int.emod_nonneg _ (by decide)
  have k1 : k % 128 < 128 := Int.emod_lt_of_pos _ (by decide)
  generalize f % 64 = F at *
  generalize l % 32 = L at *
  generalize p % 1024 = P at *
  generalize k % 128 = K at *
  have hr0 : 0 ≤ P % (L + 1) := Int.emod_nonneg _ (by omega)
  have hr1 : P % (L + 1) < L + 1 := Int.emod_lt_of_pos _ (by omega)
  go_enter Try.func6, Try.ntmps6
  go_wp2
  go_quiet (fail)
  go_wp2
  generalize P % (L + 1) = r at *
  go_loop [10, 11] (fun at_ i => ∃ j : Int, 0 ≤ j ∧ j ≤ K ∧ i = .int .i64 j ∧ at_ = .int .i64 (F + (r + j) % (L + 1))) (fun _ i => (K - intOf i).toNat)
  case atStart => exact ⟨0, by omega, by omega, rfl, by rw [Int.add_zero, Int.emod_eq_of_lt hr0 hr1]⟩
  case round =>
    obtain ⟨j, hj0, hj1, rfl, rfl⟩ := hrel
    have q0 : 0 ≤ (r + j) % (L + 1) := Int.emod_nonneg _ (by omega)
    have q1 : (r + j) % (L + 1) < L + 1 := Int.emod_lt_of_pos _ (by omega)
    have hst := step_mod (r + j) (L + 1) (by omega) (by omega)
    have hst := Lib.hid hst
    go_wp2
    · have hh : (F + (r + j) % (L + 1) + 1 == F + (L + 1)) = true := by assumption
      simp only [beq_iff_eq] at hh
      go_round
      case rel => exact ⟨j + 1, by omega, by omega, rfl, by rw [← Int.add_assoc, hst.out, if_pos (by omega)]; simp⟩
      case measure => simp [intOf]; omega
    · have hh : (F + (r + j) % (L + 1) + 1 == F + (L + 1)) = false := by assumption
      simp only [beq_eq_false_iff_ne, ne_eq] at hh
      go_round
      case rel => exact ⟨j + 1, by omega, by omega, rfl, by rw [← Int.add_assoc, hst.out, if_neg (by omega)]; simp [Int.add_assoc]⟩
      case measure => simp [intOf]; omega
    · obtain rfl : j = K := by omega
      have hon := fun w' => on_yes F (L + 1) (F + r) j w' (by rw [may_true_iff]; omega) (by omega) (by omega)
      have hfar := fun w' => far_yes F (L + 1) (F + r) (F + (r + j) % (L + 1)) w' (by rw [may_true_iff]; omega) (by rw [may_true_iff]; omega)
      have hmay := fun w' => may_yes F (L + 1) (F + r) w' (by omega) (by omega) (by omega) (by omega) (by omega) (by omega)
      have eon : onv F (L + 1) (F + r) j = F + (r + j) % (L + 1) := by unfold onv; congr 2; omega
      have efar : farv (L + 1) (F + r) (F + (r + j) % (L + 1)) = j % (L + 1) := by
        unfold farv; rw [← far_at r j (L + 1) hr0 hr1]; congr 1; omega
      rw [eon] at hon
      simp only [efar] at hfar
      have z1 : L + 1 ≠ 0 := by omega
      have z2 : (L + 1 == 0) = false := by simp; omega
      have z3 : j.tmod (L + 1) = j % (L + 1) := Int.tmod_eq_emod_of_nonneg (by omega)
      clear eon efar hst
      go_region_held3 (fun w' => Below w.heap.size w w' ∧ w.heap.size + 1 < w'.heap.size ∧ w'.cell? ⟨w.heap.size + 1, 0, none⟩ = some (.int .i64 F) ∧ w'.cell? ⟨w.heap.size + 1, 1, none⟩ = some (.int .i64 (L + 1)))
        (first | (refine ⟨(belowDrewN (((Below.refl _ _).alloc (Nat.le_refl _) _).alloc (by simp) _) _).drew, by simp, ?_, ?_⟩ <;> simp) | (go_split_ands; exact ⟨belowCont (by assumption) (by assumption), Nat.lt_of_lt_of_le (by assumption) (Below.size (by assumption)), (Below.cell (by assumption) (by assumption)).trans (by assumption), (Below.cell (by assumption) (by assumption)).trans (by assumption)⟩))
        (first | (go_at_call 27; (with_reducible refine (awake_any _).mono ?_); rintro e w1 ⟨rfl, hb⟩) | (go_at_call 28; (with_reducible refine (hon _).mono ?_); rintro e w1 ⟨rfl, hb⟩) | (go_at_call 29; (with_reducible refine (hfar _).mono ?_); rintro e w1 ⟨rfl, hb⟩) | (go_at_call 30; (with_reducible refine (hmay _).mono ?_); rintro e w1 ⟨rfl, hb⟩))
      all_goals go_wp2
      all_goals go_ret
      all_goals (go_split_ands; exact ⟨rfl, by assumption⟩)

theorem ringWalks_walk (a0_0 : Int) (a0_1 : Int) (a1 : Int) (a2 : Int) (w : World) (w0_0 : (Lit.int .i64 a0_0).wf = true) (w0_1 : (Lit.int .i64 a0_1).wf = true) (w1 : (Lit.int .i64 a1).wf = true) (w2 : (Lit.int .i64 a2).wf = true) :
    Calls Try.prog 6 #[.agg #[.int .i64 a0_0, .int .i64 a0_1], .int .i64 a1, .int .i64 a2] w fun e w' => e = .returned (.bool true) ∧ Below w.heap.size w w' := walks_any _ _ _ _ w

theorem far_no (f l p q : Int) (w : World) (h : may f l p = false) :
    Calls Try.prog 29 #[.agg #[.int .i64 f, .int .i64 l], .int .i64 p, .int .i64 q] w fun e w' => e = .returned (.int .i64 (-1)) ∧ Below w.heap.size w w' := by
  have hm := fun w' => may_no f l p w' h
  have h := Lib.hid h
  go_enter Try.func29, Try.ntmps29
  go_wp2_with (go_at_call 30; (with_reducible refine (hm _).mono ?_); rintro e w1 ⟨rfl, hb⟩)
  go_ret
  exact ⟨rfl, (((Below.refl _ _).alloc (Nat.le_refl _) _).trans (hb.mono (by simp)))⟩

theorem room_no (f l p m : Int) (w : World) (h : may f l p = false) :
    Calls Try.prog 31 #[.agg #[.int .i64 f, .int .i64 l], .int .i64 p, .int .i64 m] w fun e w' => e = .returned (.int .i64 0) ∧ Below w.heap.size w w' := by
  have hm := fun w' => may_no f l p w' h
  have h := Lib.hid h
  go_enter Try.func31, Try.ntmps31
  go_wp2_with (go_at_call 30; (with_reducible refine (hm _).mono ?_); rintro e w1 ⟨rfl, hb⟩)
  go_ret
  exact ⟨rfl, (((Below.refl _ _).alloc (Nat.le_refl _) _).trans (hb.mono (by simp)))⟩

def roomv (l m : Int) : Int := if 0 ≤ m ∧ m ≤ l then l - m else 0
theorem room_yes (f l p m : Int) (w : World) (h : may f l p = true) :
    Calls Try.prog 31 #[.agg #[.int .i64 f, .int .i64 l], .int .i64 p, .int .i64 m] w fun e w' => e = .returned (.int .i64 (roomv l m)) ∧ Below w.heap.size w w' := by
  have hm := fun w' => may_any f l p w'
  rw [h] at hm
  rw [may_true_iff] at h
  obtain ⟨h1, h2, h3, h4, h5, h6⟩ := h
  by_cases a : m < 0
  · have e : roomv l m = 0 := by unfold roomv; rw [if_neg (by omega)]
    rw [e]; clear e
    go_enter Try.func31, Try.ntmps31
    go_wp2_with (go_at_call 30; (with_reducible refine (hm _).mono ?_); rintro e w1 ⟨rfl, hb⟩; obtain ⟨c0, c1, hs, hbb⟩ := box2 hb; clear hb)
    go_ret
    exact ⟨rfl, hbb⟩
  · by_cases b : l < m
    · have e : roomv l m = 0 := by unfold roomv; rw [if_neg (by omega)]
      rw [e]; clear e
      go_enter Try.func31, Try.ntmps31
      go_wp2_with (go_at_call 30; (with_reducible refine (hm _).mono ?_); rintro e w1 ⟨rfl, hb⟩; obtain ⟨c0, c1, hs, hbb⟩ := box2 hb; clear hb)
      go_ret
      exact ⟨rfl, hbb⟩
    · have e : roomv l m = l - m := by unfold roomv; rw [if_pos (by omega)]
      rw [e]; clear e
      go_enter Try.func31, Try.ntmps31
      go_wp2_with (go_at_call 30; (with_reducible refine (hm _).mono ?_); rintro e w1 ⟨rfl, hb⟩; obtain ⟨c0, c1, hs, hbb⟩ := box2 hb; clear hb)
      go_ret
      exact ⟨rfl, hbb⟩

set_option maxHeartbeats 4000000 in
/-- the law's first tests say no -/
theorem mays_no (f l p k : Int) (w : World) (h : may f l p = false) (hf : -9223372036854775808 ≤ f ∧ f ≤ 9223372036854775807)
    (hc : f < 0 ∨ 0 ≤ f ∧ 4096 < f ∨ 0 ≤ f ∧ f ≤ 4096 ∧ l < 1 ∨ 0 ≤ f ∧ f ≤ 4096 ∧ 1 ≤ l ∧ 4096 < l ∨ 0 ≤ f ∧ f ≤ 4096 ∧ 1 ≤ l ∧ l ≤ 4096 ∧ p < f ∨ 0 ≤ f ∧ f ≤ 4096 ∧ 1 ≤ l ∧ l ≤ 4096 ∧ f ≤ p ∧ f + l ≤ p) :
    Calls Try.prog 7 #[.agg #[.int .i64 f, .int .i64 l], .int .i64 p, .int .i64 k] w fun e w' => e = .returned (.bool true) ∧ Below w.heap.size w w' := by
  have hmay := fun w' => may_no f l p w' h
  have hon := fun w' => on_no f l p k w' (Or.inl h)
  have hfar := fun w' => far_no f l p p w' h
  have hroom := fun w' => room_no f l p k w' h
  have h := Lib.hid h
  have hz : f + l ≤ p → decide (p < f + l) = false := by intro h; simp; omega
  rcases hc with c1 | ⟨c1, c2⟩ | ⟨c1, c2, c3⟩ | ⟨c1, c2, c3, c4⟩ | ⟨c1, c2, c3, c4, c5⟩ | ⟨c1, c2, c3, c4, c5, c6⟩
  all_goals try (have hz := hz (by omega))
  all_goals
    go_enter Try.func7, Try.ntmps7
    go_wp2_with fail
    go_region_held3 (fun w' => Below w.heap.size w w' ∧ w.heap.size < w'.heap.size ∧ w'.cell? ⟨w.heap.size, 0, none⟩ = some (.int .i64 f) ∧ w'.cell? ⟨w.heap.size, 1, none⟩ = some (.int .i64 l))
      (first | (refine ⟨((Below.refl _ _).alloc (Nat.le_refl _) _).drew, by simp, ?_, ?_⟩ <;> simp) | (go_split_ands; exact ⟨belowCont (by assumption) (by assumption), Nat.lt_of_lt_of_le (by assumption) (Below.size (by assumption)), (Below.cell (by assumption) (by assumption)).trans (by assumption), (Below.cell (by assumption) (by assumption)).trans (by assumption)⟩))
      (first | (go_at_call 28; (with_reducible refine (hon _).mono ?_); rintro e w1 ⟨rfl, hb⟩) | (go_at_call 29; (with_reducible refine (hfar _).mono ?_); rintro e w1 ⟨rfl, hb⟩))
    all_goals
      rename Below w.heap.size w _ ∧ _ => hH
      obtain ⟨hbb, hs, c0, c1⟩ := hH
      go_wp2_with (first | (go_at_call 27; (with_reducible refine (awake_any _).mono ?_); rintro e w9 ⟨rfl, hb9⟩; obtain ⟨c0, c1, hs, hbb⟩ := keep2 c0 c1 hs hbb hb9) | (go_at_call 30; (with_reducible refine (hmay _).mono ?_); rintro e w9 ⟨rfl, hb9⟩; obtain ⟨c0, c1, hs, hbb⟩ := keep2 c0 c1 hs hbb hb9) | (go_at_call 31; (with_reducible refine (hroom _).mono ?_); rintro e w9 ⟨rfl, hb9⟩; obtain ⟨c0, c1, hs, hbb⟩ := keep2 c0 c1 hs hbb hb9))
      go_ret
      exact ⟨rfl, hbb⟩

theorem mays_yes (f l p k : Int) (w : World) (h : may f l p = true) (hk : -9223372036854775808 ≤ k ∧ k ≤ 9223372036854775807) (hc : k < 0 ∨ 0 ≤ k ∧ l < k ∨ 0 ≤ k ∧ k ≤ l) :
    Calls Try.prog 7 #[.agg #[.int .i64 f, .int .i64 l], .int .i64 p, .int .i64 k] w fun e w' => e = .returned (.bool true) ∧ Below w.heap.size w w' := by
  have hmay := fun w' => may_any f l p w'
  have hfar := fun w' => far_yes f l p p w' h h
  have hroom := fun w' => room_yes f l p k w' h
  have e2 : farv l p p = 0 := by unfold farv; rw [Int.sub_self, Int.zero_add, Int.emod_self]
  simp only [e2] at hfar
  rw [h] at hmay
  have hon : ∃ v, (k < 0 ∧ v = -1 ∨ 0 ≤ k ∧ may f l v = true) ∧ ∀ w', Calls Try.prog 28 #[.agg #[.int .i64 f, .int .i64 l], .int .i64 p, .int .i64 k] w' fun e w1 => e = .returned (.int .i64 v) ∧ Below w'.heap.size w' w1 := by
    by_cases hk0 : k < 0
    · exact ⟨-1, Or.inl ⟨hk0, rfl⟩, fun w' => on_no f l p k w' (Or.inr hk0)⟩
    · refine ⟨onv f l p k, Or.inr ⟨by omega, ?_⟩, fun w' => on_yes f l p k w' h (by omega) (by omega)⟩
      rw [may_true_iff] at h ⊢
      have a1 : 0 ≤ (p - f + k) % l := Int.emod_nonneg _ (by omega)
      have a2 : (p - f + k) % l < l := Int.emod_lt_of_pos _ (by omega)
      unfold onv; omega
  obtain ⟨v, hv, hon⟩ := hon
  rw [may_true_iff] at h
  obtain ⟨h1, h2, h3, h4, h5, h6⟩ := h
  clear e2
  have hmv : 0 ≤ k → ∀ w', Calls Try.prog 30 #[.agg #[.int .i64 f, .int .i64 l], .int .i64 v] w' fun e w1 => e = .returned (.bool true) ∧ Below w'.heap.size w' w1 := by
    intro hk0 w'
    rcases hv with ⟨a, b⟩ | ⟨a, b⟩
    · omega
    · have := may_any f l v w'
      rw [b] at this; exact this
  have hneg : k < 0 → v = -1 := by intro hk0; rcases hv with ⟨a, b⟩ | ⟨a, b⟩; exact b; omega
  clear hv
  rcases hc with c1 | ⟨c1, c2⟩ | ⟨c1, c2⟩
  · have hr : roomv l k = 0 := by unfold roomv; rw [if_neg (by omega)]
    simp only [hr] at hroom
    have hm1 := hneg c1
    subst hm1
    clear hneg hmv hr
    have hd1 : decide (k < 0) = true := by simp; omega
    have hd2 : decide (0 ≤ k) = false := by simp; omega
    go_enter Try.func7, Try.ntmps7
    go_wp2_with fail
    go_region_held3 (fun w' => Below w.heap.size w w' ∧ w.heap.size < w'.heap.size ∧ w'.cell? ⟨w.heap.size, 0, none⟩ = some (.int .i64 f) ∧ w'.cell? ⟨w.heap.size, 1, none⟩ = some (.int .i64 l))
      (first | (refine ⟨((Below.refl _ _).alloc (Nat.le_refl _) _).drew, by simp, ?_, ?_⟩ <;> simp) | (go_split_ands; exact ⟨belowCont (by assumption) (by assumption), Nat.lt_of_lt_of_le (by assumption) (Below.size (by assumption)), (Below.cell (by assumption) (by assumption)).trans (by assumption), (Below.cell (by assumption) (by assumption)).trans (by assumption)⟩))
      (first | (go_at_call 28; (with_reducible refine (hon _).mono ?_); rintro e w1 ⟨rfl, hb⟩) | (go_at_call 29; (with_reducible refine (hfar _).mono ?_); rintro e w1 ⟨rfl, hb⟩))
    all_goals
      rename Below w.heap.size w _ ∧ _ => hH
      obtain ⟨hbb, hs, c0, c1⟩ := hH
      go_wp2_with (first | (go_at_call 27; (with_reducible refine (awake_any _).mono ?_); rintro e w9 ⟨rfl, hb9⟩; obtain ⟨c0, c1, hs, hbb⟩ := keep2 c0 c1 hs hbb hb9) | (go_at_call 30; (with_reducible refine (hmay _).mono ?_); rintro e w9 ⟨rfl, hb9⟩; obtain ⟨c0, c1, hs, hbb⟩ := keep2 c0 c1 hs hbb hb9) | (go_at_call 31; (with_reducible refine (hroom _).mono ?_); rintro e w9 ⟨rfl, hb9⟩; obtain ⟨c0, c1, hs, hbb⟩ := keep2 c0 c1 hs hbb hb9))
      go_ret
      exact ⟨rfl, hbb⟩
  · have hr : roomv l k = 0 := by unfold roomv; rw [if_neg (by omega)]
    simp only [hr] at hroom
    have hmv := hmv c1
    clear hneg hr
    have hd1 : decide (k < 0) = false := by simp; omega
    have hd2 : decide (0 ≤ k) = true := by simp; omega
    have hd3 : decide (k ≤ l) = false := by simp; omega
    go_enter Try.func7, Try.ntmps7
    go_wp2_with fail
    go_region_held3 (fun w' => Below w.heap.size w w' ∧ w.heap.size < w'.heap.size ∧ w'.cell? ⟨w.heap.size, 0, none⟩ = some (.int .i64 f) ∧ w'.cell? ⟨w.heap.size, 1, none⟩ = some (.int .i64 l))
      (first | (refine ⟨((Below.refl _ _).alloc (Nat.le_refl _) _).drew, by simp, ?_, ?_⟩ <;> simp) | (go_split_ands; exact ⟨belowCont (by assumption) (by assumption), Nat.lt_of_lt_of_le (by assumption) (Below.size (by assumption)), (Below.cell (by assumption) (by assumption)).trans (by assumption), (Below.cell (by assumption) (by assumption)).trans (by assumption)⟩))
      (first | (go_at_call 28; (with_reducible refine (hon _).mono ?_); rintro e w1 ⟨rfl, hb⟩) | (go_at_call 29; (with_reducible refine (hfar _).mono ?_); rintro e w1 ⟨rfl, hb⟩))
    all_goals
      rename Below w.heap.size w _ ∧ _ => hH
      obtain ⟨hbb, hs, c0, c1⟩ := hH
      go_wp2_with (first | (go_at_call 27; (with_reducible refine (awake_any _).mono ?_); rintro e w9 ⟨rfl, hb9⟩; obtain ⟨c0, c1, hs, hbb⟩ := keep2 c0 c1 hs hbb hb9) | (go_at_call 30; (with_reducible refine (hmay _).mono ?_); rintro e w9 ⟨rfl, hb9⟩; obtain ⟨c0, c1, hs, hbb⟩ := keep2 c0 c1 hs hbb hb9) | (go_at_call 30; (with_reducible refine (hmv _).mono ?_); rintro e w9 ⟨rfl, hb9⟩; obtain ⟨c0, c1, hs, hbb⟩ := keep2 c0 c1 hs hbb hb9) | (go_at_call 31; (with_reducible refine (hroom _).mono ?_); rintro e w9 ⟨rfl, hb9⟩; obtain ⟨c0, c1, hs, hbb⟩ := keep2 c0 c1 hs hbb hb9))
      go_ret
      exact ⟨rfl, hbb⟩
  · have hr : roomv l k = l - k := by unfold roomv; rw [if_pos (by omega)]
    simp only [hr] at hroom
    have hmv := hmv c1
    clear hneg hr
    have hd1 : decide (k < 0) = false := by simp; omega
    have hd2 : decide (0 ≤ k) = true := by simp; omega
    have hd3 : decide (k ≤ l) = true := by simp; omega
    go_enter Try.func7, Try.ntmps7
    go_wp2_with fail
    go_region_held3 (fun w' => Below w.heap.size w w' ∧ w.heap.size < w'.heap.size ∧ w'.cell? ⟨w.heap.size, 0, none⟩ = some (.int .i64 f) ∧ w'.cell? ⟨w.heap.size, 1, none⟩ = some (.int .i64 l))
      (first | (refine ⟨((Below.refl _ _).alloc (Nat.le_refl _) _).drew, by simp, ?_, ?_⟩ <;> simp) | (go_split_ands; exact ⟨belowCont (by assumption) (by assumption), Nat.lt_of_lt_of_le (by assumption) (Below.size (by assumption)), (Below.cell (by assumption) (by assumption)).trans (by assumption), (Below.cell (by assumption) (by assumption)).trans (by assumption)⟩))
      (first | (go_at_call 28; (with_reducible refine (hon _).mono ?_); rintro e w1 ⟨rfl, hb⟩) | (go_at_call 29; (with_reducible refine (hfar _).mono ?_); rintro e w1 ⟨rfl, hb⟩))
    all_goals
      rename Below w.heap.size w _ ∧ _ => hH
      obtain ⟨hbb, hs, c0, c1⟩ := hH
      go_wp2_with (first | (go_at_call 27; (with_reducible refine (awake_any _).mono ?_); rintro e w9 ⟨rfl, hb9⟩; obtain ⟨c0, c1, hs, hbb⟩ := keep2 c0 c1 hs hbb hb9) | (go_at_call 30; (with_reducible refine (hmay _).mono ?_); rintro e w9 ⟨rfl, hb9⟩; obtain ⟨c0, c1, hs, hbb⟩ := keep2 c0 c1 hs hbb hb9) | (go_at_call 30; (with_reducible refine (hmv _).mono ?_); rintro e w9 ⟨rfl, hb9⟩; obtain ⟨c0, c1, hs, hbb⟩ := keep2 c0 c1 hs hbb hb9) | (go_at_call 31; (with_reducible refine (hroom _).mono ?_); rintro e w9 ⟨rfl, hb9⟩; obtain ⟨c0, c1, hs, hbb⟩ := keep2 c0 c1 hs hbb hb9))
      go_ret
      exact ⟨rfl, hbb⟩

theorem ringMay_walk (a0_0 : Int) (a0_1 : Int) (a1 : Int) (a2 : Int) (w : World) (w0_0 : (Lit.int .i64 a0_0).wf = true) (w0_1 : (Lit.int .i64 a0_1).wf = true) (w1 : (Lit.int .i64 a1).wf = true) (w2 : (Lit.int .i64 a2).wf = true) :
    Calls Try.prog 7 #[.agg #[.int .i64 a0_0, .int .i64 a0_1], .int .i64 a1, .int .i64 a2] w fun e w' => e = .returned (.bool true) ∧ Below w.heap.size w w' := by
  simp [Lit.wf, IntKind.min, IntKind.max, IntKind.signed, IntKind.bits] at w0_0 w0_1 w1 w2
  by_cases h : may a0_0 a0_1 a1 = true
  · exact mays_yes _ _ _ _ w h w2 (by omega)
  · simp only [Bool.not_eq_true] at h
    have h' : ¬ (may a0_0 a0_1 a1 = true) := by simp [h]
    rw [may_true_iff] at h'
    exact mays_no _ _ _ _ w h w0_0 (by omega)
end Go.Proofs.Ytfgefcnllbganab.ring
