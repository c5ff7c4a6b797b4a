/- Who waits for whom: the laws' awake; the laws WaitNone, WaitBreaks. No condition but the slices' cells. -/
import Derived.Test.YtmlphodmbkceoabWait7
namespace Go.Proofs.Ytmlphodmbkceoab.wait
open Go.RowKit
open Go.Sort
attribute [local go_sem ↓] Go.wp_at_zero Go.wp_at_succ
set_option linter.unusedVariables false
set_option maxRecDepth 100000

theorem up_eq : ∀ (a b : List Nat), a.Pairwise (· < ·) → b.Pairwise (· < ·) → (∀ x, x ∈ a ↔ x ∈ b) → a = b
  | [], [], _, _, _ => rfl
  | [], y :: b, _, _, h => absurd ((h y).2 (by simp)) (by simp)
  | x :: a, [], _, _, h => absurd ((h x).1 (by simp)) (by simp)
  | x :: a, y :: b, ha, hb, h => by
    have ha2 := List.pairwise_cons.1 ha
    have hb2 := List.pairwise_cons.1 hb
    have hxy : x = y := by
      rcases List.mem_cons.1 ((h x).1 (by simp)) with h1 | h1
      · exact h1
      · rcases List.mem_cons.1 ((h y).2 (by simp)) with h2 | h2
        · exact h2.symm
        · have := ha2.1 y h2; have := hb2.1 x h1; omega
    subst hxy
    rw [up_eq a b ha2.2 hb2.2 fun z => ?_]
    constructor
    · intro hz
      have := ha2.1 z hz
      exact (List.mem_cons.1 ((h z).1 (by simp [hz]))).resolve_left (by omega)
    · intro hz
      have := hb2.1 z hz
      exact (List.mem_cons.1 ((h z).2 (by simp [hz]))).resolve_left (by omega)
theorem range_up (p : Nat → Bool) (n : Nat) : ((List.range n).filter p).Pairwise (· < ·) := List.Pairwise.filter _ List.pairwise_lt_range
/-- what Set lays, reckoned -/
theorem setL_eq (who : Nat) (zs : List Int) : setL who zs = (List.range 16).filter fun (n : Nat) => decide ((n : Int) ∈ zs) && decide (n ≠ who) := by
  refine up_eq _ _ (setL_sorted who zs) (range_up _ _) fun x => ?_
  rw [setL_mem, List.mem_filter]
  simp
  constructor
  · rintro ⟨a, b, c⟩; exact ⟨b, a, c⟩
  · rintro ⟨a, b, c⟩; exact ⟨b, a, c⟩
def ls1 : Nat → List Nat := fun k => if k = 0 then setL 0 [1] else []
def ls2 : Nat → List Nat := fun k => if k = 1 then setL 1 [0] else ls1 k
theorem ok1 : GOk ls1 := GOk.nil.set 0 [1]
theorem ok2 : GOk ls2 := ok1.set 1 [0]
theorem set01 : setL 0 [1] = [1] := by rw [setL_eq]; decide
theorem set10 : setL 1 [0] = [0] := by rw [setL_eq]; decide
theorem ls2_val (k : Nat) : ls2 k = if k = 1 then [0] else if k = 0 then [1] else [] := by
  unfold ls2 ls1; rw [set01, set10]
theorem edge2 (a b : Nat) : edge ls2 a b = true ↔ (a = 0 ∧ b = 1) ∨ (a = 1 ∧ b = 0) := by
  unfold edge
  rw [ls2_val]
  by_cases h1 : a = 1
  · subst h1; simp
  · by_cases h0 : a = 0
    · subst h0; simp
    · simp [h0, h1]
theorem rch2 {a b : Nat} (h : Rch (edge ls2) a b) : b ≤ 1 ∧ a ≤ 1 := by
  induction h with
  | one h => have := (edge2 _ _).1 h; omega
  | step h _ ih => have := (edge2 _ _).1 h; omega
theorem r01 : Rch (edge ls2) 0 1 := .one ((edge2 0 1).2 (.inl ⟨rfl, rfl⟩))
theorem r10 : Rch (edge ls2) 1 0 := .one ((edge2 1 0).2 (.inr ⟨rfl, rfl⟩))
theorem circ2 : circK ls2 0 16 = [0, 1] := by
  have : circK ls2 0 16 = (List.range 16).filter fun x => decide (x ≤ 1) := by
    unfold circK
    apply List.filter_congr
    intro x _
    unfold onC
    rw [Bool.eq_iff_iff, Bool.and_eq_true, R_rch ok2, R_rch ok2, decide_eq_true_eq]
    constructor
    · rintro ⟨h, _⟩; exact (rch2 h).1
    · intro h
      have : x = 0 ∨ x = 1 := by omega
      rcases this with rfl | rfl
      · exact ⟨r01.trans r10, r01.trans r10⟩
      · exact ⟨r01, r10⟩
  rw [this]; decide
theorem vict2 : (vict [5, 9] (circK ls2 0 16)).1 = 1 := by rw [circ2]; decide
theorem any2 : anyL ls2 16 = true := by
  unfold anyL
  rw [List.any_eq_true]
  exact ⟨0, by simp, by rw [ls2_val]; simp⟩
theorem sl_lit (W : World) (cs : Array Value) (t : TypeId) (n : Nat) (hn : n ≤ 140737488355328) : Sl (W.alloc (.cells cs t)) (.slice (some ⟨W.heap.size, 0, none⟩) n n) n cs.toList := by
  refine ⟨_, _, rfl, hn, .inr ⟨_, 0, rfl, by simp, fun j v hv => ?_⟩⟩
  rw [Nat.zero_add, cell_of_row _ _ j cs t (0, 0) (heap_alloc_new W _)]
  simpa using hv
theorem awake_any (w : World) : Calls Try.prog 30 #[] w fun e w' => e = .returned (.bool true) ∧ Below w.heap.size w w' := by
  have c0 : ∀ W, Calls Try.prog 29 #[] W fun e w' => ∃ g, e = .returned (.pointer (some ⟨g, 0, none⟩)) ∧ GAt w' g (fun _ => []) ∧ Below W.heap.size W w' ∧ W.heap.size ≤ g := fun W => (new_any W).mono fun e w' ⟨h1, h2, h3⟩ => ⟨_, h1, h2, h3, Nat.le_refl _⟩
  have c1 : ∀ g W, GAt W g (fun _ => []) → Calls Try.prog 31 #[.pointer (some ⟨g, 0, none⟩), .int .i64 0, .slice (some ⟨W.heap.size, 0, none⟩) 1 1] (W.alloc (.cells #[.int .i64 1] 3)) fun e w' => e = .returned (.tuple #[]) ∧ GAt w' g ls1 ∧ Keeps [g] (W.alloc (.cells #[.int .i64 1] 3)) w' := fun g W h =>
    set_any (h.below ((Below.refl _ _).alloc (Nat.le_refl _) _)) 0 (by decide) _ [1] (sl_lit W #[.int .i64 1] 3 1 (by decide)) (by decide)
  have c2 : ∀ g W, GAt W g ls1 → Calls Try.prog 31 #[.pointer (some ⟨g, 0, none⟩), .int .i64 1, .slice (some ⟨W.heap.size, 0, none⟩) 1 1] (W.alloc (.cells #[.int .i64 0] 3)) fun e w' => e = .returned (.tuple #[]) ∧ GAt w' g ls2 ∧ Keeps [g] (W.alloc (.cells #[.int .i64 0] 3)) w' := fun g W h =>
    set_any (h.below ((Below.refl _ _).alloc (Nat.le_refl _) _)) 1 (by decide) _ [0] (sl_lit W #[.int .i64 0] 3 1 (by decide)) (by decide)
  have c3 : ∀ g W, GAt W g ls2 → Calls Try.prog 33 #[.pointer (some ⟨g, 0, none⟩), .int .i64 0, .slice (some ⟨W.heap.size, 0, none⟩) 2 2] (W.alloc (.cells #[.int .u64 5, .int .u64 9] 79)) fun e w' => e = .returned (.int .i64 1) ∧ Below (W.alloc (.cells #[.int .u64 5, .int .u64 9] 79)).heap.size (W.alloc (.cells #[.int .u64 5, .int .u64 9] 79)) w' := fun g W h => by
    have := victim_any (h.below ((Below.refl _ _).alloc (Nat.le_refl _) (.cells #[.int .u64 5, .int .u64 9] 79))) ok2 0 (by decide) _ [5, 9] (sl_lit W #[.int .u64 5, .int .u64 9] 79 2 (by decide))
    rw [vict2] at this; exact this
  have c4 : ∀ g W, GAt W g ls2 → Calls Try.prog 35 #[.pointer (some ⟨g, 0, none⟩)] W fun e w' => e = .returned (.bool true) ∧ W = w' := fun g W h => by
    have := waits_any h; rw [any2] at this; exact this
  have hb := Below.refl w.heap.size w
  replace c0 := Lib.hid c0; replace c1 := Lib.hid c1; replace c2 := Lib.hid c2; replace c3 := Lib.hid c3; replace c4 := Lib.hid c4; replace hb := Lib.hid hb
  go_enter Try.func30, Try.ntmps30
  go_wp2_with (first
    | (go_at_call 29; (with_reducible refine (c0.out _).mono ?_); rintro e w1 ⟨g, rfl, h1, b1, hg⟩; replace hb := Lib.hid (belowCont hb.out b1); clear b1; replace h1 := Lib.hid h1)
    | (go_at_call 31; (with_reducible refine (c1.out _ _ h1.out).mono ?_); rintro e w2 ⟨rfl, h2, k2⟩; replace hb := Lib.hid ((hb.out.alloc hb.out.size _).trans (k2.below (by have := hb.out.size; simp; omega) (by intro x hx; simp at hx; subst hx; exact hg))); clear k2; replace h2 := Lib.hid h2)
    | (go_at_call 31; (with_reducible refine (c2.out _ _ h2.out).mono ?_); rintro e w3 ⟨rfl, h3, k3⟩; replace hb := Lib.hid ((hb.out.alloc hb.out.size _).trans (k3.below (by have := hb.out.size; simp; omega) (by intro x hx; simp at hx; subst hx; exact hg))); clear k3; replace h3 := Lib.hid h3)
    | (go_at_call 33; (with_reducible refine (c3.out _ _ h3.out).mono ?_); rintro e w4 ⟨rfl, b4⟩; replace h3 := Lib.hid ((h3.out.below ((Below.refl _ _).alloc (Nat.le_refl _) _)).below b4); replace hb := Lib.hid (belowCont (hb.out.alloc hb.out.size _) b4); clear b4)
    | (go_at_call 35; (with_reducible refine (c4.out _ _ h3.out).mono ?_); rintro e w5 ⟨rfl, rfl⟩))
  go_ret
  exact ⟨rfl, hb.out⟩
theorem circ_none (who : Nat) : circK (fun _ => []) who 16 = [] := by
  unfold circK
  rw [List.filter_eq_nil_iff]
  intro x _ hx
  unfold onC at hx
  rw [Bool.and_eq_true, R_rch GOk.nil] at hx
  have : ∀ a b, ¬ Rch (edge fun _ => []) a b := by
    intro a b h
    induction h with
    | one h => simp [edge] at h
    | step _ _ ih => exact ih
  exact this _ _ hx.1
theorem circle_none {W : World} {g : Nat} (h : GAt W g fun _ => []) (who : Int) : Calls Try.prog 32 #[.pointer (some ⟨g, 0, none⟩), .int .i64 who] W fun e w' => ∃ ad cp, e = .returned (.slice ad 0 cp) ∧ Below W.heap.size W w' := by
  by_cases hw : 0 ≤ who ∧ who < 16
  · obtain ⟨k, rfl⟩ : ∃ k : Nat, who = (k : Int) := ⟨who.toNat, by omega⟩
    refine (circle_any h GOk.nil k (by omega)).mono fun e w' ⟨v, he, hp⟩ => ?_
    rw [circ_none] at hp
    obtain ⟨ad, cp, rfl⟩ := rowShape (hp.row (i := 0) rfl)
    exact ⟨ad, cp, he, hp.bel⟩
  · exact (circle_out _ who (.inr hw) W).mono fun e w' ⟨he, hw⟩ => ⟨none, 0, he, by subst hw; exact Below.refl _ _⟩
end Go.Proofs.Ytmlphodmbkceoab.wait
