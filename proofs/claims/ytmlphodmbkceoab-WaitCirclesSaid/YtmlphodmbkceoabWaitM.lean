/- Who reaches whom: by Warshall, and by going on from one: plain mathematics. No condition. -/
import Derived.Test.YtmlphodmbkceoabBase
namespace Go.Proofs.Ytmlphodmbkceoab.wait
set_option linter.unusedVariables false
/-- reached by one step or more -/
inductive Rch (m : Nat → Nat → Bool) : Nat → Nat → Prop
  | one {a b} : m a b = true → Rch m a b
  | step {a b c} : m a b = true → Rch m b c → Rch m a c
theorem Rch.trans {m : Nat → Nat → Bool} {a b c : Nat} (h : Rch m a b) (k : Rch m b c) : Rch m a c := by
  induction h with
  | one h => exact .step h k
  | step h _ ih => exact .step h (ih k)
/-- by places below n alone between -/
inductive Via (m : Nat → Nat → Bool) (n : Nat) : Nat → Nat → Prop
  | one {a b} : m a b = true → Via m n a b
  | step {a b c} : m a b = true → b < n → Via m n b c → Via m n a c
theorem Via.rch {m : Nat → Nat → Bool} {n a b : Nat} (h : Via m n a b) : Rch m a b := by
  induction h with
  | one h => exact .one h
  | step h _ _ ih => exact .step h ih
theorem Via.trans {m : Nat → Nat → Bool} {n a b c : Nat} (h : Via m n a b) (hb : b < n) (k : Via m n b c) : Via m n a c := by
  induction h with
  | one h => exact .step h hb k
  | step h hl _ ih => exact .step h hl (ih hb k)
theorem Via.mono {m : Nat → Nat → Bool} {n p a b : Nat} (h : Via m n a b) (hn : n ≤ p) : Via m p a b := by
  induction h with
  | one h => exact .one h
  | step h hl _ ih => exact .step h (by omega) ih
/-- cut at place n -/
theorem Via.cut {m : Nat → Nat → Bool} {n a b : Nat} (h : Via m (n + 1) a b) : Via m n a b ∨ (Via m n a n ∧ Via m n n b) := by
  induction h with
  | one h => exact .inl (.one h)
  | @step a b c h hl _ ih =>
    by_cases hb : b = n
    · subst hb
      rcases ih with h2 | ⟨_, h2⟩
      · exact .inr ⟨.one h, h2⟩
      · exact .inr ⟨.one h, h2⟩
    · rcases ih with h2 | ⟨h2, h3⟩
      · exact .inl (.step h (by omega) h2)
      · exact .inr ⟨.step h (by omega) h2, h3⟩
theorem Rch.via {m : Nat → Nat → Bool} {n a b : Nat} (hm : ∀ i j, m i j = true → j < n) (h : Rch m a b) : Via m n a b := by
  induction h with
  | one h => exact .one h
  | step h _ ih => exact .step h (hm _ _ h) ih
/-- one phase -/
def ph (f : Nat → Nat → Bool) (k : Nat) (i j : Nat) : Bool := f i j || (f i k && f k j)
def war (m : Nat → Nat → Bool) : Nat → Nat → Nat → Bool
  | 0 => m
  | k + 1 => ph (war m k) k
theorem war_via (m : Nat → Nat → Bool) : ∀ n i j, war m n i j = true ↔ Via m n i j
  | 0, i, j => by
    refine ⟨fun h => .one h, fun h => ?_⟩
    cases h with
    | one h => exact h
    | step _ h _ => omega
  | n + 1, i, j => by
    simp only [war, ph, Bool.or_eq_true, Bool.and_eq_true, war_via m n]
    constructor
    · rintro (h | ⟨h, k⟩)
      · exact h.mono (by omega)
      · exact (h.mono (by omega)).trans (by omega) (k.mono (by omega))
    · exact Via.cut
theorem war_rch (m : Nat → Nat → Bool) (n : Nat) (hm : ∀ i j, m i j = true → j < n) (i j : Nat) : war m n i j = true ↔ Rch m i j :=
  (war_via m n i j).trans ⟨Via.rch, Rch.via hm⟩
/-- a phase under way: places ahead of (i, j) are done -/
def mid (f : Nat → Nat → Bool) (k n at_ : Nat) (a b : Nat) : Bool := if a * n + b < at_ then ph f k a b else f a b
theorem ph_col (f : Nat → Nat → Bool) (k i : Nat) : ph f k i k = f i k := by unfold ph; cases f i k <;> simp
theorem ph_row (f : Nat → Nat → Bool) (k j : Nat) : ph f k k j = f k j := by unfold ph; cases f k j <;> simp
theorem mid_col (f : Nat → Nat → Bool) (k n t i : Nat) : mid f k n t i k = f i k := by unfold mid; rw [ph_col]; simp
theorem mid_row (f : Nat → Nat → Bool) (k n t j : Nat) : mid f k n t k j = f k j := by unfold mid; rw [ph_row]; simp
def edge (ls : Nat → List Nat) (a b : Nat) : Bool := decide (b ∈ ls a)
structure BInv (ls : Nat → List Nat) (who : Nat) (seen : Nat → Bool) (next : List Nat) : Prop where
  r1 : ∀ x, x ∈ next → Rch (edge ls) who x
  r2 : ∀ x, seen x = true → Rch (edge ls) who x
  c1 : ∀ y, edge ls who y = true → seen y = true ∨ y ∈ next
  c2 : ∀ x y, seen x = true → edge ls x y = true → seen y = true ∨ y ∈ next
theorem BInv.start (ls : Nat → List Nat) (who : Nat) : BInv ls who (fun _ => false) (ls who) :=
  ⟨fun x hx => .one (by simp [edge, hx]), (fun x h => by cases h), fun y h => .inr (by simpa [edge] using h), (fun x y h => by cases h)⟩
theorem BInv.skip {ls : Nat → List Nat} {who o : Nat} {seen : Nat → Bool} {rest : List Nat} (h : BInv ls who seen (o :: rest)) (hs : seen o = true) : BInv ls who seen rest :=
  ⟨fun x hx => h.r1 x (by simp [hx]), h.r2, fun y hy => by
    rcases h.c1 y hy with h2 | h2
    · exact .inl h2
    · rcases List.mem_cons.1 h2 with rfl | h2
      · exact .inl hs
      · exact .inr h2, fun x y hx hy => by
    rcases h.c2 x y hx hy with h2 | h2
    · exact .inl h2
    · rcases List.mem_cons.1 h2 with rfl | h2
      · exact .inl hs
      · exact .inr h2⟩
theorem BInv.take {ls : Nat → List Nat} {who o : Nat} {seen : Nat → Bool} {rest : List Nat} (h : BInv ls who seen (o :: rest)) : BInv ls who (fun x => if x = o then true else seen x) (rest ++ ls o) := by
  have ho := h.r1 o (by simp)
  have more : ∀ y, seen y = true ∨ y ∈ o :: rest → (if y = o then true else seen y) = true ∨ y ∈ rest ++ ls o := by
    rintro y (h2 | h2)
    · left; split <;> simp_all
    · rcases List.mem_cons.1 h2 with rfl | h2
      · left; simp
      · right; simp [h2]
  refine ⟨fun x hx => ?_, fun x hx => ?_, fun y hy => more y (h.c1 y hy), fun x y hx hy => ?_⟩
  · rcases List.mem_append.1 hx with hx | hx
    · exact h.r1 x (by simp [hx])
    · exact ho.trans (.one (by simp [edge, hx]))
  · by_cases hxo : x = o
    · rw [hxo]; exact ho
    · simp only [hxo, if_false] at hx; exact h.r2 x hx
  · by_cases hxo : x = o
    · right; rw [hxo] at hy; simp only [edge, decide_eq_true_eq] at hy; simp [hy]
    · simp only [hxo, if_false] at hx; exact more y (h.c2 x y hx hy)
theorem BInv.done {ls : Nat → List Nat} {who : Nat} {seen : Nat → Bool} (h : BInv ls who seen []) (x : Nat) : seen x = true ↔ Rch (edge ls) who x := by
  refine ⟨h.r2 x, fun k => ?_⟩
  have : ∀ a b, Rch (edge ls) a b → a = who ∨ seen a = true → seen b = true := by
    intro a b hab
    induction hab with
    | @one a b h1 =>
      rintro (rfl | h2)
      · simpa using h.c1 b h1
      · simpa using h.c2 a b h2 h1
    | @step a b c h1 _ ih =>
      intro h2
      apply ih; right
      rcases h2 with rfl | h2
      · simpa using h.c1 b h1
      · simpa using h.c2 a b h2 h1
  exact this who x k (.inl rfl)
end Go.Proofs.Ytmlphodmbkceoab.wait
