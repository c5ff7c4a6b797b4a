/- Two structs of three cells, each a call's result, are laid in two boxes by one statement: what is known whatever came up. No condition. -/
import Derived.Test.YtdgpalileloekaaDoorRegInv
import Derived.Test.YtdgpalileloekaaDoorBox
namespace Go.Proofs.YtdgpalileloekaaDoor
open Go.RowKit
set_option linter.unusedVariables false
set_option maxRecDepth 100000

theorem has_not {l : Array Bool} {i : Nat} (h : l.getD i true = false) : ¬ has l i := by
  intro h2
  have hi : i < l.size := by
    rcases Nat.lt_or_ge i l.size with h' | h'
    · exact h'
    · exfalso; simp [Array.getD, Nat.not_lt.mpr h'] at h
  unfold has at h2
  simp [hi] at h h2
  rw [h] at h2; cases h2
/-- a box of three cells; full: what it holds -/
def Bx (W : World) (T : TypeId) (s : Value) (F : Prop) (cx : Array Value) (w' : World) : Prop :=
  ∃ g : Nat, ∃ x y z : Value, s = .pointer (some ⟨g, 0, none⟩) ∧ W.heap.size ≤ g ∧ w'.heap[g]? = some (.cells #[x, y, z] T (0, 0)) ∧ (F → #[x, y, z] = cx)
theorem Bx.below {W w' w2 : World} {T : TypeId} {s : Value} {F F' : Prop} {cx : Array Value} (h : Bx W T s F cx w') (k : Below w'.heap.size w' w2) (hF : F' → F) : Bx W T s F' cx w2 := by
  obtain ⟨g, x, y, z, h1, h2, h3, h4⟩ := h
  exact ⟨g, x, y, z, h1, h2, (k.block _ (block_lt h3)).trans h3, fun h => h4 (hF h)⟩
theorem Bx.fresh {W w' : World} {T : TypeId} {F : Prop} {cx : Array Value} (hb : W.heap.size ≤ w'.heap.size) (x y z : Value) (hF : ¬ F) : Bx W T (.pointer (some ⟨w'.heap.size, 0, none⟩)) F cx (w'.alloc (.cells #[x, y, z] T)) :=
  ⟨_, x, y, z, rfl, hb, heap_alloc_new _ _, fun h => absurd h hF⟩
theorem put3T {T : TypeId} {W : World} {g : Nat} {x y z : Value} (h : W.heap[g]? = some (.cells #[x, y, z] T (0, 0))) (a b c : Value) : (((W.setCell ⟨g, 0, none⟩ a).setCell ⟨g, 1, none⟩ b).setCell ⟨g, 2, none⟩ c).heap[g]? = some (.cells #[a, b, c] T (0, 0)) := by
  simp [World.setCell, Array.getElem?_modify, h]
theorem keeps3 (g : Nat) (V : World) (a b c : Value) : Keeps [g] V (((V.setCell ⟨g, 0, none⟩ a).setCell ⟨g, 1, none⟩ b).setCell ⟨g, 2, none⟩ c) :=
  (((Keeps.refl [g] V).setCell (p := ⟨g, 0, none⟩) (Or.inl (by simp)) _).setCell (p := ⟨g, 1, none⟩) (Or.inl (by simp)) _).setCell (p := ⟨g, 2, none⟩) (Or.inl (by simp)) _
theorem Bx.other {W w' : World} {T : TypeId} {s : Value} {F F' : Prop} {cx : Array Value} (h : Bx W T s F cx w') {g : Nat} (hne : s ≠ .pointer (some ⟨g, 0, none⟩)) (a b c : Value) (hF : F' → F) : Bx W T s F' cx (((w'.setCell ⟨g, 0, none⟩ a).setCell ⟨g, 1, none⟩ b).setCell ⟨g, 2, none⟩ c) := by
  obtain ⟨g', x, y, z, h1, h2, h3, h4⟩ := h
  exact ⟨g', x, y, z, h1, h2, ((keeps3 g w' a b c).block _ (block_lt h3) (by intro hm; simp at hm; subst hm; exact hne h1)).trans h3, fun h => h4 (hF h)⟩
theorem Bx.lt {W w' : World} {T : TypeId} {s : Value} {F : Prop} {cx : Array Value} (h : Bx W T s F cx w') : s ≠ .pointer (some ⟨w'.heap.size, 0, none⟩) := by
  obtain ⟨g', x, y, z, h1, h2, h3, h4⟩ := h
  intro e
  rw [h1] at e
  injection e with e; injection e with e; injection e with e
  have := block_lt h3; omega
theorem row3T {T : TypeId} {W : World} {b : Nat} {x y z : Value} (h : W.heap[b]? = some (.cells #[x, y, z] T (0, 0))) : W.cell? ⟨b, 0, none⟩ = some x ∧ W.cell? ⟨b, 1, none⟩ = some y ∧ W.cell? ⟨b, 2, none⟩ = some z ∧ W.frozen? ⟨b, 0, none⟩ = false ∧ W.frozen? ⟨b, 1, none⟩ = false ∧ W.frozen? ⟨b, 2, none⟩ = false :=
  ⟨cell_of_row _ _ 0 _ _ _ h, cell_of_row _ _ 1 _ _ _ h, cell_of_row _ _ 2 _ _ _ h, by simp [World.frozen?, h], by simp [World.frozen?, h], by simp [World.frozen?, h]⟩
/-- what is known, whatever of the eight came up: load, call, load, call, alloc, alloc, store, store -/
structure XI (W : World) (T : TypeId) (u v x y : Value) (cx cy : Array Value) (l : Array Bool) (s5 s6 s13 s14 s15 s16 : Value) (w' : World) : Prop where
  bel : Below W.heap.size W w'
  v13 : has l 0 → s13 = u
  v14 : has l 1 → s14 = x
  v15 : has l 2 → s15 = v
  v16 : has l 3 → s16 = y
  o6 : has l 6 → has l 4
  o7 : has l 7 → has l 5
  b5 : has l 4 → Bx W T s5 (has l 6) cx w'
  b6 : has l 5 → Bx W T s6 (has l 7) cy w'
  ne : has l 4 → has l 5 → s5 ≠ s6
section
variable {W : World} {T : TypeId} {u v x y : Value} {cx cy : Array Value} {l : Array Bool} {s5 s6 s13 s14 s15 s16 : Value} {w' w2 : World}
theorem XI.start : XI W T u v x y cx cy (Array.replicate 8 false) s5 s6 s13 s14 s15 s16 W.drew :=
  ⟨(Below.refl _ _).drew, fun h => absurd h (has_none _ _), fun h => absurd h (has_none _ _), fun h => absurd h (has_none _ _), fun h => absurd h (has_none _ _), fun h => absurd h (has_none _ _), fun h => absurd h (has_none _ _), fun h => absurd h (has_none _ _), fun h => absurd h (has_none _ _), fun h => absurd h (has_none _ _)⟩
theorem XI.t0 (hx : XI W T u v x y cx cy l s5 s6 s13 s14 s15 s16 w') : XI W T u v x y cx cy (l.setIfInBounds 0 true) s5 s6 u s14 s15 s16 w' :=
  have e : ∀ j, j ≠ 0 → (has (l.setIfInBounds 0 true) j ↔ has l j) := fun j h => has_other (Ne.symm h)
  ⟨hx.bel, fun _ => rfl, fun h => hx.v14 ((e 1 (by decide)).1 h), fun h => hx.v15 ((e 2 (by decide)).1 h), fun h => hx.v16 ((e 3 (by decide)).1 h), fun h => (e 4 (by decide)).2 (hx.o6 ((e 6 (by decide)).1 h)), fun h => (e 5 (by decide)).2 (hx.o7 ((e 7 (by decide)).1 h)), fun h => (hx.b5 ((e 4 (by decide)).1 h)).below (Below.refl _ _) (e 6 (by decide)).1, fun h => (hx.b6 ((e 5 (by decide)).1 h)).below (Below.refl _ _) (e 7 (by decide)).1, fun h k => hx.ne ((e 4 (by decide)).1 h) ((e 5 (by decide)).1 k)⟩
theorem XI.t2 (hx : XI W T u v x y cx cy l s5 s6 s13 s14 s15 s16 w') : XI W T u v x y cx cy (l.setIfInBounds 2 true) s5 s6 s13 s14 v s16 w' :=
  have e : ∀ j, j ≠ 2 → (has (l.setIfInBounds 2 true) j ↔ has l j) := fun j h => has_other (Ne.symm h)
  ⟨hx.bel, fun h => hx.v13 ((e 0 (by decide)).1 h), fun h => hx.v14 ((e 1 (by decide)).1 h), fun _ => rfl, fun h => hx.v16 ((e 3 (by decide)).1 h), fun h => (e 4 (by decide)).2 (hx.o6 ((e 6 (by decide)).1 h)), fun h => (e 5 (by decide)).2 (hx.o7 ((e 7 (by decide)).1 h)), fun h => (hx.b5 ((e 4 (by decide)).1 h)).below (Below.refl _ _) (e 6 (by decide)).1, fun h => (hx.b6 ((e 5 (by decide)).1 h)).below (Below.refl _ _) (e 7 (by decide)).1, fun h k => hx.ne ((e 4 (by decide)).1 h) ((e 5 (by decide)).1 k)⟩
theorem XI.t1 (hx : XI W T u v x y cx cy l s5 s6 s13 s14 s15 s16 w') (k : Below w'.heap.size w' w2) : XI W T u v x y cx cy (l.setIfInBounds 1 true) s5 s6 s13 x s15 s16 w2 :=
  have e : ∀ j, j ≠ 1 → (has (l.setIfInBounds 1 true) j ↔ has l j) := fun j h => has_other (Ne.symm h)
  ⟨belowCont hx.bel k, fun h => hx.v13 ((e 0 (by decide)).1 h), fun _ => rfl, fun h => hx.v15 ((e 2 (by decide)).1 h), fun h => hx.v16 ((e 3 (by decide)).1 h), fun h => (e 4 (by decide)).2 (hx.o6 ((e 6 (by decide)).1 h)), fun h => (e 5 (by decide)).2 (hx.o7 ((e 7 (by decide)).1 h)), fun h => (hx.b5 ((e 4 (by decide)).1 h)).below k (e 6 (by decide)).1, fun h => (hx.b6 ((e 5 (by decide)).1 h)).below k (e 7 (by decide)).1, fun h k => hx.ne ((e 4 (by decide)).1 h) ((e 5 (by decide)).1 k)⟩
theorem XI.t3 (hx : XI W T u v x y cx cy l s5 s6 s13 s14 s15 s16 w') (k : Below w'.heap.size w' w2) : XI W T u v x y cx cy (l.setIfInBounds 3 true) s5 s6 s13 s14 s15 y w2 :=
  have e : ∀ j, j ≠ 3 → (has (l.setIfInBounds 3 true) j ↔ has l j) := fun j h => has_other (Ne.symm h)
  ⟨belowCont hx.bel k, fun h => hx.v13 ((e 0 (by decide)).1 h), fun h => hx.v14 ((e 1 (by decide)).1 h), fun h => hx.v15 ((e 2 (by decide)).1 h), fun _ => rfl, fun h => (e 4 (by decide)).2 (hx.o6 ((e 6 (by decide)).1 h)), fun h => (e 5 (by decide)).2 (hx.o7 ((e 7 (by decide)).1 h)), fun h => (hx.b5 ((e 4 (by decide)).1 h)).below k (e 6 (by decide)).1, fun h => (hx.b6 ((e 5 (by decide)).1 h)).below k (e 7 (by decide)).1, fun h k => hx.ne ((e 4 (by decide)).1 h) ((e 5 (by decide)).1 k)⟩
theorem XI.t4 (hx : XI W T u v x y cx cy l s5 s6 s13 s14 s15 s16 w') (hun : l.getD 4 true = false) (a b c : Value) : XI W T u v x y cx cy (l.setIfInBounds 4 true) (.pointer (some ⟨w'.heap.size, 0, none⟩)) s6 s13 s14 s15 s16 (w'.alloc (.cells #[a, b, c] T)) :=
  have e : ∀ j, j ≠ 4 → (has (l.setIfInBounds 4 true) j ↔ has l j) := fun j h => has_other (Ne.symm h)
  have k : Below w'.heap.size w' (w'.alloc (.cells #[a, b, c] T)) := (Below.refl _ _).alloc (Nat.le_refl _) _
  ⟨belowCont hx.bel k, fun h => hx.v13 ((e 0 (by decide)).1 h), fun h => hx.v14 ((e 1 (by decide)).1 h), fun h => hx.v15 ((e 2 (by decide)).1 h), fun h => hx.v16 ((e 3 (by decide)).1 h), fun h => has_self hun, fun h => (e 5 (by decide)).2 (hx.o7 ((e 7 (by decide)).1 h)), fun h => Bx.fresh hx.bel.size a b c (fun h => has_not hun (hx.o6 ((e 6 (by decide)).1 h))), fun h => (hx.b6 ((e 5 (by decide)).1 h)).below k (e 7 (by decide)).1, fun h k => Ne.symm (hx.b6 ((e 5 (by decide)).1 k)).lt⟩
theorem XI.t5 (hx : XI W T u v x y cx cy l s5 s6 s13 s14 s15 s16 w') (hun : l.getD 5 true = false) (a b c : Value) : XI W T u v x y cx cy (l.setIfInBounds 5 true) s5 (.pointer (some ⟨w'.heap.size, 0, none⟩)) s13 s14 s15 s16 (w'.alloc (.cells #[a, b, c] T)) :=
  have e : ∀ j, j ≠ 5 → (has (l.setIfInBounds 5 true) j ↔ has l j) := fun j h => has_other (Ne.symm h)
  have k : Below w'.heap.size w' (w'.alloc (.cells #[a, b, c] T)) := (Below.refl _ _).alloc (Nat.le_refl _) _
  ⟨belowCont hx.bel k, fun h => hx.v13 ((e 0 (by decide)).1 h), fun h => hx.v14 ((e 1 (by decide)).1 h), fun h => hx.v15 ((e 2 (by decide)).1 h), fun h => hx.v16 ((e 3 (by decide)).1 h), fun h => (e 4 (by decide)).2 (hx.o6 ((e 6 (by decide)).1 h)), fun h => has_self hun, fun h => (hx.b5 ((e 4 (by decide)).1 h)).below k (e 6 (by decide)).1, fun h => Bx.fresh hx.bel.size a b c (fun h => has_not hun (hx.o7 ((e 7 (by decide)).1 h))), fun h k => (hx.b5 ((e 4 (by decide)).1 h)).lt⟩
theorem XI.t6 {a b c : Value} (hx : XI W T u v x y #[a, b, c] cy l s5 s6 s13 s14 s15 s16 w') (hun : l.getD 6 true = false) (h4 : has l 4) {g : Nat} {p q r : Value} (hs : s5 = .pointer (some ⟨g, 0, none⟩)) (hg : W.heap.size ≤ g) (hh : w'.heap[g]? = some (.cells #[p, q, r] T (0, 0))) : XI W T u v x y #[a, b, c] cy (l.setIfInBounds 6 true) s5 s6 s13 s14 s15 s16 (((w'.setCell ⟨g, 0, none⟩ a).setCell ⟨g, 1, none⟩ b).setCell ⟨g, 2, none⟩ c) :=
  have e : ∀ j, j ≠ 6 → (has (l.setIfInBounds 6 true) j ↔ has l j) := fun j h => has_other (Ne.symm h)
  ⟨hx.bel.trans ((keeps3 g w' a b c).below hx.bel.size (by intro y hy; simp at hy; subst hy; exact hg)), fun h => hx.v13 ((e 0 (by decide)).1 h), fun h => hx.v14 ((e 1 (by decide)).1 h), fun h => hx.v15 ((e 2 (by decide)).1 h), fun h => hx.v16 ((e 3 (by decide)).1 h), fun h => (e 4 (by decide)).2 h4, fun h => (e 5 (by decide)).2 (hx.o7 ((e 7 (by decide)).1 h)), fun h => ⟨g, a, b, c, hs, hg, put3T hh a b c, fun _ => rfl⟩, fun h => (hx.b6 ((e 5 (by decide)).1 h)).other (by rw [← hs]; exact Ne.symm (hx.ne h4 ((e 5 (by decide)).1 h))) a b c (e 7 (by decide)).1, fun h k => hx.ne ((e 4 (by decide)).1 h) ((e 5 (by decide)).1 k)⟩
theorem XI.t7 {a b c : Value} (hx : XI W T u v x y cx #[a, b, c] l s5 s6 s13 s14 s15 s16 w') (hun : l.getD 7 true = false) (h5 : has l 5) {g : Nat} {p q r : Value} (hs : s6 = .pointer (some ⟨g, 0, none⟩)) (hg : W.heap.size ≤ g) (hh : w'.heap[g]? = some (.cells #[p, q, r] T (0, 0))) : XI W T u v x y cx #[a, b, c] (l.setIfInBounds 7 true) s5 s6 s13 s14 s15 s16 (((w'.setCell ⟨g, 0, none⟩ a).setCell ⟨g, 1, none⟩ b).setCell ⟨g, 2, none⟩ c) :=
  have e : ∀ j, j ≠ 7 → (has (l.setIfInBounds 7 true) j ↔ has l j) := fun j h => has_other (Ne.symm h)
  ⟨hx.bel.trans ((keeps3 g w' a b c).below hx.bel.size (by intro y hy; simp at hy; subst hy; exact hg)), fun h => hx.v13 ((e 0 (by decide)).1 h), fun h => hx.v14 ((e 1 (by decide)).1 h), fun h => hx.v15 ((e 2 (by decide)).1 h), fun h => hx.v16 ((e 3 (by decide)).1 h), fun h => (e 4 (by decide)).2 (hx.o6 ((e 6 (by decide)).1 h)), fun h => (e 5 (by decide)).2 h5, fun h => (hx.b5 ((e 4 (by decide)).1 h)).other (by rw [← hs]; exact hx.ne ((e 4 (by decide)).1 h) h5) a b c (e 6 (by decide)).1, fun h => ⟨g, a, b, c, hs, hg, put3T hh a b c, fun _ => rfl⟩, fun h k => hx.ne ((e 4 (by decide)).1 h) ((e 5 (by decide)).1 k)⟩
end
end Go.Proofs.YtdgpalileloekaaDoor
