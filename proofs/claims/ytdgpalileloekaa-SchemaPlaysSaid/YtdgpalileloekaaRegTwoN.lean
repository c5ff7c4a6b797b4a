/- Two structs of three cells, each a call's result, are laid in two boxes by one statement, over a numbering of the eight operations; the beginning of such a walk where others were taken first. No condition. -/
import Derived.Test.YtdgpalileloekaaRegTwo
namespace Go.Proofs.Ytdgpalileloekaa
open Go.RowKit
set_option linter.unusedVariables false
set_option maxRecDepth 100000

theorem wpAny_inv_at {P : Program} {ops : Array Oper} {Q : Exit → Act → World → Prop} {a : Act} {w : World} {l0 : Array Bool} {fuel : Nat} (Inv : Act → Array Bool → Act → World → Prop) (hr : rising ops = true) (hs : (l0.size == ops.size) = true) (hl : decide (left l0 ≤ fuel) = true)
    (hstart : Inv a l0 a w)
    (hstep : ∀ l a' w', Inv a l a' w' → ∀ i, l.getD i true = false → (∃ o, ops[i]? = some o ∧ ∀ e ∈ o.after, Region.binds .any e = true → has l e.on) → ∀ K : Act → World → Prop, (∀ a2 w2, Inv a (l.setIfInBounds i true) a2 w2 → K a2 w2) → wpOp P ops Q i K a' w')
    (hdone : ∀ l a' w', Inv a l a' w' → (∀ j, j < ops.size → has l j) → Q .normal a' w') : wpAny P .any ops Q fuel l0 a w :=
  wpAny_inv (fun l a' w' => l.size = ops.size ∧ Inv a l a' w')
    (fun l a' w' h i h1 h2 K hK => hstep l a' w' h.2 i h1 h2 K fun a2 w2 h3 => hK a2 w2 ⟨by simpa using h.1, h3⟩)
    (fun l a' w' h h0 => hdone l a' w' h.2 (all_has hr h.1 h0)) _ _ _ _ (of_decide_eq_true hl) ⟨by simpa using hs, hstart⟩
/-- a numbering -/
def ixOK (ix : Nat → Nat) : Prop := ∀ i, i < 8 → ∀ j, j < 8 → j ≠ i → ix i ≠ ix j
theorem ix_other {ix : Nat → Nat} (h : ixOK ix) (l : Array Bool) (i : Nat) (hi : i < 8) : ∀ j, j < 8 → j ≠ i → (has (l.setIfInBounds (ix i) true) (ix j) ↔ has l (ix j)) := fun j hj hne => has_other (h i hi j hj hne)
/-- what is known, whatever of the eight came up: load, call, load, call, alloc, alloc, store, store -/
structure XJ (W : World) (T : TypeId) (u v x y : Value) (cx cy : Array Value) (H : Nat → Prop) (s5 s6 s13 s14 s15 s16 : Value) (w' : World) : Prop where
  bel : Below W.heap.size W w'
  v13 : H 0 → s13 = u
  v14 : H 1 → s14 = x
  v15 : H 2 → s15 = v
  v16 : H 3 → s16 = y
  o6 : H 6 → H 4
  o7 : H 7 → H 5
  b5 : H 4 → Bx W T s5 (H 6) cx w'
  b6 : H 5 → Bx W T s6 (H 7) cy w'
  ne : H 4 → H 5 → s5 ≠ s6
section
variable {W : World} {T : TypeId} {u v x y : Value} {cx cy : Array Value} {H H' : Nat → Prop} {s5 s6 s13 s14 s15 s16 : Value} {w' w2 : World}
theorem XJ.start (n : ∀ j, j < 8 → ¬ H j) : XJ W T u v x y cx cy H s5 s6 s13 s14 s15 s16 W.drew :=
  ⟨(Below.refl _ _).drew, fun h => absurd h (n _ (by decide)), fun h => absurd h (n _ (by decide)), fun h => absurd h (n _ (by decide)), fun h => absurd h (n _ (by decide)), fun h => absurd h (n _ (by decide)), fun h => absurd h (n _ (by decide)), fun h => absurd h (n _ (by decide)), fun h => absurd h (n _ (by decide)), fun h => absurd h (n _ (by decide))⟩
theorem XJ.t0 (e : ∀ j, j < 8 → j ≠ 0 → (H' j ↔ H j)) (hx : XJ W T u v x y cx cy H s5 s6 s13 s14 s15 s16 w') : XJ W T u v x y cx cy H' s5 s6 u s14 s15 s16 w' :=
  ⟨hx.bel, fun _ => rfl, fun h => hx.v14 ((e 1 (by decide) (by decide)).1 h), fun h => hx.v15 ((e 2 (by decide) (by decide)).1 h), fun h => hx.v16 ((e 3 (by decide) (by decide)).1 h), fun h => (e 4 (by decide) (by decide)).2 (hx.o6 ((e 6 (by decide) (by decide)).1 h)), fun h => (e 5 (by decide) (by decide)).2 (hx.o7 ((e 7 (by decide) (by decide)).1 h)), fun h => (hx.b5 ((e 4 (by decide) (by decide)).1 h)).below (Below.refl _ _) (e 6 (by decide) (by decide)).1, fun h => (hx.b6 ((e 5 (by decide) (by decide)).1 h)).below (Below.refl _ _) (e 7 (by decide) (by decide)).1, fun h k => hx.ne ((e 4 (by decide) (by decide)).1 h) ((e 5 (by decide) (by decide)).1 k)⟩
theorem XJ.t2 (e : ∀ j, j < 8 → j ≠ 2 → (H' j ↔ H j)) (hx : XJ W T u v x y cx cy H s5 s6 s13 s14 s15 s16 w') : XJ W T u v x y cx cy H' s5 s6 s13 s14 v s16 w' :=
  ⟨hx.bel, fun h => hx.v13 ((e 0 (by decide) (by decide)).1 h), fun h => hx.v14 ((e 1 (by decide) (by decide)).1 h), fun _ => rfl, fun h => hx.v16 ((e 3 (by decide) (by decide)).1 h), fun h => (e 4 (by decide) (by decide)).2 (hx.o6 ((e 6 (by decide) (by decide)).1 h)), fun h => (e 5 (by decide) (by decide)).2 (hx.o7 ((e 7 (by decide) (by decide)).1 h)), fun h => (hx.b5 ((e 4 (by decide) (by decide)).1 h)).below (Below.refl _ _) (e 6 (by decide) (by decide)).1, fun h => (hx.b6 ((e 5 (by decide) (by decide)).1 h)).below (Below.refl _ _) (e 7 (by decide) (by decide)).1, fun h k => hx.ne ((e 4 (by decide) (by decide)).1 h) ((e 5 (by decide) (by decide)).1 k)⟩
theorem XJ.t1 (e : ∀ j, j < 8 → j ≠ 1 → (H' j ↔ H j)) (hx : XJ W T u v x y cx cy H s5 s6 s13 s14 s15 s16 w') (k : Below w'.heap.size w' w2) : XJ W T u v x y cx cy H' s5 s6 s13 x s15 s16 w2 :=
  ⟨belowCont hx.bel k, fun h => hx.v13 ((e 0 (by decide) (by decide)).1 h), fun _ => rfl, fun h => hx.v15 ((e 2 (by decide) (by decide)).1 h), fun h => hx.v16 ((e 3 (by decide) (by decide)).1 h), fun h => (e 4 (by decide) (by decide)).2 (hx.o6 ((e 6 (by decide) (by decide)).1 h)), fun h => (e 5 (by decide) (by decide)).2 (hx.o7 ((e 7 (by decide) (by decide)).1 h)), fun h => (hx.b5 ((e 4 (by decide) (by decide)).1 h)).below k (e 6 (by decide) (by decide)).1, fun h => (hx.b6 ((e 5 (by decide) (by decide)).1 h)).below k (e 7 (by decide) (by decide)).1, fun h k => hx.ne ((e 4 (by decide) (by decide)).1 h) ((e 5 (by decide) (by decide)).1 k)⟩
theorem XJ.t3 (e : ∀ j, j < 8 → j ≠ 3 → (H' j ↔ H j)) (hx : XJ W T u v x y cx cy H s5 s6 s13 s14 s15 s16 w') (k : Below w'.heap.size w' w2) : XJ W T u v x y cx cy H' s5 s6 s13 s14 s15 y w2 :=
  ⟨belowCont hx.bel k, fun h => hx.v13 ((e 0 (by decide) (by decide)).1 h), fun h => hx.v14 ((e 1 (by decide) (by decide)).1 h), fun h => hx.v15 ((e 2 (by decide) (by decide)).1 h), fun _ => rfl, fun h => (e 4 (by decide) (by decide)).2 (hx.o6 ((e 6 (by decide) (by decide)).1 h)), fun h => (e 5 (by decide) (by decide)).2 (hx.o7 ((e 7 (by decide) (by decide)).1 h)), fun h => (hx.b5 ((e 4 (by decide) (by decide)).1 h)).below k (e 6 (by decide) (by decide)).1, fun h => (hx.b6 ((e 5 (by decide) (by decide)).1 h)).below k (e 7 (by decide) (by decide)).1, fun h k => hx.ne ((e 4 (by decide) (by decide)).1 h) ((e 5 (by decide) (by decide)).1 k)⟩
theorem XJ.t4 (e : ∀ j, j < 8 → j ≠ 4 → (H' j ↔ H j)) (hx : XJ W T u v x y cx cy H s5 s6 s13 s14 s15 s16 w') (sf : H' 4) (hn : ¬ H 4) (a b c : Value) : XJ W T u v x y cx cy H' (.pointer (some ⟨w'.heap.size, 0, none⟩)) s6 s13 s14 s15 s16 (w'.alloc (.cells #[a, b, c] T)) :=
  have k : Below w'.heap.size w' (w'.alloc (.cells #[a, b, c] T)) := (Below.refl _ _).alloc (Nat.le_refl _) _
  ⟨belowCont hx.bel k, fun h => hx.v13 ((e 0 (by decide) (by decide)).1 h), fun h => hx.v14 ((e 1 (by decide) (by decide)).1 h), fun h => hx.v15 ((e 2 (by decide) (by decide)).1 h), fun h => hx.v16 ((e 3 (by decide) (by decide)).1 h), fun h => sf, fun h => (e 5 (by decide) (by decide)).2 (hx.o7 ((e 7 (by decide) (by decide)).1 h)), fun h => Bx.fresh hx.bel.size a b c (fun h => hn (hx.o6 ((e 6 (by decide) (by decide)).1 h))), fun h => (hx.b6 ((e 5 (by decide) (by decide)).1 h)).below k (e 7 (by decide) (by decide)).1, fun h k => Ne.symm (hx.b6 ((e 5 (by decide) (by decide)).1 k)).lt⟩
theorem XJ.t5 (e : ∀ j, j < 8 → j ≠ 5 → (H' j ↔ H j)) (hx : XJ W T u v x y cx cy H s5 s6 s13 s14 s15 s16 w') (sf : H' 5) (hn : ¬ H 5) (a b c : Value) : XJ W T u v x y cx cy H' s5 (.pointer (some ⟨w'.heap.size, 0, none⟩)) s13 s14 s15 s16 (w'.alloc (.cells #[a, b, c] T)) :=
  have k : Below w'.heap.size w' (w'.alloc (.cells #[a, b, c] T)) := (Below.refl _ _).alloc (Nat.le_refl _) _
  ⟨belowCont hx.bel k, fun h => hx.v13 ((e 0 (by decide) (by decide)).1 h), fun h => hx.v14 ((e 1 (by decide) (by decide)).1 h), fun h => hx.v15 ((e 2 (by decide) (by decide)).1 h), fun h => hx.v16 ((e 3 (by decide) (by decide)).1 h), fun h => (e 4 (by decide) (by decide)).2 (hx.o6 ((e 6 (by decide) (by decide)).1 h)), fun h => sf, fun h => (hx.b5 ((e 4 (by decide) (by decide)).1 h)).below k (e 6 (by decide) (by decide)).1, fun h => Bx.fresh hx.bel.size a b c (fun h => hn (hx.o7 ((e 7 (by decide) (by decide)).1 h))), fun h k => (hx.b5 ((e 4 (by decide) (by decide)).1 h)).lt⟩
theorem XJ.t6 {a b c : Value} (e : ∀ j, j < 8 → j ≠ 6 → (H' j ↔ H j)) (hx : XJ W T u v x y #[a, b, c] cy H s5 s6 s13 s14 s15 s16 w') (sf : H' 6) (hn : ¬ H 6) (h4 : H 4) {g : Nat} {p q r : Value} (hs : s5 = .pointer (some ⟨g, 0, none⟩)) (hg : W.heap.size ≤ g) (hh : w'.heap[g]? = some (.cells #[p, q, r] T (0, 0))) : XJ W T u v x y #[a, b, c] cy H' s5 s6 s13 s14 s15 s16 (((w'.setCell ⟨g, 0, none⟩ a).setCell ⟨g, 1, none⟩ b).setCell ⟨g, 2, none⟩ c) :=
  ⟨hx.bel.trans ((keeps3 g w' a b c).below hx.bel.size (by intro y hy; simp at hy; subst hy; exact hg)), fun h => hx.v13 ((e 0 (by decide) (by decide)).1 h), fun h => hx.v14 ((e 1 (by decide) (by decide)).1 h), fun h => hx.v15 ((e 2 (by decide) (by decide)).1 h), fun h => hx.v16 ((e 3 (by decide) (by decide)).1 h), fun h => (e 4 (by decide) (by decide)).2 h4, fun h => (e 5 (by decide) (by decide)).2 (hx.o7 ((e 7 (by decide) (by decide)).1 h)), fun h => ⟨g, a, b, c, hs, hg, put3T hh a b c, fun _ => rfl⟩, fun h => (hx.b6 ((e 5 (by decide) (by decide)).1 h)).other (by rw [← hs]; exact Ne.symm (hx.ne h4 ((e 5 (by decide) (by decide)).1 h))) a b c (e 7 (by decide) (by decide)).1, fun h k => hx.ne ((e 4 (by decide) (by decide)).1 h) ((e 5 (by decide) (by decide)).1 k)⟩
theorem XJ.t7 {a b c : Value} (e : ∀ j, j < 8 → j ≠ 7 → (H' j ↔ H j)) (hx : XJ W T u v x y cx #[a, b, c] H s5 s6 s13 s14 s15 s16 w') (sf : H' 7) (hn : ¬ H 7) (h5 : H 5) {g : Nat} {p q r : Value} (hs : s6 = .pointer (some ⟨g, 0, none⟩)) (hg : W.heap.size ≤ g) (hh : w'.heap[g]? = some (.cells #[p, q, r] T (0, 0))) : XJ W T u v x y cx #[a, b, c] H' s5 s6 s13 s14 s15 s16 (((w'.setCell ⟨g, 0, none⟩ a).setCell ⟨g, 1, none⟩ b).setCell ⟨g, 2, none⟩ c) :=
  ⟨hx.bel.trans ((keeps3 g w' a b c).below hx.bel.size (by intro y hy; simp at hy; subst hy; exact hg)), fun h => hx.v13 ((e 0 (by decide) (by decide)).1 h), fun h => hx.v14 ((e 1 (by decide) (by decide)).1 h), fun h => hx.v15 ((e 2 (by decide) (by decide)).1 h), fun h => hx.v16 ((e 3 (by decide) (by decide)).1 h), fun h => (e 4 (by decide) (by decide)).2 (hx.o6 ((e 6 (by decide) (by decide)).1 h)), fun h => (e 5 (by decide) (by decide)).2 h5, fun h => (hx.b5 ((e 4 (by decide) (by decide)).1 h)).other (by rw [← hs]; exact hx.ne ((e 4 (by decide) (by decide)).1 h) h5) a b c (e 6 (by decide) (by decide)).1, fun h => ⟨g, a, b, c, hs, hg, put3T hh a b c, fun _ => rfl⟩, fun h k => hx.ne ((e 4 (by decide) (by decide)).1 h) ((e 5 (by decide) (by decide)).1 k)⟩
end
end Go.Proofs.Ytdgpalileloekaa
