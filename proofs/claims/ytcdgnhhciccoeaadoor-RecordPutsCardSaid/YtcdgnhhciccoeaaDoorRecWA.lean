/- A region that draws its order, by one invariant over what has come up: each operation is walked once, not each order. No condition. Two structs of three cells, each a call's result, are laid in two boxes by one statement: what is known whatever came up. No condition. The first statement of the law RecordWith, by one invariant: a thing with its rows and a value are each a call's result, and are laid in two boxes. No condition. The law RecordWith, given its awake. Condition: awake answers true. The law RecordWith: its arguments are laid open. Condition: awake answers true. -/
import Derived.Test.YtcdgnhhciccoeaaDoorBase
import Derived.Test.YtcdgnhhciccoeaaDoorBox
import Derived.Test.YtcdgnhhciccoeaaDoorRecW7
import Derived.Laws.StructEq
import Derived.Deep.Cut
import Derived.Test.YtcdgnhhciccoeaaDoorArgs2
import Derived.WalkKit
import Derived.ProofKit
import Derived.OpenShut
import Derived.ChangeOld
import Derived.Below
import Derived.Lib.SmallJoins
import Derived.Deep.Slices
section
namespace Go.Proofs.YtcdgnhhciccoeaaDoor
open Go.RowKit
set_option linter.unusedVariables false
set_option maxRecDepth 100000

section
variable {P : Program} {ops : Array Oper} {Q : Exit → Act → World → Prop} {md : Region.Mode}
/-- how many have not come up -/
def left (listed : Array Bool) : Nat := listed.toList.countP (fun b => !b)
theorem left_set (listed : Array Bool) (i : Nat) (h : listed.getD i true = false) : left (listed.setIfInBounds i true) + 1 = left listed := by
  have hi : i < listed.size := by
    rcases Nat.lt_or_ge i listed.size with h' | h'
    · exact h'
    · exfalso
      simp [Array.getD, Nat.not_lt.mpr h'] at h
  have hv : listed.toList[i]'(by simpa using hi) = false := by
    simp [Array.getD, hi] at h
    simpa using h
  unfold left
  have e : (listed.setIfInBounds i true).toList = listed.toList.set i true := by simp
  rw [e]
  have hd : listed.toList = listed.toList.take i ++ false :: listed.toList.drop (i + 1) := by
    rw [← hv, List.getElem_cons_drop, List.take_append_drop]
  have hs : listed.toList.set i true = listed.toList.take i ++ true :: listed.toList.drop (i + 1) := by
    rw [List.set_eq_take_append_cons_drop, if_pos (by simpa using hi)]
  rw [hs]
  conv => rhs; rw [hd]
  simp [List.countP_append, List.countP_cons]
  omega
theorem ready_none (listed : Array Bool) (h : left listed = 0) : Region.ready md ops listed = [] := by
  cases hr : Region.ready md ops listed with
  | nil => rfl
  | cons x xs =>
    have hx : x ∈ Region.ready md ops listed := by rw [hr]; simp
    have := left_set listed x (mem_ready.1 hx).1
    omega
theorem wpAny_inv (Inv : Array Bool → Act → World → Prop)
    (hstep : ∀ listed a w, Inv listed a w → ∀ i, listed.getD i true = false → (∃ o, ops[i]? = some o ∧ ∀ e ∈ o.after, Region.binds md e = true → listed.getD e.on false = true) → ∀ K : Act → World → Prop, (∀ a' w', Inv (listed.setIfInBounds i true) a' w' → K a' w') → wpOp P ops Q i K a w)
    (hdone : ∀ listed a w, Inv listed a w → Region.ready md ops listed = [] → Q .normal a w) :
    ∀ (fuel : Nat) (listed : Array Bool) (a : Act) (w : World), left listed ≤ fuel → Inv listed a w → wpAny P md ops Q fuel listed a w
  | 0, listed, a, w, hf, h => ⟨ready_none listed (by omega), hdone listed a w h (ready_none listed (by omega))⟩
  | fuel + 1, listed, a, w, hf, h => ⟨fun hr => hdone listed a w h hr, fun i hi => by
    obtain ⟨h1, h2⟩ := mem_ready.1 hi
    have hl := left_set listed i h1
    exact hstep listed a w h i h1 h2 _ (fun a' w' h' => wpAny_inv Inv hstep hdone fuel _ a' w' (by omega) h')⟩
theorem left_none (n : Nat) : left (Array.replicate n false) ≤ n := by
  unfold left
  have := List.countP_le_length (p := fun b : Bool => !b) (l := (Array.replicate n false).toList)
  simpa using this
/-- operation j has come up -/
def has (l : Array Bool) (j : Nat) : Prop := l.getD j false = true
theorem has_self {l : Array Bool} {i : Nat} (h : l.getD i true = false) : has (l.setIfInBounds i true) i := by
  have hi : i < l.size := by
    rcases Nat.lt_or_ge i l.size with h' | h'
    · exact h'
    · exfalso; simp [Array.getD, Nat.not_lt.mpr h'] at h
  simp [has, hi]
theorem has_other {l : Array Bool} {i j : Nat} (h : i ≠ j) : has (l.setIfInBounds i true) j ↔ has l j := by
  unfold has; rw [getD_set_ne false h]
theorem has_none (n j : Nat) : ¬ has (Array.replicate n false) j := by
  unfold has
  by_cases h : j < n <;> simp [Array.getD, h]
/-- each operation waits for earlier ones alone -/
def rising (ops : Array Oper) : Bool := (List.range ops.size).all fun j => match ops[j]? with | some o => o.after.all (fun e => decide (e.on < j)) | none => true
theorem all_has (hr : rising ops = true) {l : Array Bool} (hl : l.size = ops.size) (h : Region.ready md ops l = []) : ∀ j, j < ops.size → has l j := by
  intro j
  induction j using Nat.strongRecOn with
  | ind j ih =>
    intro hj
    apply Classical.byContradiction
    intro hn
    have hf : l.getD j true = false := by
      unfold has at hn
      simp [Array.getD, hl, hj] at hn ⊢
      exact hn
    have : j ∈ Region.ready md ops l := mem_ready.2 ⟨hf, ops[j], Array.getElem?_eq_getElem hj, fun e he hb => by
      have h1 := List.all_eq_true.1 hr j (List.mem_range.2 hj)
      rw [Array.getElem?_eq_getElem hj] at h1
      have h2 : e.on < j := of_decide_eq_true (Array.all_eq_true_iff_forall_mem.1 h1 e he)
      exact ih e.on h2 (by omega)⟩
    rw [h] at this
    cases this
theorem wpOp_of {i : Nat} {o : Oper} {K : Act → World → Prop} {a : Act} {w : World} (ho : ops[i]? = some o) (hg : o.guard = none) (h : o.wp P a w K Q) : wpOp P ops Q i K a w := by
  unfold wpOp
  simp only [ho, Region.wanted, hg, if_true]
  exact Or.inl h
/-- the beginning: Inv knows the frame in which the region began -/
theorem wp_region_inv {id : Nat} {a : Act} {w : World} (Inv : Act → Array Bool → Act → World → Prop) (hm : P.follows .mixedOrders = true) (hr : rising ops = true)
    (hstart : Inv a (Array.replicate ops.size false) a w.drew)
    (hstep : ∀ l a' w', Inv a l a' w' → ∀ i, l.getD i true = false → (∃ o, ops[i]? = some o ∧ ∀ e ∈ o.after, Region.binds .any e = true → has l e.on) → ∀ K : Act → World → Prop, (∀ a2 w2, Inv a (l.setIfInBounds i true) a2 w2 → K a2 w2) → wpOp P ops Q i K a' w')
    (hdone : ∀ l a' w', Inv a l a' w' → (∀ j, j < ops.size → has l j) → Q .normal a' w') : (Code.region id ops true).wp P Q a w :=
  wp_region_any hm (wpAny_inv (fun l a' w' => l.size = ops.size ∧ Inv a l a' w')
    (fun l a' w' h i h1 h2 K hK => hstep l a' w' h.2 i h1 h2 K fun a2 w2 h3 => hK a2 w2 ⟨by simpa using h.1, h3⟩)
    (fun l a' w' h h0 => hdone l a' w' h.2 (all_has hr h.1 h0)) _ _ _ _ (left_none _) ⟨by simp, hstart⟩)
end
end Go.Proofs.YtcdgnhhciccoeaaDoor
end
section
namespace Go.Proofs.YtcdgnhhciccoeaaDoor
open Go.RowKit
set_option linter.unusedVariables false
set_option maxRecDepth 100000

theorem has_not {l : Array Bool} {i : Nat} (h : l.getD i true = false) : ¬ has l i := by
  intro h2
  have hi : i < l.size := by
    rcases Nat.lt_or_ge i l.size with h' | h'
    · exact h'
    · exfalso; simp [Array.getD, Nat.not_lt.mpr h'] at h
  unfold has at h2
  simp [hi] at h h2
  rw [h] at h2; cases h2
/-- a box of three cells; full: what it holds -/
def Bx (W : World) (T : TypeId) (s : Value) (F : Prop) (cx : Array Value) (w' : World) : Prop :=
  ∃ g : Nat, ∃ x y z : Value, s = .pointer (some ⟨g, 0, none⟩) ∧ W.heap.size ≤ g ∧ w'.heap[g]? = some (.cells #[x, y, z] T (0, 0)) ∧ (F → #[x, y, z] = cx)
theorem Bx.below {W w' w2 : World} {T : TypeId} {s : Value} {F F' : Prop} {cx : Array Value} (h : Bx W T s F cx w') (k : Below w'.heap.size w' w2) (hF : F' → F) : Bx W T s F' cx w2 := by
  obtain ⟨g, x, y, z, h1, h2, h3, h4⟩ := h
  exact ⟨g, x, y, z, h1, h2, (k.block _ (block_lt h3)).trans h3, fun h => h4 (hF h)⟩
theorem Bx.fresh {W w' : World} {T : TypeId} {F : Prop} {cx : Array Value} (hb : W.heap.size ≤ w'.heap.size) (x y z : Value) (hF : ¬ F) : Bx W T (.pointer (some ⟨w'.heap.size, 0, none⟩)) F cx (w'.alloc (.cells #[x, y, z] T)) :=
  ⟨_, x, y, z, rfl, hb, heap_alloc_new _ _, fun h => absurd h hF⟩
theorem put3T {T : TypeId} {W : World} {g : Nat} {x y z : Value} (h : W.heap[g]? = some (.cells #[x, y, z] T (0, 0))) (a b c : Value) : (((W.setCell ⟨g, 0, none⟩ a).setCell ⟨g, 1, none⟩ b).setCell ⟨g, 2, none⟩ c).heap[g]? = some (.cells #[a, b, c] T (0, 0)) := by
  simp [World.setCell, Array.getElem?_modify, h]
theorem keeps3 (g : Nat) (V : World) (a b c : Value) : Keeps [g] V (((V.setCell ⟨g, 0, none⟩ a).setCell ⟨g, 1, none⟩ b).setCell ⟨g, 2, none⟩ c) :=
  (((Keeps.refl [g] V).setCell (p := ⟨g, 0, none⟩) (Or.inl (by simp)) _).setCell (p := ⟨g, 1, none⟩) (Or.inl (by simp)) _).setCell (p := ⟨g, 2, none⟩) (Or.inl (by simp)) _
theorem Bx.other {W w' : World} {T : TypeId} {s : Value} {F F' : Prop} {cx : Array Value} (h : Bx W T s F cx w') {g : Nat} (hne : s ≠ .pointer (some ⟨g, 0, none⟩)) (a b c : Value) (hF : F' → F) : Bx W T s F' cx (((w'.setCell ⟨g, 0, none⟩ a).setCell ⟨g, 1, none⟩ b).setCell ⟨g, 2, none⟩ c) := by
  obtain ⟨g', x, y, z, h1, h2, h3, h4⟩ := h
  exact ⟨g', x, y, z, h1, h2, ((keeps3 g w' a b c).block _ (block_lt h3) (by intro hm; simp at hm; subst hm; exact hne h1)).trans h3, fun h => h4 (hF h)⟩
theorem Bx.lt {W w' : World} {T : TypeId} {s : Value} {F : Prop} {cx : Array Value} (h : Bx W T s F cx w') : s ≠ .pointer (some ⟨w'.heap.size, 0, none⟩) := by
  obtain ⟨g', x, y, z, h1, h2, h3, h4⟩ := h
  intro e
  rw [h1] at e
  injection e with e; injection e with e; injection e with e
  have := block_lt h3; omega
theorem row3T {T : TypeId} {W : World} {b : Nat} {x y z : Value} (h : W.heap[b]? = some (.cells #[x, y, z] T (0, 0))) : W.cell? ⟨b, 0, none⟩ = some x ∧ W.cell? ⟨b, 1, none⟩ = some y ∧ W.cell? ⟨b, 2, none⟩ = some z ∧ W.frozen? ⟨b, 0, none⟩ = false ∧ W.frozen? ⟨b, 1, none⟩ = false ∧ W.frozen? ⟨b, 2, none⟩ = false :=
  ⟨cell_of_row _ _ 0 _ _ _ h, cell_of_row _ _ 1 _ _ _ h, cell_of_row _ _ 2 _ _ _ h, by simp [World.frozen?, h], by simp [World.frozen?, h], by simp [World.frozen?, h]⟩
/-- what is known, whatever of the eight came up: load, call, load, call, alloc, alloc, store, store -/
structure XI (W : World) (T : TypeId) (u v x y : Value) (cx cy : Array Value) (l : Array Bool) (s5 s6 s13 s14 s15 s16 : Value) (w' : World) : Prop where
  bel : Below W.heap.size W w'
  v13 : has l 0 → s13 = u
  v14 : has l 1 → s14 = x
  v15 : has l 2 → s15 = v
  v16 : has l 3 → s16 = y
  o6 : has l 6 → has l 4
  o7 : has l 7 → has l 5
  b5 : has l 4 → Bx W T s5 (has l 6) cx w'
  b6 : has l 5 → Bx W T s6 (has l 7) cy w'
  ne : has l 4 → has l 5 → s5 ≠ s6
section
variable {W : World} {T : TypeId} {u v x y : Value} {cx cy : Array Value} {l : Array Bool} {s5 s6 s13 s14 s15 s16 : Value} {w' w2 : World}
theorem XI.start : XI W T u v x y cx cy (Array.replicate 8 false) s5 s6 s13 s14 s15 s16 W.drew :=
  ⟨(Below.refl _ _).drew, fun h => absurd h (has_none _ _), fun h => absurd h (has_none _ _), fun h => absurd h (has_none _ _), fun h => absurd h (has_none _ _), fun h => absurd h (has_none _ _), fun h => absurd h (has_none _ _), fun h => absurd h (has_none _ _), fun h => absurd h (has_none _ _), fun h => absurd h (has_none _ _)⟩
theorem XI.t0 (hx : XI W T u v x y cx cy l s5 s6 s13 s14 s15 s16 w') : XI W T u v x y cx cy (l.setIfInBounds 0 true) s5 s6 u s14 s15 s16 w' :=
  have e : ∀ j, j ≠ 0 → (has (l.setIfInBounds 0 true) j ↔ has l j) := fun j h => has_other (Ne.symm h)
  ⟨hx.bel, fun _ => rfl, fun h => hx.v14 ((e 1 (by decide)).1 h), fun h => hx.v15 ((e 2 (by decide)).1 h), fun h => hx.v16 ((e 3 (by decide)).1 h), fun h => (e 4 (by decide)).2 (hx.o6 ((e 6 (by decide)).1 h)), fun h => (e 5 (by decide)).2 (hx.o7 ((e 7 (by decide)).1 h)), fun h => (hx.b5 ((e 4 (by decide)).1 h)).below (Below.refl _ _) (e 6 (by decide)).1, fun h => (hx.b6 ((e 5 (by decide)).1 h)).below (Below.refl _ _) (e 7 (by decide)).1, fun h k => hx.ne ((e 4 (by decide)).1 h) ((e 5 (by decide)).1 k)⟩
theorem XI.t2 (hx : XI W T u v x y cx cy l s5 s6 s13 s14 s15 s16 w') : XI W T u v x y cx cy (l.setIfInBounds 2 true) s5 s6 s13 s14 v s16 w' :=
  have e : ∀ j, j ≠ 2 → (has (l.setIfInBounds 2 true) j ↔ has l j) := fun j h => has_other (Ne.symm h)
  ⟨hx.bel, fun h => hx.v13 ((e 0 (by decide)).1 h), fun h => hx.v14 ((e 1 (by decide)).1 h), fun _ => rfl, fun h => hx.v16 ((e 3 (by decide)).1 h), fun h => (e 4 (by decide)).2 (hx.o6 ((e 6 (by decide)).1 h)), fun h => (e 5 (by decide)).2 (hx.o7 ((e 7 (by decide)).1 h)), fun h => (hx.b5 ((e 4 (by decide)).1 h)).below (Below.refl _ _) (e 6 (by decide)).1, fun h => (hx.b6 ((e 5 (by decide)).1 h)).below (Below.refl _ _) (e 7 (by decide)).1, fun h k => hx.ne ((e 4 (by decide)).1 h) ((e 5 (by decide)).1 k)⟩
theorem XI.t1 (hx : XI W T u v x y cx cy l s5 s6 s13 s14 s15 s16 w') (k : Below w'.heap.size w' w2) : XI W T u v x y cx cy (l.setIfInBounds 1 true) s5 s6 s13 x s15 s16 w2 :=
  have e : ∀ j, j ≠ 1 → (has (l.setIfInBounds 1 true) j ↔ has l j) := fun j h => has_other (Ne.symm h)
  ⟨belowCont hx.bel k, fun h => hx.v13 ((e 0 (by decide)).1 h), fun _ => rfl, fun h => hx.v15 ((e 2 (by decide)).1 h), fun h => hx.v16 ((e 3 (by decide)).1 h), fun h => (e 4 (by decide)).2 (hx.o6 ((e 6 (by decide)).1 h)), fun h => (e 5 (by decide)).2 (hx.o7 ((e 7 (by decide)).1 h)), fun h => (hx.b5 ((e 4 (by decide)).1 h)).below k (e 6 (by decide)).1, fun h => (hx.b6 ((e 5 (by decide)).1 h)).below k (e 7 (by decide)).1, fun h k => hx.ne ((e 4 (by decide)).1 h) ((e 5 (by decide)).1 k)⟩
theorem XI.t3 (hx : XI W T u v x y cx cy l s5 s6 s13 s14 s15 s16 w') (k : Below w'.heap.size w' w2) : XI W T u v x y cx cy (l.setIfInBounds 3 true) s5 s6 s13 s14 s15 y w2 :=
  have e : ∀ j, j ≠ 3 → (has (l.setIfInBounds 3 true) j ↔ has l j) := fun j h => has_other (Ne.symm h)
  ⟨belowCont hx.bel k, fun h => hx.v13 ((e 0 (by decide)).1 h), fun h => hx.v14 ((e 1 (by decide)).1 h), fun h => hx.v15 ((e 2 (by decide)).1 h), fun _ => rfl, fun h => (e 4 (by decide)).2 (hx.o6 ((e 6 (by decide)).1 h)), fun h => (e 5 (by decide)).2 (hx.o7 ((e 7 (by decide)).1 h)), fun h => (hx.b5 ((e 4 (by decide)).1 h)).below k (e 6 (by decide)).1, fun h => (hx.b6 ((e 5 (by decide)).1 h)).below k (e 7 (by decide)).1, fun h k => hx.ne ((e 4 (by decide)).1 h) ((e 5 (by decide)).1 k)⟩
theorem XI.t4 (hx : XI W T u v x y cx cy l s5 s6 s13 s14 s15 s16 w') (hun : l.getD 4 true = false) (a b c : Value) : XI W T u v x y cx cy (l.setIfInBounds 4 true) (.pointer (some ⟨w'.heap.size, 0, none⟩)) s6 s13 s14 s15 s16 (w'.alloc (.cells #[a, b, c] T)) :=
  have e : ∀ j, j ≠ 4 → (has (l.setIfInBounds 4 true) j ↔ has l j) := fun j h => has_other (Ne.symm h)
  have k : Below w'.heap.size w' (w'.alloc (.cells #[a, b, c] T)) := (Below.refl _ _).alloc (Nat.le_refl _) _
  ⟨belowCont hx.bel k, fun h => hx.v13 ((e 0 (by decide)).1 h), fun h => hx.v14 ((e 1 (by decide)).1 h), fun h => hx.v15 ((e 2 (by decide)).1 h), fun h => hx.v16 ((e 3 (by decide)).1 h), fun h => has_self hun, fun h => (e 5 (by decide)).2 (hx.o7 ((e 7 (by decide)).1 h)), fun h => Bx.fresh hx.bel.size a b c (fun h => has_not hun (hx.o6 ((e 6 (by decide)).1 h))), fun h => (hx.b6 ((e 5 (by decide)).1 h)).below k (e 7 (by decide)).1, fun h k => Ne.symm (hx.b6 ((e 5 (by decide)).1 k)).lt⟩
theorem XI.t5 (hx : XI W T u v x y cx cy l s5 s6 s13 s14 s15 s16 w') (hun : l.getD 5 true = false) (a b c : Value) : XI W T u v x y cx cy (l.setIfInBounds 5 true) s5 (.pointer (some ⟨w'.heap.size, 0, none⟩)) s13 s14 s15 s16 (w'.alloc (.cells #[a, b, c] T)) :=
  have e : ∀ j, j ≠ 5 → (has (l.setIfInBounds 5 true) j ↔ has l j) := fun j h => has_other (Ne.symm h)
  have k : Below w'.heap.size w' (w'.alloc (.cells #[a, b, c] T)) := (Below.refl _ _).alloc (Nat.le_refl _) _
  ⟨belowCont hx.bel k, fun h => hx.v13 ((e 0 (by decide)).1 h), fun h => hx.v14 ((e 1 (by decide)).1 h), fun h => hx.v15 ((e 2 (by decide)).1 h), fun h => hx.v16 ((e 3 (by decide)).1 h), fun h => (e 4 (by decide)).2 (hx.o6 ((e 6 (by decide)).1 h)), fun h => has_self hun, fun h => (hx.b5 ((e 4 (by decide)).1 h)).below k (e 6 (by decide)).1, fun h => Bx.fresh hx.bel.size a b c (fun h => has_not hun (hx.o7 ((e 7 (by decide)).1 h))), fun h k => (hx.b5 ((e 4 (by decide)).1 h)).lt⟩
theorem XI.t6 {a b c : Value} (hx : XI W T u v x y #[a, b, c] cy l s5 s6 s13 s14 s15 s16 w') (hun : l.getD 6 true = false) (h4 : has l 4) {g : Nat} {p q r : Value} (hs : s5 = .pointer (some ⟨g, 0, none⟩)) (hg : W.heap.size ≤ g) (hh : w'.heap[g]? = some (.cells #[p, q, r] T (0, 0))) : XI W T u v x y #[a, b, c] cy (l.setIfInBounds 6 true) s5 s6 s13 s14 s15 s16 (((w'.setCell ⟨g, 0, none⟩ a).setCell ⟨g, 1, none⟩ b).setCell ⟨g, 2, none⟩ c) :=
  have e : ∀ j, j ≠ 6 → (has (l.setIfInBounds 6 true) j ↔ has l j) := fun j h => has_other (Ne.symm h)
  ⟨hx.bel.trans ((keeps3 g w' a b c).below hx.bel.size (by intro y hy; simp at hy; subst hy; exact hg)), fun h => hx.v13 ((e 0 (by decide)).1 h), fun h => hx.v14 ((e 1 (by decide)).1 h), fun h => hx.v15 ((e 2 (by decide)).1 h), fun h => hx.v16 ((e 3 (by decide)).1 h), fun h => (e 4 (by decide)).2 h4, fun h => (e 5 (by decide)).2 (hx.o7 ((e 7 (by decide)).1 h)), fun h => ⟨g, a, b, c, hs, hg, put3T hh a b c, fun _ => rfl⟩, fun h => (hx.b6 ((e 5 (by decide)).1 h)).other (by rw [← hs]; exact Ne.symm (hx.ne h4 ((e 5 (by decide)).1 h))) a b c (e 7 (by decide)).1, fun h k => hx.ne ((e 4 (by decide)).1 h) ((e 5 (by decide)).1 k)⟩
theorem XI.t7 {a b c : Value} (hx : XI W T u v x y cx #[a, b, c] l s5 s6 s13 s14 s15 s16 w') (hun : l.getD 7 true = false) (h5 : has l 5) {g : Nat} {p q r : Value} (hs : s6 = .pointer (some ⟨g, 0, none⟩)) (hg : W.heap.size ≤ g) (hh : w'.heap[g]? = some (.cells #[p, q, r] T (0, 0))) : XI W T u v x y cx #[a, b, c] (l.setIfInBounds 7 true) s5 s6 s13 s14 s15 s16 (((w'.setCell ⟨g, 0, none⟩ a).setCell ⟨g, 1, none⟩ b).setCell ⟨g, 2, none⟩ c) :=
  have e : ∀ j, j ≠ 7 → (has (l.setIfInBounds 7 true) j ↔ has l j) := fun j h => has_other (Ne.symm h)
  ⟨hx.bel.trans ((keeps3 g w' a b c).below hx.bel.size (by intro y hy; simp at hy; subst hy; exact hg)), fun h => hx.v13 ((e 0 (by decide)).1 h), fun h => hx.v14 ((e 1 (by decide)).1 h), fun h => hx.v15 ((e 2 (by decide)).1 h), fun h => hx.v16 ((e 3 (by decide)).1 h), fun h => (e 4 (by decide)).2 (hx.o6 ((e 6 (by decide)).1 h)), fun h => (e 5 (by decide)).2 h5, fun h => (hx.b5 ((e 4 (by decide)).1 h)).other (by rw [← hs]; exact hx.ne ((e 4 (by decide)).1 h) h5) a b c (e 6 (by decide)).1, fun h => ⟨g, a, b, c, hs, hg, put3T hh a b c, fun _ => rfl⟩, fun h k => hx.ne ((e 4 (by decide)).1 h) ((e 5 (by decide)).1 k)⟩
end
end Go.Proofs.YtcdgnhhciccoeaaDoor
end
section
namespace Go.Proofs.YtcdgnhhciccoeaaDoor
theorem Hp.suffix {w W : World} {X : List Nat} {base : List Rs} : ∀ (A : List Rs), Hp w X (A ++ base) W → Hp w X base W
  | [], h => h
  | a :: A, h => Hp.suffix A (by have := h.drop 0; simpa using this)
end Go.Proofs.YtcdgnhhciccoeaaDoor
namespace Go.Proofs.YtcdgnhhciccoeaaDoor.recw
open Go.RowKit
set_option linter.unusedVariables false
set_option linter.unusedSimpArgs false
set_option maxRecDepth 100000

def rowsA (b : Bool) (la pr : Value) (L : List Int) (P : List Pr) : List Rs := if b then [.row 3 1 la L.length (inC L), .row 75 4 pr P.length (prC P)] else []
def thZ : Array Value := #[.bool false, .slice none 0 0, .int .i64 0, .int .u64 0, .int .u64 0, .slice none 0 0]
def boxT (b4 b6 : Bool) (g : Nat) (C : Array Value) : List Rs := if b4 then [.box g (if b6 then C else thZ) 26] else []
def boxV (b5 b7 : Bool) (g : Nat) (D : Array Value) : List Rs := if b5 then [.box g (if b7 then D else #[.int .i64 0, .int .i64 0, .string ⟨#[]⟩]) 50] else []
theorem perm_mid2 (A B base : List Rs) (x : Rs) : (x :: (A ++ (B ++ base))).Perm (A ++ (B ++ x :: base)) := by
  have := (List.perm_middle (a := x) (l₁ := A ++ B) (l₂ := base)).symm
  simpa [List.append_assoc] using this
structure I1 (w : World) (base : List Rs) (u v y : Value) (ed : Bool) (D : Array Value) (l : Array Bool) (s7 s8 s14 s15 s16 s17 : Value) (W : World) (la pr : Value) (L : List Int) (P : List Pr) (ty fm tw : Int) (g7 g8 : Nat) (b1 b4 b5 b6 b7 : Bool) : Prop where
  v14 : has l 0 → s14 = u
  v16 : has l 2 → s16 = v
  v17 : has l 3 → s17 = y
  h1 : has l 1 ↔ b1 = true
  h4 : has l 4 ↔ b4 = true
  h5 : has l 5 ↔ b5 = true
  h6 : has l 6 ↔ b6 = true
  h7 : has l 7 ↔ b7 = true
  o6 : b6 = true → b1 = true ∧ b4 = true
  o7 : b7 = true → b5 = true
  s1 : b1 = true → s15 = thV ed la ty fm tw pr ∧ L.length ≤ 10 ∧ P.length ≤ 18 ∧ Rise P
  s4 : b4 = true → s7 = .pointer (some ⟨g7, 0, none⟩)
  s5 : b5 = true → s8 = .pointer (some ⟨g8, 0, none⟩)
  hp : Hp w [] (rowsA b1 la pr L P ++ (boxT b4 b6 g7 #[.bool ed, la, .int .i64 ty, .int .u64 fm, .int .u64 tw, pr] ++ (boxV b5 b7 g8 D ++ base))) W
section
variable {w : World} {base : List Rs} {u v y : Value} {ed : Bool} {D : Array Value} {l : Array Bool} {s7 s8 s14 s15 s16 s17 : Value} {W W2 : World} {la pr : Value} {L : List Int} {P : List Pr} {ty fm tw : Int} {g7 g8 : Nat} {b1 b4 b5 b6 b7 : Bool}
theorem I1.base_ (h : I1 w base u v y ed D l s7 s8 s14 s15 s16 s17 W la pr L P ty fm tw g7 g8 b1 b4 b5 b6 b7) : Hp w [] base W := Hp.suffix _ (Hp.suffix _ (Hp.suffix _ h.hp))
theorem I1.start (h : Hp w [] base W) : I1 w base u v y ed D (Array.replicate 8 false) s7 s8 s14 s15 s16 s17 W (.slice none 0 0) (.slice none 0 0) [] [] 0 0 0 0 0 false false false false false :=
  ⟨fun h => absurd h (has_none _ _), fun h => absurd h (has_none _ _), fun h => absurd h (has_none _ _), by simp [has_none], by simp [has_none], by simp [has_none], by simp [has_none], by simp [has_none], by simp, by simp, by simp, by simp, by simp, h⟩
theorem un {b : Bool} {i : Nat} (hun : l.getD i true = false) (h : has l i ↔ b = true) : b = false := by
  have := has_not hun
  cases b with
  | true => exact absurd (h.2 rfl) this
  | false => rfl
theorem I1.t0 (h : I1 w base u v y ed D l s7 s8 s14 s15 s16 s17 W la pr L P ty fm tw g7 g8 b1 b4 b5 b6 b7) : I1 w base u v y ed D (l.setIfInBounds 0 true) s7 s8 u s15 s16 s17 W la pr L P ty fm tw g7 g8 b1 b4 b5 b6 b7 :=
  have e : ∀ j, j ≠ 0 → (has (l.setIfInBounds 0 true) j ↔ has l j) := fun j h => has_other (Ne.symm h)
  ⟨fun _ => rfl, fun q => h.v16 ((e 2 (by decide)).1 q), fun q => h.v17 ((e 3 (by decide)).1 q), (e 1 (by decide)).trans h.h1, (e 4 (by decide)).trans h.h4, (e 5 (by decide)).trans h.h5, (e 6 (by decide)).trans h.h6, (e 7 (by decide)).trans h.h7, h.o6, h.o7, h.s1, h.s4, h.s5, h.hp⟩
theorem I1.t2 (h : I1 w base u v y ed D l s7 s8 s14 s15 s16 s17 W la pr L P ty fm tw g7 g8 b1 b4 b5 b6 b7) : I1 w base u v y ed D (l.setIfInBounds 2 true) s7 s8 s14 s15 v s17 W la pr L P ty fm tw g7 g8 b1 b4 b5 b6 b7 :=
  have e : ∀ j, j ≠ 2 → (has (l.setIfInBounds 2 true) j ↔ has l j) := fun j h => has_other (Ne.symm h)
  ⟨fun q => h.v14 ((e 0 (by decide)).1 q), fun _ => rfl, fun q => h.v17 ((e 3 (by decide)).1 q), (e 1 (by decide)).trans h.h1, (e 4 (by decide)).trans h.h4, (e 5 (by decide)).trans h.h5, (e 6 (by decide)).trans h.h6, (e 7 (by decide)).trans h.h7, h.o6, h.o7, h.s1, h.s4, h.s5, h.hp⟩
theorem I1.t3 (h : I1 w base u v y ed D l s7 s8 s14 s15 s16 s17 W la pr L P ty fm tw g7 g8 b1 b4 b5 b6 b7) (k : Below W.heap.size W W2) : I1 w base u v y ed D (l.setIfInBounds 3 true) s7 s8 s14 s15 s16 y W2 la pr L P ty fm tw g7 g8 b1 b4 b5 b6 b7 :=
  have e : ∀ j, j ≠ 3 → (has (l.setIfInBounds 3 true) j ↔ has l j) := fun j h => has_other (Ne.symm h)
  ⟨fun q => h.v14 ((e 0 (by decide)).1 q), fun q => h.v16 ((e 2 (by decide)).1 q), fun _ => rfl, (e 1 (by decide)).trans h.h1, (e 4 (by decide)).trans h.h4, (e 5 (by decide)).trans h.h5, (e 6 (by decide)).trans h.h6, (e 7 (by decide)).trans h.h7, h.o6, h.o7, h.s1, h.s4, h.s5, h.hp.below k⟩
theorem I1.t1 {la' pr' : Value} {L' : List Int} {P' : List Pr} {ty' fm' tw' : Int} (h : I1 w base u v y ed D l s7 s8 s14 s15 s16 s17 W la pr L P ty fm tw g7 g8 b1 b4 b5 b6 b7) (hun : l.getD 1 true = false) (hL : L'.length ≤ 10) (hP : P'.length ≤ 18) (hR : Rise P') (k : Hp W [] [.row 3 1 la' L'.length (inC L'), .row 75 4 pr' P'.length (prC P')] W2) :
    I1 w base u v y ed D (l.setIfInBounds 1 true) s7 s8 s14 (thV ed la' ty' fm' tw' pr') s16 s17 W2 la' pr' L' P' ty' fm' tw' g7 g8 true b4 b5 false b7 := by
  have e : ∀ j, j ≠ 1 → (has (l.setIfInBounds 1 true) j ↔ has l j) := fun j h => has_other (Ne.symm h)
  have hb := un hun h.h1
  subst hb
  have hb6 : b6 = false := by
    cases b6 with
    | false => rfl
    | true => exact absurd (h.o6 rfl).1 (by decide)
  subst hb6
  refine ⟨fun q => h.v14 ((e 0 (by decide)).1 q), fun q => h.v16 ((e 2 (by decide)).1 q), fun q => h.v17 ((e 3 (by decide)).1 q), ⟨fun _ => rfl, fun _ => has_self hun⟩, (e 4 (by decide)).trans h.h4, (e 5 (by decide)).trans h.h5, (e 6 (by decide)).trans h.h6, (e 7 (by decide)).trans h.h7, fun q => absurd q (by decide), h.o7, fun _ => ⟨rfl, hL, hP, hR⟩, h.s4, h.s5, ?_⟩
  exact h.hp.take k
theorem I1.t4 (h : I1 w base u v y ed D l s7 s8 s14 s15 s16 s17 W la pr L P ty fm tw g7 g8 b1 b4 b5 b6 b7) (hun : l.getD 4 true = false) :
    I1 w base u v y ed D (l.setIfInBounds 4 true) (.pointer (some ⟨W.heap.size, 0, none⟩)) s8 s14 s15 s16 s17 (W.alloc (.cells thZ 26)) la pr L P ty fm tw W.heap.size g8 b1 true b5 false b7 := by
  have e : ∀ j, j ≠ 4 → (has (l.setIfInBounds 4 true) j ↔ has l j) := fun j h => has_other (Ne.symm h)
  have hb := un hun h.h4
  subst hb
  have hb6 : b6 = false := by
    cases b6 with
    | false => rfl
    | true => exact absurd (h.o6 rfl).2 (by decide)
  subst hb6
  refine ⟨fun q => h.v14 ((e 0 (by decide)).1 q), fun q => h.v16 ((e 2 (by decide)).1 q), fun q => h.v17 ((e 3 (by decide)).1 q), (e 1 (by decide)).trans h.h1, ⟨fun _ => rfl, fun _ => has_self hun⟩, (e 5 (by decide)).trans h.h5, (e 6 (by decide)).trans h.h6, (e 7 (by decide)).trans h.h7, fun q => absurd q (by decide), h.o7, h.s1, fun _ => rfl, h.s5, ?_⟩
  exact (h.hp.alloc thZ 26).perm List.perm_middle.symm
theorem I1.t5 (h : I1 w base u v y ed D l s7 s8 s14 s15 s16 s17 W la pr L P ty fm tw g7 g8 b1 b4 b5 b6 b7) (hun : l.getD 5 true = false) :
    I1 w base u v y ed D (l.setIfInBounds 5 true) s7 (.pointer (some ⟨W.heap.size, 0, none⟩)) s14 s15 s16 s17 (W.alloc (.cells #[.int .i64 0, .int .i64 0, .string ⟨#[]⟩] 50)) la pr L P ty fm tw g7 W.heap.size b1 b4 true b6 false := by
  have e : ∀ j, j ≠ 5 → (has (l.setIfInBounds 5 true) j ↔ has l j) := fun j h => has_other (Ne.symm h)
  have hb := un hun h.h5
  subst hb
  have hb7 : b7 = false := by
    cases b7 with
    | false => rfl
    | true => exact absurd (h.o7 rfl) (by decide)
  subst hb7
  refine ⟨fun q => h.v14 ((e 0 (by decide)).1 q), fun q => h.v16 ((e 2 (by decide)).1 q), fun q => h.v17 ((e 3 (by decide)).1 q), (e 1 (by decide)).trans h.h1, (e 4 (by decide)).trans h.h4, ⟨fun _ => rfl, fun _ => has_self hun⟩, (e 6 (by decide)).trans h.h6, (e 7 (by decide)).trans h.h7, h.o6, fun q => absurd q (by decide), h.s1, h.s4, fun _ => rfl, ?_⟩
  have h1 := h.hp.alloc #[.int .i64 0, .int .i64 0, .string ⟨#[]⟩] 50
  exact h1.perm (perm_mid2 _ _ _ _)
theorem I1.t6 (h : I1 w base u v y ed D l s7 s8 s14 s15 s16 s17 W la pr L P ty fm tw g7 g8 b1 b4 b5 b6 b7) (hun : l.getD 6 true = false) (q1 : b1 = true) (q4 : b4 = true) :
    I1 w base u v y ed D (l.setIfInBounds 6 true) s7 s8 s14 s15 s16 s17 ((((((W.setCell ⟨g7, 0, none⟩ (.bool ed)).setCell ⟨g7, 1, none⟩ la).setCell ⟨g7, 2, none⟩ (.int .i64 ty)).setCell ⟨g7, 3, none⟩ (.int .u64 fm)).setCell ⟨g7, 4, none⟩ (.int .u64 tw)).setCell ⟨g7, 5, none⟩ pr) la pr L P ty fm tw g7 g8 b1 b4 b5 true b7 := by
  have e : ∀ j, j ≠ 6 → (has (l.setIfInBounds 6 true) j ↔ has l j) := fun j h => has_other (Ne.symm h)
  have hb := un hun h.h6
  subst hb q1 q4
  refine ⟨fun q => h.v14 ((e 0 (by decide)).1 q), fun q => h.v16 ((e 2 (by decide)).1 q), fun q => h.v17 ((e 3 (by decide)).1 q), (e 1 (by decide)).trans h.h1, (e 4 (by decide)).trans h.h4, (e 5 (by decide)).trans h.h5, ⟨fun _ => rfl, fun _ => has_self hun⟩, (e 7 (by decide)).trans h.h7, fun _ => ⟨rfl, rfl⟩, h.o7, h.s1, h.s4, h.s5, ?_⟩
  exact (((((h.hp.put (i := 2) rfl 0 (.bool ed)).put (i := 2) rfl 1 la).put (i := 2) rfl 2 (.int .i64 ty)).put (i := 2) rfl 3 (.int .u64 fm)).put (i := 2) rfl 4 (.int .u64 tw)).put (i := 2) rfl 5 pr
theorem I1.t7 {d0 d1 d2 : Value} (h : I1 w base u v y ed #[d0, d1, d2] l s7 s8 s14 s15 s16 s17 W la pr L P ty fm tw g7 g8 b1 b4 b5 b6 b7) (hun : l.getD 7 true = false) (q5 : b5 = true) :
    I1 w base u v y ed #[d0, d1, d2] (l.setIfInBounds 7 true) s7 s8 s14 s15 s16 s17 (((W.setCell ⟨g8, 0, none⟩ d0).setCell ⟨g8, 1, none⟩ d1).setCell ⟨g8, 2, none⟩ d2) la pr L P ty fm tw g7 g8 b1 b4 b5 b6 true := by
  have e : ∀ j, j ≠ 7 → (has (l.setIfInBounds 7 true) j ↔ has l j) := fun j h => has_other (Ne.symm h)
  have hb := un hun h.h7
  subst hb q5
  refine ⟨fun q => h.v14 ((e 0 (by decide)).1 q), fun q => h.v16 ((e 2 (by decide)).1 q), fun q => h.v17 ((e 3 (by decide)).1 q), (e 1 (by decide)).trans h.h1, (e 4 (by decide)).trans h.h4, (e 5 (by decide)).trans h.h5, (e 6 (by decide)).trans h.h6, ⟨fun _ => rfl, fun _ => has_self hun⟩, h.o6, fun _ => rfl, h.s1, h.s4, h.s5, ?_⟩
  cases b1 with
  | false =>
    cases b4 with
    | false => exact ((h.hp.put (i := 0) rfl 0 d0).put (i := 0) rfl 1 d1).put (i := 0) rfl 2 d2
    | true => exact ((h.hp.put (i := 1) rfl 0 d0).put (i := 1) rfl 1 d1).put (i := 1) rfl 2 d2
  | true =>
    cases b4 with
    | false => exact ((h.hp.put (i := 2) rfl 0 d0).put (i := 2) rfl 1 d1).put (i := 2) rfl 2 d2
    | true => exact ((h.hp.put (i := 3) rfl 0 d0).put (i := 3) rfl 1 d1).put (i := 3) rfl 2 d2
theorem I1.rowL_ (h : I1 w base u v y ed D l s7 s8 s14 s15 s16 s17 W la pr L P ty fm tw g7 g8 b1 b4 b5 b6 b7) (q1 : b1 = true) : ∃ ad cp, la = .slice ad L.length cp := by
  subst q1
  exact rowShape (h.hp.row (i := 0) rfl)
theorem I1.rowP_ (h : I1 w base u v y ed D l s7 s8 s14 s15 s16 s17 W la pr L P ty fm tw g7 g8 b1 b4 b5 b6 b7) (q1 : b1 = true) : ∃ ad cp, pr = .slice ad P.length cp := by
  subst q1
  exact rowShape (h.hp.row (i := 1) rfl)
theorem I1.boxT_ (h : I1 w base u v y ed D l s7 s8 s14 s15 s16 s17 W la pr L P ty fm tw g7 g8 b1 b4 b5 b6 b7) (q4 : b4 = true) (q6 : b6 = false) : W.heap[g7]? = some (.cells thZ 26 (0, 0)) := by
  subst q4 q6
  cases b1 with
  | false => exact h.hp.box (i := 0) rfl
  | true => exact h.hp.box (i := 2) rfl
theorem I1.boxV_ (h : I1 w base u v y ed D l s7 s8 s14 s15 s16 s17 W la pr L P ty fm tw g7 g8 b1 b4 b5 b6 b7) (q5 : b5 = true) (q7 : b7 = false) : W.heap[g8]? = some (.cells #[.int .i64 0, .int .i64 0, .string ⟨#[]⟩] 50 (0, 0)) := by
  subst q5 q7
  cases b1 with
  | false =>
    cases b4 with
    | false => exact h.hp.box (i := 0) rfl
    | true => exact h.hp.box (i := 1) rfl
  | true =>
    cases b4 with
    | false => exact h.hp.box (i := 2) rfl
    | true => exact h.hp.box (i := 3) rfl
end
end Go.Proofs.YtcdgnhhciccoeaaDoor.recw
end
section
namespace Go.Proofs.YtcdgnhhciccoeaaDoor.recw
open Go.RowKit
attribute [local go_sem ↓] Go.wp_at_zero Go.wp_at_succ
set_option linter.unusedVariables false
set_option linter.unusedSimpArgs false
set_option maxRecDepth 100000

theorem rise_lt {l : List Pr} {m : Nat} {x z : Pr} (h : Rise l) (hz : l[m]? = some z) (hx : l[m + 1]? = some x) : z.key < x.key := by
  obtain ⟨h1, e1⟩ := List.getElem?_eq_some_iff.1 hz
  obtain ⟨h2, e2⟩ := List.getElem?_eq_some_iff.1 hx
  have := List.pairwise_iff_getElem.1 h m (m + 1) h1 h2 (Nat.lt_succ_self m)
  rw [e1, e2] at this
  exact this
end Go.Proofs.YtcdgnhhciccoeaaDoor.recw
end
section
namespace Go.Proofs.YtcdgnhhciccoeaaDoor.recw
open Go.ChangeShapes Go.WideShapes Go.ChangeAt Go.RowKit Go.Joins
set_option linter.unusedVariables false
set_option linter.unusedSimpArgs false
set_option maxRecDepth 100000

theorem elem_prop {H : Type} {enc : TypeId × Value → H} {W : World} {spare : Nat → Bool} : ∀ m cs' y, DataW.trod enc Tryd.prog W 0 spare true m 75 cs' = some y → ∀ j, j < 4 → ∃ v, cs'[j]? = some v ∧ (fun j v => match j with | 0 => ∃ x, v = .int .i64 x ∧ (Lit.int .i64 x).wf = true | 1 => ∃ x, v = .int .i64 x ∧ (Lit.int .i64 x).wf = true | 2 => ∃ x, v = .int .i64 x ∧ (Lit.int .i64 x).wf = true | 3 => ∃ x, v = .string x ∧ x.size ≤ maxLen | _ => False) j v := by
  intro m cs' y h j hj
  obtain ⟨xs, k, _, _, hlen, hx, hf⟩ := DataW.trod_struct Tryd.underlying75 h
  match j, hj with
  | 0, _ =>
    have c1 : Tryd.prog.cellsOf 3 = 1 := by kernel_rfl
    have hz := hf 0 _ rfl
    obtain ⟨z, hz2⟩ : ∃ z, xs[0]? = some z := ⟨_, List.getElem?_eq_getElem (by rw [hx]; decide)⟩
    rw [hz2] at hz
    obtain ⟨x, ex, -, wx⟩ := DataW.trod_int Tryd.underlying3 hz; exact ⟨_, take1 (by simpa [c1] using ex), x, rfl, wx⟩
  | 1, _ =>
    have c1 : Tryd.prog.cellsOf 50 = 3 := by kernel_rfl
    have hz := hf 1 _ rfl
    obtain ⟨z, hz2⟩ : ∃ z, xs[1]? = some z := ⟨_, List.getElem?_eq_getElem (by rw [hx]; decide)⟩
    rw [hz2] at hz
    obtain ⟨xs2, k2, _, _, hlen2, hx2, hf2⟩ := DataW.trod_struct Tryd.underlying50 hz
    have c2 : Tryd.prog.cellsOf 3 = 1 := by kernel_rfl
    have hy := hf2 0 _ rfl
    obtain ⟨z2, hz3⟩ : ∃ z, xs2[0]? = some z := ⟨_, List.getElem?_eq_getElem (by rw [hx2]; decide)⟩
    rw [hz3] at hy
    obtain ⟨x, ex, -, wx⟩ := DataW.trod_int Tryd.underlying3 hy; exact ⟨_, by have e2 := congrArg (fun l : List Value => l[0]?) ex; simpa [c1, c2, List.getElem?_take, List.getElem?_drop] using e2, x, rfl, wx⟩
  | 2, _ =>
    have c1 : Tryd.prog.cellsOf 50 = 3 := by kernel_rfl
    have hz := hf 1 _ rfl
    obtain ⟨z, hz2⟩ : ∃ z, xs[1]? = some z := ⟨_, List.getElem?_eq_getElem (by rw [hx]; decide)⟩
    rw [hz2] at hz
    obtain ⟨xs2, k2, _, _, hlen2, hx2, hf2⟩ := DataW.trod_struct Tryd.underlying50 hz
    have c2 : Tryd.prog.cellsOf 2 = 1 := by kernel_rfl
    have hy := hf2 1 _ rfl
    obtain ⟨z2, hz3⟩ : ∃ z, xs2[1]? = some z := ⟨_, List.getElem?_eq_getElem (by rw [hx2]; decide)⟩
    rw [hz3] at hy
    obtain ⟨x, ex, -, wx⟩ := DataW.trod_int Tryd.underlying2 hy; exact ⟨_, by have e2 := congrArg (fun l : List Value => l[0]?) ex; simpa [c1, c2, List.getElem?_take, List.getElem?_drop] using e2, x, rfl, wx⟩
  | 3, _ =>
    have c1 : Tryd.prog.cellsOf 50 = 3 := by kernel_rfl
    have hz := hf 1 _ rfl
    obtain ⟨z, hz2⟩ : ∃ z, xs[1]? = some z := ⟨_, List.getElem?_eq_getElem (by rw [hx]; decide)⟩
    rw [hz2] at hz
    obtain ⟨xs2, k2, _, _, hlen2, hx2, hf2⟩ := DataW.trod_struct Tryd.underlying50 hz
    have c2 : Tryd.prog.cellsOf 9 = 1 := by kernel_rfl
    have hy := hf2 2 _ rfl
    obtain ⟨z2, hz3⟩ : ∃ z, xs2[2]? = some z := ⟨_, List.getElem?_eq_getElem (by rw [hx2]; decide)⟩
    rw [hz3] at hy
    obtain ⟨x, ex, -, wx⟩ := DataW.trod_string Tryd.underlying9 hy; exact ⟨_, by have e2 := congrArg (fun l : List Value => l[0]?) ex; simpa [c1, c2, List.getElem?_take, List.getElem?_drop] using e2, x, rfl, wx⟩
theorem elem_int {H : Type} {enc : TypeId × Value → H} {W : World} {spare : Nat → Bool} : ∀ m cs' y, DataW.trod enc Tryd.prog W 0 spare true m 3 cs' = some y → ∀ j, j < 1 → ∃ v, cs'[j]? = some v ∧ (fun _ v => ∃ x, v = .int .i64 x ∧ (Lit.int .i64 x).wf = true) j v := by
  intro m cs' y h j hj
  obtain rfl : j = 0 := by omega
  obtain ⟨x, ex, -, wx⟩ := DataW.trod_int Tryd.underlying3 h
  exact ⟨_, by rw [ex]; rfl, x, rfl, wx⟩
theorem field1 {H : Type} {enc : TypeId × Value → H} {W : World} {spare : Nat → Bool} {k t off : Nat} {cs : List Value} {c : Value} {z : DataW H × List MemPlace} (hz : DataW.trod enc Tryd.prog W 0 spare true k t ((cs.drop off).take (Tryd.prog.cellsOf t)) = some z) (hc : Tryd.prog.cellsOf t = 1) (h : cs[off]? = some c) : DataW.trod enc Tryd.prog W 0 spare true k t [c] = some z := by
  rw [hc] at hz
  have e : (cs.drop off).take 1 = [c] := by
    obtain ⟨hi, he⟩ := List.getElem?_eq_some_iff.1 h
    rw [List.drop_eq_getElem_cons hi, he]; rfl
  rwa [e] at hz
theorem cellsTh : Tryd.prog.cellsOf 26 = 6 := by kernel_rfl
theorem cells6 (c0 c1 c2 c3 c4 c5 : Value) : ((Value.agg #[c0, c1, c2, c3, c4, c5]).cells).toList = [c0, c1, c2, c3, c4, c5] := by simp [Value.cells]
theorem open_thing {H : Type} {enc : TypeId × Value → H} {W : World} {spare : Nat → Bool} {r : Reach} {b0 : Nat} {v : Value} {d : DataW H} {p : List MemPlace} (hv : Value.okWide Tryd.prog W r b0 26 v) (h : DataW.Trod enc Tryd.prog W 0 spare true 26 v d p) (hw : ∀ n ∈ d.weights Tryd.prog 26, n ≤ reachBytes) :
    ∃ (ed : Bool) (sa : Option Addr) (sl sc : Nat) (ty fm tw : Int) (pa : Option Addr) (pl pc : Nat), v = .agg #[.bool ed, .slice sa sl sc, .int .i64 ty, .int .u64 fm, .int .u64 tw, .slice pa pl pc] ∧
      SliceArg W sa sl 1 (fun _ v => ∃ x, v = .int .i64 x ∧ (Lit.int .i64 x).wf = true) ∧ sl ≤ 140737488355328 ∧ SliceArg W pa pl 4 (fun j v => match j with | 0 => ∃ x, v = .int .i64 x ∧ (Lit.int .i64 x).wf = true | 1 => ∃ x, v = .int .i64 x ∧ (Lit.int .i64 x).wf = true | 2 => ∃ x, v = .int .i64 x ∧ (Lit.int .i64 x).wf = true | 3 => ∃ x, v = .string x ∧ x.size ≤ maxLen | _ => False) ∧ pl ≤ 140737488355328 := by
  have hv2 := hv
  simp only [Value.okWide, Tryd.underlying26] at hv2
  obtain ⟨cs, rfl, hsz, _⟩ := hv2
  rw [cellsTh] at hsz
  obtain ⟨l, rfl⟩ : ∃ l : List Value, cs = l.toArray := ⟨cs.toList, by simp⟩
  obtain ⟨c0, c1, c2, c3, c4, c5, rfl⟩ : ∃ c0 c1 c2 c3 c4 c5, l = [c0, c1, c2, c3, c4, c5] := by
    match l, hsz with
    | [c0, c1, c2, c3, c4, c5], _ => exact ⟨c0, c1, c2, c3, c4, c5, rfl⟩
  obtain ⟨fuel, hf0⟩ := h
  rw [cells6] at hf0
  obtain ⟨xs, k, _, hy, hlen, hx, hf⟩ := DataW.trod_struct Tryd.underlying26 hf0
  have hd : d = .agg (xs.map (·.1)) := congrArg Prod.fst hy
  have hwf : ∀ (j : Nat) (t' : TypeId) (z : DataW H × List MemPlace), ([4, 22, 3, 23, 23, 24] : List TypeId)[j]? = some t' → xs[j]? = some z → ∀ n ∈ z.1.weights Tryd.prog t', n ≤ reachBytes := fun j t' z hj hz n hn => hw n (by rw [hd]; simp only [DataW.weights, Tryd.underlying26]; exact DataW.weights_mem_each (j := j) (t := t') hj (by simp [hz]) n hn)
  have hz0 : ∃ z, xs[0]? = some z ∧ DataW.trod enc Tryd.prog W 0 spare true k 4 [c0] = some z := by
    have hz := hf 0 _ rfl
    obtain ⟨z, hz2⟩ : ∃ z, xs[0]? = some z := ⟨_, List.getElem?_eq_getElem (by rw [hx]; decide)⟩
    rw [hz2] at hz
    exact ⟨z, hz2, field1 hz (by kernel_rfl) rfl⟩
  obtain ⟨y0, q0, hz0⟩ := hz0
  have hz1 : ∃ z, xs[1]? = some z ∧ DataW.trod enc Tryd.prog W 0 spare true k 22 [c1] = some z := by
    have hz := hf 1 _ rfl
    obtain ⟨z, hz2⟩ : ∃ z, xs[1]? = some z := ⟨_, List.getElem?_eq_getElem (by rw [hx]; decide)⟩
    rw [hz2] at hz
    exact ⟨z, hz2, field1 hz (by kernel_rfl) rfl⟩
  obtain ⟨y1, q1, hz1⟩ := hz1
  have hz2 : ∃ z, xs[2]? = some z ∧ DataW.trod enc Tryd.prog W 0 spare true k 3 [c2] = some z := by
    have hz := hf 2 _ rfl
    obtain ⟨z, hz2⟩ : ∃ z, xs[2]? = some z := ⟨_, List.getElem?_eq_getElem (by rw [hx]; decide)⟩
    rw [hz2] at hz
    exact ⟨z, hz2, field1 hz (by kernel_rfl) rfl⟩
  obtain ⟨y2, q2, hz2⟩ := hz2
  have hz3 : ∃ z, xs[3]? = some z ∧ DataW.trod enc Tryd.prog W 0 spare true k 23 [c3] = some z := by
    have hz := hf 3 _ rfl
    obtain ⟨z, hz2⟩ : ∃ z, xs[3]? = some z := ⟨_, List.getElem?_eq_getElem (by rw [hx]; decide)⟩
    rw [hz2] at hz
    exact ⟨z, hz2, field1 hz (by kernel_rfl) rfl⟩
  obtain ⟨y3, q3, hz3⟩ := hz3
  have hz4 : ∃ z, xs[4]? = some z ∧ DataW.trod enc Tryd.prog W 0 spare true k 23 [c4] = some z := by
    have hz := hf 4 _ rfl
    obtain ⟨z, hz2⟩ : ∃ z, xs[4]? = some z := ⟨_, List.getElem?_eq_getElem (by rw [hx]; decide)⟩
    rw [hz2] at hz
    exact ⟨z, hz2, field1 hz (by kernel_rfl) rfl⟩
  obtain ⟨y4, q4, hz4⟩ := hz4
  have hz5 : ∃ z, xs[5]? = some z ∧ DataW.trod enc Tryd.prog W 0 spare true k 24 [c5] = some z := by
    have hz := hf 5 _ rfl
    obtain ⟨z, hz2⟩ : ∃ z, xs[5]? = some z := ⟨_, List.getElem?_eq_getElem (by rw [hx]; decide)⟩
    rw [hz2] at hz
    exact ⟨z, hz2, field1 hz (by kernel_rfl) rfl⟩
  obtain ⟨y5, q5, hz5⟩ := hz5
  obtain ⟨ed, x0, -⟩ := DataW.trod_bool Tryd.underlying4 hz0
  obtain ⟨ty, x2, -, _⟩ := DataW.trod_int Tryd.underlying3 hz2
  obtain ⟨fm, x3, -, _⟩ := DataW.trod_int Tryd.underlying23 hz3
  obtain ⟨tw, x4, -, _⟩ := DataW.trod_int Tryd.underlying23 hz4
  simp only [List.cons.injEq, and_true] at x0 x2 x3 x4
  subst x0 x2 x3 x4
  obtain ⟨sa, sl, sc, rfl⟩ : ∃ sa sl sc, c1 = .slice sa sl sc := by
    rcases Go.Deep.open_slice Tryd.underlying22 hz1 with ⟨hc, _⟩ | ⟨ad, l, c, _, _, _, _, hc, _⟩
    · simp only [List.cons.injEq, and_true] at hc; exact ⟨_, _, _, hc⟩
    · simp only [List.cons.injEq, and_true] at hc; exact ⟨_, _, _, hc⟩
  obtain ⟨pa, pl, pc, rfl⟩ : ∃ sa sl sc, c5 = .slice sa sl sc := by
    rcases Go.Deep.open_slice Tryd.underlying24 hz5 with ⟨hc, _⟩ | ⟨ad, l, c, _, _, _, _, hc, _⟩
    · simp only [List.cons.injEq, and_true] at hc; exact ⟨_, _, _, hc⟩
    · simp only [List.cons.injEq, and_true] at hc; exact ⟨_, _, _, hc⟩
  have s1 := sliceArg_ofS (Q := (fun _ v => ∃ x, v = .int .i64 x ∧ (Lit.int .i64 x).wf = true)) Tryd.underlying22 (by kernel_rfl) (by decide) (DataW.trod_lt k _ _ _ hz1) (d := y1.1) (p := y1.2) ⟨k, hz1⟩ (hwf 1 _ y1 rfl q1) (fun m cs y hh _ => elem_int m cs y hh)
  have s2 := sliceArg_ofS (Q := (fun j v => match j with | 0 => ∃ x, v = .int .i64 x ∧ (Lit.int .i64 x).wf = true | 1 => ∃ x, v = .int .i64 x ∧ (Lit.int .i64 x).wf = true | 2 => ∃ x, v = .int .i64 x ∧ (Lit.int .i64 x).wf = true | 3 => ∃ x, v = .string x ∧ x.size ≤ maxLen | _ => False)) Tryd.underlying24 (by kernel_rfl) (by decide) (DataW.trod_lt k _ _ _ hz5) (d := y5.1) (p := y5.2) ⟨k, hz5⟩ (hwf 5 _ y5 rfl q5) (fun m cs y hh _ => elem_prop m cs y hh)
  have b1 : Tryd.prog.bytesOf 3 = 8 := by kernel_rfl
  have b2 : Tryd.prog.bytesOf 75 = 40 := by kernel_rfl
  rw [b1] at s1
  rw [b2] at s2
  have z1 := s1.2
  have z2 := s2.2
  unfold reachBytes at z1 z2
  exact ⟨ed, sa, sl, sc, ty, fm, tw, pa, pl, pc, rfl, s1.1, by omega, s2.1, by omega⟩
theorem flat_int : ∀ l : List Int, l.flatMap (fun n => [Value.int .i64 n]) = inC l
  | [] => rfl
  | x :: t => by rw [List.flatMap_cons, flat_int t]; rfl
end Go.Proofs.YtcdgnhhciccoeaaDoor.recw
end
