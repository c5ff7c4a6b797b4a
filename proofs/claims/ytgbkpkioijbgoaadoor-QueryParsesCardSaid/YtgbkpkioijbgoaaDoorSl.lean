/- Slices of any element, by the cells that they show: those that came in, and rows that a call makes itself. No condition. -/
import Derived.Test.YtgbkpkioijbgoaaDoorBytes
import Derived.Test.YtgbkpkioijbgoaaDoorArgs
import Derived.Deep.AppendLies
namespace Go.Proofs.YtgbkpkioijbgoaaDoor
open Go.RowKit
set_option linter.unusedVariables false
set_option maxRecDepth 100000

/-- from cell o of block b on these values stand -/
def RowAt (w : World) (b o : Nat) (vs : List Value) : Prop := b < w.heap.size ∧ ∀ j v, vs[j]? = some v → w.cell? ⟨b, o + j, none⟩ = some v
theorem RowAt.below {w w' : World} {b o : Nat} {vs : List Value} (h : RowAt w b o vs) (k : Below w.heap.size w w') : RowAt w' b o vs :=
  ⟨Nat.lt_of_lt_of_le h.1 k.size, fun j v hv => (k.cell h.1).trans (h.2 j v hv)⟩
theorem RowAt.keep {w w' : World} {b o : Nat} {vs : List Value} (h : RowAt w b o vs) {X : List Nat} (k : Keeps X w w') (hb : b ∉ X) : RowAt w' b o vs :=
  ⟨Nat.lt_of_lt_of_le h.1 k.size, fun j v hv => (k.cell h.1 hb).trans (h.2 j v hv)⟩
/-- the slice v has n elements, whose cells, one behind the other, are vs -/
def Sl (w : World) (v : Value) (n : Nat) (vs : List Value) : Prop := ∃ a cap, v = .slice a n cap ∧ n ≤ 140737488355328 ∧ (n = 0 ∨ ∃ b o, a = some ⟨b, o, none⟩ ∧ RowAt w b o vs)
theorem Sl.below {w w' : World} {v : Value} {n : Nat} {vs : List Value} (h : Sl w v n vs) (k : Below w.heap.size w w') : Sl w' v n vs := by
  obtain ⟨a, cap, hv, hm, h⟩ := h
  refine ⟨a, cap, hv, hm, ?_⟩
  rcases h with h | ⟨b, o, ha, h⟩
  · exact Or.inl h
  · exact Or.inr ⟨b, o, ha, h.below k⟩
theorem Sl.nil (w : World) : Sl w (.slice none 0 0) 0 [] := ⟨none, 0, rfl, by omega, Or.inl rfl⟩
theorem addr_add (b o j : Nat) : (⟨b, o, none⟩ : Addr).add j = ⟨b, o + j, none⟩ := by unfold Addr.add; split <;> simp_all
theorem Sl.ofRow {w : World} {base : Nat} {e : TypeId} {size : Nat} {v : Value} {n : Nat} {xs : List Value} (h : w.ownsRow base e size v n xs) (hn : n ≤ 140737488355328) : Sl w v n xs := by
  rcases h.2 with ⟨rfl, h0⟩ | ⟨g, cap, cur, rfl, hb, hg, h1, h2, h3, h4⟩
  · subst h0; exact ⟨none, 0, rfl, by omega, Or.inl rfl⟩
  · have hc := World.ownsRow.cells h (g := g) rfl
    have hl := World.ownsRow.lt h g rfl
    refine ⟨_, cap, rfl, hn, Or.inr ⟨g, 0, rfl, hl.2, fun j u hu => ?_⟩⟩
    have := hc j u hu
    rwa [addr_add] at this
/-- the cells of elements, one behind the other -/
theorem flat_at {α : Type} (cf : α → List Value) (n : Nat) (hn : ∀ x, (cf x).length = n) : ∀ (l : List α) (i : Nat) (x : α), l[i]? = some x → ∀ j, j < n → (l.flatMap cf)[i * n + j]? = (cf x)[j]?
  | [], i, x, h => by simp at h
  | y :: l, 0, x, h => by
    intro j hj
    simp at h; subst h
    rw [List.flatMap_cons, Nat.zero_mul, Nat.zero_add, List.getElem?_append_left (by rw [hn]; exact hj)]
  | y :: l, i + 1, x, h => by
    intro j hj
    have h2 : l[i]? = some x := by simpa using h
    rw [List.flatMap_cons, List.getElem?_append_right (by rw [hn, Nat.succ_mul]; omega), hn, ← flat_at cf n hn l i x h2 j hj]
    congr 1
    rw [Nat.succ_mul]; omega
theorem flat_len {α : Type} (cf : α → List Value) (n : Nat) (hn : ∀ x, (cf x).length = n) : ∀ l : List α, (l.flatMap cf).length = l.length * n
  | [] => by simp
  | y :: l => by rw [List.flatMap_cons, List.length_append, hn, flat_len cf n hn l, List.length_cons, Nat.succ_mul, Nat.add_comm]
theorem RowAt.elem {α : Type} {cf : α → List Value} {n : Nat} (hn : ∀ x, (cf x).length = n) {w : World} {b o : Nat} {l : List α} (h : RowAt w b o (l.flatMap cf)) {i : Nat} {x : α} (hx : l[i]? = some x) {j : Nat} {v : Value} (hj : (cf x)[j]? = some v) : w.cell? ⟨b, o + i * n + j, none⟩ = some v := by
  have hjn : j < n := by have := (List.getElem?_eq_some_iff.1 hj).1; rwa [hn] at this
  have := h.2 (i * n + j) v ((flat_at cf n hn l i x hx j hjn).trans hj)
  rwa [← Nat.add_assoc] at this
theorem RowAt.elem0 {α : Type} {cf : α → List Value} {n : Nat} (hn : ∀ x, (cf x).length = n) {w : World} {b o : Nat} {l : List α} (h : RowAt w b o (l.flatMap cf)) {i : Nat} {x : α} (hx : l[i]? = some x) {v : Value} (hj : (cf x)[0]? = some v) : w.cell? ⟨b, o + i * n, none⟩ = some v := h.elem hn hx hj
/-- a list out of what stands at each place -/
theorem list_of {α : Type} (R : Nat → α → Prop) : ∀ (n : Nat), (∀ i, i < n → ∃ x, R i x) → ∃ l : List α, l.length = n ∧ ∀ i x, l[i]? = some x → R i x
  | 0, _ => ⟨[], rfl, fun i x h => by simp at h⟩
  | n + 1, h => by
    obtain ⟨l, hl, hr⟩ := list_of R n (fun i hi => h i (by omega))
    obtain ⟨x, hx⟩ := h n (by omega)
    refine ⟨l ++ [x], by simp [hl], fun i y hy => ?_⟩
    by_cases hi : i < n
    · rw [List.getElem?_append_left (by omega)] at hy; exact hr i y hy
    · rw [List.getElem?_append_right (by omega)] at hy
      have : i - l.length = 0 := by
        have := (List.getElem?_eq_some_iff.1 hy).1
        simp at this; omega
      rw [this] at hy
      simp at hy; subst hy
      obtain rfl : i = n := by omega
      exact hx
/-- a law's argument as such a slice -/
theorem SliceArg.sl {w : World} {a : Option Addr} {len n cap : Nat} {Q : Nat → Value → Prop} (h : SliceArg w a len n Q) {α : Type} (cf : α → List Value) (hn : ∀ x, (cf x).length = n) (hn0 : 0 < n) (hlen : len ≤ 140737488355328)
    (hQ : ∀ vs : Nat → Value, (∀ j, j < n → Q j (vs j)) → ∃ x : α, ∀ j, j < n → (cf x)[j]? = some (vs j)) : ∃ l : List α, l.length = len ∧ Sl w (.slice a len cap) len (l.flatMap cf) := by
  obtain ⟨h1, h2⟩ := h
  rcases h2 with rfl | ⟨b, o, rfl, hlt, hc⟩
  · exact ⟨[], rfl, _, _, rfl, by omega, Or.inl rfl⟩
  · obtain ⟨l, hl, hr⟩ := list_of (fun i (x : α) => ∀ j, j < n → ∃ v, (cf x)[j]? = some v ∧ w.cell? ⟨b, o + i * n + j, none⟩ = some v) len (fun i hi => by
      have hv := hc i hi
      obtain ⟨x, hx⟩ := hQ (fun j => if h : j < n then (hv j h).choose else undef) (fun j hj => by simp only [hj, dif_pos]; exact (hv j hj).choose_spec.2)
      exact ⟨x, fun j hj => ⟨_, hx j hj, by simp only [hj, dif_pos]; exact (hv j hj).choose_spec.1⟩⟩)
    refine ⟨l, hl, _, _, rfl, hlen, Or.inr ⟨b, o, rfl, hlt, fun k v hk => ?_⟩⟩
    have hkl : k < l.length * n := by rw [← flat_len cf n hn l]; exact (List.getElem?_eq_some_iff.1 hk).1
    have hi : k / n < l.length := by rw [Nat.div_lt_iff_lt_mul hn0]; exact hkl
    obtain ⟨x, hx⟩ : ∃ x, l[k / n]? = some x := ⟨_, List.getElem?_eq_getElem hi⟩
    have hj : k % n < n := Nat.mod_lt _ hn0
    have hf := flat_at cf n hn l (k / n) x hx (k % n) hj
    have hk2 : k / n * n + k % n = k := by rw [Nat.mul_comm]; exact Nat.div_add_mod k n
    rw [hk2, hk] at hf
    obtain ⟨v', hv', hcell⟩ := hr (k / n) x hx (k % n) hj
    rw [hv'] at hf
    injection hf with hf
    subst hf
    rwa [Nat.add_assoc, hk2] at hcell
/-- an owned row below new blocks and calls -/
theorem rowBelow {w w' : World} {base : Nat} {e : TypeId} {size : Nat} {v : Value} {n : Nat} {xs : List Value} (h : w.ownsRow base e size v n xs) (k : Below w.heap.size w w') : w'.ownsRow base e size v n xs :=
  World.ownsRow.kept (row := none) h ⟨k.os, k.tape, k.output, k.size, fun i hi _ => k.block i hi⟩ (by rcases h' : v.ownBlock with _ | b; exact Or.inl rfl; exact Or.inr (by simp))
theorem rowKeeps {w w' : World} {base : Nat} {e : TypeId} {size : Nat} {v : Value} {n : Nat} {xs : List Value} (h : w.ownsRow base e size v n xs) {X : List Nat} (k : Keeps X w w') (hX : ∀ b, v.ownBlock = some b → b ∉ X) : w'.ownsRow base e size v n xs := by
  rcases h.2 with ⟨rfl, h0⟩ | ⟨g, cap, cur, rfl, hb, hg, h1, h2, h3, h4⟩
  · exact ⟨h.1, Or.inl ⟨rfl, h0⟩⟩
  · exact ⟨h.1, Or.inr ⟨g, cap, cur, rfl, hb, (k.block g (block_lt hg) (hX g rfl)).trans hg, h1, h2, h3, h4⟩⟩
/-- 'append(v, x)' of one element that lies in block g -/
theorem wpList_append_elem {w : World} {ops : Array Oper} {rest : List Oper} {o : Oper} {a : Act} {Q : Exit → Act → World → Prop} (hgd : o.guard = none) (s x : Operand) {t e : TypeId} {z : Value} {size bytes : Nat}
    (ho : o.op = .call { callee := .builtin .append, args := #[s, x], argTypes := #[t, t] })
    (ht : Tryd.prog.underlying t = some (.slice e)) (hI : (Tryd.prog.info? e).map (fun i => (i.zero, i.size, i.bytes)) = some (some z, size, bytes)) (hzs : z.cells.size = size) (hsz : 0 < size) (hby : bytes ≤ 1000)
    (base : Nat) (v : Value) (n : Nat) (xs : List Value) (hs : a.eval s = v) (hown : w.ownsRow base e size v n xs) (g c : Nat) (ys : List Value) (hx : a.eval x = .slice (some ⟨g, 0, none⟩) 1 c)
    (hys : ys.length = size) (hc : ∀ j u, ys[j]? = some u → w.cell? ⟨g, j, none⟩ = some u) (h1 : ∀ u ∈ ys, u.oneCell' = true)
    (hl : n < 100000000) (hbase : base ≤ w.heap.size)
    (h : ∀ v' w', w'.ownsRow base e size v' (n + 1) (xs ++ ys) → w.grownBy w' v.ownBlock → wpList Tryd.prog ops Q rest (a.put o.dst v') w') : wpList Tryd.prog ops Q (o :: rest) a w := by
  obtain ⟨i, hi, hz, hsz2, hby2⟩ := info_parts hI
  have hm : (n + 1) * bytes ≤ 100000000 * 1000 := Nat.mul_le_mul (by omega) hby
  refine wpList_append_own w hgd s x t ho base e i z size bytes ht hi hz hsz2 hby2 hzs hsz v n xs hs hown ⟨g, 0, none⟩ 1 c ys hx (by omega) ?_ h1 (by unfold maxLen; omega) (by omega) hbase ?_
  · intro j u hj
    rw [addr_add, Nat.zero_add]
    exact hc j u hj
  · intro v' w' h2 h3 _
    exact h v' w' h2 h3
theorem block_cells {W : World} {q : Nat} {cs : Array Value} {t : TypeId} {fr : Nat × Nat} (h : W.heap[q]? = some (.cells cs t fr)) : ∀ j u, cs.toList[j]? = some u → W.cell? ⟨q, j, none⟩ = some u := fun j u hu => by
  rw [cell_of_row W q j cs t fr h]; simpa using hu
theorem belowRow' {w wr w2 : World} {B : Nat} {v : Value} (h : Below B w wr) (hB : B ≤ wr.heap.size) (k : wr.grownBy w2 v.ownBlock) (hv : ∀ q, v.ownBlock = some q → B ≤ q) : Below B w w2 := h.grown k hB hv
end Go.Proofs.YtgbkpkioijbgoaaDoor
