/- Rows that are held: a cell is written; cells go over by copy, of elements of any size. No condition. -/
import Derived.Test.YtcdcipfojfnblaaGreatDoorHp
import Derived.Laws.CopyOwn
namespace Go.Proofs.YtcdcipfojfnblaaGreatDoor
open Go.RowKit
set_option linter.unusedVariables false

theorem rowSet {W : World} {base : Nat} {e : TypeId} {size n cap g : Nat} {xs : List Value} (h : W.ownsRow base e size (.slice (some ⟨g, 0, none⟩) n cap) n xs) (j : Nat) (u : Value) :
    (W.setCell ⟨g, j, none⟩ u).ownsRow base e size (.slice (some ⟨g, 0, none⟩) n cap) n (xs.set j u) := by
  refine ⟨by rw [List.length_set]; exact h.1, ?_⟩
  rcases h.2 with ⟨h0, _⟩ | ⟨g', cap', cur, hv, hb, hg, h1, h2, h3, h4⟩
  · cases h0
  · injection hv with hv1 hv2 hv3
    injection hv1 with hv1
    injection hv1 with hv1
    subst hv1 hv3
    refine Or.inr ⟨g, cap, cur.setIfInBounds j u, rfl, hb, heap_setCell_same W g j cur e u hg, h1, h2, by simpa using h3, ?_⟩
    rw [Array.toList_setIfInBounds, List.take_set, h4]
theorem rowFree {W : World} {base : Nat} {e : TypeId} {size n cap g : Nat} {xs : List Value} (h : W.ownsRow base e size (.slice (some ⟨g, 0, none⟩) n cap) n xs) (j : Nat) : W.frozen? ⟨g, j, none⟩ = false := by
  rcases h.2 with ⟨h0, _⟩ | ⟨g', cap', cur, hv, hb, hg, h1, h2, h3, h4⟩
  · cases h0
  · injection hv with hv1 hv2 hv3
    injection hv1 with hv1
    injection hv1 with hv1
    subst hv1
    simp [World.frozen?, hg]
theorem rowCap {W : World} {base : Nat} {e : TypeId} {size n cap g : Nat} {xs : List Value} (h : W.ownsRow base e size (.slice (some ⟨g, 0, none⟩) n cap) n xs) : n ≤ cap := by
  rcases h.2 with ⟨h0, _⟩ | ⟨g', cap', cur, hv, hb, hg, h1, h2, h3, h4⟩
  · cases h0
  · injection hv with hv1 hv2 hv3
    subst hv3
    exact h1
theorem rowLt {W : World} {base : Nat} {e : TypeId} {size n cap g : Nat} {xs : List Value} (h : W.ownsRow base e size (.slice (some ⟨g, 0, none⟩) n cap) n xs) : g < W.heap.size := (World.ownsRow.lt h g rfl).2
theorem Hp.rowPut {w W : World} {X : List Nat} {rs : List Rs} (h : Hp w X rs W) {i : Nat} {e : TypeId} {size n cap g : Nat} {xs : List Value} (hi : rs[i]? = some (.row e size (.slice (some ⟨g, 0, none⟩) n cap) n xs)) (j : Nat) (u : Value) :
    Hp w X (rs.set i (.row e size (.slice (some ⟨g, 0, none⟩) n cap) n (xs.set j u))) (W.setCell ⟨g, j, none⟩ u) :=
  h.upd hi _ fun fp hr => by
    obtain ⟨hr, rfl⟩ := hr
    refine ⟨[g], ⟨rowSet hr j u, rfl⟩, by simp, (Keeps.refl _ _).setCell (p := ⟨g, j, none⟩) (Or.inl (by simp [Value.ownBlock])) _, ?_⟩
    intro b hb
    simp at hb; subst hb
    have := rowLt hr
    exact ⟨by simpa [World.setCell] using this, Or.inl (by simp [Value.ownBlock])⟩
/-- copy of m elements of any size into a block that is known whole -/
theorem run_copy_rowN {P : Program} (w : World) (dT sT ty elem : TypeId) (g o dLen dCap : Nat) (a : Addr) (sLen sCap : Nat) (cur : Array Value) (t : TypeId) (cs : List Value) (k m : Nat)
    (hu : P.underlying dT = some (.slice elem)) (hs : (P.info? elem).map (·.size) = some k)
    (hg : w.heap[g]? = some (.cells cur t (0, 0))) (hm : m = Nat.min sLen dLen) (hn : cs.length = m * k)
    (hsrc : ∀ j v, cs[j]? = some v → w.cell? (a.add j) = some v) (hfit : o + cs.length ≤ cur.size) (h1 : ∀ v ∈ cs, v.oneCell' = true) :
    (Builtin.copy_ #[dT, sT] ty #[.slice (some ⟨g, o, none⟩) dLen dCap, .slice (some a) sLen sCap]).run P w =
      .ok (goInt m) (w.setRow g (splice cur.toList o cs).toArray) := by
  have hl := run_loadCells_list (P := P) w a cs hsrc
  have hst := run_storeCells_at P g o t cs 0 cur w hg (by simpa using hfit) h1
  cases hq : P.info? elem with
  | none => simp [hq] at hs
  | some i =>
    have hi : i.size = k := by simpa [hq] using hs
    rw [hn] at hl
    simp [Builtin.copy_, run_underlying hu, Builtin.lenOf, Builtin.firstCells, sizeOf, typeInfo, hq, hi, ← hm, hl, hst, splice]
theorem take_splice2 {α : Type} (Z A B C : List α) (a b c : Nat) (hA : Z.take a = A) (ha : A.length = a) (hb : B.length = b) (hc : C.length = c) (hZ : a + b + c ≤ Z.length) : (splice (splice Z (a + b) C) a B).take (a + b + c) = A ++ (B ++ C) := by
  subst hb hc
  unfold splice
  have e1 : (Z.take (a + B.length)).length = a + B.length := by rw [List.length_take]; omega
  have e2 : (Z.take (a + B.length) ++ (C ++ Z.drop (a + B.length + C.length))).take a = A := by
    rw [List.take_append_of_le_length (by omega), List.take_take, Nat.min_eq_left (by omega), hA]
  have e3 : (Z.take (a + B.length) ++ (C ++ Z.drop (a + B.length + C.length))).drop (a + B.length) = C ++ Z.drop (a + B.length + C.length) := by
    rw [List.drop_left' e1]
  rw [e2, e3, ← List.append_assoc, ← List.append_assoc, List.take_left' (by simp; omega), List.append_assoc]
theorem take_splice3 {α : Type} (Z A B C : List α) (a b c : Nat) (hA : Z.take a = A) (ha : A.length = a) (hb : B.length = b) (hc : C.length = c) (hZ : a + b + c ≤ Z.length) : (splice (splice Z a B) (a + b) C).take (a + b + c) = A ++ (B ++ C) := by
  subst hb hc
  unfold splice
  rw [hA]
  have e2 : (A ++ (B ++ Z.drop (a + B.length))).take (a + B.length) = A ++ B := by
    rw [← List.append_assoc, List.take_left' (by simp; omega)]
  rw [e2, ← List.append_assoc, List.take_left' (by simp; omega), List.append_assoc]
theorem length_splice2 {α : Type} (Z B C : List α) (a b : Nat) (h1 : a + C.length ≤ Z.length) (h2 : b + B.length ≤ Z.length) : (splice (splice Z a C) b B).length = Z.length := by
  rw [length_splice _ _ _ (by rw [length_splice _ _ _ h1]; exact h2), length_splice _ _ _ h1]
end Go.Proofs.YtcdcipfojfnblaaGreatDoor
