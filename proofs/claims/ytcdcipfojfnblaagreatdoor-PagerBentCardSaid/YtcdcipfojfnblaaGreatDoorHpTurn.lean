/- What a call holds, once more: a thing that a callee turns; a box with the slice in it, and the slice's row, as one thing. No condition. -/
import Derived.Test.YtcdcipfojfnblaaGreatDoorRowSet
namespace Go.Proofs.YtcdcipfojfnblaaGreatDoor
open Go.RowKit
set_option linter.unusedVariables false

theorem Hp.turn {w W W' : World} {X : List Nat} {rs : List Rs} {i : Nat} {r r' : Rs} (h : Hp w X rs W) (hi : rs[i]? = some r) (H : ∀ fp, r.holds W fp → Hp W fp [r'] W') : Hp w X (rs.set i r') W' :=
  h.upd hi r' fun fp hr => by
    obtain ⟨fps, h1, h2, h3, h4⟩ := H fp hr
    cases h1 with
    | cons ha hb =>
      cases hb
      simp only [List.flatten_cons, List.flatten_nil, List.append_nil] at h2 h3
      exact ⟨_, ha, h2, h4, h3⟩
theorem Hp.lendRow {w : World} {e : TypeId} {size n : Nat} {v : Value} {xs : List Value} (h : w.ownsRow 0 e size v n xs) : Hp w v.ownBlock.toList [.row e size v n xs] w := by
  refine ⟨[v.ownBlock.toList], .cons ⟨h, rfl⟩ .nil, ?_, ?_, Keeps.refl _ _⟩
  · cases v.ownBlock <;> simp
  · intro b hb
    simp only [List.flatten_cons, List.flatten_nil, List.append_nil] at hb
    refine ⟨?_, Or.inl hb⟩
    cases hv : v.ownBlock with
    | none => rw [hv] at hb; simp at hb
    | some g =>
      rw [hv] at hb; simp at hb; subst hb
      exact (World.ownsRow.lt h _ hv).2
/-- a box with a slice in it, and that slice's row -/
def BxRow (t e : TypeId) (size : Nat) (d n : Nat) (xs : List Value) (W : World) (fp : List Nat) : Prop :=
  ∃ v, W.heap[d]? = some (.cells #[v] t (0, 0)) ∧ W.ownsRow 0 e size v n xs ∧ fp = d :: v.ownBlock.toList ∧ fp.Nodup
theorem BxRow.keep {t e : TypeId} {size d n : Nat} {xs : List Value} (W W' : World) (fp : List Nat) (h : BxRow t e size d n xs W fp) (hb : ∀ b, b ∈ fp → b < W.heap.size ∧ W'.heap[b]? = W.heap[b]?) : BxRow t e size d n xs W' fp := by
  obtain ⟨v, h1, h2, rfl, h4⟩ := h
  exact ⟨v, ((hb d (by simp)).2).trans h1, ownsRow_of_block h2 (fun g hg => (hb g (by rw [hg]; simp)).2), rfl, h4⟩
def Rs.bxrow (t e : TypeId) (size : Nat) (d n : Nat) (xs : List Value) : Rs := .gen (BxRow t e size d n xs) BxRow.keep
theorem Hp.openRow {w : World} {fp : List Nat} {t e : TypeId} {size d n : Nat} {xs : List Value} (h : (Rs.bxrow t e size d n xs).holds w fp) : ∃ v, Hp w fp [.box d #[v] t, .row e size v n xs] w := by
  obtain ⟨v, h1, h2, rfl, h4⟩ := h
  refine ⟨v, [[d], v.ownBlock.toList], .cons ⟨h1, rfl⟩ (.cons ⟨h2, rfl⟩ .nil), by simpa using h4, ?_, Keeps.refl _ _⟩
  intro b hb
  have hb : b ∈ d :: v.ownBlock.toList := by simpa using hb
  refine ⟨?_, Or.inl hb⟩
  rcases List.mem_cons.1 hb with rfl | hb
  · exact block_lt h1
  · cases hv : v.ownBlock with
    | none => rw [hv] at hb; simp at hb
    | some g =>
      rw [hv] at hb; simp at hb; subst hb
      exact (World.ownsRow.lt h2 _ hv).2
theorem Hp.shutRow {w W : World} {X : List Nat} {t e : TypeId} {size d n : Nat} {v : Value} {xs : List Value} (h : Hp w X [.box d #[v] t, .row e size v n xs] W) : Hp w X [Rs.bxrow t e size d n xs] W := by
  obtain ⟨fps, h1, h2, h3, h4⟩ := h
  cases h1 with
  | cons ha hb =>
    cases hb with
    | cons hc hd =>
      cases hd
      obtain ⟨ha1, rfl⟩ := ha
      obtain ⟨hc1, rfl⟩ := hc
      have e1 : [[d], v.ownBlock.toList].flatten = d :: v.ownBlock.toList := by simp
      rw [e1] at h2 h3
      exact ⟨[d :: v.ownBlock.toList], .cons ⟨v, ha1, hc1, rfl, h2⟩ .nil, by simpa using h2, by simpa using h3, h4⟩
theorem keeps_setRow {w W : World} {X : List Nat} (h : Keeps X w W) {g : Nat} (hg : g ∈ X ∨ w.heap.size ≤ g) (cs : Array Value) : Keeps X w (W.setRow g cs) :=
  ⟨h.os, h.tape, h.output, by simpa [World.setRow] using h.size, fun k hk hx => by
    have : k ≠ g := by
      rintro rfl
      rcases hg with hg | hg
      · exact hx hg
      · omega
    rw [setRow_other W g k cs this]
    exact h.block k hk hx⟩
end Go.Proofs.YtcdcipfojfnblaaGreatDoor
