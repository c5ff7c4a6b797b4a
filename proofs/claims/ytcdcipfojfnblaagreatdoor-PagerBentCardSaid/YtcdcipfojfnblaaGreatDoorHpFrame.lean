/- What a call holds, and a callee that turns some of it: the first things of a list, or two of them. No condition. -/
import Derived.Test.YtcdcipfojfnblaaGreatDoorHpTurn
namespace Go.Proofs.YtcdcipfojfnblaaGreatDoor
open Go.RowKit
set_option linter.unusedVariables false

theorem All2.split {α β : Type} {R : α → β → Prop} : ∀ {l m : List α} {bs : List β}, All2 R (l ++ m) bs → ∃ ps qs, bs = ps ++ qs ∧ All2 R l ps ∧ All2 R m qs
  | [], m, bs, h => ⟨[], bs, rfl, .nil, h⟩
  | a :: l, m, _, .cons h t => by
    obtain ⟨ps, qs, rfl, h1, h2⟩ := All2.split (l := l) t
    exact ⟨_ :: ps, qs, rfl, .cons h h1, h2⟩
theorem All2.join {α β : Type} {R : α → β → Prop} : ∀ {l m : List α} {ps qs : List β}, All2 R l ps → All2 R m qs → All2 R (l ++ m) (ps ++ qs)
  | _, _, _, _, .nil, k => k
  | _, _, _, _, .cons h t, k => .cons h (t.join k)
namespace Hp
variable {w W W' : World} {X : List Nat} {rs l l' : List Rs}
theorem get (h : Hp w X rs W) {i : Nat} {r : Rs} (hi : rs[i]? = some r) : ∃ fp, r.holds W fp := by
  obtain ⟨fps, h1, _⟩ := h
  obtain ⟨fp, _, hr⟩ := h1.get hi
  exact ⟨fp, hr⟩
/-- the callee holds the first things, and turns them -/
theorem frame (h : Hp w X (l ++ rs) W) : ∃ fp, Hp W fp l W ∧ ∀ l' W', Hp W fp l' W' → Hp w X (l' ++ rs) W' := by
  have h0 := h
  obtain ⟨fps, h1, h2, h3, h4⟩ := h
  obtain ⟨ps, qs, rfl, a1, a2⟩ := h1.split
  rw [List.flatten_append] at h2 h3
  rw [List.nodup_append] at h2
  obtain ⟨n1, n2, n3⟩ := h2
  refine ⟨ps.flatten, ⟨ps, a1, n1, fun b hb => ⟨(h3 b (List.mem_append.2 (Or.inl hb))).1, Or.inl hb⟩, Keeps.refl _ _⟩, ?_⟩
  rintro l' W' ⟨ps', b1, b2, b3, b4⟩
  have hk := h0.keepsOut b4 (fun y hy => (h3 y (List.mem_append.2 (Or.inl hy))).2)
  refine ⟨ps' ++ qs, b1.join (a2.imp fun r fp hfp hr => Rs.stable hr fun b hb => ?_), ?_, ?_, hk⟩
  · have hq : b ∈ qs.flatten := List.mem_flatten.2 ⟨fp, hfp, hb⟩
    have := (h3 b (List.mem_append.2 (Or.inr hq))).1
    exact ⟨this, b4.block b this (fun hp => n3 b hp b hq rfl)⟩
  · rw [List.flatten_append, List.nodup_append]
    refine ⟨b2, n2, ?_⟩
    intro a ha b hb e
    subst e
    have := (h3 a (List.mem_append.2 (Or.inr hb))).1
    rcases (b3 a ha).2 with h5 | h5
    · exact n3 a h5 a hb rfl
    · omega
  · intro b hb
    rw [List.flatten_append, List.mem_append] at hb
    rcases hb with hb | hb
    · refine ⟨(b3 b hb).1, ?_⟩
      rcases (b3 b hb).2 with h5 | h5
      · exact (h3 b (List.mem_append.2 (Or.inl h5))).2
      · exact Or.inr (Nat.le_trans h4.size h5)
    · exact ⟨Nat.lt_of_lt_of_le (h3 b (List.mem_append.2 (Or.inr hb))).1 b4.size, (h3 b (List.mem_append.2 (Or.inr hb))).2⟩
theorem pull (rs : List Rs) : ∀ (i : Nat) (r : Rs), rs[i]? = some r → ∃ rest, rs.Perm (r :: rest) ∧ ∀ r', (rs.set i r').Perm (r' :: rest) := by
  induction rs with
  | nil => intro i r h; simp at h
  | cons a rs ih =>
    intro i r h
    cases i with
    | zero => simp at h; subst h; exact ⟨rs, List.Perm.refl _, fun r' => List.Perm.refl _⟩
    | succ i =>
      obtain ⟨rest, p, q⟩ := ih i r (by simpa using h)
      exact ⟨a :: rest, (p.cons a).trans (List.Perm.swap _ _ _), fun r' => ((q r').cons a).trans (List.Perm.swap _ _ _)⟩
theorem pull2 (rs : List Rs) : ∀ (i j : Nat) (a b : Rs), rs[i]? = some a → rs[j]? = some b → i ≠ j → ∃ rest, rs.Perm (a :: b :: rest) ∧ ∀ a' b', ((rs.set i a').set j b').Perm (a' :: b' :: rest) := by
  induction rs with
  | nil => intro i j a b h; simp at h
  | cons x rs ih =>
    intro i j a b hi hj hij
    match i, j with
    | 0, 0 => exact absurd rfl hij
    | 0, j + 1 =>
      simp at hi; subst hi
      obtain ⟨rest, p, q⟩ := pull rs j b (by simpa using hj)
      exact ⟨rest, p.cons _, fun a' b' => (q b').cons _⟩
    | i + 1, 0 =>
      simp at hj; subst hj
      obtain ⟨rest, p, q⟩ := pull rs i a (by simpa using hi)
      exact ⟨rest, (p.cons _).trans (List.Perm.swap _ _ _), fun a' b' => ((q a').cons _).trans (List.Perm.swap _ _ _)⟩
    | i + 1, j + 1 =>
      obtain ⟨rest, p, q⟩ := ih i j a b (by simpa using hi) (by simpa using hj) (by omega)
      refine ⟨x :: rest, (p.cons x).trans ?_, fun a' b' => ((q a' b').cons x).trans ?_⟩
      · exact (List.Perm.swap _ _ _).trans ((List.Perm.swap _ _ _).cons _)
      · exact (List.Perm.swap _ _ _).trans ((List.Perm.swap _ _ _).cons _)
/-- the callee holds two things, and turns them -/
theorem frame2 (h : Hp w X rs W) {i j : Nat} {a b : Rs} (hi : rs[i]? = some a) (hj : rs[j]? = some b) (hij : i ≠ j) : ∃ fp, Hp W fp [a, b] W ∧ ∀ a' b' W', Hp W fp [a', b'] W' → Hp w X ((rs.set i a').set j b') W' := by
  obtain ⟨rest, p, q⟩ := pull2 rs i j a b hi hj hij
  obtain ⟨fp, h1, h2⟩ := (show Hp w X ([a, b] ++ rest) W from h.perm p).frame
  exact ⟨fp, h1, fun a' b' W' h' => (h2 _ _ h').perm (q a' b').symm⟩
/-- the callee holds one thing, and turns it -/
theorem frame1 (h : Hp w X rs W) {i : Nat} {a : Rs} (hi : rs[i]? = some a) : ∃ fp, Hp W fp [a] W ∧ ∀ a' W', Hp W fp [a'] W' → Hp w X (rs.set i a') W' := by
  obtain ⟨rest, p, q⟩ := pull rs i a hi
  obtain ⟨fp, h1, h2⟩ := (show Hp w X ([a] ++ rest) W from h.perm p).frame
  exact ⟨fp, h1, fun a' W' h' => (h2 _ _ h').perm (q a').symm⟩
/-- a thing is brought to the front -/
theorem front (h : Hp w X rs W) (i : Nat) {r : Rs} (hi : rs[i]? = some r) : Hp w X (r :: rs.eraseIdx i) W := by
  refine h.perm ?_
  clear h
  induction rs generalizing i with
  | nil => simp at hi
  | cons a rs ih =>
    cases i with
    | zero => simp at hi; subst hi; simp
    | succ i => exact ((ih i (by simpa using hi)).cons a).trans (by rw [List.eraseIdx_cons_succ]; exact List.Perm.swap _ _ _)
end Hp
end Go.Proofs.YtcdcipfojfnblaaGreatDoor
