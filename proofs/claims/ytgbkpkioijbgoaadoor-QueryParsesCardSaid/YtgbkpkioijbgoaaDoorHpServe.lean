/- What a call holds: a box that a callee is lent, and what comes back in its place; a thing brought to the front. No condition. -/
import Derived.Test.YtgbkpkioijbgoaaDoorHp
namespace Go.Proofs.YtgbkpkioijbgoaaDoor
open Go.RowKit
set_option linter.unusedVariables false

theorem all2_join {α β : Type} {R : α → β → Prop} : ∀ {l m : List α} {ps qs : List β}, All2 R l ps → All2 R m qs → All2 R (l ++ m) (ps ++ qs)
  | _, _, _, _, .nil, k => k
  | _, _, _, _, .cons h t, k => .cons h (all2_join t k)
/-- the callee is lent the first box; what it hands back stands in its place -/
theorem hpServe {w W W' : World} {X : List Nat} {rs l' : List Rs} {g : Nat} {cs : Array Value} {t : TypeId} (h : Hp w X (.box g cs t :: rs) W) (k : Hp W [g] l' W') : Hp w X (l' ++ rs) W' := by
  have h0 := h
  obtain ⟨fps, h1, h2, h3, h4⟩ := h
  cases h1 with
  | cons ha hb =>
    rename_i fp qs
    obtain ⟨_, rfl⟩ := ha
    obtain ⟨ps', b1, b2, b3, b4⟩ := k
    rw [List.flatten_cons] at h2 h3
    rw [List.nodup_append] at h2
    obtain ⟨n1, n2, n3⟩ := h2
    have hk := h0.keepsOut b4 (fun y hy => (h3 y (List.mem_append.2 (Or.inl hy))).2)
    refine ⟨ps' ++ qs, all2_join b1 (hb.imp fun r fp hfp hr => Rs.stable hr fun b hb => ?_), ?_, ?_, hk⟩
    · have hq : b ∈ qs.flatten := List.mem_flatten.2 ⟨fp, hfp, hb⟩
      have := (h3 b (List.mem_append.2 (Or.inr hq))).1
      exact ⟨this, b4.block b this (fun hp => n3 b hp b hq rfl)⟩
    · rw [List.flatten_append, List.nodup_append]
      refine ⟨b2, n2, ?_⟩
      intro a ha b hb e
      subst e
      have := (h3 a (List.mem_append.2 (Or.inr hb))).1
      rcases (b3 a ha).2 with h5 | h5
      · exact n3 a h5 a hb rfl
      · omega
    · intro b hb
      rw [List.flatten_append, List.mem_append] at hb
      rcases hb with hb | hb
      · refine ⟨(b3 b hb).1, ?_⟩
        rcases (b3 b hb).2 with h5 | h5
        · exact (h3 b (List.mem_append.2 (Or.inl h5))).2
        · exact Or.inr (Nat.le_trans h4.size h5)
      · exact ⟨Nat.lt_of_lt_of_le (h3 b (List.mem_append.2 (Or.inr hb))).1 b4.size, (h3 b (List.mem_append.2 (Or.inr hb))).2⟩
/-- a thing is brought to the front -/
theorem hpFirst {w W : World} {X : List Nat} {rs : List Rs} (h : Hp w X rs W) (i : Nat) {r : Rs} (hi : rs[i]? = some r) : Hp w X (r :: rs.eraseIdx i) W := by
  refine h.perm ?_
  clear h
  induction rs generalizing i with
  | nil => simp at hi
  | cons a rs ih =>
    cases i with
    | zero => simp at hi; subst hi; simp
    | succ i => exact ((ih i (by simpa using hi)).cons a).trans (by rw [List.eraseIdx_cons_succ]; exact List.Perm.swap _ _ _)
end Go.Proofs.YtgbkpkioijbgoaaDoor
