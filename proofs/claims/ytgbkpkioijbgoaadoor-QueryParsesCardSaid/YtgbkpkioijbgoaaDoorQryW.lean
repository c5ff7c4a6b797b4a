/- The words of a text that is not too long: how great they are, and which is the last. No condition. -/
import Derived.Test.YtgbkpkioijbgoaaDoorQry1
namespace Go.Proofs.YtgbkpkioijbgoaaDoor.qry
open lex (W wordsF wordsL wordAt numScan numScan_ge txtScan_ge wordAt_len)
set_option linter.unusedVariables false
def okW (x : W) : Prop := x.n ≤ 9223372036854775807 ∧ x.s.length ≤ 1000 ∧ x.pos ≤ 1000
theorem numScan_le : ∀ (l : List UInt8) (n k m j : Nat), n ≤ 9223372036854775807 → numScan l n k = some (m, j) → m ≤ 9223372036854775807
  | [], n, k, m, j, hn, h => by simp [numScan] at h; omega
  | c :: r, n, k, m, j, hn, h => by
    rw [numScan] at h
    split at h
    · rename_i hd
      split at h
      · cases h
      · rename_i hle
        have h48 : c.toNat - 48 ≤ 9 := by simp [lex.digB] at hd; omega
        exact numScan_le r _ _ m j (by omega) h
    · split at h
      · cases h
      · simp at h; omega
theorem wordAt_ok (l : List UInt8) (pos : Nat) (x : W) (k : Nat) (hl : l.length ≤ 1000) (hp : pos ≤ 1000) (h : wordAt l pos = some (x, k)) : okW x := by
  match l, h with
  | [], h => simp [wordAt] at h
  | c :: r, h =>
    simp only [wordAt] at h
    split at h
    · simp only [Option.some.injEq, Prod.mk.injEq] at h
      obtain ⟨rfl, _⟩ := h
      refine ⟨Nat.zero_le _, ?_, hp⟩
      show (List.take _ (c :: r)).length ≤ 1000
      rw [List.length_take]; omega
    · split at h
      · rw [Option.map_eq_some_iff] at h
        obtain ⟨⟨m, j⟩, h1, h2⟩ := h
        simp only [Prod.mk.injEq] at h2
        obtain ⟨rfl, _⟩ := h2
        exact ⟨numScan_le _ _ _ _ _ (by decide) h1, Nat.zero_le _, hp⟩
      · split at h
        · rw [Option.map_eq_some_iff] at h
          obtain ⟨⟨t, j⟩, h1, h2⟩ := h
          simp only [Prod.mk.injEq] at h2
          obtain ⟨rfl, _⟩ := h2
          have := (txtScan_ge _ _ _ _ _ _ h1).2.2
          refine ⟨Nat.zero_le _, ?_, hp⟩
          show t.length ≤ 1000
          simp at this hl; omega
        · split at h
          · simp at h
          · simp only [Option.some.injEq, Prod.mk.injEq] at h
            obtain ⟨rfl, _⟩ := h
            refine ⟨Nat.zero_le _, ?_, hp⟩
            show (List.take _ (c :: r)).length ≤ 1000
            rw [List.length_take]; omega
theorem wordsF_ok : ∀ (f : Nat) (l : List UInt8) (pos : Nat) (acc ws : List W) (e : Nat), pos + l.length ≤ 1000 → (∀ x ∈ acc, okW x) → wordsF f l pos acc = (some ws, e) → (∃ ys p, ws = ys ++ [⟨0, [], 0, p⟩]) ∧ (∀ x ∈ ws, okW x) ∧ e = 0
  | 0, l, pos, acc, ws, e, hl, ha, h => by
    simp only [wordsF, Prod.mk.injEq, Option.some.injEq] at h
    obtain ⟨rfl, rfl⟩ := h
    refine ⟨⟨acc, pos, rfl⟩, fun x hx => ?_, rfl⟩
    rcases List.mem_append.1 hx with h | h
    · exact ha x h
    · rw [List.mem_singleton.1 h]; exact ⟨Nat.zero_le _, Nat.zero_le _, by show pos ≤ 1000; omega⟩
  | f + 1, [], pos, acc, ws, e, hl, ha, h => by
    simp only [wordsF, Prod.mk.injEq, Option.some.injEq] at h
    obtain ⟨rfl, rfl⟩ := h
    refine ⟨⟨acc, pos, rfl⟩, fun x hx => ?_, rfl⟩
    rcases List.mem_append.1 hx with h | h
    · exact ha x h
    · rw [List.mem_singleton.1 h]; exact ⟨Nat.zero_le _, Nat.zero_le _, by show pos ≤ 1000; simp at hl; omega⟩
  | f + 1, c :: r, pos, acc, ws, e, hl, ha, h => by
    simp only [wordsF] at h
    simp only [List.length_cons] at hl
    split at h
    · exact wordsF_ok f r (pos + 1) acc ws e (by omega) ha h
    · cases hw : wordAt (c :: r) pos with
      | none => rw [hw] at h; simp at h
      | some z =>
        obtain ⟨x, k⟩ := z
        rw [hw] at h
        simp only at h
        have hk := wordAt_len _ _ _ _ hw
        have hx := wordAt_ok (c :: r) pos x k (by simp; omega) (by omega) hw
        simp only [List.length_cons] at hk
        exact wordsF_ok f _ (pos + k) (acc ++ [x]) ws e (by rw [List.length_drop, List.length_cons]; omega) (fun y hy => by
          rcases List.mem_append.1 hy with h2 | h2
          · exact ha y h2
          · rw [List.mem_singleton.1 h2]; exact hx) h
theorem words_wf (l : List UInt8) (ws : List W) (e : Nat) (hl : l.length ≤ 1000) (hw : wordsL l = (some ws, e)) (hn : ws.length ≤ 1001) : Wf ws ∧ ws ≠ [] ∧ e = 0 := by
  obtain ⟨⟨ys, p, rfl⟩, h2, h3⟩ := wordsF_ok _ _ _ _ _ _ (by omega) (by simp) hw
  refine ⟨⟨hn, fun i x hx hi => ?_, fun x hx => (h2 x hx).1, fun x hx => (h2 x hx).2.1, fun x hx => (h2 x hx).2.2⟩, by simp, h3⟩
  have : i = ys.length := by simp at hi; exact hi
  subst this
  simp at hx
  rw [← hx]
end Go.Proofs.YtgbkpkioijbgoaaDoor.qry
