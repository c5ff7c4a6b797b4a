/- Who waits for whom: what Set makes of a list. No condition but the graph's own. -/
import Derived.Test.YtmlphodmbkceoabWait2
namespace Go.Proofs.Ytmlphodmbkceoab.wait
open Go.RowKit
open Go.Sort
attribute [local go_sem ↓] Go.wp_at_zero Go.wp_at_succ
set_option linter.unusedVariables false
set_option maxRecDepth 100000

theorem compact_inv (d : Array Int) (hs : ∀ i j, i < j → j < d.size → d[i]! ≤ d[j]!) : ∀ m, m ≤ d.size → (Lib.compactUpTo d m).Pairwise (· < ·) ∧ (∀ x, x ∈ Lib.compactUpTo d m → 0 < m ∧ x ≤ d[m - 1]!) ∧ ∀ x, x ∈ Lib.compactUpTo d m ↔ ∃ i, i < m ∧ d[i]! = x
  | 0, _ => by
    have : Lib.compactUpTo d 0 = [] := rfl
    rw [this]; simp
  | m + 1, hm => by
    obtain ⟨h1, h2, h3⟩ := compact_inv d hs m (by omega)
    rw [Lib.compactUpTo_succ]
    by_cases hk : Lib.keeps d m = true
    · rw [if_pos hk]
      have hlt : ∀ x, x ∈ Lib.compactUpTo d m → x < d[m]! := by
        intro x hx
        obtain ⟨h4, h5⟩ := h2 x hx
        have h6 := hs (m - 1) m (by omega) (by omega)
        have h7 : d[m]! ≠ d[m - 1]! := by
          have : m = 0 ∨ d[m]! ≠ d[m - 1]! := by simpa [Lib.keeps] using hk
          exact this.resolve_left (by omega)
        omega
      refine ⟨?_, ?_, ?_⟩
      · rw [List.pairwise_append]
        exact ⟨h1, by simp, fun a ha b hb => by simp at hb; subst hb; exact hlt a ha⟩
      · intro x hx
        refine ⟨by omega, ?_⟩
        rw [show m + 1 - 1 = m by omega]
        rcases List.mem_append.1 hx with hx | hx
        · have := hlt x hx; omega
        · simp at hx; omega
      · intro x
        rw [List.mem_append, h3]
        constructor
        · rintro (⟨i, hi, rfl⟩ | hx)
          · exact ⟨i, by omega, rfl⟩
          · simp at hx; exact ⟨m, by omega, hx.symm⟩
        · rintro ⟨i, hi, rfl⟩
          by_cases him : i = m
          · subst him; right; simp
          · left; exact ⟨i, by omega, rfl⟩
    · rw [if_neg hk, List.append_nil]
      have hm0 : m ≠ 0 ∧ d[m]! = d[m - 1]! := by
        have : ¬ (m = 0 ∨ d[m]! ≠ d[m - 1]!) := by simpa [Lib.keeps] using hk
        refine ⟨fun h => this (.inl h), ?_⟩
        by_cases h : d[m]! = d[m - 1]!
        · exact h
        · exact absurd (.inr h) this
      refine ⟨h1, ?_, ?_⟩
      · intro x hx
        refine ⟨by omega, ?_⟩
        rw [show m + 1 - 1 = m by omega, hm0.2]
        exact (h2 x hx).2
      · intro x
        rw [h3]
        constructor
        · rintro ⟨i, hi, rfl⟩
          exact ⟨i, by omega, rfl⟩
        · rintro ⟨i, hi, rfl⟩
          by_cases him : i = m
          · subst him; exact ⟨i - 1, by omega, hm0.2.symm⟩
          · exact ⟨i, by omega, rfl⟩
theorem sortZ_spec (zs : List Int) : (sortZ zs).Pairwise (· < ·) ∧ ∀ x, x ∈ sortZ zs ↔ x ∈ zs := by
  obtain ⟨d, hd⟩ : ∃ d : List Int, d = zs.mergeSort (fun x y => decide (x ≤ y)) := ⟨_, rfl⟩
  have hp : d.Pairwise fun a b => decide (a ≤ b) = true := by
    rw [hd]
    exact List.pairwise_mergeSort (fun a b c h k => by simp at h k ⊢; omega) (fun a b => by simp; omega) zs
  have hm : ∀ x, x ∈ d ↔ x ∈ zs := fun x => by rw [hd]; exact List.mem_mergeSort
  have hs : ∀ i j, i < j → j < d.toArray.size → d.toArray[i]! ≤ d.toArray[j]! := by
    intro i j hij hj
    have hj2 : j < d.length := by simpa using hj
    have := List.pairwise_iff_getElem.1 hp i j (by omega) hj2 hij
    simp only [List.getElem!_toArray]
    rw [getElem!_pos d i (by omega), getElem!_pos d j hj2]
    simpa using this
  have hc := compact_inv d.toArray hs d.length (by simp)
  have he : sortZ zs = Lib.compactUpTo d.toArray d.length := by unfold sortZ Lib.compact; rw [← hd]
  rw [he]
  refine ⟨hc.1, fun x => ?_⟩
  rw [hc.2.2, ← hm]
  constructor
  · rintro ⟨i, hi, rfl⟩
    simp only [List.getElem!_toArray]
    rw [getElem!_pos d i hi]; exact List.getElem_mem hi
  · intro hx
    obtain ⟨i, hi, rfl⟩ := List.mem_iff_getElem.1 hx
    refine ⟨i, hi, ?_⟩
    simp only [List.getElem!_toArray]
    rw [getElem!_pos d i hi]
/-- what Set lays -/
def setL (who : Nat) (zs : List Int) : List Nat := (sortZ (pick who zs)).map Int.toNat
theorem pick_mem {who : Nat} {zs : List Int} {x : Int} : x ∈ pick who zs ↔ x ∈ zs ∧ 0 ≤ x ∧ x < 16 ∧ x ≠ (who : Int) := by
  unfold pick okZ
  rw [List.mem_filter]
  simp [Bool.and_eq_true]
  intro _; omega
theorem setL_cells (who : Nat) (zs : List Int) : nums (setL who zs) = (sortZ (pick who zs)).map (Value.int .i64) := by
  unfold nums setL
  rw [List.map_map]
  apply List.map_congr_left
  intro x hx
  have := pick_mem.1 (((sortZ_spec _).2 x).1 hx)
  simp only [Function.comp]
  congr 1
  omega
theorem setL_mem (who : Nat) (zs : List Int) (n : Nat) : n ∈ setL who zs ↔ (n : Int) ∈ zs ∧ n < 16 ∧ n ≠ who := by
  unfold setL
  rw [List.mem_map]
  constructor
  · rintro ⟨x, hx, rfl⟩
    have := pick_mem.1 (((sortZ_spec _).2 x).1 hx)
    rw [show ((x.toNat : Nat) : Int) = x by omega]
    exact ⟨this.1, by omega, by omega⟩
  · rintro ⟨h1, h2, h3⟩
    exact ⟨(n : Int), ((sortZ_spec _).2 _).2 (pick_mem.2 ⟨h1, by omega, by omega, by omega⟩), by simp⟩
theorem setL_sorted (who : Nat) (zs : List Int) : (setL who zs).Pairwise (· < ·) := by
  unfold setL
  rw [List.pairwise_map]
  refine (sortZ_spec (pick who zs)).1.imp_of_mem ?_
  intro a b ha hb hab
  have h1 := pick_mem.1 (((sortZ_spec _).2 a).1 ha)
  omega
theorem up_len : ∀ (l : List Nat) (m k : Nat), l.Pairwise (· < ·) → (∀ x, x ∈ l → m ≤ x ∧ x < m + k) → l.length ≤ k
  | [], m, k, _, _ => Nat.zero_le _
  | x :: l, m, k, hp, h => by
    have hx := h x (by simp)
    have := up_len l (m + 1) (k - 1) (List.pairwise_cons.1 hp).2 (fun y hy => by
      have h1 := (List.pairwise_cons.1 hp).1 y hy
      have h2 := h y (by simp [hy])
      omega)
    simp; omega
theorem setL_len (who : Nat) (zs : List Int) : (setL who zs).length ≤ 16 :=
  up_len _ 0 16 (setL_sorted who zs) fun x hx => by have := (setL_mem who zs x).1 hx; omega
theorem pick_take {who : Nat} {zs : List Int} {k : Nat} {z : Int} (h : zs[k]? = some z) : pick who (zs.take (k + 1)) = pick who (zs.take k) ++ if okZ who z then [z] else [] := by
  unfold pick
  rw [List.take_add_one, h, List.filter_append]
  simp [List.filter_cons]
end Go.Proofs.Ytmlphodmbkceoab.wait
