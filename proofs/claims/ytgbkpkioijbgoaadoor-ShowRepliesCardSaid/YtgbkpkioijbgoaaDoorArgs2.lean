/- How a law's slice arguments are opened where the reach bounds them: each element's cells, what they hold, and how great they are. No condition. -/
import Derived.Test.YtgbkpkioijbgoaaDoorArgs
import Derived.SizedLaws
namespace Go.Proofs.YtgbkpkioijbgoaaDoor
open Go.RowKit Go.ChangeShapes Go.WideShapes
set_option linter.unusedVariables false
set_option maxRecDepth 100000

theorem weightsAll_mem {H : Type} {P : Program} {e : TypeId} : ∀ {l : List (DataW H)} {d : DataW H}, d ∈ l → ∀ n ∈ d.weights P e, n ∈ DataW.weightsAll P e l
  | [], d, h, _, _ => by simp at h
  | x :: l, d, h, n, hn => by
    simp only [DataW.weightsAll, List.mem_append]
    rcases List.mem_cons.1 h with rfl | h
    · exact .inl hn
    · exact .inr (weightsAll_mem h n hn)
theorem sliceArg_ofS {H : Type} {enc : TypeId × Value → H} {P : Program} {w : World} {spare : Nat → Bool} {t e : TypeId} {a : Option Addr} {len cap n : Nat} {d : DataW H} {p : List MemPlace} {Q : Nat → Value → Prop}
    (ht : P.underlying t = some (.slice e)) (hn : P.cellsOf e = n) (hn0 : 0 < n) (hlt : ∀ x ∈ p, x.block < w.heap.size) (h : DataW.Trod enc P w 0 spare true t (.slice a len cap) d p) (hw : ∀ n ∈ d.weights P t, n ≤ reachBytes)
    (hQ : ∀ m cs' y, DataW.trod enc P w 0 spare true m e cs' = some y → (∀ n ∈ y.1.weights P e, n ≤ reachBytes) → ∀ j, j < n → ∃ v, cs'[j]? = some v ∧ Q j v) : SliceArg w a len n Q ∧ len * P.bytesOf e ≤ reachBytes := by
  obtain ⟨fuel, hf⟩ := h
  rcases Go.Deep.open_slice ht hf with ⟨hcs, _⟩ | ⟨ad, l, c, m, k, D, Pl, hcs, _, hl, hm, hmm, hx, hi⟩
  · simp [Value.cells] at hcs
    exact ⟨⟨by omega, Or.inl hcs.2.1⟩, by rw [hcs.2.1, Nat.zero_mul]; exact Nat.zero_le _⟩
  · simp [Value.cells] at hcs
    obtain ⟨rfl, rfl, rfl⟩ := hcs
    have hd : d = .slice ((List.range len).map D) ((List.range (m - len)).map fun j => D (len + j)) := congrArg Prod.fst hx
    rw [hd] at hw
    have hbig : len * P.bytesOf e ≤ reachBytes := by
      have := hw (((List.range len).map D).length * P.bytesOf e + ((List.range (m - len)).map fun j => D (len + j)).length * P.bytesOf e) (by simp only [DataW.weights, ht]; rw [← Nat.add_mul]; simp)
      simp at this; omega
    refine ⟨⟨by unfold maxLen at hm; omega, ?_⟩, hbig⟩
    rcases Nat.eq_zero_or_pos len with h0 | h0
    · exact Or.inl h0
    · right
      have hlm : len ≤ m := by rw [hmm]; split <;> omega
      obtain ⟨b, off, spot⟩ := ad
      have hcell : ∀ i, i < len → ∀ j, j < n → ∃ v, w.cell? ((⟨b, off, spot⟩ : Addr).add (i * n) |>.add j) = some v ∧ Q j v := by
        intro i hil j hj
        obtain ⟨cs', hc, htr⟩ := hi i (by omega)
        rw [hn] at hc
        obtain ⟨_, hclen, hat⟩ := World.cells?_some hc
        obtain ⟨v, hv, hq⟩ := hQ _ _ _ htr (fun q hq => hw q (by
          simp only [DataW.weights, ht, List.mem_cons, List.mem_append]
          exact .inr (.inl (weightsAll_mem (List.mem_map.2 ⟨i, List.mem_range.2 hil, rfl⟩) q hq)))) j hj
        exact ⟨v, (hat j hj).trans hv, hq⟩
      have hspot : spot = none := by
        obtain ⟨v, hv, _⟩ := hcell 0 h0 0 hn0
        have := World.cell?_spot hv
        simpa [Addr.add] using this
      subst hspot
      refine ⟨b, off, rfl, ?_, fun i hil j hj => ?_⟩
      · obtain ⟨v, hv, _⟩ := hcell 0 h0 0 hn0
        rw [add_plain, add_plain] at hv
        simp only [World.cell?] at hv
        rcases Nat.lt_or_ge b w.heap.size with hb | hb
        · exact hb
        · rw [Array.getElem?_eq_none hb] at hv; simp at hv
      · obtain ⟨v, hv, hq⟩ := hcell i hil j hj
        rw [add_plain, add_plain] at hv
        exact ⟨v, hv, hq⟩
end Go.Proofs.YtgbkpkioijbgoaaDoor
