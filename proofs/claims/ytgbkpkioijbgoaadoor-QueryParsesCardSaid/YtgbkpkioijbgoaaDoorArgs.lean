/- How a law's slice arguments are opened: each element's cells, and what they hold. No condition. -/
import Derived.Test.YtgbkpkioijbgoaaDoorBase
import Derived.Deep.Slices
import Derived.ChangeSame
namespace Go.Proofs.YtgbkpkioijbgoaaDoor
open Go.RowKit Go.ChangeShapes Go.WideShapes
set_option linter.unusedVariables false
set_option maxRecDepth 100000

/-- The slice value '.slice a len cap' that came in: n cells an element, and what the j-th cell of an element is. -/
def SliceArg (w : World) (a : Option Addr) (len n : Nat) (Q : Nat → Value → Prop) : Prop :=
  (len : Int) ≤ 9223372036854775807 ∧ (len = 0 ∨ ∃ b off, a = some ⟨b, off, none⟩ ∧ b < w.heap.size ∧ ∀ i, i < len → ∀ j, j < n → ∃ v, w.cell? ⟨b, off + i * n + j, none⟩ = some v ∧ Q j v)

theorem take1 {cs : List Value} {i : Nat} {v : Value} (h : (cs.drop i).take 1 = [v]) : cs[i]? = some v := by
  have := congrArg (fun l : List Value => l[0]?) h
  simpa [List.getElem?_take, List.getElem?_drop] using this
theorem add_plain (b o k : Nat) : (⟨b, o, none⟩ : Addr).add k = ⟨b, o + k, none⟩ := by unfold Addr.add; split <;> simp_all

theorem sliceArg_of {H : Type} {enc : TypeId × Value → H} {P : Program} {w : World} {spare : Nat → Bool} {t e : TypeId} {a : Option Addr} {len cap n : Nat} {d : DataW H} {p : List MemPlace} {Q : Nat → Value → Prop}
    (ht : P.underlying t = some (.slice e)) (hn : P.cellsOf e = n) (hn0 : 0 < n) (hlt : ∀ x ∈ p, x.block < w.heap.size) (h : DataW.Trod enc P w 0 spare true t (.slice a len cap) d p)
    (hQ : ∀ m cs' y, DataW.trod enc P w 0 spare true m e cs' = some y → ∀ j, j < n → ∃ v, cs'[j]? = some v ∧ Q j v) : SliceArg w a len n Q := by
  obtain ⟨fuel, hf⟩ := h
  rcases Go.Deep.open_slice ht hf with ⟨hcs, _⟩ | ⟨ad, l, c, m, k, D, Pl, hcs, _, hl, hm, hmm, hx, hi⟩
  · simp [Value.cells] at hcs
    exact ⟨by omega, Or.inl hcs.2.1⟩
  · simp [Value.cells] at hcs
    obtain ⟨rfl, rfl, rfl⟩ := hcs
    refine ⟨by unfold maxLen at hm; omega, ?_⟩
    rcases Nat.eq_zero_or_pos len with h0 | h0
    · exact Or.inl h0
    · right
      have hlm : len ≤ m := by rw [hmm]; split <;> omega
      obtain ⟨b, off, spot⟩ := ad
      have hcell : ∀ i, i < len → ∀ j, j < n → ∃ v, w.cell? ((⟨b, off, spot⟩ : Addr).add (i * n) |>.add j) = some v ∧ Q j v := by
        intro i hil j hj
        obtain ⟨cs', hc, htr⟩ := hi i (by omega)
        rw [hn] at hc
        obtain ⟨_, hclen, hat⟩ := World.cells?_some hc
        obtain ⟨v, hv, hq⟩ := hQ _ _ _ htr j hj
        exact ⟨v, (hat j hj).trans hv, hq⟩
      have hspot : spot = none := by
        obtain ⟨v, hv, _⟩ := hcell 0 h0 0 hn0
        have := World.cell?_spot hv
        simpa [Addr.add] using this
      subst hspot
      refine ⟨b, off, rfl, ?_, fun i hil j hj => ?_⟩
      · obtain ⟨v, hv, _⟩ := hcell 0 h0 0 hn0
        rw [add_plain, add_plain] at hv
        simp only [World.cell?] at hv
        rcases Nat.lt_or_ge b w.heap.size with hb | hb
        · exact hb
        · rw [Array.getElem?_eq_none hb] at hv; simp at hv
      · obtain ⟨v, hv, hq⟩ := hcell i hil j hj
        rw [add_plain, add_plain] at hv
        exact ⟨v, hv, hq⟩

theorem SliceArg.keep {w w' : World} {a : Option Addr} {len n : Nat} {Q : Nat → Value → Prop} (h : SliceArg w a len n Q) (hb : Below w.heap.size w w') : SliceArg w' a len n Q := by
  obtain ⟨h1, h2⟩ := h
  refine ⟨h1, ?_⟩
  rcases h2 with h2 | ⟨b, off, ha, hlt, hc⟩
  · exact Or.inl h2
  · refine Or.inr ⟨b, off, ha, Nat.lt_of_lt_of_le hlt hb.size, fun i hi j hj => ?_⟩
    obtain ⟨v, hv, hq⟩ := hc i hi j hj
    exact ⟨v, (hb.cell hlt).trans hv, hq⟩
end Go.Proofs.YtgbkpkioijbgoaaDoor
