/- A region that draws its order, by one invariant over what has come up: each operation is walked once, not each order. No condition. -/
import Derived.Test.YtdgpalileloekaaDoorBase
namespace Go.Proofs.YtdgpalileloekaaDoor
open Go.RowKit
set_option linter.unusedVariables false
set_option maxRecDepth 100000

section
variable {P : Program} {ops : Array Oper} {Q : Exit → Act → World → Prop} {md : Region.Mode}
/-- how many have not come up -/
def left (listed : Array Bool) : Nat := listed.toList.countP (fun b => !b)
theorem left_set (listed : Array Bool) (i : Nat) (h : listed.getD i true = false) : left (listed.setIfInBounds i true) + 1 = left listed := by
  have hi : i < listed.size := by
    rcases Nat.lt_or_ge i listed.size with h' | h'
    · exact h'
    · exfalso
      simp [Array.getD, Nat.not_lt.mpr h'] at h
  have hv : listed.toList[i]'(by simpa using hi) = false := by
    simp [Array.getD, hi] at h
    simpa using h
  unfold left
  have e : (listed.setIfInBounds i true).toList = listed.toList.set i true := by simp
  rw [e]
  have hd : listed.toList = listed.toList.take i ++ false :: listed.toList.drop (i + 1) := by
    rw [← hv, List.getElem_cons_drop, List.take_append_drop]
  have hs : listed.toList.set i true = listed.toList.take i ++ true :: listed.toList.drop (i + 1) := by
    rw [List.set_eq_take_append_cons_drop, if_pos (by simpa using hi)]
  rw [hs]
  conv => rhs; rw [hd]
  simp [List.countP_append, List.countP_cons]
  omega
theorem ready_none (listed : Array Bool) (h : left listed = 0) : Region.ready md ops listed = [] := by
  cases hr : Region.ready md ops listed with
  | nil => rfl
  | cons x xs =>
    have hx : x ∈ Region.ready md ops listed := by rw [hr]; simp
    have := left_set listed x (mem_ready.1 hx).1
    omega
theorem wpAny_inv (Inv : Array Bool → Act → World → Prop)
    (hstep : ∀ listed a w, Inv listed a w → ∀ i, listed.getD i true = false → (∃ o, ops[i]? = some o ∧ ∀ e ∈ o.after, Region.binds md e = true → listed.getD e.on false = true) → ∀ K : Act → World → Prop, (∀ a' w', Inv (listed.setIfInBounds i true) a' w' → K a' w') → wpOp P ops Q i K a w)
    (hdone : ∀ listed a w, Inv listed a w → Region.ready md ops listed = [] → Q .normal a w) :
    ∀ (fuel : Nat) (listed : Array Bool) (a : Act) (w : World), left listed ≤ fuel → Inv listed a w → wpAny P md ops Q fuel listed a w
  | 0, listed, a, w, hf, h => ⟨ready_none listed (by omega), hdone listed a w h (ready_none listed (by omega))⟩
  | fuel + 1, listed, a, w, hf, h => ⟨fun hr => hdone listed a w h hr, fun i hi => by
    obtain ⟨h1, h2⟩ := mem_ready.1 hi
    have hl := left_set listed i h1
    exact hstep listed a w h i h1 h2 _ (fun a' w' h' => wpAny_inv Inv hstep hdone fuel _ a' w' (by omega) h')⟩
theorem left_none (n : Nat) : left (Array.replicate n false) ≤ n := by
  unfold left
  have := List.countP_le_length (p := fun b : Bool => !b) (l := (Array.replicate n false).toList)
  simpa using this
/-- operation j has come up -/
def has (l : Array Bool) (j : Nat) : Prop := l.getD j false = true
theorem has_self {l : Array Bool} {i : Nat} (h : l.getD i true = false) : has (l.setIfInBounds i true) i := by
  have hi : i < l.size := by
    rcases Nat.lt_or_ge i l.size with h' | h'
    · exact h'
    · exfalso; simp [Array.getD, Nat.not_lt.mpr h'] at h
  simp [has, hi]
theorem has_other {l : Array Bool} {i j : Nat} (h : i ≠ j) : has (l.setIfInBounds i true) j ↔ has l j := by
  unfold has; rw [getD_set_ne false h]
theorem has_none (n j : Nat) : ¬ has (Array.replicate n false) j := by
  unfold has
  by_cases h : j < n <;> simp [Array.getD, h]
/-- each operation waits for earlier ones alone -/
def rising (ops : Array Oper) : Bool := (List.range ops.size).all fun j => match ops[j]? with | some o => o.after.all (fun e => decide (e.on < j)) | none => true
theorem all_has (hr : rising ops = true) {l : Array Bool} (hl : l.size = ops.size) (h : Region.ready md ops l = []) : ∀ j, j < ops.size → has l j := by
  intro j
  induction j using Nat.strongRecOn with
  | ind j ih =>
    intro hj
    apply Classical.byContradiction
    intro hn
    have hf : l.getD j true = false := by
      unfold has at hn
      simp [Array.getD, hl, hj] at hn ⊢
      exact hn
    have : j ∈ Region.ready md ops l := mem_ready.2 ⟨hf, ops[j], Array.getElem?_eq_getElem hj, fun e he hb => by
      have h1 := List.all_eq_true.1 hr j (List.mem_range.2 hj)
      rw [Array.getElem?_eq_getElem hj] at h1
      have h2 : e.on < j := of_decide_eq_true (Array.all_eq_true_iff_forall_mem.1 h1 e he)
      exact ih e.on h2 (by omega)⟩
    rw [h] at this
    cases this
theorem wpOp_of {i : Nat} {o : Oper} {K : Act → World → Prop} {a : Act} {w : World} (ho : ops[i]? = some o) (hg : o.guard = none) (h : o.wp P a w K Q) : wpOp P ops Q i K a w := by
  unfold wpOp
  simp only [ho, Region.wanted, hg, if_true]
  exact Or.inl h
/-- the beginning: Inv knows the frame in which the region began -/
theorem wp_region_inv {id : Nat} {a : Act} {w : World} (Inv : Act → Array Bool → Act → World → Prop) (hm : P.follows .mixedOrders = true) (hr : rising ops = true)
    (hstart : Inv a (Array.replicate ops.size false) a w.drew)
    (hstep : ∀ l a' w', Inv a l a' w' → ∀ i, l.getD i true = false → (∃ o, ops[i]? = some o ∧ ∀ e ∈ o.after, Region.binds .any e = true → has l e.on) → ∀ K : Act → World → Prop, (∀ a2 w2, Inv a (l.setIfInBounds i true) a2 w2 → K a2 w2) → wpOp P ops Q i K a' w')
    (hdone : ∀ l a' w', Inv a l a' w' → (∀ j, j < ops.size → has l j) → Q .normal a' w') : (Code.region id ops true).wp P Q a w :=
  wp_region_any hm (wpAny_inv (fun l a' w' => l.size = ops.size ∧ Inv a l a' w')
    (fun l a' w' h i h1 h2 K hK => hstep l a' w' h.2 i h1 h2 K fun a2 w2 h3 => hK a2 w2 ⟨by simpa using h.1, h3⟩)
    (fun l a' w' h h0 => hdone l a' w' h.2 (all_has hr h.1 h0)) _ _ _ _ (left_none _) ⟨by simp, hstart⟩)
end
end Go.Proofs.YtdgpalileloekaaDoor
