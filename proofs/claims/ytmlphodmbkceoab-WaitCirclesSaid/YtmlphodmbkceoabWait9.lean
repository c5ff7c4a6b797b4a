/- The law WaitBreaks: when the victim waits no more, its circle is broken. No condition but the slices' cells, and how great they may be. -/
import Derived.Test.YtmlphodmbkceoabWait8
import Derived.Test.YtmlphodmbkceoabArgs2
namespace Go.Proofs.Ytmlphodmbkceoab.wait
open Go.RowKit
open Go.Sort
attribute [local go_sem ↓] Go.wp_at_zero Go.wp_at_succ
set_option linter.unusedVariables false
set_option maxRecDepth 100000

theorem reach_lt : reachBytes ≤ 140737488355328 := by decide
/-- a law's integers -/
theorem ints_of {w : World} {a : Option Addr} {len cap : Nat} (h : SliceArg w a len 1 (fun _ v => ∃ x, v = .int .i64 x ∧ (Lit.int .i64 x).wf = true)) (hl : len ≤ 140737488355328) : ∃ zs : List Int, zs.length = len ∧ Sl w (.slice a len cap) len (zs.map (Value.int .i64)) := by
  obtain ⟨zs, h1, h2⟩ := h.sl (cap := cap) (fun z : Int => [Value.int .i64 z]) (fun _ => rfl) (by decide) hl (fun vs hv => by
    obtain ⟨x, hx, _⟩ := hv 0 (by decide)
    exact ⟨x, fun j hj => by obtain rfl : j = 0 := by omega
                             simp [hx]⟩)
  refine ⟨zs, h1, ?_⟩
  rw [List.map_eq_flatMap]; exact h2
theorem ages_of {w : World} {a : Option Addr} {len cap : Nat} (h : SliceArg w a len 1 (fun _ v => ∃ x, v = .int .u64 x ∧ (Lit.int .u64 x).wf = true)) (hl : len ≤ 140737488355328) : ∃ ages : List Nat, ages.length = len ∧ Sl w (.slice a len cap) len (ageC ages) := by
  obtain ⟨zs, h1, h2⟩ := h.sl (cap := cap) (fun z : Nat => [Value.int .u64 (z : Int)]) (fun _ => rfl) (by decide) hl (fun vs hv => by
    obtain ⟨x, hx, hw⟩ := hv 0 (by decide)
    have h0 : 0 ≤ x ∧ x ≤ 18446744073709551615 := by simpa [Lit.wf, IntKind.min, IntKind.max, IntKind.signed, IntKind.bits] using hw
    exact ⟨x.toNat, fun j hj => by obtain rfl : j = 0 := by omega
                                   simp [hx]; omega⟩)
  refine ⟨zs, h1, ?_⟩
  unfold ageC
  rw [List.map_eq_flatMap]; exact h2
def updI (ls : Nat → List Nat) (who : Int) (zs : List Int) : Nat → List Nat := fun k => if 0 ≤ who ∧ who < 16 ∧ k = who.toNat then setL k zs else ls k
theorem updI_in (ls : Nat → List Nat) (who : Nat) (zs : List Int) (h : who < 16) : updI ls (who : Int) zs = fun k => if k = who then setL who zs else ls k := by
  funext k
  unfold updI
  by_cases hk : k = who
  · subst hk
    rw [if_pos ⟨by omega, by omega, by omega⟩, if_pos rfl]
  · rw [if_neg (by omega), if_neg hk]
theorem updI_out (ls : Nat → List Nat) (who : Int) (zs : List Int) (h : ¬ (0 ≤ who ∧ who < 16)) : updI ls who zs = ls := by
  funext k
  unfold updI
  rw [if_neg (fun h2 => h ⟨h2.1, h2.2.1⟩)]
theorem updI_ok {ls : Nat → List Nat} (h : GOk ls) (who : Int) (zs : List Int) : GOk (updI ls who zs) := by
  by_cases hw : 0 ≤ who ∧ who < 16
  · obtain ⟨k, rfl⟩ : ∃ k : Nat, who = (k : Int) := ⟨who.toNat, by omega⟩
    rw [updI_in ls k zs (by omega)]; exact h.set k zs
  · rw [updI_out ls who zs hw]; exact h
theorem set_all {w : World} {g : Nat} {ls : Nat → List Nat} (h : GAt w g ls) (who : Int) (v : Value) (zs : List Int) (hz : Sl w v zs.length (zs.map (Value.int .i64))) (hzn : zs.length * 8 ≤ 140737488355328) :
    Calls Try.prog 31 #[.pointer (some ⟨g, 0, none⟩), .int .i64 who, v] w fun e w' => e = .returned (.tuple #[]) ∧ GAt w' g (updI ls who zs) ∧ Keeps [g] w w' := by
  by_cases hw : 0 ≤ who ∧ who < 16
  · obtain ⟨k, rfl⟩ : ∃ k : Nat, who = (k : Int) := ⟨who.toNat, by omega⟩
    rw [updI_in ls k zs (by omega)]; exact set_any h k (by omega) v zs hz hzn
  · rw [updI_out ls who zs hw]
    exact (set_out _ who v (.inr hw) w).mono fun e w' ⟨he, hw⟩ => ⟨he, by subst hw; exact h, by subst hw; exact Keeps.refl _ _⟩
def circI (ls : Nat → List Nat) (who : Int) : List Nat := if 0 ≤ who ∧ who < 16 then circK ls who.toNat 16 else []
theorem circI_lt (ls : Nat → List Nat) (who : Int) : ∀ x, x ∈ circI ls who → x < 16 := by
  intro x hx
  unfold circI at hx
  split at hx
  · unfold circK at hx
    exact List.mem_range.1 (List.mem_filter.1 hx).1
  · simp at hx
theorem circle_all {w : World} {g : Nat} {ls : Nat → List Nat} (h : GAt w g ls) (hok : GOk ls) (who : Int) :
    Calls Try.prog 32 #[.pointer (some ⟨g, 0, none⟩), .int .i64 who] w fun e w' => ∃ v, e = .returned v ∧ Hp w [] [.row 3 1 v (circI ls who).length (nums (circI ls who))] w' := by
  unfold circI
  by_cases hw : 0 ≤ who ∧ who < 16
  · rw [if_pos hw]
    have := circle_any h hok who.toNat (by omega)
    rwa [show ((who.toNat : Nat) : Int) = who by omega] at this
  · rw [if_neg hw]
    exact (circle_out _ who (.inr hw) w).mono fun e w' ⟨he, hw⟩ => ⟨_, he, by subst hw; exact (Hp.none_ w []).rowNil 3 1⟩
theorem circI_len (ls : Nat → List Nat) (who : Int) : (circI ls who).length ≤ 16 := by
  unfold circI
  split
  · exact circK_len ls _ 16
  · simp
theorem circle_len {w : World} {g : Nat} {ls : Nat → List Nat} (h : GAt w g ls) (hok : GOk ls) (who : Int) (h0 : circI ls who = []) :
    Calls Try.prog 32 #[.pointer (some ⟨g, 0, none⟩), .int .i64 who] w fun e w' => ∃ ad cp, e = .returned (.slice ad 0 cp) ∧ Below w.heap.size w w' :=
  (circle_all h hok who).mono fun e w' ⟨v, he, hp⟩ => by
    rw [h0] at hp
    obtain ⟨ad, cp, rfl⟩ := rowShape (hp.row (i := 0) rfl)
    exact ⟨ad, cp, he, hp.bel⟩
theorem victim_all {w : World} {g : Nat} {ls : Nat → List Nat} (h : GAt w g ls) (hok : GOk ls) (who : Int) (va : Value) (ages : List Nat) (ha : Sl w va ages.length (ageC ages)) :
    Calls Try.prog 33 #[.pointer (some ⟨g, 0, none⟩), .int .i64 who, va] w fun e w' => e = .returned (.int .i64 (vict ages (circI ls who)).1) ∧ Below w.heap.size w w' :=
  victim_of _ who (circI_len ls who) (circle_all h hok who) va ages ha
theorem vict_who (ages C : List Nat) : (C = [] ∧ (vict ages C).1 = -1) ∨ ∃ x, x ∈ C ∧ (vict ages C).1 = (x : Int) := by
  have : ∀ (l : List Nat) (P : List Nat) (st : Int × Nat), ((P = [] ∧ st.1 = -1) ∨ ∃ x, x ∈ P ∧ st.1 = (x : Int)) → ((P ++ l = [] ∧ (l.foldl (vstep ages) st).1 = -1) ∨ ∃ x, x ∈ P ++ l ∧ (l.foldl (vstep ages) st).1 = (x : Int)) := by
    intro l
    induction l with
    | nil => intro P st h; simpa using h
    | cons y l ih =>
      intro P st h
      have := ih (P ++ [y]) (vstep ages st y) (by
        right
        unfold vstep
        by_cases hc : st.1 = -1 ∨ st.2 ≤ ages.getD y 0
        · rw [if_pos hc]; exact ⟨y, by simp, rfl⟩
        · rw [if_neg hc]
          rcases h with ⟨_, h⟩ | ⟨x, hx, h⟩
          · exact absurd (.inl h) hc
          · exact ⟨x, by simp [hx], h⟩)
      rw [List.append_assoc] at this
      simpa using this
  have h := this C [] (-1, 0) (.inl ⟨rfl, rfl⟩)
  simpa [vict] using h
theorem circI_cut (ls : Nat → List Nat) (hok : GOk ls) (x : Nat) (hx : x < 16) : circI (updI ls (x : Int) []) (x : Int) = [] := by
  unfold circI
  rw [if_pos ⟨by omega, by omega⟩, show ((x : Int).toNat) = x by omega]
  unfold circK
  rw [List.filter_eq_nil_iff]
  intro y _ hy
  unfold onC at hy
  rw [Bool.and_eq_true, R_rch (updI_ok hok _ _)] at hy
  have hno : ∀ b, edge (updI ls (x : Int) []) x b = false := by
    intro b
    unfold edge
    rw [updI_in ls x [] hx]
    simp only [if_true, decide_eq_false_iff_not]
    rw [setL_mem]; simp
  have : ∀ a b, Rch (edge (updI ls (x : Int) [])) a b → a ≠ x := by
    intro a b h
    cases h with
    | one h => rintro rfl; rw [hno] at h; cases h
    | step h _ => rintro rfl; rw [hno] at h; cases h
  exact this _ _ hy.1 rfl
end Go.Proofs.Ytmlphodmbkceoab.wait
