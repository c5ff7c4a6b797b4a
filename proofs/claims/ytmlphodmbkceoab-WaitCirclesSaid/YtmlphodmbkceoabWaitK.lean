/- What the law WaitCircles reckons by itself, against what the graph tells: plain lists. No condition. -/
import Derived.Test.YtmlphodmbkceoabWait9
namespace Go.Proofs.Ytmlphodmbkceoab.wait
open Go.RowKit
set_option linter.unusedVariables false
set_option maxRecDepth 100000

theorem filt_succ (p : Nat → Bool) (k : Nat) : (List.range (k + 1)).filter p = (List.range k).filter p ++ if p k then [k] else [] := by
  rw [List.range_succ, List.filter_append]
  congr 1
  cases h : p k <;> simp [h]
theorem filt_at (p : Nat → Bool) : ∀ (n k : Nat), k < n → p k = true → ((List.range n).filter p)[((List.range k).filter p).length]? = some k
  | 0, k, h, _ => by omega
  | n + 1, k, h, hp => by
    rw [filt_succ]
    by_cases hk : k < n
    · have ih := filt_at p n k hk hp
      rw [List.getElem?_append_left (List.getElem?_eq_some_iff.1 ih).1]; exact ih
    · obtain rfl : k = n := by omega
      rw [List.getElem?_append_right (Nat.le_refl _), Nat.sub_self, hp]; rfl
/-- what is skipped -/
def skipB (ls : Nat → List Nat) (who x : Nat) : Bool := !R ls who who || (!decide (x = who) && !(R ls who x && R ls x who))
theorem skip_on {ls : Nat → List Nat} (h : GOk ls) (who x : Nat) : skipB ls who x = !onC ls who x := by
  unfold skipB onC
  by_cases hx : x = who
  · subst hx
    cases hR : R ls x x <;> simp [hR]
  · cases hR : R ls who who with
    | true => simp [hx]
    | false =>
      have : (R ls who x && R ls x who) = false := by
        cases h1 : R ls who x with
        | false => rfl
        | true =>
          cases h2 : R ls x who with
          | false => rfl
          | true =>
            have := (R_rch h who who).2 (((R_rch h who x).1 h1).trans ((R_rch h x who).1 h2))
            rw [hR] at this; cases this
      simp [this]
theorem circK_at (ls : Nat → List Nat) (who x : Nat) (hx : x < 16) (h : onC ls who x = true) : (circK ls who 16)[(circK ls who x).length]? = some x := filt_at _ 16 x hx h
theorem circK_lt (ls : Nat → List Nat) (who x : Nat) (hx : x < 16) (h : onC ls who x = true) : (circK ls who x).length < (circK ls who 16).length := (List.getElem?_eq_some_iff.1 (circK_at ls who x hx h)).1
theorem vict_snoc (ages l : List Nat) (x : Nat) : vict ages (l ++ [x]) = vstep ages (vict ages l) x := by simp [vict]
theorem vict_next (ages : List Nat) (ls : Nat → List Nat) (who x : Nat) : vict ages (circK ls who (x + 1)) = if onC ls who x then vstep ages (vict ages (circK ls who x)) x else vict ages (circK ls who x) := by
  rw [circK_succ]
  cases onC ls who x <;> simp [vict_snoc]
theorem vict_ge (ages l : List Nat) : -1 ≤ (vict ages l).1 := by
  have : ∀ (l : List Nat) (st : Int × Nat), -1 ≤ st.1 → -1 ≤ (l.foldl (vstep ages) st).1 := by
    intro l
    induction l with
    | nil => intro st h; exact h
    | cons x l ih =>
      intro st h
      apply ih
      unfold vstep
      split
      · show (-1 : Int) ≤ (x : Int); omega
      · exact h
  exact this l _ (by decide)
theorem vict_lt (ages l : List Nat) (hl : ∀ x, x ∈ l → x < 16) : (vict ages l).1 < 16 := by
  have : ∀ (l : List Nat) (st : Int × Nat), (∀ x, x ∈ l → x < 16) → st.1 < 16 → (l.foldl (vstep ages) st).1 < 16 := by
    intro l
    induction l with
    | nil => intro st _ h; exact h
    | cons x l ih =>
      intro st hl h
      refine ih _ (fun y hy => hl y (by simp [hy])) ?_
      have := hl x (by simp)
      unfold vstep
      split
      · show (x : Int) < 16; omega
      · exact h
  exact this l _ hl (by decide)
/-- for whom one waits, below a place -/
def forK (ls : Nat → List Nat) (who k : Nat) : List Nat := (List.range k).filter (edge ls who)
theorem forK_succ (ls : Nat → List Nat) (who k : Nat) : forK ls who (k + 1) = forK ls who k ++ if edge ls who k then [k] else [] := filt_succ _ _
theorem forK_all (ls : Nat → List Nat) (h : GOk ls) (hs : ∀ i, (ls i).Pairwise (· < ·)) (who : Nat) : forK ls who 16 = ls who :=
  up_eq _ _ (range_up _ _) (hs who) (fun x => by
    unfold forK edge
    rw [List.mem_filter, List.mem_range]
    constructor
    · rintro ⟨_, h2⟩; simpa using h2
    · intro h2; exact ⟨h.lt who x h2, by simpa using h2⟩)
theorem forK_at (ls : Nat → List Nat) (who x : Nat) (hx : x < 16) (h : edge ls who x = true) : (forK ls who 16)[(forK ls who x).length]? = some x := filt_at _ 16 x hx h
theorem forK_lt (ls : Nat → List Nat) (who x : Nat) (hx : x < 16) (h : edge ls who x = true) : (forK ls who x).length < (forK ls who 16).length := (List.getElem?_eq_some_iff.1 (forK_at ls who x hx h)).1
/-- has anybody up to a place an edge? -/
def anyUp (ls : Nat → List Nat) (t : Nat) : Bool := (List.range t).any fun u => edge ls (u / 16) (u % 16)
theorem anyUp_succ (ls : Nat → List Nat) (t : Nat) : anyUp ls (t + 1) = (anyUp ls t || edge ls (t / 16) (t % 16)) := by
  unfold anyUp
  rw [List.range_succ, List.any_append]; simp
theorem anyUp_all (ls : Nat → List Nat) (h : GOk ls) : anyUp ls 256 = anyL ls 16 := by
  rw [Bool.eq_iff_iff]
  unfold anyUp anyL
  simp only [List.any_eq_true, List.mem_range]
  constructor
  · rintro ⟨u, hu, h2⟩
    refine ⟨u / 16, by omega, ?_⟩
    unfold edge at h2
    have h3 : u % 16 ∈ ls (u / 16) := by simpa using h2
    cases hl : ls (u / 16) with
    | nil => rw [hl] at h3; simp at h3
    | cons a b => rfl
  · rintro ⟨i, hi, h2⟩
    cases hl : ls i with
    | nil => rw [hl] at h2; simp at h2
    | cons a b =>
      have ha : a ∈ ls i := by rw [hl]; simp
      have := h.lt i a ha
      refine ⟨i * 16 + a, by omega, ?_⟩
      have e1 : (i * 16 + a) / 16 = i := by omega
      have e2 : (i * 16 + a) % 16 = a := by omega
      rw [e1, e2]; unfold edge; simpa using ha
/-- how far the phases have come -/
def anyAt (ls : Nat → List Nat) (t : Nat) : Bool := anyUp ls (min t 256)
theorem anyAt_next (ls : Nat → List Nat) (k i j : Nat) (hi : i < 16) (hj : j < 16) : anyAt ls (k * 256 + i * 16 + j + 1) = (anyAt ls (k * 256 + i * 16 + j) || edge ls i j) := by
  unfold anyAt
  by_cases h : k * 256 + i * 16 + j < 256
  · have hk : k = 0 := by omega
    subst hk
    rw [show min (0 * 256 + i * 16 + j + 1) 256 = (i * 16 + j) + 1 by omega, show min (0 * 256 + i * 16 + j) 256 = i * 16 + j by omega, anyUp_succ, show (i * 16 + j) / 16 = i by omega, show (i * 16 + j) % 16 = j by omega]
  · rw [show min (k * 256 + i * 16 + j + 1) 256 = 256 by omega, show min (k * 256 + i * 16 + j) 256 = 256 by omega]
    cases he : edge ls i j with
    | false => simp
    | true =>
      have : anyUp ls 256 = true := by
        unfold anyUp
        rw [List.any_eq_true]
        exact ⟨i * 16 + j, by rw [List.mem_range]; omega, by rw [show (i * 16 + j) / 16 = i by omega, show (i * 16 + j) % 16 = j by omega]; exact he⟩
      rw [this]; rfl
/-- the sixteen times sixteen truths -/
def mat (f : Nat → Nat → Bool) : Array Value := ((List.range 256).map fun t => Value.bool (f (t / 16) (t % 16))).toArray
theorem mat_size (f : Nat → Nat → Bool) : (mat f).size = 256 := by simp [mat]
theorem mat_at (f : Nat → Nat → Bool) {i j : Nat} (hi : i < 16) (hj : j < 16) : (mat f)[i * 16 + j]? = some (.bool (f i j)) := by
  have : i * 16 + j < 256 := by omega
  unfold mat
  simp only [List.getElem?_toArray, List.getElem?_map, List.getElem?_range this, Option.map_some]
  rw [show (i * 16 + j) / 16 = i by omega, show (i * 16 + j) % 16 = j by omega]
theorem mat_ext {f k : Nat → Nat → Bool} (h : ∀ i j, i < 16 → j < 16 → f i j = k i j) : mat f = mat k := by
  unfold mat
  congr 1
  apply List.map_congr_left
  intro t ht
  rw [List.mem_range] at ht
  rw [h _ _ (by omega) (by omega)]
theorem mat_set (f : Nat → Nat → Bool) {i j : Nat} (hi : i < 16) (hj : j < 16) (b : Bool) : (mat f).setIfInBounds (i * 16 + j) (.bool b) = mat fun a c => if a = i ∧ c = j then b else f a c := by
  apply Array.ext_getElem?; intro t
  rw [Array.getElem?_setIfInBounds]
  by_cases ht : t < 256
  · have e := mat_at f (i := t / 16) (j := t % 16) (by omega) (by omega)
    have e2 := mat_at (fun a c => if a = i ∧ c = j then b else f a c) (i := t / 16) (j := t % 16) (by omega) (by omega)
    rw [show t / 16 * 16 + t % 16 = t by omega] at e e2
    rw [e2]
    by_cases h : i * 16 + j = t
    · have h1 : t / 16 = i := by omega
      have h2 : t % 16 = j := by omega
      rw [if_pos h, mat_size, if_pos (by omega)]
      simp [h1, h2]
    · rw [if_neg h, e]
      have : ¬ (t / 16 = i ∧ t % 16 = j) := by omega
      simp only [this, if_false]
  · rw [if_neg (by omega), Array.getElem?_eq_none (by rw [mat_size]; omega), Array.getElem?_eq_none (by rw [mat_size]; omega)]
theorem mat_one (f : Nat → Nat → Bool) : (mat f).all (·.oneCell') = true := by
  rw [Array.all_eq_true]
  intro t ht
  have ht2 : t < 256 := by rwa [mat_size] at ht
  have e := mat_at f (i := t / 16) (j := t % 16) (by omega) (by omega)
  rw [show t / 16 * 16 + t % 16 = t by omega, Array.getElem?_eq_getElem ht] at e
  injection e with e
  rw [e]; rfl
/-- a phase's step -/
theorem mid_step (f : Nat → Nat → Bool) (k i j : Nat) (hi : i < 16) (hj : j < 16) : (fun a c => if a = i ∧ c = j then (mid f k 16 (i * 16 + j) i j || (mid f k 16 (i * 16 + j) i k && mid f k 16 (i * 16 + j) k j)) else mid f k 16 (i * 16 + j) a c) = fun a c => if a < 16 ∧ c < 16 then mid f k 16 (i * 16 + j + 1) a c else mid f k 16 (i * 16 + j) a c := by
  funext a c
  rw [mid_col, mid_row]
  by_cases h : a = i ∧ c = j
  · obtain ⟨rfl, rfl⟩ := h
    rw [if_pos ⟨rfl, rfl⟩, if_pos ⟨hi, hj⟩]
    unfold mid
    rw [if_neg (by omega), if_pos (by omega)]; rfl
  · rw [if_neg h]
    by_cases h2 : a < 16 ∧ c < 16
    · rw [if_pos h2]
      unfold mid
      by_cases h3 : a * 16 + c < i * 16 + j
      · rw [if_pos h3, if_pos (by omega)]
      · rw [if_neg h3, if_neg (by omega)]
    · rw [if_neg h2]
theorem mat_step (f : Nat → Nat → Bool) (k i j : Nat) (hi : i < 16) (hj : j < 16) : (mat (mid f k 16 (i * 16 + j))).setIfInBounds (i * 16 + j) (.bool (f i j || (f i k && f k j))) = mat (mid f k 16 (i * 16 + j + 1)) := by
  have e : (f i j || (f i k && f k j)) = (mid f k 16 (i * 16 + j) i j || (mid f k 16 (i * 16 + j) i k && mid f k 16 (i * 16 + j) k j)) := by
    rw [mid_col, mid_row]; unfold mid; rw [if_neg (by omega)]
  rw [e, mat_set _ hi hj, mid_step f k i j hi hj]
  exact mat_ext fun a c ha hc => by rw [if_pos ⟨ha, hc⟩]
theorem mid_zero (f : Nat → Nat → Bool) (k : Nat) : mid f k 16 0 = f := by funext a c; unfold mid; rw [if_neg (by omega)]
theorem mid_full (f : Nat → Nat → Bool) (k : Nat) : mat (mid f k 16 256) = mat (ph f k) := mat_ext fun a c ha hc => by unfold mid; rw [if_pos (by omega)]
/-- the row of one that is set -/
def rowP (who : Nat) (zs : List Int) (p : Nat) (j : Nat) : Bool := decide ((j : Int) ∈ zs.take p ∧ j < 16 ∧ j ≠ who)
theorem rowP_zero (who : Nat) (zs : List Int) (j : Nat) : rowP who zs 0 j = false := by simp [rowP]
theorem rowP_succ {who : Nat} {zs : List Int} {p : Nat} {z : Int} (hz : zs[p]? = some z) (j : Nat) : rowP who zs (p + 1) j = (rowP who zs p j || decide ((j : Int) = z ∧ j < 16 ∧ j ≠ who)) := by
  unfold rowP
  rw [List.take_add_one, hz, Bool.eq_iff_iff]
  simp only [Option.toList_some, List.mem_append, List.mem_singleton, Bool.or_eq_true, decide_eq_true_eq]
  constructor
  · rintro ⟨h | h, h2⟩
    · exact .inl ⟨h, h2⟩
    · exact .inr ⟨h, h2⟩
  · rintro (⟨h, h2⟩ | ⟨h, h2⟩)
    · exact ⟨.inl h, h2⟩
    · exact ⟨.inr h, h2⟩
theorem rowP_all (who : Nat) (zs : List Int) (j : Nat) : rowP who zs zs.length j = decide (j ∈ setL who zs) := by
  unfold rowP
  rw [List.take_length, Bool.eq_iff_iff]
  simp only [decide_eq_true_eq, setL_mem]
/-- the truths while one's row is laid -/
def matP (ls : Nat → List Nat) (who : Nat) (zs : List Int) (p : Nat) (a c : Nat) : Bool := if a = who then rowP who zs p c else edge ls a c
theorem matP_all (ls : Nat → List Nat) (who : Nat) (zs : List Int) (hw : who < 16) : mat (matP ls who zs zs.length) = mat (edge (updI ls (who : Int) zs)) := by
  refine mat_ext fun a c ha hc => ?_
  rw [updI_in ls who zs hw]
  unfold matP edge
  by_cases h : a = who
  · subst h; rw [if_pos rfl, rowP_all]; simp
  · rw [if_neg h]; simp [h]
theorem matP_skip {ls : Nat → List Nat} {who : Nat} {zs : List Int} {p : Nat} {z : Int} (hz : zs[p]? = some z) (h : ¬ (0 ≤ z ∧ z < 16 ∧ z ≠ (who : Int))) : mat (matP ls who zs (p + 1)) = mat (matP ls who zs p) := by
  refine mat_ext fun a c ha hc => ?_
  unfold matP
  by_cases ha2 : a = who
  · rw [if_pos ha2, if_pos ha2, rowP_succ hz]
    have : decide ((c : Int) = z ∧ c < 16 ∧ c ≠ who) = false := decide_eq_false (by rintro ⟨rfl, h1, h2⟩; exact h ⟨by omega, by omega, by omega⟩)
    rw [this, Bool.or_false]
  · rw [if_neg ha2, if_neg ha2]
theorem matP_lay {ls : Nat → List Nat} {who : Nat} {zs : List Int} {p n : Nat} (hw : who < 16) (hz : zs[p]? = some (n : Int)) (hn : n < 16) (hne : n ≠ who) : (mat (matP ls who zs p)).setIfInBounds (who * 16 + n) (.bool true) = mat (matP ls who zs (p + 1)) := by
  rw [mat_set _ hw hn]
  refine mat_ext fun a c ha hc => ?_
  unfold matP
  by_cases ha2 : a = who
  · subst ha2
    rw [if_pos rfl, rowP_succ hz]
    by_cases hcn : c = n
    · subst hcn
      rw [if_pos ⟨rfl, rfl⟩, if_pos rfl, decide_eq_true ⟨rfl, hn, hne⟩, Bool.or_true]
    · rw [if_neg (by omega), if_pos rfl, decide_eq_false (by omega), Bool.or_false]
  · rw [if_neg (fun h => ha2 h.1), if_neg ha2, if_neg ha2]
end Go.Proofs.Ytmlphodmbkceoab.wait
