/- What Get makes of indexes that are written one behind the other: plain lists. No condition. -/
import Derived.Test.YtdgpalileloekaaSchema7
import Derived.Test.YtdgpalileloekaaSchemaD
namespace Go.Proofs.Ytdgpalileloekaa.schema
open Go.RowKit
open code (numE rdC endE failE numE_put numE_over)
set_option linter.unusedVariables false
set_option maxRecDepth 100000

/-- a number as the bytes of its 64 bits -/
def bitsB (n : Int) : List UInt8 := code.numL (n % 18446744073709551616).toNat
def rawB (x : Ix) : List UInt8 := bitsB x.l ++ bitsB x.k ++ bitsB x.d
def lessB (y x : Ix) : Bool := decide (y.l < x.l) || (decide (y.l = x.l) && decide (y.k < x.k))
theorem ord_neg (y x : Ix) : decide (0 ≤ ordI y x) = !lessB y x := by
  unfold ordI lessB cmpI
  by_cases h1 : y.l < x.l
  · simp [h1]
  · by_cases h2 : x.l < y.l
    · simp [h1, h2]; omega
    · have h3 : y.l = x.l := by omega
      by_cases h4 : y.k < x.k
      · simp [h3, h4]
      · by_cases h5 : x.k < y.k
        · simp [h3, h4, h5]
        · simp [h3, h4, h5]
def okFrom : Option Ix → List Ix → Bool
  | _, [] => true
  | p, x :: xs => mayB x && (match p with | none => true | some y => lessB y x) && okFrom (some x) xs
theorem numE_bad (most : Nat) (l : List UInt8) (e : Int) (h : e ≠ 0) : (numE most l e).2.2 ≠ 0 := by
  unfold numE; rw [if_neg h]; exact h
theorem bits_take (n : Int) (h : -9223372036854775808 ≤ n ∧ n ≤ 9223372036854775807) (most : Nat) (hm : most < 1000) (r : List UInt8) :
    (numE most (bitsB n ++ r) 0 = (n.toNat, r, 0) ∧ 0 ≤ n) ∨ ((numE most (bitsB n ++ r) 0).2.2 ≠ 0 ∧ (n < 0 ∨ (most : Int) < n)) := by
  unfold bitsB
  by_cases hle : (n % 18446744073709551616).toNat ≤ most
  · left
    have e : (n % 18446744073709551616).toNat = n.toNat := by omega
    have h0 : 0 ≤ n := by omega
    rw [numE_put _ _ r (by omega) hle, e]; exact ⟨rfl, h0⟩
  · right
    exact ⟨numE_over _ _ r (by omega) (by omega), by omega⟩
theorem ixE_raw (x : Ix) (h : x.wf) (t : List UInt8) : ixE (rawB x ++ t) 0 = (x, t, 0) ∨ ((ixE (rawB x ++ t) 0).2.2 ≠ 0 ∧ mayB x = false) := by
  have no : (x.l < 0 ∨ 64 < x.l) ∨ (x.k < 0 ∨ 64 < x.k) ∨ (x.d < 0 ∨ 2 < x.d) → mayB x = false := by
    intro h
    unfold mayB nameB
    rw [Bool.eq_false_iff]
    intro h2
    simp only [Bool.and_eq_true, decide_eq_true_eq] at h2
    omega
  have e : rawB x ++ t = bitsB x.l ++ (bitsB x.k ++ (bitsB x.d ++ t)) := by simp [rawB, List.append_assoc]
  rw [e]
  unfold ixE
  simp only
  rcases bits_take x.l h.1 64 (by decide) (bitsB x.k ++ (bitsB x.d ++ t)) with ⟨h1, p1⟩ | ⟨h1, p1⟩
  · rw [h1]
    rcases bits_take x.k h.2.1 64 (by decide) (bitsB x.d ++ t) with ⟨h2, p2⟩ | ⟨h2, p2⟩
    · simp only; rw [h2]
      rcases bits_take x.d h.2.2 2 (by decide) t with ⟨h3, p3⟩ | ⟨h3, p3⟩
      · simp only; rw [h3]
        left
        have a1 : ((x.l.toNat : Nat) : Int) = x.l := by omega
        have a2 : ((x.k.toNat : Nat) : Int) = x.k := by omega
        have a3 : ((x.d.toNat : Nat) : Int) = x.d := by omega
        simp only [a1, a2, a3]
      · right
        exact ⟨h3, no (.inr (.inr p3))⟩
    · right
      exact ⟨numE_bad _ _ _ h2, no (.inr (.inl p2))⟩
  · right
    exact ⟨numE_bad _ _ _ (numE_bad _ _ _ h1), no (.inl p1)⟩
theorem getLoop_raw : ∀ (xs acc : List Ix) (rest : List UInt8), (∀ x ∈ xs, x.wf) →
    (okFrom acc.getLast? xs = true → getLoop xs.length acc (xs.flatMap rawB ++ rest) = (acc ++ xs, rest, 0)) ∧ (okFrom acc.getLast? xs = false → (getLoop xs.length acc (xs.flatMap rawB ++ rest)).2.2 ≠ 0)
  | [], acc, rest, _ => by simp [getLoop, okFrom]
  | x :: xs, acc, rest, hwf => by
    have e : (x :: xs).flatMap rawB ++ rest = rawB x ++ (xs.flatMap rawB ++ rest) := by simp [List.flatMap_cons, List.append_assoc]
    rw [e, List.length_cons]
    unfold getLoop
    simp only
    rcases ixE_raw x (hwf x (by simp)) (xs.flatMap rawB ++ rest) with h | ⟨h, hm⟩
    · rw [h]
      simp only [ne_eq, not_true_eq_false, if_false]
      have ih := getLoop_raw xs (acc ++ [x]) rest (fun y hy => hwf y (by simp [hy]))
      have hl : (acc ++ [x]).getLast? = some x := by simp
      rw [hl] at ih
      have hb : badB acc x = !(mayB x && (match acc.getLast? with | none => true | some y => lessB y x)) := by
        unfold badB
        cases acc.getLast? with
        | none => simp
        | some y => simp only [ord_neg]; cases mayB x <;> simp
      rw [hb]
      unfold okFrom
      cases hq : (mayB x && (match acc.getLast? with | none => true | some y => lessB y x)) with
      | true =>
        simp only [Bool.not_true, Bool.false_eq_true, if_false, Bool.true_and]
        refine ⟨fun h2 => ?_, fun h2 => ih.2 h2⟩
        rw [ih.1 h2]; simp
      | false =>
        simp
    · rw [if_pos h]
      refine ⟨fun h2 => ?_, fun _ => h⟩
      unfold okFrom at h2
      simp [hm] at h2
/-- what Get makes of so many indexes, and what stands behind them -/
theorem getL_raw (xs : List Ix) (by3 : List UInt8) (hn : xs.length ≤ 9) (hwf : ∀ x ∈ xs, x.wf) :
    (okFrom none xs = true ∧ by3 = [] → getL (code.numL xs.length ++ xs.flatMap rawB ++ by3) = (xs, 0)) ∧ (¬ (okFrom none xs = true ∧ by3 = []) → ∃ e : Int, e ≠ 0 ∧ getL (code.numL xs.length ++ xs.flatMap rawB ++ by3) = ([], e)) := by
  have hm : numE 32 (code.numL xs.length ++ xs.flatMap rawB ++ by3) 0 = (xs.length, xs.flatMap rawB ++ by3, 0) := by
    rw [List.append_assoc]; exact numE_put _ _ _ (by omega) (by omega)
  have hg := getLoop_raw xs [] by3 hwf
  simp only [List.getLast?_nil, List.nil_append] at hg
  unfold getL
  simp only [hm, ne_eq, not_true_eq_false, if_false]
  constructor
  · rintro ⟨h1, rfl⟩
    rw [hg.1 h1]
    simp [endE]
  · intro h
    cases h1 : okFrom none xs with
    | true =>
      have hb : by3 ≠ [] := fun hb => h ⟨h1, hb⟩
      rw [hg.1 h1]
      exact ⟨3, by decide, by simp [endE, hb]⟩
    | false =>
      have h2 := hg.2 h1
      generalize getLoop xs.length [] (xs.flatMap rawB ++ by3) = r at *
      refine ⟨r.2.2, h2, ?_⟩
      simp [endE, h2]
theorem okFrom_may : ∀ (xs : List Ix) (p : Option Ix), okFrom p xs = true → ∀ x ∈ xs, mayB x = true
  | [], _, _, x, h => by simp at h
  | y :: ys, p, h, x, hx => by
    unfold okFrom at h
    simp only [Bool.and_eq_true] at h
    rcases List.mem_cons.1 hx with rfl | hx
    · exact h.1.1
    · exact okFrom_may ys _ h.2 x hx
theorem put_raw (xs : List Ix) (h : okFrom none xs = true) : putB xs = code.numL xs.length ++ xs.flatMap rawB := by
  have : xs.flatMap ixB = xs.flatMap rawB := by
    have hm := okFrom_may xs none h
    clear h
    induction xs with
    | nil => rfl
    | cons x xs ih =>
      rw [List.flatMap_cons, List.flatMap_cons, ih (fun y hy => hm y (by simp [hy]))]
      congr 1
      have := hm x (by simp)
      unfold mayB nameB at this
      simp only [Bool.and_eq_true, decide_eq_true_eq] at this
      have n1 : ∀ n : Int, 0 ≤ n → n < 1000 → natB n = bitsB n := by
        intro n h0 h1
        unfold natB bitsB
        rw [show (n % 18446744073709551616).toNat = n.toNat by omega]
      unfold ixB rawB
      rw [n1 _ (by omega) (by omega), n1 _ (by omega) (by omega), n1 _ (by omega) (by omega)]
  unfold putB; rw [this]
/-- all may be; each is below the next one -/
def allMay (xs : List Ix) : Bool := xs.all mayB
def riseB : List Ix → Bool
  | x :: y :: xs => lessB x y && riseB (y :: xs)
  | _ => true
theorem okFrom_split : ∀ (xs : List Ix), okFrom none xs = (allMay xs && riseB xs)
  | [] => rfl
  | x :: xs => by
    have : ∀ (xs : List Ix) (x : Ix), okFrom (some x) xs = (allMay xs && riseB (x :: xs)) := by
      intro xs
      induction xs with
      | nil => intro x; rfl
      | cons y ys ih =>
        intro x
        unfold okFrom riseB
        simp only [ih y]
        unfold allMay
        simp only [List.all_cons]
        cases mayB y <;> cases lessB x y <;> simp
    unfold okFrom
    simp only [this xs x]
    unfold allMay
    simp only [List.all_cons]
    cases mayB x <;> simp
theorem rise_snoc : ∀ (xs : List Ix) (y x : Ix), xs.getLast? = some y → riseB (xs ++ [x]) = (riseB xs && lessB y x)
  | [], y, x, h => by simp at h
  | [z], y, x, h => by
    simp at h; subst h
    simp [riseB]
  | z :: z2 :: xs, y, x, h => by
    have := rise_snoc (z2 :: xs) y x (by simpa using h)
    simp only [List.cons_append] at this ⊢
    unfold riseB
    rw [this, Bool.and_assoc]
end Go.Proofs.Ytdgpalileloekaa.schema
