/- The words of a text, as plain functions of lists of bytes; what they are of letters alone, and of a text in quotes. No condition. -/
import Derived.Test.YtgbkpkioijbgoaaDoorRows
namespace Go.Proofs.YtgbkpkioijbgoaaDoor.lex
set_option linter.unusedVariables false
def letB (c : UInt8) : Bool := (decide (97 ≤ c.toNat) && decide (c.toNat ≤ 122)) || (decide (65 ≤ c.toNat) && decide (c.toNat ≤ 90)) || decide (c.toNat = 95)
def digB (c : UInt8) : Bool := decide (48 ≤ c.toNat) && decide (c.toNat ≤ 57)
def blankB (c : UInt8) : Bool := decide (c.toNat = 32) || decide (c.toNat = 9) || decide (c.toNat = 10)
def wordB (c : UInt8) : Bool := letB c || digB c
structure W where
  kind : Nat
  s : List UInt8
  n : Nat
  pos : Nat
def nameN : List UInt8 → Nat
  | [] => 0
  | c :: r => if wordB c then nameN r + 1 else 0
def numScan : List UInt8 → Nat → Nat → Option (Nat × Nat)
  | [], n, k => some (n, k)
  | c :: r, n, k => if digB c then (if (9223372036854775807 - (c.toNat - 48)) / 10 < n then none else numScan r (10 * n + (c.toNat - 48)) (k + 1)) else if letB c then none else some (n, k)
def txtScan : List UInt8 → Bool → List UInt8 → Nat → Option (List UInt8 × Nat)
  | [], _, _, _ => none
  | c :: r, true, acc, k => if c.toNat = 34 ∨ c.toNat = 92 then txtScan r false (acc ++ [c]) (k + 1) else none
  | c :: r, false, acc, k => if c.toNat = 34 then some (acc, k + 1) else if c.toNat < 32 then none else if c.toNat = 92 then txtScan r true acc (k + 1) else txtScan r false (acc ++ [c]) (k + 1)
def marksL : List (List UInt8) := [[45, 62], [60, 45], [33, 61], [60, 61], [62, 61], [40], [41], [91], [93], [123], [125], [58], [44], [46], [45], [60], [62], [61]]
def markF (ms : List (List UInt8)) (r : List UInt8) : Nat := match ms.find? (fun m => m.isPrefixOf r) with
  | some m => m.length
  | none => 0
def markN (r : List UInt8) : Nat := markF marksL r
def wordAt (l : List UInt8) (pos : Nat) : Option (W × Nat) :=
  match l with
  | [] => none
  | c :: r =>
    if letB c then some (⟨1, (c :: r).take (nameN (c :: r)), 0, pos⟩, nameN (c :: r))
    else if digB c then (numScan (c :: r) 0 0).map fun x => (⟨2, [], x.1, pos⟩, x.2)
    else if c.toNat = 34 then (txtScan r false [] 1).map fun x => (⟨3, x.1, 0, pos⟩, x.2)
    else if markN (c :: r) = 0 then none else some (⟨4, (c :: r).take (markN (c :: r)), 0, pos⟩, markN (c :: r))
def wordsF : Nat → List UInt8 → Nat → List W → Option (List W) × Nat
  | 0, _, pos, acc => (some (acc ++ [⟨0, [], 0, pos⟩]), 0)
  | f + 1, l, pos, acc =>
    match l with
    | [] => (some (acc ++ [⟨0, [], 0, pos⟩]), 0)
    | c :: r => if blankB c then wordsF f r (pos + 1) acc else
      match wordAt (c :: r) pos with
      | none => (none, pos)
      | some (x, k) => wordsF f ((c :: r).drop k) (pos + k) (acc ++ [x])
def wordsL (s : List UInt8) : Option (List W) × Nat := wordsF (s.length + 1) s 0 []
theorem words_sample : wordsL [97, 32, 60, 61, 32, 53] = (some [⟨1, [97], 0, 0⟩, ⟨4, [60, 61], 0, 2⟩, ⟨2, [], 5, 5⟩, ⟨0, [], 0, 6⟩], 0) := by rfl
theorem nameN_rep (k : Nat) : nameN (List.replicate k 97) = k := by
  induction k with
  | zero => rfl
  | succ k ih => rw [List.replicate_succ, nameN, ih]; rfl
theorem words_rep (k : Nat) : wordsL (List.replicate (k + 1) 97) = (some [⟨1, List.replicate (k + 1) 97, 0, 0⟩, ⟨0, [], 0, k + 1⟩], 0) := by
  have h : wordAt (97 :: List.replicate k 97) 0 = some (⟨1, List.replicate (k + 1) 97, 0, 0⟩, k + 1) := by
    have e : (97 : UInt8) :: List.replicate k 97 = List.replicate (k + 1) 97 := rfl
    simp only [wordAt]
    rw [if_pos (by decide), e, nameN_rep]
    simp
  unfold wordsL
  rw [List.length_replicate, List.replicate_succ, wordsF]
  rw [if_neg (by decide)]
  rw [h]
  simp [wordsF, List.replicate_succ]
def escL (l : List UInt8) : List UInt8 := l.flatMap fun c => if c.toNat = 34 ∨ c.toNat = 92 then [92, c] else [c]
def lexText (l : List UInt8) : List UInt8 := 34 :: (escL l ++ [34])
theorem escL_cons (c : UInt8) (l : List UInt8) : escL (c :: l) = (if c.toNat = 34 ∨ c.toNat = 92 then [92, c] else [c]) ++ escL l := rfl
theorem txt_plain : ∀ (l acc : List UInt8) (k : Nat), (∀ c ∈ l, 32 ≤ c.toNat) → txtScan (escL l ++ [34]) false acc k = some (acc ++ l, k + (escL l).length + 1)
  | [], acc, k, _ => by simp [escL, txtScan]
  | c :: r, acc, k, h => by
    have h1 := h c (by simp)
    have ih := fun a k => txt_plain r a k (fun d hd => h d (by simp [hd]))
    rw [escL_cons]
    by_cases hc : c.toNat = 34 ∨ c.toNat = 92
    · rw [if_pos hc]
      simp only [List.cons_append, List.nil_append, txtScan]
      rw [if_neg (by decide), if_neg (by decide), if_pos (by decide), if_pos hc, ih]
      simp; omega
    · rw [if_neg hc]
      simp only [List.cons_append, List.nil_append, txtScan]
      rw [if_neg (by omega), if_neg (by omega), if_neg (by omega), ih]
      simp; omega
theorem txt_not : ∀ (l acc : List UInt8) (k : Nat), (∃ c ∈ l, c.toNat < 32) → txtScan (escL l ++ [34]) false acc k = none
  | [], acc, k, h => by simp at h
  | c :: r, acc, k, h => by
    have h2 : ¬ c.toNat < 32 → ∃ d ∈ r, d.toNat < 32 := by
      intro hc
      obtain ⟨d, hd, hl⟩ := h
      simp only [List.mem_cons] at hd
      rcases hd with rfl | hd
      · omega
      · exact ⟨d, hd, hl⟩
    rw [escL_cons]
    by_cases hc : c.toNat = 34 ∨ c.toNat = 92
    · rw [if_pos hc]
      simp only [List.cons_append, List.nil_append, txtScan]
      rw [if_neg (by decide), if_neg (by decide), if_pos (by decide), if_pos hc, txt_not r _ _ (h2 (by omega))]
    · rw [if_neg hc]
      simp only [List.cons_append, List.nil_append, txtScan]
      rw [if_neg (by omega)]
      by_cases h3 : c.toNat < 32
      · rw [if_pos h3]
      · rw [if_neg h3, if_neg (by omega), txt_not r _ _ (h2 h3)]
theorem words_text (l : List UInt8) (h : ∀ c ∈ l, 32 ≤ c.toNat) : wordsL (lexText l) = (some [⟨3, l, 0, 0⟩, ⟨0, [], 0, (lexText l).length⟩], 0) := by
  unfold wordsL lexText
  simp only [List.length_cons, List.length_append]
  rw [wordsF]
  rw [if_neg (by decide)]
  simp only [wordAt]
  rw [if_neg (by decide), if_neg (by decide), if_pos (by decide), txt_plain l _ _ h]
  have e : (34 :: (escL l ++ [34])).drop (1 + (escL l).length + 1) = [] := by
    rw [List.drop_eq_nil_iff]; simp; omega
  simp only [Option.map_some, e, wordsF, List.nil_append, List.length_nil, List.cons_append, Prod.mk.injEq, and_true]
  congr 4
  omega
theorem words_textNot (l : List UInt8) (h : ∃ c ∈ l, c.toNat < 32) : wordsL (lexText l) = (none, 0) := by
  unfold wordsL lexText
  simp only [List.length_cons, List.length_append]
  rw [wordsF]
  rw [if_neg (by decide)]
  simp only [wordAt]
  rw [if_neg (by decide), if_neg (by decide), if_pos (by decide), txt_not l _ _ h]
  rfl
theorem nameN_pos (c : UInt8) (r : List UInt8) (h : letB c = true) : 0 < nameN (c :: r) := by
  rw [nameN, if_pos (by simp [wordB, h])]; omega
theorem numScan_ge : ∀ (l : List UInt8) (n k m j : Nat), numScan l n k = some (m, j) → k ≤ j ∧ j ≤ k + l.length ∧ (∀ c r, l = c :: r → digB c = true → k < j)
  | [], n, k, m, j, h => by simp [numScan] at h; simp; omega
  | c :: r, n, k, m, j, h => by
    rw [numScan] at h
    split at h
    · split at h
      · simp at h
      · have := numScan_ge r _ _ _ _ h
        simp; omega
    · split at h
      · simp at h
      · simp at h
        rename_i h1 h2
        refine ⟨by omega, by omega, ?_⟩
        intro c' r' e hd; injection e with e1 e2; subst e1; rw [hd] at h1; simp at h1
theorem txtScan_ge : ∀ (l : List UInt8) (b : Bool) (acc : List UInt8) (k : Nat) (t : List UInt8) (j : Nat), txtScan l b acc k = some (t, j) → k < j ∧ j ≤ k + l.length ∧ t.length ≤ acc.length + l.length
  | [], b, acc, k, t, j, h => by simp [txtScan] at h
  | c :: r, true, acc, k, t, j, h => by
    simp only [txtScan] at h
    split at h
    · have := txtScan_ge r _ _ _ _ _ h
      simp at this ⊢; omega
    · simp at h
  | c :: r, false, acc, k, t, j, h => by
    simp only [txtScan] at h
    split at h
    · simp at h; obtain ⟨rfl, rfl⟩ := h; simp
    · split at h
      · simp at h
      · split at h
        · have := txtScan_ge r _ _ _ _ _ h
          simp at this ⊢; omega
        · have := txtScan_ge r _ _ _ _ _ h
          simp at this ⊢; omega
theorem nameN_le (l : List UInt8) : nameN l ≤ l.length := by
  induction l with
  | nil => simp [nameN]
  | cons c r ih => rw [nameN]; split <;> simp <;> omega
theorem markF_yes (m : List UInt8) (ms : List (List UInt8)) (r : List UInt8) (h : m.isPrefixOf r = true) : markF (m :: ms) r = m.length := by
  unfold markF; rw [List.find?_cons_of_pos (by exact h)]
theorem markF_no (m : List UInt8) (ms : List (List UInt8)) (r : List UInt8) (h : m.isPrefixOf r = false) : markF (m :: ms) r = markF ms r := by
  unfold markF; rw [List.find?_cons_of_neg (by rw [h]; decide)]
theorem prefix_len (m r : List UInt8) (h : m.isPrefixOf r = true) : m.length ≤ r.length ∧ r.take m.length = m := by
  rw [List.isPrefixOf_iff_prefix] at h
  exact ⟨h.length_le, (List.prefix_iff_eq_take.1 h).symm⟩
theorem markF_le (ms : List (List UInt8)) (r : List UInt8) : markF ms r ≤ r.length := by
  induction ms with
  | nil => simp [markF]
  | cons m ms ih =>
    cases h : m.isPrefixOf r
    · rw [markF_no m ms r h]; exact ih
    · rw [markF_yes m ms r h]; exact (prefix_len m r h).1
theorem markN_le (l : List UInt8) : markN l ≤ l.length := markF_le _ l
theorem wordAt_len (l : List UInt8) (pos : Nat) (x : W) (k : Nat) (h : wordAt l pos = some (x, k)) : 0 < k ∧ k ≤ l.length := by
  match l, h with
  | [], h => simp [wordAt] at h
  | c :: r, h =>
    simp only [wordAt] at h
    split at h
    · rename_i hc
      simp only [Option.some.injEq, Prod.mk.injEq] at h
      obtain ⟨_, rfl⟩ := h
      exact ⟨nameN_pos c r hc, nameN_le _⟩
    · split at h
      · rename_i hd
        rw [Option.map_eq_some_iff] at h
        obtain ⟨⟨m, j⟩, h1, h2⟩ := h
        simp only [Prod.mk.injEq] at h2
        obtain ⟨_, rfl⟩ := h2
        have := numScan_ge _ _ _ _ _ h1
        have h3 := this.2.2 c r rfl hd
        exact ⟨by omega, by omega⟩
      · split at h
        · rw [Option.map_eq_some_iff] at h
          obtain ⟨⟨m, j⟩, h1, h2⟩ := h
          simp only [Prod.mk.injEq] at h2
          obtain ⟨_, rfl⟩ := h2
          have := txtScan_ge _ _ _ _ _ _ h1
          simp; omega
        · split at h
          · simp at h
          · simp only [Option.some.injEq, Prod.mk.injEq] at h
            obtain ⟨_, rfl⟩ := h
            exact ⟨by omega, markN_le _⟩
end Go.Proofs.YtgbkpkioijbgoaaDoor.lex
