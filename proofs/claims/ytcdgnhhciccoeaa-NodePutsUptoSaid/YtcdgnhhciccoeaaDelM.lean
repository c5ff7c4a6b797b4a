/- Changes in the order of their keys: plain lists. No condition. -/
import Derived.Test.YtcdgnhhciccoeaaSl
namespace Go.Proofs.Ytcdgnhhciccoeaa.delta
open Go.RowKit
set_option linter.unusedVariables false

/-- is a key below another one? -/
def lt (a b : ByteArray) : Bool := Op.bytesLess a.toList b.toList
theorem less_irrefl : ∀ l : List UInt8, Op.bytesLess l l = false
  | [] => rfl
  | a :: r => by
    show (decide (a < a) || (a == a && Op.bytesLess r r)) = false
    rw [less_irrefl r]; simp
theorem less_total : ∀ x y : List UInt8, Op.bytesLess x y = false → Op.bytesLess y x = false → x = y
  | [], [], _, _ => rfl
  | [], _ :: _, h, _ => by cases h
  | _ :: _, [], _, h => by cases h
  | a :: r, b :: t, h, k => by
    have h : (decide (a < b) || (a == b && Op.bytesLess r t)) = false := h
    have k : (decide (b < a) || (b == a && Op.bytesLess t r)) = false := k
    simp only [Bool.or_eq_false_iff, decide_eq_false_iff_not, Bool.and_eq_false_iff, beq_eq_false_iff_ne, ne_eq] at h k
    have e : a = b := UInt8.toNat_inj.1 (by have h1 := h.1; have k1 := k.1; rw [UInt8.lt_iff_toNat_lt] at h1 k1; omega)
    subst e
    rw [less_total r t (by simpa using h.2) (by simpa using k.2)]
theorem less_trans : ∀ x y z : List UInt8, Op.bytesLess x y = true → Op.bytesLess y z = true → Op.bytesLess x z = true
  | [], [], _, h, _ => by cases h
  | [], _ :: _, [], _, h => by cases h
  | [], _ :: _, _ :: _, _, _ => rfl
  | _ :: _, [], _, h, _ => by cases h
  | _ :: _, _ :: _, [], _, h => by cases h
  | a :: r, b :: s, c :: t, h, k => by
    have h : (decide (a < b) || (a == b && Op.bytesLess r s)) = true := h
    have k : (decide (b < c) || (b == c && Op.bytesLess s t)) = true := k
    show (decide (a < c) || (a == c && Op.bytesLess r t)) = true
    simp only [Bool.or_eq_true, decide_eq_true_eq, Bool.and_eq_true, beq_iff_eq] at h k ⊢
    rcases h with h | ⟨e1, h1⟩
    · rcases k with k | ⟨e2, k2⟩
      · left; rw [UInt8.lt_iff_toNat_lt] at *; omega
      · exact .inl (e2 ▸ h)
    · rcases k with k | ⟨e2, k2⟩
      · exact .inl (e1 ▸ k)
      · exact .inr ⟨e1.trans e2, less_trans r s t h1 k2⟩
theorem toList_inj {a b : ByteArray} (h : a.toList = b.toList) : a = b := ByteArray.ext (Array.toList_inj.1 (by rw [ByteArray.toList_eq, ByteArray.toList_eq] at h; exact h))
theorem lt_irrefl (a : ByteArray) : lt a a = false := less_irrefl _
theorem lt_trans {a b c : ByteArray} (h : lt a b = true) (k : lt b c = true) : lt a c = true := less_trans _ _ _ h k
theorem lt_asymm {a b : ByteArray} (h : lt a b = true) : lt b a = false := by
  cases k : lt b a with
  | false => rfl
  | true => have := lt_trans h k; rw [lt_irrefl] at this; cases this
theorem lt_total {a b : ByteArray} (h : lt a b = false) (k : lt b a = false) : a = b := toList_inj (less_total _ _ h k)
theorem lt_ne {a b : ByteArray} (h : lt a b = true) : a ≠ b := by rintro rfl; rw [lt_irrefl] at h; cases h
/-- are two keys the same? -/
def eqB (a b : ByteArray) : Bool := a.toList == b.toList
theorem eqB_iff {a b : ByteArray} : eqB a b = true ↔ a = b := by
  unfold eqB
  rw [beq_iff_eq]
  exact ⟨toList_inj, fun h => by rw [h]⟩
theorem eqB_self (a : ByteArray) : eqB a a = true := eqB_iff.2 rfl
theorem eqB_no {a b : ByteArray} (h : a ≠ b) : eqB a b = false := by
  cases k : eqB a b with
  | false => rfl
  | true => exact absurd (eqB_iff.1 k) h
theorem lt_le_trans {a b c : ByteArray} (h : lt a b = true) (k : lt c b = false) : lt a c = true := by
  by_cases e : b = c
  · rw [← e]; exact h
  · cases q : lt b c with
    | true => exact lt_trans h q
    | false => exact absurd (lt_total q k) e
theorem le_lt_trans {a b c : ByteArray} (h : lt b a = false) (k : lt b c = true) : lt a c = true := by
  by_cases e : a = b
  · rw [e]; exact k
  · cases q : lt a b with
    | true => exact lt_trans q k
    | false => exact absurd (lt_total q h) e

/-- a change -/
structure Ch where
  k : ByteArray
  v : ByteArray
  g : Bool
def Ch.c (x : Ch) : List Value := [.string x.k, .string x.v, .bool x.g]
def Ch.a (x : Ch) : Value := .agg #[.string x.k, .string x.v, .bool x.g]
theorem Ch.c_len (x : Ch) : x.c.length = 3 := rfl
def chC (l : List Ch) : List Value := l.flatMap Ch.c
theorem chC_len (l : List Ch) : (chC l).length = l.length * 3 := flat_len Ch.c 3 Ch.c_len l
theorem chC_append (l m : List Ch) : chC (l ++ m) = chC l ++ chC m := by simp [chC]
theorem chC_one (l : List Ch) : ∀ u ∈ chC l, u.oneCell' = true := by
  intro u hu
  rw [chC, List.mem_flatMap] at hu
  obtain ⟨x, _, hx⟩ := hu
  simp only [Ch.c, List.mem_cons, List.not_mem_nil, or_false] at hx
  rcases hx with rfl | rfl | rfl <;> rfl
/-- their keys rise -/
def Srt (l : List Ch) : Prop := l.Pairwise (fun x y => lt x.k y.k = true)
/-- where the first one from a key on stands -/
def pos (key : ByteArray) : List Ch → Nat
  | [] => 0
  | x :: t => if lt x.k key then pos key t + 1 else 0
theorem pos_le (key : ByteArray) : ∀ l, pos key l ≤ l.length
  | [] => Nat.le_refl _
  | x :: t => by
    unfold pos
    split
    · have := pos_le key t; simp; omega
    · exact Nat.zero_le _
theorem pos_iff (key : ByteArray) : ∀ (l : List Ch), Srt l → ∀ (i : Nat) (x : Ch), l[i]? = some x → lt x.k key = decide (i < pos key l)
  | [], _, i, x, h => by simp at h
  | y :: t, hs, 0, x, h => by
    simp at h; subst h
    unfold pos
    cases q : lt y.k key <;> simp
  | y :: t, hs, i + 1, x, h => by
    have h : t[i]? = some x := by simpa using h
    have h1 := List.pairwise_cons.1 hs
    have ih := pos_iff key t h1.2 i x h
    unfold pos
    cases q : lt y.k key with
    | true => rw [ih]; simp
    | false =>
      have hx : lt y.k x.k = true := h1.1 x (List.mem_of_getElem? h)
      have : lt x.k key = false := by
        cases r : lt x.k key with
        | false => rfl
        | true => rw [lt_trans hx r] at q; cases q
      rw [this]; simp
/-- a change is put among the others -/
def putL (c : Ch) : List Ch → List Ch
  | [] => [c]
  | x :: t => if lt x.k c.k then x :: putL c t else if eqB x.k c.k then c :: t else c :: x :: t
theorem put_mem (c : Ch) : ∀ (l : List Ch) (y : Ch), y ∈ putL c l → y = c ∨ y ∈ l
  | [], y, h => by simp [putL] at h; exact .inl h
  | x :: t, y, h => by
    unfold putL at h
    split at h
    · rcases List.mem_cons.1 h with h | h
      · exact .inr (by simp [h])
      · rcases put_mem c t y h with h | h
        · exact .inl h
        · exact .inr (by simp [h])
    · split at h
      · rcases List.mem_cons.1 h with h | h
        · exact .inl h
        · exact .inr (by simp [h])
      · rcases List.mem_cons.1 h with h | h
        · exact .inl h
        · exact .inr h
theorem put_srt (c : Ch) : ∀ l, Srt l → Srt (putL c l)
  | [], _ => by simp [putL, Srt]
  | x :: t, hs => by
    have h1 := List.pairwise_cons.1 hs
    unfold putL
    split
    · rename_i q
      refine List.pairwise_cons.2 ⟨fun y hy => ?_, put_srt c t h1.2⟩
      rcases put_mem c t y hy with rfl | hy
      · exact q
      · exact h1.1 y hy
    · rename_i q
      split
      · rename_i e
        have e := eqB_iff.1 e
        exact List.pairwise_cons.2 ⟨fun y hy => by rw [← e]; exact h1.1 y hy, h1.2⟩
      · rename_i e
        have hcx : lt c.k x.k = true := by
          cases r : lt c.k x.k with
          | true => rfl
          | false => exact absurd (eqB_iff.2 (lt_total (by simpa using q) r)) e
        refine List.pairwise_cons.2 ⟨fun y hy => ?_, hs⟩
        rcases List.mem_cons.1 hy with rfl | hy
        · exact hcx
        · exact lt_trans hcx (h1.1 y hy)
/-- does one of that key stand there? -/
def atB (key : ByteArray) (l : List Ch) : Bool := match l[pos key l]? with | some x => eqB x.k key | none => false
theorem atB_cons (key : ByteArray) (x : Ch) (t : List Ch) (h : lt x.k key = true) : atB key (x :: t) = atB key t := by simp [atB, pos, h]
theorem put_at (c : Ch) : ∀ l, atB c.k l = true → putL c l = l.set (pos c.k l) c
  | [], h => by cases h
  | x :: t, h => by
    cases q : lt x.k c.k with
    | true =>
      rw [atB_cons _ _ _ q] at h
      simp [putL, pos, q, put_at c t h]
    | false =>
      have h2 : eqB x.k c.k = true := by simpa [atB, pos, q] using h
      simp [putL, pos, q, h2]
theorem put_new (c : Ch) : ∀ l, atB c.k l = false → putL c l = l.take (pos c.k l) ++ c :: l.drop (pos c.k l)
  | [], h => by simp [putL, pos]
  | x :: t, h => by
    cases q : lt x.k c.k with
    | true =>
      rw [atB_cons _ _ _ q] at h
      simp [putL, pos, q, put_new c t h]
    | false =>
      have h2 : eqB x.k c.k = false := by simpa [atB, pos, q] using h
      simp [putL, pos, q, h2]
theorem put_pos (c : Ch) : ∀ l, pos c.k (putL c l) = pos c.k l ∧ (putL c l)[pos c.k l]? = some c
  | [] => by simp [putL, pos, lt_irrefl]
  | x :: t => by
    have ih := put_pos c t
    cases q : lt x.k c.k with
    | true => simp [putL, pos, q, ih.1, ih.2]
    | false =>
      cases e : eqB x.k c.k <;> simp [putL, pos, q, e, lt_irrefl]
theorem put_len (c : Ch) : ∀ l, (putL c l).length ≤ l.length + 1
  | [] => by simp [putL]
  | x :: t => by
    have := put_len c t
    unfold putL
    split
    · simp; omega
    · split <;> simp
/-- the law's own way to put one among others -/
def withF (c : Ch) : List Ch → Bool → List Ch
  | [], true => []
  | [], false => [c]
  | x :: t, b => ((if !b && !(lt x.k c.k) then [c] else []) ++ (if eqB x.k c.k then [] else [x])) ++ withF c t (b || !(lt x.k c.k))
theorem with_true (c : Ch) : ∀ l : List Ch, (∀ x ∈ l, lt c.k x.k = true) → withF c l true = l
  | [], _ => rfl
  | x :: t, h => by
    have hx := h x (by simp)
    have hne : eqB x.k c.k = false := eqB_no (fun e => lt_ne hx e.symm)
    simp [withF, hne, with_true c t (fun y hy => h y (by simp [hy]))]
theorem with_put (c : Ch) : ∀ l, Srt l → withF c l false = putL c l
  | [], _ => rfl
  | x :: t, hs => by
    have h1 := List.pairwise_cons.1 hs
    cases q : lt x.k c.k with
    | true =>
      have hne : eqB x.k c.k = false := eqB_no (lt_ne q)
      simp [withF, putL, q, hne, with_put c t h1.2]
    | false =>
      have ht : withF c t true = t := with_true c t fun y hy => le_lt_trans q (h1.1 y hy)
      cases e : eqB x.k c.k with
      | true => simp [withF, putL, q, e, ht]
      | false => simp [withF, putL, q, e, ht]
/-- those from a key on and below another one (the empty one: to the end) -/
def endL (f t : ByteArray) (l : List Ch) : Nat := if eqB t ⟨#[]⟩ then l.length else max (pos f l) (pos t l)
def rangeL (f t : ByteArray) (l : List Ch) : List Ch := (l.drop (pos f l)).take (endL f t l - pos f l)
def wantB (f t : ByteArray) (x : Ch) : Bool := !(lt x.k f) && (eqB t ⟨#[]⟩ || lt x.k t)
theorem pos_zero (key : ByteArray) (l : List Ch) (h : ∀ x ∈ l, lt x.k key = false) : pos key l = 0 := by
  cases l with
  | nil => rfl
  | cons x t => simp [pos, h x (by simp)]
theorem want_range (f t : ByteArray) : ∀ l, Srt l → l.filter (wantB f t) = rangeL f t l
  | [], _ => by simp [rangeL]
  | x :: r, hs => by
    have h1 := List.pairwise_cons.1 hs
    have ih := want_range f t r h1.2
    cases q : lt x.k f with
    | true =>
      have hw : wantB f t x = false := by simp [wantB, q]
      rw [List.filter_cons, if_neg (by simp [hw]), ih]
      unfold rangeL endL
      cases e : eqB t ⟨#[]⟩ with
      | true => simp [pos, q]
      | false =>
        cases p : lt x.k t with
        | true => simp only [pos, q, p, if_true, Bool.false_eq_true, if_false, List.drop_succ_cons]; congr 1; omega
        | false =>
          have hz : pos t r = 0 := pos_zero t r fun y hy => by
            cases s : lt y.k t with
            | false => rfl
            | true => rw [lt_trans (h1.1 y hy) s] at p; cases p
          simp only [pos, q, p, if_true, Bool.false_eq_true, if_false, List.drop_succ_cons, hz]; congr 1; omega
    | false =>
      have hpf : pos f (x :: r) = 0 := by simp [pos, q]
      have hpr : pos f r = 0 := pos_zero f r fun y hy => by
        cases s : lt y.k f with
        | false => rfl
        | true => rw [lt_trans (h1.1 y hy) s] at q; cases q
      unfold rangeL endL at ih ⊢
      rw [hpr] at ih
      rw [hpf]
      cases e : eqB t ⟨#[]⟩ with
      | true =>
        rw [e] at ih
        have hw : wantB f t x = true := by simp [wantB, q, e]
        rw [List.filter_cons, if_pos hw, ih]
        simp
      | false =>
        rw [e] at ih
        cases p : lt x.k t with
        | true =>
          have hw : wantB f t x = true := by simp [wantB, q, p]
          rw [List.filter_cons, if_pos hw, ih]
          simp [pos, p]
        | false =>
          have hw : wantB f t x = false := by simp [wantB, e, p]
          have hz : pos t r = 0 := pos_zero t r fun y hy => by
            cases s : lt y.k t with
            | false => rfl
            | true => rw [lt_trans (h1.1 y hy) s] at p; cases p
          rw [List.filter_cons, if_neg (by simp [hw]), ih]
          simp [pos, p, hz]
theorem range_all (l : List Ch) : rangeL ⟨#[]⟩ ⟨#[]⟩ l = l := by
  have hz : pos ⟨#[]⟩ l = 0 := pos_zero _ l fun x _ => by
    have e : (⟨#[]⟩ : ByteArray).toList = [] := by rw [ByteArray.toList_eq]
    show Op.bytesLess x.k.toList (⟨#[]⟩ : ByteArray).toList = false
    rw [e]
    cases x.k.toList <;> rfl
  simp [rangeL, endL, hz, eqB_self]
end Go.Proofs.Ytcdgnhhciccoeaa.delta
