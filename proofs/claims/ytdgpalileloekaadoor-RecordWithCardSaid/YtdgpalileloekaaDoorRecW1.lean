/- Properties of things: plain lists: found, taken away, given. No condition. -/
import Derived.Test.YtdgpalileloekaaDoorRowSet
namespace Go.Proofs.YtdgpalileloekaaDoor.recw
open Go.RowKit
set_option linter.unusedVariables false
set_option maxRecDepth 100000

structure Pr where
  key : Int
  kd : Int
  n : Int
  s : ByteArray
def Pr.c (p : Pr) : List Value := [.int .i64 p.key, .int .i64 p.kd, .int .i64 p.n, .string p.s]
theorem Pr.c_len (p : Pr) : p.c.length = 4 := rfl
def prC (l : List Pr) : List Value := l.flatMap Pr.c
theorem prC_len (l : List Pr) : (prC l).length = l.length * 4 := flat_len Pr.c 4 Pr.c_len l
theorem prC_append (a b : List Pr) : prC (a ++ b) = prC a ++ prC b := by simp [prC]
theorem prC_one (l : List Pr) : ∀ u ∈ prC l, u.oneCell' = true := fun u h => by
  obtain ⟨x, _, hx⟩ := List.mem_flatMap.1 h
  simp only [Pr.c, List.mem_cons, List.not_mem_nil, or_false] at hx
  rcases hx with rfl | rfl | rfl | rfl <;> rfl
def Pr.v (p : Pr) : Value := .agg #[.int .i64 p.key, .int .i64 p.kd, .int .i64 p.n, .string p.s]
abbrev Vl := Int × Int × ByteArray
def Vl.v (x : Vl) : Value := .agg #[.int .i64 x.1, .int .i64 x.2.1, .string x.2.2]
def vl0 : Vl := (0, 0, ⟨#[]⟩)
def Pr.vl (p : Pr) : Vl := (p.kd, p.n, p.s)
def findL : List Pr → Int → Vl
  | [], _ => vl0
  | p :: t, k => if p.key = k then p.vl else findL t k
def delL (l : List Pr) (k : Int) : List Pr := l.filter fun p => !decide (p.key = k)
def insL : List Pr → Pr → List Pr
  | [], x => [x]
  | p :: t, x => if p.key < x.key then p :: insL t x else x :: p :: t
def posL : List Pr → Int → Nat
  | [], _ => 0
  | p :: t, k => if p.key < k then posL t k + 1 else 0
def withL (l : List Pr) (k : Int) (v : Vl) : List Pr := if v.1 = 0 then delL l k else insL (delL l k) ⟨k, v.1, v.2.1, v.2.2⟩
def Rise (l : List Pr) : Prop := l.Pairwise fun a b => a.key < b.key
theorem ins_eq : ∀ (l : List Pr) (x : Pr), insL l x = l.take (posL l x.key) ++ x :: l.drop (posL l x.key)
  | [], x => by simp [insL, posL]
  | p :: t, x => by
    unfold insL posL
    split
    · rw [ins_eq t x]; simp
    · simp
theorem pos_le : ∀ (l : List Pr) (k : Int), posL l k ≤ l.length
  | [], k => by simp [posL]
  | p :: t, k => by
    unfold posL
    have := pos_le t k
    split <;> simp <;> omega
theorem pos_at : ∀ (l : List Pr) (k : Int) (i : Nat) (p : Pr), l[i]? = some p → i ≤ posL l k → (decide (p.key < k) = decide (i < posL l k))
  | [], k, i, p, h, _ => by simp at h
  | q :: t, k, 0, p, h, _ => by
    simp at h; subst h
    unfold posL
    split
    · rename_i h; simp [h]
    · rename_i h; simp [h]
  | q :: t, k, i + 1, p, h, hi => by
    have h2 : t[i]? = some p := by simpa using h
    unfold posL at hi ⊢
    split at hi
    · rename_i hq
      rw [if_pos hq]
      have := pos_at t k i p h2 (by omega)
      rw [this]
      rw [Bool.eq_iff_iff]; simp
    · omega
theorem del_no (l : List Pr) (k : Int) : ∀ p ∈ delL l k, p.key ≠ k := fun p hp => by
  unfold delL at hp
  simpa using (List.mem_filter.1 hp).2
theorem find_no : ∀ (l : List Pr) (k : Int), (∀ p ∈ l, p.key ≠ k) → findL l k = vl0
  | [], k, _ => rfl
  | p :: t, k, h => by
    unfold findL
    rw [if_neg (h p (by simp))]
    exact find_no t k fun q hq => h q (by simp [hq])
theorem find_del_ne : ∀ (l : List Pr) (k i : Int), i ≠ k → findL (delL l k) i = findL l i
  | [], k, i, _ => rfl
  | p :: t, k, i, h => by
    have ih := find_del_ne t k i h
    unfold delL at ih ⊢
    rw [List.filter_cons]
    by_cases hp : p.key = k
    · rw [if_neg (by simp [hp])]
      rw [ih]
      conv => rhs; unfold findL
      rw [if_neg (by omega)]
    · rw [if_pos (by simp [hp])]
      unfold findL
      rw [ih]
theorem find_ins_same : ∀ (l : List Pr) (x : Pr), (∀ p ∈ l, p.key ≠ x.key) → findL (insL l x) x.key = x.vl
  | [], x, _ => by simp [insL, findL]
  | p :: t, x, h => by
    unfold insL
    split
    · unfold findL
      rw [if_neg (h p (by simp))]
      exact find_ins_same t x fun q hq => h q (by simp [hq])
    · simp [findL]
theorem find_ins_ne : ∀ (l : List Pr) (x : Pr) (i : Int), i ≠ x.key → findL (insL l x) i = findL l i
  | [], x, i, h => by
    simp only [insL, findL]
    rw [if_neg (by omega)]
  | p :: t, x, i, h => by
    unfold insL
    split
    · unfold findL
      rw [find_ins_ne t x i h]
    · conv => lhs; unfold findL
      rw [if_neg (by omega)]
theorem ins_mem : ∀ (l : List Pr) (x q : Pr), q ∈ insL l x ↔ q = x ∨ q ∈ l
  | [], x, q => by simp [insL]
  | p :: t, x, q => by
    unfold insL
    split
    · rw [List.mem_cons, ins_mem t x q, List.mem_cons]
      constructor
      · rintro (h | h | h)
        · exact Or.inr (Or.inl h)
        · exact Or.inl h
        · exact Or.inr (Or.inr h)
      · rintro (h | h | h)
        · exact Or.inr (Or.inl h)
        · exact Or.inl h
        · exact Or.inr (Or.inr h)
    · simp
theorem ins_len : ∀ (l : List Pr) (x : Pr), (insL l x).length = l.length + 1
  | [], x => rfl
  | p :: t, x => by
    unfold insL
    split
    · simp [ins_len t x]
    · simp
theorem ins_rise : ∀ (l : List Pr) (x : Pr), Rise l → (∀ p ∈ l, p.key ≠ x.key) → Rise (insL l x)
  | [], x, _, _ => by simp [insL, Rise]
  | p :: t, x, h, hn => by
    unfold Rise at h
    rw [List.pairwise_cons] at h
    unfold insL
    split
    · rename_i hp
      unfold Rise
      rw [List.pairwise_cons]
      refine ⟨fun q hq => ?_, ins_rise t x h.2 fun q hq => hn q (by simp [hq])⟩
      rcases (ins_mem t x q).1 hq with rfl | hq
      · exact hp
      · exact h.1 q hq
    · rename_i hp
      have hpx : x.key < p.key := by have := hn p (by simp); omega
      unfold Rise
      rw [List.pairwise_cons]
      refine ⟨fun q hq => ?_, List.pairwise_cons.2 h⟩
      rcases List.mem_cons.1 hq with rfl | hq
      · exact hpx
      · have := h.1 q hq; omega
theorem del_rise {l : List Pr} (h : Rise l) (k : Int) : Rise (delL l k) := List.Pairwise.filter _ h
theorem del_len (l : List Pr) (k : Int) : (delL l k).length ≤ l.length := List.length_filter_le _ _
theorem with_rise {l : List Pr} (h : Rise l) (k : Int) (v : Vl) : Rise (withL l k v) := by
  unfold withL
  split
  · exact del_rise h k
  · exact ins_rise _ _ (del_rise h k) (del_no l k)
theorem with_find_same (l : List Pr) (k : Int) (v : Vl) (h0 : v.1 = 0 → v = vl0) : findL (withL l k v) k = v := by
  unfold withL
  split
  · rename_i h
    rw [find_no _ _ (del_no l k), h0 h]
  · exact find_ins_same (delL l k) ⟨k, v.1, v.2.1, v.2.2⟩ (del_no l k)
theorem with_find_ne (l : List Pr) (k i : Int) (v : Vl) (h : i ≠ k) : findL (withL l k v) i = findL l i := by
  unfold withL
  split
  · exact find_del_ne l k i h
  · rw [find_ins_ne _ _ _ h, find_del_ne l k i h]
theorem with_len (l : List Pr) (k : Int) (v : Vl) : (withL l k v).length ≤ l.length + 1 := by
  unfold withL
  have := del_len l k
  split
  · omega
  · rw [ins_len]; omega
theorem with_out (l : List Pr) (k : Int) (v : Vl) : (withL (withL l k v) k vl0).length ≤ l.length := by
  have e : withL (withL l k v) k vl0 = delL (withL l k v) k := by unfold withL vl0; rw [if_pos rfl]
  rw [e]
  unfold withL
  split
  · exact Nat.le_trans (del_len _ _) (del_len _ _)
  · have h2 : ∀ (D : List Pr) (x : Pr), (∀ p ∈ D, p.key ≠ x.key) → delL (insL D x) x.key = D := by
      intro D x
      induction D with
      | nil => intro _; simp [insL, delL]
      | cons p t ih =>
        intro hn
        have hp := hn p (by simp)
        have ht : delL t x.key = t := by
          unfold delL
          rw [List.filter_eq_self]
          intro q hq
          simp [hn q (by simp [hq])]
        unfold insL
        split
        · have := ih fun q hq => hn q (by simp [hq])
          unfold delL at this ⊢
          rw [List.filter_cons, if_pos (by simp [hp]), this]
        · unfold delL at ht ⊢
          rw [List.filter_cons, if_neg (by simp), List.filter_cons, if_pos (by simp [hp]), ht]
    have := h2 (delL l k) ⟨k, v.1, v.2.1, v.2.2⟩ (del_no l k)
    simp only at this
    rw [this]
    exact del_len l k
end Go.Proofs.YtdgpalileloekaaDoor.recw
