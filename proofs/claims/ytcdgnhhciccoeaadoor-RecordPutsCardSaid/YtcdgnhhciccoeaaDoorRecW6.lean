/- Properties of things: plain lists: found, taken away, given. No condition. slices.Clone at labels and properties; slices.IndexFunc, slices.DeleteFunc at properties, whatever the closure. No condition but the lengths. slices.DeleteFunc at properties, whatever the closure. No condition but the lengths. slices.Insert of one property into a row that is held: four roads: at the end; in the midst, with room and without. No condition but the lengths. record.With: what a thing with a property is; the props in a plain list. No condition but the lengths. record.Find: what a thing's property is; the props in a plain list. No condition but the length. -/
import Derived.Test.YtcdgnhhciccoeaaDoorRowSet
import Derived.Test.YtcdgnhhciccoeaaDoorHpTurn
import Derived.Test.YtcdgnhhciccoeaaDoorAppS
import Derived.Deep.RegionLaw
import Derived.Deep.CutBlock
import Derived.Shelf.Spec.SlicesInsertGrow
import Derived.BigQuiet
section
namespace Go.Proofs.YtcdgnhhciccoeaaDoor.recw
open Go.RowKit
set_option linter.unusedVariables false
set_option maxRecDepth 100000

structure Pr where
  key : Int
  kd : Int
  n : Int
  s : ByteArray
def Pr.c (p : Pr) : List Value := [.int .i64 p.key, .int .i64 p.kd, .int .i64 p.n, .string p.s]
theorem Pr.c_len (p : Pr) : p.c.length = 4 := rfl
def prC (l : List Pr) : List Value := l.flatMap Pr.c
theorem prC_len (l : List Pr) : (prC l).length = l.length * 4 := flat_len Pr.c 4 Pr.c_len l
theorem prC_append (a b : List Pr) : prC (a ++ b) = prC a ++ prC b := by simp [prC]
theorem prC_one (l : List Pr) : ∀ u ∈ prC l, u.oneCell' = true := fun u h => by
  obtain ⟨x, _, hx⟩ := List.mem_flatMap.1 h
  simp only [Pr.c, List.mem_cons, List.not_mem_nil, or_false] at hx
  rcases hx with rfl | rfl | rfl | rfl <;> rfl
def Pr.v (p : Pr) : Value := .agg #[.int .i64 p.key, .int .i64 p.kd, .int .i64 p.n, .string p.s]
abbrev Vl := Int × Int × ByteArray
def Vl.v (x : Vl) : Value := .agg #[.int .i64 x.1, .int .i64 x.2.1, .string x.2.2]
def vl0 : Vl := (0, 0, ⟨#[]⟩)
def Pr.vl (p : Pr) : Vl := (p.kd, p.n, p.s)
def findL : List Pr → Int → Vl
  | [], _ => vl0
  | p :: t, k => if p.key = k then p.vl else findL t k
def delL (l : List Pr) (k : Int) : List Pr := l.filter fun p => !decide (p.key = k)
def insL : List Pr → Pr → List Pr
  | [], x => [x]
  | p :: t, x => if p.key < x.key then p :: insL t x else x :: p :: t
def posL : List Pr → Int → Nat
  | [], _ => 0
  | p :: t, k => if p.key < k then posL t k + 1 else 0
def withL (l : List Pr) (k : Int) (v : Vl) : List Pr := if v.1 = 0 then delL l k else insL (delL l k) ⟨k, v.1, v.2.1, v.2.2⟩
def Rise (l : List Pr) : Prop := l.Pairwise fun a b => a.key < b.key
theorem ins_eq : ∀ (l : List Pr) (x : Pr), insL l x = l.take (posL l x.key) ++ x :: l.drop (posL l x.key)
  | [], x => by simp [insL, posL]
  | p :: t, x => by
    unfold insL posL
    split
    · rw [ins_eq t x]; simp
    · simp
theorem pos_le : ∀ (l : List Pr) (k : Int), posL l k ≤ l.length
  | [], k => by simp [posL]
  | p :: t, k => by
    unfold posL
    have := pos_le t k
    split <;> simp <;> omega
theorem pos_at : ∀ (l : List Pr) (k : Int) (i : Nat) (p : Pr), l[i]? = some p → i ≤ posL l k → (decide (p.key < k) = decide (i < posL l k))
  | [], k, i, p, h, _ => by simp at h
  | q :: t, k, 0, p, h, _ => by
    simp at h; subst h
    unfold posL
    split
    · rename_i h; simp [h]
    · rename_i h; simp [h]
  | q :: t, k, i + 1, p, h, hi => by
    have h2 : t[i]? = some p := by simpa using h
    unfold posL at hi ⊢
    split at hi
    · rename_i hq
      rw [if_pos hq]
      have := pos_at t k i p h2 (by omega)
      rw [this]
      rw [Bool.eq_iff_iff]; simp
    · omega
theorem del_no (l : List Pr) (k : Int) : ∀ p ∈ delL l k, p.key ≠ k := fun p hp => by
  unfold delL at hp
  simpa using (List.mem_filter.1 hp).2
theorem find_no : ∀ (l : List Pr) (k : Int), (∀ p ∈ l, p.key ≠ k) → findL l k = vl0
  | [], k, _ => rfl
  | p :: t, k, h => by
    unfold findL
    rw [if_neg (h p (by simp))]
    exact find_no t k fun q hq => h q (by simp [hq])
theorem find_del_ne : ∀ (l : List Pr) (k i : Int), i ≠ k → findL (delL l k) i = findL l i
  | [], k, i, _ => rfl
  | p :: t, k, i, h => by
    have ih := find_del_ne t k i h
    unfold delL at ih ⊢
    rw [List.filter_cons]
    by_cases hp : p.key = k
    · rw [if_neg (by simp [hp])]
      rw [ih]
      conv => rhs; unfold findL
      rw [if_neg (by omega)]
    · rw [if_pos (by simp [hp])]
      unfold findL
      rw [ih]
theorem find_ins_same : ∀ (l : List Pr) (x : Pr), (∀ p ∈ l, p.key ≠ x.key) → findL (insL l x) x.key = x.vl
  | [], x, _ => by simp [insL, findL]
  | p :: t, x, h => by
    unfold insL
    split
    · unfold findL
      rw [if_neg (h p (by simp))]
      exact find_ins_same t x fun q hq => h q (by simp [hq])
    · simp [findL]
theorem find_ins_ne : ∀ (l : List Pr) (x : Pr) (i : Int), i ≠ x.key → findL (insL l x) i = findL l i
  | [], x, i, h => by
    simp only [insL, findL]
    rw [if_neg (by omega)]
  | p :: t, x, i, h => by
    unfold insL
    split
    · unfold findL
      rw [find_ins_ne t x i h]
    · conv => lhs; unfold findL
      rw [if_neg (by omega)]
theorem ins_mem : ∀ (l : List Pr) (x q : Pr), q ∈ insL l x ↔ q = x ∨ q ∈ l
  | [], x, q => by simp [insL]
  | p :: t, x, q => by
    unfold insL
    split
    · rw [List.mem_cons, ins_mem t x q, List.mem_cons]
      constructor
      · rintro (h | h | h)
        · exact Or.inr (Or.inl h)
        · exact Or.inl h
        · exact Or.inr (Or.inr h)
      · rintro (h | h | h)
        · exact Or.inr (Or.inl h)
        · exact Or.inl h
        · exact Or.inr (Or.inr h)
    · simp
theorem ins_len : ∀ (l : List Pr) (x : Pr), (insL l x).length = l.length + 1
  | [], x => rfl
  | p :: t, x => by
    unfold insL
    split
    · simp [ins_len t x]
    · simp
theorem ins_rise : ∀ (l : List Pr) (x : Pr), Rise l → (∀ p ∈ l, p.key ≠ x.key) → Rise (insL l x)
  | [], x, _, _ => by simp [insL, Rise]
  | p :: t, x, h, hn => by
    unfold Rise at h
    rw [List.pairwise_cons] at h
    unfold insL
    split
    · rename_i hp
      unfold Rise
      rw [List.pairwise_cons]
      refine ⟨fun q hq => ?_, ins_rise t x h.2 fun q hq => hn q (by simp [hq])⟩
      rcases (ins_mem t x q).1 hq with rfl | hq
      · exact hp
      · exact h.1 q hq
    · rename_i hp
      have hpx : x.key < p.key := by have := hn p (by simp); omega
      unfold Rise
      rw [List.pairwise_cons]
      refine ⟨fun q hq => ?_, List.pairwise_cons.2 h⟩
      rcases List.mem_cons.1 hq with rfl | hq
      · exact hpx
      · have := h.1 q hq; omega
theorem del_rise {l : List Pr} (h : Rise l) (k : Int) : Rise (delL l k) := List.Pairwise.filter _ h
theorem del_len (l : List Pr) (k : Int) : (delL l k).length ≤ l.length := List.length_filter_le _ _
theorem with_rise {l : List Pr} (h : Rise l) (k : Int) (v : Vl) : Rise (withL l k v) := by
  unfold withL
  split
  · exact del_rise h k
  · exact ins_rise _ _ (del_rise h k) (del_no l k)
theorem with_find_same (l : List Pr) (k : Int) (v : Vl) (h0 : v.1 = 0 → v = vl0) : findL (withL l k v) k = v := by
  unfold withL
  split
  · rename_i h
    rw [find_no _ _ (del_no l k), h0 h]
  · exact find_ins_same (delL l k) ⟨k, v.1, v.2.1, v.2.2⟩ (del_no l k)
theorem with_find_ne (l : List Pr) (k i : Int) (v : Vl) (h : i ≠ k) : findL (withL l k v) i = findL l i := by
  unfold withL
  split
  · exact find_del_ne l k i h
  · rw [find_ins_ne _ _ _ h, find_del_ne l k i h]
theorem with_len (l : List Pr) (k : Int) (v : Vl) : (withL l k v).length ≤ l.length + 1 := by
  unfold withL
  have := del_len l k
  split
  · omega
  · rw [ins_len]; omega
theorem with_out (l : List Pr) (k : Int) (v : Vl) : (withL (withL l k v) k vl0).length ≤ l.length := by
  have e : withL (withL l k v) k vl0 = delL (withL l k v) k := by unfold withL vl0; rw [if_pos rfl]
  rw [e]
  unfold withL
  split
  · exact Nat.le_trans (del_len _ _) (del_len _ _)
  · have h2 : ∀ (D : List Pr) (x : Pr), (∀ p ∈ D, p.key ≠ x.key) → delL (insL D x) x.key = D := by
      intro D x
      induction D with
      | nil => intro _; simp [insL, delL]
      | cons p t ih =>
        intro hn
        have hp := hn p (by simp)
        have ht : delL t x.key = t := by
          unfold delL
          rw [List.filter_eq_self]
          intro q hq
          simp [hn q (by simp [hq])]
        unfold insL
        split
        · have := ih fun q hq => hn q (by simp [hq])
          unfold delL at this ⊢
          rw [List.filter_cons, if_pos (by simp [hp]), this]
        · unfold delL at ht ⊢
          rw [List.filter_cons, if_neg (by simp), List.filter_cons, if_pos (by simp [hp]), ht]
    have := h2 (delL l k) ⟨k, v.1, v.2.1, v.2.2⟩ (del_no l k)
    simp only at this
    rw [this]
    exact del_len l k
end Go.Proofs.YtcdgnhhciccoeaaDoor.recw
end
section
namespace Go.Proofs.YtcdgnhhciccoeaaDoor.recw
open Go.RowKit
attribute [local go_sem ↓] Go.wp_at_zero Go.wp_at_succ
set_option linter.unusedVariables false
set_option maxRecDepth 100000

def z0 : Value := .agg #[.int .i64 0, .int .i64 0, .int .i64 0, .string ⟨#[]⟩]
theorem pInfo : (Tryd.prog.info? 75).map (fun i => (i.zero, i.size, i.bytes)) = some (some z0, 4, 40) := by kernel_rfl
theorem iInfo : (Tryd.prog.info? 3).map (fun i => (i.zero, i.size, i.bytes)) = some (some (.int .i64 0), 1, 8) := by kernel_rfl
theorem eql_nil {P : Program} (w : World) (t e : TypeId) (a : Option Addr) (l c : Nat) (h : P.underlying t = some (.slice e)) : (binOp .eql t (.slice a l c) (.slice none 0 0)).run P w = .ok (.bool a.isNone) w := by
  have := run_equal_slice_nil (w := w) t e a l c h
  simp [binOp, this]
def RowV (w : World) (t : TypeId) (size n : Nat) (ys : List Value) (v : Value) (w' : World) : Prop := (∃ ad cp, v = .slice ad n cp) ∧ Hp w [] [.row t size v n ys] w'
theorem hmf (fn : Fn) (first cap : Array Value) (w : World) : (Instr.makeFunc fn first cap).run Tryd.prog w = .ok (.func fn first cap) w := rfl
/-- clear of the end of a row: a row of the rest is left -/
theorem zc_len (m : Nat) : (Builtin.zeroCells z0.cells m).toList.length = m * 4 := by simp [Builtin.zeroCells, z0, Value.cells]
theorem zc_one (m : Nat) : ∀ u ∈ (Builtin.zeroCells z0.cells m).toList, u.oneCell' = true := by
  intro u hu
  obtain ⟨i, hi, rfl⟩ := List.mem_iff_getElem.1 hu
  have h4 : i % 4 < 4 := Nat.mod_lt _ (by decide)
  have h5 : i % 4 = 0 ∨ i % 4 = 1 ∨ i % 4 = 2 ∨ i % 4 = 3 := by omega
  simp only [Builtin.zeroCells, z0, Value.cells]
  rcases h5 with h | h | h | h <;> simp [h, Value.oneCell']
theorem run_clear4 (w : World) (g i m cp ty : Nat) (cur : Array Value) (hg : w.heap[g]? = some (.cells cur 75 (0, 0))) (hm : 0 < m) (hfit : i * 4 + m * 4 ≤ cur.size) :
    (Builtin.clear_ #[24] ty #[.slice (some ⟨g, i * 4, none⟩) m cp]).run Tryd.prog w = .ok (.tuple #[]) (w.setRow g (splice cur.toList (i * 4) (Builtin.zeroCells z0.cells m).toList).toArray) := by
  have hst := run_storeCells_at Tryd.prog g (i * 4) 75 (Builtin.zeroCells z0.cells m).toList 0 cur w hg (by rw [zc_len]; simpa using hfit) (zc_one m)
  have hz : ∀ w, (zeroValue 75).run Tryd.prog w = .ok z0 w := fun w => by kernel_rfl
  obtain ⟨k, rfl⟩ : ∃ k, m = k + 1 := ⟨m - 1, by omega⟩
  simp [Builtin.clear_, run_underlying Tryd.underlying24, hz, hst, splice]
theorem rowCut {W : World} {g n cap i : Nat} {Y : List Value} (h : W.ownsRow 0 75 4 (.slice (some ⟨g, 0, none⟩) n cap) n Y) (hi : i < n) :
    ∃ cur, W.heap[g]? = some (.cells cur 75 (0, 0)) ∧ i * 4 + (n - i) * 4 ≤ cur.size ∧ (W.setRow g (splice cur.toList (i * 4) (Builtin.zeroCells z0.cells (n - i)).toList).toArray).ownsRow 0 75 4 (.slice (some ⟨g, 0, none⟩) i cap) i (Y.take (i * 4)) := by
  rcases h.2 with ⟨h0, _⟩ | ⟨g', cap', cur, hv, hb, hg, h1, h2, h3, h4⟩
  · cases h0
  · injection hv with hv1 hv2 hv3
    injection hv1 with hv1
    injection hv1 with hv1
    subst hv1 hv3
    have hYl := h.1
    have hcl : cur.toList.length = cap * 4 := by simpa using h3
    have hz := zc_len (n - i)
    have hfit : i * 4 + (n - i) * 4 ≤ cur.size := by rw [h3]; omega
    refine ⟨cur, hg, hfit, ?_, Or.inr ⟨g, cap, _, rfl, hb, setRow_heap W g cur _ 75 _ hg, by omega, h2, ?_, ?_⟩⟩
    · rw [List.length_take]; omega
    · simp [length_splice cur.toList (i * 4) _ (by rw [hz, hcl]; omega), hcl]
    · unfold splice
      simp only
      rw [List.take_append_of_le_length (by rw [List.length_take]; omega), List.take_take, Nat.min_self, ← h4, List.take_take, Nat.min_eq_left (by omega)]
theorem keeps_row {W : World} {g : Nat} (cs : Array Value) : Keeps [g] W (W.setRow g cs) := keeps_setRow (Keeps.refl [g] W) (Or.inl (by simp)) cs
/-- four cells of a row are written -/
def set4 (Y : List Value) (a : Nat) (u0 u1 u2 u3 : Value) : List Value := (((Y.set a u0).set (a + 1) u1).set (a + 2) u2).set (a + 3) u3
theorem set4_len (Y : List Value) (a : Nat) (u0 u1 u2 u3 : Value) : (set4 Y a u0 u1 u2 u3).length = Y.length := by simp [set4]
theorem set4_at (Y : List Value) (a : Nat) (u0 u1 u2 u3 : Value) (j : Nat) (h : a + 4 ≤ Y.length) : (set4 Y a u0 u1 u2 u3)[j]? = if j = a then some u0 else if j = a + 1 then some u1 else if j = a + 2 then some u2 else if j = a + 3 then some u3 else Y[j]? := by
  unfold set4
  simp only [List.getElem?_set, List.length_set]
  by_cases h0 : j = a
  · subst h0; simp; omega
  · by_cases h1 : j = a + 1
    · subst h1; simp; omega
    · by_cases h2 : j = a + 2
      · subst h2; simp; omega
      · by_cases h3 : j = a + 3
        · subst h3; simp; omega
        · rw [if_neg (by omega), if_neg (by omega), if_neg (by omega), if_neg (by omega), if_neg h0, if_neg h1, if_neg h2, if_neg h3]
theorem set4_take (Y : List Value) (i : Nat) (u0 u1 u2 u3 : Value) (h : i * 4 + 4 ≤ Y.length) : (set4 Y (i * 4) u0 u1 u2 u3).take ((i + 1) * 4) = Y.take (i * 4) ++ [u0, u1, u2, u3] := by
  have hl : (Y.take (i * 4)).length = i * 4 := by rw [List.length_take]; omega
  apply List.ext_getElem?
  intro j
  rw [List.getElem?_take, List.getElem?_append, hl, List.getElem?_take]
  by_cases h1 : j < i * 4
  · rw [if_pos (by omega), if_pos h1, if_pos h1, set4_at _ _ _ _ _ _ _ h, if_neg (by omega), if_neg (by omega), if_neg (by omega), if_neg (by omega)]
  · rw [if_neg h1]
    by_cases h2 : j < (i + 1) * 4
    · rw [if_pos h2, set4_at _ _ _ _ _ _ _ h]
      have h3 : j = i * 4 ∨ j = i * 4 + 1 ∨ j = i * 4 + 2 ∨ j = i * 4 + 3 := by omega
      rcases h3 with rfl | rfl | rfl | rfl <;> simp
    · rw [if_neg h2, List.getElem?_eq_none (by simp; omega)]
theorem set4_drop (Y : List Value) (i b : Nat) (u0 u1 u2 u3 : Value) (h : i * 4 + 4 ≤ Y.length) (hb : i * 4 + 4 ≤ b) : (set4 Y (i * 4) u0 u1 u2 u3).drop b = Y.drop b := by
  apply List.ext_getElem?
  intro j
  rw [List.getElem?_drop, List.getElem?_drop, set4_at _ _ _ _ _ _ _ h, if_neg (by omega), if_neg (by omega), if_neg (by omega), if_neg (by omega)]
end Go.Proofs.YtcdgnhhciccoeaaDoor.recw
end
section
namespace Go.Proofs.YtcdgnhhciccoeaaDoor.recw
open Go.RowKit
attribute [local go_sem ↓] Go.wp_at_zero Go.wp_at_succ
set_option linter.unusedVariables false
set_option maxRecDepth 100000

theorem filter_all {p : Pr → Bool} : ∀ (l : List Pr), (∀ x ∈ l, p x = false) → (l.filter fun x => !p x) = l
  | l, h => by rw [List.filter_eq_self]; intro x hx; simp [h x hx]
theorem filter_snoc (p : Pr → Bool) (l : List Pr) (j : Nat) (x : Pr) (h : l[j]? = some x) : ((l.take (j + 1)).filter fun x => !p x) = ((l.take j).filter fun x => !p x) ++ if p x then [] else [x] := by
  rw [List.take_add_one, h]
  cases hp : p x <;> simp [List.filter_append, hp]
theorem drop_cells {l : List Pr} {j : Nat} {x : Pr} (h : l[j]? = some x) : prC (l.drop j) = x.c ++ prC (l.drop (j + 1)) := by
  obtain ⟨hi, he⟩ := List.getElem?_eq_some_iff.1 h
  rw [List.drop_eq_getElem_cons hi, he]
  simp [prC]
end Go.Proofs.YtcdgnhhciccoeaaDoor.recw
end
section
namespace Go.Proofs.YtcdgnhhciccoeaaDoor.recw
open Go.RowKit
attribute [local go_sem ↓] Go.wp_at_zero Go.wp_at_succ
set_option linter.unusedVariables false
set_option maxRecDepth 100000

theorem eInfo : (Tryd.prog.info? 75).map (fun i => (i.zero, i.size, i.bytes)) = some (some z0, 4, 40) := pInfo
theorem eSize : (Tryd.prog.info? 75).map (·.size) = some 4 := by kernel_rfl
theorem prC_take (l : List Pr) (i : Nat) : (prC l).take (i * 4) = prC (l.take i) := by
  by_cases h : i ≤ l.length
  · have e : prC l = prC (l.take i) ++ prC (l.drop i) := by rw [← prC_append, List.take_append_drop]
    rw [e, List.take_left' (by rw [prC_len, List.length_take, Nat.min_eq_left h])]
  · rw [List.take_of_length_le (by rw [prC_len]; omega), List.take_of_length_le (by omega)]
theorem prC_drop (l : List Pr) (i : Nat) : (prC l).drop (i * 4) = prC (l.drop i) := by
  by_cases h : i ≤ l.length
  · have e : prC l = prC (l.take i) ++ prC (l.drop i) := by rw [← prC_append, List.take_append_drop]
    rw [e, List.drop_left' (by rw [prC_len, List.length_take, Nat.min_eq_left h])]
  · rw [List.drop_eq_nil_of_le (by rw [prC_len]; omega), List.drop_eq_nil_of_le (by omega)]; rfl
theorem prC_ins (l : List Pr) (i : Nat) (c : Pr) : prC (l.take i ++ c :: l.drop i) = (prC l).take (i * 4) ++ (c.c ++ (prC l).drop (i * 4)) := by
  rw [prC_take, prC_drop, prC_append, prC, prC, List.flatMap_cons]; rfl
end Go.Proofs.YtcdgnhhciccoeaaDoor.recw
end
section
namespace Go.Proofs.YtcdgnhhciccoeaaDoor
theorem Hp.boxRow {w W : World} {X : List Nat} {rs : List Rs} {i j g : Nat} {cs : Array Value} {t e : TypeId} {size n : Nat} {v : Value} {xs : List Value} (h : Hp w X rs W) (hi : rs[i]? = some (.box g cs t)) (hj : rs[j]? = some (.row e size v n xs)) : v.ownBlock ≠ some g := by
  intro hv
  have hij : i ≠ j := by rintro rfl; rw [hi] at hj; cases hj
  obtain ⟨fps, h1, h2, _⟩ := h
  obtain ⟨fp, e1, r1⟩ := h1.get hi
  obtain ⟨fp', e2, r2⟩ := h1.get hj
  have hp := (perm_pull fps i fp e1).flatten
  rw [List.flatten_cons] at hp
  have hn := (hp.nodup_iff).1 h2
  rw [List.nodup_append] at hn
  refine hn.2.2 g (by rw [r1.2]; simp) g (List.mem_flatten.2 ⟨fp', ?_, by rw [r2.2, hv]; simp⟩) rfl
  rw [List.mem_eraseIdx_iff_getElem?]
  exact ⟨j, fun e => hij e.symm, e2⟩
end Go.Proofs.YtcdgnhhciccoeaaDoor
namespace Go.Proofs.YtcdgnhhciccoeaaDoor.recw
open Go.RowKit
attribute [local go_sem ↓] Go.wp_at_zero Go.wp_at_succ
set_option linter.unusedVariables false
set_option maxRecDepth 100000

def thV (ed : Bool) (la : Value) (ty fm tw : Int) (pr : Value) : Value := .agg #[.bool ed, la, .int .i64 ty, .int .u64 fm, .int .u64 tw, pr]
theorem drop_cons' {l : List Pr} {i : Nat} {x : Pr} (h : l[i]? = some x) : l.drop i = x :: l.drop (i + 1) := by
  obtain ⟨hi, he⟩ := List.getElem?_eq_some_iff.1 h
  rw [List.drop_eq_getElem_cons hi, he]
theorem thing6 : (Tryd.prog.info? 26).map (·.size) = some 6 := by kernel_rfl
end Go.Proofs.YtcdgnhhciccoeaaDoor.recw
end
section
namespace Go.Proofs.YtcdgnhhciccoeaaDoor.recw
open Go.RowKit
attribute [local go_sem ↓] Go.wp_at_zero Go.wp_at_succ
set_option linter.unusedVariables false
set_option maxRecDepth 100000

theorem val3 : (Tryd.prog.info? 50).map (·.size) = some 3 := by kernel_rfl
end Go.Proofs.YtcdgnhhciccoeaaDoor.recw
end
