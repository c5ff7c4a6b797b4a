/- Pages of the tree: entries, pages below, and their bytes, as plain functions. No condition. -/
import Derived.Test.YtcdgnhhciccoeaaRead
import Derived.Test.YtcdgnhhciccoeaaHp
namespace Go.Proofs.Ytcdgnhhciccoeaa.nod
open Go.RowKit
open code (numL textL)
set_option linter.unusedVariables false
set_option maxRecDepth 100000

structure En where
  k : ByteArray
  v : ByteArray
structure Kd where
  lo : ByteArray
  pl : Int
  sm : ByteArray
def En.c (e : En) : List Value := [.string e.k, .string e.v]
def Kd.c (x : Kd) : List Value := [.string x.lo, .int .i64 x.pl, .string x.sm]
theorem En.c_len (e : En) : e.c.length = 2 := rfl
theorem Kd.c_len (e : Kd) : e.c.length = 3 := rfl
def enC (l : List En) : List Value := l.flatMap En.c
def kdC (l : List Kd) : List Value := l.flatMap Kd.c
theorem enC_len (l : List En) : (enC l).length = l.length * 2 := flat_len En.c 2 En.c_len l
theorem kdC_len (l : List Kd) : (kdC l).length = l.length * 3 := flat_len Kd.c 3 Kd.c_len l
theorem enC_append (a b : List En) : enC (a ++ b) = enC a ++ enC b := by simp [enC]
theorem kdC_append (a b : List Kd) : kdC (a ++ b) = kdC a ++ kdC b := by simp [kdC]
theorem enC_one (l : List En) : ∀ u ∈ enC l, u.oneCell' = true := fun u h => by
  obtain ⟨x, _, hx⟩ := List.mem_flatMap.1 h
  simp only [En.c, List.mem_cons, List.not_mem_nil, or_false] at hx
  rcases hx with rfl | rfl <;> rfl
theorem kdC_one (l : List Kd) : ∀ u ∈ kdC l, u.oneCell' = true := fun u h => by
  obtain ⟨x, _, hx⟩ := List.mem_flatMap.1 h
  simp only [Kd.c, List.mem_cons, List.not_mem_nil, or_false] at hx
  rcases hx with rfl | rfl | rfl <;> rfl
def nodV (e k : Value) : Value := .agg #[e, k]
def txL (s : ByteArray) : List UInt8 := textL s.data.toList
def entB (e : En) : List UInt8 := txL e.k ++ txL e.v
def kidB (x : Kd) : List UInt8 := txL x.lo ++ (numL x.pl.toNat ++ x.sm.data.toList)
def markB (K : List Kd) : UInt8 := if K.length = 0 then 76 else 73
/-- node.bytes -/
def nodB (E : List En) (K : List Kd) : List UInt8 := markB K :: numL (E.length + K.length) ++ E.flatMap entB ++ K.flatMap kidB
/-- lodestoneref17.Bytes -/
def refB (E : List En) (K : List Kd) : List UInt8 := if E.length = 0 then 73 :: numL K.length ++ K.flatMap kidB else 76 :: numL E.length ++ E.flatMap entB
theorem nod_ref_len (E : List En) (K : List Kd) (h : E = [] ∨ K = []) : (nodB E K).length = (refB E K).length := by
  unfold nodB refB
  rcases h with rfl | rfl
  · simp
  · by_cases hE : E.length = 0
    · have : E = [] := List.length_eq_zero_iff.1 hE
      subst this; simp
    · rw [if_neg hE]; simp
def SmE (E : List En) : Prop := E.length ≤ 100 ∧ ∀ e ∈ E, e.k.size ≤ 2000000 ∧ e.v.size ≤ 2000000
def SmK (K : List Kd) : Prop := K.length ≤ 100 ∧ ∀ x ∈ K, x.lo.size ≤ 2000000 ∧ (0 ≤ x.pl ∧ x.pl ≤ 9223372036854775807) ∧ x.sm.size ≤ 2000000
theorem bl_len (s : ByteArray) : s.data.toList.length = s.size := Array.length_toList
theorem txL_len (s : ByteArray) (h : s.size ≤ 2000000) : (txL s).length ≤ s.size + 10 := by
  have := bl_len s
  have h2 := code.textL_len s.data.toList (by omega)
  unfold txL; omega
theorem txL_put (s : ByteArray) : str s.data.toList = s := str_of s
theorem dropC {α : Type} {l : List α} {i : Nat} {x : α} (h : l[i]? = some x) : l.drop i = x :: l.drop (i + 1) := by
  obtain ⟨hi, he⟩ := List.getElem?_eq_some_iff.1 h
  rw [List.drop_eq_getElem_cons hi, he]
end Go.Proofs.Ytcdgnhhciccoeaa.nod
