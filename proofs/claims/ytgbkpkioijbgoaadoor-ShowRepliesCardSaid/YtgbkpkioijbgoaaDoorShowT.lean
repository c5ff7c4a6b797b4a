/- What a reply tells, piece by piece: the words one behind the other. No condition. -/
import Derived.Test.YtgbkpkioijbgoaaDoorShowP
import Derived.Test.YtgbkpkioijbgoaaDoorShowG
namespace Go.Proofs.YtgbkpkioijbgoaaDoor.show
open Go.RowKit
set_option linter.unusedVariables false
set_option linter.unusedSimpArgs false
set_option maxRecDepth 100000

theorem headW_nil (id : Int) (ids : List Int) : headW id ids ≠ [] := by unfold headW; simp
theorem joinS_nil (sep : ByteArray) : joinS [] sep = ⟨#[]⟩ := rfl
theorem joinS_one (sep y : ByteArray) : joinS [y] sep = y := by
  have := joinS_snoc [] sep y
  simpa using this
theorem app_nil (a : ByteArray) : a ++ (⟨#[]⟩ : ByteArray) = a := by
  apply ByteArray.ext; simp [ByteArray.data_append]
/-- the head of what is told, without numbers -/
def h0T (id : Int) : ByteArray := joinS (headW id []) ⟨#[32]⟩
theorem h0T_zero : h0T 0 = ⟨#[111, 107]⟩ := by
  unfold h0T headW
  rw [if_pos rfl, if_pos rfl, List.append_nil, List.append_nil]
  exact joinS_one _ _
theorem h0T_id (id : Int) (h : id ≠ 0) : h0T id = (⟨#[111, 107]⟩ : ByteArray) ++ ((⟨#[32]⟩ : ByteArray) ++ numT id) := by
  unfold h0T headW
  rw [if_neg h, if_pos rfl, List.append_nil]
  have := joinS_snoc [⟨#[111, 107]⟩] ⟨#[32]⟩ (numT id)
  rw [if_neg (by simp), joinS_one] at this
  rw [← app3]; exact this
/-- the numbers so far -/
def idsP (T : ByteArray) (l : List Int) : ByteArray := if l = [] then T else (T ++ ⟨#[32, 91]⟩) ++ joinS (l.map numT) ⟨#[32]⟩
theorem idsP_first (T : ByteArray) (x : Int) : idsP T [x] = (T ++ ⟨#[32, 91]⟩) ++ numT x := by
  unfold idsP
  rw [if_neg (by simp)]
  show _ ++ joinS [numT x] _ = _
  rw [joinS_one]
theorem idsP_next (T : ByteArray) (l : List Int) (x : Int) (h : l ≠ []) : idsP T (l ++ [x]) = (idsP T l ++ ⟨#[32]⟩) ++ numT x := by
  have := joinS_snoc (l.map numT) ⟨#[32]⟩ (numT x)
  rw [if_neg (by simpa using h)] at this
  unfold idsP
  rw [if_neg (by simp), if_neg h, List.map_append]
  show _ ++ joinS (l.map numT ++ [numT x]) _ = _
  rw [this]
  simp only [app3]
theorem idsP_end (id : Int) (l : List Int) (h : l ≠ []) : idsP (h0T id) l ++ ⟨#[93]⟩ = joinS (headW id l) ⟨#[32]⟩ := by
  have h1 : headW id l = headW id [] ++ [idsT l] := by unfold headW; rw [if_neg h, if_pos rfl, List.append_nil]
  rw [h1, joinS_snoc, if_neg (headW_nil _ _)]
  unfold idsP idsT
  rw [if_neg h]
  have e : (⟨#[32, 91]⟩ : ByteArray) = (⟨#[32]⟩ : ByteArray) ++ ⟨#[91]⟩ := rfl
  rw [e]
  unfold h0T
  simp only [app3]
theorem idsP_none (id : Int) : idsP (h0T id) [] = joinS (headW id []) ⟨#[32]⟩ := rfl
theorem rep_start (id : Int) (ids : List Int) : repT id ids [] [] = joinS (headW id ids) ⟨#[32]⟩ := by unfold repT; simp
theorem rep_info (id : Int) (ids : List Int) (l : List In) (z : In) : repT id ids (l ++ [z]) [] = repT id ids l [] ++ ((⟨#[32]⟩ : ByteArray) ++ z.text) := by
  unfold repT
  rw [List.map_nil, List.append_nil, List.append_nil, List.map_append, ← List.append_assoc]
  show joinS ((headW id ids ++ l.map In.text) ++ [z.text]) _ = _
  rw [joinS_snoc, if_neg (fun e => headW_nil id ids (List.append_eq_nil_iff.1 e).1), app3]
/-- a row so far -/
def rowP (S : ByteArray) (l : List V3) : ByteArray := (S ++ ⟨#[32, 40]⟩) ++ joinS (l.map V3.text) ⟨#[44, 32]⟩
theorem rowP_nil (S : ByteArray) : rowP S [] = S ++ ⟨#[32, 40]⟩ := by unfold rowP; exact app_nil _
theorem rowP_first (S : ByteArray) (v : V3) : rowP S [v] = rowP S [] ++ v.text := by
  rw [rowP_nil]; unfold rowP
  show _ ++ joinS [v.text] _ = _
  rw [joinS_one]
theorem rowP_next (S : ByteArray) (l : List V3) (v : V3) (h : l ≠ []) : rowP S (l ++ [v]) = (rowP S l ++ ⟨#[44, 32]⟩) ++ v.text := by
  have := joinS_snoc (l.map V3.text) ⟨#[44, 32]⟩ v.text
  rw [if_neg (by simpa using h)] at this
  unfold rowP
  rw [List.map_append]
  show _ ++ joinS (l.map V3.text ++ [v.text]) _ = _
  rw [this]
  simp only [app3]
theorem rep_row (id : Int) (ids : List Int) (zs : List In) (l : List (List V3)) (r : List V3) : repT id ids zs (l ++ [r]) = rowP (repT id ids zs l) r ++ ⟨#[41]⟩ := by
  unfold repT
  rw [List.map_append, ← List.append_assoc]
  show joinS (((headW id ids ++ zs.map In.text) ++ l.map rowT) ++ [rowT r]) _ = _
  rw [joinS_snoc, if_neg (fun e => headW_nil id ids (List.append_eq_nil_iff.1 (List.append_eq_nil_iff.1 e).1).1)]
  unfold rowP rowT
  have e : (⟨#[32, 40]⟩ : ByteArray) = (⟨#[32]⟩ : ByteArray) ++ ⟨#[40]⟩ := rfl
  rw [e]
  simp only [app3]
theorem rowP_size (S : ByteArray) (l : List V3) (hS : S.size ≤ 60000) (hn : l.length ≤ 20) (hl : ∀ x ∈ l, x.near) : (rowP S l).size ≤ 66000 := by
  have := rowT_size l hn hl
  have e1 : (⟨#[32, 40]⟩ : ByteArray).size = 2 := rfl
  unfold rowP
  simp only [ByteArray.size_append]; omega
theorem h0T_size (id : Int) (h : 0 ≤ id ∧ id < 18446744073709551616) : (h0T id).size ≤ 24 := by
  by_cases e : id = 0
  · subst e; rw [h0T_zero]; decide
  · rw [h0T_id id e]
    have := numT_lenU id h
    have e1 : (⟨#[32]⟩ : ByteArray).size = 1 := rfl
    have e2 : (⟨#[111, 107]⟩ : ByteArray).size = 2 := rfl
    simp only [ByteArray.size_append]; omega
theorem idsP_size (T : ByteArray) (l : List Int) (hT : T.size ≤ 24) (hn : l.length ≤ 20) (hl : ∀ x ∈ l, 0 ≤ x ∧ x < 18446744073709551616) : (idsP T l).size ≤ 1100 := by
  have := idsT_size l hn hl
  have e1 : (⟨#[32, 91]⟩ : ByteArray).size = 2 := rfl
  unfold idsP
  split
  · omega
  · simp only [ByteArray.size_append]; omega
end Go.Proofs.YtgbkpkioijbgoaaDoor.show
