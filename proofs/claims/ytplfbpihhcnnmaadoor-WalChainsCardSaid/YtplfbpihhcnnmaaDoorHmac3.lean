/- Tags of bytes under a key (package hmac). The table of salts is a premise. No other condition. -/
import Derived.Test.YtplfbpihhcnnmaaDoorHmac2
import Derived.Test.YtplfbpihhcnnmaaDoorShelf
import Derived.Laws.OwnMore
import Derived.Lib.Join
namespace Go.Proofs.YtplfbpihhcnnmaaDoor.sha
open Go.RowKit
attribute [local go_sem ↓] Go.wp_at_zero Go.wp_at_succ
attribute [local go_sem] str_size str_append
set_option linter.unusedVariables false
set_option maxRecDepth 100000

/-- from place o of block b on these texts lie -/
def Parts (w : World) (b o : Nat) (ls : List (List UInt8)) : Prop := (∀ j l, ls[j]? = some l → w.cell? ⟨b, o + j, none⟩ = some (.string (str l))) ∧ b < w.heap.size
theorem Parts.below {w w' : World} {b o : Nat} {ls : List (List UInt8)} (h : Parts w b o ls) (k : Below w.heap.size w w') : Parts w' b o ls :=
  ⟨fun j l hj => (k.cell h.2).trans (h.1 j l hj), Nat.lt_of_lt_of_le h.2 k.size⟩
theorem parts_news {w : World} {b o : Nat} {ls : List (List UInt8)} (h : Parts w b o ls) : ∀ j u, (ls.map fun l => Value.string (str l))[j]? = some u → w.cell? ((⟨b, o, none⟩ : Addr).add j) = some u := by
  intro j u hj
  rw [List.getElem?_map] at hj
  obtain ⟨l, hl, rfl⟩ := Option.map_eq_some_iff.1 hj
  have e : (⟨b, o, none⟩ : Addr).add j = ⟨b, o + j, none⟩ := by unfold Addr.add; split <;> simp_all
  rw [e]; exact h.1 j l hl
theorem join_nil : ∀ ls : List (List UInt8), Lib.join ls [] = ls.flatten
  | [] => rfl
  | [l] => by simp [Lib.join]
  | l :: m :: r => by
    have := join_nil (m :: r)
    simp [Lib.join] at this ⊢
    first | exact this | simpa using this | simp [this]
theorem strs_data (ls : List (List UInt8)) : (ls.map str).map (·.data.toList) = ls := by
  rw [List.map_map]; exact List.map_id'' (fun l => rfl) ls
theorem strInfo : (Tryd.prog.info? 9).map (fun i => (i.zero, i.size, i.bytes)) = some (some (.string ⟨#[]⟩), 1, 16) := by kernel_rfl
theorem parts_two (w : World) (x y : List UInt8) : Parts (w.alloc (.cells #[.string (str x), .string (str y)] 9)) w.heap.size 0 [x, y] :=
  ⟨fun j l hj => by
    rw [cell_of_row _ _ _ _ _ _ (heap_alloc_new w _)]
    match j, hj with
    | 0, hj => simp at hj; subst hj; rfl
    | 1, hj => simp at hj; subst hj; rfl, by simp⟩
theorem parts_one (w : World) (x : List UInt8) : Parts (w.alloc (.cells #[.string (str x)] 9)) w.heap.size 0 [x] :=
  ⟨fun j l hj => by
    rw [cell_of_row _ _ _ _ _ _ (heap_alloc_new w _)]
    match j, hj with
    | 0, hj => simp at hj; subst hj; rfl, by simp⟩
end Go.Proofs.YtplfbpihhcnnmaaDoor.sha
