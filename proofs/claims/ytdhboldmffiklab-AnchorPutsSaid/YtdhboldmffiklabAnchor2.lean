/- Which anchors may be; an anchor as bytes (package anchor). No condition. -/
import Derived.Test.YtdhboldmffiklabAnchor
import Derived.Laws.Rows
import Derived.Laws.StructEq
import Derived.BigRegion
import Derived.Deep.RegionHeld3
import Derived.Test.YtdhboldmffiklabBox
namespace Go.Proofs.Ytdhboldmffiklab.anchor
open Go.RowKit
open Go.Proofs.Ytdhboldmffiklab.code
attribute [local go_sem ↓] Go.wp_at_zero Go.wp_at_succ
attribute [local go_sem] str_size
set_option linter.unusedVariables false
set_option maxRecDepth 100000

attribute [local go_sem ↓] yielded_undef
theorem keepRow {w w1 : World} {g : Nat} {cs : Array Value} {t : TypeId} (h : w.heap[g]? = some (.cells cs t (0, 0))) (hb : Below w.heap.size w w1) : w1.heap[g]? = some (.cells cs t (0, 0)) ∧ ∀ i, w1.cell? ⟨g, i, none⟩ = cs[i]? := by
  have h1 : w1.heap[g]? = some (.cells cs t (0, 0)) := (hb.block _ (block_lt h)).trans h
  exact ⟨h1, fun i => cell_of_row _ _ i _ _ _ h1⟩
theorem may_yes (gen ep : Int) (tu : Bool) (nx : ByteArray) (pl : Int) (sm : ByteArray) (fr mn : Int) (ch : ByteArray) (w : World) (hn : nx.size ≤ 96) (ht : tu = false → nx = ⟨#[]⟩) (hr : mayRootB pl sm = true) (hf : 0 ≤ fr ∧ fr < 4096) (hm : 0 ≤ mn ∧ mn < 4096) (hc : ch.size = 32) :
    Calls Try.prog 13 #[.agg #[.int .u64 gen, .int .u32 ep, .bool tu, .string nx, .int .i64 pl, .string sm, .int .i64 fr, .int .i64 mn, .string ch]] w fun e w' => e = .returned (.bool true) ∧ Below w.heap.size w w' := by
  have c1 : ∀ w', Calls Try.prog 68 #[.agg #[.int .i64 pl, .string sm]] w' fun e w2 => e = .returned (.bool true) ∧ Below w'.heap.size w' w2 := fun w' => by rw [← hr]; exact mayRoot_any pl sm w'
  have c2 : ∀ w', Calls Try.prog 69 #[.int .i64 fr] w' fun e w2 => e = .returned (.bool true) ∧ Below w'.heap.size w' w2 := fun w' => by have := mayPlace_any fr w'; rw [decide_eq_true hf] at this; exact this
  have c3 : ∀ w', Calls Try.prog 69 #[.int .i64 mn] w' fun e w2 => e = .returned (.bool true) ∧ Below w'.heap.size w' w2 := fun w' => by have := mayPlace_any mn w'; rw [decide_eq_true hm] at this; exact this
  have e1 : ¬ (96 : Int) < (nx.size : Int) := by omega
  have e2 : (ch.size : Int) = 32 := by omega
  have hbb := Below.refl w.heap.size w
  have hne : tu = true ∨ (tu = false ∧ nx = ⟨#[]⟩) := by cases tu with
    | true => exact Or.inl rfl
    | false => exact Or.inr ⟨rfl, ht rfl⟩
  clear hn ht hr hf hm hc
  replace c1 := Lib.hid c1; replace c2 := Lib.hid c2; replace c3 := Lib.hid c3
  rcases hne with rfl | ⟨rfl, rfl⟩
  all_goals (
    go_enter Try.func13, Try.ntmps13
    go_wp2_with (first
      | (go_at_call 68; (with_reducible refine (c1.out _).mono ?_); rintro e w1 ⟨rfl, b1⟩; obtain ⟨hrow, hcell, hfree, hbel⟩ := boxRow b1; have d6 := hcell 6; have d7 := hcell 7; have d8 := hcell 8; clear hcell hfree; replace hrow := Lib.hid hrow; replace hbel := Lib.hid hbel; clear b1)
      | (go_at_call 69; (with_reducible refine (c2.out _).mono ?_); rintro e w2 ⟨rfl, b2⟩; obtain ⟨hr2, hc2⟩ := keepRow hrow.out b2; replace hrow := Lib.hid hr2; clear hr2; have d7 := hc2 7; have d8 := hc2 8; clear hc2; replace hbel := Lib.hid (belowCont hbel.out b2); clear b2)
      | (go_at_call 69; (with_reducible refine (c3.out _).mono ?_); rintro e w2 ⟨rfl, b2⟩; obtain ⟨hr2, hc2⟩ := keepRow hrow.out b2; replace hrow := Lib.hid hr2; clear hr2; have d8 := hc2 8; clear hc2; replace hbel := Lib.hid (belowCont hbel.out b2); clear b2)))
  all_goals go_ret
  all_goals exact ⟨rfl, hbel.out⟩
end Go.Proofs.Ytdhboldmffiklab.anchor
