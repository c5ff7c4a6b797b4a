/- What properties are (package value): truths, numbers, texts, and what may be. No condition. -/
import Derived.Test.YtmeaidkbkelclaaDoorBase
import Derived.BigRegion
import Derived.Deep.DeepCutAuto
namespace Go.Proofs.YtmeaidkbkelclaaDoor.value
open Go.RowKit
attribute [local go_sem ↓] Go.wp_at_zero Go.wp_at_succ
set_option linter.unusedVariables false
set_option maxRecDepth 100000

theorem bool_any (b : Bool) (w : World) : Calls Tryd.prog 77 #[.bool b] w fun e w' => e = .returned (.agg #[.int .i64 1, .int .i64 (if b then 1 else 0), .string ByteArray.empty]) ∧ Below w.heap.size w w' := by
  cases b
  all_goals
    go_enter Tryd.func77, Tryd.ntmps77
    go_wp2
    exact bodyPost_ret (by simp [results, Tryd.results77, go_sem]; rfl) rfl ⟨rfl, by go_grown⟩
theorem int_any (n : Int) (w : World) : Calls Tryd.prog 76 #[.int .i64 n] w fun e w' => e = .returned (.agg #[.int .i64 2, .int .i64 n, .string ByteArray.empty]) ∧ Below w.heap.size w w' := by
  go_enter Tryd.func76, Tryd.ntmps76
  go_wp2
  exact bodyPost_ret (v := .agg #[.int .i64 2, .int .i64 n, .string ByteArray.empty]) (by simp [results, Tryd.results76, go_sem]; try rfl) rfl ⟨rfl, by go_grown⟩
theorem text_any (s : ByteArray) (w : World) : Calls Tryd.prog 75 #[.string s] w fun e w' => e = .returned (.agg #[.int .i64 3, .int .i64 0, .string s]) ∧ Below w.heap.size w w' := by
  go_enter Tryd.func75, Tryd.ntmps75
  go_wp2
  exact bodyPost_ret (v := .agg #[.int .i64 3, .int .i64 0, .string s]) (by simp [results, Tryd.results75, go_sem]; try rfl) rfl ⟨rfl, by go_grown⟩
theorem may_true (w : World) : Calls Tryd.prog 31 #[.agg #[.int .i64 1, .int .i64 1, .string ByteArray.empty]] w fun e w' => e = .returned (.bool true) ∧ Below w.heap.size w w' := by
  go_enter Tryd.func31, Tryd.ntmps31
  go_wp2
  all_goals
    go_ret
    exact ⟨rfl, by go_grown⟩
theorem may_text (s : ByteArray) (w : World) : Calls Tryd.prog 31 #[.agg #[.int .i64 3, .int .i64 0, .string s]] w fun e w' => e = .returned (.bool (decide ((s.size : Int) ≤ 2000))) ∧ Below w.heap.size w w' := by
  go_enter Tryd.func31, Tryd.ntmps31
  go_wp2
  all_goals
    go_ret
    exact ⟨rfl, by go_grown⟩
theorem cmpInt_32 (w : World) : Calls Tryd.prog 72 #[.int .i64 3, .int .i64 2] w fun e w' => e = .returned (.int .i64 1) ∧ w' = w := by
  have hn : ∀ (a : Int) w', Calls Tryd.prog 112 #[.int .i64 a] w' fun e w2 => e = .returned (.bool false) ∧ w2 = w' := fun a w' => by
    go_enter Tryd.func112, Tryd.ntmps112
    go_wp2
    go_ret
    simp
  go_enter Tryd.func72, Tryd.ntmps72
  go_wp2_with (go_at_call 112; (with_reducible refine (hn _ _).mono ?_); rintro e w1 ⟨rfl, rfl⟩)
  go_ret
  exact ⟨rfl, rfl⟩
theorem cmpInt64_05 (w : World) : Calls Tryd.prog 73 #[.int .i64 0, .int .i64 5] w fun e w' => e = .returned (.int .i64 (-1)) ∧ w' = w := by
  have hn : ∀ (a : Int) w', Calls Tryd.prog 113 #[.int .i64 a] w' fun e w2 => e = .returned (.bool false) ∧ w2 = w' := fun a w' => by
    go_enter Tryd.func113, Tryd.ntmps113
    go_wp2
    go_ret
    simp
  go_enter Tryd.func73, Tryd.ntmps73
  go_wp2_with (go_at_call 113; (with_reducible refine (hn _ _).mono ?_); rintro e w1 ⟨rfl, rfl⟩)
  go_ret
  exact ⟨rfl, rfl⟩
theorem cmpStr_a (w : World) : Calls Tryd.prog 74 #[.string ⟨#[97]⟩, .string ByteArray.empty] w fun e w' => e = .returned (.int .i64 1) ∧ w' = w := by
  have hn : ∀ (a : ByteArray) w', Calls Tryd.prog 114 #[.string a] w' fun e w2 => e = .returned (.bool false) ∧ w2 = w' := fun a w' => by
    go_enter Tryd.func114, Tryd.ntmps114
    go_wp2
    go_ret
    simp
  go_enter Tryd.func74, Tryd.ntmps74
  go_wp2_with (go_at_call 114; (with_reducible refine (hn _ _).mono ?_); rintro e w1 ⟨rfl, rfl⟩)
  go_ret
  exact ⟨rfl, rfl⟩
theorem or_1 (w : World) (g : Nat) (h : w.cell? ⟨g, 0, none⟩ = some (.int .i64 1)) : Calls Tryd.prog 71 #[.slice (some ⟨g, 0, none⟩) 3 3] w fun e w' => e = .returned (.int .i64 1) ∧ w' = w := by
  go_enter Tryd.func71, Tryd.ntmps71
  go_wp2
  go_loopg [5, 8] 0 (fun k v i wr => i = .int .i64 0 ∧ wr = w)
  case atStart => exact ⟨rfl, rfl⟩
  case round =>
    obtain ⟨rfl, rfl⟩ := hrel
    go_wp2
    go_ret
    exact ⟨rfl, rfl⟩
theorem cell3 (w : World) (o1 o2 : Obj) (cs : Array Value) (t : TypeId) (i : Nat) : (((w.alloc o1).alloc o2).alloc (.cells cs t)).cell? ⟨w.heap.size + 1 + 1, i, none⟩ = cs[i]? := by
  have := newCell ((w.alloc o1).alloc o2) cs t i
  simpa using this
set_option maxRecDepth 100000 in
set_option maxHeartbeats 400000 in
theorem compare_a5 (w : World) : Calls Tryd.prog 27 #[.agg #[.int .i64 3, .int .i64 0, .string ⟨#[97]⟩], .agg #[.int .i64 2, .int .i64 5, .string ByteArray.empty]] w fun e w' => e = .returned (.int .i64 1) ∧ Below w.heap.size w w' := by
  have c1 := fun w' => cmpInt_32 w'
  have c2 := fun w' => cmpInt64_05 w'
  have c3 := fun w' => cmpStr_a w'
  replace c1 := Lib.hid c1
  replace c2 := Lib.hid c2
  replace c3 := Lib.hid c3
  go_enter Tryd.func27, Tryd.ntmps27
  go_upto_region 1 with fail
  have B0 : Below w.heap.size w ((w.alloc (.cells #[.int .i64 3, .int .i64 0, .string ⟨#[97]⟩] 23)).alloc (.cells #[.int .i64 2, .int .i64 5, .string ByteArray.empty] 23)) := by go_grown
  have S0 : (w.alloc (.cells #[.int .i64 3, .int .i64 0, .string ⟨#[97]⟩] 23)).heap.size = w.heap.size + 1 := by simp
  go_region_held3 (fun w' => w'.heap.size > w.heap.size + 1 ∧ w'.cell? ⟨w.heap.size, 0, none⟩ = some (.int .i64 3) ∧ w'.cell? ⟨w.heap.size, 1, none⟩ = some (.int .i64 0) ∧ w'.cell? ⟨w.heap.size, 2, none⟩ = some (.string ⟨#[97]⟩) ∧ w'.cell? ⟨w.heap.size + 1, 0, none⟩ = some (.int .i64 2) ∧ w'.cell? ⟨w.heap.size + 1, 1, none⟩ = some (.int .i64 5) ∧ w'.cell? ⟨w.heap.size + 1, 2, none⟩ = some (.string ByteArray.empty))
    (go_keep)
    (first | (go_at_call 72; (with_reducible refine (c1.out _).mono ?_); rintro e w1 ⟨rfl, rfl⟩) | (go_at_call 73; (with_reducible refine (c2.out _).mono ?_); rintro e w1 ⟨rfl, rfl⟩) | (go_at_call 74; (with_reducible refine (c3.out _).mono ?_); rintro e w1 ⟨rfl, rfl⟩) | (go_at_call 71; (refine (or_1 _ _ ?hc).mono ?_); (case hc => simp [cell3, newCell]); rintro e w1 ⟨rfl, rfl⟩))
  all_goals
    rename _ ∧ _ => hH
    clear hH
    go_wp2
    go_ret
    exact ⟨rfl, by go_grown⟩
theorem awake_any (w : World) : Calls Tryd.prog 29 #[] w fun e w' => e = .returned (.bool true) ∧ Below w.heap.size w w' := by
  have c1 := fun w' => text_any ⟨#[97]⟩ w'
  have c2 := fun w' => int_any 5 w'
  have c3 := fun w' => compare_a5 w'
  have c4 : ∀ w', Calls Tryd.prog 77 #[.bool true] w' fun e w2 => e = .returned (.agg #[.int .i64 1, .int .i64 1, .string ByteArray.empty]) ∧ Below w'.heap.size w' w2 := fun w' => bool_any true w'
  have c5 := fun w' => may_true w'
  replace c1 := Lib.hid c1
  replace c2 := Lib.hid c2
  replace c3 := Lib.hid c3
  replace c4 := Lib.hid c4
  replace c5 := Lib.hid c5
  have hbb : Below w.heap.size w w := Below.refl _ _
  go_enter Tryd.func29, Tryd.ntmps29
  go_wp2_with (first | (go_at_call 75; (with_reducible refine (c1.out _).mono ?_); rintro e w1 ⟨rfl, b1⟩; replace hbb := belowCont hbb b1) | (go_at_call 76; (with_reducible refine (c2.out _).mono ?_); rintro e w1 ⟨rfl, b1⟩; replace hbb := belowCont hbb b1) | (go_at_call 27; (with_reducible refine (c3.out _).mono ?_); rintro e w1 ⟨rfl, b1⟩; replace hbb := belowCont hbb b1) | (go_at_call 77; (with_reducible refine (c4.out _).mono ?_); rintro e w1 ⟨rfl, b1⟩; replace hbb := belowCont hbb b1) | (go_at_call 31; (with_reducible refine (c5.out _).mono ?_); rintro e w1 ⟨rfl, b1⟩; replace hbb := belowCont hbb b1))
  go_ret
  exact ⟨rfl, hbb⟩
end Go.Proofs.YtmeaidkbkelclaaDoor.value
