/- The law ShowStats. The table of powers of ten is a premise. No other condition. -/
import Derived.Test.YtmllmnnglkimkabDoorShow4
namespace Go.Proofs.YtmllmnnglkimkabDoor.show
open Go.RowKit
attribute [local go_sem ↓] Go.wp_at_zero Go.wp_at_succ
attribute [local go_sem] str_size
set_option linter.unusedVariables false
set_option maxRecDepth 100000

def Fits (a b : ByteArray) : Prop := a.size + b.size ≤ 9223372036854775807
theorem run_add_fits {P : Program} (w : World) (a b : ByteArray) (h : Fits a b) : (Op.stringOp .add a b).run P w = .ok (.string (a ++ b)) w := run_string_add_sum w a b h
attribute [local go_sem high] run_add_fits
theorem of_wf_u32 {a : Int} (h : (Lit.int .u32 a).wf = true) : 0 ≤ a ∧ a ≤ 4294967295 := by
  simpa [Lit.wf, IntKind.min, IntKind.max, IntKind.signed, IntKind.bits] using h
set_option maxHeartbeats 4000000 in
theorem showStats_walk (a0_0 : Int) (a0_1 : Int) (a0_2 : Int) (a0_3 : Int) (a1 : Int) (a2 : Bool) (w : World) (w0_0 : (Lit.int .i64 a0_0).wf = true) (w0_1 : (Lit.int .i64 a0_1).wf = true) (w0_2 : (Lit.int .i64 a0_2).wf = true) (w0_3 : (Lit.int .i64 a0_3).wf = true) (w1 : (Lit.int .u32 a1).wf = true) (hT : Tab w) :
    Calls Tryd.prog 7 #[.agg #[.int .i64 a0_0, .int .i64 a0_1, .int .i64 a0_2, .int .i64 a0_3], .int .u32 a1, .bool a2] w fun e w' => e = .returned (.bool true) ∧ Below w.heap.size w w' := by
  have hc := of_wf_i64 w0_0
  have hl := of_wf_i64 w0_1
  have hf := of_wf_i64 w0_2
  have ht := of_wf_i64 w0_3
  have he := of_wf_u32 w1
  obtain ⟨ep, rfl⟩ : ∃ ep : Nat, a1 = (ep : Int) := ⟨a1.toNat, by omega⟩
  have hep : ep < 4294967296 := by omega
  have cs := fun w' h => stat_any a0_0 a0_1 a0_2 a0_3 ep a2 0 hc hl hf ht hep w' h
  have c1 := fun w' h => itoa_any a0_0 hc w' h
  have c2 := fun w' h => itoa_any a0_1 hl w' h
  have c3 := fun w' h => itoa_any a0_2 hf w' h
  have c4 := fun w' h => itoa_any a0_3 ht w' h
  have cn := fun w' h => num_any a0_0 hc w' h
  have c5 : ∀ w' (x : Int), x = ep → Tab w' → Calls Tryd.prog 20 #[.int .u64 x, .int .i64 10] w' fun e w2 => e = .returned (.string (numT (ep : Int))) ∧ Below w'.heap.size w' w2 := fun w' x hx h => by subst hx; exact fmt_any ep (by omega) w' h
  have hwr : IntKind.u64.wrap (ep : Int) = (ep : Int) := by rw [IntKind.wrap_u64]; omega
  have l1 := numT_len a0_0 hc
  have l2 := numT_len a0_1 hl
  have l3 := numT_len a0_2 hf
  have l4 := numT_len a0_3 ht
  have l5 := numT_len (ep : Int) (by omega)
  obtain ⟨C, hC⟩ : ∃ x, x = numT a0_0 := ⟨_, rfl⟩
  obtain ⟨L, hL⟩ : ∃ x, x = numT a0_1 := ⟨_, rfl⟩
  obtain ⟨F, hF⟩ : ∃ x, x = numT a0_2 := ⟨_, rfl⟩
  obtain ⟨T, hTt⟩ : ∃ x, x = numT a0_3 := ⟨_, rfl⟩
  obtain ⟨E, hE⟩ : ∃ x, x = numT (ep : Int) := ⟨_, rfl⟩
  simp only [← hC, ← hL, ← hF, ← hTt, ← hE] at c1 c2 c3 c4 c5 cn cs l1 l2 l3 l4 l5
  have hsz := statB_size C L F T E l1 l2 l3 l4 l5
  obtain ⟨X, hX⟩ : ∃ x, x = statB C L F T E := ⟨_, rfl⟩
  rw [← hX] at hsz
  unfold statT at cs
  simp only [← hX] at cs
  unfold statB at hX
  have hse1 : (X.toList == X.toList) = true := by simp
  have hse2 : ((X ++ (⟨#[32, 116, 117, 114, 110, 115]⟩ : ByteArray)).toList == (X ++ (⟨#[32, 116, 117, 114, 110, 115]⟩ : ByteArray)).toList) = true := by simp
  have hse3 : (C.toList == C.toList) = true := by simp
  have f1 : Fits ((⟨#[99, 104, 97, 110, 103, 101, 115, 32]⟩ : ByteArray)) (C) := by unfold Fits; simp only [ByteArray.size_append, ByteArray.size_mk', List.size_toArray, List.length_cons, List.length_nil]; omega
  have f2 : Fits (((⟨#[99, 104, 97, 110, 103, 101, 115, 32]⟩ : ByteArray) ++ C)) ((⟨#[32, 108, 111, 103, 32]⟩ : ByteArray)) := by unfold Fits; simp only [ByteArray.size_append, ByteArray.size_mk', List.size_toArray, List.length_cons, List.length_nil]; omega
  have f3 : Fits ((((⟨#[99, 104, 97, 110, 103, 101, 115, 32]⟩ : ByteArray) ++ C) ++ (⟨#[32, 108, 111, 103, 32]⟩ : ByteArray))) (L) := by unfold Fits; simp only [ByteArray.size_append, ByteArray.size_mk', List.size_toArray, List.length_cons, List.length_nil]; omega
  have f4 : Fits (((((⟨#[99, 104, 97, 110, 103, 101, 115, 32]⟩ : ByteArray) ++ C) ++ (⟨#[32, 108, 111, 103, 32]⟩ : ByteArray)) ++ L)) ((⟨#[32, 102, 114, 101, 101, 32]⟩ : ByteArray)) := by unfold Fits; simp only [ByteArray.size_append, ByteArray.size_mk', List.size_toArray, List.length_cons, List.length_nil]; omega
  have f5 : Fits ((((((⟨#[99, 104, 97, 110, 103, 101, 115, 32]⟩ : ByteArray) ++ C) ++ (⟨#[32, 108, 111, 103, 32]⟩ : ByteArray)) ++ L) ++ (⟨#[32, 102, 114, 101, 101, 32]⟩ : ByteArray))) (F) := by unfold Fits; simp only [ByteArray.size_append, ByteArray.size_mk', List.size_toArray, List.length_cons, List.length_nil]; omega
  have f6 : Fits (((((((⟨#[99, 104, 97, 110, 103, 101, 115, 32]⟩ : ByteArray) ++ C) ++ (⟨#[32, 108, 111, 103, 32]⟩ : ByteArray)) ++ L) ++ (⟨#[32, 102, 114, 101, 101, 32]⟩ : ByteArray)) ++ F)) ((⟨#[32, 116, 97, 107, 101, 110, 32]⟩ : ByteArray)) := by unfold Fits; simp only [ByteArray.size_append, ByteArray.size_mk', List.size_toArray, List.length_cons, List.length_nil]; omega
  have f7 : Fits ((((((((⟨#[99, 104, 97, 110, 103, 101, 115, 32]⟩ : ByteArray) ++ C) ++ (⟨#[32, 108, 111, 103, 32]⟩ : ByteArray)) ++ L) ++ (⟨#[32, 102, 114, 101, 101, 32]⟩ : ByteArray)) ++ F) ++ (⟨#[32, 116, 97, 107, 101, 110, 32]⟩ : ByteArray))) (T) := by unfold Fits; simp only [ByteArray.size_append, ByteArray.size_mk', List.size_toArray, List.length_cons, List.length_nil]; omega
  have f8 : Fits (((((((((⟨#[99, 104, 97, 110, 103, 101, 115, 32]⟩ : ByteArray) ++ C) ++ (⟨#[32, 108, 111, 103, 32]⟩ : ByteArray)) ++ L) ++ (⟨#[32, 102, 114, 101, 101, 32]⟩ : ByteArray)) ++ F) ++ (⟨#[32, 116, 97, 107, 101, 110, 32]⟩ : ByteArray)) ++ T)) ((⟨#[32, 101, 112, 111, 99, 104, 32]⟩ : ByteArray)) := by unfold Fits; simp only [ByteArray.size_append, ByteArray.size_mk', List.size_toArray, List.length_cons, List.length_nil]; omega
  have f9 : Fits ((((((((((⟨#[99, 104, 97, 110, 103, 101, 115, 32]⟩ : ByteArray) ++ C) ++ (⟨#[32, 108, 111, 103, 32]⟩ : ByteArray)) ++ L) ++ (⟨#[32, 102, 114, 101, 101, 32]⟩ : ByteArray)) ++ F) ++ (⟨#[32, 116, 97, 107, 101, 110, 32]⟩ : ByteArray)) ++ T) ++ (⟨#[32, 101, 112, 111, 99, 104, 32]⟩ : ByteArray))) (E) := by unfold Fits; simp only [ByteArray.size_append, ByteArray.size_mk', List.size_toArray, List.length_cons, List.length_nil]; omega
  clear hC hL hF hTt hE l1 l2 l3 l4 l5 hc hl hf ht he hep w0_0 w0_1 w0_2 w0_3 w1
  replace c1 := Lib.hid c1; replace c2 := Lib.hid c2; replace c3 := Lib.hid c3; replace c4 := Lib.hid c4; replace c5 := Lib.hid c5; replace hT := Lib.hid hT; replace cs := Lib.hid cs; replace cn := Lib.hid cn; replace hX := Lib.hid hX
  go_enter Tryd.func7, Tryd.ntmps7
  go_upto_region 1 with fail
  have hlt : w.heap.size < (w.alloc (.cells #[.int .i64 a0_0, .int .i64 a0_1, .int .i64 a0_2, .int .i64 a0_3] 37)).heap.size := by simp
  have d0 : (w.alloc (.cells #[.int .i64 a0_0, .int .i64 a0_1, .int .i64 a0_2, .int .i64 a0_3] 37)).cell? ⟨w.heap.size, 0, none⟩ = some (.int .i64 a0_0) := newCell w #[.int .i64 a0_0, .int .i64 a0_1, .int .i64 a0_2, .int .i64 a0_3] 37 0
  have d1 : (w.alloc (.cells #[.int .i64 a0_0, .int .i64 a0_1, .int .i64 a0_2, .int .i64 a0_3] 37)).cell? ⟨w.heap.size, 1, none⟩ = some (.int .i64 a0_1) := newCell w #[.int .i64 a0_0, .int .i64 a0_1, .int .i64 a0_2, .int .i64 a0_3] 37 1
  have d2 : (w.alloc (.cells #[.int .i64 a0_0, .int .i64 a0_1, .int .i64 a0_2, .int .i64 a0_3] 37)).cell? ⟨w.heap.size, 2, none⟩ = some (.int .i64 a0_2) := newCell w #[.int .i64 a0_0, .int .i64 a0_1, .int .i64 a0_2, .int .i64 a0_3] 37 2
  have d3 : (w.alloc (.cells #[.int .i64 a0_0, .int .i64 a0_1, .int .i64 a0_2, .int .i64 a0_3] 37)).cell? ⟨w.heap.size, 3, none⟩ = some (.int .i64 a0_3) := newCell w #[.int .i64 a0_0, .int .i64 a0_1, .int .i64 a0_2, .int .i64 a0_3] 37 3
  replace hlt := Lib.hid hlt
  go_region_held3 (fun w' => Tab w' ∧ Below w.heap.size w w' ∧ w.heap.size < w'.heap.size ∧ w'.cell? ⟨w.heap.size, 0, none⟩ = some (.int .i64 a0_0) ∧ w'.cell? ⟨w.heap.size, 1, none⟩ = some (.int .i64 a0_1) ∧ w'.cell? ⟨w.heap.size, 2, none⟩ = some (.int .i64 a0_2) ∧ w'.cell? ⟨w.heap.size, 3, none⟩ = some (.int .i64 a0_3))
    (first
    | exact ⟨hT.out.keep ((Below.refl _ _).alloc (Nat.le_refl _) _).drew, ((Below.refl _ _).alloc (Nat.le_refl _) _).drew, hlt.out, d0, d1, d2, d3⟩
    | (go_split_ands; exact ⟨by assumption, by assumption, by assumption, by assumption, by assumption, by assumption, by assumption⟩)
    | (go_split_ands; exact ⟨Tab.keep (by assumption) (by assumption), belowCont (by assumption) (by assumption), Nat.lt_of_lt_of_le (by assumption) (Below.size (by assumption)), (Below.cell (by assumption) (by assumption)).trans (by assumption), (Below.cell (by assumption) (by assumption)).trans (by assumption), (Below.cell (by assumption) (by assumption)).trans (by assumption), (Below.cell (by assumption) (by assumption)).trans (by assumption)⟩))
    (first
      | (go_at_call 19; (with_reducible refine (c1.out _ (by go_split_ands; assumption)).mono ?_); rintro e w1 ⟨rfl, hb⟩)
      | (go_at_call 19; (with_reducible refine (c2.out _ (by go_split_ands; assumption)).mono ?_); rintro e w1 ⟨rfl, hb⟩)
      | (go_at_call 19; (with_reducible refine (c3.out _ (by go_split_ands; assumption)).mono ?_); rintro e w1 ⟨rfl, hb⟩)
      | (go_at_call 19; (with_reducible refine (c4.out _ (by go_split_ands; assumption)).mono ?_); rintro e w1 ⟨rfl, hb⟩)
      | (go_at_call 20; (with_reducible refine (c5.out _ _ hwr (by go_split_ands; assumption)).mono ?_); rintro e w1 ⟨rfl, hb⟩)
      | (go_at_call 20; (with_reducible refine (c5.out _ _ rfl (by go_split_ands; assumption)).mono ?_); rintro e w1 ⟨rfl, hb⟩))
  clear d0 d1 d2 d3
  rw [← hX.out]
  clear f1 f2 f3 f4 f5 f6 f7 f8 f9 hX hwr c2 c3 c4 c5 hlt
  obtain ⟨t1, b1, z1, d0, d1, d2, d3⟩ := ‹Tab _ ∧ _›
  cases a2
  all_goals simp only [Bool.false_eq_true, if_false, if_true, eq_self] at cs
  all_goals (go_upto_region 4 with fail)
  all_goals (go_region_held3 (fun w' => Tab w' ∧ Below w.heap.size w w' ∧ w.heap.size < w'.heap.size ∧ w'.cell? ⟨w.heap.size, 0, none⟩ = some (.int .i64 a0_0) ∧ w'.cell? ⟨w.heap.size, 1, none⟩ = some (.int .i64 a0_1) ∧ w'.cell? ⟨w.heap.size, 2, none⟩ = some (.int .i64 a0_2) ∧ w'.cell? ⟨w.heap.size, 3, none⟩ = some (.int .i64 a0_3))
    (first
    | (go_split_ands; exact ⟨Tab.keep (by assumption) (Below.refl _ _).drew, Below.drew (by assumption), by assumption, by assumption, by assumption, by assumption, by assumption⟩)
    | (go_split_ands; exact ⟨by assumption, by assumption, by assumption, by assumption, by assumption, by assumption, by assumption⟩)
    | (go_split_ands; exact ⟨Tab.keep (by assumption) (by assumption), belowCont (by assumption) (by assumption), Nat.lt_of_lt_of_le (by assumption) (Below.size (by assumption)), (Below.cell (by assumption) (by assumption)).trans (by assumption), (Below.cell (by assumption) (by assumption)).trans (by assumption), (Below.cell (by assumption) (by assumption)).trans (by assumption), (Below.cell (by assumption) (by assumption)).trans (by assumption)⟩))
    (first
      | (go_at_call 16; (with_reducible refine (awake_any _ (by go_split_ands; assumption)).mono ?_); rintro e w1 ⟨rfl, hb⟩)
      | (go_at_call 21; (with_reducible refine (cs.out _ (by go_split_ands; assumption)).mono ?_); rintro e w1 ⟨rfl, hb⟩)
      | (go_at_call 22; (with_reducible refine (cn.out _ (by go_split_ands; assumption)).mono ?_); rintro e w1 ⟨rfl, hb⟩)
      | (go_at_call 19; (with_reducible refine (c1.out _ (by go_split_ands; assumption)).mono ?_); rintro e w1 ⟨rfl, hb⟩)))
  all_goals go_wp2
  all_goals go_ret
  all_goals (go_split_ands; exact ⟨rfl, by assumption⟩)
end Go.Proofs.YtmllmnnglkimkabDoor.show
