/- What record.May, Put and Get do with a node of the labels 1 and 3 and nothing else: the law's awake. No condition. -/
import Derived.Test.YtcdgnhhciccoeaaDoorRecord
import Derived.Test.YtcdgnhhciccoeaaDoorBuildL
import Derived.Test.YtcdgnhhciccoeaaDoorCodePuts
import Derived.Test.YtcdgnhhciccoeaaDoorBuild
import Derived.Test.YtcdgnhhciccoeaaDoorBox
import Derived.Test.YtcdgnhhciccoeaaDoorShelf
import Derived.Deep.RegionHeld3
namespace Go.Proofs.YtcdgnhhciccoeaaDoor.rec
open Go.RowKit
attribute [local go_sem ↓] Go.wp_at_zero Go.wp_at_succ
set_option linter.unusedVariables false
set_option maxRecDepth 100000

theorem mayName_yes (n : Nat) (h : n < 64) (w : World) : Calls Tryd.prog 46 #[.int .i64 (n : Int)] w fun e w' => e = .returned (.bool true) ∧ w' = w := by
  have h1 : decide ((n : Int) < 64) = true := by simp; omega
  have h2 : decide ((0 : Int) ≤ (n : Int)) = true := by simp
  go_enter Tryd.func46, Tryd.ntmps46
  go_wp2
  go_ret
  exact ⟨rfl, rfl⟩
theorem mayProps_nil (w : World) : Calls Tryd.prog 47 #[.slice none 0 0] w fun e w' => e = .returned (.bool true) ∧ w' = w := by
  go_enter Tryd.func47, Tryd.ntmps47
  go_wp2
  go_loop [7] (fun i => i = .int .i64 0) (fun i => 0)
  case atStart => rfl
  case round =>
    subst hrel
    go_wp2
    go_ret
    exact ⟨rfl, rfl⟩
theorem mayLabels_13 (q c : Nat) (w : World) (c0 : w.cell? ⟨q, 0, none⟩ = some (.int .i64 1)) (c1 : w.cell? ⟨q, 1, none⟩ = some (.int .i64 3)) : Calls Tryd.prog 48 #[.slice (some ⟨q, 0, none⟩) 2 c] w fun e w' => e = .returned (.bool true) ∧ w' = w := by
  have n1 : ∀ w, Calls Tryd.prog 46 #[.int .i64 1] w fun e w' => e = .returned (.bool true) ∧ w' = w := mayName_yes 1 (by decide)
  have n3 : ∀ w, Calls Tryd.prog 46 #[.int .i64 3] w fun e w' => e = .returned (.bool true) ∧ w' = w := mayName_yes 3 (by decide)
  replace n1 := Lib.hid n1; replace n3 := Lib.hid n3
  go_enter Tryd.func48, Tryd.ntmps48
  go_wp2
  go_loop [7] (fun i => ∃ k : Nat, k ≤ 2 ∧ i = .int .i64 k) (fun i => 2 - (intOf i).toNat)
  case atStart => exact ⟨0, by omega, rfl⟩
  case round =>
    obtain ⟨k, hk, rfl⟩ := hrel
    have : k = 0 ∨ k = 1 ∨ k = 2 := by omega
    clear hk
    rcases this with rfl | rfl | rfl
    · go_wp2_with (go_at_call 46; (with_reducible refine (n1.out _).mono ?_); rintro e w1 ⟨rfl, rfl⟩)
      go_round
      case rel => exact ⟨1, by omega, rfl⟩
      case measure => simp [intOf]
    · go_wp2_with (go_at_call 46; (with_reducible refine (n3.out _).mono ?_); rintro e w1 ⟨rfl, rfl⟩)
      go_round
      case rel => exact ⟨2, by omega, rfl⟩
      case measure => simp [intOf]
    · go_wp2
      go_ret
      exact ⟨rfl, rfl⟩
theorem may_13 (q c : Nat) (w : World) (c0 : w.cell? ⟨q, 0, none⟩ = some (.int .i64 1)) (c1 : w.cell? ⟨q, 1, none⟩ = some (.int .i64 3)) : Calls Tryd.prog 12 #[.agg #[.bool false, .slice (some ⟨q, 0, none⟩) 2 c, .int .i64 0, .int .u64 0, .int .u64 0, .slice none 0 0]] w fun e w' => e = .returned (.bool true) ∧ Below w.heap.size w w' := by
  have hq : q < w.heap.size := World.block_lt_of_cell? w _ c0
  have hl : ∀ w', Below w.heap.size w w' → Calls Tryd.prog 48 #[.slice (some ⟨q, 0, none⟩) 2 c] w' fun e w2 => e = .returned (.bool true) ∧ w2 = w' := fun w' hb => mayLabels_13 q c w' ((hb.cell hq).trans c0) ((hb.cell hq).trans c1)
  replace hl := Lib.hid hl
  clear c0 c1
  go_enter Tryd.func12, Tryd.ntmps12
  go_wp2_with (first
    | (go_at_call 48; (with_reducible refine (hl.out _ ((Below.refl _ _).alloc (Nat.le_refl _) _)).mono ?_); rintro e w1 ⟨rfl, rfl⟩)
    | (go_at_call 47; (with_reducible refine (mayProps_nil _).mono ?_); rintro e w1 ⟨rfl, rfl⟩))
  go_ret
  exact ⟨rfl, (Below.refl _ _).alloc (Nat.le_refl _) _⟩
/-- a thing's box: the node of the labels 1 and 3 -/
def Bx (g q c : Nat) (w : World) : Prop := w.heap[g]? = some (.cells #[.bool false, .slice (some ⟨q, 0, none⟩) 2 c, .int .i64 0, .int .u64 0, .int .u64 0, .slice none 0 0] 26 (0, 0))
section
variable {g q c : Nat} {w w' : World}
theorem Bx.keep (h : Bx g q c w) {B : Nat} (hg : g < B) (k : Below B w w') : Bx g q c w' := (k.block _ hg).trans h
theorem Bx.c0 (h : Bx g q c w) : w.cell? ⟨g, 0, none⟩ = some (.bool false) := cell_of_row _ _ 0 _ _ _ h
theorem Bx.c1 (h : Bx g q c w) : w.cell? ⟨g, 1, none⟩ = some (.slice (some ⟨q, 0, none⟩) 2 c) := cell_of_row _ _ 1 _ _ _ h
theorem Bx.c5 (h : Bx g q c w) : w.cell? ⟨g, 5, none⟩ = some (.slice none 0 0) := cell_of_row _ _ 5 _ _ _ h
end
/-- box, builder, all else as it was -/
structure St (w : World) (b q c : Nat) (L : List UInt8) (w' : World) : Prop where
  box : Bx w.heap.size q c w'
  bu : build.Bu b L w'
  bel : Below w.heap.size w w'
  lt : w.heap.size < b
namespace St
variable {w w' w'' : World} {b q c : Nat} {L : List UInt8}
theorem pure (h : St w b q c L w') (k : Below w'.heap.size w' w'') : St w b q c L w'' :=
  ⟨h.box.keep (Nat.lt_trans h.lt h.bu.lt) k, h.bu.below k, belowCont h.bel k, h.lt⟩
theorem write (h : St w b q c L w') {M : List UInt8} (hb : build.Bu b M w'') (k : Below b w' w'') : St w b q c M w'' :=
  ⟨h.box.keep h.lt k, hb, h.bel.trans (k.mono (Nat.le_of_lt h.lt)), h.lt⟩
end St
/-- what is written behind so many labels -/
def labL : Nat → List UInt8
  | 0 => [0, 2]
  | 1 => [0, 2, 1]
  | _ => [0, 2, 1, 3]
theorem num_lit (n : Nat) (h : n < 128) (w : World) : Calls Tryd.prog 32 #[.int .u64 (n : Int)] w fun e w' => e = .returned (.string (str [UInt8.ofNat n])) ∧ Below w.heap.size w w' := by
  have := code.num_any n (by omega) w
  rwa [code.numL_small n h] at this
set_option maxHeartbeats 4000000 in
theorem put_13 (q c : Nat) (w : World) (c0 : w.cell? ⟨q, 0, none⟩ = some (.int .i64 1)) (c1 : w.cell? ⟨q, 1, none⟩ = some (.int .i64 3)) : Calls Tryd.prog 8 #[.agg #[.bool false, .slice (some ⟨q, 0, none⟩) 2 c, .int .i64 0, .int .u64 0, .int .u64 0, .slice none 0 0]] w fun e w' => e = .returned (.string (str [0, 2, 1, 3, 0])) ∧ Below w.heap.size w w' := by
  have hq : q < w.heap.size := World.block_lt_of_cell? w _ c0
  have hm : ∀ w', Below w.heap.size w w' → Calls Tryd.prog 12 #[.agg #[.bool false, .slice (some ⟨q, 0, none⟩) 2 c, .int .i64 0, .int .u64 0, .int .u64 0, .slice none 0 0]] w' fun e w2 => e = .returned (.bool true) ∧ Below w'.heap.size w' w2 := fun w' hb => may_13 q c w' ((hb.cell hq).trans c0) ((hb.cell hq).trans c1)
  have l0 : ∀ w', Below w.heap.size w w' → w'.cell? ⟨q, 0, none⟩ = some (.int .i64 1) := fun w' hb => (hb.cell hq).trans c0
  have l1 : ∀ w', Below w.heap.size w w' → w'.cell? ⟨q, 1, none⟩ = some (.int .i64 3) := fun w' hb => (hb.cell hq).trans c1
  have n0 : ∀ w', Calls Tryd.prog 32 #[.int .u64 0] w' fun e w2 => e = .returned (.string (str [0])) ∧ Below w'.heap.size w' w2 := num_lit 0 (by decide)
  have n1 : ∀ w', Calls Tryd.prog 32 #[.int .u64 1] w' fun e w2 => e = .returned (.string (str [1])) ∧ Below w'.heap.size w' w2 := num_lit 1 (by decide)
  have n2 : ∀ w', Calls Tryd.prog 32 #[.int .u64 2] w' fun e w2 => e = .returned (.string (str [2])) ∧ Below w'.heap.size w' w2 := num_lit 2 (by decide)
  have n3 : ∀ w', Calls Tryd.prog 32 #[.int .u64 3] w' fun e w2 => e = .returned (.string (str [3])) ∧ Below w'.heap.size w' w2 := num_lit 3 (by decide)
  have nb : ∀ w', Calls Tryd.prog 31 #[.bool false] w' fun e w2 => e = .returned (.string (str [0])) ∧ Below w'.heap.size w' w2 := code.boolPut_any false
  replace hm := Lib.hid hm; replace n0 := Lib.hid n0; replace n1 := Lib.hid n1; replace n2 := Lib.hid n2; replace n3 := Lib.hid n3; replace nb := Lib.hid nb; replace l0 := Lib.hid l0; replace l1 := Lib.hid l1
  clear c0 c1 hq
  go_enter Tryd.func8, Tryd.ntmps8
  go_upto_region 4 with (first
    | (go_at_call 12; (with_reducible refine (hm.out _ ((Below.refl _ _).alloc (Nat.le_refl _) _)).mono ?_); rintro e w1 ⟨rfl, b1⟩; replace b1 := Lib.hid b1))
  have st : St w w1.heap.size q c [] (w1.alloc (.cells #[.pointer none, .slice none 0 0] 79)) :=
    have h := boxRow b1.out
    ⟨Bx.keep (w := w1) h.1 (block_lt h.1) ((Below.refl _ _).alloc (Nat.le_refl _) _), build.Bu.fresh w1, h.2.2.2.alloc h.2.2.2.size _, block_lt h.1⟩
  clear b1
  generalize w1.alloc (.cells #[.pointer none, .slice none 0 0] 79) = W at st ⊢
  generalize w1.heap.size = b at st ⊢
  clear w1
  have c0 := st.box.c0
  have c1 := st.box.c1
  replace st := Lib.hid st
  go_upto_region 8 with (first
    | (go_at_call 31; (with_reducible refine (nb.out _).mono ?_); rintro e w1 ⟨rfl, b1⟩; replace st := Lib.hid (st.out.pure b1); clear b1; replace c1 := st.out.box.c1)
    | (go_at_call 32; (with_reducible refine (n2.out _).mono ?_); rintro e w1 ⟨rfl, b1⟩; replace st := Lib.hid (st.out.pure b1); clear b1; replace c1 := st.out.box.c1)
    | (go_at_call 30; (with_reducible refine (build.bwrite b _ _ _ st.out.bu (by decide)).mono ?_); rintro e w1 ⟨rfl, b1, k1⟩; replace st := Lib.hid (st.out.write b1 k1); clear b1 k1; replace c0 := st.out.box.c0; replace c1 := st.out.box.c1))
  have c1l := st.out.box.c1
  go_upto_region 9 with (fail)
  go_loopw [39] (fun i wr => ∃ k : Nat, k ≤ 2 ∧ i = .int .i64 k ∧ St w b q c (labL k) wr) (fun i _ => 2 - (intOf i).toNat)
  case atStart => exact ⟨0, by omega, rfl, st.out⟩
  case round =>
    clear c0 c1 c1l st
    obtain ⟨k, hk, rfl, st⟩ := hrel
    have c5 := st.box.c5
    have e0 := l0.out _ st.bel
    have e1 := l1.out _ st.bel
    replace st := Lib.hid st
    have : k = 0 ∨ k = 1 ∨ k = 2 := by omega
    clear hk
    rcases this with rfl | rfl | rfl
    · go_wp2_with (first
        | (go_at_call 32; (with_reducible refine (n1.out _).mono ?_); rintro e w1 ⟨rfl, b1⟩; replace st := Lib.hid (st.out.pure b1); clear b1)
        | (go_at_call 30; (with_reducible refine (build.bwrite b _ _ _ st.out.bu (by decide)).mono ?_); rintro e w1 ⟨rfl, b1, k1⟩; replace st := Lib.hid (st.out.write b1 k1); clear b1 k1))
      go_roundw
      case rel => exact ⟨1, by omega, rfl, st.out⟩
      case measure => simp [intOf]
    · go_wp2_with (first
        | (go_at_call 32; (with_reducible refine (n3.out _).mono ?_); rintro e w1 ⟨rfl, b1⟩; replace st := Lib.hid (st.out.pure b1); clear b1)
        | (go_at_call 30; (with_reducible refine (build.bwrite b _ _ _ st.out.bu (by decide)).mono ?_); rintro e w1 ⟨rfl, b1, k1⟩; replace st := Lib.hid (st.out.write b1 k1); clear b1 k1))
      go_roundw
      case rel => exact ⟨2, by omega, rfl, st.out⟩
      case measure => simp [intOf]
    · go_upto_region 15 with (first
        | (go_at_call 32; (with_reducible refine (n0.out _).mono ?_); rintro e w1 ⟨rfl, b1⟩; replace st := Lib.hid (st.out.pure b1); clear b1)
        | (go_at_call 30; (with_reducible refine (build.bwrite b _ _ _ st.out.bu (by decide)).mono ?_); rintro e w1 ⟨rfl, b1, k1⟩; replace st := Lib.hid (st.out.write b1 k1); clear b1 k1; replace c5 := st.out.box.c5))
      go_loopw [57] (fun i wr => i = .int .i64 0 ∧ St w b q c [0, 2, 1, 3, 0] wr) (fun i _ => 0)
      case atStart => exact ⟨rfl, st.out⟩
      case round =>
        clear c5 e0 e1 st
        obtain ⟨rfl, st⟩ := hrel
        replace st := Lib.hid st
        go_wp2_with (first
          | (go_at_call 34; (with_reducible refine (build.blen b _ _ st.out.bu).mono ?_); rintro e w1 ⟨rfl, rfl⟩)
          | (go_at_call 35; (with_reducible refine (build.bstring b _ _ st.out.bu).mono ?_); rintro e w1 ⟨rfl, b1, k1⟩; replace st := Lib.hid (st.out.write b1 k1); clear b1 k1))
        go_ret
        exact ⟨rfl, st.out.bel⟩
end Go.Proofs.YtcdgnhhciccoeaaDoor.rec
