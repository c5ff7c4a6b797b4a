/- The keys of epochs (packages keys, lodestoneref09): the code's, the document's, the laws KeysOf and KeysTwice. The table of salts is a premise. No other condition. -/
import Derived.Test.YtcdcipfojfnblaaGreatDoorMgHm
import Derived.Test.YtcdcipfojfnblaaGreatDoorHigh
import Derived.Test.YtcdcipfojfnblaaGreatDoorBox
namespace Go.Proofs.YtcdcipfojfnblaaGreatDoor.sha
open Go.RowKit
attribute [local go_sem ↓] Go.wp_at_zero Go.wp_at_succ
attribute [local go_sem] str_size str_append
set_option linter.unusedVariables false
set_option maxRecDepth 100000

def saltL : List UInt8 := [108, 111, 100, 101, 115, 116, 111, 110, 101]
def purposeL (n : Nat) : List UInt8 := 101 :: 112 :: 111 :: 99 :: 104 :: high.beL 4 n
def keysL (m : List UInt8) (n : Nat) : List UInt8 := (allK (tagL saltL m) (purposeL n) 2).take 64
theorem purposeL_len (n : Nat) : (purposeL n).length = 9 := by simp [purposeL, high.beL_length]
theorem keysL_len (m : List UInt8) (n : Nat) : (keysL m n).length = 64 := by rw [keysL, List.length_take, allK_len]; rfl
def keyT (m : List UInt8) (n : Nat) : List UInt8 := (keysL m n).take 32
def keyG (m : List UInt8) (n : Nat) : List UInt8 := (keysL m n).drop 32
theorem keyT_len (m : List UInt8) (n : Nat) : (keyT m n).length = 32 := by rw [keyT, List.length_take, keysL_len]; rfl
theorem keyG_len (m : List UInt8) (n : Nat) : (keyG m n).length = 32 := by rw [keyG, List.length_drop, keysL_len]
theorem keyT_cut (m : List UInt8) (n : Nat) : (str (keysL m n)).extract 0 32 = str (keyT m n) := by rw [cut_extract]; rfl
theorem keyG_cut (m : List UInt8) (n : Nat) : (str (keysL m n)).extract 32 64 = str (keyG m n) := by
  rw [cut_extract, keyG, List.take_of_length_le (by rw [List.length_drop, keysL_len]; decide)]
set_option maxRecDepth 100000 in
theorem keys_any (m : List UInt8) (n : Nat) (hn : n < 4294967296) (hm : m.length ≤ 1000000) (w : World) (hT : SaltAt w salts) :
    Calls Tryz.prog 67 #[.string (str m), .int .u32 (n : Int)] w fun e w' => e = .returned (.agg #[.string (str (keyT m n)), .string (str (keyG m n))]) ∧ Below w.heap.size w w' := by
  have c1 : ∀ w', SaltAt w' salts → Calls Tryz.prog 91 #[.string ⟨#[108, 111, 100, 101, 115, 116, 111, 110, 101]⟩, .string (str m)] w' fun e w2 => e = .returned (.string (str (tagL saltL m))) ∧ Below w'.heap.size w' w2 := fun w' h => extract_any saltL m (by decide) (by omega) w' h
  have c2 : ∀ w', Calls Tryz.prog 65 #[.int .u32 (n : Int)] w' fun e w2 => e = .returned (.string (str (high.beL 4 n))) ∧ Below w'.heap.size w' w2 := fun w' => high.small_put n hn w'
  have c3 : ∀ w', SaltAt w' salts → Calls Tryz.prog 90 #[.string (str (tagL saltL m)), .string (str (purposeL n)), .int .i64 64] w' fun e w2 => e = .returned (.tuple #[.string (str (keysL m n)), .int .i64 0]) ∧ Below w'.heap.size w' w2 := fun w' h => expand_any (tagL saltL m) (purposeL n) 64 (by decide) (by rw [tagL_len]; decide) (by rw [purposeL_len]; decide) w' h
  have k1 := keyT_cut m n
  have k2 := keyG_cut m n
  have kl := keysL_len m n
  have hpl : purposeL n = 101 :: 112 :: 111 :: 99 :: 104 :: high.beL 4 n := rfl
  have hbl := high.beL_length 4 n
  obtain ⟨B, hB⟩ : ∃ B, B = high.beL 4 n := ⟨_, rfl⟩
  obtain ⟨S, hS⟩ : ∃ B, B = keysL m n := ⟨_, rfl⟩
  obtain ⟨E, hE⟩ : ∃ B, B = tagL saltL m := ⟨_, rfl⟩
  rw [← hB] at hpl c2 hbl
  rw [hpl] at c3
  rw [← hS] at c3 k1 k2 kl
  rw [← hE] at c1 c3
  obtain ⟨S0, hS0⟩ : ∃ X, X = str S := ⟨_, rfl⟩
  have hSs : S0.size = 64 := by rw [hS0, str_size]; exact kl
  rw [← hS0] at c3 k1 k2
  clear hS0 kl
  have hz : (⟨#[101, 112, 111, 99, 104]⟩ : ByteArray) = str [101, 112, 111, 99, 104] := rfl
  clear hB hS hE hpl
  replace c1 := Lib.hid c1; replace c2 := Lib.hid c2; replace c3 := Lib.hid c3; replace hT := Lib.hid hT
  obtain ⟨W0, hW0⟩ : ∃ W0, W0 = w.alloc (.cells #[.string ⟨#[]⟩, .string ⟨#[]⟩] 142) := ⟨_, rfl⟩
  have hT0 : SaltAt W0 salts := by rw [hW0]; exact hT.out.keep ((Below.refl _ w).alloc (Nat.le_refl _) _)
  have hbb : Below W0.heap.size W0 W0 := Below.refl _ _
  replace hT0 := Lib.hid hT0
  replace hbb := Lib.hid hbb
  subst hW0
  go_enter Tryz.func67, Tryz.ntmps67
  go_upto_region 4 with (first
    | (go_at_call 91; (with_reducible refine (c1.out _ (hT0.out.keep hbb.out)).mono ?_); rintro e w1 ⟨rfl, b1⟩; replace hbb := Lib.hid (belowCont hbb.out b1); clear b1)
    | (go_at_call 65; (with_reducible refine (c2.out _).mono ?_); rintro e w1 ⟨rfl, b1⟩; replace hbb := Lib.hid (belowCont hbb.out b1); clear b1)
    | (go_at_call 90; (with_reducible refine (c3.out _ (hT0.out.keep hbb.out)).mono ?_); rintro e w1 ⟨rfl, b1⟩; replace hbb := Lib.hid (belowCont hbb.out b1); clear b1))
  obtain ⟨hrow, hcell, hfree, hbel⟩ := boxRow hbb.out
  have d0 := hcell 0
  have d1 := hcell 1
  have f0 := hfree 0
  have f1 := hfree 1
  obtain ⟨q0, q1⟩ := boxPut2 hrow (.string (str (keyT m n))) (.string (str (keyG m n)))
  have q2 := boxPut1 hrow (.string (str (keyT m n)))
  replace q0 := Lib.hid q0; replace q1 := Lib.hid q1; replace q2 := Lib.hid q2
  clear hrow hcell hfree
  replace hbel := Lib.hid hbel
  refine wp_region_still_tail 5 (by kernel_rfl) (by kernel_rfl) ?_
  simp only [List.take_succ_cons, List.take_zero, List.drop_succ_cons, List.drop_zero]
  repeat still_step
  try refine wpStill_nil ?_
  change wpList _ _ _ _ _ (World.drew _)
  go_wp2_with fail
  replace q0 := q0.out; replace q1 := q1.out; replace q2 := q2.out
  rw [World.cell?_drew] at q0 q1
  refine bodyPost_ret (by simp [results, Tryz.results67, go_sem, q0, q1, q2]; try rfl) rfl ?_
  exact ⟨by first | rfl | (rw [k1, k2]), ((hbel.out.setCell (p := ⟨w.heap.size, 0, none⟩) (Nat.le_refl _) _).setCell (p := ⟨w.heap.size, 1, none⟩) (Nat.le_refl _) _).drew⟩
set_option maxRecDepth 100000 in
theorem rkeys_any (m : List UInt8) (n : Nat) (hn : n < 4294967296) (hm : m.length ≤ 1000000) (w : World) :
    Calls Tryz.prog 56 #[.string (str m), .int .u32 (n : Int)] w fun e w' => e = .returned (.tuple #[.string (str (keyT m n)), .string (str (keyG m n))]) ∧ Below w.heap.size w w' := by
  have c1 : ∀ w', Calls Tryz.prog 75 #[.string ⟨#[108, 111, 100, 101, 115, 116, 111, 110, 101]⟩, .string (str m)] w' fun e w2 => e = .returned (.string (str (tagL saltL m))) ∧ Below w'.heap.size w' w2 := fun w' => rtag_any saltL m (by decide) (by omega) w'
  have c2 : ∀ w', Calls Tryz.prog 55 #[.int .u64 (n : Int), .int .i64 4] w' fun e w2 => e = .returned (.string (str (high.beL 4 n))) ∧ Below w'.heap.size w' w2 := fun w' => high.refHigh_any n 4 (by omega) (by omega) w'
  have c3 : ∀ w', Calls Tryz.prog 74 #[.string (str (tagL saltL m)), .string (str (purposeL n)), .int .i64 64] w' fun e w2 => e = .returned (.string (str (keysL m n))) ∧ Below w'.heap.size w' w2 := fun w' => rexpand_any (tagL saltL m) (purposeL n) 64 (by decide) (by rw [tagL_len]; decide) (by rw [purposeL_len]; decide) w'
  have k1 := keyT_cut m n
  have k2 := keyG_cut m n
  have kl := keysL_len m n
  have hpl : purposeL n = 101 :: 112 :: 111 :: 99 :: 104 :: high.beL 4 n := rfl
  have hbl := high.beL_length 4 n
  have hw : IntKind.u64.wrap (n : Int) = n := IntWalk.u64_in _ (by omega)
  obtain ⟨B, hB⟩ : ∃ B, B = high.beL 4 n := ⟨_, rfl⟩
  obtain ⟨S, hS⟩ : ∃ B, B = keysL m n := ⟨_, rfl⟩
  obtain ⟨E, hE⟩ : ∃ B, B = tagL saltL m := ⟨_, rfl⟩
  rw [← hB] at hpl c2 hbl
  rw [hpl] at c3
  rw [← hS] at c3 k1 k2 kl
  rw [← hE] at c1 c3
  obtain ⟨S0, hS0⟩ : ∃ X, X = str S := ⟨_, rfl⟩
  have hSs : S0.size = 64 := by rw [hS0, str_size]; exact kl
  rw [← hS0] at c3 k1 k2
  clear hS0 kl
  have hz : (⟨#[101, 112, 111, 99, 104]⟩ : ByteArray) = str [101, 112, 111, 99, 104] := rfl
  clear hB hS hE hpl
  replace c1 := Lib.hid c1; replace c2 := Lib.hid c2; replace c3 := Lib.hid c3
  replace hn := Lib.hid hn
  have hbb : Below w.heap.size w w := Below.refl _ _
  replace hbb := Lib.hid hbb
  go_enter Tryz.func56, Tryz.ntmps56
  go_wp2_with (first
    | (go_at_call 75; (with_reducible refine (c1.out _).mono ?_); rintro e w1 ⟨rfl, b1⟩; replace hbb := Lib.hid (belowCont hbb.out b1); clear b1)
    | (go_at_call 55; (with_reducible refine (c2.out _).mono ?_); rintro e w1 ⟨rfl, b1⟩; replace hbb := Lib.hid (belowCont hbb.out b1); clear b1)
    | (go_at_call 74; (with_reducible refine (c3.out _).mono ?_); rintro e w1 ⟨rfl, b1⟩; replace hbb := Lib.hid (belowCont hbb.out b1); clear b1))
  refine wp_region_still_lit (by kernel_rfl) (by kernel_rfl) ?_
  change wpStill _ _ (World.drew _) _ _ _
  repeat still_step
  refine wpStill_nil ?_
  go_wp2_with fail
  go_returns
  exact ⟨by first | rfl | (rw [k1, k2]), hbb.out.drew⟩
set_option maxRecDepth 100000 in
theorem keys_unlike : keyT [109, 97, 115, 116, 101, 114] 3 ≠ keyG [109, 97, 115, 116, 101, 114] 3 := by decide +kernel
end Go.Proofs.YtcdcipfojfnblaaGreatDoor.sha
