/- Values as parts of keys: value.Part, the document's, value.Parted. That a variable of the library holds a number is a premise. No other condition. -/
import Derived.Test.YtmeaidkbkelclaaDoorVPart
import Derived.Test.YtmeaidkbkelclaaDoorPart3
import Derived.Test.YtmeaidkbkelclaaDoorValue2
namespace Go.Proofs.YtmeaidkbkelclaaDoor.vorder
open Go.RowKit
open Go.Proofs.YtmeaidkbkelclaaDoor.order (numP textP beL onum_any oint_any otext_any rnum_any rint_any rtext_any MaxAt PAt pnum_any pint_any ptext_any perr_any)
attribute [local go_sem ↓] Go.wp_at_zero Go.wp_at_succ
attribute [local go_sem] str_bl str_size str_append
set_option linter.unusedVariables false
set_option maxRecDepth 100000

theorem numP_len (k : Nat) (hk : k < 4) : (numP k).length ≤ 2 := by
  have h1 : k = 0 ∨ k = 1 ∨ k = 2 ∨ k = 3 := by omega
  rcases h1 with rfl | rfl | rfl | rfl <;> simp [numP_0, numP_1, numP_2, numP_3]
set_option maxHeartbeats 1000000 in
theorem part_int (kk : Nat) (hk : kk < 3) (n : Int) (m : Nat) (hm : bits .xor .u64 (IntKind.u64.wrap n) 9223372036854775808 = (m : Int)) (s : ByteArray) (w : World) : Calls Tryd.prog 32 #[.agg #[.int .i64 (kk : Int), .int .i64 n, .string s]] w fun e w' => e = .returned (.string (str (partV kk m []))) ∧ Below w.heap.size w w' := by
  have hpv : partV kk m [] = numP kk ++ 32 :: beL 8 m := by unfold partV; rw [if_neg (by omega)]
  have c1 := fun W => onum_any kk W
  have c2 := fun W => oint_any m n hm W
  have k3 : ((kk : Int) == 3) = false := by simp; omega
  have k0 : (0 : Int) ≤ (kk : Int) := by omega
  have kl : (kk : Int) < 3 := by omega
  have hw : IntKind.u64.wrap (kk : Int) = kk := IntWalk.u64_in _ (by omega)
  have hl := numP_len kk (by omega)
  have hroom : ¬ 9223372036854775807 < (numP kk).length + ((beL 8 m).length + 1) := by rw [order.beL_length]; omega
  rw [hpv]
  generalize numP kk = P at *
  have hbl := order.beL_length 8 m
  generalize beL 8 m = Q at *
  clear hpv hm hl hk
  replace c1 := Lib.hid c1; replace c2 := Lib.hid c2; replace hbl := Lib.hid hbl
  have hb := (Below.refl w.heap.size w).alloc (Nat.le_refl _) (.cells #[.int .i64 (kk : Int), .int .i64 n, .string s] 37)
  replace hb := Lib.hid hb
  go_enter Tryd.func32, Tryd.ntmps32
  go_wp2_with (first
    | (go_at_call 78; (with_reducible refine (c1.out _).mono ?_); rintro e w1 ⟨rfl, b1⟩; obtain ⟨x0, x1, x2⟩ := value.box3 b1; replace hb := Lib.hid (hb.out.trans (b1.mono (by simp))))
    | (go_at_call 80; (with_reducible refine (c2.out _).mono ?_); rintro e w2 ⟨rfl, b2⟩))
  go_ret
  exact ⟨by first | rfl | simp [str_append], belowCont hb.out b2⟩
set_option maxHeartbeats 1000000 in
theorem rpart_int (kk : Nat) (hk : kk < 3) (n : Int) (m : Nat) (hm2 : m < 18446744073709551616) (hm : IntKind.u64.wrap (IntKind.u64.wrap n + 9223372036854775808) = (m : Int)) (s : ByteArray) (w : World) : Calls Tryd.prog 35 #[.agg #[.int .i64 (kk : Int), .int .i64 n, .string s]] w fun e w' => e = .returned (.string (str (partV kk m []))) ∧ Below w.heap.size w w' := by
  have hpv : partV kk m [] = numP kk ++ 32 :: beL 8 m := by unfold partV; rw [if_neg (by omega)]
  have c1 := fun W => rnum_any kk (by omega) W
  have c2 := fun W => rint_any m n hm2 hm W
  have k3 : ((kk : Int) == 3) = false := by simp; omega
  have k0 : (0 : Int) ≤ (kk : Int) := by omega
  have kl : (kk : Int) < 3 := by omega
  have hw : IntKind.u64.wrap (kk : Int) = kk := IntWalk.u64_in _ (by omega)
  have hl := numP_len kk (by omega)
  have hroom : ¬ 9223372036854775807 < (numP kk).length + ((beL 8 m).length + 1) := by rw [order.beL_length]; omega
  rw [hpv]
  generalize numP kk = P at *
  have hbl := order.beL_length 8 m
  generalize beL 8 m = Q at *
  clear hpv hm hl hk
  replace c1 := Lib.hid c1; replace c2 := Lib.hid c2; replace hbl := Lib.hid hbl
  have hb := (Below.refl w.heap.size w).alloc (Nat.le_refl _) (.cells #[.int .i64 (kk : Int), .int .i64 n, .string s] 37)
  replace hb := Lib.hid hb
  go_enter Tryd.func35, Tryd.ntmps35
  go_wp2_with (first
    | (go_at_call 85; (with_reducible refine (c1.out _).mono ?_); rintro e w1 ⟨rfl, b1⟩; obtain ⟨x0, x1, x2⟩ := value.box3 b1; replace hb := Lib.hid (hb.out.trans (b1.mono (by simp))))
    | (go_at_call 87; (with_reducible refine (c2.out _).mono ?_); rintro e w2 ⟨rfl, b2⟩))
  go_ret
  exact ⟨by first | rfl | simp [str_append], belowCont hb.out b2⟩
set_option maxHeartbeats 1000000 in
theorem part_txt (l : List UInt8) (hl : l.length ≤ 1000) (w : World) (hM : MaxAt w) : Calls Tryd.prog 32 #[.agg #[.int .i64 3, .int .i64 0, .string (str l)]] w fun e w' => e = .returned (.string (str (partV 3 0 l))) ∧ Below w.heap.size w w' := by
  have hpv : partV 3 0 l = numP 3 ++ textP l := by unfold partV; rw [if_pos rfl]
  have c1 : ∀ W, Calls Tryd.prog 78 #[.int .u64 3] W fun e w' => e = .returned (.string (str (numP 3))) ∧ Below W.heap.size W w' := fun W => onum_any 3 W
  have c2 := fun W (h : MaxAt W) => otext_any l hl W h
  have hlt : (textP l).length ≤ 2010 := by have := order.esc_len l; simp [textP]; omega
  have hn := numP_len 3 (by omega)
  have hroom : ¬ 9223372036854775807 < (numP 3).length + (textP l).length := by omega
  rw [hpv]
  generalize numP 3 = P at *
  generalize textP l = Q at *
  clear hpv hn hlt hl
  replace c1 := Lib.hid c1; replace c2 := Lib.hid c2
  have hb := (Below.refl w.heap.size w).alloc (Nat.le_refl _) (.cells #[.int .i64 3, .int .i64 0, .string (str l)] 37)
  replace hb := Lib.hid hb
  go_enter Tryd.func32, Tryd.ntmps32
  go_wp2_with (first
    | (go_at_call 78; (with_reducible refine (c1.out _).mono ?_); rintro e w1 ⟨rfl, b1⟩; obtain ⟨x0, x1, x2⟩ := value.box3 b1; replace hb := Lib.hid (hb.out.trans (b1.mono (by simp))))
    | (go_at_call 79; (with_reducible refine (c2.out _ (hM.keep hb.out)).mono ?_); rintro e w2 ⟨rfl, b2⟩))
  go_ret
  exact ⟨by first | rfl | simp [str_append], belowCont hb.out b2⟩
set_option maxHeartbeats 1000000 in
theorem rpart_txt (l : List UInt8) (hl : l.length ≤ 1000) (w : World) : Calls Tryd.prog 35 #[.agg #[.int .i64 3, .int .i64 0, .string (str l)]] w fun e w' => e = .returned (.string (str (partV 3 0 l))) ∧ Below w.heap.size w w' := by
  have hpv : partV 3 0 l = numP 3 ++ textP l := by unfold partV; rw [if_pos rfl]
  have c1 : ∀ W, Calls Tryd.prog 85 #[.int .u64 3] W fun e w' => e = .returned (.string (str (numP 3))) ∧ Below W.heap.size W w' := fun W => rnum_any 3 (by omega) W
  have c2 := fun W => rtext_any l hl W
  have hlt : (textP l).length ≤ 2010 := by have := order.esc_len l; simp [textP]; omega
  have hn := numP_len 3 (by omega)
  have hroom : ¬ 9223372036854775807 < (numP 3).length + (textP l).length := by omega
  rw [hpv]
  generalize numP 3 = P at *
  generalize textP l = Q at *
  clear hpv hn hlt hl
  replace c1 := Lib.hid c1; replace c2 := Lib.hid c2
  have hb := (Below.refl w.heap.size w).alloc (Nat.le_refl _) (.cells #[.int .i64 3, .int .i64 0, .string (str l)] 37)
  replace hb := Lib.hid hb
  go_enter Tryd.func35, Tryd.ntmps35
  go_wp2_with (first
    | (go_at_call 85; (with_reducible refine (c1.out _).mono ?_); rintro e w1 ⟨rfl, b1⟩; obtain ⟨x0, x1, x2⟩ := value.box3 b1; replace hb := Lib.hid (hb.out.trans (b1.mono (by simp))))
    | (go_at_call 86; (with_reducible refine (c2.out _).mono ?_); rintro e w2 ⟨rfl, b2⟩))
  go_ret
  exact ⟨by first | rfl | simp [str_append], belowCont hb.out b2⟩
end Go.Proofs.YtmeaidkbkelclaaDoor.vorder
