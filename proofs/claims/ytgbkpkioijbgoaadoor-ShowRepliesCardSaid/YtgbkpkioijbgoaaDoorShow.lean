/- Errors' names (package show), and those of the document: the law ShowErrors. The table of powers of ten is a premise. No other condition. -/
import Derived.Test.YtgbkpkioijbgoaaDoorBytes2
import Derived.Test.YtgbkpkioijbgoaaDoorBox
import Derived.Test.YtgbkpkioijbgoaaDoorShelf
import Derived.Lib.LaidTab
import Derived.Lib.SmallJoins
import Derived.Lib.AppendIntMem
import Derived.Stop.LaidErr
import Derived.Lib.ItoaLen
namespace Go.Proofs.YtgbkpkioijbgoaaDoor.show
open Go.RowKit
attribute [local go_sem ↓] Go.wp_at_zero Go.wp_at_succ
attribute [local go_sem] str_size
set_option linter.unusedVariables false
set_option maxRecDepth 100000

def Tab (w : World) : Prop := Lib.TabIs Tryd.prog w "internal/strconv.uint64pow10" .u64 Lib.pow10Tab
theorem tabNamed : Tryd.prog.globalNamed "internal/strconv.uint64pow10" = some 1 := by kernel_rfl
theorem Tab.keep {w w' : World} (h : Tab w) (b : Below w.heap.size w w') : Tab w' := Go.Joins.tab_stays tabNamed h b (Nat.le_refl _)
/-- a number's text -/
def numT (n : Int) : ByteArray := str (Lib.itoa n)
theorem itoa_any (n : Int) (hn : -9223372036854775808 ≤ n ∧ n ≤ 9223372036854775807) (w : World) (hT : Tab w) : Calls Tryd.prog 40 #[.int .i64 n] w fun e w' => e = .returned (.string (numT n)) ∧ Below w.heap.size w w' :=
  (Go.Proofs.Tryd.strconv_Itoa n hn.1 hn.2 w hT).mono fun e w' ⟨he, k, os, hw⟩ => ⟨he, by rw [hw]; exact Lib.below_grow _ w (Nat.le_refl _) k os⟩
theorem num_any (n : Int) (hn : -9223372036854775808 ≤ n ∧ n ≤ 9223372036854775807) (w : World) (hT : Tab w) : Calls Tryd.prog 41 #[.int .i64 n] w fun e w' => e = .returned (.string (numT n)) ∧ Below w.heap.size w w' := by
  have c := itoa_any n hn w hT
  replace c := Lib.hid c
  clear hn hT
  go_enter Tryd.func41, Tryd.ntmps41
  go_wp2_with (go_at_call 40; (with_reducible refine c.out.mono ?_); rintro e w1 ⟨rfl, b1⟩; replace b1 := Lib.hid b1)
  go_ret
  exact ⟨rfl, b1.out⟩
theorem numT_len (n : Int) (hn : -9223372036854775808 ≤ n ∧ n ≤ 9223372036854775807) : (numT n).size ≤ 21 := by
  unfold numT; rw [str_size]; exact Lib.itoa_length_le n hn.1 hn.2

/-- an error's name -/
def errT (n : Int) : ByteArray :=
  if n = 0 then ⟨#[111, 107]⟩ else if n = 1 then ⟨#[105, 110, 112, 117, 116]⟩ else if n = 4 then ⟨#[109, 117, 99, 104]⟩ else if n = 5 then ⟨#[102, 117, 108, 108]⟩ else if n = 6 then ⟨#[110, 111, 110, 101]⟩
  else if n = 7 then ⟨#[112, 111, 119, 101, 114]⟩ else if n = 8 then ⟨#[105, 110, 116, 101, 103, 114, 105, 116, 121]⟩ else if n = 280 then ⟨#[116, 119, 105, 99, 101]⟩ else if n = 290 then ⟨#[117, 115, 101, 100]⟩
  else if n = 360 then ⟨#[100, 101, 97, 100, 108, 111, 99, 107]⟩ else if n = 361 then ⟨#[98, 117, 115, 121]⟩ else if n = 320 then ⟨#[109, 97, 108, 102, 111, 114, 109, 101, 100]⟩ else if n = 330 then ⟨#[109, 97, 108, 102, 111, 114, 109, 101, 100]⟩
  else ⟨#[101, 114, 114, 111, 114, 32]⟩ ++ numT n
theorem errT_other (n : Int) (h : n ≠ 0 ∧ n ≠ 1 ∧ n ≠ 4 ∧ n ≠ 5 ∧ n ≠ 6 ∧ n ≠ 7 ∧ n ≠ 8 ∧ n ≠ 280 ∧ n ≠ 290 ∧ n ≠ 360 ∧ n ≠ 361 ∧ n ≠ 320 ∧ n ≠ 330) : errT n = ⟨#[101, 114, 114, 111, 114, 32]⟩ ++ numT n := by
  obtain ⟨h0, h1, h4, h5, h6, h7, h8, h280, h290, h360, h361, h320, h330⟩ := h
  unfold errT
  rw [if_neg h0, if_neg h1, if_neg h4, if_neg h5, if_neg h6, if_neg h7, if_neg h8, if_neg h280, if_neg h290, if_neg h360, if_neg h361, if_neg h320, if_neg h330]
set_option maxHeartbeats 1000000 in
theorem errno_other (n : Int) (hn : -9223372036854775808 ≤ n ∧ n ≤ 9223372036854775807) (h : n ≠ 0 ∧ n ≠ 1 ∧ n ≠ 4 ∧ n ≠ 5 ∧ n ≠ 6 ∧ n ≠ 7 ∧ n ≠ 8 ∧ n ≠ 280 ∧ n ≠ 290 ∧ n ≠ 360 ∧ n ≠ 361 ∧ n ≠ 320 ∧ n ≠ 330) (w : World) (hT : Tab w) : Calls Tryd.prog 42 #[.int .i64 n] w fun e w' => e = .returned (.string (errT n)) ∧ Below w.heap.size w w' := by
  rw [errT_other n h]
  have c := num_any n hn w hT
  have hs := numT_len n hn
  obtain ⟨T, hTe⟩ : ∃ T, T = numT n := ⟨_, rfl⟩
  rw [← hTe] at c hs
  rw [← hTe]
  obtain ⟨h0, h1, h4, h5, h6, h7, h8, h280, h290, h360, h361, h320, h330⟩ := h
  clear hTe hT hn
  replace c := Lib.hid c
  go_enter Tryd.func42, Tryd.ntmps42
  go_wp2_with (go_at_call 41; (with_reducible refine c.out.mono ?_); rintro e w1 ⟨rfl, b1⟩; replace b1 := Lib.hid b1)
  go_ret
  exact ⟨rfl, b1.out⟩
theorem errno_any (n : Int) (hn : -9223372036854775808 ≤ n ∧ n ≤ 9223372036854775807) (w : World) (hT : Tab w) : Calls Tryd.prog 42 #[.int .i64 n] w fun e w' => e = .returned (.string (errT n)) ∧ Below w.heap.size w w' := by
  by_cases h : n ≠ 0 ∧ n ≠ 1 ∧ n ≠ 4 ∧ n ≠ 5 ∧ n ≠ 6 ∧ n ≠ 7 ∧ n ≠ 8 ∧ n ≠ 280 ∧ n ≠ 290 ∧ n ≠ 360 ∧ n ≠ 361 ∧ n ≠ 320 ∧ n ≠ 330
  · exact errno_other n hn h w hT
  · have h2 : n = 0 ∨ n = 1 ∨ n = 4 ∨ n = 5 ∨ n = 6 ∨ n = 7 ∨ n = 8 ∨ n = 280 ∨ n = 290 ∨ n = 320 ∨ n = 330 ∨ n = 360 ∨ n = 361 := by omega
    clear h hn hT
    rcases h2 with rfl | rfl | rfl | rfl | rfl | rfl | rfl | rfl | rfl | rfl | rfl | rfl | rfl
    all_goals (
      go_enter Tryd.func42, Tryd.ntmps42
      go_wp2
      go_ret
      exact ⟨rfl, Below.refl _ _⟩)
theorem ref_other (n : Int) (hn : -9223372036854775808 ≤ n ∧ n ≤ 9223372036854775807) (h : n < 0 ∨ 8 < n) (h2 : n ≠ 280 ∧ n ≠ 290 ∧ n ≠ 360 ∧ n ≠ 361 ∧ n ≠ 320 ∧ n ≠ 330) (w : World) (hT : Tab w) : Calls Tryd.prog 16 #[.int .i64 n] w fun e w' => e = .returned (.string (errT n)) ∧ Below w.heap.size w w' := by
  rw [errT_other n (by omega)]
  have c := fun w' hT => itoa_any n hn w' hT
  have hs := numT_len n hn
  obtain ⟨T, hTe⟩ : ∃ T, T = numT n := ⟨_, rfl⟩
  rw [← hTe]
  simp only [← hTe] at c hs
  obtain ⟨h280, h290, h360, h361, h320, h330⟩ := h2
  have q320 : (n == 320) = false := by simpa using h320
  have q330 : (n == 330) = false := by simpa using h330
  clear hTe
  replace c := Lib.hid c; replace hT := Lib.hid hT
  rcases h with h | h
  · have hlt : ¬ 0 ≤ n := by omega
    clear hn h
    go_enter Tryd.func16, Tryd.ntmps16
    go_wp2_with (go_at_call 40; (with_reducible refine (c.out _ (hT.out.keep (by go_grown))).mono ?_); rintro e w1 ⟨rfl, b1⟩; replace b1 := Lib.hid b1)
    go_ret
    exact ⟨rfl, belowCont (by go_grown) b1.out⟩
  · have hlt : 0 ≤ n := by omega
    have hlt2 : ¬ n < 9 := by omega
    clear hn h
    go_enter Tryd.func16, Tryd.ntmps16
    go_wp2_with (go_at_call 40; (with_reducible refine (c.out _ (hT.out.keep (by go_grown))).mono ?_); rintro e w1 ⟨rfl, b1⟩; replace b1 := Lib.hid b1)
    go_ret
    exact ⟨rfl, belowCont (by go_grown) b1.out⟩
theorem errT_2 : errT 2 = ⟨#[101, 114, 114, 111, 114, 32, 50]⟩ := by decide +kernel
theorem errT_3 : errT 3 = ⟨#[101, 114, 114, 111, 114, 32, 51]⟩ := by decide +kernel
set_option maxHeartbeats 4000000 in
theorem ref_any (n : Int) (hn : -9223372036854775808 ≤ n ∧ n ≤ 9223372036854775807) (w : World) (hT : Tab w) : Calls Tryd.prog 16 #[.int .i64 n] w fun e w' => e = .returned (.string (errT n)) ∧ Below w.heap.size w w' := by
  by_cases h : (n < 0 ∨ 8 < n) ∧ (n ≠ 280 ∧ n ≠ 290 ∧ n ≠ 360 ∧ n ≠ 361 ∧ n ≠ 320 ∧ n ≠ 330)
  · exact ref_other n hn h.1 h.2 w hT
  · have h2 : n = 2 ∨ n = 3 ∨ n = 0 ∨ n = 1 ∨ n = 4 ∨ n = 5 ∨ n = 6 ∨ n = 7 ∨ n = 8 ∨ n = 280 ∨ n = 290 ∨ n = 320 ∨ n = 330 ∨ n = 360 ∨ n = 361 := by omega
    clear h hn hT
    rcases h2 with rfl | rfl | rfl | rfl | rfl | rfl | rfl | rfl | rfl | rfl | rfl | rfl | rfl | rfl | rfl
    · rw [errT_2]
      go_enter Tryd.func16, Tryd.ntmps16
      go_wp2
      go_ret
      exact ⟨rfl, by go_grown⟩
    · rw [errT_3]
      go_enter Tryd.func16, Tryd.ntmps16
      go_wp2
      go_ret
      exact ⟨rfl, by go_grown⟩
    all_goals (
      go_enter Tryd.func16, Tryd.ntmps16
      go_wp2
      go_ret
      exact ⟨rfl, by go_grown⟩)
theorem reply_full (w : World) (hT : Tab w) : Calls Tryd.prog 18 #[.agg #[.int .i64 5, .int .u64 0, .slice none 0 0, .slice none 0 0, .slice none 0 0]] w fun e w' => e = .returned (.string ⟨#[102, 117, 108, 108]⟩) ∧ Below w.heap.size w w' := by
  have c : ∀ w', Tab w' → Calls Tryd.prog 42 #[.int .i64 5] w' fun e w2 => e = .returned (.string ⟨#[102, 117, 108, 108]⟩) ∧ Below w'.heap.size w' w2 := fun w' h => errno_any 5 (by decide) w' h
  replace c := Lib.hid c; replace hT := Lib.hid hT
  go_enter Tryd.func18, Tryd.ntmps18
  go_wp2_with (go_at_call 42; (with_reducible refine (c.out _ (hT.out.keep (by go_grown))).mono ?_); rintro e w1 ⟨rfl, b1⟩; replace b1 := Lib.hid b1)
  go_ret
  exact ⟨rfl, belowCont (by go_grown) b1.out⟩
theorem numT_5 : numT 5 = ⟨#[53]⟩ := by decide +kernel
theorem awake_any (w : World) (hT : Tab w) : Calls Tryd.prog 17 #[] w fun e w' => e = .returned (.bool true) ∧ Below w.heap.size w w' := by
  have c : ∀ w', Tab w' → Calls Tryd.prog 41 #[.int .i64 5] w' fun e w2 => e = .returned (.string ⟨#[53]⟩) ∧ Below w'.heap.size w' w2 := fun w' h => by
    have := num_any 5 (by decide) w' h; rw [numT_5] at this; exact this
  replace c := Lib.hid c; replace hT := Lib.hid hT
  have hbb := Lib.hid (Below.refl w.heap.size w)
  go_enter Tryd.func17, Tryd.ntmps17
  go_wp2_with (first
    | (go_at_call 18; (with_reducible refine (reply_full _ (hT.out.keep hbb.out)).mono ?_); rintro e w1 ⟨rfl, b1⟩; replace hbb := Lib.hid (belowCont hbb.out b1); clear b1)
    | (go_at_call 41; (with_reducible refine (c.out _ (hT.out.keep hbb.out)).mono ?_); rintro e w1 ⟨rfl, b1⟩; replace hbb := Lib.hid (belowCont hbb.out b1); clear b1))
  go_ret
  exact ⟨rfl, hbb.out⟩

theorem gTabType : (Tryd.prog.globals[1]?).map (·.type) = some 152 := by kernel_rfl
theorem cellsTab : Tryd.prog.cellsOf 152 = 20 := by kernel_rfl
theorem cellsOne : Tryd.prog.cellsOf 38 = 1 := by kernel_rfl
theorem tab_of {W : World} (h : laidMetH Tryd.prog [("math/bits.deBruijn32tab", Rows.laid_math_bits_deBruijn32tab), ("math/bits.deBruijn64tab", Rows.laid_math_bits_deBruijn64tab), ("internal/strconv.uint64pow10", Rows.laid_internal_strconv_uint64pow10)] W) : Tab W :=
  Lib.tabIs_of_head (rest := []) tabNamed gTabType Tryd.underlying152 Tryd.underlying38 cellsOne cellsTab (show laidMet Tryd.prog [("math/bits.deBruijn32tab", Rows.laid_math_bits_deBruijn32tab), ("math/bits.deBruijn64tab", Rows.laid_math_bits_deBruijn64tab), ("internal/strconv.uint64pow10", Rows.laid_internal_strconv_uint64pow10)] W from h).tail.tail
end Go.Proofs.YtgbkpkioijbgoaaDoor.show
