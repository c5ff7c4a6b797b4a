/- Texts and truths as bytes, and how a reader takes what was put. No condition. -/
import Derived.Test.YtcdgnhhciccoeaaCodePuts
namespace Go.Proofs.Ytcdgnhhciccoeaa.code
open Go.RowKit
attribute [local go_sem ↓] Go.wp_at_zero Go.wp_at_succ
attribute [local go_sem] str_size str_bl str_append
set_option linter.unusedVariables false
set_option maxRecDepth 100000

/-- a text's bytes, its length ahead -/
def textL (s : List UInt8) : List UInt8 := numL s.length ++ s
def boolL (b : Bool) : List UInt8 := [if b then 1 else 0]
theorem textL_len (s : List UInt8) (h : s.length ≤ 1000000000) : (textL s).length ≤ s.length + 10 := by
  have := numL_len64 s.length (by omega)
  simp [textL]; omega
theorem text_put (s : List UInt8) (h : s.length ≤ 1000000000) (w : World) : Calls Try.prog 36 #[.string (str s)] w fun e w' => e = .returned (.string (str (textL s))) ∧ Below w.heap.size w w' := by
  have := text_any (str s) (by rw [str_size]; omega) w
  rwa [str_size] at this
theorem rtext_put (l : List UInt8) (hl : l.length ≤ 1000000000) (w : World) :
    Calls Try.prog 20 #[.string (str l)] w fun e w' => e = .returned (.string (str (textL l))) ∧ Below w.heap.size w w' := by
  have hc := fun w' => refNum_any l.length (by omega) w'
  have hw : IntKind.u64.wrap (l.length : Int) = l.length := IntWalk.u64_in _ (by omega)
  have hroom : ¬ 9223372036854775807 < (numL l.length).length + l.length := by have := numL_len64 l.length (by omega); omega
  have e : str (numL l.length) ++ str l = str (textL l) := str_append _ _
  replace hl := Lib.hid hl; replace hc := Lib.hid hc; replace e := Lib.hid e
  go_enter Try.func20, Try.ntmps20
  go_wp2_with (go_at_call 19; (with_reducible refine (hc.out _).mono ?_); rintro e w1 ⟨rfl, hb⟩)
  go_ret
  exact ⟨by rw [← e.out]; rfl, hb⟩
theorem num_read {w : World} {g : Nat} {r : List UInt8} (n most : Nat) (hm : n ≤ most) (hmm : most < 18446744073709551616) (h : RdAt w g (numL n ++ r) 0) :
    Calls Try.prog 24 #[.pointer (some ⟨g, 0, none⟩), .int .u64 (most : Int)] w fun e w' => e = .returned (.int .u64 (n : Int)) ∧ RdAt w' g r 0 ∧ Keeps [g] w w' := by
  have := takeNum_any h most hmm
  rwa [takeNum_numL n most r (by omega) hm] at this
theorem text_read {w : World} {g : Nat} {r : List UInt8} (s : List UInt8) (most : Int) (hs : s.length ≤ 65536) (hm : (s.length : Int) ≤ most) (hmm : most ≤ 9223372036854775807) (h : RdAt w g (textL s ++ r) 0) :
    Calls Try.prog 25 #[.pointer (some ⟨g, 0, none⟩), .int .i64 most] w fun e w' => e = .returned (.string (str s)) ∧ RdAt w' g r 0 ∧ Keeps [g] w w' := by
  unfold textL at h
  rw [List.append_assoc] at h
  have := takeText_any h most ⟨by omega, hmm⟩
  rwa [takeText_put s r most hs hm] at this
theorem end_read {w : World} {g : Nat} (h : RdAt w g [] 0) : Calls Try.prog 28 #[.pointer (some ⟨g, 0, none⟩)] w fun e w' => e = .returned (.int .i64 0) ∧ Keeps [g] w w' := by
  have := end_any h
  simpa using this
end Go.Proofs.Ytcdgnhhciccoeaa.code
