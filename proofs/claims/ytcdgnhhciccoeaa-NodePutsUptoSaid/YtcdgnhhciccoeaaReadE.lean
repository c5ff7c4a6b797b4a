/- Readers that may have met an error already: what each taking gives, and leaves. No condition but the reader. -/
import Derived.Test.YtcdgnhhciccoeaaRead
import Derived.Test.YtcdgnhhciccoeaaHp
namespace Go.Proofs.Ytcdgnhhciccoeaa.code
open Go.RowKit
attribute [local go_sem ↓] Go.wp_at_zero Go.wp_at_succ
attribute [local go_sem] str_size str_bl str_append
set_option linter.unusedVariables false
set_option maxRecDepth 100000

/-- a reader's box -/
def rdC (l : List UInt8) (e : Int) : Array Value := #[.string (str l), .int .i64 e]
theorem RdAt.row (w : World) (g : Nat) (l : List UInt8) (e : Int) : RdAt w g l e = (w.heap[g]? = some (.cells (rdC l e) 72 (0, 0))) := rfl
def numE (most : Nat) (l : List UInt8) (e : Int) : Nat × List UInt8 × Int := if e = 0 then takeNum most l else (0, l, e)
def textE (most : Int) (l : List UInt8) (e : Int) : List UInt8 × List UInt8 × Int := if e = 0 then takeText most l else ([], l, e)
def bytesE (n : Nat) (l : List UInt8) (e : Int) : List UInt8 × List UInt8 × Int := if e = 0 then (if n ≤ l.length then (l.take n, l.drop n, 0) else ([], [], 2)) else ([], l, e)
def failE (x : Int) (l : List UInt8) (e : Int) : List UInt8 × Int := if e = 0 then ([], x) else (l, e)
def endE (l : List UInt8) (e : Int) : Int := if e = 0 ∧ l ≠ [] then 3 else e
theorem num_step {w : World} {g : Nat} {l : List UInt8} {e : Int} (most : Nat) (hm : most < 18446744073709551616) (h : RdAt w g l e) :
    Calls Try.prog 24 #[.pointer (some ⟨g, 0, none⟩), .int .u64 (most : Int)] w fun e' w' => e' = .returned (.int .u64 ((numE most l e).1 : Int)) ∧ RdAt w' g (numE most l e).2.1 (numE most l e).2.2 ∧ Keeps [g] w w' := by
  unfold numE
  by_cases he : e = 0
  · subst he
    rw [if_pos rfl]
    exact takeNum_any h most hm
  · rw [if_neg he]
    exact (takeNum_bad h he _).mono fun e' w' ⟨h1, h2⟩ => ⟨h1, h.below h2, Keeps.ofBelow h2 _⟩
theorem numE_le (most : Nat) (l : List UInt8) (e : Int) : (numE most l e).1 ≤ most := by
  unfold numE
  by_cases he : e = 0
  · rw [if_pos he]
    rcases takeNum_le most l with h | h
    · exact h
    · rw [takeNum_none most l h]; omega
  · rw [if_neg he]; exact Nat.zero_le _
theorem numE_none (most : Nat) (l : List UInt8) (e : Int) (h : (numE most l e).2.2 ≠ 0) : (numE most l e).1 = 0 := by
  unfold numE at h ⊢
  by_cases he : e = 0
  · rw [if_pos he] at h ⊢; exact takeNum_none most l h
  · rw [if_neg he]
theorem numE_put (n most : Nat) (r : List UInt8) (hn : n < 18446744073709551616) (hm : n ≤ most) : numE most (numL n ++ r) 0 = (n, r, 0) := by
  unfold numE; rw [if_pos rfl]; exact takeNum_numL n most r hn hm
theorem numE_over (n most : Nat) (r : List UInt8) (hn : n < 18446744073709551616) (hm : most < n) : (numE most (numL n ++ r) 0).2.2 ≠ 0 := by
  have h9 : (128 : Nat) ^ 9 = 9223372036854775808 := by decide
  have h := rdNum_numL 9 n 0 0 r (Nat.lt_of_lt_of_le hn (by decide)) (Or.inl rfl) (by omega) (fun _ => by rw [h9]; omega)
  unfold numE takeNum
  rw [if_pos rfl, h]
  dsimp only
  rw [if_pos (by simp; omega)]
  decide
theorem fail_step {w : World} {g : Nat} {l : List UInt8} {e : Int} (x : Int) (hx : x ≠ 0) (h : RdAt w g l e) :
    Calls Try.prog 26 #[.pointer (some ⟨g, 0, none⟩), .int .i64 x] w fun e' w' => e' = .returned (.tuple #[]) ∧ RdAt w' g (failE x l e).1 (failE x l e).2 ∧ Keeps [g] w w' := by
  unfold failE
  by_cases he : e = 0
  · subst he
    rw [if_pos rfl]
    exact fail_first h x hx
  · rw [if_neg he]
    exact (fail_same h x (Or.inr he)).mono fun e' w' ⟨h1, h2⟩ => ⟨h1, h.below h2, Keeps.ofBelow h2 _⟩
theorem err_step {w : World} {g : Nat} {l : List UInt8} {e : Int} (h : RdAt w g l e) :
    Calls Try.prog 27 #[.pointer (some ⟨g, 0, none⟩)] w fun e' w' => e' = .returned (.int .i64 e) ∧ RdAt w' g l e ∧ Keeps [g] w w' :=
  (err_any h).mono fun e' w' ⟨h1, h2⟩ => ⟨h1, h.below h2, Keeps.ofBelow h2 _⟩
theorem end_step {w : World} {g : Nat} {l : List UInt8} {e : Int} (h : RdAt w g l e) :
    Calls Try.prog 28 #[.pointer (some ⟨g, 0, none⟩)] w fun e' w' => e' = .returned (.int .i64 (endE l e)) ∧ Keeps [g] w w' := end_any h
theorem text_none {w : World} {g : Nat} {l : List UInt8} {e : Int} (h : RdAt w g l e) (he : e ≠ 0) (most : Nat) (h0 : 0 < most) (h1 : most < 65536) :
    Calls Try.prog 25 #[.pointer (some ⟨g, 0, none⟩), .int .i64 (most : Int)] w fun e w' => e = .returned (.string ⟨#[]⟩) ∧ Below w.heap.size w w' := by
  have hn := fun x => takeNum_bad h he x
  have hb : ∀ w', RdAt w' g l e → Calls Try.prog 23 #[.pointer (some ⟨g, 0, none⟩), .int .i64 0] w' fun e w2 => e = .returned (.string ⟨#[]⟩) ∧ Below w'.heap.size w' w2 := fun w' h' => bytes_bad h' he 0
  have e1 : ¬ (most : Int) < 0 := by omega
  have e2 : ¬ (65536 : Int) < (most : Int) := by omega
  have e3 : (0 : Int) < (most : Int) := by omega
  have e4 : (most : Int) < 65536 := by omega
  have e5 : IntKind.u64.wrap (most : Int) = (most : Int) := IntWalk.u64_in _ (by omega)
  replace h := Lib.hid h; replace hn := Lib.hid hn; replace hb := Lib.hid hb
  clear he h0 h1
  go_enter Try.func25, Try.ntmps25
  go_wp2_with (first | (go_at_call 24; (with_reducible refine (hn.out _).mono ?_); rintro e w1 ⟨rfl, b1⟩; have h2 := Lib.hid (h.out.below b1); replace b1 := Lib.hid b1) | (go_at_call 23; (with_reducible refine (hb.out _ h2.out).mono ?_); rintro e w2 ⟨rfl, b2⟩; replace b2 := Lib.hid b2))
  go_ret
  exact ⟨rfl, belowCont b1.out b2.out⟩
theorem text_step {w : World} {g : Nat} {l : List UInt8} {e : Int} (most : Nat) (h0 : 0 < most) (h1 : most < 65536) (h : RdAt w g l e) :
    Calls Try.prog 25 #[.pointer (some ⟨g, 0, none⟩), .int .i64 (most : Int)] w fun e' w' => e' = .returned (.string (str (textE most l e).1)) ∧ RdAt w' g (textE most l e).2.1 (textE most l e).2.2 ∧ Keeps [g] w w' := by
  unfold textE
  by_cases he : e = 0
  · subst he
    rw [if_pos rfl]
    exact takeText_any h most (by omega)
  · rw [if_neg he]
    exact (text_none h he most h0 h1).mono fun e' w' ⟨h1, h2⟩ => ⟨h1, h.below h2, Keeps.ofBelow h2 _⟩
theorem bytes_step {w : World} {g : Nat} {l : List UInt8} {e : Int} (n : Nat) (hn : n ≤ 9223372036854775807) (h : RdAt w g l e) :
    Calls Try.prog 23 #[.pointer (some ⟨g, 0, none⟩), .int .i64 (n : Int)] w fun e' w' => e' = .returned (.string (str (bytesE n l e).1)) ∧ RdAt w' g (bytesE n l e).2.1 (bytesE n l e).2.2 ∧ Keeps [g] w w' := by
  unfold bytesE
  by_cases he : e = 0
  · subst he
    rw [if_pos rfl]
    by_cases hl : n ≤ l.length
    · rw [if_pos hl]; exact bytes_take h n hl
    · rw [if_neg hl]; exact bytes_short h n (Or.inr (by omega))
  · rw [if_neg he]
    exact (bytes_bad h he _).mono fun e' w' ⟨h1, h2⟩ => ⟨h1, h.below h2, Keeps.ofBelow h2 _⟩
end Go.Proofs.Ytcdgnhhciccoeaa.code
