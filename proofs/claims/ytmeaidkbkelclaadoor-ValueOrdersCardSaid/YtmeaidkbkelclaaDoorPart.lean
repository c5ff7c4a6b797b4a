/- Parts of keys are read as they were put (package order): what a reader of parts takes. No condition. -/
import Derived.Test.YtmeaidkbkelclaaDoorRead
import Derived.Test.YtmeaidkbkelclaaDoorOrderNone
namespace Go.Proofs.YtmeaidkbkelclaaDoor.order
open Go.RowKit
attribute [local go_sem ↓] Go.wp_at_zero Go.wp_at_succ
attribute [local go_sem] str_bl str_size str_get0
set_option linter.unusedVariables false
set_option maxRecDepth 100000

/-- parts in block p, over the reader in block g -/
def PAt (w : World) (p g : Nat) (l : List UInt8) (e : Int) : Prop := w.heap[p]? = some (.cells #[.pointer (some ⟨g, 0, none⟩)] 113 (0, 0)) ∧ code.RdAt w g l e ∧ p ≠ g
section
variable {w w' : World} {p g : Nat} {l l' : List UInt8} {e e' : Int}
theorem PAt.turn (h : PAt w p g l e) (k : Keeps [g] w w') (hr : code.RdAt w' g l' e') : PAt w' p g l' e' := ⟨(k.block _ (block_lt h.1) (by simpa using h.2.2)).trans h.1, hr, h.2.2⟩
theorem PAt.below (h : PAt w p g l e) (k : Below w.heap.size w w') : PAt w' p g l e := ⟨(k.block _ (block_lt h.1)).trans h.1, h.2.1.below k, h.2.2⟩
theorem PAt.keep (h : PAt w p g l e) {X : List Nat} (k : Keeps X w w') (hp : p ∉ X) (hg : g ∉ X) : PAt w' p g l e := ⟨(k.block _ (block_lt h.1) hp).trans h.1, h.2.1.keep k hg, h.2.2⟩
theorem PAt.cell (h : PAt w p g l e) : w.cell? ⟨p, 0, none⟩ = some (.pointer (some ⟨g, 0, none⟩)) := cell_of_row _ _ 0 _ _ _ h.1
theorem PAt.rd (h : PAt w p g l e) : code.RdAt w g l e := h.2.1
theorem PAt.lt (h : PAt w p g l e) : p < w.heap.size ∧ g < w.heap.size := ⟨block_lt h.1, block_lt h.2.1⟩
end
theorem oread_any (s : ByteArray) (w : World) : Calls Tryd.prog 33 #[.string s] w fun e w' => ∃ p g, e = .returned (.pointer (some ⟨p, 0, none⟩)) ∧ PAt w' p g s.data.toList 0 ∧ w.heap.size ≤ p ∧ w.heap.size ≤ g ∧ Below w.heap.size w w' := by
  have c := fun W => code.read_any s W
  go_enter Tryd.func33, Tryd.ntmps33
  go_wp2_with (go_at_call 43; (with_reducible refine (c _).mono ?_); rintro e w1 ⟨rfl, h1, b1⟩)
  go_ret
  have hx : Below w1.heap.size w1 (w1.alloc (.cells #[.pointer (some ⟨w.heap.size, 0, none⟩)] 113)) := (Below.refl _ w1).alloc (Nat.le_refl _) _
  have hs := block_lt h1
  exact ⟨w1.heap.size, w.heap.size, rfl, ⟨heap_alloc_new _ _, h1.below hx, by omega⟩, b1.size, Nat.le_refl _, belowCont b1 hx⟩
theorem pbytes_any {w : World} {p g : Nat} {l : List UInt8} {e : Int} (h : PAt w p g l e) : Calls Tryd.prog 88 #[.pointer (some ⟨p, 0, none⟩)] w fun e' w' => e' = .returned (.pointer (some ⟨g, 0, none⟩)) ∧ Below w.heap.size w w' := by
  have c0 := h.cell
  clear h
  go_enter Tryd.func88, Tryd.ntmps88
  go_wp2
  go_ret
  exact ⟨rfl, by go_grown⟩
theorem perr_any {w : World} {p g : Nat} {l : List UInt8} {e : Int} (h : PAt w p g l e) : Calls Tryd.prog 84 #[.pointer (some ⟨p, 0, none⟩)] w fun e' w' => e' = .returned (.int .i64 e) ∧ Below w.heap.size w w' := by
  have c := pbytes_any h
  have c2 := fun W (b : Below w.heap.size w W) => code.err_any (h.below b).rd
  clear h
  replace c2 := Lib.hid c2
  go_enter Tryd.func84, Tryd.ntmps84
  go_wp2_with (first | (go_at_call 88; (with_reducible refine c.mono ?_); rintro e w1 ⟨rfl, b1⟩) | (go_at_call 96; (with_reducible refine (c2.out _ b1).mono ?_); rintro e w2 ⟨rfl, b2⟩))
  go_ret
  exact ⟨rfl, belowCont b1 b2⟩
theorem pend_any {w : World} {p g : Nat} (h : PAt w p g [] 0) : Calls Tryd.prog 36 #[.pointer (some ⟨p, 0, none⟩)] w fun e' w' => e' = .returned (.int .i64 0) ∧ Keeps [g] w w' := by
  have c := pbytes_any h
  have c2 := fun W (b : Below w.heap.size w W) => code.end_read (h.below b).rd
  clear h
  replace c2 := Lib.hid c2
  go_enter Tryd.func36, Tryd.ntmps36
  go_wp2_with (first | (go_at_call 88; (with_reducible refine c.mono ?_); rintro e w1 ⟨rfl, b1⟩) | (go_at_call 48; (with_reducible refine (c2.out _ b1).mono ?_); rintro e w2 ⟨rfl, b2⟩))
  go_ret
  exact ⟨rfl, (Keeps.ofBelow b1 _).trans b2⟩
theorem ptake_any {w : World} {p g : Nat} {b : UInt8} {r : List UInt8} (h : PAt w p g (b :: r) 0) : Calls Tryd.prog 117 #[.pointer (some ⟨p, 0, none⟩)] w fun e' w' => e' = .returned (.tuple #[.int .u8 (b.toNat : Int), .bool true]) ∧ PAt w' p g r 0 ∧ Keeps [g] w w' := by
  have c := pbytes_any h
  have c2 : ∀ W, Below w.heap.size w W → Calls Tryd.prog 92 #[.pointer (some ⟨g, 0, none⟩), .int .i64 1] W fun e w' => e = .returned (.string (str [b])) ∧ PAt w' p g r 0 ∧ Keeps [g] W w' := fun W b => (code.bytes_take (h.below b).rd 1 (by simp)).mono fun e w' ⟨h1, h2, h3⟩ => ⟨h1, (h.below b).turn h3 h2, h3⟩
  clear h
  replace c2 := Lib.hid c2
  go_enter Tryd.func117, Tryd.ntmps117
  go_wp2_with (first | (go_at_call 88; (with_reducible refine c.mono ?_); rintro e w1 ⟨rfl, b1⟩) | (go_at_call 92; (with_reducible refine (c2.out _ b1).mono ?_); rintro e w2 ⟨rfl, h2, k2⟩; replace h2 := Lib.hid h2))
  go_returns
  exact ⟨rfl, h2.out, (Keeps.ofBelow b1 _).trans k2⟩
theorem pkind_any {w : World} {p g : Nat} {b : UInt8} {r : List UInt8} (h : PAt w p g (b :: r) 0) (n : Int) (hn : (b.toNat : Int) = n) : Calls Tryd.prog 119 #[.pointer (some ⟨p, 0, none⟩), .int .u8 n] w fun e' w' => e' = .returned (.bool true) ∧ PAt w' p g r 0 ∧ Keeps [g] w w' := by
  have c := ptake_any h
  rw [hn] at c
  clear h hn
  go_enter Tryd.func119, Tryd.ntmps119
  go_wp2_with (go_at_call 117; (with_reducible refine c.mono ?_); rintro e w1 ⟨rfl, h1, k1⟩; replace h1 := Lib.hid h1; replace k1 := Lib.hid k1)
  go_ret
  exact ⟨rfl, h1.out, k1.out⟩
theorem takeBe_beL (m : Nat) (hm : m < 18446744073709551616) (r : List UInt8) : code.takeBe 8 (beL 8 m ++ r) = (m, r, 0) := by
  have e : beL 8 m = code.beL 8 m := rfl
  have h8 : (256 : Nat) ^ 8 = 18446744073709551616 := by decide
  unfold code.takeBe
  rw [e, if_pos (by rw [List.length_append, code.beL_length]; omega), List.take_left' (code.beL_length _ _), List.drop_left' (code.beL_length _ _), code.beNat_beL, h8, Nat.mod_eq_of_lt hm]
theorem pint_any {w : World} {p g : Nat} {m : Nat} {v : Int} (hm : m < 18446744073709551616) (hv : wrap64 (bits .xor .u64 (m : Int) 9223372036854775808) = v) {r : List UInt8} (h : PAt w p g (32 :: (beL 8 m ++ r)) 0) : Calls Tryd.prog 83 #[.pointer (some ⟨p, 0, none⟩)] w fun e' w' => e' = .returned (.int .i64 v) ∧ PAt w' p g r 0 ∧ Keeps [g] w w' := by
  have c := pkind_any h 32 rfl
  have c2 : ∀ W, PAt W p g (beL 8 m ++ r) 0 → Calls Tryd.prog 94 #[.pointer (some ⟨g, 0, none⟩)] W fun e w' => e = .returned (.int .u64 (m : Int)) ∧ PAt w' p g r 0 ∧ Keeps [g] W w' := fun W hW => (code.big_take hW.rd).mono fun e w' ⟨h1, h2, h3⟩ => by
    rw [takeBe_beL m hm] at h1 h2
    exact ⟨h1, hW.turn h3 h2, h3⟩
  clear h hm
  replace c2 := Lib.hid c2
  replace hv := Lib.hid hv
  go_enter Tryd.func83, Tryd.ntmps83
  go_wp2_with (first
    | (go_at_call 119; (with_reducible refine c.mono ?_); rintro e w1 ⟨rfl, h1, k1⟩; replace h1 := Lib.hid h1; replace k1 := Lib.hid k1)
    | (go_at_call 88; (with_reducible refine (pbytes_any h1.out).mono ?_); rintro e w2 ⟨rfl, b2⟩; replace h1 := Lib.hid (h1.out.below b2); replace k1 := Lib.hid (k1.out.trans (Keeps.ofBelow b2 _)); clear b2)
    | (go_at_call 94; (with_reducible refine (c2.out _ h1.out).mono ?_); rintro e w3 ⟨rfl, h3, k3⟩; replace h3 := Lib.hid h3; replace k3 := Lib.hid (k1.out.trans k3); clear k1)
    | (go_at_call 84; (with_reducible refine (perr_any h3.out).mono ?_); rintro e w4 ⟨rfl, b4⟩; replace h3 := Lib.hid (h3.out.below b4); replace k3 := Lib.hid (k3.out.trans (Keeps.ofBelow b4 _)); clear b4))
  go_ret
  exact ⟨by rw [← hv.out]; rfl, h3.out, k3.out⟩
end Go.Proofs.YtmeaidkbkelclaaDoor.order
