/- Values as parts of keys: value.Parted. No condition. -/
import Derived.Test.YtmeaidkbkelclaaDoorVOrder3
import Derived.Laws.Rows
import Derived.Deep.DeepCutAuto
namespace Go.Proofs.YtmeaidkbkelclaaDoor.vorder
open Go.RowKit
open Go.Proofs.YtmeaidkbkelclaaDoor.order (numP textP beL PAt pnum_any pint_any ptext_any perr_any)
attribute [local go_sem ↓] Go.wp_at_zero Go.wp_at_succ
attribute [local go_sem] str_bl str_size
set_option linter.unusedVariables false
set_option maxRecDepth 100000

theorem value3 : (Tryd.prog.info? 37).map (·.size) = some 3 := by kernel_rfl
theorem row3 {W : World} {b : Nat} {x y z : Value} (h : W.heap[b]? = some (.cells #[x, y, z] 37 (0, 0))) : W.cell? ⟨b, 0, none⟩ = some x ∧ W.cell? ⟨b, 1, none⟩ = some y ∧ W.cell? ⟨b, 2, none⟩ = some z ∧ W.frozen? ⟨b, 0, none⟩ = false ∧ W.frozen? ⟨b, 1, none⟩ = false ∧ W.frozen? ⟨b, 2, none⟩ = false :=
  ⟨cell_of_row _ _ 0 _ _ _ h, cell_of_row _ _ 1 _ _ _ h, cell_of_row _ _ 2 _ _ _ h, by simp [World.frozen?, h], by simp [World.frozen?, h], by simp [World.frozen?, h]⟩
theorem put3 {W : World} {g : Nat} {x y z : Value} (h : W.heap[g]? = some (.cells #[x, y, z] 37 (0, 0))) (a b c : Value) : (((W.setCell ⟨g, 0, none⟩ a).setCell ⟨g, 1, none⟩ b).setCell ⟨g, 2, none⟩ c).heap[g]? = some (.cells #[a, b, c] 37 (0, 0)) := by
  simp [World.setCell, Array.getElem?_modify, h]
theorem put3_1 {W : World} {g : Nat} {x y z : Value} (h : W.heap[g]? = some (.cells #[x, y, z] 37 (0, 0))) (b : Value) : (W.setCell ⟨g, 1, none⟩ b).heap[g]? = some (.cells #[x, b, z] 37 (0, 0)) := by
  simp [World.setCell, Array.getElem?_modify, h]
theorem put3_2 {W : World} {g : Nat} {x y z : Value} (h : W.heap[g]? = some (.cells #[x, y, z] 37 (0, 0))) (b : Value) : (W.setCell ⟨g, 2, none⟩ b).heap[g]? = some (.cells #[x, y, b] 37 (0, 0)) := by
  simp [World.setCell, Array.getElem?_modify, h]
/-- what a call holds: two boxes, parts -/
structure PS (w : World) (p g b0 b1 : Nat) (l : List UInt8) (x y z x' y' z' : Value) (W : World) : Prop where
  h0 : W.heap[b0]? = some (.cells #[x, y, z] 37 (0, 0))
  h1 : W.heap[b1]? = some (.cells #[x', y', z'] 37 (0, 0))
  pt : PAt W p g l 0
  ne : b0 ≠ b1 ∧ b0 ≠ g ∧ b1 ≠ g ∧ b0 ≠ p ∧ b1 ≠ p
  le : w.heap.size ≤ b0 ∧ w.heap.size ≤ b1
  kp : Keeps [g] w W
theorem PS.below {w W W' : World} {p g b0 b1 : Nat} {l : List UInt8} {x y z x' y' z' : Value} (h : PS w p g b0 b1 l x y z x' y' z' W) (k : Below W.heap.size W W') : PS w p g b0 b1 l x y z x' y' z' W' :=
  ⟨(k.block _ (block_lt h.h0)).trans h.h0, (k.block _ (block_lt h.h1)).trans h.h1, h.pt.below k, h.ne, h.le, h.kp.trans (Keeps.ofBelow k _)⟩
theorem PS.take {w W W' : World} {p g b0 b1 : Nat} {l l' : List UInt8} {x y z x' y' z' : Value} (h : PS w p g b0 b1 l x y z x' y' z' W) (k : Keeps [g] W W') (ht : PAt W' p g l' 0) : PS w p g b0 b1 l' x y z x' y' z' W' :=
  ⟨(k.block _ (block_lt h.h0) (by simpa using h.ne.2.1)).trans h.h0, (k.block _ (block_lt h.h1) (by simpa using h.ne.2.2.1)).trans h.h1, ht, h.ne, h.le, h.kp.trans k⟩
theorem PS.start {w w2 : World} {p g : Nat} {l l2 : List UInt8} {z x : Value} (cs cs' : Value × Value × Value) (h : PAt w p g l 0) (k : Keeps [g] (w.alloc (.cells #[cs.1, cs.2.1, cs.2.2] 37)) w2) (h2 : PAt w2 p g l2 0) :
    PS w p g w.heap.size w2.heap.size l2 cs.1 cs.2.1 cs.2.2 cs'.1 cs'.2.1 cs'.2.2 (w2.alloc (.cells #[cs'.1, cs'.2.1, cs'.2.2] 37)) := by
  have hs := k.size
  have e : (w.alloc (.cells #[cs.1, cs.2.1, cs.2.2] 37)).heap.size = w.heap.size + 1 := by simp
  have hg := h.lt.2
  have hp := h.lt.1
  have hx : Below w2.heap.size w2 (w2.alloc (.cells #[cs'.1, cs'.2.1, cs'.2.2] 37)) := (Below.refl _ _).alloc (Nat.le_refl _) _
  have h0 : w2.heap[w.heap.size]? = some (.cells #[cs.1, cs.2.1, cs.2.2] 37 (0, 0)) := (k.block _ (by omega) (by simp; omega)).trans (heap_alloc_new _ _)
  have kk : Keeps [g] w (w.alloc (.cells #[cs.1, cs.2.1, cs.2.2] 37)) := Keeps.ofBelow ((Below.refl _ _).alloc (Nat.le_refl _) _) _
  exact ⟨(hx.block _ (block_lt h0)).trans h0, heap_alloc_new _ _, h2.below hx, ⟨by omega, by omega, by omega, by omega, by omega⟩, ⟨Nat.le_refl _, by omega⟩, (kk.trans k).trans (Keeps.ofBelow hx _)⟩
theorem PS.set1 {w W : World} {p g b0 b1 : Nat} {l : List UInt8} {x y z x' y' z' : Value} (h : PS w p g b0 b1 l x y z x' y' z' W) (v : Value) : PS w p g b0 b1 l x y z x' v z' (W.setCell ⟨b1, 1, none⟩ v) := by
  have k : Keeps [b1] W (W.setCell ⟨b1, 1, none⟩ v) := (Keeps.refl _ _).setCell (Or.inl (by simp)) _
  exact ⟨(k.block _ (block_lt h.h0) (by simpa using h.ne.1)).trans h.h0, put3_1 h.h1 v, h.pt.keep k (by simpa using Ne.symm h.ne.2.2.2.2) (by simpa using Ne.symm h.ne.2.2.1), h.ne, h.le, h.kp.setCell (Or.inr h.le.2) _⟩
theorem PS.set2 {w W : World} {p g b0 b1 : Nat} {l : List UInt8} {x y z x' y' z' : Value} (h : PS w p g b0 b1 l x y z x' y' z' W) (v : Value) : PS w p g b0 b1 l x y z x' y' v (W.setCell ⟨b1, 2, none⟩ v) := by
  have k : Keeps [b1] W (W.setCell ⟨b1, 2, none⟩ v) := (Keeps.refl _ _).setCell (Or.inl (by simp)) _
  exact ⟨(k.block _ (block_lt h.h0) (by simpa using h.ne.1)).trans h.h0, put3_2 h.h1 v, h.pt.keep k (by simpa using Ne.symm h.ne.2.2.2.2) (by simpa using Ne.symm h.ne.2.2.1), h.ne, h.le, h.kp.setCell (Or.inr h.le.2) _⟩
theorem PS.done {w W : World} {p g b0 b1 : Nat} {l : List UInt8} {x y z x' y' z' : Value} (h : PS w p g b0 b1 l x y z x' y' z' W) (a b c : Value) : (((W.setCell ⟨b0, 0, none⟩ a).setCell ⟨b0, 1, none⟩ b).setCell ⟨b0, 2, none⟩ c).heap[b0]? = some (.cells #[a, b, c] 37 (0, 0)) ∧ PAt (((W.setCell ⟨b0, 0, none⟩ a).setCell ⟨b0, 1, none⟩ b).setCell ⟨b0, 2, none⟩ c) p g l 0 ∧ Keeps [g] w (((W.setCell ⟨b0, 0, none⟩ a).setCell ⟨b0, 1, none⟩ b).setCell ⟨b0, 2, none⟩ c) := by
  have k : Keeps [b0] W (((W.setCell ⟨b0, 0, none⟩ a).setCell ⟨b0, 1, none⟩ b).setCell ⟨b0, 2, none⟩ c) := (((Keeps.refl [b0] W).setCell (p := ⟨b0, 0, none⟩) (Or.inl (by simp)) _).setCell (p := ⟨b0, 1, none⟩) (Or.inl (by simp)) _).setCell (p := ⟨b0, 2, none⟩) (Or.inl (by simp)) _
  exact ⟨put3 h.h0 a b c, h.pt.keep k (by simpa using Ne.symm h.ne.2.2.2.1) (by simpa using Ne.symm h.ne.2.1), ((h.kp.setCell (p := ⟨b0, 0, none⟩) (Or.inr h.le.1) _).setCell (p := ⟨b0, 1, none⟩) (Or.inr h.le.1) _).setCell (p := ⟨b0, 2, none⟩) (Or.inr h.le.1) _⟩
set_option maxHeartbeats 1000000 in
theorem parted_int {w : World} {p g : Nat} (kk : Nat) (hk : kk < 3) (n : Int) (m : Nat) (hm : m < 18446744073709551616) (hv : wrap64 (bits .xor .u64 (m : Int) 9223372036854775808) = n)
    (hmay : ∀ W, Calls Tryd.prog 31 #[.agg #[.int .i64 (kk : Int), .int .i64 n, .string ⟨#[]⟩]] W fun e w' => e = .returned (.bool true) ∧ Below W.heap.size W w') {r : List UInt8} (h : PAt w p g (partV kk m [] ++ r) 0) :
    Calls Tryd.prog 34 #[.pointer (some ⟨p, 0, none⟩)] w fun e w' => e = .returned (.agg #[.int .i64 (kk : Int), .int .i64 n, .string ⟨#[]⟩]) ∧ PAt w' p g r 0 ∧ Keeps [g] w w' := by
  have hpv : partV kk m [] ++ r = numP kk ++ (32 :: (beL 8 m ++ r)) := by unfold partV; rw [if_neg (by omega)]; simp
  rw [hpv] at h
  have c1 : ∀ W, PAt W p g (numP kk ++ (32 :: (beL 8 m ++ r))) 0 → Calls Tryd.prog 81 #[.pointer (some ⟨p, 0, none⟩)] W fun e' w' => e' = .returned (.int .u64 (kk : Int)) ∧ PAt w' p g (32 :: (beL 8 m ++ r)) 0 ∧ Keeps [g] W w' := fun W hW => pnum_any kk (by omega) hW
  have c2 : ∀ W, PAt W p g (32 :: (beL 8 m ++ r)) 0 → Calls Tryd.prog 83 #[.pointer (some ⟨p, 0, none⟩)] W fun e' w' => e' = .returned (.int .i64 n) ∧ PAt w' p g r 0 ∧ Keeps [g] W w' := fun W hW => pint_any hm hv hW
  have k3 : ((kk : Int) == 3) = false := by simp; omega
  have k0 : (0 : Int) ≤ (kk : Int) := by omega
  have kl : (kk : Int) < 3 := by omega
  have hw : wrap64 (kk : Int) = kk := by unfold wrap64; omega
  have hx := (Below.refl w.heap.size w).alloc (Nat.le_refl _) (.cells #[.int .i64 0, .int .i64 0, .string ⟨#[]⟩] 37)
  have hp1 := h.below hx
  have hst := fun w2 k h2 => PS.start (w2 := w2) (l2 := 32 :: (beL 8 m ++ r)) (z := undef) (x := undef) (.int .i64 0, .int .i64 0, .string ⟨#[]⟩) (.int .i64 (kk : Int), .int .i64 0, .string ⟨#[]⟩) h k h2
  clear hpv h hm hv hk hx
  replace c1 := Lib.hid c1; replace c2 := Lib.hid c2; replace hmay := Lib.hid hmay; replace hp1 := Lib.hid hp1; replace hst := Lib.hid hst
  go_enter Tryd.func34, Tryd.ntmps34
  go_wp2_with (first
    | (go_at_call 81; (with_reducible refine (c1.out _ hp1.out).mono ?_); rintro e w2 ⟨rfl, h2, k2⟩; have hs := hst.out _ k2 h2; clear h2 k2 hst hp1 c1; replace hs := Lib.hid hs)
    | (go_at_call 83; (with_reducible refine (c2.out _ hs.out.pt).mono ?_); rintro e w3 ⟨rfl, h3, k3⟩; replace hs := hs.out.take k3 h3; clear h3 k3 c2; obtain ⟨y0, y1, y2, f0, f1, f2⟩ := row3 hs.h1; replace hs := Lib.hid (hs.set1 (.int .i64 n)))
    | (go_at_call 84; (with_reducible refine (perr_any hs.out.pt).mono ?_); rintro e w4 ⟨rfl, b4⟩; clear y0 y1 y2 f0 f1 f2; replace hs := hs.out.below b4; clear b4; obtain ⟨y0, y1, y2, f0, f1, f2⟩ := row3 hs.h1; replace hs := Lib.hid hs)
    | (go_at_call 31; (with_reducible refine (hmay.out _).mono ?_); rintro e w5 ⟨rfl, b5⟩; clear y0 y1 y2 f0 f1 f2 hmay; replace hs := hs.out.below b5; clear b5; obtain ⟨y0, y1, y2, f0, f1, f2⟩ := row3 hs.h1; obtain ⟨x0, x1, x2, e0, e1, e2⟩ := row3 hs.h0; replace hs := Lib.hid hs))
  obtain ⟨q1, q2, q3⟩ := hs.out.done (.int .i64 (kk : Int)) (.int .i64 n) (.string ⟨#[]⟩)
  exact bodyPost_ret (v := .agg #[.int .i64 (kk : Int), .int .i64 n, .string ⟨#[]⟩]) (results_cell_row rfl _ _ w.heap.size 37 #[.int .i64 (kk : Int), .int .i64 n, .string ⟨#[]⟩] (0, 0) _ rfl q1 Tryd.underlying37 rfl value3) rfl ⟨rfl, q2, q3⟩
set_option maxHeartbeats 1000000 in
theorem parted_txt {w : World} {p g : Nat} (t : List UInt8) (ht : t.length ≤ 1000)
    (hmay : ∀ W, Calls Tryd.prog 31 #[.agg #[.int .i64 3, .int .i64 0, .string (str t)]] W fun e w' => e = .returned (.bool true) ∧ Below W.heap.size W w') {r : List UInt8} (h : PAt w p g (partV 3 0 t ++ r) 0) :
    Calls Tryd.prog 34 #[.pointer (some ⟨p, 0, none⟩)] w fun e w' => e = .returned (.agg #[.int .i64 3, .int .i64 0, .string (str t)]) ∧ PAt w' p g r 0 ∧ Keeps [g] w w' := by
  have hpv : partV 3 0 t ++ r = numP 3 ++ (textP t ++ r) := by unfold partV; rw [if_pos rfl]; simp
  rw [hpv] at h
  have c1 : ∀ W, PAt W p g (numP 3 ++ (textP t ++ r)) 0 → Calls Tryd.prog 81 #[.pointer (some ⟨p, 0, none⟩)] W fun e' w' => e' = .returned (.int .u64 3) ∧ PAt w' p g (textP t ++ r) 0 ∧ Keeps [g] W w' := fun W hW => pnum_any 3 (by omega) hW
  have c2 : ∀ W, PAt W p g (textP t ++ r) 0 → Calls Tryd.prog 82 #[.pointer (some ⟨p, 0, none⟩)] W fun e' w' => e' = .returned (.string (str t)) ∧ PAt w' p g r 0 ∧ Keeps [g] W w' := fun W hW => ptext_any t (by omega) hW
  have hx := (Below.refl w.heap.size w).alloc (Nat.le_refl _) (.cells #[.int .i64 0, .int .i64 0, .string ⟨#[]⟩] 37)
  have hp1 := h.below hx
  have hst := fun w2 k h2 => PS.start (w2 := w2) (l2 := textP t ++ r) (z := undef) (x := undef) (.int .i64 0, .int .i64 0, .string ⟨#[]⟩) (.int .i64 3, .int .i64 0, .string ⟨#[]⟩) h k h2
  generalize str t = T at *
  clear hpv h hx ht
  replace c1 := Lib.hid c1; replace c2 := Lib.hid c2; replace hmay := Lib.hid hmay; replace hp1 := Lib.hid hp1; replace hst := Lib.hid hst
  go_enter Tryd.func34, Tryd.ntmps34
  go_wp2_with (first
    | (go_at_call 81; (with_reducible refine (c1.out _ hp1.out).mono ?_); rintro e w2 ⟨rfl, h2, k2⟩; have hs := hst.out _ k2 h2; clear h2 k2 hst hp1 c1; replace hs := Lib.hid hs)
    | (go_at_call 82; (with_reducible refine (c2.out _ hs.out.pt).mono ?_); rintro e w3 ⟨rfl, h3, k3⟩; replace hs := hs.out.take k3 h3; clear h3 k3 c2; obtain ⟨y0, y1, y2, f0, f1, f2⟩ := row3 hs.h1; replace hs := Lib.hid (hs.set2 (.string T)))
    | (go_at_call 84; (with_reducible refine (perr_any hs.out.pt).mono ?_); rintro e w4 ⟨rfl, b4⟩; clear y0 y1 y2 f0 f1 f2; replace hs := hs.out.below b4; clear b4; obtain ⟨y0, y1, y2, f0, f1, f2⟩ := row3 hs.h1; replace hs := Lib.hid hs)
    | (go_at_call 31; (with_reducible refine (hmay.out _).mono ?_); rintro e w5 ⟨rfl, b5⟩; clear y0 y1 y2 f0 f1 f2 hmay; replace hs := hs.out.below b5; clear b5; obtain ⟨y0, y1, y2, f0, f1, f2⟩ := row3 hs.h1; obtain ⟨x0, x1, x2, e0, e1, e2⟩ := row3 hs.h0; replace hs := Lib.hid hs))
  obtain ⟨q1, q2, q3⟩ := hs.out.done (.int .i64 3) (.int .i64 0) (.string T)
  exact bodyPost_ret (v := .agg #[.int .i64 3, .int .i64 0, .string T]) (results_cell_row rfl _ _ w.heap.size 37 #[.int .i64 3, .int .i64 0, .string T] (0, 0) _ rfl q1 Tryd.underlying37 rfl value3) rfl ⟨rfl, q2, q3⟩
end Go.Proofs.YtmeaidkbkelclaaDoor.vorder
