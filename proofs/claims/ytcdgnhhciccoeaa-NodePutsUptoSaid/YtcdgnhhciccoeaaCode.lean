/- Numbers and texts as bytes (package code): what Num, Text, Big, Small and Bool put, and what a reader takes. No condition. -/
import Derived.Test.YtcdgnhhciccoeaaBytes
namespace Go.Proofs.Ytcdgnhhciccoeaa.code
open Go.RowKit
attribute [local go_sem ↓] Go.wp_at_zero Go.wp_at_succ
attribute [local go_sem] str_bl str_size str_get0
set_option linter.unusedVariables false
set_option maxRecDepth 100000

/-- a number's bytes: seven bits each, the lowest first -/
def numL (n : Nat) : List UInt8 := if h : n < 128 then [UInt8.ofNat n] else UInt8.ofNat (n % 128 + 128) :: numL (n / 128)
theorem numL_small (n : Nat) (h : n < 128) : numL n = [UInt8.ofNat n] := by rw [numL, dif_pos h]
theorem numL_big (n : Nat) (h : ¬ n < 128) : numL n = UInt8.ofNat (n % 128 + 128) :: numL (n / 128) := by rw [numL, dif_neg h]
theorem or_128 (n : Nat) : bits .or .u8 ((n : Int) % 256) 128 = ((n % 128 + 128 : Nat) : Int) := by
  have e : ((n : Int) % 256) = ((n % 256 : Nat) : Int) := by omega
  rw [e]
  have := u8_or_nat (n % 256) 128 (by omega) (by omega)
  rw [show ((128 : Nat) : Int) = 128 from rfl] at this
  rw [this]
  congr 1
  have h2 : ∀ k : Fin 256, (k.val ||| 128) = k.val % 128 + 128 := by decide +kernel
  rw [h2 ⟨n % 256, by omega⟩]
  show n % 256 % 128 + 128 = n % 128 + 128
  omega

theorem numL_len : ∀ (m n : Nat), n < 128 ^ (m + 1) → (numL n).length ≤ m + 1
  | 0, n, h => by rw [numL_small n (by simpa using h)]; simp
  | m + 1, n, h => by
    by_cases hs : n < 128
    · rw [numL_small n hs]; simp
    · rw [numL_big n hs]
      have : n / 128 < 128 ^ (m + 1) := by rw [Nat.div_lt_iff_lt_mul (by decide), ← Nat.pow_succ]; exact h
      have := numL_len m (n / 128) this
      simp; omega
theorem numL_len64 (n : Nat) (h : n < 18446744073709551616) : (numL n).length ≤ 10 := numL_len 9 n (Nat.lt_of_lt_of_le h (by decide))

set_option maxRecDepth 100000 in
set_option maxHeartbeats 1000000 in
theorem num_any (n : Nat) (hn : n < 18446744073709551616) (w : World) :
    Calls Try.prog 35 #[.int .u64 (n : Int)] w fun e w' => e = .returned (.string (str (numL n))) ∧ Below w.heap.size w w' := by
  have hlen := numL_len64 n hn
  replace hn := Lib.hid hn
  replace hlen := Lib.hid hlen
  go_enter Try.func35, Try.ntmps35
  go_wp2
  go_loopw [0, 3] (fun v b wr => ∃ (k : Nat) (l : List UInt8), v = .int .u64 (k : Int) ∧ k ≤ n ∧ l ++ numL k = numL n ∧ BRow wr w.heap.size b l ∧ Below w.heap.size w wr) (fun v _ _ => (intOf v).toNat)
  case atStart => exact ⟨n, [], rfl, Nat.le_refl _, rfl, BRow.nil _ _, Below.refl _ _⟩
  case round =>
    obtain ⟨k, l, rfl, hk, hl, hrow, hbel⟩ := hrel
    have hll : l.length < 1000000000 := by have := congrArg List.length hl; have := hlen.out; simp at *; omega
    replace hll := Lib.hid hll
    by_cases hs : k < 128
    · rw [numL_small k hs] at hl
      have hm : (k : Int) % 256 = k := by omega
      replace hl := Lib.hid hl
      replace hrow := Lib.hid hrow
      go_wp2_with (at_builtin; refine wpList_append_byte rfl _ _ rfl w.heap.size _ l rfl (hrow.out.alloc _) _ _ _ rfl (newCell _ _ _ 0) ?ha hll.out ?hb ?_; (case ha => omega); (case hb => have := hbel.size; simp; omega); intro v2 w2 hrow2 hgrow2; have htext := hrow2.text)
      go_ret
      have e : l ++ [UInt8.ofNat (k : Int).toNat] = numL n := by rw [← hl.out]; simp
      exact ⟨by rw [← e]; rfl, (hbel.alloc hbel.size _).grown hgrow2 (by have := hbel.size; simp; omega) (fun g hg => (hrow.out.lt g hg).1)⟩
    · rw [numL_big k hs] at hl
      have hor := or_128 k
      replace hl := Lib.hid hl
      replace hrow := Lib.hid hrow
      go_wp2_with (at_builtin; refine wpList_append_byte rfl _ _ rfl w.heap.size _ l rfl (hrow.out.alloc _) _ _ _ rfl (newCell _ _ _ 0) ?ha hll.out ?hb ?_; (case ha => omega); (case hb => have := hbel.size; simp; omega); intro v2 w2 hrow2 hgrow2)
      have e : ((k : Int) % 128 + 128).toNat = k % 128 + 128 := by omega
      rw [e] at hrow2
      go_roundw
      case rel => exact ⟨k / 128, l ++ [UInt8.ofNat (k % 128 + 128)], by go_num, by omega, by rw [← hl.out, List.append_assoc]; rfl, hrow2, (hbel.alloc hbel.size _).grown hgrow2 (by have := hbel.size; simp; omega) (fun g hg => (hrow.out.lt g hg).1)⟩
      case measure => simp [intOf]; omega

theorem text_any (s : ByteArray) (hs : s.size ≤ 140737488351232) (w : World) :
    Calls Try.prog 36 #[.string s] w fun e w' => e = .returned (.string (str (numL s.size ++ s.data.toList))) ∧ Below w.heap.size w w' := by
  have hc := fun w' => num_any s.size (by omega) w'
  have e : str (numL s.size) ++ s = str (numL s.size ++ s.data.toList) := by
    conv => lhs; rhs; rw [← str_of s]
    exact str_append _ _
  have hw : IntKind.u64.wrap (s.size : Int) = s.size := IntWalk.u64_in _ (by omega)
  have hroom : ¬ 9223372036854775807 < (numL s.size).length + s.size := by have := numL_len64 s.size (by omega); omega
  replace hs := Lib.hid hs
  replace e := Lib.hid e
  go_enter Try.func36, Try.ntmps36
  go_wp2_with (go_at_call 35; (with_reducible refine (hc _).mono ?_); rintro e w1 ⟨rfl, hb⟩)
  go_ret
  exact ⟨congrArg (fun x => Ending.returned (.string x)) e.out, hb⟩

/-- the reader in block g has these bytes left, and this error -/
def RdAt (w : World) (g : Nat) (l : List UInt8) (e : Int) : Prop := w.heap[g]? = some (.cells #[.string (str l), .int .i64 e] 72 (0, 0))
section
variable {w w' : World} {g : Nat} {l : List UInt8} {e : Int}
theorem RdAt.keep (h : RdAt w g l e) {X : List Nat} (k : Keeps X w w') (hg : g ∉ X) : RdAt w' g l e := (k.block _ (block_lt h) hg).trans h
theorem RdAt.below (h : RdAt w g l e) (k : Below w.heap.size w w') : RdAt w' g l e := h.keep (Keeps.ofBelow k []) (by simp)
theorem RdAt.cells (h : RdAt w g l e) : w.cell? ⟨g, 0, none⟩ = some (.string (str l)) ∧ w.cell? ⟨g, 1, none⟩ = some (.int .i64 e) :=
  ⟨cell_of_row _ _ 0 _ _ _ h, cell_of_row _ _ 1 _ _ _ h⟩
theorem RdAt.free (h : RdAt w g l e) (i : Nat) : w.frozen? ⟨g, i, none⟩ = false := by unfold RdAt at h; simp [World.frozen?, h]
theorem RdAt.set0 (h : RdAt w g l e) {l' : List UInt8} {s : ByteArray} (hs : s = str l') : RdAt (w.setCell ⟨g, 0, none⟩ (.string s)) g l' e := by
  unfold RdAt at h ⊢; subst hs; simp [World.setCell, Array.getElem?_modify, h]
theorem RdAt.set1 (h : RdAt w g l e) (e' : Int) : RdAt (w.setCell ⟨g, 1, none⟩ (.int .i64 e')) g l e' := by
  unfold RdAt at h ⊢; simp [World.setCell, Array.getElem?_modify, h]
end
theorem str_extract (l : List UInt8) (a b : Nat) : (str l).extract a b = str ((l.drop a).take (b - a)) := by
  apply ByteArray.ext; simp [str, ByteArray.data_extract]

theorem read_any (s : ByteArray) (w : World) :
    Calls Try.prog 22 #[.string s] w fun e w' => e = .returned (.pointer (some ⟨w.heap.size, 0, none⟩)) ∧ RdAt w' w.heap.size s.data.toList 0 ∧ Below w.heap.size w w' := by
  go_enter Try.func22, Try.ntmps22
  go_wp2
  go_ret
  exact ⟨rfl, heap_alloc_new w _, by go_grown⟩

theorem err_nil (w : World) : Calls Try.prog 27 #[.pointer none] w fun e w' => e = .returned (.int .i64 2) ∧ Below w.heap.size w w' := by
  go_enter Try.func27, Try.ntmps27
  go_wp2
  go_ret
  exact ⟨rfl, by go_grown⟩
theorem err_any {w : World} {g : Nat} {l : List UInt8} {e : Int} (h : RdAt w g l e) : Calls Try.prog 27 #[.pointer (some ⟨g, 0, none⟩)] w fun e' w' => e' = .returned (.int .i64 e) ∧ Below w.heap.size w w' := by
  obtain ⟨c0, c1⟩ := h.cells
  clear h
  go_enter Try.func27, Try.ntmps27
  go_wp2
  go_ret
  exact ⟨rfl, by go_grown⟩
theorem left_nil (w : World) : Calls Try.prog 38 #[.pointer none] w fun e w' => e = .returned (.int .i64 0) ∧ Below w.heap.size w w' := by
  go_enter Try.func38, Try.ntmps38
  go_wp2
  go_ret
  exact ⟨rfl, by go_grown⟩
theorem left_any {w : World} {g : Nat} {l : List UInt8} {e : Int} (h : RdAt w g l e) : Calls Try.prog 38 #[.pointer (some ⟨g, 0, none⟩)] w fun e' w' => e' = .returned (.int .i64 l.length) ∧ Below w.heap.size w w' := by
  obtain ⟨c0, c1⟩ := h.cells
  have hz := str_size l
  clear h
  go_enter Try.func38, Try.ntmps38
  go_wp2
  go_ret
  exact ⟨rfl, by go_grown⟩
theorem fail_nil (x : Int) (w : World) : Calls Try.prog 26 #[.pointer none, .int .i64 x] w fun e w' => e = .returned (.tuple #[]) ∧ Below w.heap.size w w' := by
  go_enter Try.func26, Try.ntmps26
  go_wp2
  go_returns
  exact ⟨rfl, by go_grown⟩
theorem fail_same {w : World} {g : Nat} {l : List UInt8} {e : Int} (h : RdAt w g l e) (x : Int) (hx : x = 0 ∨ e ≠ 0) : Calls Try.prog 26 #[.pointer (some ⟨g, 0, none⟩), .int .i64 x] w fun e' w' => e' = .returned (.tuple #[]) ∧ Below w.heap.size w w' := by
  obtain ⟨c0, c1⟩ := h.cells
  clear h
  by_cases h0 : x = 0
  · clear hx
    subst h0
    go_enter Try.func26, Try.ntmps26
    go_wp2
    go_returns
    exact ⟨rfl, by go_grown⟩
  · have he : e ≠ 0 := by rcases hx with hx | hx; exact absurd hx h0; exact hx
    have h1 : (x == 0) = false := by simpa using h0
    have h2 : (e == 0) = false := by simpa using he
    have h3 : (e != 0) = true := by simpa using he
    clear hx
    go_enter Try.func26, Try.ntmps26
    go_wp2
    go_returns
    exact ⟨rfl, by go_grown⟩
theorem fail_first {w : World} {g : Nat} {l : List UInt8} (h : RdAt w g l 0) (x : Int) (hx : x ≠ 0) : Calls Try.prog 26 #[.pointer (some ⟨g, 0, none⟩), .int .i64 x] w fun e' w' => e' = .returned (.tuple #[]) ∧ RdAt w' g [] x ∧ Keeps [g] w w' := by
  obtain ⟨c0, c1⟩ := h.cells
  have f0 := h.free 0
  have f1 := h.free 1
  replace h := Lib.hid h
  have h1 : (x == 0) = false := by simpa using hx
  replace hx := Lib.hid hx
  go_enter Try.func26, Try.ntmps26
  go_wp2
  go_returns
  exact ⟨rfl, (h.out.set1 x).set0 (l' := []) rfl, ((Keeps.refl _ _).setCell (Or.inl (by simp)) _).setCell (Or.inl (by simp)) _⟩

theorem bytes_nil (n : Int) (w : World) : Calls Try.prog 23 #[.pointer none, .int .i64 n] w fun e w' => e = .returned (.string (str [])) ∧ Below w.heap.size w w' := by
  go_enter Try.func23, Try.ntmps23
  go_wp2_with (go_at_call 27; (with_reducible refine (err_nil _).mono ?_); rintro e w1 ⟨rfl, hb⟩)
  go_ret
  exact ⟨rfl, hb⟩
theorem bytes_bad {w : World} {g : Nat} {l : List UInt8} {e : Int} (h : RdAt w g l e) (he : e ≠ 0) (n : Int) : Calls Try.prog 23 #[.pointer (some ⟨g, 0, none⟩), .int .i64 n] w fun e w' => e = .returned (.string (str [])) ∧ Below w.heap.size w w' := by
  have hc := err_any h
  have h3 : (e != 0) = true := by simpa using he
  clear h he
  go_enter Try.func23, Try.ntmps23
  go_wp2_with (go_at_call 27; (with_reducible refine hc.mono ?_); rintro e w1 ⟨rfl, hb⟩)
  go_ret
  exact ⟨rfl, hb⟩
theorem bytes_short {w : World} {g : Nat} {l : List UInt8} (h : RdAt w g l 0) (n : Int) (hn : n < 0 ∨ (l.length : Int) < n) : Calls Try.prog 23 #[.pointer (some ⟨g, 0, none⟩), .int .i64 n] w fun e w' => e = .returned (.string (str [])) ∧ RdAt w' g [] 2 ∧ Keeps [g] w w' := by
  have hc := err_any h
  have hz := str_size l
  have hlt := block_lt h
  by_cases h0 : n < 0
  · clear hn
    replace h := Lib.hid h
    go_enter Try.func23, Try.ntmps23
    go_wp2_with (first | (go_at_call 27; (with_reducible refine hc.mono ?_); rintro e w1 ⟨rfl, hb⟩; have h1 := h.out.below hb; have hf := fail_first h1 2 (by decide); replace h1 := Lib.hid h1) | (go_at_call 26; (with_reducible refine hf.mono ?_); rintro e w2 ⟨rfl, h2, k2⟩))
    go_ret
    exact ⟨rfl, h2, (Keeps.ofBelow hb _).trans k2⟩
  · have h1 : (l.length : Int) < n := by omega
    clear hn
    replace h := Lib.hid h
    go_enter Try.func23, Try.ntmps23
    go_wp2_with (first | (go_at_call 27; (with_reducible refine hc.mono ?_); rintro e w1 ⟨rfl, hb⟩; have h1 := h.out.below hb; obtain ⟨c0, c1⟩ := h1.cells; have hf := fail_first h1 2 (by decide); replace h1 := Lib.hid h1) | (go_at_call 26; (with_reducible refine hf.mono ?_); rintro e w2 ⟨rfl, h2, k2⟩))
    go_ret
    exact ⟨rfl, h2, (Keeps.ofBelow hb _).trans k2⟩
theorem bytes_take {w : World} {g : Nat} {l : List UInt8} (h : RdAt w g l 0) (n : Nat) (hn : n ≤ l.length) : Calls Try.prog 23 #[.pointer (some ⟨g, 0, none⟩), .int .i64 n] w fun e w' => e = .returned (.string (str (l.take n))) ∧ RdAt w' g (l.drop n) 0 ∧ Keeps [g] w w' := by
  have hc := err_any h
  have hz := str_size l
  have hlt := block_lt h
  have x1 : (str l).extract 0 n = str (l.take n) := by rw [str_extract]; simp
  have x2 : (str l).extract n (str l).size = str (l.drop n) := by rw [str_extract, hz]; congr 1; exact List.take_of_length_le (by simp)
  replace h := Lib.hid h
  replace x1 := Lib.hid x1
  replace x2 := Lib.hid x2
  go_enter Try.func23, Try.ntmps23
  go_wp2_with (go_at_call 27; (with_reducible refine hc.mono ?_); rintro e w1 ⟨rfl, hb⟩; have h1 := h.out.below hb; obtain ⟨c0, c1⟩ := h1.cells; have f0 := h1.free 0; replace h1 := Lib.hid h1)
  go_ret
  exact ⟨congrArg (fun x => Ending.returned (.string x)) x1.out, h1.out.set0 x2.out, (Keeps.ofBelow hb _).setCell (Or.inl (by simp)) _⟩

/-- what 'Num' takes: byte number i on, 'acc' being what came ahead: the number, what is left, the error -/
def rdNum (i acc : Nat) : List UInt8 → Nat × List UInt8 × Int
  | [] => (0, [], 2)
  | b :: r => if (0 < i ∧ b.toNat = 0) ∨ (i = 9 ∧ 1 < b.toNat) then (0, [], 3)
    else if b.toNat < 128 then (acc + b.toNat % 128 * 128 ^ i, r, 0) else rdNum (i + 1) (acc + b.toNat % 128 * 128 ^ i) r
def takeNum (most : Nat) (l : List UInt8) : Nat × List UInt8 × Int :=
  let x := rdNum 0 0 l
  if x.2.2 = 0 ∧ most < x.1 then (0, [], 3) else x

theorem and_127 (b : UInt8) : bits .and .u8 (b.toNat : Int) 127 = ((b.toNat % 128 : Nat) : Int) := by
  have := u8_and_nat b.toNat 127 (by have := b.toNat_lt; omega) (by omega)
  rw [show ((127 : Nat) : Int) = 127 from rfl] at this
  rw [this, Nat.and_two_pow_sub_one_eq_mod _ 7]
theorem pow_128 (j : Nat) : (2 : Nat) ^ (7 * j) = 128 ^ j := by rw [Nat.pow_mul]
theorem shl_part (b : UInt8) (j acc : Nat) (hj : j ≤ 9) (h9 : j = 9 → b.toNat ≤ 1) (hacc : acc < 128 ^ j) :
    b.toNat % 128 * 128 ^ j < 18446744073709551616 ∧ acc + b.toNat % 128 * 128 ^ j < 18446744073709551616 ∧
    (j < 9 → acc + b.toNat % 128 * 128 ^ j < 128 ^ (j + 1)) ∧ bits .or .u64 (acc : Int) ((b.toNat % 128 * 128 ^ j : Nat) : Int) = ((acc + b.toNat % 128 * 128 ^ j : Nat) : Int) := by
  have hq : b.toNat % 128 < 128 := Nat.mod_lt _ (by decide)
  have hlt : j < 9 → acc + b.toNat % 128 * 128 ^ j < 128 ^ (j + 1) := by
    intro _
    have : b.toNat % 128 * 128 ^ j ≤ 127 * 128 ^ j := Nat.mul_le_mul_right _ (by omega)
    rw [Nat.pow_succ]; omega
  have hsum : acc + b.toNat % 128 * 128 ^ j < 18446744073709551616 := by
    by_cases h : j = 9
    · subst h
      have h1 := h9 rfl
      have : b.toNat % 128 * 128 ^ 9 ≤ 1 * 128 ^ 9 := Nat.mul_le_mul_right _ (by omega)
      have e : (128 : Nat) ^ 9 = 9223372036854775808 := by decide
      rw [e] at *; omega
    · have := hlt (by omega)
      have h2 : (128 : Nat) ^ (j + 1) ≤ 128 ^ 9 := Nat.pow_le_pow_right (by decide) (by omega)
      have e : (128 : Nat) ^ 9 = 9223372036854775808 := by decide
      omega
  refine ⟨by omega, hsum, hlt, ?_⟩
  rw [u64_or_nat acc _ (by omega) (by omega), Nat.or_comm]
  congr 1
  have : 128 ^ j = 2 ^ (7 * j) := (pow_128 j).symm
  rw [this] at hacc ⊢
  rw [nat_join (7 * j) _ acc (by simp) hacc]; omega

set_option maxRecDepth 100000 in
set_option maxHeartbeats 2000000 in
theorem takeNum_any {w : World} {g : Nat} {l : List UInt8} (h : RdAt w g l 0) (most : Nat) (hm : most < 18446744073709551616) :
    Calls Try.prog 24 #[.pointer (some ⟨g, 0, none⟩), .int .u64 (most : Int)] w fun e w' => e = .returned (.int .u64 ((takeNum most l).1 : Int)) ∧ RdAt w' g (takeNum most l).2.1 (takeNum most l).2.2 ∧ Keeps [g] w w' := by
  replace hm := Lib.hid hm
  go_enter Try.func24, Try.ntmps24
  go_wp2
  go_loopg [5, 6] l.length (fun k n i wr => ∃ (acc j : Nat) (r : List UInt8), k = r.length ∧ n = .int .u64 (acc : Int) ∧ i = .int .i64 (j : Int) ∧ j ≤ 9 ∧ acc < 128 ^ j ∧ rdNum j acc r = rdNum 0 0 l ∧ RdAt wr g r 0 ∧ Keeps [g] w wr)
  case atStart => exact ⟨0, 0, l, rfl, rfl, rfl, by omega, by simp, rfl, h, Keeps.refl _ _⟩
  case round =>
    obtain ⟨acc, j, r, hk, rfl, rfl, hj, hacc, hrd, hs, hkp⟩ := hrel
    rcases r with _ | ⟨b, r⟩
    · have hb := bytes_short hs 1 (by simp)
      have hv : takeNum most l = (0, [], 2) := by unfold takeNum; rw [← hrd]; simp [rdNum]
      replace hs := Lib.hid hs
      replace hrd := Lib.hid hrd
      replace hv := Lib.hid hv
      replace hacc := Lib.hid hacc
      clear hk
      go_wp2_with (first | (go_at_call 23; (with_reducible refine hb.mono ?_); rintro e w1 ⟨rfl, h1, k1⟩; replace h1 := Lib.hid h1; replace k1 := Lib.hid k1))
      go_ret
      rw [hv.out]
      exact ⟨rfl, h1.out, hkp.trans k1.out⟩
    · have hb : Calls Try.prog 23 #[.pointer (some ⟨g, 0, none⟩), .int .i64 1] wr fun e w' => e = .returned (.string (str [b])) ∧ RdAt w' g r 0 ∧ Keeps [g] wr w' := bytes_take hs 1 (by simp)
      replace hs := Lib.hid hs
      replace hrd := Lib.hid hrd
      by_cases hbad : (0 < j ∧ b.toNat = 0) ∨ (j = 9 ∧ 1 < b.toNat)
      · have hv : takeNum most l = (0, [], 3) := by unfold takeNum; rw [← hrd.out, rdNum, if_pos hbad]; simp
        replace hacc := Lib.hid hacc
        replace hv := Lib.hid hv
        clear hk
        rcases hbad with ⟨a1, a2⟩ | ⟨a1, a2⟩
        · have hz : ((b.toNat : Int) == 0) = true := by simpa using a2
          clear a2
          go_wp2_with (first | (go_at_call 23; (with_reducible refine hb.mono ?_); rintro e w1 ⟨rfl, h1, k1⟩; replace h1 := Lib.hid h1; replace k1 := Lib.hid k1) | (go_at_call 26; (with_reducible refine (fail_first h1.out 3 (by decide)).mono ?_); rintro e w2 ⟨rfl, h2, k2⟩; replace h2 := Lib.hid h2; replace k2 := Lib.hid k2))
          all_goals
            go_ret
            rw [hv.out]
            exact ⟨rfl, h2.out, (hkp.trans k1.out).trans k2.out⟩
        · have f9 : ((j : Int) == 9) = true := by simp; omega
          have hp : 0 < j := by omega
          have z0 : ((b.toNat : Int) == 0) = false := by simp; omega
          have z1 : decide (1 < (b.toNat : Int)) = true := by simp; omega
          replace a1 := Lib.hid a1
          replace a2 := Lib.hid a2
          go_wp2_with (first | (go_at_call 23; (with_reducible refine hb.mono ?_); rintro e w1 ⟨rfl, h1, k1⟩; replace h1 := Lib.hid h1; replace k1 := Lib.hid k1) | (go_at_call 26; (with_reducible refine (fail_first h1.out 3 (by decide)).mono ?_); rintro e w2 ⟨rfl, h2, k2⟩; replace h2 := Lib.hid h2; replace k2 := Lib.hid k2))
          all_goals
            go_ret
            rw [hv.out]
            exact ⟨rfl, h2.out, (hkp.trans k1.out).trans k2.out⟩
      · obtain ⟨q1, q2, q3, q4⟩ := shl_part b j acc hj (by omega) hacc
        have e1 := and_127 b
        have hlt := b.toNat_lt
        have e2 : IntKind.u64.wrap ((b.toNat : Int) % 128 * 2 ^ (7 * j)) = ((b.toNat % 128 * 128 ^ j : Nat) : Int) := by
          have : ((b.toNat : Int) % 128 * 2 ^ (7 * j)) = ((b.toNat % 128 * 2 ^ (7 * j) : Nat) : Int) := by simp
          rw [this, pow_128]; exact IntWalk.u64_in _ (by omega)
        have hst : rdNum j acc (b :: r) = if b.toNat < 128 then (acc + b.toNat % 128 * 128 ^ j, r, 0) else rdNum (j + 1) (acc + b.toNat % 128 * 128 ^ j) r := by
          rw [rdNum, if_neg hbad]
        generalize b.toNat % 128 * 128 ^ j = q at *
        generalize hA : acc + q = A at *
        replace hacc := Lib.hid hacc
        replace hA := Lib.hid hA
        replace q1 := Lib.hid q1
        replace q2 := Lib.hid q2
        replace q3 := Lib.hid q3
        have hcases : (0 < j ∧ ((b.toNat : Int) == 0) = false ∧ ((j : Int) == 9) = false) ∨ (0 < j ∧ ((b.toNat : Int) == 0) = false ∧ ((j : Int) == 9) = true ∧ decide (1 < (b.toNat : Int)) = false) ∨ (¬ 0 < j ∧ ((j : Int) == 9) = false) := by
          by_cases h0 : 0 < j
          · by_cases h9 : j = 9
            · exact Or.inr (Or.inl ⟨h0, by simp; omega, by simp; omega, by simp; omega⟩)
            · exact Or.inl ⟨h0, by simp; omega, by simp; omega⟩
          · exact Or.inr (Or.inr ⟨h0, by simp; omega⟩)
        by_cases hsm : b.toNat < 128
        · rw [if_pos hsm] at hst
          have hv : takeNum most l = if most < A then (0, [], 3) else (A, r, 0) := by unfold takeNum; rw [← hrd.out, hst]; simp
          replace hst := Lib.hid hst
          clear hk
          by_cases hma : most < A
          · rw [if_pos hma] at hv
            replace hv := Lib.hid hv
            clear hbad
            rcases hcases with ⟨p1, p2, p3⟩ | ⟨p1, p2, p3, p4⟩ | ⟨p1, p2⟩
            all_goals go_wp2_with (first | (go_at_call 23; (with_reducible refine hb.mono ?_); rintro e w1 ⟨rfl, h1, k1⟩; replace h1 := Lib.hid h1; replace k1 := Lib.hid k1) | (go_at_call 26; (with_reducible refine (fail_first h1.out 3 (by decide)).mono ?_); rintro e w2 ⟨rfl, h2, k2⟩; replace h2 := Lib.hid h2; replace k2 := Lib.hid k2))
            all_goals
              go_ret
              rw [hv.out]
              exact ⟨rfl, h2.out, (hkp.trans k1.out).trans k2.out⟩
          · rw [if_neg hma] at hv
            replace hv := Lib.hid hv
            clear hbad
            rcases hcases with ⟨p1, p2, p3⟩ | ⟨p1, p2, p3, p4⟩ | ⟨p1, p2⟩
            all_goals go_wp2_with (first | (go_at_call 23; (with_reducible refine hb.mono ?_); rintro e w1 ⟨rfl, h1, k1⟩; replace h1 := Lib.hid h1; replace k1 := Lib.hid k1))
            all_goals
              go_ret
              rw [hv.out]
              exact ⟨rfl, h1.out, hkp.trans k1.out⟩
        · rw [if_neg hsm] at hst
          have h9 : j < 9 := by omega
          replace hst := Lib.hid hst
          replace h9 := Lib.hid h9
          clear hbad
          rcases hcases with ⟨p1, p2, p3⟩ | ⟨p1, p2, p3, p4⟩ | ⟨p1, p2⟩
          all_goals go_wp2_with (first | (go_at_call 23; (with_reducible refine hb.mono ?_); rintro e w1 ⟨rfl, h1, k1⟩; replace h1 := Lib.hid h1; replace k1 := Lib.hid k1))
          all_goals
            go_roundg r.length
            case measure => subst hk; simp
            case rel => exact ⟨A, j + 1, r, rfl, rfl, by go_num, by have := h9.out; omega, q3.out h9.out, by rw [← hrd.out, hst.out], h1.out, hkp.trans k1.out⟩

theorem takeNum_bad {w : World} {g : Nat} {l : List UInt8} {e : Int} (h : RdAt w g l e) (he : e ≠ 0) (most : Int) :
    Calls Try.prog 24 #[.pointer (some ⟨g, 0, none⟩), .int .u64 most] w fun e w' => e = .returned (.int .u64 0) ∧ Below w.heap.size w w' := by
  have hb := fun n => bytes_bad h he n
  clear h he
  go_enter Try.func24, Try.ntmps24
  go_wp2
  go_loopg [5, 6] 0 (fun k n i wr => n = .int .u64 0 ∧ i = .int .i64 0 ∧ wr = w)
  case atStart => exact ⟨rfl, rfl, rfl⟩
  case round =>
    obtain ⟨rfl, rfl, rfl⟩ := hrel
    go_wp2_with (go_at_call 23; (with_reducible refine (hb _).mono ?_); rintro e w1 ⟨rfl, h1⟩)
    go_ret
    exact ⟨rfl, h1⟩
theorem takeNum_nil (w : World) (most : Int) :
    Calls Try.prog 24 #[.pointer none, .int .u64 most] w fun e w' => e = .returned (.int .u64 0) ∧ Below w.heap.size w w' := by
  go_enter Try.func24, Try.ntmps24
  go_wp2
  go_loopg [5, 6] 0 (fun k n i wr => n = .int .u64 0 ∧ i = .int .i64 0 ∧ wr = w)
  case atStart => exact ⟨rfl, rfl, rfl⟩
  case round =>
    obtain ⟨rfl, rfl, rfl⟩ := hrel
    go_wp2_with (go_at_call 23; (with_reducible refine (bytes_nil _ _).mono ?_); rintro e w1 ⟨rfl, h1⟩)
    go_ret
    exact ⟨rfl, h1⟩

/-- what 'Text' takes -/
def takeText (most : Int) (l : List UInt8) : List UInt8 × List UInt8 × Int :=
  let x := takeNum (min (max most 0) 65536).toNat l
  if x.2.2 ≠ 0 then ([], x.2.1, x.2.2) else if x.1 ≤ x.2.1.length then (x.2.1.take x.1, x.2.1.drop x.1, 0) else ([], [], 2)
theorem takeNum_le (m : Nat) (l : List UInt8) : (takeNum m l).1 ≤ m ∨ (takeNum m l).2.2 ≠ 0 := by
  unfold takeNum
  by_cases h : (rdNum 0 0 l).2.2 = 0
  · by_cases h2 : m < (rdNum 0 0 l).1
    · right; simp [h, h2]
    · left; simp [h, h2]; omega
  · right; simp [h]
theorem takeNum_none (m : Nat) (l : List UInt8) (h : (takeNum m l).2.2 ≠ 0) : (takeNum m l).1 = 0 := by
  have key : ∀ (l : List UInt8) (i acc : Nat), (rdNum i acc l).2.2 ≠ 0 → (rdNum i acc l).1 = 0 := by
    intro l
    induction l with
    | nil => intro i acc _; rfl
    | cons b r ih =>
      intro i acc hh
      unfold rdNum at hh ⊢
      split
      · rfl
      · split
        · rename_i h1 h2; simp [h1, h2] at hh
        · rename_i h1 h2; rw [if_neg h1, if_neg h2] at hh; exact ih _ _ hh
  unfold takeNum at h ⊢
  dsimp only at h ⊢
  by_cases h1 : (rdNum 0 0 l).2.2 = 0 ∧ m < (rdNum 0 0 l).1
  · rw [if_pos h1]
  · rw [if_neg h1] at h ⊢; exact key l 0 0 h

set_option maxRecDepth 100000 in
theorem takeText_any {w : World} {g : Nat} {l : List UInt8} (h : RdAt w g l 0) (most : Int) (hm : -9223372036854775808 ≤ most ∧ most ≤ 9223372036854775807) :
    Calls Try.prog 25 #[.pointer (some ⟨g, 0, none⟩), .int .i64 most] w fun e w' => e = .returned (.string (str (takeText most l).1)) ∧ RdAt w' g (takeText most l).2.1 (takeText most l).2.2 ∧ Keeps [g] w w' := by
  obtain ⟨m, hmm⟩ : ∃ m : Nat, (m : Int) = min (max most 0) 65536 := ⟨(min (max most 0) 65536).toNat, by omega⟩
  have hm2 : m ≤ 65536 := by omega
  have hs : takeText most l = if (takeNum m l).2.2 ≠ 0 then ([], (takeNum m l).2.1, (takeNum m l).2.2) else if (takeNum m l).1 ≤ (takeNum m l).2.1.length then ((takeNum m l).2.1.take (takeNum m l).1, (takeNum m l).2.1.drop (takeNum m l).1, 0) else ([], [], 2) := by
    unfold takeText; rw [← hmm]; rfl
  have hn := takeNum_any h m (by omega)
  have hle := takeNum_le m l
  have hno := takeNum_none m l
  have hb : ∀ w', RdAt w' g (takeNum m l).2.1 (takeNum m l).2.2 → Calls Try.prog 23 #[.pointer (some ⟨g, 0, none⟩), .int .i64 ((takeNum m l).1 : Int)] w' fun e w2 => e = .returned (.string (str (takeText most l).1)) ∧ RdAt w2 g (takeText most l).2.1 (takeText most l).2.2 ∧ Keeps [g] w' w2 := by
    intro w' h'
    rw [hs]
    by_cases he : (takeNum m l).2.2 = 0
    · rw [if_neg (by simpa using he)]
      rw [he] at h'
      by_cases hl : (takeNum m l).1 ≤ (takeNum m l).2.1.length
      · rw [if_pos hl]; exact bytes_take h' _ hl
      · rw [if_neg hl]; exact bytes_short h' _ (by omega)
    · rw [if_pos he]
      refine (bytes_bad h' he _).mono ?_
      rintro e w2 ⟨rfl, hb⟩
      exact ⟨rfl, h'.below hb, Keeps.ofBelow hb _⟩
  have hsz : (takeNum m l).1 ≤ 65536 := by rcases hle with h1 | h1; omega; rw [hno h1]; omega
  clear hs hle hno
  generalize takeText most l = T at *
  generalize takeNum m l = x at *
  replace h := Lib.hid h
  have q1 : IntKind.u64.wrap (m : Int) = m := IntWalk.u64_in _ (by omega)
  have q2 : IntKind.i64.wrap (x.1 : Int) = x.1 := IntWalk.i64_in _ (by omega)
  replace hsz := Lib.hid hsz
  by_cases hc : most < 0
  · obtain rfl : m = 0 := by omega
    clear hmm
    replace hn : Calls Try.prog 24 #[.pointer (some ⟨g, 0, none⟩), .int .u64 0] w fun e w' => e = .returned (.int .u64 (x.1 : Int)) ∧ RdAt w' g x.2.1 x.2.2 ∧ Keeps [g] w w' := hn
    go_enter Try.func25, Try.ntmps25
    go_wp2_with (first | (go_at_call 24; (with_reducible refine hn.mono ?_); rintro e w1 ⟨rfl, h1, k1⟩; have hb1 := hb w1 h1) | (go_at_call 23; (with_reducible refine hb1.mono ?_); rintro e w2 ⟨rfl, h2, k2⟩))
    go_ret
    exact ⟨rfl, h2, k1.trans k2⟩
  · by_cases hd : 65536 < most
    · obtain rfl : m = 65536 := by omega
      clear hmm
      replace hn : Calls Try.prog 24 #[.pointer (some ⟨g, 0, none⟩), .int .u64 65536] w fun e w' => e = .returned (.int .u64 (x.1 : Int)) ∧ RdAt w' g x.2.1 x.2.2 ∧ Keeps [g] w w' := hn
      go_enter Try.func25, Try.ntmps25
      go_wp2_with (first | (go_at_call 24; (with_reducible refine hn.mono ?_); rintro e w1 ⟨rfl, h1, k1⟩; have hb1 := hb w1 h1) | (go_at_call 23; (with_reducible refine hb1.mono ?_); rintro e w2 ⟨rfl, h2, k2⟩))
      go_ret
      exact ⟨rfl, h2, k1.trans k2⟩
    · obtain rfl : most = m := by omega
      clear hmm
      go_enter Try.func25, Try.ntmps25
      go_wp2_with (first | (go_at_call 24; (with_reducible refine hn.mono ?_); rintro e w1 ⟨rfl, h1, k1⟩; have hb1 := hb w1 h1) | (go_at_call 23; (with_reducible refine hb1.mono ?_); rintro e w2 ⟨rfl, h2, k2⟩))
      go_ret
      exact ⟨rfl, h2, k1.trans k2⟩

/-- what 'End' tells, and leaves -/
theorem end_any {w : World} {g : Nat} {l : List UInt8} {e : Int} (h : RdAt w g l e) :
    Calls Try.prog 28 #[.pointer (some ⟨g, 0, none⟩)] w fun e' w' => e' = .returned (.int .i64 (if e = 0 ∧ l ≠ [] then 3 else e)) ∧ Keeps [g] w w' := by
  have hl := left_any h
  by_cases h0 : l = []
  · subst h0
    have ev : (if e = 0 ∧ ([] : List UInt8) ≠ [] then (3 : Int) else e) = e := by simp
    rw [ev]
    replace h := Lib.hid h
    clear ev
    go_enter Try.func28, Try.ntmps28
    go_wp2_with (first | (go_at_call 38; (with_reducible refine hl.mono ?_); rintro e w1 ⟨rfl, b1⟩; have he := err_any (h.out.below b1)) | (go_at_call 27; (with_reducible refine he.mono ?_); rintro e w2 ⟨rfl, b2⟩))
    go_ret
    exact ⟨rfl, (Keeps.ofBelow b1 _).trans (Keeps.ofBelow b2 _)⟩
  · have hp : (0 : Int) < (l.length : Int) := by have := List.length_pos_iff.2 h0; omega
    by_cases h1 : e = 0
    · subst h1
      have ev : (if (0 : Int) = 0 ∧ l ≠ [] then (3 : Int) else 0) = 3 := by simp [h0]
      rw [ev]
      replace h := Lib.hid h
      clear ev h0
      go_enter Try.func28, Try.ntmps28
      go_wp2_with (first | (go_at_call 38; (with_reducible refine hl.mono ?_); rintro e w1 ⟨rfl, b1⟩; have hf := fail_first (h.out.below b1) 3 (by decide)) | (go_at_call 26; (with_reducible refine hf.mono ?_); rintro e w2 ⟨rfl, h2, k2⟩; have he := err_any h2; replace h2 := Lib.hid h2) | (go_at_call 27; (with_reducible refine he.mono ?_); rintro e w3 ⟨rfl, b3⟩))
      go_ret
      exact ⟨rfl, ((Keeps.ofBelow b1 _).trans k2).trans (Keeps.ofBelow b3 _)⟩
    · have ev : (if e = 0 ∧ l ≠ [] then (3 : Int) else e) = e := by simp [h1]
      rw [ev]
      have h1' := Lib.hid h1
      replace h := Lib.hid h
      clear ev h0 h1
      go_enter Try.func28, Try.ntmps28
      go_wp2_with (first | (go_at_call 38; (with_reducible refine hl.mono ?_); rintro e w1 ⟨rfl, b1⟩; have hs1 := Lib.hid (h.out.below b1); have hf := fail_same hs1.out 3 (Or.inr h1'.out)) | (go_at_call 26; (with_reducible refine hf.mono ?_); rintro e w2 ⟨rfl, b2⟩; have he := err_any (hs1.out.below b2)) | (go_at_call 27; (with_reducible refine he.mono ?_); rintro e w3 ⟨rfl, b3⟩))
      go_ret
      exact ⟨rfl, ((Keeps.ofBelow b1 _).trans (Keeps.ofBelow b2 _)).trans (Keeps.ofBelow b3 _)⟩

/-! ### there and back -/
theorem rdNum_numL : ∀ (m n i acc : Nat) (r : List UInt8), n < 128 ^ (m + 1) → (i = 0 ∨ 0 < n) → i + m ≤ 9 → (i + m = 9 → n < 2 * 128 ^ m) → rdNum i acc (numL n ++ r) = (acc + n * 128 ^ i, r, 0)
  | m, n, i, acc, r, hn, h0, hi, h9 => by
    by_cases hs : n < 128
    · have hb : (UInt8.ofNat n).toNat = n := by rw [UInt8.toNat_ofNat']; exact Nat.mod_eq_of_lt (by omega)
      rw [numL_small n hs]
      show rdNum i acc (UInt8.ofNat n :: r) = _
      rw [rdNum, hb, if_neg, if_pos hs, Nat.mod_eq_of_lt hs]
      rintro (⟨a, b⟩ | ⟨a, b⟩)
      · omega
      · have hm : m = 0 := by omega
        subst hm; have := h9 (by omega); omega
    · match m with
      | 0 => simp at hn; omega
      | m + 1 =>
        have hb : (UInt8.ofNat (n % 128 + 128)).toNat = n % 128 + 128 := by rw [UInt8.toNat_ofNat']; exact Nat.mod_eq_of_lt (by omega)
        rw [numL_big n hs]
        show rdNum i acc (UInt8.ofNat (n % 128 + 128) :: (numL (n / 128) ++ r)) = _
        rw [rdNum, hb, if_neg (by omega), if_neg (by omega)]
        rw [rdNum_numL m (n / 128) (i + 1) _ r (by rw [Nat.div_lt_iff_lt_mul (by decide), ← Nat.pow_succ]; exact hn) (Or.inr (by omega)) (by omega)
          (fun h => by have := h9 (by omega); rw [Nat.div_lt_iff_lt_mul (by decide), Nat.mul_assoc, ← Nat.pow_succ]; exact this)]
        congr 1
        have e : (n % 128 + 128) % 128 = n % 128 := by omega
        rw [e, Nat.pow_succ, Nat.add_assoc]
        congr 1
        have e2 : n / 128 * (128 ^ i * 128) = (128 * (n / 128)) * 128 ^ i := by rw [Nat.mul_comm (128 ^ i) 128, ← Nat.mul_assoc, Nat.mul_comm (n / 128) 128]
        rw [e2, ← Nat.add_mul]
        congr 1
        omega
theorem takeNum_numL (n most : Nat) (r : List UInt8) (hn : n < 18446744073709551616) (hm : n ≤ most) : takeNum most (numL n ++ r) = (n, r, 0) := by
  have h9 : (128 : Nat) ^ 9 = 9223372036854775808 := by decide
  have h := rdNum_numL 9 n 0 0 r (Nat.lt_of_lt_of_le hn (by decide)) (Or.inl rfl) (by omega) (fun _ => by rw [h9]; omega)
  unfold takeNum
  rw [h]
  dsimp only
  rw [if_neg (by simp; omega)]
  simp
theorem takeText_put (s r : List UInt8) (most : Int) (hs : s.length ≤ 65536) (hm : (s.length : Int) ≤ most) : takeText most (numL s.length ++ (s ++ r)) = (s, r, 0) := by
  unfold takeText
  rw [takeNum_numL s.length _ _ (by omega) (by omega)]
  simp
end Go.Proofs.Ytcdgnhhciccoeaa.code
