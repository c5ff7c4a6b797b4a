/- Numbers and texts as bytes (package code): what Num, Text, Big, Small and Bool put, and what a reader takes. No condition. -/
import Derived.Test.YtcdcipfojfnblaaGreatDoorBytes
namespace Go.Proofs.YtcdcipfojfnblaaGreatDoor.code
open Go.RowKit
attribute [local go_sem ↓] Go.wp_at_zero Go.wp_at_succ
attribute [local go_sem] str_bl str_size str_get0
set_option linter.unusedVariables false
set_option maxRecDepth 100000

/-- a number's bytes: seven bits each, the lowest first -/
def numL (n : Nat) : List UInt8 := if h : n < 128 then [UInt8.ofNat n] else UInt8.ofNat (n % 128 + 128) :: numL (n / 128)
theorem numL_small (n : Nat) (h : n < 128) : numL n = [UInt8.ofNat n] := by rw [numL, dif_pos h]
theorem numL_big (n : Nat) (h : ¬ n < 128) : numL n = UInt8.ofNat (n % 128 + 128) :: numL (n / 128) := by rw [numL, dif_neg h]
theorem or_128 (n : Nat) : bits .or .u8 ((n : Int) % 256) 128 = ((n % 128 + 128 : Nat) : Int) := by
  have e : ((n : Int) % 256) = ((n % 256 : Nat) : Int) := by omega
  rw [e]
  have := u8_or_nat (n % 256) 128 (by omega) (by omega)
  rw [show ((128 : Nat) : Int) = 128 from rfl] at this
  rw [this]
  congr 1
  have h2 : ∀ k : Fin 256, (k.val ||| 128) = k.val % 128 + 128 := by decide +kernel
  rw [h2 ⟨n % 256, by omega⟩]
  show n % 256 % 128 + 128 = n % 128 + 128
  omega

theorem numL_len : ∀ (m n : Nat), n < 128 ^ (m + 1) → (numL n).length ≤ m + 1
  | 0, n, h => by rw [numL_small n (by simpa using h)]; simp
  | m + 1, n, h => by
    by_cases hs : n < 128
    · rw [numL_small n hs]; simp
    · rw [numL_big n hs]
      have : n / 128 < 128 ^ (m + 1) := by rw [Nat.div_lt_iff_lt_mul (by decide), ← Nat.pow_succ]; exact h
      have := numL_len m (n / 128) this
      simp; omega
theorem numL_len64 (n : Nat) (h : n < 18446744073709551616) : (numL n).length ≤ 10 := numL_len 9 n (Nat.lt_of_lt_of_le h (by decide))

/-- the reader in block g has these bytes left, and this error -/
def RdAt (w : World) (g : Nat) (l : List UInt8) (e : Int) : Prop := w.heap[g]? = some (.cells #[.string (str l), .int .i64 e] 146 (0, 0))
section
variable {w w' : World} {g : Nat} {l : List UInt8} {e : Int}
theorem RdAt.keep (h : RdAt w g l e) {X : List Nat} (k : Keeps X w w') (hg : g ∉ X) : RdAt w' g l e := (k.block _ (block_lt h) hg).trans h
theorem RdAt.below (h : RdAt w g l e) (k : Below w.heap.size w w') : RdAt w' g l e := h.keep (Keeps.ofBelow k []) (by simp)
theorem RdAt.cells (h : RdAt w g l e) : w.cell? ⟨g, 0, none⟩ = some (.string (str l)) ∧ w.cell? ⟨g, 1, none⟩ = some (.int .i64 e) :=
  ⟨cell_of_row _ _ 0 _ _ _ h, cell_of_row _ _ 1 _ _ _ h⟩
theorem RdAt.free (h : RdAt w g l e) (i : Nat) : w.frozen? ⟨g, i, none⟩ = false := by unfold RdAt at h; simp [World.frozen?, h]
theorem RdAt.set0 (h : RdAt w g l e) {l' : List UInt8} {s : ByteArray} (hs : s = str l') : RdAt (w.setCell ⟨g, 0, none⟩ (.string s)) g l' e := by
  unfold RdAt at h ⊢; subst hs; simp [World.setCell, Array.getElem?_modify, h]
theorem RdAt.set1 (h : RdAt w g l e) (e' : Int) : RdAt (w.setCell ⟨g, 1, none⟩ (.int .i64 e')) g l e' := by
  unfold RdAt at h ⊢; simp [World.setCell, Array.getElem?_modify, h]
end
theorem str_extract (l : List UInt8) (a b : Nat) : (str l).extract a b = str ((l.drop a).take (b - a)) := by
  apply ByteArray.ext; simp [str, ByteArray.data_extract]

theorem read_any (s : ByteArray) (w : World) :
    Calls Tryz.prog 46 #[.string s] w fun e w' => e = .returned (.pointer (some ⟨w.heap.size, 0, none⟩)) ∧ RdAt w' w.heap.size s.data.toList 0 ∧ Below w.heap.size w w' := by
  go_enter Tryz.func46, Tryz.ntmps46
  go_wp2
  go_ret
  exact ⟨rfl, heap_alloc_new w _, by go_grown⟩

theorem err_nil (w : World) : Calls Tryz.prog 116 #[.pointer none] w fun e w' => e = .returned (.int .i64 2) ∧ Below w.heap.size w w' := by
  go_enter Tryz.func116, Tryz.ntmps116
  go_wp2
  go_ret
  exact ⟨rfl, by go_grown⟩
theorem err_any {w : World} {g : Nat} {l : List UInt8} {e : Int} (h : RdAt w g l e) : Calls Tryz.prog 116 #[.pointer (some ⟨g, 0, none⟩)] w fun e' w' => e' = .returned (.int .i64 e) ∧ Below w.heap.size w w' := by
  obtain ⟨c0, c1⟩ := h.cells
  clear h
  go_enter Tryz.func116, Tryz.ntmps116
  go_wp2
  go_ret
  exact ⟨rfl, by go_grown⟩
theorem fail_nil (x : Int) (w : World) : Calls Tryz.prog 117 #[.pointer none, .int .i64 x] w fun e w' => e = .returned (.tuple #[]) ∧ Below w.heap.size w w' := by
  go_enter Tryz.func117, Tryz.ntmps117
  go_wp2
  go_returns
  exact ⟨rfl, by go_grown⟩
theorem fail_same {w : World} {g : Nat} {l : List UInt8} {e : Int} (h : RdAt w g l e) (x : Int) (hx : x = 0 ∨ e ≠ 0) : Calls Tryz.prog 117 #[.pointer (some ⟨g, 0, none⟩), .int .i64 x] w fun e' w' => e' = .returned (.tuple #[]) ∧ Below w.heap.size w w' := by
  obtain ⟨c0, c1⟩ := h.cells
  clear h
  by_cases h0 : x = 0
  · clear hx
    subst h0
    go_enter Tryz.func117, Tryz.ntmps117
    go_wp2
    go_returns
    exact ⟨rfl, by go_grown⟩
  · have he : e ≠ 0 := by rcases hx with hx | hx; exact absurd hx h0; exact hx
    have h1 : (x == 0) = false := by simpa using h0
    have h2 : (e == 0) = false := by simpa using he
    have h3 : (e != 0) = true := by simpa using he
    clear hx
    go_enter Tryz.func117, Tryz.ntmps117
    go_wp2
    go_returns
    exact ⟨rfl, by go_grown⟩
theorem fail_first {w : World} {g : Nat} {l : List UInt8} (h : RdAt w g l 0) (x : Int) (hx : x ≠ 0) : Calls Tryz.prog 117 #[.pointer (some ⟨g, 0, none⟩), .int .i64 x] w fun e' w' => e' = .returned (.tuple #[]) ∧ RdAt w' g [] x ∧ Keeps [g] w w' := by
  obtain ⟨c0, c1⟩ := h.cells
  have f0 := h.free 0
  have f1 := h.free 1
  replace h := Lib.hid h
  have h1 : (x == 0) = false := by simpa using hx
  replace hx := Lib.hid hx
  go_enter Tryz.func117, Tryz.ntmps117
  go_wp2
  go_returns
  exact ⟨rfl, (h.out.set1 x).set0 (l' := []) rfl, ((Keeps.refl _ _).setCell (Or.inl (by simp)) _).setCell (Or.inl (by simp)) _⟩

theorem bytes_nil (n : Int) (w : World) : Calls Tryz.prog 95 #[.pointer none, .int .i64 n] w fun e w' => e = .returned (.string (str [])) ∧ Below w.heap.size w w' := by
  go_enter Tryz.func95, Tryz.ntmps95
  go_wp2_with (go_at_call 116; (with_reducible refine (err_nil _).mono ?_); rintro e w1 ⟨rfl, hb⟩)
  go_ret
  exact ⟨rfl, hb⟩
theorem bytes_bad {w : World} {g : Nat} {l : List UInt8} {e : Int} (h : RdAt w g l e) (he : e ≠ 0) (n : Int) : Calls Tryz.prog 95 #[.pointer (some ⟨g, 0, none⟩), .int .i64 n] w fun e w' => e = .returned (.string (str [])) ∧ Below w.heap.size w w' := by
  have hc := err_any h
  have h3 : (e != 0) = true := by simpa using he
  clear h he
  go_enter Tryz.func95, Tryz.ntmps95
  go_wp2_with (go_at_call 116; (with_reducible refine hc.mono ?_); rintro e w1 ⟨rfl, hb⟩)
  go_ret
  exact ⟨rfl, hb⟩
theorem bytes_short {w : World} {g : Nat} {l : List UInt8} (h : RdAt w g l 0) (n : Int) (hn : n < 0 ∨ (l.length : Int) < n) : Calls Tryz.prog 95 #[.pointer (some ⟨g, 0, none⟩), .int .i64 n] w fun e w' => e = .returned (.string (str [])) ∧ RdAt w' g [] 2 ∧ Keeps [g] w w' := by
  have hc := err_any h
  have hz := str_size l
  have hlt := block_lt h
  by_cases h0 : n < 0
  · clear hn
    replace h := Lib.hid h
    go_enter Tryz.func95, Tryz.ntmps95
    go_wp2_with (first | (go_at_call 116; (with_reducible refine hc.mono ?_); rintro e w1 ⟨rfl, hb⟩; have h1 := h.out.below hb; have hf := fail_first h1 2 (by decide); replace h1 := Lib.hid h1) | (go_at_call 117; (with_reducible refine hf.mono ?_); rintro e w2 ⟨rfl, h2, k2⟩))
    go_ret
    exact ⟨rfl, h2, (Keeps.ofBelow hb _).trans k2⟩
  · have h1 : (l.length : Int) < n := by omega
    clear hn
    replace h := Lib.hid h
    go_enter Tryz.func95, Tryz.ntmps95
    go_wp2_with (first | (go_at_call 116; (with_reducible refine hc.mono ?_); rintro e w1 ⟨rfl, hb⟩; have h1 := h.out.below hb; obtain ⟨c0, c1⟩ := h1.cells; have hf := fail_first h1 2 (by decide); replace h1 := Lib.hid h1) | (go_at_call 117; (with_reducible refine hf.mono ?_); rintro e w2 ⟨rfl, h2, k2⟩))
    go_ret
    exact ⟨rfl, h2, (Keeps.ofBelow hb _).trans k2⟩
theorem bytes_take {w : World} {g : Nat} {l : List UInt8} (h : RdAt w g l 0) (n : Nat) (hn : n ≤ l.length) : Calls Tryz.prog 95 #[.pointer (some ⟨g, 0, none⟩), .int .i64 n] w fun e w' => e = .returned (.string (str (l.take n))) ∧ RdAt w' g (l.drop n) 0 ∧ Keeps [g] w w' := by
  have hc := err_any h
  have hz := str_size l
  have hlt := block_lt h
  have x1 : (str l).extract 0 n = str (l.take n) := by rw [str_extract]; simp
  have x2 : (str l).extract n (str l).size = str (l.drop n) := by rw [str_extract, hz]; congr 1; exact List.take_of_length_le (by simp)
  replace h := Lib.hid h
  replace x1 := Lib.hid x1
  replace x2 := Lib.hid x2
  go_enter Tryz.func95, Tryz.ntmps95
  go_wp2_with (go_at_call 116; (with_reducible refine hc.mono ?_); rintro e w1 ⟨rfl, hb⟩; have h1 := h.out.below hb; obtain ⟨c0, c1⟩ := h1.cells; have f0 := h1.free 0; replace h1 := Lib.hid h1)
  go_ret
  exact ⟨congrArg (fun x => Ending.returned (.string x)) x1.out, h1.out.set0 x2.out, (Keeps.ofBelow hb _).setCell (Or.inl (by simp)) _⟩

/-- what 'Num' takes: byte number i on, 'acc' being what came ahead: the number, what is left, the error -/
def rdNum (i acc : Nat) : List UInt8 → Nat × List UInt8 × Int
  | [] => (0, [], 2)
  | b :: r => if (0 < i ∧ b.toNat = 0) ∨ (i = 9 ∧ 1 < b.toNat) then (0, [], 3)
    else if b.toNat < 128 then (acc + b.toNat % 128 * 128 ^ i, r, 0) else rdNum (i + 1) (acc + b.toNat % 128 * 128 ^ i) r
def takeNum (most : Nat) (l : List UInt8) : Nat × List UInt8 × Int :=
  let x := rdNum 0 0 l
  if x.2.2 = 0 ∧ most < x.1 then (0, [], 3) else x

theorem and_127 (b : UInt8) : bits .and .u8 (b.toNat : Int) 127 = ((b.toNat % 128 : Nat) : Int) := by
  have := u8_and_nat b.toNat 127 (by have := b.toNat_lt; omega) (by omega)
  rw [show ((127 : Nat) : Int) = 127 from rfl] at this
  rw [this, Nat.and_two_pow_sub_one_eq_mod _ 7]
theorem pow_128 (j : Nat) : (2 : Nat) ^ (7 * j) = 128 ^ j := by rw [Nat.pow_mul]
theorem shl_part (b : UInt8) (j acc : Nat) (hj : j ≤ 9) (h9 : j = 9 → b.toNat ≤ 1) (hacc : acc < 128 ^ j) :
    b.toNat % 128 * 128 ^ j < 18446744073709551616 ∧ acc + b.toNat % 128 * 128 ^ j < 18446744073709551616 ∧
    (j < 9 → acc + b.toNat % 128 * 128 ^ j < 128 ^ (j + 1)) ∧ bits .or .u64 (acc : Int) ((b.toNat % 128 * 128 ^ j : Nat) : Int) = ((acc + b.toNat % 128 * 128 ^ j : Nat) : Int) := by
  have hq : b.toNat % 128 < 128 := Nat.mod_lt _ (by decide)
  have hlt : j < 9 → acc + b.toNat % 128 * 128 ^ j < 128 ^ (j + 1) := by
    intro _
    have : b.toNat % 128 * 128 ^ j ≤ 127 * 128 ^ j := Nat.mul_le_mul_right _ (by omega)
    rw [Nat.pow_succ]; omega
  have hsum : acc + b.toNat % 128 * 128 ^ j < 18446744073709551616 := by
    by_cases h : j = 9
    · subst h
      have h1 := h9 rfl
      have : b.toNat % 128 * 128 ^ 9 ≤ 1 * 128 ^ 9 := Nat.mul_le_mul_right _ (by omega)
      have e : (128 : Nat) ^ 9 = 9223372036854775808 := by decide
      rw [e] at *; omega
    · have := hlt (by omega)
      have h2 : (128 : Nat) ^ (j + 1) ≤ 128 ^ 9 := Nat.pow_le_pow_right (by decide) (by omega)
      have e : (128 : Nat) ^ 9 = 9223372036854775808 := by decide
      omega
  refine ⟨by omega, hsum, hlt, ?_⟩
  rw [u64_or_nat acc _ (by omega) (by omega), Nat.or_comm]
  congr 1
  have : 128 ^ j = 2 ^ (7 * j) := (pow_128 j).symm
  rw [this] at hacc ⊢
  rw [nat_join (7 * j) _ acc (by simp) hacc]; omega

/-- what 'Text' takes -/
def takeText (most : Int) (l : List UInt8) : List UInt8 × List UInt8 × Int :=
  let x := takeNum (min (max most 0) 65536).toNat l
  if x.2.2 ≠ 0 then ([], x.2.1, x.2.2) else if x.1 ≤ x.2.1.length then (x.2.1.take x.1, x.2.1.drop x.1, 0) else ([], [], 2)
theorem takeNum_le (m : Nat) (l : List UInt8) : (takeNum m l).1 ≤ m ∨ (takeNum m l).2.2 ≠ 0 := by
  unfold takeNum
  by_cases h : (rdNum 0 0 l).2.2 = 0
  · by_cases h2 : m < (rdNum 0 0 l).1
    · right; simp [h, h2]
    · left; simp [h, h2]; omega
  · right; simp [h]
theorem takeNum_none (m : Nat) (l : List UInt8) (h : (takeNum m l).2.2 ≠ 0) : (takeNum m l).1 = 0 := by
  have key : ∀ (l : List UInt8) (i acc : Nat), (rdNum i acc l).2.2 ≠ 0 → (rdNum i acc l).1 = 0 := by
    intro l
    induction l with
    | nil => intro i acc _; rfl
    | cons b r ih =>
      intro i acc hh
      unfold rdNum at hh ⊢
      split
      · rfl
      · split
        · rename_i h1 h2; simp [h1, h2] at hh
        · rename_i h1 h2; rw [if_neg h1, if_neg h2] at hh; exact ih _ _ hh
  unfold takeNum at h ⊢
  dsimp only at h ⊢
  by_cases h1 : (rdNum 0 0 l).2.2 = 0 ∧ m < (rdNum 0 0 l).1
  · rw [if_pos h1]
  · rw [if_neg h1] at h ⊢; exact key l 0 0 h

theorem rdNum_numL : ∀ (m n i acc : Nat) (r : List UInt8), n < 128 ^ (m + 1) → (i = 0 ∨ 0 < n) → i + m ≤ 9 → (i + m = 9 → n < 2 * 128 ^ m) → rdNum i acc (numL n ++ r) = (acc + n * 128 ^ i, r, 0)
  | m, n, i, acc, r, hn, h0, hi, h9 => by
    by_cases hs : n < 128
    · have hb : (UInt8.ofNat n).toNat = n := by rw [UInt8.toNat_ofNat']; exact Nat.mod_eq_of_lt (by omega)
      rw [numL_small n hs]
      show rdNum i acc (UInt8.ofNat n :: r) = _
      rw [rdNum, hb, if_neg, if_pos hs, Nat.mod_eq_of_lt hs]
      rintro (⟨a, b⟩ | ⟨a, b⟩)
      · omega
      · have hm : m = 0 := by omega
        subst hm; have := h9 (by omega); omega
    · match m with
      | 0 => simp at hn; omega
      | m + 1 =>
        have hb : (UInt8.ofNat (n % 128 + 128)).toNat = n % 128 + 128 := by rw [UInt8.toNat_ofNat']; exact Nat.mod_eq_of_lt (by omega)
        rw [numL_big n hs]
        show rdNum i acc (UInt8.ofNat (n % 128 + 128) :: (numL (n / 128) ++ r)) = _
        rw [rdNum, hb, if_neg (by omega), if_neg (by omega)]
        rw [rdNum_numL m (n / 128) (i + 1) _ r (by rw [Nat.div_lt_iff_lt_mul (by decide), ← Nat.pow_succ]; exact hn) (Or.inr (by omega)) (by omega)
          (fun h => by have := h9 (by omega); rw [Nat.div_lt_iff_lt_mul (by decide), Nat.mul_assoc, ← Nat.pow_succ]; exact this)]
        congr 1
        have e : (n % 128 + 128) % 128 = n % 128 := by omega
        rw [e, Nat.pow_succ, Nat.add_assoc]
        congr 1
        have e2 : n / 128 * (128 ^ i * 128) = (128 * (n / 128)) * 128 ^ i := by rw [Nat.mul_comm (128 ^ i) 128, ← Nat.mul_assoc, Nat.mul_comm (n / 128) 128]
        rw [e2, ← Nat.add_mul]
        congr 1
        omega
theorem takeNum_numL (n most : Nat) (r : List UInt8) (hn : n < 18446744073709551616) (hm : n ≤ most) : takeNum most (numL n ++ r) = (n, r, 0) := by
  have h9 : (128 : Nat) ^ 9 = 9223372036854775808 := by decide
  have h := rdNum_numL 9 n 0 0 r (Nat.lt_of_lt_of_le hn (by decide)) (Or.inl rfl) (by omega) (fun _ => by rw [h9]; omega)
  unfold takeNum
  rw [h]
  dsimp only
  rw [if_neg (by simp; omega)]
  simp
theorem takeText_put (s r : List UInt8) (most : Int) (hs : s.length ≤ 65536) (hm : (s.length : Int) ≤ most) : takeText most (numL s.length ++ (s ++ r)) = (s, r, 0) := by
  unfold takeText
  rw [takeNum_numL s.length _ _ (by omega) (by omega)]
  simp
end Go.Proofs.YtcdcipfojfnblaaGreatDoor.code
