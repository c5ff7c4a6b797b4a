/- Parts are the document's. That a variable of the library holds a number is a premise. No other condition. -/
import Derived.Test.YtmeaidkbkelclaaDoorOrderNone
import Derived.Test.YtmeaidkbkelclaaDoorShelf
namespace Go.Proofs.YtmeaidkbkelclaaDoor.order
open Go.RowKit
attribute [local go_sem ↓] Go.wp_at_zero Go.wp_at_succ
attribute [local go_sem] str_bl str_size str_get0 conv_one conv_one_drew str_append
set_option linter.unusedVariables false
set_option maxRecDepth 100000

/-- the library's variable holds some number -/
def MaxAt (w : World) : Prop := (∃ m, w.cell? ⟨3, 0, none⟩ = some (.int .i64 m)) ∧ 3 < w.heap.size
theorem MaxAt.keep {w w' : World} (h : MaxAt w) (k : Below w.heap.size w w') : MaxAt w' := ⟨h.1.imp fun m hm => (k.cell h.2).trans hm, Nat.lt_of_lt_of_le h.2 k.size⟩
theorem MaxAt.of {w : World} (h : ∃ m, w.cell? ⟨3, 0, none⟩ = some (.int .i64 m)) : MaxAt w := ⟨h, by obtain ⟨m, hm⟩ := h; exact World.block_lt_of_cell? w _ hm⟩

/-- bytes, each nought with 255 behind it -/
def esc (l : List UInt8) : List UInt8 := l.flatMap fun b => if b = 0 then [0, 255] else [b]
theorem replaceK_cons (b : UInt8) (hb : b ≠ 0) (new : List UInt8) : ∀ (k : Nat) (l : List UInt8), Lib.replaceK [0] new k (b :: l) = b :: Lib.replaceK [0] new k l
  | 0, l => rfl
  | k + 1, l => by
    have hp : ([0] : List UInt8).isPrefixOf (b :: l) = false := by simp [List.isPrefixOf] <;> exact fun e => hb e.symm
    have hi : Lib.index (b :: l) [0] = if Lib.index l [0] == -1 then -1 else Lib.index l [0] + 1 := by
      rw [Lib.index, if_neg (by simp [hp])]
    by_cases h : Lib.index l [0] = -1
    · rw [Lib.replaceK, hi, h, Lib.replaceK, h] <;> rfl
    · have hge := Lib.index_ge l [0]
      obtain ⟨i, hi2⟩ : ∃ i : Nat, Lib.index l [0] = i := ⟨(Lib.index l [0]).toNat, by omega⟩
      have hi3 : Lib.index (b :: l) [0] = ((i + 1 : Nat) : Int) := by
        rw [hi, hi2, if_neg (by simp <;> omega)] <;> omega
      rw [Lib.replaceK_hit _ _ _ _ _ hi3, Lib.replaceK_hit _ _ _ _ _ hi2]
      rfl
theorem replace_esc : ∀ l : List UInt8, Lib.replaceK [0] [0, 255] (Lib.count l [0]) l = esc l
  | [] => rfl
  | b :: l => by
    by_cases hb : b = 0
    · subst hb
      have hi : Lib.index (0 :: l) [0] = ((0 : Nat) : Int) := by rw [Lib.index, if_pos (by simp [List.isPrefixOf])]; rfl
      rw [Lib.count_cons_eq, Nat.add_comm, Lib.replaceK_hit _ _ _ _ _ hi]
      show [] ++ [0, 255] ++ Lib.replaceK [0] [0, 255] (Lib.count l [0]) l = _
      rw [replace_esc l]; rfl
    · rw [Lib.count_cons_ne b 0 l hb, replaceK_cons b hb, replace_esc l]
      simp [esc, hb]
theorem replaceAll_esc (l : List UInt8) : Lib.replaceAll l [0] [0, 255] = esc l := by
  unfold Lib.replaceAll Lib.replace
  rw [if_neg (by decide)]
  unfold Lib.replaceNum
  rw [if_pos (Or.inl (by decide))]
  exact replace_esc l
theorem esc_len (l : List UInt8) : (esc l).length ≤ 2 * l.length := by
  induction l with
  | nil => decide
  | cons b l ih =>
    have e : esc (b :: l) = (if b = 0 then [0, 255] else [b]) ++ esc l := rfl
    rw [e, List.length_append, List.length_cons]
    split <;> simp <;> omega
theorem esc_append (a b : List UInt8) : esc (a ++ b) = esc a ++ esc b := by simp [esc]
def textP (l : List UInt8) : List UInt8 := 48 :: esc l ++ [0, 1]

set_option maxRecDepth 100000 in
theorem otext_any (l : List UInt8) (hl : l.length ≤ 1000) (w : World) (hM : MaxAt w) : Calls Tryd.prog 79 #[.string (str l)] w fun e w' => e = .returned (.string (str (textP l))) ∧ Below w.heap.size w w' := by
  have hrep : ∀ w', MaxAt w' → Calls Tryd.prog 116 #[.string (str l), .string ⟨#[0]⟩, .string ⟨#[0, 255]⟩] w' fun e w2 => e = .returned (.string (str (esc l))) ∧ Below w'.heap.size w' w2 := fun w' h => by
    obtain ⟨m, hm⟩ := h.1
    have hc := Lib.count_le l [0]
    have hcb : Lib.countB (str l) ⟨#[0]⟩ ≤ 1001 := by show Lib.count l [0] ≤ 1001; omega
    have hsz : (str l).size = l.length := str_size l
    have := Go.Proofs.Tryd.strings_ReplaceAll (str l) ⟨#[0]⟩ ⟨#[0, 255]⟩ m w' (by omega) hm (by decide) (by
      have : (⟨#[0, 255]⟩ : ByteArray).size = 2 := rfl
      rw [this, hsz]; omega)
    have e : Lib.replaceAll (str l).data.toList (⟨#[0]⟩ : ByteArray).data.toList (⟨#[0, 255]⟩ : ByteArray).data.toList = esc l := replaceAll_esc l
    rw [e] at this
    exact this
  have hel := esc_len l
  have room1 : ¬ 9223372036854775807 < 1 + (esc l).length := by omega
  have room2 : ¬ 9223372036854775807 < 1 + (esc l).length + 2 := by omega
  have hz : (⟨#[0, 1]⟩ : ByteArray) = str [0, 1] := rfl
  obtain ⟨E, hE⟩ : ∃ E, E = esc l := ⟨_, rfl⟩
  unfold textP
  rw [← hE] at hrep room1 room2 ⊢
  replace hrep := Lib.hid hrep
  have hM0 : MaxAt w.drew := hM
  have hM1 : ∀ o, MaxAt (w.alloc o).drew := fun o => hM.keep (((Below.refl _ w).alloc (Nat.le_refl _) o).drew)
  replace hM0 := Lib.hid hM0
  replace hM1 := Lib.hid hM1
  clear hE hel hl hM
  go_enter Tryd.func79, Tryd.ntmps79
  go_upto_region 1 with fail
  go_region_with (go_at_call 116; (first | (with_reducible refine (hrep.out _ hM0.out).mono ?_) | (with_reducible refine (hrep.out _ (hM1.out _)).mono ?_)); rintro e w1 ⟨rfl, b1⟩; (try (have hcv := conv_at w1 w.heap.size 1 _ ((b1.cell (p := ⟨w.heap.size, 0, none⟩) (by simp)).trans (newCell _ _ _ 0)))))
  all_goals go_wp2
  all_goals go_ret
  all_goals refine ⟨rfl, ?_⟩
  all_goals first | exact ((((Below.refl _ _).alloc (Nat.le_refl _) _).drew.trans (b1.mono (by simp)))) | exact (((Below.refl _ w).drew.trans b1).alloc b1.size _)
theorem high_step (n k : Nat) (r : List UInt8) : beL k (n / 256) ++ UInt8.ofNat (n % 256) :: r = beL (k + 1) n ++ r := by
  have e : beL (k + 1) n = beL k (n / 256) ++ [UInt8.ofNat (n % 256)] := by
    unfold beL
    rw [List.range_succ, List.map_append]
    congr 1
    · apply List.map_congr_left
      intro i hi
      simp at hi
      have e1 : k + 1 - 1 - i = (k - 1 - i) + 1 := by omega
      rw [e1, Nat.pow_succ, Nat.mul_comm, ← Nat.div_div_eq_div_mul]
    · simp
  rw [e]; simp

set_option maxRecDepth 100000 in
set_option maxHeartbeats 1000000 in
theorem refHigh_any (n k : Nat) (hn : n < 18446744073709551616) (hk : k ≤ 8) (w : World) :
    Calls Tryd.prog 98 #[.int .u64 (n : Int), .int .i64 (k : Int)] w fun e w' => e = .returned (.string (str (beL k n))) ∧ Below w.heap.size w w' := by
  replace hn := Lib.hid hn
  go_enter Tryd.func98, Tryd.ntmps98
  go_wp2
  go_loopg [0, 5, 6] k (fun gn s0 s5 s6 wr => ∃ (i m : Nat) (l : List UInt8), s0 = .int .u64 (m : Int) ∧ s5 = .string (str l) ∧ s6 = .int .i64 (i : Int) ∧ i + gn = k ∧ l.length = i ∧ Hid (m < 18446744073709551616) ∧ beL gn m ++ l = beL k n ∧ Below w.heap.size w wr)
  case atStart => exact ⟨0, n, [], rfl, rfl, rfl, by omega, rfl, hn, by simp, Below.refl _ _⟩
  case round =>
    obtain ⟨i, m, l, rfl, rfl, rfl, hik, hl, hmn, hm, hbel⟩ := hrel
    by_cases h0 : gk = 0
    · subst h0
      obtain rfl : i = k := by omega
      have e : l = beL i n := by rw [← hm]; simp [beL]
      clear hm hik
      go_wp2
      go_ret
      exact ⟨by rw [e]; rfl, hbel⟩
    · obtain ⟨G, rfl⟩ : ∃ G : Nat, gk = G + 1 := ⟨gk - 1, by omega⟩
      have h1 : i < k := by omega
      have h2 : i < 8 := by omega
      have hst := high_step m G l
      rw [hm] at hst
      have hq := Nat.mod_lt m (show 256 > 0 by decide)
      obtain ⟨q, hq1⟩ : ∃ q : Nat, q = m % 256 := ⟨_, rfl⟩
      have e1 : (m : Int) % 256 = (q : Int) := by omega
      have e2 : IntKind.u8.wrap (q : Int) = q := IntWalk.u8_in _ (by omega)
      have e3 : (m : Int) / 256 = ((m / 256 : Nat) : Int) := by omega
      have hroom : ¬ 9223372036854775807 < 1 + l.length := by omega
      have hp : m / 256 < 18446744073709551616 := by have := hmn.out; omega
      have e4 : IntKind.u64.wrap ((m / 256 : Nat) : Int) = ((m / 256 : Nat) : Int) := IntWalk.u64_in _ (by omega)
      generalize m / 256 = p at *
      replace hp := Lib.hid hp
      rw [← hq1] at hst
      replace hst := Lib.hid hst
      replace hq := Lib.hid hq
      replace hq1 := Lib.hid hq1
      replace hm := Lib.hid hm
      replace hl := Lib.hid hl
      clear h0
      go_wp2
      go_roundg G
      case measure => omega
      case rel => exact ⟨i + 1, p, UInt8.ofNat q :: l, by go_num, rfl, by go_num, by omega, by simp [hl.out], hp, hst.out, hbel.alloc hbel.size _⟩

set_option maxRecDepth 100000 in
set_option maxHeartbeats 1000000 in
theorem rnum_any (n : Nat) (hn : n < 18446744073709551616) (w : World) : Calls Tryd.prog 85 #[.int .u64 (n : Int)] w fun e w' => e = .returned (.string (str (numP n))) ∧ Below w.heap.size w w' := by
  have h256 : n < 256 ^ 8 := by have : (256 : Nat) ^ 8 = 18446744073709551616 := by decide
                                omega
  replace hn := Lib.hid hn
  replace h256 := Lib.hid h256
  go_enter Tryd.func85, Tryd.ntmps85
  go_wp2
  go_loopg [0, 3] 8 (fun gn s0 s3 wr => ∃ (m : Nat) (l : List UInt8), s0 = .int .u64 (m : Int) ∧ s3 = .string (str l) ∧ m < 256 ^ gn ∧ gn ≤ 8 ∧ l.length + gn = 8 ∧ beL gn m ++ l = beL 8 n ∧ (m = 0 → l.dropWhile (· == 0) = l) ∧ Below w.heap.size w wr)
  case atStart => exact ⟨n, [], rfl, rfl, h256.out, Nat.le_refl _, rfl, by simp, fun _ => rfl, Below.refl _ _⟩
  case round =>
    obtain ⟨m, l, rfl, rfl, hm, hg, hl, hb, hd, hB⟩ := hrel
    by_cases h0 : m = 0
    · subst h0
      have hz : beL gk 0 = List.replicate gk 0 := by
        apply List.ext_getElem
        · simp [beL]
        · intro i h1 h2; simp [beL]
      have hdw : (beL 8 n).dropWhile (· == 0) = l := by
        rw [← hb, hz]
        have : ∀ k, (List.replicate k (0 : UInt8) ++ l).dropWhile (· == 0) = l.dropWhile (· == 0) := by
          intro k; induction k with
          | zero => rfl
          | succ k ih => rw [List.replicate_succ]; simp [ih]
        rw [this]; exact hd rfl
      have hfin : numP n = UInt8.ofNat (16 + l.length) :: l := by unfold numP; rw [hdw]
      obtain ⟨z, hzz⟩ : ∃ z : Nat, z = 16 + l.length := ⟨_, rfl⟩
      rw [← hzz] at hfin
      have e1 : (16 : Int) + l.length = z := by omega
      have e2 : (z : Int) % 256 = z := by omega
      have e3 : IntKind.u8.wrap (z : Int) = z := IntWalk.u8_in _ (by omega)
      have hroom : ¬ 9223372036854775807 < 1 + l.length := by omega
      replace hfin := Lib.hid hfin
      replace hzz := Lib.hid hzz
      clear hd hb hm hz hdw hl hg
      go_wp2
      go_ret
      exact ⟨by rw [hfin.out]; rfl, hB.alloc hB.size _⟩
    · obtain ⟨G, rfl⟩ : ∃ G : Nat, gk = G + 1 := ⟨gk - 1, by
        rcases Nat.eq_zero_or_pos gk with h | h
        · subst h; simp at hm; omega
        · omega⟩
      have hpos : (0 : Int) < (m : Int) := by omega
      have hst := high_step m G l
      rw [hb] at hst
      obtain ⟨q, hq1⟩ : ∃ q : Nat, q = m % 256 := ⟨_, rfl⟩
      have e1 : (m : Int) % 256 = (q : Int) := by omega
      have e1b : (m : Int).tmod 256 = (q : Int) := by rw [IntWalk.rem_in _ _ (by omega)]; exact e1
      have e2 : IntKind.u8.wrap (q : Int) = q := IntWalk.u8_in _ (by omega)
      have e3 : (m : Int) / 256 = ((m / 256 : Nat) : Int) := by omega
      have hroom : ¬ 9223372036854775807 < 1 + l.length := by omega
      have hp : m / 256 < 256 ^ G := by rw [Nat.div_lt_iff_lt_mul (by decide), ← Nat.pow_succ]; exact hm
      have hle : (256 : Nat) ^ G ≤ 256 ^ 8 := Nat.pow_le_pow_right (by decide) (by omega)
      have e4 : IntKind.u64.wrap ((m / 256 : Nat) : Int) = ((m / 256 : Nat) : Int) := IntWalk.u64_in _ (by
        have : (256 : Nat) ^ 8 = 18446744073709551616 := by decide
        omega)
      have hd2 : m / 256 = 0 → (UInt8.ofNat q :: l).dropWhile (· == 0) = UInt8.ofNat q :: l := by
        intro h
        have : UInt8.ofNat q ≠ 0 := by
          intro e
          have := congrArg UInt8.toNat e
          rw [UInt8.toNat_ofNat'] at this
          simp at this
          omega
        simp [this]
      generalize m / 256 = p at *
      rw [← hq1] at hst
      replace hst := Lib.hid hst
      replace hq1 := Lib.hid hq1
      replace hp := Lib.hid hp
      replace hd2 := Lib.hid hd2
      replace hl := Lib.hid hl
      replace hg := Lib.hid hg
      clear h0 hd hb hm hle
      go_wp2
      go_roundg G
      case measure => omega
      case rel => exact ⟨p, UInt8.ofNat q :: l, by go_num, rfl, hp.out, by have := hg.out; omega, by have := hl.out; simp; omega, hst.out, hd2.out, hB.alloc hB.size _⟩

theorem xor63 (x : Nat) (hx : x < 18446744073709551616) : x ^^^ 9223372036854775808 = (x + 9223372036854775808) % 18446744073709551616 := by
  apply Nat.eq_of_testBit_eq
  intro i
  rw [Nat.testBit_xor, show (9223372036854775808 : Nat) = 2 ^ 63 from rfl, show (18446744073709551616 : Nat) = 2 ^ 64 from rfl, Nat.testBit_mod_two_pow, Nat.testBit_two_pow, Nat.add_comm]
  rcases Nat.lt_trichotomy i 63 with h | h | h
  · rw [Nat.testBit_two_pow_add_gt h]
    simp [show i < 64 by omega, show ¬ 63 = i by omega]
  · subst h
    rw [Nat.testBit_two_pow_add_eq]
    simp
  · have hi : ¬ i < 64 := by omega
    have : x.testBit i = false := Nat.testBit_lt_two_pow (Nat.lt_of_lt_of_le hx (Nat.pow_le_pow_right (by decide) (by omega) : 2 ^ 64 ≤ 2 ^ i))
    simp [hi, this]; omega
theorem int_bits (a : Int) : ∃ m : Nat, bits .xor .u64 (IntKind.u64.wrap a) 9223372036854775808 = (m : Int) ∧ IntKind.u64.wrap (IntKind.u64.wrap a + 9223372036854775808) = (m : Int) ∧ m < 18446744073709551616 := by
  obtain ⟨x, hx, hx2⟩ : ∃ x : Nat, IntKind.u64.wrap a = (x : Int) ∧ x < 18446744073709551616 := ⟨(a % 18446744073709551616).toNat, by rw [IntKind.wrap_u64]; omega, by omega⟩
  refine ⟨(x + 9223372036854775808) % 18446744073709551616, ?_, ?_, Nat.mod_lt _ (by decide)⟩
  · rw [hx, show (9223372036854775808 : Int) = ((9223372036854775808 : Nat) : Int) from rfl, u64_xor_nat _ _ hx2 (by decide), xor63 x hx2]
  · rw [hx, IntKind.wrap_u64]; omega
theorem rint_any (m : Nat) (a : Int) (hm : m < 18446744073709551616) (h : IntKind.u64.wrap (IntKind.u64.wrap a + 9223372036854775808) = (m : Int)) (w : World) : Calls Tryd.prog 87 #[.int .i64 a] w fun e w' => e = .returned (.string (str (32 :: beL 8 m))) ∧ Below w.heap.size w w' := by
  have hh : ∀ w', Calls Tryd.prog 98 #[.int .u64 (m : Int), .int .i64 8] w' fun e w2 => e = .returned (.string (str (beL 8 m))) ∧ Below w'.heap.size w' w2 := fun w' => refHigh_any m 8 hm (by omega) w'
  have hz : (⟨#[32]⟩ : ByteArray) = str [32] := rfl
  have hroom : ¬ 9223372036854775807 < 1 + (beL 8 m).length := by rw [beL_length]; omega
  replace hm := Lib.hid hm
  replace hh := Lib.hid hh
  go_enter Tryd.func87, Tryd.ntmps87
  go_wp2_with (go_at_call 98; (with_reducible refine (hh.out _).mono ?_); rintro e w1 ⟨rfl, b1⟩)
  go_ret
  exact ⟨rfl, b1⟩
set_option maxRecDepth 100000 in
theorem rtext_any (l : List UInt8) (hl : l.length ≤ 1000) (w : World) : Calls Tryd.prog 86 #[.string (str l)] w fun e w' => e = .returned (.string (str (textP l))) ∧ Below w.heap.size w w' := by
  have h48 : (⟨#[48]⟩ : ByteArray) = str [48] := rfl
  have h255 : (⟨#[255]⟩ : ByteArray) = str [255] := rfl
  have h01 : (⟨#[0, 1]⟩ : ByteArray) = str [0, 1] := rfl
  have hcut : ∀ i b : Nat, l[i]? = some (UInt8.ofNat b) → (str l).extract i (i + 1) = str [UInt8.ofNat b] := fun i b h => by
    obtain ⟨hi, he⟩ := List.getElem?_eq_some_iff.1 h
    rw [cut_extract, show i + 1 - i = 1 by omega, List.drop_eq_getElem_cons hi, he]; rfl
  have hgt : ∀ i (h : i < (str l).size) (b : UInt8), l[i]? = some b → (str l)[i]'h = b := fun i h b hb => by
    obtain ⟨hi, he⟩ := List.getElem?_eq_some_iff.1 hb
    exact he
  replace hcut := Lib.hid hcut
  replace hgt := Lib.hid hgt
  replace hl := Lib.hid hl
  go_enter Tryd.func86, Tryd.ntmps86
  go_wp2
  go_loopg [3, 4] l.length (fun gn s3 s4 wr => ∃ i : Nat, s3 = .string (str (48 :: esc (l.take i))) ∧ s4 = .int .i64 (i : Int) ∧ i + gn = l.length ∧ wr = w)
  case atStart => exact ⟨0, rfl, rfl, by omega, rfl⟩
  case round =>
    obtain ⟨i, rfl, rfl, hi, rfl⟩ := hrel
    have hel := esc_len (l.take i)
    rw [List.length_take] at hel
    by_cases h0 : gk = 0
    · obtain rfl : i = l.length := by omega
      rw [List.take_length] at hel ⊢
      have hlt : ¬ ((l.length : Int) < (l.length : Int)) := by omega
      have hroom : ¬ 9223372036854775807 < (esc l).length + 1 + 2 := by have := hl.out; omega
      obtain ⟨E, hE⟩ : ∃ E, E = esc l := ⟨_, rfl⟩
      have hfin : textP l = 48 :: E ++ [0, 1] := by rw [hE]; rfl
      rw [← hE] at hroom ⊢
      replace hfin := Lib.hid hfin
      clear hE hel hi h0
      go_wp2
      go_ret
      exact ⟨by rw [hfin.out]; rfl, Below.refl _ _⟩
    · obtain ⟨K, rfl⟩ : ∃ K : Nat, gk = K + 1 := ⟨gk - 1, by omega⟩
      have hil : i < l.length := by omega
      have i0 : (0 : Int) ≤ (i : Int) := by omega
      have i1 : (i : Int) < (l.length : Int) := by omega
      have i2 : (i : Int) + 1 ≤ (l.length : Int) := by omega
      have i3 : IntKind.i64.wrap ((i : Int) + 1) = (i : Int) + 1 := by have := hl.out; rw [IntKind.wrap_i64]; omega
      obtain ⟨b, hb⟩ : ∃ b, l[i]? = some b := ⟨_, List.getElem?_eq_getElem hil⟩
      obtain ⟨nb, hnb⟩ : ∃ n, n = b.toNat := ⟨_, rfl⟩
      have hbb : UInt8.ofNat nb = b := by rw [hnb, UInt8.ofNat_toNat]
      have hc := hcut.out i nb (by rw [hbb]; exact hb)
      rw [hbb] at hc
      have hg : ∀ h, (((str l)[i]'h).toNat : Int) = (nb : Int) := fun h => by rw [hgt.out i h b hb, hnb]
      have htake : esc (l.take (i + 1)) = esc (l.take i) ++ (if b = 0 then [0, 255] else [b]) := by
        rw [List.take_add_one, hb, esc_append]; simp [esc]
      obtain ⟨E, hE⟩ : ∃ E, E = esc (l.take i) := ⟨_, rfl⟩
      rw [← hE] at hel htake ⊢
      have room1 : ¬ 9223372036854775807 < E.length + 1 + 1 := by have := hl.out; omega
      have room2 : ¬ 9223372036854775807 < E.length + 1 + 1 + 1 := by have := hl.out; omega
      have hi2 := Lib.hid hi
      clear hE hel hi h0 hil hb
      by_cases hz : b = 0
      · subst hz
        rw [if_pos rfl] at htake
        obtain rfl : nb = 0 := hnb
        replace htake := Lib.hid htake
        clear hbb
        go_wp2
        go_roundg K
        case measure => omega
        case rel => exact ⟨i + 1, by rw [htake.out] <;> first | rfl | simp, by go_num, by have := hi2.out; omega, rfl⟩
      · rw [if_neg hz] at htake
        have hnz : ¬ ((nb : Int) = 0) := by
          intro e
          apply hz
          apply UInt8.toNat_inj.1
          rw [← hnb]; simpa using e
        have hnz2 : (((nb : Int)) == 0) = false := by simpa using hnz
        replace htake := Lib.hid htake
        clear hnb hbb hz
        go_wp2
        go_roundg K
        case measure => omega
        case rel => exact ⟨i + 1, by rw [htake.out] <;> first | rfl | simp, by go_num, by have := hi2.out; omega, rfl⟩
end Go.Proofs.YtmeaidkbkelclaaDoor.order
