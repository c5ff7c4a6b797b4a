/- Numbers of a fixed width (package code): Big and Small, put and taken. No condition. -/
import Derived.Test.YtcdcipfojfnblaaGreatDoorCode
namespace Go.Proofs.YtcdcipfojfnblaaGreatDoor.code
open Go.RowKit
attribute [local go_sem ↓] Go.wp_at_zero Go.wp_at_succ
attribute [local go_sem] str_bl str_size str_get0
set_option linter.unusedVariables false
set_option maxRecDepth 100000

/-- k bytes of n, the highest first -/
def beL (k n : Nat) : List UInt8 := (List.range k).map fun i => UInt8.ofNat (n / 256 ^ (k - 1 - i) % 256)
theorem beL_length (k n : Nat) : (beL k n).length = k := by simp [beL]

set_option maxRecDepth 100000 in
set_option maxHeartbeats 1000000 in
theorem high_any (n k : Nat) (hk : k ≤ 8) (w : World) :
    Calls Tryz.prog 86 #[.int .u64 (n : Int), .int .i64 (k : Int)] w fun e w' => e = .returned (.string (str (beL k n))) ∧ Below w.heap.size w w' := by
  have hmk := fun W => run_make_bytes k (by omega) W
  have hb0 := byteBlk_made w k
  replace hb0 := Lib.hid hb0
  go_enter Tryz.func86, Tryz.ntmps86
  go_wp2
  go_loopg [0, 6] k (fun gn s0 s6 wr => ∃ (m : Nat) (i : Int) (l : List UInt8), s0 = .int .u64 (m : Int) ∧ s6 = .int .i64 i ∧ i = (gn : Int) - 1 ∧ gn ≤ k ∧ m = n / 256 ^ (k - gn) ∧ l.length = k ∧ (∀ j, gn ≤ j → j < k → l.getD j 0 = (beL k n).getD j 0) ∧ ByteBlk wr w.heap.size l ∧ Below w.heap.size w wr)
  case atStart => exact ⟨n, (k : Int) - 1, _, rfl, rfl, rfl, Nat.le_refl _, by simp, by simp, fun j h1 h2 => by omega, hb0.out, (Below.refl _ _).alloc (Nat.le_refl _) _⟩
  case round =>
    obtain ⟨m, i, l, rfl, rfl, hi, hg, hm, hl, hall, hblk, hbel⟩ := hrel
    by_cases h0 : gk = 0
    · have e : l = beL k n := by
        apply List.ext_getElem?
        intro j
        by_cases hj : j < k
        · have h1 : j < (beL k n).length := by rw [beL_length]; exact hj
          have := hall j (by omega) hj
          simpa [List.getD, List.getElem?_eq_getElem (show j < l.length by omega), List.getElem?_eq_getElem h1] using this
        · rw [List.getElem?_eq_none (by omega), List.getElem?_eq_none (by rw [beL_length]; omega)]
      have ht := hblk.text k
      rw [hl, e] at ht
      have hi2 : i < 0 := by omega
      clear hall hi h0 hm hl e hblk
      go_wp2
      go_ret
      exact ⟨rfl, hbel⟩
    · obtain ⟨K, rfl⟩ : ∃ K : Nat, gk = K + 1 := ⟨gk - 1, by omega⟩
      obtain rfl : i = (K : Int) := by omega
      have hK0 : (0 : Int) ≤ K := by omega
      have hKk : (K : Int) < k := by omega
      have hKl : K < l.length := by omega
      have hc := hblk.cell hKl
      have hf := hblk.free K
      have hv : (beL k n).getD K 0 = UInt8.ofNat (m % 256) := by
        have h1 : K < (beL k n).length := by rw [beL_length]; omega
        rw [List.getD, List.getElem?_eq_getElem h1]
        have ek : k - 1 - K = k - (K + 1) := by omega
        simp [beL, hm, ek]
      have hm2 : m / 256 = n / 256 ^ (k - K) := by rw [hm, Nat.div_div_eq_div_mul, ← Nat.pow_succ]; congr 2; omega
      replace hall := Lib.hid hall
      replace hblk := Lib.hid hblk
      replace hm := Lib.hid hm
      replace hm2 := Lib.hid hm2
      replace hv := Lib.hid hv
      replace hl := Lib.hid hl
      clear hi h0
      go_wp2
      go_roundg K
      case measure => omega
      case rel =>
        refine ⟨m / 256, (K : Int) - 1, l.set K (UInt8.ofNat ((m : Int) % 256).toNat), by go_num, rfl, rfl, by omega, hm2.out, by simpa using hl.out, fun j h1 h2 => ?_, ?_, hbel.setCell (Nat.le_refl _) _⟩
        · have e8 : ((m : Int) % 256).toNat = m % 256 := by omega
          rw [e8]
          by_cases hj : j = K
          · subst hj; rw [hv.out]; simp [List.getD, hKl]
          · rw [← hall.out j (by omega) h2]; simp [List.getD, List.getElem?_set, show ¬ K = j from fun e => hj e.symm]
        · exact hblk.out.put (by omega)
theorem big_put (n : Nat) (w : World) : Calls Tryz.prog 64 #[.int .u64 (n : Int)] w fun e w' => e = .returned (.string (str (beL 8 n))) ∧ Below w.heap.size w w' := by
  have hh : Calls Tryz.prog 86 #[.int .u64 (n : Int), .int .i64 8] w fun e w' => e = .returned (.string (str (beL 8 n))) ∧ Below w.heap.size w w' := high_any n 8 (by omega) w
  go_enter Tryz.func64, Tryz.ntmps64
  go_wp2_with (go_at_call 86; (with_reducible refine hh.mono ?_); rintro e w1 ⟨rfl, b1⟩)
  go_ret
  exact ⟨rfl, b1⟩
theorem small_put (n : Nat) (hn : n < 4294967296) (w : World) : Calls Tryz.prog 65 #[.int .u32 (n : Int)] w fun e w' => e = .returned (.string (str (beL 4 n))) ∧ Below w.heap.size w w' := by
  have hh : Calls Tryz.prog 86 #[.int .u64 (n : Int), .int .i64 4] w fun e w' => e = .returned (.string (str (beL 4 n))) ∧ Below w.heap.size w w' := high_any n 4 (by omega) w
  have hw : IntKind.u64.wrap (n : Int) = n := IntWalk.u64_in _ (by omega)
  replace hn := Lib.hid hn
  go_enter Tryz.func65, Tryz.ntmps65
  go_wp2_with (go_at_call 86; (with_reducible refine hh.mono ?_); rintro e w1 ⟨rfl, b1⟩)
  go_ret
  exact ⟨rfl, b1⟩

/-- bytes as a number, the highest first -/
def beNat (l : List UInt8) : Nat := l.foldl (fun a b => a * 256 + b.toNat) 0
theorem beNat_snoc (l : List UInt8) (b : UInt8) : beNat (l ++ [b]) = beNat l * 256 + b.toNat := by simp [beNat]
theorem beNat_lt (l : List UInt8) : beNat l < 256 ^ l.length := by
  have key : ∀ (l : List UInt8) (a k : Nat), a < 256 ^ k → l.foldl (fun a b => a * 256 + b.toNat) a < 256 ^ (k + l.length) := by
    intro l
    induction l with
    | nil => intro a k h; simpa using h
    | cons b r ih =>
      intro a k h
      have := b.toNat_lt
      have h1 : a * 256 + b.toNat < 256 ^ (k + 1) := by rw [Nat.pow_succ]; omega
      have := ih _ _ h1
      simp only [List.foldl_cons, List.length_cons]
      rw [show k + (r.length + 1) = k + 1 + r.length by omega]; exact this
  have := key l 0 0 (by simp)
  simpa [beNat] using this
theorem beNat_beL (k n : Nat) : beNat (beL k n) = n % 256 ^ k := by
  have key : ∀ j, j ≤ k → beNat ((beL k n).take j) = n / 256 ^ (k - j) % 256 ^ j := by
    intro j
    induction j with
    | zero => intro _; simp [beNat, Nat.mod_one]
    | succ j ih =>
      intro hj
      have hjl : j < (beL k n).length := by rw [beL_length]; omega
      have hb : (beL k n)[j] = UInt8.ofNat (n / 256 ^ (k - 1 - j) % 256) := by simp [beL]
      rw [List.take_add_one, List.getElem?_eq_getElem hjl, hb]
      show beNat (_ ++ [_]) = _
      rw [beNat_snoc, ih (by omega)]
      have e : (UInt8.ofNat (n / 256 ^ (k - 1 - j) % 256)).toNat = n / 256 ^ (k - 1 - j) % 256 := by rw [UInt8.toNat_ofNat']; exact Nat.mod_eq_of_lt (by omega)
      rw [e]
      have e1 : k - j = (k - 1 - j) + 1 := by omega
      have e2 : k - (j + 1) = k - 1 - j := by omega
      rw [e1, e2, Nat.pow_succ 256 (k - 1 - j), ← Nat.div_div_eq_div_mul, Nat.pow_succ 256 j, Nat.mul_comm (256 ^ j) 256, Nat.mod_mul]
      omega
  have := key k (Nat.le_refl _)
  rw [List.take_of_length_le (by rw [beL_length]; exact Nat.le_refl _)] at this
  simpa using this

theorem shl_or (a b : Nat) (ha : a < 72057594037927936) (hb : b < 256) : bits .or .u64 (IntKind.u64.wrap ((a : Int) * 256)) (IntKind.u64.wrap (b : Int)) = ((a * 256 + b : Nat) : Int) := by
  have e : IntKind.u64.wrap ((a : Int) * 256) = ((a * 256 : Nat) : Int) := by
    rw [IntWalk.u64_in _ (by omega)]; omega
  rw [e, IntWalk.u64_in _ (by omega), u64_or_nat _ _ (by omega) (by omega)]
  congr 1
  exact nat_join 8 _ b (by omega) (by omega)
theorem pow_256_le (k : Nat) (hk : k ≤ 7) : 256 ^ k ≤ 72057594037927936 := Nat.le_trans (Nat.pow_le_pow_right (by decide) hk) (by decide)

/-- what a number of k bytes takes: it, what is left, the error -/
def takeBe (k : Nat) (l : List UInt8) : Nat × List UInt8 × Int := if k ≤ l.length then (beNat (l.take k), l.drop k, 0) else (0, [], 2)
set_option maxRecDepth 100000 in
set_option maxHeartbeats 1000000 in
theorem number_any {w : World} {g : Nat} {l : List UInt8} (h : RdAt w g l 0) (k : Nat) (hk : k ≤ 8) :
    Calls Tryz.prog 70 #[.pointer (some ⟨g, 0, none⟩), .int .i64 (k : Int)] w fun e w' => e = .returned (.int .u64 ((takeBe k l).1 : Int)) ∧ RdAt w' g (takeBe k l).2.1 (takeBe k l).2.2 ∧ Keeps [g] w w' := by
  obtain ⟨t, ht, htk, hb⟩ : ∃ t : List UInt8, beNat t = (takeBe k l).1 ∧ t.length ≤ k ∧ Calls Tryz.prog 95 #[.pointer (some ⟨g, 0, none⟩), .int .i64 (k : Int)] w fun e w' => e = .returned (.string (str t)) ∧ RdAt w' g (takeBe k l).2.1 (takeBe k l).2.2 ∧ Keeps [g] w w' := by
    unfold takeBe
    by_cases hl : k ≤ l.length
    · rw [if_pos hl]; exact ⟨l.take k, rfl, by simp; omega, bytes_take h k hl⟩
    · rw [if_neg hl]; exact ⟨[], rfl, by simp, bytes_short h k (by omega)⟩
  rw [← ht]
  generalize (takeBe k l).2.1 = r at *
  generalize (takeBe k l).2.2 = e at *
  clear ht
  have hz := str_size t
  replace h := Lib.hid h
  go_enter Tryz.func70, Tryz.ntmps70
  go_wp2_with (go_at_call 95; (with_reducible refine hb.mono ?_); rintro e w1 ⟨rfl, h1, k1⟩; replace h1 := Lib.hid h1; replace k1 := Lib.hid k1)
  go_loop [5, 13] (fun a i => ∃ j : Nat, j ≤ t.length ∧ i = .int .i64 (j : Int) ∧ a = .int .u64 ((beNat (t.take j) : Nat) : Int)) (fun _ i => t.length - (intOf i).toNat)
  case atStart => exact ⟨0, by omega, rfl, rfl⟩
  case round =>
    obtain ⟨j, hj, rfl, rfl⟩ := hrel
    by_cases hlt : j < t.length
    · have hb1 := beNat_lt (t.take j)
      have hle := pow_256_le j (by omega)
      rw [List.length_take, Nat.min_eq_left (by omega)] at hb1
      have hst : beNat (t.take (j + 1)) = beNat (t.take j) * 256 + t[j].toNat := by rw [List.take_add_one, List.getElem?_eq_getElem hlt]; exact beNat_snoc _ _
      have hor := shl_or (beNat (t.take j)) t[j].toNat (by omega) t[j].toNat_lt
      have hidx : ∀ hh : j < (str t).size, (str t)[j]'hh = t[j] := fun _ => rfl
      generalize beNat (t.take j) = a at *
      generalize a * 256 + t[j].toNat = b at *
      replace hst := Lib.hid hst
      replace hb1 := Lib.hid hb1
      replace hle := Lib.hid hle
      go_wp2
      go_round
      case rel => exact ⟨j + 1, by omega, by go_num, by rw [hst.out]; exact congrArg (Value.int IntKind.u64) hor⟩
      case measure => simp [intOf]; omega
    · obtain rfl : j = t.length := by omega
      rw [List.take_length]
      go_wp2
      go_ret
      exact ⟨rfl, h1.out, k1.out⟩
theorem big_take {w : World} {g : Nat} {l : List UInt8} (h : RdAt w g l 0) : Calls Tryz.prog 48 #[.pointer (some ⟨g, 0, none⟩)] w fun e w' => e = .returned (.int .u64 ((takeBe 8 l).1 : Int)) ∧ RdAt w' g (takeBe 8 l).2.1 (takeBe 8 l).2.2 ∧ Keeps [g] w w' := by
  have hh : Calls Tryz.prog 70 #[.pointer (some ⟨g, 0, none⟩), .int .i64 8] w fun e w' => e = .returned (.int .u64 ((takeBe 8 l).1 : Int)) ∧ RdAt w' g (takeBe 8 l).2.1 (takeBe 8 l).2.2 ∧ Keeps [g] w w' := number_any h 8 (by omega)
  go_enter Tryz.func48, Tryz.ntmps48
  go_wp2_with (go_at_call 70; (with_reducible refine hh.mono ?_); rintro e w1 ⟨rfl, h1, k1⟩)
  go_ret
  exact ⟨rfl, h1, k1⟩
theorem takeBe_lt (k : Nat) (l : List UInt8) : (takeBe k l).1 < 256 ^ k := by
  unfold takeBe
  split
  · rename_i h; have := beNat_lt (l.take k); rwa [List.length_take, Nat.min_eq_left h] at this
  · exact Nat.pow_pos (by decide)
theorem small_take {w : World} {g : Nat} {l : List UInt8} (h : RdAt w g l 0) : Calls Tryz.prog 47 #[.pointer (some ⟨g, 0, none⟩)] w fun e w' => e = .returned (.int .u32 ((takeBe 4 l).1 : Int)) ∧ RdAt w' g (takeBe 4 l).2.1 (takeBe 4 l).2.2 ∧ Keeps [g] w w' := by
  have hh : Calls Tryz.prog 70 #[.pointer (some ⟨g, 0, none⟩), .int .i64 4] w fun e w' => e = .returned (.int .u64 ((takeBe 4 l).1 : Int)) ∧ RdAt w' g (takeBe 4 l).2.1 (takeBe 4 l).2.2 ∧ Keeps [g] w w' := number_any h 4 (by omega)
  have hlt := takeBe_lt 4 l
  have hw : IntKind.u32.wrap ((takeBe 4 l).1 : Int) = (takeBe 4 l).1 := IntWalk.u32_in _ (by omega)
  generalize takeBe 4 l = T at *
  replace hlt := Lib.hid hlt
  go_enter Tryz.func47, Tryz.ntmps47
  go_wp2_with (go_at_call 70; (with_reducible refine hh.mono ?_); rintro e w1 ⟨rfl, h1, k1⟩)
  go_ret
  exact ⟨rfl, h1, k1⟩
end Go.Proofs.YtcdcipfojfnblaaGreatDoor.code
