/- SHA-256 (package sha): the last bytes, filled up. No condition. -/
import Derived.Test.YtplfbpihhcnnmaaDoorSha
import Derived.Lib.BufferWrite
namespace Go.Proofs.YtplfbpihhcnnmaaDoor.sha
open Go.RowKit
attribute [local go_sem ↓] Go.wp_at_zero Go.wp_at_succ
attribute [local go_sem] str_size
set_option linter.unusedVariables false
set_option maxRecDepth 100000

/-- 'copy(b, s)', s a text that fits -/
theorem wpList_copy_text {w : World} {ops : Array Oper} {rest : List Oper} {o : Oper} {a : Act} {Q : Exit → Act → World → Prop} (hgd : o.guard = none) (d x : Operand)
    (ho : o.op = .call { callee := .builtin .copy, args := #[d, x], argTypes := #[79, 9] }) (q n cap : Nat) (L l : List UInt8) (hd : a.eval d = .slice (some ⟨q, 0, none⟩) n cap) (hx : a.eval x = .string (str l))
    (hL : ByteBlk w q L) (h1 : l.length ≤ n) (h2 : l.length ≤ L.length)
    (h : ∀ w', ByteBlk w' q (l ++ L.drop l.length) → Keeps [q] w w' → wpList Tryd.prog ops Q rest (a.put o.dst (.int .i64 (l.length : Int))) w') : wpList Tryd.prog ops Q (o :: rest) a w := by
  refine wpList_plain hgd fun K hK => ?_
  have hs1 : (Tryd.prog.info? 5).map (·.size) = some 1 := by kernel_rfl
  have hrun := Go.Lib.run_copy_row_string (P := Tryd.prog) w 79 9 o.type 5 q 0 n cap (str l) (cellsOf L).toArray 5 Tryd.underlying79 hs1 hL (by rw [str_size]; exact h1) (by rw [str_size]; simpa [cellsOf] using h2)
  have e : ((cellsOf L).toArray.toList.take 0 ++ Go.Lib.byteCells (str l).data.toList ++ (cellsOf L).toArray.toList.drop (0 + (str l).size)).toArray = (cellsOf (l ++ L.drop l.length)).toArray := by
    rw [str_size, cellsOf_append]
    simp [cellsOf, str, Go.Lib.byteCells]
  rw [e] at hrun
  unfold Oper.wp
  simp [execOp, ho, resolve, invoke, builtin, hd, hx, hrun, Result.andThen]
  rw [str_size]
  exact hK _ _ (h _ (setRow_heap w q _ _ 5 (0, 0) hL) (keepsRow w q _))

def be8 (n : Nat) : List UInt8 := [UInt8.ofNat (n / 256 ^ 7 % 256), UInt8.ofNat (n / 256 ^ 6 % 256), UInt8.ofNat (n / 256 ^ 5 % 256), UInt8.ofNat (n / 256 ^ 4 % 256), UInt8.ofNat (n / 256 ^ 3 % 256), UInt8.ofNat (n / 256 ^ 2 % 256), UInt8.ofNat (n / 256 ^ 1 % 256), UInt8.ofNat (n / 256 ^ 0 % 256)]
/-- bytes with so many of the last set, the last one first -/
def fillK (L : List UInt8) (Z n : Nat) : Nat → List UInt8
  | 0 => L
  | k + 1 => (fillK L Z n k).set (Z - (k + 1)) (UInt8.ofNat (n / 256 ^ k % 256))
theorem fillK_len (L : List UInt8) (Z n k : Nat) : (fillK L Z n k).length = L.length := by
  induction k with
  | zero => rfl
  | succ k ih => simp [fillK, ih]
theorem set_right (A B : List UInt8) (i : Nat) (x : UInt8) (h : A.length ≤ i) : (A ++ B).set i x = A ++ B.set (i - A.length) x := by rw [List.set_append, if_neg (by omega)]
theorem fillK_8 (A : List UInt8) (Z n : Nat) (h : A.length + 8 = Z) : fillK (A ++ List.replicate 8 0) Z n 8 = A ++ be8 n := by
  subst h
  simp only [fillK]
  rw [set_right _ _ _ _ (by omega), set_right _ _ _ _ (by omega), set_right _ _ _ _ (by omega), set_right _ _ _ _ (by omega), set_right _ _ _ _ (by omega), set_right _ _ _ _ (by omega), set_right _ _ _ _ (by omega), set_right _ _ _ _ (by omega)]
  rw [show A.length + 8 - (0 + 1) - A.length = 7 by omega, show A.length + 8 - (1 + 1) - A.length = 6 by omega, show A.length + 8 - (2 + 1) - A.length = 5 by omega, show A.length + 8 - (3 + 1) - A.length = 4 by omega, show A.length + 8 - (4 + 1) - A.length = 3 by omega, show A.length + 8 - (5 + 1) - A.length = 2 by omega, show A.length + 8 - (6 + 1) - A.length = 1 by omega, show A.length + 8 - (7 + 1) - A.length = 0 by omega]
  rfl
/-- how long the last blocks are -/
def lastZ (r : List UInt8) : Nat := if r.length + 9 ≤ 64 then 64 else 128
/-- the last bytes of a text of N bytes, filled up -/
def filledL (r : List UInt8) (N : Nat) : List UInt8 := r ++ 128 :: List.replicate (lastZ r - r.length - 9) 0 ++ be8 (N * 8 % 18446744073709551616)
theorem lastZ_ge (r : List UInt8) (h : r.length < 64) : r.length + 9 ≤ lastZ r := by unfold lastZ; split <;> omega
theorem filledL_len (r : List UInt8) (N : Nat) (h : r.length < 64) : (filledL r N).length = lastZ r := by
  have := lastZ_ge r h
  simp [filledL, be8]; omega
theorem fill_start (r : List UInt8) (h : r.length < 64) : (r ++ (List.replicate (lastZ r) (0 : UInt8)).drop r.length).set r.length 128 = (r ++ 128 :: List.replicate (lastZ r - r.length - 9) 0) ++ List.replicate 8 0 := by
  have hz := lastZ_ge r h
  obtain ⟨k, hk⟩ : ∃ k, lastZ r - r.length - 9 = k := ⟨_, rfl⟩
  rw [hk, List.drop_replicate, show lastZ r - r.length = (k + 8) + 1 by omega, List.replicate_succ, List.set_append]
  rw [if_neg (by omega), Nat.sub_self, ← List.replicate_append_replicate]
  simp

set_option maxRecDepth 100000 in
set_option maxHeartbeats 4000000 in
theorem filled_64 (r : List UInt8) (hr : r.length < 64) (hcc : lastZ r = 64) (N : Nat) (hN : N < 18446744073709551616) (w : World) :
    Calls Tryd.prog 152 #[.string (str r), .int .u64 (N : Int)] w fun e w' => e = .returned (.string (str (filledL r N))) ∧ Below w.heap.size w w' := by
  have hz9 := lastZ_ge r hr
  have hst := fill_start r hr
  have hlen := filledL_len r N hr
  have hif : ¬ (64 < (r.length : Int) + 9) := by unfold lastZ at hcc; split at hcc <;> omega
  rw [hcc] at hz9 hst hlen
  have hmk : ∀ W : World, (Instr.makeSlice 79 (.int .i64 64) (.int .i64 64)).run Tryd.prog W = .ok (.slice (some ⟨W.heap.size, 0, none⟩) 64 64) (W.alloc (.cells (madeCells (Value.int .u8 0).cells 64) 5)) := fun W => run_make_bytes 64 (by omega) W
  have hb0 := byteBlk_made w 64
  obtain ⟨n, hn⟩ : ∃ n, n = N * 8 % 18446744073709551616 := ⟨_, rfl⟩
  have e8 : IntKind.u64.wrap ((N : Int) * 8) = (n : Int) := by rw [IntKind.wrap_u64]; omega
  have hfl : fillK ((r ++ 128 :: List.replicate (64 - r.length - 9) 0) ++ List.replicate 8 0) 64 n 8 = filledL r N := by
    rw [fillK_8 _ 64 n (by simp; omega), hn]; unfold filledL; rw [hcc]
  obtain ⟨L1, hL1⟩ : ∃ L, L = (r ++ (List.replicate 64 (0 : UInt8)).drop r.length) := ⟨_, rfl⟩
  obtain ⟨L2, hL2⟩ : ∃ L, L = (r ++ 128 :: List.replicate (64 - r.length - 9) 0) ++ List.replicate 8 0 := ⟨_, rfl⟩
  rw [← hL2] at hfl hst
  rw [← hL1] at hst
  have hl1 : L1.length = 64 := by rw [hL1]; simp; omega
  have hl2 : L2.length = 64 := by rw [← hst]; simp [hl1]
  replace hst := Lib.hid hst
  replace hlen := Lib.hid hlen
  replace hb0 := Lib.hid hb0
  replace hfl := Lib.hid hfl
  replace hL1 := Lib.hid hL1
  replace hl1 := Lib.hid hl1
  replace hl2 := Lib.hid hl2
  have w1 : IntKind.i64.wrap ((r.length : Int) + 1) = (r.length : Int) + 1 := by rw [IntKind.wrap_i64]; omega
  have w2 : IntKind.i64.wrap ((r.length : Int) + 1 + 8) = (r.length : Int) + 9 := by rw [IntKind.wrap_i64]; omega
  have r0 : (0 : Int) ≤ (r.length : Int) := by omega
  have r1 : (r.length : Int) < 64 := by omega
  replace hz9 := Lib.hid hz9
  replace hr := Lib.hid hr
  clear hL2 hn hN hcc
  go_enter Tryd.func152, Tryd.ntmps152
  go_upto_region 6 with (refine wpList_copy_text rfl (.tmp 16) (.tmp 17) rfl w.heap.size 64 64 (List.replicate 64 0) r rfl rfl hb0.out (by have := hr.out; omega) (by have := hr.out; simp; omega) ?_; intro w5 B5 K5; rw [← hL1.out] at B5; replace B5 := Lib.hid B5; replace K5 := Lib.hid K5)
  have hB5 : Below w.heap.size w w5 := ((Below.refl _ w).alloc (Nat.le_refl _) _).trans (K5.out.below (by simp) (by simp))
  have c1 := B5.out.cell (i := r.length) (by rw [hl1.out]; omega)
  have f1 := B5.out.free r.length
  have P := B5.out.put (i := r.length) (n := 128) (by omega)
  have hB6 := hB5.setCell (p := ⟨w.heap.size, r.length, none⟩) (Nat.le_refl _) (.int .u8 128)
  rw [show UInt8.ofNat (128 : Int).toNat = 128 from rfl, hst.out] at P
  replace P := Lib.hid P
  replace hB6 := Lib.hid hB6
  clear K5 B5 hB5
  go_wp2
  go_loopg [7, 8] 8 (fun gn s7 s8 wr => ∃ k : Nat, s8 = .int .i64 ((k : Int) + 1) ∧ k + gn = 8 ∧ s7 = .int .u64 ((n / 256 ^ k : Nat) : Int) ∧ ByteBlk wr w.heap.size (fillK L2 64 n k) ∧ Below w.heap.size w wr)
  case atStart => exact ⟨0, rfl, rfl, by simp, P.out, hB6.out⟩
  case round =>
    clear P hB6 c1 f1
    obtain ⟨k, rfl, hk, rfl, hO, hB⟩ := hrel
    by_cases h0 : gk = 0
    · obtain rfl : k = 8 := by omega
      rw [hfl.out] at hO
      have ht := hO.text 64
      rw [hlen.out] at ht
      replace hO := Lib.hid hO
      clear hk h0
      go_wp2
      go_ret
      exact ⟨rfl, hB⟩
    · obtain ⟨K, rfl⟩ : ∃ K : Nat, gk = K + 1 := ⟨gk - 1, by omega⟩
      have k1 : (k : Int) + 1 ≤ 8 := by omega
      obtain ⟨p, hp⟩ : ∃ p : Nat, p = 64 - (k + 1) := ⟨_, rfl⟩
      have hpI : (64 : Int) - ((k : Int) + 1) = (p : Int) := by omega
      have hpw : IntKind.i64.wrap (p : Int) = (p : Int) := by rw [IntKind.wrap_i64]; omega
      have p0 : (0 : Int) ≤ (p : Int) := by omega
      have p1 : (p : Int) < 64 := by omega
      have c1 := hO.cell (i := p) (by rw [fillK_len, hl2.out]; omega)
      have f1 := hO.free p
      obtain ⟨m, hm⟩ : ∃ m, m = n / 256 ^ k := ⟨_, rfl⟩
      obtain ⟨v, hv⟩ : ∃ v : Nat, v = m % 256 := ⟨_, rfl⟩
      have e1 : (m : Int) % 256 = (v : Int) := by omega
      have P := hO.put (i := p) (n := (v : Int)) (by omega)
      have hm2 : n / 256 ^ (k + 1) = m / 256 := by rw [hm, Nat.div_div_eq_div_mul, ← Nat.pow_succ]
      have hnext : fillK L2 64 n (k + 1) = (fillK L2 64 n k).set p (UInt8.ofNat (v : Int).toNat) := by
        rw [Int.toNat_natCast, hv, hm, hp]; rfl
      rw [← hnext] at P
      rw [← hm]
      have hk2 : k + (K + 1) = 8 := hk
      replace hk2 := Lib.hid hk2
      replace P := Lib.hid P
      replace hO := Lib.hid hO
      replace hm2 := Lib.hid hm2
      clear hnext hv hm hk h0
      replace hp := Lib.hid hp
      go_wp2
      go_roundg K
      case measure => omega
      case rel => exact ⟨k + 1, by go_num, by have := hk2.out; omega, by rw [hm2.out]; go_num, P.out, hB.setCell (p := ⟨w.heap.size, p, none⟩) (Nat.le_refl _) _⟩

set_option maxRecDepth 100000 in
set_option maxHeartbeats 4000000 in
theorem filled_128 (r : List UInt8) (hr : r.length < 64) (hcc : lastZ r = 128) (N : Nat) (hN : N < 18446744073709551616) (w : World) :
    Calls Tryd.prog 152 #[.string (str r), .int .u64 (N : Int)] w fun e w' => e = .returned (.string (str (filledL r N))) ∧ Below w.heap.size w w' := by
  have hz9 := lastZ_ge r hr
  have hst := fill_start r hr
  have hlen := filledL_len r N hr
  have hif : 64 < (r.length : Int) + 9 := by unfold lastZ at hcc; split at hcc <;> omega
  rw [hcc] at hz9 hst hlen
  have hmk : ∀ W : World, (Instr.makeSlice 79 (.int .i64 128) (.int .i64 128)).run Tryd.prog W = .ok (.slice (some ⟨W.heap.size, 0, none⟩) 128 128) (W.alloc (.cells (madeCells (Value.int .u8 0).cells 128) 5)) := fun W => run_make_bytes 128 (by omega) W
  have hb0 := byteBlk_made w 128
  obtain ⟨n, hn⟩ : ∃ n, n = N * 8 % 18446744073709551616 := ⟨_, rfl⟩
  have e8 : IntKind.u64.wrap ((N : Int) * 8) = (n : Int) := by rw [IntKind.wrap_u64]; omega
  have hfl : fillK ((r ++ 128 :: List.replicate (128 - r.length - 9) 0) ++ List.replicate 8 0) 128 n 8 = filledL r N := by
    rw [fillK_8 _ 128 n (by simp; omega), hn]; unfold filledL; rw [hcc]
  obtain ⟨L1, hL1⟩ : ∃ L, L = (r ++ (List.replicate 128 (0 : UInt8)).drop r.length) := ⟨_, rfl⟩
  obtain ⟨L2, hL2⟩ : ∃ L, L = (r ++ 128 :: List.replicate (128 - r.length - 9) 0) ++ List.replicate 8 0 := ⟨_, rfl⟩
  rw [← hL2] at hfl hst
  rw [← hL1] at hst
  have hl1 : L1.length = 128 := by rw [hL1]; simp; omega
  have hl2 : L2.length = 128 := by rw [← hst]; simp [hl1]
  replace hst := Lib.hid hst
  replace hlen := Lib.hid hlen
  replace hb0 := Lib.hid hb0
  replace hfl := Lib.hid hfl
  replace hL1 := Lib.hid hL1
  replace hl1 := Lib.hid hl1
  replace hl2 := Lib.hid hl2
  have w1 : IntKind.i64.wrap ((r.length : Int) + 1) = (r.length : Int) + 1 := by rw [IntKind.wrap_i64]; omega
  have w2 : IntKind.i64.wrap ((r.length : Int) + 1 + 8) = (r.length : Int) + 9 := by rw [IntKind.wrap_i64]; omega
  have r0 : (0 : Int) ≤ (r.length : Int) := by omega
  have r1 : (r.length : Int) < 128 := by omega
  replace hz9 := Lib.hid hz9
  replace hr := Lib.hid hr
  clear hL2 hn hN hcc
  go_enter Tryd.func152, Tryd.ntmps152
  go_upto_region 6 with (refine wpList_copy_text rfl (.tmp 16) (.tmp 17) rfl w.heap.size 128 128 (List.replicate 128 0) r rfl rfl hb0.out (by have := hr.out; omega) (by have := hr.out; simp; omega) ?_; intro w5 B5 K5; rw [← hL1.out] at B5; replace B5 := Lib.hid B5; replace K5 := Lib.hid K5)
  have hB5 : Below w.heap.size w w5 := ((Below.refl _ w).alloc (Nat.le_refl _) _).trans (K5.out.below (by simp) (by simp))
  have c1 := B5.out.cell (i := r.length) (by rw [hl1.out]; omega)
  have f1 := B5.out.free r.length
  have P := B5.out.put (i := r.length) (n := 128) (by omega)
  have hB6 := hB5.setCell (p := ⟨w.heap.size, r.length, none⟩) (Nat.le_refl _) (.int .u8 128)
  rw [show UInt8.ofNat (128 : Int).toNat = 128 from rfl, hst.out] at P
  replace P := Lib.hid P
  replace hB6 := Lib.hid hB6
  clear K5 B5 hB5
  go_wp2
  go_loopg [7, 8] 8 (fun gn s7 s8 wr => ∃ k : Nat, s8 = .int .i64 ((k : Int) + 1) ∧ k + gn = 8 ∧ s7 = .int .u64 ((n / 256 ^ k : Nat) : Int) ∧ ByteBlk wr w.heap.size (fillK L2 128 n k) ∧ Below w.heap.size w wr)
  case atStart => exact ⟨0, rfl, rfl, by simp, P.out, hB6.out⟩
  case round =>
    clear P hB6 c1 f1
    obtain ⟨k, rfl, hk, rfl, hO, hB⟩ := hrel
    by_cases h0 : gk = 0
    · obtain rfl : k = 8 := by omega
      rw [hfl.out] at hO
      have ht := hO.text 128
      rw [hlen.out] at ht
      replace hO := Lib.hid hO
      clear hk h0
      go_wp2
      go_ret
      exact ⟨rfl, hB⟩
    · obtain ⟨K, rfl⟩ : ∃ K : Nat, gk = K + 1 := ⟨gk - 1, by omega⟩
      have k1 : (k : Int) + 1 ≤ 8 := by omega
      obtain ⟨p, hp⟩ : ∃ p : Nat, p = 128 - (k + 1) := ⟨_, rfl⟩
      have hpI : (128 : Int) - ((k : Int) + 1) = (p : Int) := by omega
      have hpw : IntKind.i64.wrap (p : Int) = (p : Int) := by rw [IntKind.wrap_i64]; omega
      have p0 : (0 : Int) ≤ (p : Int) := by omega
      have p1 : (p : Int) < 128 := by omega
      have c1 := hO.cell (i := p) (by rw [fillK_len, hl2.out]; omega)
      have f1 := hO.free p
      obtain ⟨m, hm⟩ : ∃ m, m = n / 256 ^ k := ⟨_, rfl⟩
      obtain ⟨v, hv⟩ : ∃ v : Nat, v = m % 256 := ⟨_, rfl⟩
      have e1 : (m : Int) % 256 = (v : Int) := by omega
      have P := hO.put (i := p) (n := (v : Int)) (by omega)
      have hm2 : n / 256 ^ (k + 1) = m / 256 := by rw [hm, Nat.div_div_eq_div_mul, ← Nat.pow_succ]
      have hnext : fillK L2 128 n (k + 1) = (fillK L2 128 n k).set p (UInt8.ofNat (v : Int).toNat) := by
        rw [Int.toNat_natCast, hv, hm, hp]; rfl
      rw [← hnext] at P
      rw [← hm]
      have hk2 : k + (K + 1) = 8 := hk
      replace hk2 := Lib.hid hk2
      replace P := Lib.hid P
      replace hO := Lib.hid hO
      replace hm2 := Lib.hid hm2
      clear hnext hv hm hk h0
      replace hp := Lib.hid hp
      go_wp2
      go_roundg K
      case measure => omega
      case rel => exact ⟨k + 1, by go_num, by have := hk2.out; omega, by rw [hm2.out]; go_num, P.out, hB.setCell (p := ⟨w.heap.size, p, none⟩) (Nat.le_refl _) _⟩
theorem filled_any (r : List UInt8) (hr : r.length < 64) (N : Nat) (hN : N < 18446744073709551616) (w : World) :
    Calls Tryd.prog 152 #[.string (str r), .int .u64 (N : Int)] w fun e w' => e = .returned (.string (str (filledL r N))) ∧ Below w.heap.size w w' := by
  by_cases h : r.length + 9 ≤ 64
  · exact filled_64 r hr (if_pos h) N hN w
  · exact filled_128 r hr (if_neg h) N hN w
end Go.Proofs.YtplfbpihhcnnmaaDoor.sha
