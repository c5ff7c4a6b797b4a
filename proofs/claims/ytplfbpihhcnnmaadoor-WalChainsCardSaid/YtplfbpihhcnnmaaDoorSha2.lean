/- SHA-256 (package sha): a block's words, spread. No condition. -/
import Derived.Test.YtplfbpihhcnnmaaDoorSha
namespace Go.Proofs.YtplfbpihhcnnmaaDoor.sha
open Go.RowKit
attribute [local go_sem ↓] Go.wp_at_zero Go.wp_at_succ
set_option linter.unusedVariables false
set_option maxRecDepth 100000

theorem salts64 : (Tryd.prog.info? 191).map (·.size) = some 64 := by kernel_rfl
theorem zeroWords : ((List.replicate 64 0).map word).toArray = #[Value.int .u32 0, .int .u32 0, .int .u32 0, .int .u32 0, .int .u32 0, .int .u32 0, .int .u32 0, .int .u32 0, .int .u32 0, .int .u32 0, .int .u32 0, .int .u32 0, .int .u32 0, .int .u32 0, .int .u32 0, .int .u32 0, .int .u32 0, .int .u32 0, .int .u32 0, .int .u32 0, .int .u32 0, .int .u32 0, .int .u32 0, .int .u32 0, .int .u32 0, .int .u32 0, .int .u32 0, .int .u32 0, .int .u32 0, .int .u32 0, .int .u32 0, .int .u32 0, .int .u32 0, .int .u32 0, .int .u32 0, .int .u32 0, .int .u32 0, .int .u32 0, .int .u32 0, .int .u32 0, .int .u32 0, .int .u32 0, .int .u32 0, .int .u32 0, .int .u32 0, .int .u32 0, .int .u32 0, .int .u32 0, .int .u32 0, .int .u32 0, .int .u32 0, .int .u32 0, .int .u32 0, .int .u32 0, .int .u32 0, .int .u32 0, .int .u32 0, .int .u32 0, .int .u32 0, .int .u32 0, .int .u32 0, .int .u32 0, .int .u32 0, .int .u32 0] := rfl
/-- what stands while a block is spread -/
def Spr (w wr : World) (xs : List Nat) : Prop :=
  Words wr (w.heap.size + 1) 191 xs ∧ (∃ z, wr.heap[w.heap.size]? = some (.cells z 191 (0, 0)) ∧ z.size = 64) ∧ Below w.heap.size w wr
theorem Spr.words {w wr : World} {xs : List Nat} (h : Spr w wr xs) : Words wr (w.heap.size + 1) 191 xs := h.1
theorem Spr.put {w wr : World} {xs : List Nat} (h : Spr w wr xs) (i n : Nat) : Spr w (wr.setCell ⟨w.heap.size + 1, i, none⟩ (.int .u32 (n : Int))) (xs.set i n) :=
  ⟨h.1.put i n, h.2.1.imp fun z hz => ⟨(Below.heap_setCell wr _ _ _ (by simp)).trans hz.1, hz.2⟩, h.2.2.setCell (p := ⟨w.heap.size + 1, i, none⟩) (by simp) _⟩
theorem Spr.drew {w wr : World} {xs : List Nat} (h : Spr w wr xs) : Spr w wr.drew xs := ⟨h.1, h.2.1, h.2.2.drew⟩
set_option maxRecDepth 100000 in
set_option maxHeartbeats 8000000 in
theorem spread_any (s : ByteArray) (hs : s.size = 64) (w : World) :
    Calls Tryd.prog 166 #[.string s] w fun e w' => e = .returned (.agg ((sprL s 64).map word).toArray) ∧ Below w.heap.size w w' := by
  replace hs := Lib.hid hs
  go_enter Tryd.func166, Tryd.ntmps166
  go_wp2
  go_loopg [9] 16 (fun gn s9 wr => ∃ i : Nat, s9 = .int .i64 (i : Int) ∧ i + gn = 16 ∧ Spr w wr (sprL s i))
  case atStart =>
    refine ⟨0, rfl, rfl, ?_, ⟨_, boxed2 _ _ _ _, rfl⟩, by go_grown⟩
    show (_ : World).heap[_]? = some (Obj.cells ((List.replicate 64 0).map word).toArray 191 (0, 0))
    rw [zeroWords]
    exact boxed2b _ _ _ _
  case round =>
    obtain ⟨i, rfl, hi, hS⟩ := hrel
    by_cases h0 : gk = 0
    · obtain rfl : i = 16 := by omega
      replace hS := Lib.hid hS
      clear hi h0
      go_wp2
      go_loopg [6] 48 (fun gn s6 wr => ∃ i : Nat, s6 = .int .i64 (i : Int) ∧ i + gn = 64 ∧ 16 ≤ i ∧ Spr w wr (sprL s i))
      case atStart => exact ⟨16, rfl, rfl, Nat.le_refl _, hS.out⟩
      case round =>
        clear hS
        obtain ⟨i, rfl, hi, hi16, hS⟩ := hrel
        by_cases h0 : gk = 0
        · obtain rfl : i = 64 := by omega
          clear hi16
          obtain ⟨xs, hxs⟩ : ∃ xs, xs = sprL s 64 := ⟨_, rfl⟩
          have hl : xs.length = 64 := by rw [hxs]; exact sprL_len s 64
          rw [← hxs] at hS
          replace hxs := Lib.hid hxs
          replace hS := Lib.hid hS
          replace hl := Lib.hid hl
          clear hi h0
          go_wp2_with (first
            | (refine wpList_load_words salts64 Tryd.underlying191 rfl (.tmp 3) rfl (w.heap.size + 1) xs rfl hS.out.1 hl.out ?_)
            | (refine wpList_store_words salts64 rfl (.tmp 2) (.tmp 95) rfl w.heap.size xs rfl rfl hl.out hS.out.2.1 ?_; intro w5 W5 K5; replace W5 := Lib.hid W5; replace K5 := Lib.hid K5))
          have h1 : ((xs.map word).toArray).size = 64 := by simp [hl.out]
          exact bodyPost_ret (v := .agg (xs.map word).toArray) (results_cell_row rfl _ _ w.heap.size 191 (xs.map word).toArray (0, 0) _ rfl W5.out Tryd.underlying191 rfl (by rw [h1]; exact salts64)) rfl ⟨by rw [hxs.out], hS.out.2.2.trans (K5.out.below hS.out.2.2.size (by simp))⟩
        · obtain ⟨K, rfl⟩ : ∃ K : Nat, gk = K + 1 := ⟨gk - 1, by omega⟩
          have i0 : (0 : Int) ≤ (i : Int) := by omega
          have ilt : (i : Int) < 64 := by omega
          have hsm := sprL_small s i
          have hlen := sprL_len s i
          obtain ⟨k15, h15⟩ : ∃ k, k = i - 15 := ⟨_, rfl⟩
          obtain ⟨k2, h2⟩ : ∃ k, k = i - 2 := ⟨_, rfl⟩
          obtain ⟨k16, h16⟩ : ∃ k, k = i - 16 := ⟨_, rfl⟩
          obtain ⟨k7, h7⟩ : ∃ k, k = i - 7 := ⟨_, rfl⟩
          have e15 : IntKind.i64.wrap ((i : Int) - 15) = (k15 : Int) := by rw [IntKind.wrap_i64]; omega
          have e2 : IntKind.i64.wrap ((i : Int) - 2) = (k2 : Int) := by rw [IntKind.wrap_i64]; omega
          have e16 : IntKind.i64.wrap ((i : Int) - 16) = (k16 : Int) := by rw [IntKind.wrap_i64]; omega
          have e7 : IntKind.i64.wrap ((i : Int) - 7) = (k7 : Int) := by rw [IntKind.wrap_i64]; omega
          have p15 : (0 : Int) ≤ (k15 : Int) ∧ (k15 : Int) < 64 := by omega
          have p2 : (0 : Int) ≤ (k2 : Int) ∧ (k2 : Int) < 64 := by omega
          have p16 : (0 : Int) ≤ (k16 : Int) ∧ (k16 : Int) < 64 := by omega
          have p7 : (0 : Int) ≤ (k7 : Int) ∧ (k7 : Int) < 64 := by omega
          obtain ⟨p15a, p15b⟩ := p15
          obtain ⟨p2a, p2b⟩ := p2
          obtain ⟨p16a, p16b⟩ := p16
          obtain ⟨p7a, p7b⟩ := p7
          have c15 := hS.words.cell (i := k15) (by rw [hlen]; omega)
          have c2 := hS.words.cell (i := k2) (by rw [hlen]; omega)
          have c16 := hS.words.cell (i := k16) (by rw [hlen]; omega)
          have c7 := hS.words.cell (i := k7) (by rw [hlen]; omega)
          have x15 := hsm k15
          have x2 := hsm k2
          obtain ⟨y15, hy15⟩ : ∃ y, (sprL s i).getD k15 0 = y := ⟨_, rfl⟩
          obtain ⟨y2, hy2⟩ : ∃ y, (sprL s i).getD k2 0 = y := ⟨_, rfl⟩
          obtain ⟨y16, hy16⟩ : ∃ y, (sprL s i).getD k16 0 = y := ⟨_, rfl⟩
          obtain ⟨y7, hy7⟩ : ∃ y, (sprL s i).getD k7 0 = y := ⟨_, rfl⟩
          rw [hy15] at c15 x15; rw [hy2] at c2 x2; rw [hy16] at c16; rw [hy7] at c7
          obtain ⟨lo, hlo⟩ : ∃ l, l = low0 y15 := ⟨_, rfl⟩
          obtain ⟨hi0, hhi⟩ : ∃ l, l = low1 y2 := ⟨_, rfl⟩
          obtain ⟨nx, hnx⟩ : ∃ l, l = nextW (sprL s i) i := ⟨_, rfl⟩
          have hnx2 : nx = add32 (add32 (add32 y16 lo) y7) hi0 := by rw [hnx, nextW, ← h16, ← h15, ← h7, ← h2, hy16, hy15, hy7, hy2, hlo, hhi]
          have hqw : sprL s (i + 1) = (sprL s i).set i nx := by
            show (sprL s i).set i (if i < 16 then beWord s (4 * i) else nextW (sprL s i) i) = _
            rw [if_neg (by omega), ← hnx]
          have hP := hS.put i nx
          rw [← hqw] at hP
          have ci := hS.words.cell (i := i) (by rw [hlen]; omega)
          have fi := hS.words.free i
          have hi2 : i + (K + 1) = 64 := hi
          replace hi2 := Lib.hid hi2
          replace hP := Lib.hid hP
          replace hS := Lib.hid hS
          replace hnx2 := Lib.hid hnx2
          have hi16b := Lib.hid hi16
          clear hqw hnx hy15 hy2 hy16 hy7 hsm hlen hi h0 hi16
          replace h15 := Lib.hid h15; replace h2 := Lib.hid h2; replace h16 := Lib.hid h16; replace h7 := Lib.hid h7
          go_upto_region 11 with fail
          go_cut [7] from 42 to 94 (fun v wx => v = .int .u32 (lo : Int) ∧ wx = wr.drew)
          case first =>
            obtain ⟨r1, hr1⟩ : ∃ r, r = rotr y15 7 := ⟨_, rfl⟩
            obtain ⟨r2, hr2⟩ : ∃ r, r = rotr y15 18 := ⟨_, rfl⟩
            obtain ⟨r3, hr3⟩ : ∃ r, r = r1 ^^^ r2 := ⟨_, rfl⟩
            obtain ⟨r4, hr4⟩ : ∃ r, r = y15 / 8 := ⟨_, rfl⟩
            have t1 : ∀ w', Calls Tryd.prog 167 #[.int .u32 (y15 : Int), .int .i64 (-7)] w' fun e w2 => e = .returned (.int .u32 (r1 : Int)) ∧ w2 = w' := fun w' => by rw [hr1]; exact rotr_same y15 7 x15 (by omega) w'
            have t2 : ∀ w', Calls Tryd.prog 167 #[.int .u32 (y15 : Int), .int .i64 (-18)] w' fun e w2 => e = .returned (.int .u32 (r2 : Int)) ∧ w2 = w' := fun w' => by rw [hr2]; exact rotr_same y15 18 x15 (by omega) w'
            have b1 : bits .xor .u32 (r1 : Int) (r2 : Int) = (r3 : Int) := by rw [u32_xor_nat _ _ (by rw [hr1]; exact rotr_lt _ _ x15) (by rw [hr2]; exact rotr_lt _ _ x15), hr3]
            have b2 : (y15 : Int) / 8 = (r4 : Int) := by rw [hr4]; omega
            have b3 : bits .xor .u32 (r3 : Int) (r4 : Int) = (lo : Int) := by
              rw [u32_xor_nat _ _ (by rw [hr3, hr1, hr2]; exact xor_lt (rotr_lt _ _ x15) (rotr_lt _ _ x15)) (by omega), hlo, hr4, hr3, hr1, hr2]; rfl
            clear hr1 hr2 hr3 hr4 hlo hhi x15 x2
            replace t1 := Lib.hid t1; replace t2 := Lib.hid t2
            go_region_with (first | (go_at_call 167; (with_reducible refine (t1.out _).mono ?_); rintro e w1 ⟨rfl, rfl⟩) | (go_at_call 167; (with_reducible refine (t2.out _).mono ?_); rintro e w1 ⟨rfl, rfl⟩))
            all_goals go_wp2_with fail
            all_goals try go_meet
            all_goals exact ⟨rfl, rfl⟩
          case rest =>
          obtain ⟨rfl, rfl⟩ := hcut
          go_upto_region 12 with fail
          go_cut [8] from 42 to 94 (fun v wx => v = .int .u32 (hi0 : Int) ∧ wx = wr.drew.drew)
          case first =>
            obtain ⟨r1, hr1⟩ : ∃ r, r = rotr y2 17 := ⟨_, rfl⟩
            obtain ⟨r2, hr2⟩ : ∃ r, r = rotr y2 19 := ⟨_, rfl⟩
            obtain ⟨r3, hr3⟩ : ∃ r, r = r1 ^^^ r2 := ⟨_, rfl⟩
            obtain ⟨r4, hr4⟩ : ∃ r, r = y2 / 1024 := ⟨_, rfl⟩
            have t1 : ∀ w', Calls Tryd.prog 167 #[.int .u32 (y2 : Int), .int .i64 (-17)] w' fun e w2 => e = .returned (.int .u32 (r1 : Int)) ∧ w2 = w' := fun w' => by rw [hr1]; exact rotr_same y2 17 x2 (by omega) w'
            have t2 : ∀ w', Calls Tryd.prog 167 #[.int .u32 (y2 : Int), .int .i64 (-19)] w' fun e w2 => e = .returned (.int .u32 (r2 : Int)) ∧ w2 = w' := fun w' => by rw [hr2]; exact rotr_same y2 19 x2 (by omega) w'
            have b1 : bits .xor .u32 (r1 : Int) (r2 : Int) = (r3 : Int) := by rw [u32_xor_nat _ _ (by rw [hr1]; exact rotr_lt _ _ x2) (by rw [hr2]; exact rotr_lt _ _ x2), hr3]
            have b2 : (y2 : Int) / 1024 = (r4 : Int) := by rw [hr4]; omega
            have b3 : bits .xor .u32 (r3 : Int) (r4 : Int) = (hi0 : Int) := by
              rw [u32_xor_nat _ _ (by rw [hr3, hr1, hr2]; exact xor_lt (rotr_lt _ _ x2) (rotr_lt _ _ x2)) (by omega), hhi, hr4, hr3, hr1, hr2]; rfl
            clear hr1 hr2 hr3 hr4 hlo hhi x15 x2
            replace t1 := Lib.hid t1; replace t2 := Lib.hid t2
            go_region_with (first | (go_at_call 167; (with_reducible refine (t1.out _).mono ?_); rintro e w1 ⟨rfl, rfl⟩) | (go_at_call 167; (with_reducible refine (t2.out _).mono ?_); rintro e w1 ⟨rfl, rfl⟩))
            all_goals go_wp2_with fail
            all_goals try go_meet
            all_goals exact ⟨rfl, rfl⟩
          case rest =>
          obtain ⟨rfl, rfl⟩ := hcut
          clear hlo hhi x15 x2
          go_upto_region 13 with fail
          go_region
          all_goals go_wp2_with fail
          all_goals
            go_roundg K
            case measure => omega
            case rel =>
              have e : ((y16 : Int) + lo + y7 + hi0) % 4294967296 = (nx : Int) := by rw [hnx2.out]; unfold add32; omega
              refine ⟨i + 1, by go_num, by have := hi2.out; omega, by have := hi16b.out; omega, ?_⟩
              rw [e]
              exact hP.out.drew.drew.drew
    · obtain ⟨K, rfl⟩ : ∃ K : Nat, gk = K + 1 := ⟨gk - 1, by omega⟩
      have i1 : (i : Int) < 16 := by omega
      have i0 : (0 : Int) ≤ (i : Int) := by omega
      have i64 : (i : Int) < 64 := by omega
      obtain ⟨m, hm⟩ : ∃ m : Nat, m = 4 * i := ⟨_, rfl⟩
      have hm4 : 4 * (i : Int) = (m : Int) := by omega
      have z0 : (0 : Int) ≤ (m : Int) := by omega
      have z1 : (0 : Int) ≤ (m : Int) + 1 := by omega
      have z2 : (0 : Int) ≤ (m : Int) + 2 := by omega
      have z3 : (0 : Int) ≤ (m : Int) + 3 := by omega
      have hss := hs.out
      have l0 : (m : Int) < s.size := by omega
      have l1 : (m : Int) + 1 < s.size := by omega
      have l2 : (m : Int) + 2 < s.size := by omega
      have l3 : (m : Int) + 3 < s.size := by omega
      have v1 : IntKind.i64.wrap ((m : Int) + 1) = (m : Int) + 1 := by rw [IntKind.wrap_i64]; omega
      have v2 : IntKind.i64.wrap ((m : Int) + 2) = (m : Int) + 2 := by rw [IntKind.wrap_i64]; omega
      have v3 : IntKind.i64.wrap ((m : Int) + 3) = (m : Int) + 3 := by rw [IntKind.wrap_i64]; omega
      have g0 : ∀ h, ((s[m]'h).toNat : Int) = ((byteAt s m : Nat) : Int) := fun h => by rw [byteAt_eq s m h]
      have g1 : ∀ h, ((s[m + 1]'h).toNat : Int) = ((byteAt s (m + 1) : Nat) : Int) := fun h => by rw [byteAt_eq s (m + 1) h]
      have g2 : ∀ h, ((s[m + 2]'h).toNat : Int) = ((byteAt s (m + 2) : Nat) : Int) := fun h => by rw [byteAt_eq s (m + 2) h]
      have g3 : ∀ h, ((s[m + 3]'h).toNat : Int) = ((byteAt s (m + 3) : Nat) : Int) := fun h => by rw [byteAt_eq s (m + 3) h]
      obtain ⟨b0, hb0⟩ : ∃ b, b = byteAt s m := ⟨_, rfl⟩
      obtain ⟨b1, hb1⟩ : ∃ b, b = byteAt s (m + 1) := ⟨_, rfl⟩
      obtain ⟨b2, hb2⟩ : ∃ b, b = byteAt s (m + 2) := ⟨_, rfl⟩
      obtain ⟨b3, hb3⟩ : ∃ b, b = byteAt s (m + 3) := ⟨_, rfl⟩
      have q0 := byteAt_lt s m
      have q1 := byteAt_lt s (m + 1)
      have q2 := byteAt_lt s (m + 2)
      have q3 := byteAt_lt s (m + 3)
      rw [← hb0] at g0 q0; rw [← hb1] at g1 q1; rw [← hb2] at g2 q2; rw [← hb3] at g3 q3
      have hor := or4be b0 b1 b2 b3 q0 q1 q2 q3
      obtain ⟨q, hq⟩ : ∃ q, q = b0 * 16777216 + b1 * 65536 + b2 * 256 + b3 := ⟨_, rfl⟩
      rw [← hq] at hor
      have hqw : sprL s (i + 1) = (sprL s i).set i q := by
        show (sprL s i).set i (if i < 16 then beWord s (4 * i) else nextW (sprL s i) i) = _
        rw [if_pos (by omega), beWord, ← hm, ← hb0, ← hb1, ← hb2, ← hb3, hq]
      have hP := hS.put i q
      rw [← hqw] at hP
      have c1 := hS.words.cell (i := i) (by rw [sprL_len]; omega)
      have f1 := hS.words.free i
      have hi2 : i + (K + 1) = 16 := hi
      replace hi2 := Lib.hid hi2
      replace hP := Lib.hid hP
      replace hS := Lib.hid hS
      clear hb0 hb1 hb2 hb3 q0 q1 q2 q3 hq hqw hss hi h0
      replace hm := Lib.hid hm
      go_upto_region 6 with fail
      go_region
      all_goals go_wp2_with fail
      all_goals
        go_roundg K
        case measure => omega
        case rel => exact ⟨i + 1, by go_num, by have := hi2.out; omega, hP.out.drew⟩
end Go.Proofs.YtplfbpihhcnnmaaDoor.sha
