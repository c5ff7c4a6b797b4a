/- What the salts are made of: square, primes. No condition. -/
import Derived.Test.YtebhdlecekjhgaaDoorRoots2
namespace Go.Proofs.YtebhdlecekjhgaaDoor.roots
open Go.RowKit
attribute [local go_sem ↓] Go.wp_at_zero Go.wp_at_succ
set_option linter.unusedVariables false
set_option maxRecDepth 100000

def belowB (x : List Nat) (n : Nat) : Bool := (x.getD 3 0 == 0 && decide (x.getD 2 0 < n)) || (x.getD 3 0 == 0 && x.getD 2 0 == n && x.getD 1 0 == 0 && x.getD 0 0 == 0)
def squareL (k : Nat) : List Nat := timesL [k % 4294967296, k / 4294967296, 0, 0] k
def squareGo (n : Nat) : Nat → Nat → Nat
  | 0, k => k
  | r + 1, k => squareGo n r (if belowB (squareL (k + 2 ^ r)) n then k + 2 ^ r else k)
def squareW (n : Nat) : Nat := squareGo n 35 0 % 4294967296
theorem pow_le_35 (r : Nat) (h : r ≤ 35) : 2 ^ r ≤ 34359738368 := Nat.le_trans (Nat.pow_le_pow_right (by decide) h) (by decide)
set_option maxHeartbeats 8000000 in
theorem square_any (n : Nat) (hn : n < 18446744073709551616) (w : World) :
    Calls Tryd.prog 73 #[.int .u64 (n : Int)] w fun e w' => e = .returned (.int .u32 ((squareW n : Nat) : Int)) ∧ Below w.heap.size w w' := by
  replace hn := Lib.hid hn
  go_enter Tryd.func73, Tryd.ntmps73
  go_wp2
  go_loopw [3, 4, 5] (fun v b x wr => ∃ r k : Nat, r ≤ 35 ∧ k + 2 ^ r ≤ 34359738368 ∧ v = .int .u64 k ∧ b = .int .u64 ((bitOf r : Nat) : Int) ∧ squareGo n r k = squareGo n 35 0 ∧ Below w.heap.size w wr) (fun _ b _ _ => (intOf b).toNat)
  case atStart => exact ⟨35, 0, by omega, by decide, rfl, rfl, rfl, Below.refl _ _⟩
  case round =>
    obtain ⟨r, k, hr, hk, rfl, rfl, hgo, hb⟩ := hrel
    match r, hr, hk, hgo with
    | 0, hr, hk, hgo =>
      have h0 : ((bitOf 0 : Nat) : Int) = 0 := rfl
      rw [h0]
      have hres : squareW n = k % 4294967296 := by unfold squareW; rw [← hgo]; rfl
      obtain ⟨m, hm⟩ : ∃ m, m = k % 4294967296 := ⟨_, rfl⟩
      have e1 : (k : Int) % 4294967296 = (m : Int) := by omega
      have e2 : IntKind.u32.wrap (m : Int) = (m : Int) := by rw [IntKind.wrap_u32]; omega
      have e3 : (m : Int) % 4294967296 = (m : Int) := by omega
      have hk0 : (0 : Int) ≤ (k : Int) := Int.natCast_nonneg _
      rw [← hm] at hres
      clear h0 hgo hm hr hk
      replace hres := Lib.hid hres; replace hb := Lib.hid hb
      go_wp2
      go_ret
      exact ⟨by rw [hres.out]; rfl, hb.out⟩
    | s + 1, hr, hk, hgo =>
      have hbs := bit_succ s
      have hbh := bit_half s
      have hp := pow_le_35 (s + 1) hr
      obtain ⟨B, hB⟩ : ∃ b, b = bitOf (s + 1) := ⟨_, rfl⟩
      obtain ⟨C, hC⟩ : ∃ b, b = bitOf s := ⟨_, rfl⟩
      rw [← hB] at hbs hbh
      rw [← hC] at hbh
      rw [← hB]
      have hp2 : 2 ^ (s + 1) = 2 * 2 ^ s := by rw [Nat.pow_succ, Nat.mul_comm]
      have hB0 : 0 < B := by rw [hbs]; exact Nat.pow_pos (by decide)
      have hstep : squareGo n (s + 1) k = squareGo n s (if belowB (squareL (k + B)) n then k + B else k) := by rw [hbs]; rfl
      rw [hgo] at hstep
      rw [hp2, ← hbs] at hk hp
      have e0 : decide ((0 : Int) < (B : Int)) = true := by simp; omega
      have e0n : decide (0 < B) = true := by simp; omega
      have e1 : (B : Int) / 2 = (C : Int) := by omega
      have e2 : IntKind.u64.wrap (C : Int) = (C : Int) := IntWalk.u64_in _ (by omega)
      obtain ⟨K, hK⟩ : ∃ x, x = k + B := ⟨_, rfl⟩
      have e3 : (k : Int) + (B : Int) = (K : Int) := by omega
      have e4 : IntKind.u64.wrap (K : Int) = (K : Int) := IntWalk.u64_in _ (by omega)
      have e5 : (K : Int) % 18446744073709551616 = (K : Int) := by omega
      have hB00 : (0 : Int) ≤ (B : Int) := Int.natCast_nonneg _
      have hK00 : (0 : Int) ≤ (K : Int) := Int.natCast_nonneg _
      have hKlt : K < 18446744073709551616 := by omega
      have hs4 := split_ok K hKlt
      have hx := times_ok _ K hs4 hKlt
      obtain ⟨x0, x1, x2, x3, hxe, hx0, hx1, hx2, hx3⟩ := hx.form
      obtain ⟨p0, hp0⟩ : ∃ p : Nat, p = K % 4294967296 := ⟨_, rfl⟩
      obtain ⟨p1, hp1⟩ : ∃ p : Nat, p = K / 4294967296 := ⟨_, rfl⟩
      have e6 : (K : Int) % 4294967296 = (p0 : Int) := by omega
      have e7 : (K : Int) / 4294967296 = (p1 : Int) := by omega
      have e8 : IntKind.u64.wrap (p0 : Int) = (p0 : Int) := IntWalk.u64_in _ (by omega)
      have e9 : IntKind.u64.wrap (p1 : Int) = (p1 : Int) := IntWalk.u64_in _ (by omega)
      have cc : ∀ w', Calls Tryd.prog 111 #[.agg #[.int .u64 (p0 : Int), .int .u64 (p1 : Int), .int .u64 0, .int .u64 0], .int .u64 (K : Int)] w' fun e w2 => e = .returned (.agg #[.int .u64 (x0 : Int), .int .u64 (x1 : Int), .int .u64 (x2 : Int), .int .u64 (x3 : Int)]) ∧ Below w'.heap.size w' w2 := fun w' => by
        rw [hp0, hp1]; exact times_any _ _ 0 0 K hs4 hKlt x0 x1 x2 x3 hxe w'
      have hsq : squareL K = [x0, x1, x2, x3] := hxe
      rw [← hK, hsq] at hstep
      have hbB : belowB [x0, x1, x2, x3] n = ((x3 == 0 && decide (x2 < n)) || (x3 == 0 && x2 == n && x1 == 0 && x0 == 0)) := rfl
      have hlt : C < B := by omega
      have hk1 : k + 2 ^ s ≤ 34359738368 := by rw [← hbs]; omega
      have hk2 : K + 2 ^ s ≤ 34359738368 := by rw [← hbs]; omega
      replace hstep := Lib.hid hstep; replace hb := Lib.hid hb; replace cc := Lib.hid cc; replace hC := Lib.hid hC; replace hlt := Lib.hid hlt; replace hk1 := Lib.hid hk1; replace hk2 := Lib.hid hk2; replace hr := Lib.hid hr; replace hbB := Lib.hid hbB
      clear hbs hbh hp hB hp2 hgo hK hk hs4 hx hxe hp0 hp1 hsq hKlt hx0 hx1 hx2 hx3
      go_upto_region 6 with (go_at_call 111; (with_reducible refine (cc.out _).mono ?_); rintro e w1 ⟨rfl, b1⟩; replace hb := Lib.hid (belowCont hb.out b1); clear b1)
      have hX : DW (w1.alloc (.cells #[.int .u64 (x0 : Int), .int .u64 (x1 : Int), .int .u64 (x2 : Int), .int .u64 (x3 : Int)] 142)) w1.heap.size 142 [x0, x1, x2, x3] := heap_alloc_new w1 _
      have hb2 := hb.out.alloc hb.out.size (.cells #[.int .u64 (x0 : Int), .int .u64 (x1 : Int), .int .u64 (x2 : Int), .int .u64 (x3 : Int)] 142)
      clear hb
      generalize w1.alloc (.cells #[.int .u64 (x0 : Int), .int .u64 (x1 : Int), .int .u64 (x2 : Int), .int .u64 (x3 : Int)] 142) = W at hX hb2 ⊢
      generalize w1.heap.size = g at hX ⊢
      clear w1
      have d0 := hX.cell (i := 0) (by simp)
      have d1 := hX.cell (i := 1) (by simp)
      have d2 := hX.cell (i := 2) (by simp)
      have d3 := hX.cell (i := 3) (by simp)
      simp only [List.getD_cons_zero, List.getD_cons_succ] at d0 d1 d2 d3
      clear hX
      have hb := Lib.hid hb2
      clear hb2 cc e5 e6 e7 e8 e9
      have finF : belowB [x0, x1, x2, x3] n = false → squareGo n s k = squareGo n 35 0 := fun h => by have := hstep.out; rw [h] at this; simpa using this.symm
      have finT : belowB [x0, x1, x2, x3] n = true → squareGo n s K = squareGo n 35 0 := fun h => by have := hstep.out; rw [h] at this; simpa using this.symm
      replace finF := Lib.hid finF; replace finT := Lib.hid finT
      clear hstep
      by_cases h3 : x3 = 0
      · subst h3
        by_cases h2 : x2 < n
        · have t2 : decide ((x2 : Int) < (n : Int)) = true := by simp; omega
          have t2n : decide (x2 < n) = true := by simp; omega
          have hB := finT.out (by rw [hbB.out]; simp [h2])
          clear finF finT hbB
          replace hB := Lib.hid hB
          go_wp2
          go_roundw
          case rel => exact ⟨s, K, by have := hr.out; omega, hk2.out, rfl, by rw [← hC.out], hB.out, hb.out⟩
          case measure => have := hlt.out; simp [intOf]; omega
        · have t2 : decide ((x2 : Int) < (n : Int)) = false := by simp; omega
          have t2n : decide (x2 < n) = false := by simp; omega
          by_cases h22 : x2 = n
          · subst h22
            by_cases h1 : x1 = 0
            · subst h1
              by_cases h0 : x0 = 0
              · subst h0
                have hB := finT.out (by rw [hbB.out]; simp)
                clear finF finT hbB h2
                replace hB := Lib.hid hB
                go_wp2
                go_roundw
                case rel => exact ⟨s, K, by have := hr.out; omega, hk2.out, rfl, by rw [← hC.out], hB.out, hb.out⟩
                case measure => have := hlt.out; simp [intOf]; omega
              · have t0 : ((x0 : Int) == 0) = false := by simp; omega
                have t0n : (x0 == 0) = false := by simp; omega
                have hB := finF.out (by rw [hbB.out]; simp [h0])
                clear finF finT hbB h2 h0
                replace hB := Lib.hid hB
                go_wp2
                go_roundw
                case rel => exact ⟨s, k, by have := hr.out; omega, hk1.out, rfl, by rw [← hC.out], hB.out, hb.out⟩
                case measure => have := hlt.out; simp [intOf]; omega
            · have t0 : ((x1 : Int) == 0) = false := by simp; omega
              have t0n : (x1 == 0) = false := by simp; omega
              have hB := finF.out (by rw [hbB.out]; simp [h1])
              clear finF finT hbB h2 h1
              replace hB := Lib.hid hB
              go_wp2
              go_roundw
              case rel => exact ⟨s, k, by have := hr.out; omega, hk1.out, rfl, by rw [← hC.out], hB.out, hb.out⟩
              case measure => have := hlt.out; simp [intOf]; omega
          · have t0 : ((x2 : Int) == (n : Int)) = false := by simp; omega
            have t0n : (x2 == n) = false := by simp; omega
            have hB := finF.out (by rw [hbB.out]; simp [h2, h22])
            clear finF finT hbB h2 h22
            replace hB := Lib.hid hB
            go_wp2
            go_roundw
            case rel => exact ⟨s, k, by have := hr.out; omega, hk1.out, rfl, by rw [← hC.out], hB.out, hb.out⟩
            case measure => have := hlt.out; simp [intOf]; omega
      · have t0 : ((x3 : Int) == 0) = false := by simp; omega
        have t0n : (x3 == 0) = false := by simp; omega
        have hB := finF.out (by rw [hbB.out]; simp [h3])
        clear finF finT hbB h3
        replace hB := Lib.hid hB
        go_wp2
        go_roundw
        case rel => exact ⟨s, k, by have := hr.out; omega, hk1.out, rfl, by rw [← hC.out], hB.out, hb.out⟩
        case measure => have := hlt.out; simp [intOf]; omega
end Go.Proofs.YtebhdlecekjhgaaDoor.roots
