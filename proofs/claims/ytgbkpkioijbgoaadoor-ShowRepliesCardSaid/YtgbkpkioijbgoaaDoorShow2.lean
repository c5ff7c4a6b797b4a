/- A number's text: strconv.FormatUint at base 10 of a number of 32 bits (the shelf has no contract of it), and show.ID. The table of powers of ten is a premise. No other condition. -/
import Derived.Test.YtgbkpkioijbgoaaDoorShow
import Derived.Lib.ItoaMem
import Derived.Lib.AppendIntMem
namespace Go.Proofs.YtgbkpkioijbgoaaDoor.show
open Go.RowKit Go.Sort Go.Lib
attribute [local go_sem ↓] Go.wp_at_zero Go.wp_at_succ
attribute [local go_sem] str_size
set_option linter.unusedVariables false
set_option maxRecDepth 100000

set_option maxHeartbeats 2000000 in
theorem ifmt_any (u : Nat) (hu : u < 18446744073709551616) (w : World) (hT : Tab w) : Calls Tryd.prog 38 #[.int .u64 (u : Int), .int .i64 10] w fun e w' => e = .returned (.string (numT (u : Int))) ∧ Below w.heap.size w w' := by
  by_cases hs : u < 100
  · have c := Go.Proofs.Tryd.internal_strconv_small u hs
    have h100 : (u : Int) < 100 := by omega
    have hcv : IntKind.i64.wrap (u : Int) = (u : Int) := by rw [IntKind.wrap_i64]; omega
    have hr : numT (u : Int) = ⟨(Lib.decDigits u).toArray⟩ := by unfold numT; rw [Lib.itoa_nonneg]; rfl
    replace hr := Lib.hid hr; replace c := Lib.hid c
    clear hs hu hT
    go_enter Tryd.func38, Tryd.ntmps38
    go_wp2_with (go_at_call 74; (with_reducible refine (c.out _).mono ?_); rintro e w' ⟨rfl, rfl⟩)
    go_ret
    exact ⟨by rw [hr.out]; rfl, Below.refl _ _⟩
  · have h100 : ¬ (u : Int) < 100 := by omega
    have hu1 : 1 ≤ u := by omega
    have hnd20 : Lib.nDigits u ≤ 20 := by have := Lib.numDigits_eq u hu1 hu; split at this <;> omega
    have hal : Tryd.prog.arrayLen 126 = 24 := by kernel_rfl
    have hsl1 : ∀ W, (Instr.sliceAt 126 (.pointer (some ⟨w.heap.size, 0, none⟩)) none (some (.int .i64 (Lib.nDigits u : Int))) none).run Tryd.prog W = .ok (.slice (some ⟨w.heap.size, 0, none⟩) (Lib.nDigits u) 24) W := fun W => by
      rw [run_sliceAt_array_h W 126 ⟨w.heap.size, 0, none⟩ (by kernel_rfl) .i64 (Lib.nDigits u : Int) (by omega) (by rw [hal]; omega)]
      go_simp
    have hH0 := Lib.holds_zero0 w 126 (Lib.nDigits u) (by omega)
    have hfmt := Go.Proofs.Tryd.internal_strconv_formatBase10 w.heap.size 0 24 u (Array.replicate (Lib.nDigits u) 0) (w.alloc (.cells Lib.zeros24 126)) hH0 (by rw [Array.size_replicate]; exact Lib.lt_pow_nDigits u) hu (by rw [Array.size_replicate]; omega)
    rw [Array.size_replicate] at hfmt
    have cd := Go.Proofs.Tryd.internal_strconv_numDigits u hu1 hu
    have hT2 : Lib.TabIs Tryd.prog w "internal/strconv.uint64pow10" .u64 Lib.pow10Tab := hT
    have HH0 := Lib.hid hH0
    have hr : numT (u : Int) = str (Lib.decDigits u) := by unfold numT; rw [Lib.itoa_nonneg]
    have hcv : ∀ (k : Nat) (v' : Nat) (dk : Array UInt8), FmtInv (Lib.nDigits u) u 0 v' dk → (convert 129 9 (.slice (some ⟨w.heap.size, 0, none⟩) (Lib.nDigits u) 24)).run Tryd.prog ((putRow (fun (b : UInt8) => Value.int .u8 (b.toNat : Int)) (w.alloc (.cells Lib.zeros24 126)) w.heap.size 0 dk).drewN k) = .ok (.string (str (Lib.decDigits u))) ((putRow (fun (b : UInt8) => Value.int .u8 (b.toNat : Int)) (w.alloc (.cells Lib.zeros24 126)) w.heap.size 0 dk).drewN k) := fun k v' dk hF => by
      have h := run_convert_bytes_back (P := Tryd.prog) ((putRow (fun (b : UInt8) => Value.int .u8 (b.toNat : Int)) (w.alloc (.cells Lib.zeros24 126)) w.heap.size 0 dk).drewN k) 129 9 5 ⟨w.heap.size, 0, none⟩ 24 (Lib.decDigits u) Tryd.underlying129 Tryd.underlying5 Tryd.underlying9 (fun j hj => by
        rw [Lib.row_is_numeral hF j hj, Lib.add_plain, World.cell?_drewN]
        exact cell?_putRow (fun (b : UInt8) => Value.int .u8 (b.toNat : Int)) _ w.heap.size 0 _ dk HH0.out (by rw [hF.size, Array.size_replicate]) j (by rw [hF.size]; rw [Lib.decDigits_length] at hj; exact hj))
      rw [Lib.decDigits_length] at h
      exact h
    have hbel : ∀ (k : Nat) (dk : Array UInt8), Below w.heap.size w ((putRow (fun (b : UInt8) => Value.int .u8 (b.toNat : Int)) (w.alloc (.cells Lib.zeros24 126)) w.heap.size 0 dk).drewN k) := fun k dk => by
      obtain ⟨os, e⟩ := Lib.fin_at w (.cells Lib.zeros24 126) dk k 0
      rw [e]
      exact Lib.below_grow _ w (Nat.le_refl _) k os
    replace hcv := Lib.hid hcv; replace hbel := Lib.hid hbel; replace hr := Lib.hid hr; replace cd := Lib.hid cd; replace hT2 := Lib.hid hT2
    clear hH0 hal hs hu hu1 hT
    go_enter Tryd.func38, Tryd.ntmps38
    go_wp2_with (go_at_call 75; (refine (cd.out _ (Lib.tabIs_alloc hT2.out _)).mono ?_); rintro e w' ⟨rfl, rfl⟩)
    go_at_call 76
    refine hfmt.mono ?_
    rintro e w' ⟨rfl, k, v', dk, rfl, hF⟩
    have hcv2 := hcv.out k v' dk hF
    have hb := Lib.hid (hbel.out k dk)
    go_wp2
    go_ret
    exact ⟨by rw [hr.out]; rfl, hb.out⟩
theorem fmt_any (u : Nat) (hu : u < 18446744073709551616) (w : World) (hT : Tab w) : Calls Tryd.prog 11 #[.int .u64 (u : Int), .int .i64 10] w fun e w' => e = .returned (.string (numT (u : Int))) ∧ Below w.heap.size w w' := by
  have c := ifmt_any u hu w hT
  replace c := Lib.hid c
  clear hu hT
  go_enter Tryd.func11, Tryd.ntmps11
  go_wp2_with (go_at_call 38; (with_reducible refine c.out.mono ?_); rintro e w1 ⟨rfl, b1⟩; replace b1 := Lib.hid b1)
  go_ret
  exact ⟨rfl, b1.out⟩
theorem id_any (u : Nat) (hu : u < 18446744073709551616) (w : World) (hT : Tab w) : Calls Tryd.prog 43 #[.int .u64 (u : Int)] w fun e w' => e = .returned (.string (numT (u : Int))) ∧ Below w.heap.size w w' := by
  have c := fmt_any u hu w hT
  replace c := Lib.hid c
  clear hu hT
  go_enter Tryd.func43, Tryd.ntmps43
  go_wp2_with (go_at_call 11; (with_reducible refine c.out.mono ?_); rintro e w1 ⟨rfl, b1⟩; replace b1 := Lib.hid b1)
  go_ret
  exact ⟨rfl, b1.out⟩
end Go.Proofs.YtgbkpkioijbgoaaDoor.show
