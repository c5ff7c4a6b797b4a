/- How the document's values are put (lodestoneref23.Put); whether two are the same. No condition. -/
import Derived.Test.YtcdgnhhciccoeaaDoorValue3
namespace Go.Proofs.YtcdgnhhciccoeaaDoor.value
open Go.RowKit
attribute [local go_sem ↓] Go.wp_at_zero Go.wp_at_succ
attribute [local go_sem] str_size str_append conv_one conv_one_drew
set_option linter.unusedVariables false
set_option maxRecDepth 100000

theorem cell_alloc {w : World} {p : Addr} {v : Value} (h : w.cell? p = some v) (o : Obj) : (w.alloc o).cell? p = some v := (World.cell?_alloc_some w p o (by rw [h]; rfl)).trans h
theorem rtext_big (l : List UInt8) (hl : l.length ≤ 3000) (w : World) :
    Calls Tryd.prog 89 #[.string (str l)] w fun e w' => e = .returned (.string (str (code.numL l.length ++ l))) ∧ Below w.heap.size w w' := by
  have hc := fun w' => code.refNum_any l.length (by omega) w'
  have hw : IntKind.u64.wrap (l.length : Int) = l.length := IntWalk.u64_in _ (by omega)
  have hroom : ¬ 9223372036854775807 < (code.numL l.length).length + l.length := by have := code.numL_len64 l.length (by omega); omega
  replace hl := Lib.hid hl
  go_enter Tryd.func89, Tryd.ntmps89
  go_wp2_with (go_at_call 44; (with_reducible refine (hc _).mono ?_); rintro e w1 ⟨rfl, hb⟩)
  go_ret
  exact ⟨rfl, hb⟩
theorem rput_none (w : World) : Calls Tryd.prog 45 #[.agg #[.int .i64 0, .int .i64 0, .string ⟨#[]⟩]] w fun e w' => e = .returned (.string (str [0])) ∧ Below w.heap.size w w' := by
  go_enter Tryd.func45, Tryd.ntmps45
  go_wp2_with (go_at_call 49; (with_reducible refine (rmay_none _).mono ?_); rintro e w1 ⟨rfl, b1⟩; obtain ⟨c0, c1, c2, b2⟩ := box3 b1; have d0 := cell_alloc c0; have d1 := cell_alloc c1; have d2 := cell_alloc c2; replace b2 := Lib.hid b2; clear b1)
  go_ret
  exact ⟨rfl, b2.out.alloc b2.out.size _⟩
theorem conv_two (w : World) (o : Obj) (n : Int) : (convert 77 9 (.slice (some ⟨w.heap.size + 1, 0, none⟩) 1 1)).run Tryd.prog ((w.alloc o).alloc (.cells #[.int .u8 n] 5)) = .ok (.string (str [UInt8.ofNat n.toNat])) ((w.alloc o).alloc (.cells #[.int .u8 n] 5)) := by
  have h := conv_one (w.alloc o) n
  have hs : (w.alloc o).heap.size = w.heap.size + 1 := by simp
  rwa [hs] at h
theorem rput_0 (w : World) : Calls Tryd.prog 45 #[.agg #[.int .i64 1, .int .i64 0, .string ⟨#[]⟩]] w fun e w' => e = .returned (.string (str [1, 0])) ∧ Below w.heap.size w w' := by
  go_enter Tryd.func45, Tryd.ntmps45
  go_wp2_with (go_at_call 49; (with_reducible refine (rmay_0 _).mono ?_); rintro e w1 ⟨rfl, b1⟩; have cv := conv_two w1; obtain ⟨c0, c1, c2, b2⟩ := box3 b1; have d0 := cell_alloc c0; have d1 := cell_alloc c1; have d2 := cell_alloc c2; replace b2 := Lib.hid b2; clear b1)
  go_ret
  exact ⟨rfl, (b2.out.alloc b2.out.size _).alloc (b2.out.alloc b2.out.size _).size _⟩
theorem rput_1 (w : World) : Calls Tryd.prog 45 #[.agg #[.int .i64 1, .int .i64 1, .string ⟨#[]⟩]] w fun e w' => e = .returned (.string (str [1, 1])) ∧ Below w.heap.size w w' := by
  go_enter Tryd.func45, Tryd.ntmps45
  go_wp2_with (go_at_call 49; (with_reducible refine (rmay_1 _).mono ?_); rintro e w1 ⟨rfl, b1⟩; have cv := conv_two w1; obtain ⟨c0, c1, c2, b2⟩ := box3 b1; have d0 := cell_alloc c0; have d1 := cell_alloc c1; have d2 := cell_alloc c2; replace b2 := Lib.hid b2; clear b1)
  go_ret
  exact ⟨rfl, (b2.out.alloc b2.out.size _).alloc (b2.out.alloc b2.out.size _).size _⟩
theorem rput_int (n : Int) (u : Nat) (hu : IntKind.u64.wrap n = (u : Int)) (hu64 : u < 18446744073709551616) (w : World) : Calls Tryd.prog 45 #[.agg #[.int .i64 2, .int .i64 n, .string ⟨#[]⟩]] w fun e w' => e = .returned (.string (str (2 :: code.beL 8 u))) ∧ Below w.heap.size w w' := by
  have cb : ∀ w', Calls Tryd.prog 88 #[.int .u64 (u : Int), .int .i64 8] w' fun e w2 => e = .returned (.string (str (code.beL 8 u))) ∧ Below w'.heap.size w' w2 := fun w' => code.refHigh_any u 8 hu64 (by omega) w'
  have hl := code.beL_length 8 u
  generalize code.beL 8 u = l at cb hl ⊢
  replace cb := Lib.hid cb
  clear hu64
  go_enter Tryd.func45, Tryd.ntmps45
  go_wp2_with (first
    | (go_at_call 49; (with_reducible refine (rmay_int n _).mono ?_); rintro e w1 ⟨rfl, b1⟩; obtain ⟨c0, c1, c2, b2⟩ := box3 b1; have d0 := cell_alloc c0; have d1 := cell_alloc c1; have d2 := cell_alloc c2; replace b2 := Lib.hid b2; clear b1)
    | (go_at_call 88; (with_reducible refine (cb.out _).mono ?_); rintro e w2 ⟨rfl, b3⟩; replace b2 := Lib.hid (belowCont (b2.out.alloc b2.out.size _) b3); clear b3))
  go_ret
  exact ⟨rfl, b2.out⟩
theorem rput_txt (l : List UInt8) (hl : l.length ≤ 2000) (w : World) : Calls Tryd.prog 45 #[.agg #[.int .i64 3, .int .i64 0, .string (str l)]] w fun e w' => e = .returned (.string (str (3 :: (code.numL l.length ++ l)))) ∧ Below w.heap.size w w' := by
  have hz : (str l).size = l.length := str_size l
  have cm := fun w' => rmay_txt (str l) true (by simp [hz]; omega) w'
  have ct := fun w' => rtext_big l (by omega) w'
  have hn := code.numL_len64 l.length (by omega)
  have hroom : (code.numL l.length ++ l).length ≤ 3000 := by rw [List.length_append]; omega
  generalize code.numL l.length ++ l = q at ct hroom ⊢
  generalize str l = L at cm ct hz ⊢
  replace cm := Lib.hid cm; replace ct := Lib.hid ct
  clear hn hz hl
  go_enter Tryd.func45, Tryd.ntmps45
  go_wp2_with (first
    | (go_at_call 49; (with_reducible refine (cm.out _).mono ?_); rintro e w1 ⟨rfl, b1⟩; obtain ⟨c0, c1, c2, b2⟩ := box3 b1; have d0 := cell_alloc c0; have d1 := cell_alloc c1; have d2 := cell_alloc c2; replace b2 := Lib.hid b2; clear b1)
    | (go_at_call 89; (with_reducible refine (ct.out _).mono ?_); rintro e w2 ⟨rfl, b3⟩; replace b2 := Lib.hid (belowCont (b2.out.alloc b2.out.size _) b3); clear b3))
  go_ret
  exact ⟨rfl, b2.out⟩
end Go.Proofs.YtcdgnhhciccoeaaDoor.value
