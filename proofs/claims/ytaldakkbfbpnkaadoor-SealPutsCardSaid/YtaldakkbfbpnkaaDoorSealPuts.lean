/- What is sealed has the document's bytes, and comes back: the law. The table of salts is a premise. No other condition. -/
import Derived.Test.YtaldakkbfbpnkaaDoorSealRef
import Derived.StillTailTactics
import Derived.BigRegion
import Derived.Deep.RegionHeld3
namespace Go.Proofs.YtaldakkbfbpnkaaDoor.sha
open Go.RowKit
attribute [local go_sem ↓] Go.wp_at_zero Go.wp_at_succ
attribute [local go_sem] str_size
set_option linter.unusedVariables false
set_option maxRecDepth 100000

set_option maxHeartbeats 1000000 in
theorem sealPuts_walk (a0 : ByteArray) (a1 : Int) (a2 : ByteArray) (w : World) (w0 : a0.size ≤ reachBytes) (w1 : (Lit.int .i64 a1).wf = true) (w2 : a2.size ≤ reachBytes) (hT : SaltAt w salts) :
    Calls Tryd.prog 7 #[.string a0, .int .i64 a1, .string a2] w fun e w' => e = .returned (.bool true) ∧ Below w.heap.size w w' := by
  obtain ⟨n, hw, hn⟩ : ∃ n : Nat, IntKind.u32.wrap a1 = (n : Int) ∧ n < 4294967296 := ⟨(a1 % 4294967296).toNat, by rw [IntKind.wrap_u32]; omega, by omega⟩
  clear w1
  have hk : a0.extract 0 (min (a0.size : Int) 80).toNat = str (a0.data.toList.take 80) := cut_min a0 80
  have ht : a2.extract 0 (min (a2.size : Int) 300).toNat = str (a2.data.toList.take 300) := cut_min a2 300
  obtain ⟨k, hk0⟩ : ∃ k, k = a0.data.toList.take 80 := ⟨_, rfl⟩
  obtain ⟨t, ht0⟩ : ∃ k, k = a2.data.toList.take 300 := ⟨_, rfl⟩
  have hkl : k.length ≤ 80 := by rw [hk0, List.length_take]; omega
  have htl : t.length ≤ 300 := by rw [ht0, List.length_take]; omega
  rw [← hk0] at hk
  rw [← ht0] at ht
  have c1 := fun w' => skeys_any (str k) (by rw [str_size]; unfold reachBytes; omega) w'
  have c2 := fun w' => snonce_any a0 w0 w'
  have kl := chacha.keyOf_size (str k)
  have gl := tag50_len (str k)
  have nl := nonceL_len a0
  obtain ⟨K, hK⟩ : ∃ K, K = chacha.keyOf (str k) := ⟨_, rfl⟩
  obtain ⟨G, hG⟩ : ∃ K, K = tag50 (str k) := ⟨_, rfl⟩
  obtain ⟨no, hno⟩ : ∃ K, K = nonceL a0 := ⟨_, rfl⟩
  rw [← hK] at kl c1
  rw [← hG] at gl c1
  rw [← hno] at nl c2
  have c3 := fun w' h => put_any K G no t a1 n hw hn kl (by omega) nl (by omega) w' h
  have c4 := fun w' h => get_put K G no t a1 n hw hn kl (by omega) nl (by omega) w' h
  have c5 := fun w' => rseal_any K G no t a1 n hw hn kl (by omega) nl (by omega) w'
  obtain ⟨S, hS⟩ : ∃ V, V = str (sealL K G n no t) := ⟨_, rfl⟩
  rw [← hS] at c3 c4 c5
  obtain ⟨K0, hK0⟩ : ∃ X, X = str k := ⟨_, rfl⟩
  obtain ⟨T0, hT0⟩ : ∃ X, X = str t := ⟨_, rfl⟩
  obtain ⟨G0, hG0⟩ : ∃ X, X = str G := ⟨_, rfl⟩
  obtain ⟨N0, hN0⟩ : ∃ X, X = str no := ⟨_, rfl⟩
  rw [← hK0] at hk c1
  rw [← hT0] at ht c3 c4 c5
  rw [← hG0] at c1 c3 c4 c5
  rw [← hN0] at c2 c3 c4 c5
  have b1 : (0 : Int) ≤ min (a0.size : Int) 80 := by omega
  have b2 : min (a0.size : Int) 80 ≤ (a0.size : Int) := by omega
  have b3 : (0 : Int) ≤ min (a2.size : Int) 300 := by omega
  have b4 : min (a2.size : Int) 300 ≤ (a2.size : Int) := by omega
  clear w0 w2 hk0 ht0 hkl htl hK hG hno hS hK0 hT0 hG0 hN0 kl gl nl hn
  have hbb : Below w.heap.size w w := Below.refl _ _
  replace hbb := Lib.hid hbb
  have c1B : ∀ x : World, Calls Tryd.prog 25 #[.string K0] (x.alloc (.cells #[.string ⟨#[]⟩, .string ⟨#[]⟩] 31)).drew fun e w2 => e = .returned (.agg #[.string K, .string G0]) ∧ w2.heap[x.heap.size]? = some (.cells #[.string ⟨#[]⟩, .string ⟨#[]⟩] 31 (0, 0)) ∧ (∀ i, w2.cell? ⟨x.heap.size, i, none⟩ = (#[.string ⟨#[]⟩, .string ⟨#[]⟩] : Array Value)[i]?) ∧ (∀ i, w2.frozen? ⟨x.heap.size, i, none⟩ = false) ∧ Below x.heap.size x w2 := fun x => (c1 _).mono (fun e w2 h => ⟨h.1, boxRow (undrew h.2)⟩)
  replace c1B := Lib.hid c1B
  replace c1 := Lib.hid c1; replace c2 := Lib.hid c2; replace c3 := Lib.hid c3; replace c4 := Lib.hid c4; replace c5 := Lib.hid c5; replace hT := Lib.hid hT
  go_enter Tryd.func7, Tryd.ntmps7
  go_upto_region 1 with fail
  go_cut [7, 8] from 9 (fun p q wx => ∃ g, p = .string T0 ∧ q = .pointer (some ⟨g, 0, none⟩) ∧ BoxAt w wx g 31 (.string K) (.string G0))
  case first =>
    go_region_with (first
      | (go_at_call 25; (try rw [hk]); (with_reducible refine (c1B.out _).mono ?_); rintro e w1 ⟨rfl, hrow, hcell, hfree, b1⟩; have d0 := hcell 0; have d1 := hcell 1; have f0 := hfree 0; have f1 := hfree 1; replace hrow := Lib.hid hrow; clear hcell hfree; replace b1 := Lib.hid b1)
      | (go_at_call 25; (try rw [hk]); (with_reducible refine (c1.out _).mono ?_); rintro e w1 ⟨rfl, b1⟩; replace b1 := Lib.hid b1))
    all_goals (go_wp2_with fail)
    all_goals go_meet
    all_goals first
      | exact ⟨_, rfl, rfl, heap_alloc_new w1 _, (show Below w.heap.size w w1 from undrew b1.out).size, (show Below w.heap.size w w1 from undrew b1.out).alloc (show Below w.heap.size w w1 from undrew b1.out).size _⟩
      | exact ⟨_, rfl, rfl, setRow2 hrow.out _ _, Nat.le_refl _, (b1.out.setCell (p := ⟨w.heap.size, 0, none⟩) (Nat.le_refl _) _).setCell (p := ⟨w.heap.size, 1, none⟩) (Nat.le_refl _) _⟩
  case rest =>
  obtain ⟨g, rfl, rfl, hbx⟩ := hcut
  replace hbx := Lib.hid hbx
  clear hk ht b1 b2 b3 b4 hw
  go_upto_region 2 with fail
  go_region_held3 (fun w' => BoxAt w w' g 31 (.string K) (.string G0) ∧ SaltAt w' salts ∧ w'.cell? ⟨g, 0, none⟩ = some (.string K) ∧ w'.cell? ⟨g, 1, none⟩ = some (.string G0))
    (first | exact ⟨hbx.out.drew, hT.out.keep hbx.out.2.2.drew, hbx.out.c0, hbx.out.c1⟩ | (go_split_ands; have hq := BoxAt.below (by assumption) (by assumption); exact ⟨hq, hT.out.keep hq.2.2, hq.c0, hq.c1⟩))
    (first
      | (go_at_call 27; (with_reducible refine (c2.out _).mono ?_); rintro e w1 ⟨rfl, hb⟩)
      | (go_at_call 26; (with_reducible refine (c3.out _ (by go_split_ands; assumption)).mono ?_); rintro e w1 ⟨rfl, hb⟩)
      | (go_at_call 28; (with_reducible refine (c4.out _ (by go_split_ands; assumption)).mono ?_); rintro e w1 ⟨rfl, hb⟩)
      | (go_at_call 29; (with_reducible refine (sawake_any _ (by go_split_ands; assumption)).mono ?_); rintro e w1 ⟨rfl, hb⟩)
      | (go_at_call 30; (with_reducible refine (c5.out _).mono ?_); rintro e w1 ⟨rfl, hb⟩))
  go_split_ands
  replace hbx := Lib.hid (show BoxAt w w1 g 31 (.string K) (.string G0) by assumption)
  go_upto_region 3 with fail
  go_region_held3 (fun w' => BoxAt w w' g 31 (.string K) (.string G0) ∧ SaltAt w' salts ∧ w'.cell? ⟨g, 0, none⟩ = some (.string K) ∧ w'.cell? ⟨g, 1, none⟩ = some (.string G0))
    (first | exact ⟨hbx.out.drew, hT.out.keep hbx.out.2.2.drew, hbx.out.c0, hbx.out.c1⟩ | (go_split_ands; have hq := BoxAt.below (by assumption) (by assumption); exact ⟨hq, hT.out.keep hq.2.2, hq.c0, hq.c1⟩))
    (first
      | (go_at_call 27; (with_reducible refine (c2.out _).mono ?_); rintro e w1 ⟨rfl, hb⟩)
      | (go_at_call 26; (with_reducible refine (c3.out _ (by go_split_ands; assumption)).mono ?_); rintro e w1 ⟨rfl, hb⟩)
      | (go_at_call 28; (with_reducible refine (c4.out _ (by go_split_ands; assumption)).mono ?_); rintro e w1 ⟨rfl, hb⟩)
      | (go_at_call 29; (with_reducible refine (sawake_any _ (by go_split_ands; assumption)).mono ?_); rintro e w1 ⟨rfl, hb⟩)
      | (go_at_call 30; (with_reducible refine (c5.out _).mono ?_); rintro e w1 ⟨rfl, hb⟩))
  go_split_ands
  replace hbx := Lib.hid (show BoxAt w w1 g 31 (.string K) (.string G0) by assumption)
  go_upto_region 4 with fail
  go_region_held3 (fun w' => BoxAt w w' g 31 (.string K) (.string G0) ∧ SaltAt w' salts ∧ w'.cell? ⟨g, 0, none⟩ = some (.string K) ∧ w'.cell? ⟨g, 1, none⟩ = some (.string G0))
    (first | exact ⟨hbx.out.drew, hT.out.keep hbx.out.2.2.drew, hbx.out.c0, hbx.out.c1⟩ | (go_split_ands; have hq := BoxAt.below (by assumption) (by assumption); exact ⟨hq, hT.out.keep hq.2.2, hq.c0, hq.c1⟩))
    (first
      | (go_at_call 27; (with_reducible refine (c2.out _).mono ?_); rintro e w1 ⟨rfl, hb⟩)
      | (go_at_call 26; (with_reducible refine (c3.out _ (by go_split_ands; assumption)).mono ?_); rintro e w1 ⟨rfl, hb⟩)
      | (go_at_call 28; (with_reducible refine (c4.out _ (by go_split_ands; assumption)).mono ?_); rintro e w1 ⟨rfl, hb⟩)
      | (go_at_call 29; (with_reducible refine (sawake_any _ (by go_split_ands; assumption)).mono ?_); rintro e w1 ⟨rfl, hb⟩)
      | (go_at_call 30; (with_reducible refine (c5.out _).mono ?_); rintro e w1 ⟨rfl, hb⟩))
  all_goals go_wp2
  all_goals go_ret
  all_goals (go_split_ands; exact ⟨rfl, BoxAt.bel (by assumption)⟩)
end Go.Proofs.YtaldakkbfbpnkaaDoor.sha
