/- Whatever bytes come: they are opened just if their tag is the document's: the law. The table of salts is a premise. No other condition. -/
import Derived.Test.YtaldakkbfbpnkaaDoorSealRef
import Derived.Test.YtaldakkbfbpnkaaDoorShaR4
import Derived.StillTailTactics
import Derived.BigRegion
import Derived.Deep.RegionHeld3
namespace Go.Proofs.YtaldakkbfbpnkaaDoor.sha
open Go.RowKit
attribute [local go_sem ↓] Go.wp_at_zero Go.wp_at_succ
attribute [local go_sem] str_size str_append
set_option linter.unusedVariables false
set_option maxRecDepth 100000

theorem beL_four4 (n : Nat) : high.beL 4 n = [UInt8.ofNat (n / 16777216 % 256), UInt8.ofNat (n / 65536 % 256), UInt8.ofNat (n / 256 % 256), UInt8.ofNat (n % 256)] := by
  have hr : List.range 4 = [0, 1, 2, 3] := rfl
  unfold high.beL
  rw [hr]
  simp
set_option maxHeartbeats 4000000 in
theorem sealGets_short (a0 a1 : ByteArray) (a2 : Int) (w : World) (w0 : a0.size ≤ reachBytes) (w1 : a1.size ≤ reachBytes) (w2 : (Lit.int .i64 a2).wf = true) (hT : SaltAt w salts) (hsz : a1.size < 32) :
    Calls Tryd.prog 8 #[.string a0, .string a1, .int .i64 a2] w fun e w' => e = .returned (.bool true) ∧ Below w.heap.size w w' := by
  obtain ⟨n, hw, hn⟩ : ∃ n : Nat, IntKind.u32.wrap a2 = (n : Int) ∧ n < 4294967296 := ⟨(a2 % 4294967296).toNat, by rw [IntKind.wrap_u32]; omega, by omega⟩
  clear w2
  have hk : a0.extract 0 (min (a0.size : Int) 80).toNat = str (a0.data.toList.take 80) := cut_min a0 80
  have ht : a1.extract 0 (min (a1.size : Int) 200).toNat = str (a1.data.toList.take 200) := cut_min a1 200
  obtain ⟨k, hk0⟩ : ∃ k, k = a0.data.toList.take 80 := ⟨_, rfl⟩
  obtain ⟨t, ht0⟩ : ∃ k, k = a1.data.toList.take 200 := ⟨_, rfl⟩
  have hkl : k.length ≤ 80 := by rw [hk0, List.length_take]; omega
  have htl : t.length = min 200 a1.size := by rw [ht0, List.length_take, Array.length_toList]; rfl
  rw [← hk0] at hk
  rw [← ht0] at ht
  have c1 := fun w' => skeys_any (str k) (by rw [str_size]; unfold reachBytes; omega) w'
  have c2 := fun w' => snonce_any a0 w0 w'
  have kl := chacha.keyOf_size (str k)
  have gl := tag50_len (str k)
  have nl := nonceL_len a0
  obtain ⟨K, hK⟩ : ∃ K, K = chacha.keyOf (str k) := ⟨_, rfl⟩
  obtain ⟨G, hG⟩ : ∃ K, K = tag50 (str k) := ⟨_, rfl⟩
  obtain ⟨no, hno⟩ : ∃ K, K = nonceL a0 := ⟨_, rfl⟩
  rw [← hK] at kl c1
  rw [← hG] at gl c1
  rw [← hno] at nl c2
  obtain ⟨K0, hK0⟩ : ∃ X, X = str k := ⟨_, rfl⟩
  rw [← hK0] at hk c1
  have b1 : (0 : Int) ≤ min (a0.size : Int) 80 := by omega
  have b2 : min (a0.size : Int) 80 ≤ (a0.size : Int) := by omega
  have b3 : (0 : Int) ≤ min (a1.size : Int) 200 := by omega
  have b4 : min (a1.size : Int) 200 ≤ (a1.size : Int) := by omega
  clear w0 w1 hk0 ht0 hkl hK hG hno hK0
  have c3 : ∀ w', SaltAt w' salts → Calls Tryd.prog 28 #[.agg #[.string K, .string (str G)], .int .i64 a2, .string (str no), .string (str t)] w' fun e w2 => e = .returned (.tuple #[.string ⟨#[]⟩, .int .i64 2]) ∧ Below w'.heap.size w' w2 := fun w' _ => get_not K (str no) (str G) (str t) a2 (by rw [str_size]; omega) (Or.inl (by rw [str_size]; omega)) w'
  obtain ⟨T0, hT0⟩ : ∃ X, X = str t := ⟨_, rfl⟩
  obtain ⟨G0, hG0⟩ : ∃ X, X = str G := ⟨_, rfl⟩
  obtain ⟨N0, hN0⟩ : ∃ X, X = str no := ⟨_, rfl⟩
  obtain ⟨z, hz⟩ : ∃ z, T0.size = z := ⟨_, rfl⟩
  have hz3 : (z : Int) < 32 := by rw [← hz, hT0, str_size]; omega
  rw [← hT0] at ht c3
  rw [← hG0] at c1 c3
  rw [← hN0] at c2 c3
  clear hT0 hG0 hN0 kl gl nl hn htl hsz
  have c1B : ∀ x : World, Calls Tryd.prog 25 #[.string K0] (x.alloc (.cells #[.string ⟨#[]⟩, .string ⟨#[]⟩] 31)).drew fun e w2 => e = .returned (.agg #[.string K, .string G0]) ∧ w2.heap[x.heap.size]? = some (.cells #[.string ⟨#[]⟩, .string ⟨#[]⟩] 31 (0, 0)) ∧ (∀ i, w2.cell? ⟨x.heap.size, i, none⟩ = (#[.string ⟨#[]⟩, .string ⟨#[]⟩] : Array Value)[i]?) ∧ (∀ i, w2.frozen? ⟨x.heap.size, i, none⟩ = false) ∧ Below x.heap.size x w2 := fun x => (c1 _).mono (fun e w2 h => ⟨h.1, boxRow (undrew h.2)⟩)
  replace c1B := Lib.hid c1B
  replace c1 := Lib.hid c1; replace c2 := Lib.hid c2; replace c3 := Lib.hid c3; replace hT := Lib.hid hT
  go_enter Tryd.func8, Tryd.ntmps8
  go_upto_region 1 with fail
  go_cut [7, 8] from 9 (fun p q wx => ∃ g, p = .string T0 ∧ q = .pointer (some ⟨g, 0, none⟩) ∧ BoxAt w wx g 31 (.string K) (.string G0))
  case first =>
    go_region_with (first
      | (go_at_call 25; (try rw [hk]); (with_reducible refine (c1B.out _).mono ?_); rintro e w1 ⟨rfl, hrow, hcell, hfree, b1⟩; have d0 := hcell 0; have d1 := hcell 1; have f0 := hfree 0; have f1 := hfree 1; replace hrow := Lib.hid hrow; clear hcell hfree; replace b1 := Lib.hid b1)
      | (go_at_call 25; (try rw [hk]); (with_reducible refine (c1.out _).mono ?_); rintro e w1 ⟨rfl, b1⟩; replace b1 := Lib.hid b1))
    all_goals (go_wp2_with fail)
    all_goals go_meet
    all_goals first
      | exact ⟨_, rfl, rfl, heap_alloc_new w1 _, (show Below w.heap.size w w1 from undrew b1.out).size, (show Below w.heap.size w w1 from undrew b1.out).alloc (show Below w.heap.size w w1 from undrew b1.out).size _⟩
      | exact ⟨_, rfl, rfl, setRow2 hrow.out _ _, Nat.le_refl _, (b1.out.setCell (p := ⟨w.heap.size, 0, none⟩) (Nat.le_refl _) _).setCell (p := ⟨w.heap.size, 1, none⟩) (Nat.le_refl _) _⟩
  case rest =>
  obtain ⟨g, rfl, rfl, hbx⟩ := hcut
  replace hbx := Lib.hid hbx
  clear hk ht b1 b2 b3 b4 hw
  go_upto_region 2 with fail
  go_region_held3 (fun w' => BoxAt w w' g 31 (.string K) (.string G0) ∧ SaltAt w' salts ∧ w'.cell? ⟨g, 0, none⟩ = some (.string K) ∧ w'.cell? ⟨g, 1, none⟩ = some (.string G0))
    (first | exact ⟨hbx.out.drew, hT.out.keep hbx.out.bel.drew, hbx.out.c0, hbx.out.c1⟩ | (go_split_ands; have hq := BoxAt.below (by assumption) (by assumption); exact ⟨hq, hT.out.keep hq.2.2, hq.c0, hq.c1⟩))
    (first
      | (go_at_call 27; (with_reducible refine (c2.out _).mono ?_); rintro e w1 ⟨rfl, hb⟩)
      | (go_at_call 28; (with_reducible refine (c3.out _ (by go_split_ands; assumption)).mono ?_); rintro e w1 ⟨rfl, hb⟩))
  go_split_ands
  replace hbx := Lib.hid (show BoxAt w w1 g 31 (.string K) (.string G0) by assumption)
  go_wp2_with (go_at_call 29; (with_reducible refine (sawake_any _ (hT.out.keep hbx.out.bel)).mono ?_); rintro e w2 ⟨rfl, b2⟩; replace hbx := Lib.hid (hbx.out.below b2))
  all_goals go_ret
  all_goals exact ⟨rfl, hbx.out.bel⟩
set_option maxHeartbeats 4000000 in
theorem sealGets_long (a0 a1 : ByteArray) (a2 : Int) (w : World) (w0 : a0.size ≤ reachBytes) (w1 : a1.size ≤ reachBytes) (w2 : (Lit.int .i64 a2).wf = true) (hT : SaltAt w salts) (hsz : 32 ≤ a1.size) :
    Calls Tryd.prog 8 #[.string a0, .string a1, .int .i64 a2] w fun e w' => e = .returned (.bool true) ∧ Below w.heap.size w w' := by
  obtain ⟨n, hw, hn⟩ : ∃ n : Nat, IntKind.u32.wrap a2 = (n : Int) ∧ n < 4294967296 := ⟨(a2 % 4294967296).toNat, by rw [IntKind.wrap_u32]; omega, by omega⟩
  clear w2
  have hk : a0.extract 0 (min (a0.size : Int) 80).toNat = str (a0.data.toList.take 80) := cut_min a0 80
  have ht : a1.extract 0 (min (a1.size : Int) 200).toNat = str (a1.data.toList.take 200) := cut_min a1 200
  obtain ⟨k, hk0⟩ : ∃ k, k = a0.data.toList.take 80 := ⟨_, rfl⟩
  obtain ⟨t, ht0⟩ : ∃ k, k = a1.data.toList.take 200 := ⟨_, rfl⟩
  have hkl : k.length ≤ 80 := by rw [hk0, List.length_take]; omega
  have htl : t.length = min 200 a1.size := by rw [ht0, List.length_take, Array.length_toList]; rfl
  rw [← hk0] at hk
  rw [← ht0] at ht
  have c1 := fun w' => skeys_any (str k) (by rw [str_size]; unfold reachBytes; omega) w'
  have c2 := fun w' => snonce_any a0 w0 w'
  have kl := chacha.keyOf_size (str k)
  have gl := tag50_len (str k)
  have nl := nonceL_len a0
  obtain ⟨K, hK⟩ : ∃ K, K = chacha.keyOf (str k) := ⟨_, rfl⟩
  obtain ⟨G, hG⟩ : ∃ K, K = tag50 (str k) := ⟨_, rfl⟩
  obtain ⟨no, hno⟩ : ∃ K, K = nonceL a0 := ⟨_, rfl⟩
  rw [← hK] at kl c1
  rw [← hG] at gl c1
  rw [← hno] at nl c2
  obtain ⟨K0, hK0⟩ : ∃ X, X = str k := ⟨_, rfl⟩
  rw [← hK0] at hk c1
  have b1 : (0 : Int) ≤ min (a0.size : Int) 80 := by omega
  have b2 : min (a0.size : Int) 80 ≤ (a0.size : Int) := by omega
  have b3 : (0 : Int) ≤ min (a1.size : Int) 200 := by omega
  have b4 : min (a1.size : Int) 200 ≤ (a1.size : Int) := by omega
  clear w0 w1 hk0 ht0 hkl hK hG hno hK0
  obtain ⟨a, ha⟩ : ∃ a, t.length = a + 32 := ⟨t.length - 32, by omega⟩
  obtain ⟨tu, htu⟩ : ∃ l, l = t.take a := ⟨_, rfl⟩
  obtain ⟨ta, hta⟩ : ∃ l, l = t.drop a := ⟨_, rfl⟩
  have htt : t = tu ++ ta := by rw [htu, hta, List.take_append_drop]
  have lu : tu.length = a := by rw [htu, List.length_take]; omega
  have la : ta.length = 32 := by rw [hta, List.length_drop]; omega
  have hG3 := fun w' h => get_any K G no tu ta a2 n hw hn kl (by omega) nl (by omega) la w' h
  have hul := turnL_len K no tu
  rw [lu] at hul
  rw [← htt] at hG3
  obtain ⟨v0, hv0⟩ : ∃ v : Nat, v = n / 16777216 % 256 := ⟨_, rfl⟩
  obtain ⟨v1, hv1⟩ : ∃ v : Nat, v = n / 65536 % 256 := ⟨_, rfl⟩
  obtain ⟨v2, hv2⟩ : ∃ v : Nat, v = n / 256 % 256 := ⟨_, rfl⟩
  obtain ⟨v3, hv3⟩ : ∃ v : Nat, v = n % 256 := ⟨_, rfl⟩
  have hP : high.beL 4 n ++ (no ++ tu) = UInt8.ofNat v0 :: UInt8.ofNat v1 :: UInt8.ofNat v2 :: UInt8.ofNat v3 :: (no ++ tu) := by rw [hv0, hv1, hv2, hv3, beL_four4]; rfl
  have c4 : ∀ w', Calls Tryd.prog 24 #[.string (str G), .string (str (UInt8.ofNat v0 :: UInt8.ofNat v1 :: UInt8.ofNat v2 :: UInt8.ofNat v3 :: (no ++ tu)))] w' fun e w2 => e = .returned (.string (str (stagL G n no tu))) ∧ Below w'.heap.size w' w2 := fun w' => by
    rw [← hP]
    exact rtag_any G (high.beL 4 n ++ (no ++ tu)) (by omega) (by rw [List.length_append, List.length_append, high.beL_length]; omega) w'
  have hsl := stagL_len G n no tu
  obtain ⟨S, hS⟩ : ∃ V, V = stagL G n no tu := ⟨_, rfl⟩
  obtain ⟨U, hU⟩ : ∃ V, V = turnL K no tu := ⟨_, rfl⟩
  rw [← hS] at c4 hG3 hsl
  rw [← hU] at hG3 hul
  have hcmp : ((str S).toList == (str ta).toList) = (S == ta) := by rw [str_bl, str_bl]
  obtain ⟨T0, hT0⟩ : ∃ X, X = str t := ⟨_, rfl⟩
  have hz : T0.size = a + 32 := by rw [hT0, str_size]; exact ha
  obtain ⟨z, hzz⟩ : ∃ z, T0.size = z := ⟨_, rfl⟩
  have hza : z = a + 32 := by rw [← hzz]; exact hz
  have hx1 : T0.extract 0 a = str tu := by rw [hT0, cut_extract, htu]; simp
  have hx2 : T0.extract a z = str ta := by rw [hT0, cut_extract, hta, hza, List.take_of_length_le (by rw [List.length_drop]; omega)]
  have e1 : IntKind.i64.wrap ((z : Int) - 32) = (a : Int) := by rw [IntKind.wrap_i64]; omega
  have e2 : ¬ (z : Int) < 32 := by omega
  have e3 : (0 : Int) ≤ (a : Int) := by omega
  have e4 : (a : Int) ≤ (z : Int) := by omega
  have ev0 : (n : Int) / 16777216 % 256 = (v0 : Int) := by omega
  have ev1 : (n : Int) / 65536 % 256 = (v1 : Int) := by omega
  have ev2 : (n : Int) / 256 % 256 = (v2 : Int) := by omega
  have ev3 : (n : Int) % 256 = (v3 : Int) := by omega
  have ew0 : IntKind.u8.wrap ((n : Int) / 16777216) = (v0 : Int) := by rw [IntKind.wrap_u8]; omega
  have ew1 : IntKind.u8.wrap ((n : Int) / 65536) = (v1 : Int) := by rw [IntKind.wrap_u8]; omega
  have ew2 : IntKind.u8.wrap ((n : Int) / 256) = (v2 : Int) := by rw [IntKind.wrap_u8]; omega
  have ew3 : IntKind.u8.wrap (n : Int) = (v3 : Int) := by rw [IntKind.wrap_u8]; omega
  have cv := fun W q h => conv_four W q (v0 : Int) (v1 : Int) (v2 : Int) (v3 : Int) h
  have cvA : ∀ X : World, (convert 23 9 (.slice (some ⟨X.heap.size, 0, none⟩) 4 4)).run Tryd.prog (X.alloc (.cells #[.int .u8 (v0 : Int), .int .u8 (v1 : Int), .int .u8 (v2 : Int), .int .u8 (v3 : Int)] 5)) = .ok (.string (str [UInt8.ofNat v0, UInt8.ofNat v1, UInt8.ofNat v2, UInt8.ofNat v3])) (X.alloc (.cells #[.int .u8 (v0 : Int), .int .u8 (v1 : Int), .int .u8 (v2 : Int), .int .u8 (v3 : Int)] 5)) := fun X => cv _ _ (heap_alloc_new X _)
  have r1 : ¬ 9223372036854775807 < 4 + no.length := by omega
  have r2 : ¬ 9223372036854775807 < 4 + no.length + tu.length := by omega
  have r3 : ¬ 9223372036854775807 < 4 + (no.length + tu.length) := by omega
  rw [nl] at r1 r2 r3
  rw [lu] at r2 r3
  obtain ⟨G0, hG0⟩ : ∃ X, X = str G := ⟨_, rfl⟩
  rw [← hT0] at ht hG3
  rw [← hG0] at c1 c4 hG3
  obtain ⟨q, hq⟩ : ∃ q, (S == ta) = q := ⟨_, rfl⟩
  rw [hq] at hcmp
  have hUs : (str U).size = a := by rw [str_size]; exact hul
  obtain ⟨U0, hU0⟩ : ∃ X, X = str U := ⟨_, rfl⟩
  rw [← hU0] at hUs hG3
  have c3 : ∀ w', SaltAt w' salts → Calls Tryd.prog 28 #[.agg #[.string K, .string G0], .int .i64 a2, .string (str no), .string T0] w' fun e w2 => e = .returned (.tuple #[.string (if q then U0 else ⟨#[]⟩), .int .i64 (if q then 0 else 100)]) ∧ Below w'.heap.size w' w2 := fun w' h => by
    have := hG3 w' h
    cases q
    · have hne : ¬ ta = S := fun e => by rw [e] at hq; simp at hq
      rw [if_neg hne] at this; exact this
    · have he : ta = S := (beq_iff_eq.mp hq).symm
      rw [if_pos he] at this; exact this
  clear hT0 hG0 hU0 kl gl hn htl hsz hz hza hq hG3 hP hv0 hv1 hv2 hv3 htt htu hta hS hU hul ha hsl cv la
  have hea : ((a : Int) == (a : Int)) = true := by simp
  have c1B : ∀ x : World, Calls Tryd.prog 25 #[.string K0] (x.alloc (.cells #[.string ⟨#[]⟩, .string ⟨#[]⟩] 31)).drew fun e w2 => e = .returned (.agg #[.string K, .string G0]) ∧ w2.heap[x.heap.size]? = some (.cells #[.string ⟨#[]⟩, .string ⟨#[]⟩] 31 (0, 0)) ∧ (∀ i, w2.cell? ⟨x.heap.size, i, none⟩ = (#[.string ⟨#[]⟩, .string ⟨#[]⟩] : Array Value)[i]?) ∧ (∀ i, w2.frozen? ⟨x.heap.size, i, none⟩ = false) ∧ Below x.heap.size x w2 := fun x => (c1 _).mono (fun e w2 h => ⟨h.1, boxRow (undrew h.2)⟩)
  replace c1B := Lib.hid c1B
  replace c1 := Lib.hid c1; replace c2 := Lib.hid c2; replace c3 := Lib.hid c3; replace c4 := Lib.hid c4; replace hT := Lib.hid hT
  have hw0 := Lib.hid hw
  go_enter Tryd.func8, Tryd.ntmps8
  go_upto_region 1 with fail
  go_cut [7, 8] from 9 (fun p q wx => ∃ g, p = .string T0 ∧ q = .pointer (some ⟨g, 0, none⟩) ∧ BoxAt w wx g 31 (.string K) (.string G0))
  case first =>
    go_region_with (first
      | (go_at_call 25; (try rw [hk]); (with_reducible refine (c1B.out _).mono ?_); rintro e w1 ⟨rfl, hrow, hcell, hfree, b1⟩; have d0 := hcell 0; have d1 := hcell 1; have f0 := hfree 0; have f1 := hfree 1; replace hrow := Lib.hid hrow; clear hcell hfree; replace b1 := Lib.hid b1)
      | (go_at_call 25; (try rw [hk]); (with_reducible refine (c1.out _).mono ?_); rintro e w1 ⟨rfl, b1⟩; replace b1 := Lib.hid b1))
    all_goals (go_wp2_with fail)
    all_goals go_meet
    all_goals first
      | exact ⟨_, rfl, rfl, heap_alloc_new w1 _, (show Below w.heap.size w w1 from undrew b1.out).size, (show Below w.heap.size w w1 from undrew b1.out).alloc (show Below w.heap.size w w1 from undrew b1.out).size _⟩
      | exact ⟨_, rfl, rfl, setRow2 hrow.out _ _, Nat.le_refl _, (b1.out.setCell (p := ⟨w.heap.size, 0, none⟩) (Nat.le_refl _) _).setCell (p := ⟨w.heap.size, 1, none⟩) (Nat.le_refl _) _⟩
  case rest =>
  obtain ⟨g, rfl, rfl, hbx⟩ := hcut
  replace hbx := Lib.hid hbx
  clear hk ht b1 b2 b3 b4
  cases q
  case false =>
    go_upto_region 2 with fail
    go_region_held3 (fun w' => BoxAt w w' g 31 (.string K) (.string G0) ∧ SaltAt w' salts ∧ w'.cell? ⟨g, 0, none⟩ = some (.string K) ∧ w'.cell? ⟨g, 1, none⟩ = some (.string G0))
      (first | exact ⟨hbx.out.drew, hT.out.keep hbx.out.bel.drew, hbx.out.c0, hbx.out.c1⟩ | (go_split_ands; have hq := BoxAt.below (by assumption) (by assumption); exact ⟨hq, hT.out.keep hq.2.2, hq.c0, hq.c1⟩))
      (first
        | (go_at_call 27; (with_reducible refine (c2.out _).mono ?_); rintro e w1 ⟨rfl, hb⟩)
        | (go_at_call 28; (with_reducible refine (c3.out _ (by go_split_ands; assumption)).mono ?_); rintro e w1 ⟨rfl, hb⟩))
    go_split_ands
    replace hbx := Lib.hid (show BoxAt w w1 g 31 (.string K) (.string G0) by assumption)
    go_upto_region 7 with fail
    replace hbx := Lib.hid (hbx.out.below ((Below.refl w1.heap.size w1).alloc (Nat.le_refl _) (.cells #[.int .u8 (v0 : Int), .int .u8 (v1 : Int), .int .u8 (v2 : Int), .int .u8 (v3 : Int)] 5)))
    go_region_held3 (fun w' => BoxAt w w' g 31 (.string K) (.string G0) ∧ SaltAt w' salts ∧ w'.cell? ⟨g, 0, none⟩ = some (.string K) ∧ w'.cell? ⟨g, 1, none⟩ = some (.string G0))
      (first | exact ⟨hbx.out.drew, hT.out.keep hbx.out.bel.drew, hbx.out.c0, hbx.out.c1⟩ | (go_split_ands; have hq := BoxAt.below (by assumption) (by assumption); exact ⟨hq, hT.out.keep hq.2.2, hq.c0, hq.c1⟩))
      (first
        | (go_at_call 27; (with_reducible refine (c2.out _).mono ?_); rintro e w1 ⟨rfl, hb⟩)
        | (go_at_call 24; (with_reducible refine (c4.out _).mono ?_); rintro e w1 ⟨rfl, hb⟩))
    go_split_ands
    replace hbx := Lib.hid (show BoxAt w w1 g 31 (.string K) (.string G0) by assumption)
    go_wp2_with (go_at_call 29; (with_reducible refine (sawake_any _ (hT.out.keep hbx.out.bel)).mono ?_); rintro e w2 ⟨rfl, b2⟩; replace hbx := Lib.hid (hbx.out.below b2))
    all_goals go_outline
    all_goals go_ret
    all_goals exact ⟨rfl, hbx.out.bel⟩
  case true =>
    go_upto_region 2 with fail
    go_region_held3 (fun w' => BoxAt w w' g 31 (.string K) (.string G0) ∧ SaltAt w' salts ∧ w'.cell? ⟨g, 0, none⟩ = some (.string K) ∧ w'.cell? ⟨g, 1, none⟩ = some (.string G0))
      (first | exact ⟨hbx.out.drew, hT.out.keep hbx.out.bel.drew, hbx.out.c0, hbx.out.c1⟩ | (go_split_ands; have hq := BoxAt.below (by assumption) (by assumption); exact ⟨hq, hT.out.keep hq.2.2, hq.c0, hq.c1⟩))
      (first
        | (go_at_call 27; (with_reducible refine (c2.out _).mono ?_); rintro e w1 ⟨rfl, hb⟩)
        | (go_at_call 28; (with_reducible refine (c3.out _ (by go_split_ands; assumption)).mono ?_); rintro e w1 ⟨rfl, hb⟩))
    go_split_ands
    replace hbx := Lib.hid (show BoxAt w w1 g 31 (.string K) (.string G0) by assumption)
    go_upto_region 7 with fail
    replace hbx := Lib.hid (hbx.out.below ((Below.refl w1.heap.size w1).alloc (Nat.le_refl _) (.cells #[.int .u8 (v0 : Int), .int .u8 (v1 : Int), .int .u8 (v2 : Int), .int .u8 (v3 : Int)] 5)))
    go_region_held3 (fun w' => BoxAt w w' g 31 (.string K) (.string G0) ∧ SaltAt w' salts ∧ w'.cell? ⟨g, 0, none⟩ = some (.string K) ∧ w'.cell? ⟨g, 1, none⟩ = some (.string G0))
      (first | exact ⟨hbx.out.drew, hT.out.keep hbx.out.bel.drew, hbx.out.c0, hbx.out.c1⟩ | (go_split_ands; have hq := BoxAt.below (by assumption) (by assumption); exact ⟨hq, hT.out.keep hq.2.2, hq.c0, hq.c1⟩))
      (first
        | (go_at_call 27; (with_reducible refine (c2.out _).mono ?_); rintro e w1 ⟨rfl, hb⟩)
        | (go_at_call 24; (with_reducible refine (c4.out _).mono ?_); rintro e w1 ⟨rfl, hb⟩))
    go_split_ands
    replace hbx := Lib.hid (show BoxAt w w1 g 31 (.string K) (.string G0) by assumption)
    go_wp2_with (go_at_call 29; (with_reducible refine (sawake_any _ (hT.out.keep hbx.out.bel)).mono ?_); rintro e w2 ⟨rfl, b2⟩; replace hbx := Lib.hid (hbx.out.below b2))
    all_goals go_outline
    all_goals go_ret
    all_goals exact ⟨rfl, hbx.out.bel⟩
theorem sealGets_walk (a0 a1 : ByteArray) (a2 : Int) (w : World) (w0 : a0.size ≤ reachBytes) (w1 : a1.size ≤ reachBytes) (w2 : (Lit.int .i64 a2).wf = true) (hT : SaltAt w salts) :
    Calls Tryd.prog 8 #[.string a0, .string a1, .int .i64 a2] w fun e w' => e = .returned (.bool true) ∧ Below w.heap.size w w' := by
  rcases Nat.lt_or_ge a1.size 32 with h | h
  · exact sealGets_short a0 a1 a2 w w0 w1 w2 hT h
  · exact sealGets_long a0 a1 a2 w w0 w1 w2 hT h
end Go.Proofs.YtaldakkbfbpnkaaDoor.sha
