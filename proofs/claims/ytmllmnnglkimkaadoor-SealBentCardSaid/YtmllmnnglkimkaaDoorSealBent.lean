/- Where a byte of the tag is another one nothing is opened; keys and nonces that may not be seal nothing: the law. The table of salts is a premise. No other condition. -/
import Derived.Test.YtmllmnnglkimkaaDoorSealRef
import Derived.StillTailTactics
import Derived.BigRegion
import Derived.Deep.RegionHeld3
import Derived.Lib.AtoiErrMem
namespace Go.Proofs.YtmllmnnglkimkaaDoor.sha
open Go.RowKit
attribute [local go_sem ↓] Go.wp_at_zero Go.wp_at_succ
attribute [local go_sem] str_size
set_option linter.unusedVariables false
set_option maxRecDepth 100000

theorem sb_set (U ta : List UInt8) (i : Nat) (v : UInt8) : (U ++ ta).set (U.length + i) v = U ++ ta.set i v := by
  rw [List.set_append_right _ _ (by omega), show U.length + i - U.length = i by omega]
theorem sb_at (U ta : List UInt8) (j : Nat) : (U ++ ta).getD (U.length + j) 0 = ta.getD j 0 := by
  simp [List.getD, List.getElem?_append_right]
theorem sb_r (pn r : Nat) (h : r = pn % 32) : (pn : Int) % 32 = (r : Int) := by omega
theorem sb_w (r : Nat) (h : r < 32) : IntKind.i64.wrap (r : Int) = (r : Int) := by rw [IntKind.wrap_i64]; omega
theorem sb_w64 (r : Nat) (h : r < 32) : wrap64 (r : Int) = (r : Int) := by unfold wrap64; omega
theorem sb_z (z : Nat) (h : z < 1000) : IntKind.i64.wrap ((z : Int) - 1) = (z : Int) - 1 := by rw [IntKind.wrap_i64]; omega
theorem sb_i (z r i : Nat) (h : z < 1000) (hi : i + r + 1 = z) : IntKind.i64.wrap ((z : Int) - 1 - (r : Int)) = (i : Int) := by rw [IntKind.wrap_i64]; omega
theorem sb_rem (pn r : Nat) (h : r = pn % 32) : (pn : Int).tmod 32 = (r : Int) := by rw [IntWalk.rem_in _ _ (by omega)]; omega
theorem sb_same (l : List UInt8) (i : Nat) (h : i < l.length) (q : UInt8) : l.set i (l.getD i 0 ^^^ q) = l ↔ q = 0 := by
  constructor
  · intro e
    have h3 : (l.set i (l.getD i 0 ^^^ q)).getD i 0 = l.getD i 0 := by rw [e]
    simp [List.getD, h] at h3
    have h4 := congrArg (l[i] ^^^ ·) h3
    simpa [← UInt8.xor_assoc] using h4
  · intro e
    subst e
    simp [List.getD, h]

theorem sb_idx (m j r idx z : Nat) (h1 : idx = m + j) (h2 : j + r = 31) (h3 : z = m + 32) : idx + r + 1 = z := by omega
theorem sb_e5 (m z : Nat) (h : z = m + 32) : ¬ (z : Int) < 32 := by omega
theorem sb_e7 (idx r z : Nat) (h : idx + r + 1 = z) : (idx : Int) < (z : Int) := by omega
theorem sb_z300 (m z : Nat) (h : z = m + 32) (h2 : m ≤ 200) : z ≤ 300 ∧ z < 1000 := by omega
theorem sb_ilt (m j r idx n : Nat) (h1 : idx = m + j) (h2 : j + r = 31) (h3 : n = m + 32) : idx < n := by omega
theorem sb_j (r : Nat) (h : r < 32) : ∃ j, j + r = 31 := ⟨31 - r, by omega⟩
set_option maxHeartbeats 4000000 in
theorem sealBent_walk (a0 a1 : ByteArray) (a2_0 a2_1 : Int) (w : World) (w0 : a0.size ≤ reachBytes) (w1 : a1.size ≤ reachBytes) (w2_0 : (Lit.int .u8 a2_0).wf = true) (w2_1 : (Lit.int .u8 a2_1).wf = true) (hT : SaltAt w salts) :
    Calls Tryd.prog 4 #[.string a0, .string a1, .agg #[.int .u8 a2_0, .int .u8 a2_1]] w fun e w' => e = .returned (.bool true) ∧ Below w.heap.size w w' := by
  have v2 : 0 ≤ a2_0 ∧ a2_0 < 256 := by have := bounds_u8 w2_0; omega
  have v3 : 0 ≤ a2_1 ∧ a2_1 < 256 := by have := bounds_u8 w2_1; omega
  obtain ⟨pn, rfl⟩ : ∃ n : Nat, a2_0 = (n : Int) := ⟨a2_0.toNat, by omega⟩
  obtain ⟨qb, rfl⟩ : ∃ b : UInt8, a2_1 = (b.toNat : Int) := ⟨UInt8.ofNat a2_1.toNat, by rw [UInt8.toNat_ofNat', Nat.mod_eq_of_lt (by omega)]; omega⟩
  have hpn : pn < 256 := by omega
  clear v2 v3 w2_0 w2_1
  have hk : a0.extract 0 (min (a0.size : Int) 80).toNat = str (a0.data.toList.take 80) := cut_min a0 80
  have ht : a1.extract 0 (min (a1.size : Int) 200).toNat = str (a1.data.toList.take 200) := cut_min a1 200
  obtain ⟨k, hk0⟩ : ∃ k, k = a0.data.toList.take 80 := ⟨_, rfl⟩
  obtain ⟨t, ht0⟩ : ∃ k, k = a1.data.toList.take 200 := ⟨_, rfl⟩
  have hkl : k.length ≤ 80 := by rw [hk0, List.length_take]; omega
  have htl : t.length ≤ 200 := by rw [ht0, List.length_take]; omega
  rw [← hk0] at hk
  rw [← ht0] at ht
  have c1 := fun w' => skeys_any (str k) (by rw [str_size]; unfold reachBytes; omega) w'
  have c2 := fun w' => snonce_any a0 w0 w'
  have kl := chacha.keyOf_size (str k)
  have gl := tag50_len (str k)
  have nl := nonceL_len a0
  obtain ⟨K, hK⟩ : ∃ K, K = chacha.keyOf (str k) := ⟨_, rfl⟩
  obtain ⟨G, hG⟩ : ∃ K, K = tag50 (str k) := ⟨_, rfl⟩
  obtain ⟨no, hno⟩ : ∃ K, K = nonceL a0 := ⟨_, rfl⟩
  rw [← hK] at kl c1
  rw [← hG] at gl c1
  rw [← hno] at nl c2
  obtain ⟨K0, hK0⟩ : ∃ X, X = str k := ⟨_, rfl⟩
  rw [← hK0] at hk c1
  have b1 : (0 : Int) ≤ min (a0.size : Int) 80 := by omega
  have b2 : min (a0.size : Int) 80 ≤ (a0.size : Int) := by omega
  have b3 : (0 : Int) ≤ min (a1.size : Int) 200 := by omega
  have b4 : min (a1.size : Int) 200 ≤ (a1.size : Int) := by omega
  clear w0 w1 hk0 ht0 hkl hK hG hno hK0
  have hw5 : IntKind.u32.wrap 5 = ((5 : Nat) : Int) := rfl
  obtain ⟨U, hU⟩ : ∃ V, V = turnL K no t := ⟨_, rfl⟩
  obtain ⟨ta, hta⟩ : ∃ V, V = stagL G 5 no U := ⟨_, rfl⟩
  have lU : U.length = t.length := by rw [hU, turnL_len]
  have lta : ta.length = 32 := by rw [hta, stagL_len]
  have hseal : sealL K G 5 no t = U ++ ta := by rw [hta, hU]; rfl
  have c3 : ∀ w', SaltAt w' salts → Calls Tryd.prog 13 #[.agg #[.string K, .string (str G)], .int .i64 5, .string (str no), .string (str t)] w' fun e w2 => e = .returned (.string (str (U ++ ta))) ∧ Below w'.heap.size w' w2 := fun w' h => by
    rw [← hseal]
    exact put_any K G no t 5 5 hw5 (by decide) kl (by omega) nl (by omega) w' h
  -- the byte that is turned
  obtain ⟨r, hr⟩ : ∃ r, r = pn % 32 := ⟨_, rfl⟩
  have hr32 : r < 32 := by rw [hr]; exact Nat.mod_lt _ (by decide)
  obtain ⟨j, hj⟩ := sb_j r hr32
  obtain ⟨vb, hvb⟩ : ∃ b, b = ta.getD j 0 := ⟨_, rfl⟩
  have hx := xor_u8 vb qb
  obtain ⟨ta2, hta2⟩ : ∃ l, l = ta.set j (vb ^^^ qb) := ⟨_, rfl⟩
  have lta2 : ta2.length = 32 := by rw [hta2, List.length_set, lta]
  have hsame : ta2 = ta ↔ qb = 0 := by rw [hta2, hvb]; exact sb_same ta j (by omega) qb
  have c4 : ∀ w', SaltAt w' salts → Calls Tryd.prog 15 #[.agg #[.string K, .string (str G)], .int .i64 5, .string (str no), .string (str (U ++ ta2))] w' fun e w2 => e = .returned (.tuple (if ta2 = ta then #[.string (str (turnL K no U)), .int .i64 0] else #[.string ⟨#[]⟩, .int .i64 100])) ∧ Below w'.heap.size w' w2 := fun w' h => by
    have := get_any K G no U ta2 5 5 hw5 (by decide) kl (by omega) nl (by omega) lta2 w' h
    rw [← hta] at this
    exact this
  have c5 : ∀ w', Calls Tryd.prog 15 #[.agg #[.string ⟨#[115, 104, 111, 114, 116]⟩, .string ⟨#[]⟩], .int .i64 5, .string (str no), .string (str (U ++ ta2))] w' fun e w2 => e = .returned (.tuple #[.string ⟨#[]⟩, .int .i64 2]) ∧ Below w'.heap.size w' w2 := fun w' => get_not ⟨#[115, 104, 111, 114, 116]⟩ (str no) ⟨#[]⟩ (str (U ++ ta2)) 5 (by rw [str_size, List.length_append]; omega) (Or.inr (fun h => absurd h.1 (by decide))) w'
  have c6 : ∀ w', Calls Tryd.prog 13 #[.agg #[.string ⟨#[115, 104, 111, 114, 116]⟩, .string ⟨#[]⟩], .int .i64 5, .string (str no), .string (str t)] w' fun e w2 => e = .returned (.string ⟨#[]⟩) ∧ Below w'.heap.size w' w2 := fun w' => put_not ⟨#[115, 104, 111, 114, 116]⟩ (str no) ⟨#[]⟩ (str t) 5 (fun h => absurd h.1 (by decide)) w'
  have c7 : ∀ w', Calls Tryd.prog 13 #[.agg #[.string K, .string (str G)], .int .i64 5, .string ⟨#[115, 104, 111, 114, 116]⟩, .string (str t)] w' fun e w2 => e = .returned (.string ⟨#[]⟩) ∧ Below w'.heap.size w' w2 := fun w' => put_not K ⟨#[115, 104, 111, 114, 116]⟩ (str G) (str t) 5 (fun h => absurd h.2 (by decide)) w'
  obtain ⟨L, hL⟩ : ∃ l, l = U ++ ta := ⟨_, rfl⟩
  obtain ⟨L2, hL2⟩ : ∃ l, l = U ++ ta2 := ⟨_, rfl⟩
  obtain ⟨m, hm⟩ : ∃ m, m = U.length := ⟨_, rfl⟩
  have lL : L.length = m + 32 := by rw [hL, List.length_append, lta, hm]
  have lL2 : L2.length = L.length := by rw [hL2, lL, List.length_append, lta2, hm]
  have hLset : L.set (m + j) (vb ^^^ qb) = L2 := by rw [hL, hm, sb_set, ← hta2, hL2]
  have hLat : vb = L.getD (m + j) 0 := by rw [hvb, hL, hm, sb_at]
  rw [← hL] at c3
  rw [← hL2] at c4 c5
  obtain ⟨idx, hidx⟩ : ∃ i, i = m + j := ⟨_, rfl⟩
  rw [← hidx] at hLset hLat
  have hilt : idx < L.length := sb_ilt m j r idx _ hidx hj lL
  have e1 := sb_r pn r hr
  have e1b := sb_rem pn r hr
  have e2 := sb_w r hr32
  have e2b := sb_w64 r hr32
  obtain ⟨z, hz⟩ : ∃ z, z = L.length := ⟨_, rfl⟩
  have hzm : z = m + 32 := by rw [hz]; exact lL
  have hm200 : m ≤ 200 := by rw [hm, lU]; exact htl
  have hz1000 := (sb_z300 m z hzm hm200).2
  have e3 := sb_z z hz1000
  have hidz := sb_idx m j r idx z hidx hj hzm
  have e4 := sb_i z r idx hz1000 hidz
  have e5 := sb_e5 m z hzm
  have e6 : (0 : Int) ≤ (idx : Int) := Int.natCast_nonneg idx
  have e7 := sb_e7 idx r z hidz
  have e8 := (sb_z300 m z hzm hm200).1
  clear hm200 hidz
  clear hzm hz1000 hr32
  obtain ⟨dq, hdq⟩ : ∃ b, decide (qb = 0) = b := ⟨_, rfl⟩
  have hq6 : (qb = 0) = (dq = true) := by rw [← hdq]; simp
  have hq2 : (qb.toNat = 0) = (dq = true) := by rw [← hq6, ← UInt8.toNat_inj]; rfl
  have hq1 : ((qb.toNat : Int) = 0) = (dq = true) := by rw [← hq2]; simp
  have hq3 : ((qb.toNat : Int) == 0) = dq := by rw [Bool.eq_iff_iff, ← hq1]; simp
  have hq5 : (qb == 0) = dq := by rw [Bool.eq_iff_iff, ← hq6]; simp
  have hq7 : (qb.toNat == 0) = dq := by rw [Bool.eq_iff_iff, ← hq2]; simp
  obtain ⟨G0, hG0⟩ : ∃ X, X = str G := ⟨_, rfl⟩
  obtain ⟨N0, hN0⟩ : ∃ X, X = str no := ⟨_, rfl⟩
  obtain ⟨T0, hT0⟩ : ∃ X, X = str t := ⟨_, rfl⟩
  rw [← hG0] at c1 c3 c4 c7
  rw [← hN0] at c2 c3 c4 c5 c6
  rw [← hT0] at ht c3 c6 c7
  obtain ⟨R0, hR0⟩ : ∃ X, X = str (turnL K no U) := ⟨_, rfl⟩
  rw [← hR0] at c4
  have c4' : ∀ w', SaltAt w' salts → Calls Tryd.prog 15 #[.agg #[.string K, .string G0], .int .i64 5, .string N0, .string (str L2)] w' fun e w2 => e = .returned (.tuple #[.string (if dq then R0 else ⟨#[]⟩), .int .i64 (if dq then 0 else 100)]) ∧ Below w'.heap.size w' w2 := fun w' h => by
    have := c4 w' h
    cases dq
    · rw [if_neg (fun e => by have := hsame.mp e; rw [hq6] at this; cases this)] at this; exact this
    · rw [if_pos (hsame.mpr (by rw [hq6]))] at this; exact this
  clear c4 hseal hU hta lU lta hta2 lta2 hsame hL hL2 hm hvb kl gl nl htl hG0 hN0 hT0 hR0 hdq hw5
  obtain ⟨Wb, hWb⟩ : ∃ W, W = w.alloc (.cells #[.int .u8 (pn : Int), .int .u8 (qb.toNat : Int)] 31) := ⟨_, rfl⟩
  have hb0 : Below w.heap.size w Wb := by rw [hWb]; exact (Below.refl _ w).alloc (Nat.le_refl _) _
  have hA : Wb.heap[w.heap.size]? = some (.cells #[.int .u8 (pn : Int), .int .u8 (qb.toNat : Int)] 31 (0, 0)) := by rw [hWb]; exact heap_alloc_new w _
  have hAl := block_lt hA
  have hTb := hT.keep hb0
  obtain ⟨Ab, hAb⟩ : ∃ g, g = w.heap.size := ⟨_, rfl⟩
  have c1B : ∀ x : World, Calls Tryd.prog 12 #[.string K0] (x.alloc (.cells #[.string ⟨#[]⟩, .string ⟨#[]⟩] 25)).drew fun e w2 => e = .returned (.agg #[.string K, .string G0]) ∧ w2.heap[x.heap.size]? = some (.cells #[.string ⟨#[]⟩, .string ⟨#[]⟩] 25 (0, 0)) ∧ (∀ i, w2.cell? ⟨x.heap.size, i, none⟩ = (#[.string ⟨#[]⟩, .string ⟨#[]⟩] : Array Value)[i]?) ∧ (∀ i, w2.frozen? ⟨x.heap.size, i, none⟩ = false) ∧ Below x.heap.size x w2 := fun x => (c1 _).mono (fun e w2 h => ⟨h.1, boxRow (undrew h.2)⟩)
  replace c1B := Lib.hid c1B
  replace c1 := Lib.hid c1; replace c2 := Lib.hid c2; replace c3 := Lib.hid c3; replace c4' := Lib.hid c4'; replace c5 := Lib.hid c5; replace c6 := Lib.hid c6; replace c7 := Lib.hid c7; replace hT := Lib.hid hT; replace hTb := Lib.hid hTb; replace hA := Lib.hid hA; replace hAl := Lib.hid hAl; replace hb0 := Lib.hid hb0; replace hAb := Lib.hid hAb; replace hWb := Lib.hid hWb
  replace lL := Lib.hid lL; replace lL2 := Lib.hid lL2; replace hLset := Lib.hid hLset; replace hLat := Lib.hid hLat; replace hidx := Lib.hid hidx; replace hilt := Lib.hid hilt; replace hz := Lib.hid hz; replace hr := Lib.hid hr; replace hj := Lib.hid hj; replace hpn := Lib.hid hpn; replace e8 := Lib.hid e8
  replace e1 := Lib.hid e1; replace e1b := Lib.hid e1b; replace e2 := Lib.hid e2; replace e2b := Lib.hid e2b; replace e3 := Lib.hid e3; replace e4 := Lib.hid e4; replace e5 := Lib.hid e5; replace e6 := Lib.hid e6; replace e7 := Lib.hid e7; replace hq6 := Lib.hid hq6; replace hq2 := Lib.hid hq2; replace hq1 := Lib.hid hq1; replace hq3 := Lib.hid hq3; replace hq5 := Lib.hid hq5; replace hq7 := Lib.hid hq7; replace hx := Lib.hid hx
  go_enter Tryd.func4, Tryd.ntmps4
  go_upto_region 1 with fail
  rw [← hWb.out, ← hAb.out]
  go_cut [7, 8] from 9 (fun p q wx => ∃ g, p = .string T0 ∧ q = .pointer (some ⟨g, 0, none⟩) ∧ BoxAt Wb wx g 25 (.string K) (.string G0))
  case first =>
    go_region_with (first
      | (go_at_call 12; (try rw [hk]); (with_reducible refine (c1B.out _).mono ?_); rintro e w1 ⟨rfl, hrow, hcell, hfree, b1⟩; have d0 := hcell 0; have d1 := hcell 1; have f0 := hfree 0; have f1 := hfree 1; replace hrow := Lib.hid hrow; clear hcell hfree; replace b1 := Lib.hid b1)
      | (go_at_call 12; (try rw [hk]); (with_reducible refine (c1.out _).mono ?_); rintro e w1 ⟨rfl, b1⟩; replace b1 := Lib.hid b1))
    all_goals (go_wp2_with fail)
    all_goals go_meet
    all_goals first
      | exact ⟨_, rfl, rfl, heap_alloc_new w1 _, (show Below Wb.heap.size Wb w1 from undrew b1.out).size, (show Below Wb.heap.size Wb w1 from undrew b1.out).alloc (show Below Wb.heap.size Wb w1 from undrew b1.out).size _⟩
      | exact ⟨_, rfl, rfl, setRow2 hrow.out _ _, Nat.le_refl _, (b1.out.setCell (p := ⟨Wb.heap.size, 0, none⟩) (Nat.le_refl _) _).setCell (p := ⟨Wb.heap.size, 1, none⟩) (Nat.le_refl _) _⟩
  case rest =>
  obtain ⟨g, rfl, rfl, hbx⟩ := hcut
  replace hbx := Lib.hid hbx
  clear hk ht b1 b2 b3 b4
  replace e1 := e1.out; replace e1b := e1b.out; replace e2 := e2.out; replace e2b := e2b.out; replace e3 := e3.out; replace e4 := e4.out; replace e5 := e5.out; replace e6 := e6.out; replace e7 := e7.out; replace hq6 := hq6.out; replace hq2 := hq2.out; replace hq1 := hq1.out; replace hq3 := hq3.out; replace hq5 := hq5.out; replace hq7 := hq7.out; replace hx := hx.out
  go_upto_region 2 with fail
  have hcv : ∀ W : World, (convert 9 29 (.string (str L))).run Tryd.prog W = .ok (.slice (some ⟨W.heap.size, 0, none⟩) z (grownCap W z 0 5)) (Lib.bytesWorld W 5 (str L)) := fun W => by
    have h := Lib.run_convert_string_bytes (P := Tryd.prog) W 9 29 5 (str L) Tryd.underlying9 Tryd.underlying29 Tryd.underlying5
    rw [str_size, ← hz.out] at h
    exact h
  go_cut [9] from 25 to 30 (fun s9 wx => ∃ q cap, s9 = .slice (some ⟨q, 0, none⟩) z cap ∧ BytesAt wx q L ∧ BoxAt Wb wx g 25 (.string K) (.string G0) ∧ Wb.heap.size ≤ q ∧ q ≠ g ∧ z ≤ cap)
  case first =>
    have k0 := hbx.out.c0
    have k1 := hbx.out.c1
    go_region_with (first
      | (go_at_call 14; (with_reducible refine (c2.out _).mono ?_); rintro e w1 ⟨rfl, b1⟩; replace hbx := Lib.hid (hbx.out.below (undrew b1)); have k0 := hbx.out.c0; have k1 := hbx.out.c1; clear b1)
      | (go_at_call 13; (with_reducible refine (c3.out _ (hTb.out.keep hbx.out.bel)).mono ?_); rintro e w1 ⟨rfl, b1⟩; replace hbx := Lib.hid (hbx.out.below b1); clear b1))
    all_goals (go_wp2_with fail)
    all_goals go_meet
    all_goals (
      have hcell : ∀ i, i < L.length → (Lib.bytesWorld w1 5 (str L)).cell? ⟨w1.heap.size, i, none⟩ = some (.int .u8 ((L.getD i 0).toNat : Int)) := fun i hi => Lib.bytesWorld_cell w1 _ _ i (by rw [str_size]; exact hi)
      refine ⟨w1.heap.size, _, rfl, ⟨by rw [Lib.bytesWorld_size]; exact Nat.lt_succ_self _, fun i hi => ⟨hcell i hi, ?_⟩⟩, hbx.out.below (Lib.bytesWorld_below _ _ _), hbx.out.bel.size, ?_, ?_⟩
      · have hsz : L.length ≤ (Lib.bytesCells w1 5 (str L)).size := by simp [Lib.bytesCells, str]
        have hlt : i < (Lib.bytesCells w1 5 (str L)).size := Nat.lt_of_lt_of_le hi hsz
        clear hcell hsz hi
        simp [World.frozen?, Lib.bytesWorld_at_new]
        exact fun h => absurd h (Nat.not_le.2 hlt)
      · exact Nat.ne_of_gt (block_lt hbx.out.1)
      · have hge := grownCap_ge w1 z 0 5
        exact hge)
  case rest =>
    obtain ⟨q, cap, rfl, hB, hbx2, hqW, hqg, hcap⟩ := hcut
    have hbelW := hbx2.bel
    have hcA : ∀ i, wc.cell? ⟨Ab, i, none⟩ = (#[.int .u8 (pn : Int), .int .u8 (qb.toNat : Int)] : Array Value)[i]? := fun i => by rw [hAb.out]; exact (hbelW.cell hAl.out).trans (cell_of_row _ _ i _ _ _ hA.out)
    have g0 : wc.cell? ⟨Ab, 0, none⟩ = some (.int .u8 (pn : Int)) := hcA 0
    have g1 : wc.cell? ⟨Ab, 1, none⟩ = some (.int .u8 (qb.toNat : Int)) := hcA 1
    have gq : wc.cell? ⟨q, idx, none⟩ = some (.int .u8 (vb.toNat : Int)) := by rw [hLat.out]; exact (hB.2 idx hilt.out).1
    have gf : wc.frozen? ⟨q, idx, none⟩ = false := (hB.2 idx hilt.out).2
    have hAbW : Ab < Wb.heap.size := by rw [hAb.out]; exact hAl.out
    have hAq : Ab ≠ q := fun e => by subst e; exact absurd hqW (Nat.not_le.2 hAbW)
    obtain ⟨xn, hxn⟩ : ∃ n, n = (vb ^^^ qb).toNat := ⟨_, rfl⟩
    rw [← hxn] at hx
    have hput := hB.put hilt.out (n := (xn : Int)) ⟨Int.natCast_nonneg xn, by have := UInt8.toNat_lt (vb ^^^ qb); omega⟩
    rw [show UInt8.ofNat ((xn : Int).toNat) = vb ^^^ qb from by rw [Int.toNat_natCast, hxn, UInt8.ofNat_toNat], hLset.out] at hput
    have hbx5 : BoxAt Wb (wc.setCell ⟨q, idx, none⟩ (.int .u8 (xn : Int))) g 25 (.string K) (.string G0) := ⟨(Below.heap_setCell wc ⟨q, idx, none⟩ _ g (fun e => hqg e.symm)).trans hbx2.1, hbx2.2.1, hbelW.setCell (p := ⟨q, idx, none⟩) hqW _⟩
    have g5 : (wc.setCell ⟨q, idx, none⟩ (.int .u8 (xn : Int))).cell? ⟨Ab, 1, none⟩ = some (.int .u8 (qb.toNat : Int)) := (World.cell?_setCell_other wc ⟨q, idx, none⟩ ⟨Ab, 1, none⟩ _ (fun e => hAq (by injection e with e1 e2; exact e1.symm))).trans g1
    have hs5 : Ab < (wc.setCell ⟨q, idx, none⟩ (.int .u8 (xn : Int))).heap.size := by simpa [World.setCell] using Nat.lt_of_lt_of_le hAbW hbelW.size
    have cvt : ∀ w', BytesAt w' q L2 → (convert 29 9 (.slice (some ⟨q, 0, none⟩) z cap)).run Tryd.prog w' = .ok (.string (str L2)) w' := fun w' h => by have := h.text cap; rwa [lL2.out, ← hz.out] at this
    replace hput := Lib.hid hput; replace hbx5 := Lib.hid hbx5; replace g5 := Lib.hid g5; replace cvt := Lib.hid cvt; replace hs5 := Lib.hid hs5
    replace hxn := Lib.hid hxn
    clear hB hbx2 hbelW hcA hbx hqg hcap
    replace hqW := Lib.hid hqW; replace hAbW := Lib.hid hAbW; replace hAq := Lib.hid hAq
    go_upto_region 5 with fail
    refine wp_region_still_tail 15 (by kernel_rfl) (by kernel_rfl) ?_
    simp only [List.take_succ_cons, List.take_zero, List.drop_succ_cons, List.drop_zero]
    change wpStill _ _ wc.drew _ _ _
    repeat still_step
    try refine wpStill_nil ?_
    change wpList _ _ _ _ _ wc.drew
    go_wp2_with fail
    have hbx6 : BoxAt Wb (wc.setCell ⟨q, idx, none⟩ (.int .u8 (xn : Int))).drew g 25 (.string K) (.string G0) := hbx5.out.drew
    have hp6 : BytesAt (wc.setCell ⟨q, idx, none⟩ (.int .u8 (xn : Int))).drew q L2 := hput.out
    have g6 : (wc.setCell ⟨q, idx, none⟩ (.int .u8 (xn : Int))).drew.cell? ⟨Ab, 1, none⟩ = some (.int .u8 (qb.toNat : Int)) := g5.out
    have s6 : Ab < (wc.setCell ⟨q, idx, none⟩ (.int .u8 (xn : Int))).drew.heap.size := hs5.out
    clear hput hbx5 g5 hs5 g0 g1 gq gf
    generalize (wc.setCell ⟨q, idx, none⟩ (.int .u8 (xn : Int))).drew = W5 at *
    replace hbx6 := Lib.hid hbx6; replace hp6 := Lib.hid hp6; replace g6 := Lib.hid g6; replace s6 := Lib.hid s6
    cases dq
    all_goals (
      have c4t := c4'.out
      simp only [Bool.false_eq_true, if_true, if_false, ite_true, ite_false] at c4t
      clear c4'
      replace c4t := Lib.hid c4t
      go_region_held3 (fun w' => BoxAt Wb w' g 25 (.string K) (.string G0) ∧ SaltAt w' salts ∧ w'.cell? ⟨g, 0, none⟩ = some (.string K) ∧ w'.cell? ⟨g, 1, none⟩ = some (.string G0) ∧ BytesAt w' q L2 ∧ (convert 29 9 (.slice (some ⟨q, 0, none⟩) z cap)).run Tryd.prog w' = .ok (.string (str L2)) w' ∧ Ab < w'.heap.size ∧ w'.cell? ⟨Ab, 1, none⟩ = some (.int .u8 (qb.toNat : Int)))
        (first | exact ⟨hbx6.out.drew, hTb.out.keep hbx6.out.bel.drew, hbx6.out.c0, hbx6.out.c1, hp6.out, cvt.out _ hp6.out, s6.out, g6.out⟩ | (go_split_ands; have hq9 := BoxAt.below (by assumption) (by assumption); exact ⟨hq9, hTb.out.keep hq9.2.2, hq9.c0, hq9.c1, BytesAt.below (by assumption) (by assumption), cvt.out _ (BytesAt.below (by assumption) (by assumption)), Nat.lt_of_lt_of_le (by assumption) (Below.size (by assumption)), (Below.cell (by assumption) (by assumption)).trans (by assumption)⟩))
        (first
          | (go_at_call 14; (with_reducible refine (c2.out _).mono ?_); rintro e w9 ⟨rfl, hb⟩)
          | (go_at_call 15; (with_reducible refine (c4t.out _ (by go_split_ands; assumption)).mono ?_); rintro e w9 ⟨rfl, hb⟩)
          | (go_at_call 15; (with_reducible refine (c5.out _).mono ?_); rintro e w9 ⟨rfl, hb⟩))
)
    all_goals (go_upto_region 7 with fail)
    all_goals (
      go_split_ands
      have hbx7 : BoxAt Wb w9 g 25 (.string K) (.string G0) := by assumption
      have hp7 : BytesAt w9 q L2 := by assumption
      have s7 : Ab < w9.heap.size := by assumption
      have g7 : w9.cell? ⟨Ab, 1, none⟩ = some (.int .u8 (qb.toNat : Int)) := by assumption
      have cv7 := cvt.out _ hp7
      have cv7d := cvt.out w9.drew hp7
      replace hbx7 := Lib.hid hbx7; replace hp7 := Lib.hid hp7; replace s7 := Lib.hid s7; replace g7 := Lib.hid g7
      (go_region_with (first
          | (go_at_call 14; (with_reducible refine (c2.out _).mono ?_); rintro e w8 ⟨rfl, b8⟩; have b9 := undrew b8; replace hbx7 := Lib.hid (hbx7.out.below b9); replace hp7 := Lib.hid (hp7.out.below b9); replace g7 := Lib.hid ((b9.cell s7.out).trans g7.out); replace s7 := Lib.hid (Nat.lt_of_lt_of_le s7.out b9.size); clear b8 b9; have cv8 := cvt.out _ hp7.out)
          | (go_at_call 15; (with_reducible refine (c5.out _).mono ?_); rintro e w8 ⟨rfl, b8⟩; replace hbx7 := Lib.hid (hbx7.out.below b8); replace hp7 := Lib.hid (hp7.out.below b8); replace g7 := Lib.hid ((b8.cell s7.out).trans g7.out); replace s7 := Lib.hid (Nat.lt_of_lt_of_le s7.out b8.size); clear b8))))
    all_goals (go_wp2_with (first
      | (go_at_call 16; (with_reducible refine (sawake_any _ (hTb.out.keep hbx7.out.bel)).mono ?_); rintro e w8 ⟨rfl, b8⟩; replace hbx7 := Lib.hid (hbx7.out.below b8); replace g7 := Lib.hid ((b8.cell s7.out).trans g7.out); replace s7 := Lib.hid (Nat.lt_of_lt_of_le s7.out b8.size); clear b8; have g8 := g7.out)
      | (go_at_call 14; (with_reducible refine (c2.out _).mono ?_); rintro e w8 ⟨rfl, b8⟩; replace hbx7 := Lib.hid (hbx7.out.below b8); clear b8)
      | (go_at_call 13; (with_reducible refine (c6.out _).mono ?_); rintro e w8 ⟨rfl, b8⟩; replace hbx7 := Lib.hid (hbx7.out.below b8); clear b8; have d0 := hbx7.out.c0; have d1 := hbx7.out.c1)
      | (go_at_call 13; (with_reducible refine (c7.out _).mono ?_); rintro e w8 ⟨rfl, b8⟩; replace hbx7 := Lib.hid (hbx7.out.below b8); clear b8)))
    all_goals go_ret
    all_goals exact ⟨rfl, belowCont hb0.out hbx7.out.bel⟩
end Go.Proofs.YtmllmnnglkimkaaDoor.sha
