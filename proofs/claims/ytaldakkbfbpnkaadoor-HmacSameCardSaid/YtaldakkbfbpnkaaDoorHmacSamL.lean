/- Two texts are the same just if they are: the law. The table of salts is a premise. No other condition. -/
import Derived.Test.YtaldakkbfbpnkaaDoorHmacSam
import Derived.Test.YtaldakkbfbpnkaaDoorHmacTags
import Derived.Deep.RegionHeld3
namespace Go.Proofs.YtaldakkbfbpnkaaDoor.sha
open Go.RowKit
attribute [local go_sem ↓] Go.wp_at_zero Go.wp_at_succ
attribute [local go_sem] str_size str_append
set_option linter.unusedVariables false
set_option maxRecDepth 100000

set_option pp.deepTerms true in
set_option pp.maxSteps 200000 in
set_option maxRecDepth 100000 in
set_option maxHeartbeats 1000000 in
theorem hmacSame_walk (a0 a1 : ByteArray) (a2_0 a2_1 : Int) (w : World) (w0 : a0.size ≤ reachBytes) (w1 : a1.size ≤ reachBytes) (w2 : (Lit.int .u8 a2_0).wf = true) (w3 : (Lit.int .u8 a2_1).wf = true) (hT : SaltAt w salts) :
    Calls Tryd.prog 3 #[.string a0, .string a1, .agg #[.int .u8 a2_0, .int .u8 a2_1]] w fun e w' => e = .returned (.bool true) ∧ Below w.heap.size w w' := by
  clear w0 w1
  have v2 : 0 ≤ a2_0 ∧ a2_0 < 256 := by have := bounds_u8 w2; omega
  have v3 : 0 ≤ a2_1 ∧ a2_1 < 256 := by have := bounds_u8 w3; omega
  clear w2 w3
  obtain ⟨pn, rfl⟩ : ∃ n : Nat, a2_0 = (n : Int) := ⟨a2_0.toNat, by omega⟩
  obtain ⟨qb, rfl⟩ : ∃ b : UInt8, a2_1 = (b.toNat : Int) := ⟨UInt8.ofNat a2_1.toNat, by rw [UInt8.toNat_ofNat', Nat.mod_eq_of_lt (by omega)]; omega⟩
  have hpn : pn < 256 := by omega
  clear v2 v3
  have hk : a0.extract 0 (min (a0.size : Int) 300).toNat = str (a0.data.toList.take 300) := cut_min a0 300
  have ht : a1.extract 0 (min (a1.size : Int) 300).toNat = str (a1.data.toList.take 300) := cut_min a1 300
  obtain ⟨k, hk0⟩ : ∃ k, k = a0.data.toList.take 300 := ⟨_, rfl⟩
  obtain ⟨t, ht0⟩ : ∃ k, k = a1.data.toList.take 300 := ⟨_, rfl⟩
  have hkl : k.length ≤ 300 := by rw [hk0, List.length_take]; omega
  have htl : t.length ≤ 300 := by rw [ht0, List.length_take]; omega
  rw [← hk0] at hk
  rw [← ht0] at ht
  clear hk0 ht0
  have b1 : (0 : Int) ≤ min (a0.size : Int) 300 := by omega
  have b2 : min (a0.size : Int) 300 ≤ (a0.size : Int) := by omega
  have b3 : (0 : Int) ≤ min (a1.size : Int) 300 := by omega
  have b4 : min (a1.size : Int) 300 ≤ (a1.size : Int) := by omega
  obtain ⟨l, hl⟩ : ∃ l, l = k ++ [48] := ⟨_, rfl⟩
  have hll : l.length = k.length + 1 := by rw [hl]; simp
  obtain ⟨r, hr⟩ : ∃ r, r = pn % l.length := ⟨_, rfl⟩
  have hrl : r < l.length := by rw [hr]; exact Nat.mod_lt _ (by omega)
  have hrm : (pn : Int).tmod (l.length : Int) = (r : Int) := by rw [hr]; rfl
  have hrm2 : pn % l.length = r := hr.symm
  have hrm3 : (pn : Int) % (l.length : Int) = (r : Int) := by rw [hr]; rfl
  have hrl2 := hrl
  have e0 : ¬ (l.length : Int) = 0 := by omega
  have e1 : (r : Int) < (l.length : Int) := by omega
  have e2 : (0 : Int) ≤ (r : Int) := by omega
  have hx := xor_u8 (l.getD r 0) qb
  obtain ⟨vb, hvb⟩ : ∃ b, b = l.getD r 0 := ⟨_, rfl⟩
  rw [← hvb] at hx
  have room1 : ¬ 9223372036854775807 < k.length + 1 := by omega
  have e3 : ((l.length : Int) == 0) = false := by rw [beq_eq_false_iff_ne]; omega
  have e4 : wrap64 (pn : Int) = (pn : Int) := by unfold wrap64; omega
  have e5 : wrap64 (r : Int) = (r : Int) := by clear hrm hrm2 hrm3; unfold wrap64; omega
  have e9 : IntKind.i64.wrap (pn : Int) = (pn : Int) := by clear hrm hrm2 hrm3 e3 e4 hx; rw [IntKind.wrap_i64]; omega
  have e6 : ¬ l = [] := by rw [hl]; simp
  have e7 : ¬ l.length = 0 := by omega
  have e8 : (l == []) = false := by rw [hl]; cases k <;> rfl
  obtain ⟨W, hW⟩ : ∃ W, W = (w.alloc (.cells #[.int .u8 (pn : Int), .int .u8 (qb.toNat : Int)] 22)).drew := ⟨_, rfl⟩
  have hbb : Below w.heap.size w W := by rw [hW]; exact ((Below.refl _ w).alloc (Nat.le_refl _) _).drew
  have hWs : W.heap.size = w.heap.size + 1 := by rw [hW]; exact Array.size_push ..
  have hrow : W.heap[w.heap.size]? = some (.cells #[.int .u8 (pn : Int), .int .u8 (qb.toNat : Int)] 22) := by rw [hW]; exact heap_alloc_new w _
  have hG0 : W.cell? ⟨w.heap.size, 0, none⟩ = some (.int .u8 (pn : Int)) := by rw [cell_of_row _ _ _ _ _ _ hrow]; rfl
  have hG1 : W.cell? ⟨w.heap.size, 1, none⟩ = some (.int .u8 (qb.toNat : Int)) := by rw [cell_of_row _ _ _ _ _ _ hrow]; rfl
  clear hrow
  replace hbb := Lib.hid hbb; replace hT := Lib.hid hT; replace hG0 := Lib.hid hG0; replace hG1 := Lib.hid hG1; replace hWs := Lib.hid hWs; replace hW := Lib.hid hW
  replace hkl := Lib.hid hkl; replace htl := Lib.hid htl; replace hl := Lib.hid hl; replace hll := Lib.hid hll; replace hr := Lib.hid hr; replace hrl := Lib.hid hrl; replace hvb := Lib.hid hvb; replace hpn := Lib.hid hpn
  go_enter Tryd.func3, Tryd.ntmps3
  go_upto_region 1 with fail
  go_cut [7, 8] from 9 (fun p q wx => p = .string (str k) ∧ q = .string (str t) ∧ wx = W)
  case first =>
    refine wp_region_still_lit (by kernel_rfl) (by kernel_rfl) ?_
    change wpStill _ _ (w.alloc (.cells #[.int .u8 (pn : Int), .int .u8 (qb.toNat : Int)] 22)).drew _ _ _
    repeat still_step
    refine wpStill_nil ?_
    go_wp2_with fail
    go_meet
    exact ⟨by first | rfl | rw [hk], by first | rfl | rw [ht], hW.out.symm⟩
  case rest =>
  obtain ⟨rfl, rfl, rfl⟩ := hcut
  clear hk ht b1 b2 b3 b4 hW
  go_upto_region 3 with (refine wpList_conv_bytes rfl (.tmp 21) rfl l (by first | (rw [hl.out]; rfl) | (rw [hl.out, ← str_append]; rfl)) ?_; intro w4 cap B4 b4 hcap; replace b4 := Lib.hid b4; replace B4 := Lib.hid B4; replace hcap := Lib.hid hcap)
  obtain ⟨C, hC⟩ : ∃ C, C = wc.heap.size := ⟨_, rfl⟩
  have g0 : w4.cell? ⟨w.heap.size, 0, none⟩ = some (.int .u8 (pn : Int)) := (Below.cell b4.out (by show w.heap.size < wc.heap.size; have := hWs.out; omega)).trans hG0.out
  have g1 : w4.cell? ⟨w.heap.size, 1, none⟩ = some (.int .u8 (qb.toNat : Int)) := (Below.cell b4.out (by show w.heap.size < wc.heap.size; have := hWs.out; omega)).trans hG1.out
  have hB4 : BytesAt w4 C l := by rw [hC]; exact B4.out
  have hbb4 := belowCont hbb.out b4.out
  have hCw : C = w.heap.size + 1 := by rw [hC]; exact hWs.out
  rw [← hC]
  have g2 : w4.cell? ⟨C, r, none⟩ = some (.int .u8 (vb.toNat : Int)) := by rw [hvb.out]; exact (hB4.2 r hrl.out).1
  clear hC B4 b4 hbb hWs hG0 hG1
  replace hB4 := Lib.hid hB4; replace hbb4 := Lib.hid hbb4; replace hCw := Lib.hid hCw
  refine wp_region_still_tail 11 (by kernel_rfl) (by kernel_rfl) ?_
  simp only [List.take_succ_cons, List.take_zero, List.drop_succ_cons, List.drop_zero]
  repeat still_step
  try refine wpStill_nil ?_
  change wpList _ _ _ _ _ w4.drew
  have gf : w4.frozen? ⟨C, r, none⟩ = false := (hB4.out.2 r hrl.out).2
  have hput := BytesAt.put (w := w4) (q := C) (l := l) hB4.out hrl.out (i := r) (n := ((vb ^^^ qb).toNat : Int)) ⟨by omega, by have := UInt8.toNat_lt (vb ^^^ qb); omega⟩
  obtain ⟨l2, hl2⟩ : ∃ x, x = l.set r (vb ^^^ qb) := ⟨_, rfl⟩
  have hl2e : l.set r (UInt8.ofNat ((vb ^^^ qb).toNat : Int).toNat) = l2 := by rw [hl2]; congr 1; simp
  rw [hl2e] at hput
  have hl2l : l2.length = l.length := by rw [hl2, List.length_set]
  have hb5 : Below w.heap.size w (w4.setCell ⟨C, r, none⟩ (.int .u8 ((vb ^^^ qb).toNat : Int))).drew := (hbb4.out.setCell (p := ⟨C, r, none⟩) (by show w.heap.size ≤ C; have := hCw.out; omega) _).drew
  have g5 : (w4.setCell ⟨C, r, none⟩ (.int .u8 ((vb ^^^ qb).toNat : Int))).drew.cell? ⟨w.heap.size, 1, none⟩ = some (.int .u8 (qb.toNat : Int)) := by
    refine Eq.trans ?_ g1
    exact World.cell?_setCell_other w4 ⟨C, r, none⟩ ⟨w.heap.size, 1, none⟩ _ (fun e => by injection e; have := hCw.out; omega)
  have hp5 : BytesAt (w4.setCell ⟨C, r, none⟩ (.int .u8 ((vb ^^^ qb).toNat : Int))).drew C l2 := hput
  have hxt : (vb ^^^ qb).toNat = vb.toNat ^^^ qb.toNat := UInt8.toNat_xor ..
  rw [hxt] at hb5 hp5 g5
  replace hb5 := Lib.hid hb5; replace hp5 := Lib.hid hp5; replace g5 := Lib.hid g5; replace hl2 := Lib.hid hl2
  clear hput hl2e
  have s1 : ∀ w', Calls Tryd.prog 16 #[.string (str k), .string (str t)] w' fun e w2 => e = .returned (.bool (decide (str k = str t))) ∧ Below w'.heap.size w' w2 := fun w' => same_any _ _ (by rw [str_size]; have := hkl.out; omega) (by rw [str_size]; have := htl.out; omega) w'
  have s2 : ∀ w', Calls Tryd.prog 16 #[.string (str k), .string (str k)] w' fun e w2 => e = .returned (.bool true) ∧ Below w'.heap.size w' w2 := fun w' => by
    have := same_any (str k) (str k) (by rw [str_size]; have := hkl.out; omega) (by rw [str_size]; have := hkl.out; omega) w'
    rwa [decide_eq_true rfl] at this
  have hlk : str k ++ ⟨#[48]⟩ = str l := by rw [hl.out, ← str_append]; rfl
  have ne4 : ¬ str k = str l := by intro h; have := congrArg ByteArray.size h; rw [str_size, str_size] at this; have := hll.out; omega
  have s4 : ∀ w', Calls Tryd.prog 16 #[.string (str k), .string (str k ++ ⟨#[48]⟩)] w' fun e w2 => e = .returned (.bool false) ∧ Below w'.heap.size w' w2 := fun w' => by
    rw [hlk]
    have := same_any (str k) (str l) (by rw [str_size]; have := hkl.out; omega) (by rw [str_size]; have := hkl.out; have := hll.out; omega) w'
    rwa [decide_eq_false ne4] at this
  have eq3 : (str l = str l2) ↔ (qb.toNat : Int) = 0 := by
    constructor
    · intro h
      have h2 : l = l2 := congrArg (fun x => x.data.toList) h
      rw [hl2.out] at h2
      have h3 : l.getD r 0 = vb ^^^ qb := by conv => lhs; rw [h2]
                                             simp [List.getD, List.getElem?_set, hrl.out]
      rw [← hvb.out] at h3
      have h4 : qb = 0 := by have := congrArg (vb ^^^ ·) h3; simpa [← UInt8.xor_assoc] using this.symm
      rw [h4]; rfl
    · intro h
      have h4 : qb = 0 := by rw [← UInt8.toNat_inj]; have : (0 : UInt8).toNat = 0 := rfl; omega
      rw [hl2.out, h4, hvb.out]
      congr 1
      simp [List.getD, hrl.out]
  have s3 : ∀ w', Calls Tryd.prog 16 #[.string (str k ++ ⟨#[48]⟩), .string (str l2)] w' fun e w2 => e = .returned (.bool (decide ((qb.toNat : Int) = 0))) ∧ Below w'.heap.size w' w2 := fun w' => by
    rw [hlk]
    have := same_any (str l) (str l2) (by rw [str_size]; have := hkl.out; have := hll.out; omega) (by rw [str_size, hl2l]; have := hkl.out; have := hll.out; omega) w'
    rwa [decide_eq_decide.mpr eq3] at this
  have hd : decide (str k = str t) = ((str k).toList == (str t).toList) := by
    rw [str_bl, str_bl]
    by_cases h : k = t
    · subst h; simp
    · have h2 : ¬ str k = str t := fun e => h (congrArg (fun x => x.data.toList) e)
      simp [h, h2]
  rw [hd] at s1
  obtain ⟨bq, hbq⟩ : ∃ b, ((str k).toList == (str t).toList) = b := ⟨_, rfl⟩
  rw [hbq] at s1
  obtain ⟨dq, hdq⟩ : ∃ b, decide ((qb.toNat : Int) = 0) = b := ⟨_, rfl⟩
  rw [hdq] at s3
  have hq1 : ((qb.toNat : Int) = 0) = (dq = true) := by rw [← hdq]; simp
  have hq2 : (qb.toNat = 0) = (dq = true) := by rw [← hdq]; simp
  have hq3 : ((qb.toNat : Int) == 0) = dq := by rw [← hdq]; rfl
  have hq6 : (qb = 0) = (dq = true) := by rw [← hq2, ← UInt8.toNat_inj]; rfl
  have hq5 : (qb == 0) = dq := by rw [Bool.eq_iff_iff, ← hq6]; simp
  have hq7 : (qb.toNat == 0) = dq := by rw [Bool.eq_iff_iff, ← hq2]; simp
  clear ne4 eq3 hd hdq
  replace s1 := Lib.hid s1; replace s2 := Lib.hid s2; replace s3 := Lib.hid s3; replace s4 := Lib.hid s4; replace hlk := Lib.hid hlk
  replace hl2l := Lib.hid hl2l
  go_wp2_with fail
  clear hrm hrm2 hrm3 g0 g1 g2 gf hxt
  generalize (w4.setCell _ _).drew = W5 at *
  have cvt : ∀ w', BytesAt w' C l2 → (convert 23 9 (.slice (some ⟨C, 0, none⟩) l.length cap)).run Tryd.prog w' = .ok (.string (str l2)) w' := fun w' h => by rw [← hl2l.out]; exact h.text cap
  have t5 := hT.out.keep hb5.out
  have c5 := cvt _ hp5.out
  have hb6 := hb5.out
  have hp6 := hp5.out
  have g6 := g5.out
  clear hb5 hp5 g5
  replace cvt := Lib.hid cvt
  cases bq <;> cases dq
  all_goals (go_region_held3 (fun w' => Below w.heap.size w w' ∧ SaltAt w' salts ∧ C < w'.heap.size ∧ BytesAt w' C l2 ∧ w'.cell? ⟨w.heap.size, 1, none⟩ = some (.int .u8 (qb.toNat : Int)) ∧ (convert 23 9 (.slice (some ⟨C, 0, none⟩) l.length cap)).run Tryd.prog w' = .ok (.string (str l2)) w')
    (first | exact ⟨hb6.drew, hT.out.keep hb6.drew, hp6.1, hp6, g6, cvt.out _ hp6⟩ | (go_split_ands; exact ⟨belowCont (by assumption) (by assumption), hT.out.keep (belowCont (by assumption) (by assumption)), Nat.lt_of_lt_of_le (by assumption) (Below.size (by assumption)), BytesAt.below (by assumption) (by assumption), (Below.cell (by assumption) (by have := hCw.out; show w.heap.size < _; omega)).trans (by assumption), cvt.out _ (BytesAt.below (by assumption) (by assumption))⟩))
    (first
      | (go_at_call 15; (with_reducible refine (hawake_any _ (by go_split_ands; assumption)).mono ?_); rintro e w1 ⟨rfl, hb⟩)
      | (go_at_call 16; (with_reducible refine (s1.out _).mono ?_); rintro e w1 ⟨rfl, hb⟩)
      | (go_at_call 16; (with_reducible refine (s2.out _).mono ?_); rintro e w1 ⟨rfl, hb⟩)
      | (go_at_call 16; (with_reducible refine (s3.out _).mono ?_); rintro e w1 ⟨rfl, hb⟩)
      | (go_at_call 16; (with_reducible refine (s4.out _).mono ?_); rintro e w1 ⟨rfl, hb⟩)))
  all_goals go_wp2
  all_goals go_ret
  all_goals (go_split_ands; exact ⟨rfl, by assumption⟩)
end Go.Proofs.YtaldakkbfbpnkaaDoor.sha
