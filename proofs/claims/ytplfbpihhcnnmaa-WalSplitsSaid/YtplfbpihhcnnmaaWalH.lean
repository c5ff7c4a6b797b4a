/- What the laws cut records to: a row of the call's own. No condition but the slice's cells. -/
import Derived.Test.YtplfbpihhcnnmaaWal4
import Derived.Test.YtplfbpihhcnnmaaWal7
import Derived.StillTailTactics
import Derived.Deep.QuietTactic
import Derived.Deep.DeepCutAuto
namespace Go.Proofs.Ytplfbpihhcnnmaa.wal
open Go.RowKit
attribute [local go_sem ↓] Go.wp_at_zero Go.wp_at_succ
attribute [local go_sem] str_size str_bl str_append
set_option linter.unusedVariables false
set_option maxRecDepth 100000

def CutH (w : World) (e : Ending) (w' : World) : Prop := ∃ v x, e = .returned v ∧ x.length ≤ 12 ∧ Hp w [] [.row 100 3 v x.length (chCells x)] w'
set_option maxHeartbeats 8000000 in
theorem cuth_any (a : Option Addr) (len cap : Nat) (long : Int) (w : World) (h : SliceArg w a len 3 ChArg) :
    Calls Try.prog 10 #[.slice a len cap, .int .i64 long] w (CutH w) := by
  have hlen := h.1
  replace h := Lib.hid h
  obtain ⟨j, hj, hj2⟩ : ∃ j : Nat, bits .and .i64 long 8191 = (j : Int) ∧ j < 8192 := ⟨(long % 8192).toNat, by rw [and_8191]; omega, by omega⟩
  have mk := fun W => run_make_bytes j (by omega) W
  have cv := fun W => zeros_conv j W
  have cvd := fun W => zeros_conv_drew j W
  have hqs : (List.replicate j (0 : UInt8)).length = j := List.length_replicate
  generalize madeCells (Value.int .u8 0).cells j = Z at mk cv cvd
  have hj0 : (0 : Int) ≤ (j : Int) := Int.natCast_nonneg _
  have hj3 : (j : Int) < 8192 := by omega
  have hj4 : ¬ (j : Int) < 0 := by omega
  have hp := (Hp.none_ w []).rowLit #[] 100 3 0 (by decide) rfl
  replace hp := Lib.hid hp
  go_enter Try.func10, Try.ntmps10
  go_wp2
  go_loopg [5, 6] (min len 12) (fun gn v i wr => ∃ (k : Nat) (x : List Ch), i = .int .i64 (k : Int) ∧ k + gn = min len 12 ∧ x.length = k ∧ Hp w [] [.row 100 3 v k (chCells x)] wr)
  case atStart => exact ⟨0, [], rfl, by omega, rfl, hp.out⟩
  case round =>
    clear hp
    obtain ⟨k, x, rfl, hk, hx, hp⟩ := hrel
    by_cases hlt : k < len ∧ k < 12
    · obtain ⟨hl1, hl2⟩ := hlt
      obtain ⟨K, rfl⟩ : ∃ K : Nat, gk = K + 1 := ⟨gk - 1, by omega⟩
      obtain ⟨b, o, ⟨ck, cv, cg⟩, rfl, hb, g0, g1, g2⟩ := arg_ch h.out hl1
      simp only at g0 g1 g2
      have d0 : wr.cell? ⟨b, o + k * 3, none⟩ = some (.string (str ck)) := (hp.bel.cell hb).trans g0
      have d1 : wr.cell? ⟨b, o + k * 3 + 1, none⟩ = some (.string (str cv)) := (hp.bel.cell hb).trans g1
      have d2 : wr.cell? ⟨b, o + k * 3 + 2, none⟩ = some (.bool cg) := (hp.bel.cell hb).trans g2
      have e1 : (0 : Int) ≤ (k : Int) := by omega
      have e2 : (k : Int) < (len : Int) := by omega
      have e3 : (k : Int) < 12 := by omega
      have m1 : (str ck).extract 0 (min (ck.length : Int) 100).toNat = str (ck.take 100) := cutMin ck 100
      have m2 : (str cv).extract 0 (min (cv.length : Int) 60).toNat = str (cv.take 60) := cutMin cv 60
      have m3 : (0 : Int) ≤ min (ck.length : Int) 100 := by omega
      have m4 : min (ck.length : Int) 100 ≤ (ck.length : Int) := by omega
      have m5 : (0 : Int) ≤ min (cv.length : Int) 60 := by omega
      have m6 : min (cv.length : Int) 60 ≤ (cv.length : Int) := by omega
      have hv60 : (cv.take 60).length ≤ 60 := by rw [List.length_take]; omega
      replace hp := Lib.hid hp; replace hv60 := Lib.hid hv60; replace hk := Lib.hid hk; replace hx := Lib.hid hx
      clear g0 g1 g2
      have hB := hp.out.bel
      have hk0 : ∀ W, Below wr.heap.size wr W → W.cell? ⟨b, o + k * 3, none⟩ = some (.string (str ck)) := fun W h => (h.cell (Nat.lt_of_lt_of_le hb hB.size)).trans d0
      have hk1 : ∀ W, Below wr.heap.size wr W → W.cell? ⟨b, o + k * 3 + 1, none⟩ = some (.string (str cv)) := fun W h => (h.cell (Nat.lt_of_lt_of_le hb hB.size)).trans d1
      have hk2 : ∀ W, Below wr.heap.size wr W → W.cell? ⟨b, o + k * 3 + 2, none⟩ = some (.bool cg) := fun W h => (h.cell (Nat.lt_of_lt_of_le hb hB.size)).trans d2
      have bd : Below wr.heap.size wr wr.drew := (Below.refl _ _).drew
      have ba : ∀ o, Below wr.heap.size wr (wr.alloc o) := fun o => (Below.refl _ _).alloc (Nat.le_refl _) o
      have bad : ∀ o, Below wr.heap.size wr (wr.alloc o).drew := fun o => ((Below.refl _ _).alloc (Nat.le_refl _) o).drew
      have hend := (hp.out.alloc #[.string (str (ck.take 100)), .string (str (cv.take 60)), .bool cg] 100).drew
      replace hk0 := Lib.hid hk0; replace hk1 := Lib.hid hk1; replace hk2 := Lib.hid hk2; replace bd := Lib.hid bd; replace ba := Lib.hid ba; replace bad := Lib.hid bad; replace hB := Lib.hid hB; replace hend := Lib.hid hend
      clear hp hB
      go_upto_region 5 with fail
      go_cut [7] (fun s7 wx => ∃ q : Nat, s7 = .pointer (some ⟨q, 0, none⟩) ∧ Hp w [] [.box q #[.string (str (ck.take 100)), .string (str (cv.take 60)), .bool cg] 100, .row 100 3 u5 k (chCells x)] wx)
      case first =>
        go_region_held3 (fun W => W.cell? ⟨b, o + k * 3, none⟩ = some (.string (str ck)) ∧ W.cell? ⟨b, o + k * 3 + 1, none⟩ = some (.string (str cv)) ∧ W.cell? ⟨b, o + k * 3 + 2, none⟩ = some (.bool cg))
          (first | exact ⟨hk0.out _ bd.out, hk1.out _ bd.out, hk2.out _ bd.out⟩ | exact ⟨hk0.out _ (ba.out _), hk1.out _ (ba.out _), hk2.out _ (ba.out _)⟩ | exact ⟨hk0.out _ (bad.out _), hk1.out _ (bad.out _), hk2.out _ (bad.out _)⟩)
          ((fail))
        all_goals go_wp2_with fail
        all_goals go_meet
        all_goals exact ⟨_, rfl, hend.out⟩
      case rest =>
        obtain ⟨q, rfl, hp⟩ := hcut
        clear hend hk0 hk1 hk2 bd ba bad d0 d1 d2 m1 m2 m3 m4 m5 m6
        generalize ck.take 100 = CK at *
        generalize cv.take 60 = CV at *
        generalize wc = W at hp ⊢
        replace hv60 := hv60.out
        have hroom : ¬ 9223372036854775807 < CV.length + j := by omega
        have a2 := hp.cell (i := 0) rfl 2
        have a1 := hp.cell (i := 0) rfl 1
        have f1 := hp.free (i := 0) rfl 1
        simp at a1 a2
        replace hp := Lib.hid hp
        obtain ⟨C, hC⟩ : ∃ C, C = (((k : Int) == 0) && !cg) := ⟨_, rfl⟩
        replace hC := Lib.hid hC
        go_upto_region 6 with fail
        go_cut [57] (fun s57 wx => s57 = .bool C ∧ wx = W)
        case first =>
          by_cases hA : ((k : Int) == 0) = true
          · have hC2 : C = !cg := by rw [hC.out, hA]; simp
            cases cg with
            | true =>
              go_wp2_with fail
              go_meet
              exact ⟨by rw [hC2]; rfl, rfl⟩
            | false =>
              go_wp2_with fail
              go_meet
              exact ⟨by rw [hC2]; rfl, rfl⟩
          · replace hA : ((k : Int) == 0) = false := by simpa using hA
            have hC2 : C = false := by rw [hC.out, hA]; simp
            go_wp2_with fail
            go_meet
            exact ⟨by rw [hC2], rfl⟩
        case rest =>
        obtain ⟨rfl, rfl⟩ := hcut
        clear hC a2
        generalize wc = W at hp a1 f1 ⊢
        go_upto_if 57 with fail
        go_cut [] (fun wx => ∃ V, Hp w [] [.box q #[.string (str CK), .string (str V), .bool cg] 100, .row 100 3 u5 k (chCells x)] wx)
        case first =>
          cases C with
          | false =>
            go_wp2_with fail
            go_meet
            exact ⟨CV, hp.out⟩
          | true =>
            have hpa := (hp.out.alloc_ (.cells Z 5)).drew
            have hpf := ((hp.out.alloc_ (.cells Z 5)).put (i := 0) rfl 1 (.string (str (CV ++ List.replicate j 0)))).drew
            have c1 : W.drew.cell? ⟨q, 1, none⟩ = some (.string (str CV)) := a1
            have c1a := hpa.cell (i := 0) rfl 1
            have f1a := hpa.free (i := 0) rfl 1
            simp at c1a
            clear a1 f1 hpa
            replace hpf := Lib.hid hpf
            go_upto_region 7 with fail
            go_region_with (fail)
            all_goals (go_wp2_with fail; go_meet; exact ⟨CV ++ List.replicate j 0, hpf.out⟩)
        case rest =>
          obtain ⟨V, hp2⟩ := hcut
          clear hp a1 f1 hroom mk cv cvd hj0 hj3 hj4
          generalize wc = W at hp2 ⊢
          have a0 := hp2.cell (i := 0) rfl 0
          have a1 := hp2.cell (i := 0) rfl 1
          have a2 := hp2.cell (i := 0) rfl 2
          simp at a0 a1 a2
          have hp := hp2.alloc_ (.cells #[.string (str CK), .string (str V), .bool cg] 100)
          replace hp := Lib.hid hp
          have hx12 : x.length = k := hx.out
          clear hp2
          go_wp2_with (at_builtin; go_loud (refine wpList_append_hp rfl _ _ rfl Try.underlying25 changeInfo rfl (by decide) (by decide) hp.out 1 rfl rfl _ _ (chC ⟨CK, V, cg⟩) rfl rfl (block_cells (heap_alloc_new _ _)) (chC_one _) (by omega) ?_; intro v2 w3 hp3 hv; replace hp := Lib.hid (hp3.drop 0); clear hp3; obtain ⟨b2, cap2, rfl⟩ := hv))
          have hcells : chCells x ++ chC ⟨CK, V, cg⟩ = chCells (x ++ [⟨CK, V, cg⟩]) := by simp [chCells]
          go_roundg K
          case measure => omega
          case rel => exact ⟨k + 1, x ++ [⟨CK, V, cg⟩], by go_num, by have := hk.out; omega, by simp [hx12], by rw [← hcells]; exact hp.out⟩
    · have hk0 : gk = 0 := by omega
      subst hk0
      have q1 : ¬ ((k : Int) < (len : Int) ∧ (k : Int) < 12) := by omega
      replace hp := Lib.hid hp
      by_cases g1 : (k : Int) < (len : Int)
      · have g2 : ¬ (k : Int) < 12 := by omega
        clear q1 hlt
        go_wp2
        go_ret
        exact ⟨_, x, rfl, by omega, by rw [hx]; exact hp.out⟩
      · clear q1 hlt
        go_wp2
        go_ret
        exact ⟨_, x, rfl, by omega, by rw [hx]; exact hp.out⟩
set_option maxHeartbeats 2000000 in
theorem rsplit_any (s : List UInt8) (hs : s.length ≤ 1000000) (w : World) : Calls Try.prog 13 #[.string (str s)] w (SplitRet w (splitL s)) := by
  have hp := Lib.hid ((Hp.none_ w []).rowLit #[] 9 1 0 (by decide) rfl)
  have hlen := splitL_len 1000000 s hs
  obtain ⟨R, hR⟩ : ∃ R, R = splitL s := ⟨_, rfl⟩
  rw [← hR] at hlen ⊢
  replace hlen := Lib.hid hlen; replace hR := Lib.hid hR
  go_enter Try.func13, Try.ntmps13
  go_wp2
  go_loopw [0, 3] (fun t v wr => ∃ (r : List UInt8) (acc : List (List UInt8)), t = .string (str r) ∧ r.length ≤ s.length ∧ R = acc ++ splitL r ∧ Hp w [] [.row 9 1 v acc.length (strsV acc)] wr) (fun t _ _ => Lib.strSize t)
  case atStart => exact ⟨s, [], rfl, Nat.le_refl _, by rw [hR.out]; rfl, hp.out⟩
  case round =>
    clear hp
    obtain ⟨r, acc, rfl, hr, hacc, hp⟩ := hrel
    have hal : acc.length ≤ 1000001 := by have := hlen.out; rw [hacc, List.length_append] at this; omega
    by_cases h1 : r.length ≤ 461
    · have q1 : ¬ (461 : Int) < (r.length : Int) := by omega
      have hroom : ¬ 9223372036854775807 < 1 + r.length := by omega
      rw [splitL_short r h1] at hacc
      have hone : str [1] ++ str r = str (1 :: r) := str_append _ _
      have hp2 := hp.alloc_ (.cells #[.string (str (1 :: r))] 9)
      replace hp2 := Lib.hid hp2; replace hacc := Lib.hid hacc
      clear hp h1
      go_wp2_with (at_builtin; go_loud (refine wpList_append_hp rfl _ _ rfl Try.underlying24 strInfo' rfl (by decide) (by decide) hp2.out 0 rfl rfl _ _ [.string (str (1 :: r))] rfl rfl (block_cells (heap_alloc_new _ _)) (by intro u hu; simp at hu; subst hu; rfl) (by omega) ?_; intro v2 w3 hp3 hv; replace hp2 := Lib.hid hp3; clear hp3; obtain ⟨b2, cap2, rfl⟩ := hv))
      go_ret
      have e2 : strsV (acc ++ [1 :: r]) = strsV acc ++ [.string (str (1 :: r))] := by simp [strsV]
      exact ⟨_, rfl, by rw [hacc.out, e2, List.length_append]; exact hp2.out⟩
    · have q1 : (461 : Int) < (r.length : Int) := by omega
      have hroom : ¬ 9223372036854775807 < 1 + (r.take 461).length := by rw [List.length_take]; omega
      rw [splitL_long r h1] at hacc
      have hone : str [0] ++ str (r.take 461) = str (0 :: r.take 461) := str_append _ _
      have x1 : (str r).extract 0 461 = str (r.take 461) := by rw [cut_extract]; simp
      have x2 : (str r).extract 461 r.length = str (r.drop 461) := by rw [cut_extract, List.take_of_length_le (by rw [List.length_drop]; omega)]
      have hdl : (r.drop 461).length + 461 = r.length := by rw [List.length_drop]; omega
      have htl : (r.take 461).length = 461 := by rw [List.length_take]; omega
      have hp2 := hp.alloc_ (.cells #[.string (str (0 :: r.take 461))] 9)
      have e2 : acc ++ (0 :: r.take 461) :: splitL (r.drop 461) = (acc ++ [0 :: r.take 461]) ++ splitL (r.drop 461) := by simp
      have e3 : strsV (acc ++ [0 :: r.take 461]) = strsV acc ++ [.string (str (0 :: r.take 461))] := by simp [strsV]
      rw [e2] at hacc
      generalize r.take 461 = A at *
      generalize r.drop 461 = D at *
      replace hp2 := Lib.hid hp2; replace hacc := Lib.hid hacc; replace e3 := Lib.hid e3; replace hdl := Lib.hid hdl; replace htl := Lib.hid htl
      clear hp h1 e2
      go_wp2_with (at_builtin; go_loud (refine wpList_append_hp rfl _ _ rfl Try.underlying24 strInfo' rfl (by decide) (by decide) hp2.out 0 rfl rfl _ _ [.string (str (0 :: A))] rfl rfl (block_cells (heap_alloc_new _ _)) (by intro u hu; simp at hu; subst hu; rfl) (by omega) ?_; intro v2 w3 hp3 hv; replace hp2 := Lib.hid hp3; clear hp3; obtain ⟨b2, cap2, rfl⟩ := hv))
      go_roundw
      case rel => exact ⟨D, acc ++ [0 :: A], rfl, by have := hdl.out; omega, hacc.out, by rw [e3.out, List.length_append]; exact hp2.out⟩
      case measure => have := hdl.out; simp [Lib.strSize, str_size]; omega
theorem splitL_count : ∀ (n : Nat) (s : List UInt8), s.length ≤ n → (splitL s).length = max 1 ((s.length + 460) / 461)
  | 0, s, h => by rw [splitL_short s (by omega)]; have : s.length = 0 := by omega
                  rw [this]; rfl
  | n + 1, s, h => by
    by_cases h1 : s.length ≤ 461
    · rw [splitL_short s h1]
      show 1 = _
      omega
    · rw [splitL_long s h1, List.length_cons, splitL_count n (s.drop 461) (by rw [List.length_drop]; omega), List.length_drop]
      omega
end Go.Proofs.Ytplfbpihhcnnmaa.wal
