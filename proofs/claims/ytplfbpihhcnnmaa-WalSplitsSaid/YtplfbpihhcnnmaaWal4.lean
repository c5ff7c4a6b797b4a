/- What the laws cut records to. No condition but the slice's cells. -/
import Derived.Test.YtplfbpihhcnnmaaWal3
import Derived.Test.YtplfbpihhcnnmaaBytes2
import Derived.StillTailTactics
import Derived.Deep.QuietTactic
import Derived.Deep.DeepCutAuto
namespace Go.Proofs.Ytplfbpihhcnnmaa.wal
open Go.RowKit
attribute [local go_sem ↓] Go.wp_at_zero Go.wp_at_succ
attribute [local go_sem] str_size str_bl str_append
set_option linter.unusedVariables false
set_option maxRecDepth 100000

theorem and_8191 (x : Int) : bits .and .i64 x 8191 = x % 8192 := and_mask x 13 8191 (by decide) (by decide)
theorem cutMin (s : List UInt8) (k : Nat) : (str s).extract 0 (min (s.length : Int) (k : Int)).toNat = str (s.take k) := by
  have e : (min (s.length : Int) (k : Int)).toNat = min s.length k := by omega
  rw [e, cut_extract, List.drop_zero, Nat.sub_zero]
  congr 1
  rw [List.take_eq_take_iff]; omega
/-- a change, cut -/
def cutC (c : Ch) : Ch := ⟨c.k.take 100, c.v.take 60, c.g⟩
theorem zeros_conv (j : Nat) (W : World) : (convert 48 9 (.slice (some ⟨W.heap.size, 0, none⟩) j j)).run Try.prog (W.alloc (.cells (madeCells (Value.int .u8 0).cells j) 5)) = .ok (.string (str (List.replicate j 0))) (W.alloc (.cells (madeCells (Value.int .u8 0).cells j) 5)) := by
  have h := (byteBlk_made W j).text j
  rwa [List.length_replicate] at h
theorem zeros_conv_drew (j : Nat) (W : World) : (convert 48 9 (.slice (some ⟨W.heap.size, 0, none⟩) j j)).run Try.prog (W.alloc (.cells (madeCells (Value.int .u8 0).cells j) 5)).drew = .ok (.string (str (List.replicate j 0))) (W.alloc (.cells (madeCells (Value.int .u8 0).cells j) 5)).drew := by
  have h := (show ByteBlk (W.alloc (.cells (madeCells (Value.int .u8 0).cells j) 5)).drew W.heap.size _ from byteBlk_made W j).text j
  rwa [List.length_replicate] at h
def ChArg (j : Nat) (v : Value) : Prop := match j with | 0 => ∃ x : ByteArray, v = .string x ∧ x.size ≤ maxLen | 1 => ∃ x : ByteArray, v = .string x ∧ x.size ≤ maxLen | 2 => ∃ x, v = .bool x | _ => False
def CutRet (w : World) (e : Ending) (w' : World) : Prop := ∃ v x, e = .returned v ∧ Sl w' v x.length (chCells x) ∧ x.length ≤ 12 ∧ Below w.heap.size w w'
/-- the elements that came in -/
theorem arg_ch {w : World} {a : Option Addr} {len : Nat} (h : SliceArg w a len 3 ChArg) {i : Nat} (hi : i < len) : ∃ b o c, a = some ⟨b, o, none⟩ ∧ b < w.heap.size ∧ w.cell? ⟨b, o + i * 3, none⟩ = some (.string (str (Ch.k c))) ∧ w.cell? ⟨b, o + i * 3 + 1, none⟩ = some (.string (str c.v)) ∧ w.cell? ⟨b, o + i * 3 + 2, none⟩ = some (.bool c.g) := by
  obtain ⟨h1, h2⟩ := h
  obtain ⟨b, o, rfl, hlt, hc⟩ := h2.resolve_left (by omega)
  obtain ⟨v0, e0, x0, rfl, _⟩ := hc i hi 0 (by decide)
  obtain ⟨v1, e1, x1, rfl, _⟩ := hc i hi 1 (by decide)
  obtain ⟨v2, e2, x2, rfl⟩ := hc i hi 2 (by decide)
  exact ⟨b, o, ⟨x0.data.toList, x1.data.toList, x2⟩, rfl, hlt, e0, e1, e2⟩
set_option maxHeartbeats 8000000 in
theorem cut_any (a : Option Addr) (len cap : Nat) (long : Int) (w : World) (h : SliceArg w a len 3 ChArg) :
    Calls Try.prog 10 #[.slice a len cap, .int .i64 long] w (CutRet w) := by
  have hlen := h.1
  replace h := Lib.hid h
  obtain ⟨j, hj, hj2⟩ : ∃ j : Nat, bits .and .i64 long 8191 = (j : Int) ∧ j < 8192 := ⟨(long % 8192).toNat, by rw [and_8191]; omega, by omega⟩
  have mk := fun W => run_make_bytes j (by omega) W
  have cv := fun W => zeros_conv j W
  have cvd := fun W => zeros_conv_drew j W
  have hqs : (List.replicate j (0 : UInt8)).length = j := List.length_replicate
  generalize madeCells (Value.int .u8 0).cells j = Z at mk cv cvd
  have hj0 : (0 : Int) ≤ (j : Int) := Int.natCast_nonneg _
  have hj3 : (j : Int) < 8192 := by omega
  have hj4 : ¬ (j : Int) < 0 := by omega
  have hp := (Hp.none_ w []).rowLit #[] 100 3 0 (by decide) rfl
  replace hp := Lib.hid hp
  go_enter Try.func10, Try.ntmps10
  go_wp2
  go_loopg [5, 6] (min len 12) (fun gn v i wr => ∃ (k : Nat) (x : List Ch), i = .int .i64 (k : Int) ∧ k + gn = min len 12 ∧ x.length = k ∧ Hp w [] [.row 100 3 v k (chCells x)] wr)
  case atStart => exact ⟨0, [], rfl, by omega, rfl, hp.out⟩
  case round =>
    clear hp
    obtain ⟨k, x, rfl, hk, hx, hp⟩ := hrel
    by_cases hlt : k < len ∧ k < 12
    · obtain ⟨hl1, hl2⟩ := hlt
      obtain ⟨K, rfl⟩ : ∃ K : Nat, gk = K + 1 := ⟨gk - 1, by omega⟩
      obtain ⟨b, o, ⟨ck, cv, cg⟩, rfl, hb, g0, g1, g2⟩ := arg_ch h.out hl1
      simp only at g0 g1 g2
      have d0 : wr.cell? ⟨b, o + k * 3, none⟩ = some (.string (str ck)) := (hp.bel.cell hb).trans g0
      have d1 : wr.cell? ⟨b, o + k * 3 + 1, none⟩ = some (.string (str cv)) := (hp.bel.cell hb).trans g1
      have d2 : wr.cell? ⟨b, o + k * 3 + 2, none⟩ = some (.bool cg) := (hp.bel.cell hb).trans g2
      have e1 : (0 : Int) ≤ (k : Int) := by omega
      have e2 : (k : Int) < (len : Int) := by omega
      have e3 : (k : Int) < 12 := by omega
      have m1 : (str ck).extract 0 (min (ck.length : Int) 100).toNat = str (ck.take 100) := cutMin ck 100
      have m2 : (str cv).extract 0 (min (cv.length : Int) 60).toNat = str (cv.take 60) := cutMin cv 60
      have m3 : (0 : Int) ≤ min (ck.length : Int) 100 := by omega
      have m4 : min (ck.length : Int) 100 ≤ (ck.length : Int) := by omega
      have m5 : (0 : Int) ≤ min (cv.length : Int) 60 := by omega
      have m6 : min (cv.length : Int) 60 ≤ (cv.length : Int) := by omega
      have hv60 : (cv.take 60).length ≤ 60 := by rw [List.length_take]; omega
      replace hp := Lib.hid hp; replace hv60 := Lib.hid hv60; replace hk := Lib.hid hk; replace hx := Lib.hid hx
      clear g0 g1 g2
      have hB := hp.out.bel
      have hk0 : ∀ W, Below wr.heap.size wr W → W.cell? ⟨b, o + k * 3, none⟩ = some (.string (str ck)) := fun W h => (h.cell (Nat.lt_of_lt_of_le hb hB.size)).trans d0
      have hk1 : ∀ W, Below wr.heap.size wr W → W.cell? ⟨b, o + k * 3 + 1, none⟩ = some (.string (str cv)) := fun W h => (h.cell (Nat.lt_of_lt_of_le hb hB.size)).trans d1
      have hk2 : ∀ W, Below wr.heap.size wr W → W.cell? ⟨b, o + k * 3 + 2, none⟩ = some (.bool cg) := fun W h => (h.cell (Nat.lt_of_lt_of_le hb hB.size)).trans d2
      have bd : Below wr.heap.size wr wr.drew := (Below.refl _ _).drew
      have ba : ∀ o, Below wr.heap.size wr (wr.alloc o) := fun o => (Below.refl _ _).alloc (Nat.le_refl _) o
      have bad : ∀ o, Below wr.heap.size wr (wr.alloc o).drew := fun o => ((Below.refl _ _).alloc (Nat.le_refl _) o).drew
      have hend := (hp.out.alloc #[.string (str (ck.take 100)), .string (str (cv.take 60)), .bool cg] 100).drew
      replace hk0 := Lib.hid hk0; replace hk1 := Lib.hid hk1; replace hk2 := Lib.hid hk2; replace bd := Lib.hid bd; replace ba := Lib.hid ba; replace bad := Lib.hid bad; replace hB := Lib.hid hB; replace hend := Lib.hid hend
      clear hp hB
      go_upto_region 5 with fail
      go_cut [7] (fun s7 wx => ∃ q : Nat, s7 = .pointer (some ⟨q, 0, none⟩) ∧ Hp w [] [.box q #[.string (str (ck.take 100)), .string (str (cv.take 60)), .bool cg] 100, .row 100 3 u5 k (chCells x)] wx)
      case first =>
        go_region_held3 (fun W => W.cell? ⟨b, o + k * 3, none⟩ = some (.string (str ck)) ∧ W.cell? ⟨b, o + k * 3 + 1, none⟩ = some (.string (str cv)) ∧ W.cell? ⟨b, o + k * 3 + 2, none⟩ = some (.bool cg))
          (first | exact ⟨hk0.out _ bd.out, hk1.out _ bd.out, hk2.out _ bd.out⟩ | exact ⟨hk0.out _ (ba.out _), hk1.out _ (ba.out _), hk2.out _ (ba.out _)⟩ | exact ⟨hk0.out _ (bad.out _), hk1.out _ (bad.out _), hk2.out _ (bad.out _)⟩)
          ((fail))
        all_goals go_wp2_with fail
        all_goals go_meet
        all_goals exact ⟨_, rfl, hend.out⟩
      case rest =>
        obtain ⟨q, rfl, hp⟩ := hcut
        clear hend hk0 hk1 hk2 bd ba bad d0 d1 d2 m1 m2 m3 m4 m5 m6
        generalize ck.take 100 = CK at *
        generalize cv.take 60 = CV at *
        generalize wc = W at hp ⊢
        replace hv60 := hv60.out
        have hroom : ¬ 9223372036854775807 < CV.length + j := by omega
        have a2 := hp.cell (i := 0) rfl 2
        have a1 := hp.cell (i := 0) rfl 1
        have f1 := hp.free (i := 0) rfl 1
        simp at a1 a2
        replace hp := Lib.hid hp
        obtain ⟨C, hC⟩ : ∃ C, C = (((k : Int) == 0) && !cg) := ⟨_, rfl⟩
        replace hC := Lib.hid hC
        go_upto_region 6 with fail
        go_cut [57] (fun s57 wx => s57 = .bool C ∧ wx = W)
        case first =>
          by_cases hA : ((k : Int) == 0) = true
          · have hC2 : C = !cg := by rw [hC.out, hA]; simp
            cases cg with
            | true =>
              go_wp2_with fail
              go_meet
              exact ⟨by rw [hC2]; rfl, rfl⟩
            | false =>
              go_wp2_with fail
              go_meet
              exact ⟨by rw [hC2]; rfl, rfl⟩
          · replace hA : ((k : Int) == 0) = false := by simpa using hA
            have hC2 : C = false := by rw [hC.out, hA]; simp
            go_wp2_with fail
            go_meet
            exact ⟨by rw [hC2], rfl⟩
        case rest =>
        obtain ⟨rfl, rfl⟩ := hcut
        clear hC a2
        generalize wc = W at hp a1 f1 ⊢
        go_upto_if 57 with fail
        go_cut [] (fun wx => ∃ V, Hp w [] [.box q #[.string (str CK), .string (str V), .bool cg] 100, .row 100 3 u5 k (chCells x)] wx)
        case first =>
          cases C with
          | false =>
            go_wp2_with fail
            go_meet
            exact ⟨CV, hp.out⟩
          | true =>
            have hpa := (hp.out.alloc_ (.cells Z 5)).drew
            have hpf := ((hp.out.alloc_ (.cells Z 5)).put (i := 0) rfl 1 (.string (str (CV ++ List.replicate j 0)))).drew
            have c1 : W.drew.cell? ⟨q, 1, none⟩ = some (.string (str CV)) := a1
            have c1a := hpa.cell (i := 0) rfl 1
            have f1a := hpa.free (i := 0) rfl 1
            simp at c1a
            clear a1 f1 hpa
            replace hpf := Lib.hid hpf
            go_upto_region 7 with fail
            go_region_with (fail)
            all_goals (go_wp2_with fail; go_meet; exact ⟨CV ++ List.replicate j 0, hpf.out⟩)
        case rest =>
          obtain ⟨V, hp2⟩ := hcut
          clear hp a1 f1 hroom mk cv cvd hj0 hj3 hj4
          generalize wc = W at hp2 ⊢
          have a0 := hp2.cell (i := 0) rfl 0
          have a1 := hp2.cell (i := 0) rfl 1
          have a2 := hp2.cell (i := 0) rfl 2
          simp at a0 a1 a2
          have hp := hp2.alloc_ (.cells #[.string (str CK), .string (str V), .bool cg] 100)
          replace hp := Lib.hid hp
          have hx12 : x.length = k := hx.out
          clear hp2
          go_wp2_with (at_builtin; go_loud (refine wpList_append_hp rfl _ _ rfl Try.underlying25 changeInfo rfl (by decide) (by decide) hp.out 1 rfl rfl _ _ (chC ⟨CK, V, cg⟩) rfl rfl (block_cells (heap_alloc_new _ _)) (chC_one _) (by omega) ?_; intro v2 w3 hp3 hv; replace hp := Lib.hid (hp3.drop 0); clear hp3; obtain ⟨b2, cap2, rfl⟩ := hv))
          have hcells : chCells x ++ chC ⟨CK, V, cg⟩ = chCells (x ++ [⟨CK, V, cg⟩]) := by simp [chCells]
          go_roundg K
          case measure => omega
          case rel => exact ⟨k + 1, x ++ [⟨CK, V, cg⟩], by go_num, by have := hk.out; omega, by simp [hx12], by rw [← hcells]; exact hp.out⟩
    · have hk0 : gk = 0 := by omega
      subst hk0
      have q1 : ¬ ((k : Int) < (len : Int) ∧ (k : Int) < 12) := by omega
      replace hp := Lib.hid hp
      by_cases g1 : (k : Int) < (len : Int)
      · have g2 : ¬ (k : Int) < 12 := by omega
        clear q1 hlt
        go_wp2
        go_ret
        exact ⟨_, x, rfl, by have := hp.out.sl (i := 0) rfl (by omega); rw [← hx] at this; exact this, by omega, hp.out.bel⟩
      · clear q1 hlt
        go_wp2
        go_ret
        exact ⟨_, x, rfl, by have := hp.out.sl (i := 0) rfl (by omega); rw [← hx] at this; exact this, by omega, hp.out.bel⟩
end Go.Proofs.Ytplfbpihhcnnmaa.wal
