/- What the laws cut records to, as a list. No condition but the slice's cells. -/
import Derived.Test.YtdhboldmffiklaaWal4
import Derived.StillTailTactics
import Derived.Deep.QuietTactic
import Derived.Deep.DeepCutAuto
namespace Go.Proofs.Ytdhboldmffiklaa.wal
open Go.RowKit
attribute [local go_sem ↓] Go.wp_at_zero Go.wp_at_succ
attribute [local go_sem] str_size str_bl str_append
set_option linter.unusedVariables false
set_option maxRecDepth 100000

def cutAt (j i : Nat) (c : Ch) : Ch := if i = 0 ∧ c.g = false then ⟨c.k.take 100, c.v.take 60 ++ List.replicate j 0, c.g⟩ else ⟨c.k.take 100, c.v.take 60, c.g⟩
def cutL (l : List Ch) (j : Nat) : List Ch := (l.take 12).mapIdx (cutAt j)
theorem cutL_len (l : List Ch) (j : Nat) : (cutL l j).length = min l.length 12 := by simp [cutL]; omega
theorem cutL_get (l : List Ch) (j k : Nat) (c : Ch) (h : l[k]? = some c) (hk : k < 12) : (cutL l j)[k]? = some (cutAt j k c) := by
  unfold cutL
  rw [List.getElem?_mapIdx, List.getElem?_take, if_pos hk, h]; rfl
def CutF (w : World) (x : List Ch) (e : Ending) (w' : World) : Prop := ∃ v, e = .returned v ∧ Sl w' v x.length (chCells x) ∧ Below w.heap.size w w'
set_option maxHeartbeats 8000000 in
theorem cutf_any (l : List Ch) (v : Value) (long : Int) (j : Nat) (hj : bits .and .i64 long 8191 = (j : Int)) (hj2 : j < 8192) (w : World) (h : Sl w v l.length (chCells l)) :
    Calls Try.prog 62 #[v, .int .i64 long] w (CutF w (cutL l j)) := by
  obtain ⟨a, cap, rfl, hlen, h⟩ := h
  obtain ⟨L, hL⟩ : ∃ L, L = cutL l j := ⟨_, rfl⟩
  have hget : ∀ k c, l[k]? = some c → k < 12 → L[k]? = some (cutAt j k c) := fun k c h1 h2 => by rw [hL]; exact cutL_get l j k c h1 h2
  have hLl : L.length = min l.length 12 := by rw [hL]; exact cutL_len l j
  rw [← hL]
  obtain ⟨len, hll⟩ : ∃ n, n = l.length := ⟨_, rfl⟩
  rw [← hll] at hlen h hLl ⊢
  clear hL
  replace h := Lib.hid h; replace hget := Lib.hid hget; replace hLl := Lib.hid hLl; replace hll := Lib.hid hll
  have mk := fun W => run_make_bytes j (by omega) W
  have cv := fun W => zeros_conv j W
  have cvd := fun W => zeros_conv_drew j W
  have hqs : (List.replicate j (0 : UInt8)).length = j := List.length_replicate
  generalize madeCells (Value.int .u8 0).cells j = Z at mk cv cvd
  have hj0 : (0 : Int) ≤ (j : Int) := Int.natCast_nonneg _
  have hj3 : (j : Int) < 8192 := by omega
  have hj4 : ¬ (j : Int) < 0 := by omega
  have hp := (Hp.none_ w []).rowLit #[] 63 3 0 (by decide) rfl
  replace hp := Lib.hid hp
  go_enter Try.func62, Try.ntmps62
  go_wp2
  go_loopg [5, 6] (min len 12) (fun gn v i wr => ∃ (k : Nat), i = .int .i64 (k : Int) ∧ k + gn = min len 12 ∧ Hp w [] [.row 63 3 v k (chCells (L.take k))] wr)
  case atStart => exact ⟨0, rfl, by omega, hp.out⟩
  case round =>
    clear hp
    obtain ⟨k, rfl, hk, hp⟩ := hrel
    obtain ⟨x, hxx⟩ : ∃ x, x = L.take k := ⟨_, rfl⟩
    rw [← hxx] at hp
    replace hxx := Lib.hid hxx
    by_cases hlt : k < len ∧ k < 12
    · obtain ⟨hl1, hl2⟩ := hlt
      obtain ⟨K, rfl⟩ : ∃ K : Nat, gk = K + 1 := ⟨gk - 1, by omega⟩
      obtain ⟨b, o, rfl, hb, hr⟩ := h.out.resolve_left (by omega)
      obtain ⟨⟨ck, cv, cg⟩, hx⟩ : ∃ x, l[k]? = some x := ⟨_, List.getElem?_eq_getElem (by have := hll.out; omega)⟩
      have hra : RowAt w b o (chCells l) := ⟨hb, hr⟩
      have g0 : w.cell? ⟨b, o + k * 3, none⟩ = some (.string (str ck)) := hra.elem0 chC_len hx rfl
      have g1 : w.cell? ⟨b, o + k * 3 + 1, none⟩ = some (.string (str cv)) := hra.elem chC_len hx (j := 1) rfl
      have g2 : w.cell? ⟨b, o + k * 3 + 2, none⟩ = some (.bool cg) := hra.elem chC_len hx (j := 2) rfl
      have hnext := hget.out k _ hx hl2
      replace hnext := Lib.hid hnext
      clear hra hr hx
      have d0 : wr.cell? ⟨b, o + k * 3, none⟩ = some (.string (str ck)) := (hp.bel.cell hb).trans g0
      have d1 : wr.cell? ⟨b, o + k * 3 + 1, none⟩ = some (.string (str cv)) := (hp.bel.cell hb).trans g1
      have d2 : wr.cell? ⟨b, o + k * 3 + 2, none⟩ = some (.bool cg) := (hp.bel.cell hb).trans g2
      have e1 : (0 : Int) ≤ (k : Int) := by omega
      have e2 : (k : Int) < (len : Int) := by omega
      have e3 : (k : Int) < 12 := by omega
      have m1 : (str ck).extract 0 (min (ck.length : Int) 100).toNat = str (ck.take 100) := cutMin ck 100
      have m2 : (str cv).extract 0 (min (cv.length : Int) 60).toNat = str (cv.take 60) := cutMin cv 60
      have m3 : (0 : Int) ≤ min (ck.length : Int) 100 := by omega
      have m4 : min (ck.length : Int) 100 ≤ (ck.length : Int) := by omega
      have m5 : (0 : Int) ≤ min (cv.length : Int) 60 := by omega
      have m6 : min (cv.length : Int) 60 ≤ (cv.length : Int) := by omega
      have hv60 : (cv.take 60).length ≤ 60 := by rw [List.length_take]; omega
      replace hp := Lib.hid hp; replace hv60 := Lib.hid hv60; replace hk := Lib.hid hk
      clear g0 g1 g2
      have hB := hp.out.bel
      have hk0 : ∀ W, Below wr.heap.size wr W → W.cell? ⟨b, o + k * 3, none⟩ = some (.string (str ck)) := fun W h => (h.cell (Nat.lt_of_lt_of_le hb hB.size)).trans d0
      have hk1 : ∀ W, Below wr.heap.size wr W → W.cell? ⟨b, o + k * 3 + 1, none⟩ = some (.string (str cv)) := fun W h => (h.cell (Nat.lt_of_lt_of_le hb hB.size)).trans d1
      have hk2 : ∀ W, Below wr.heap.size wr W → W.cell? ⟨b, o + k * 3 + 2, none⟩ = some (.bool cg) := fun W h => (h.cell (Nat.lt_of_lt_of_le hb hB.size)).trans d2
      have bd : Below wr.heap.size wr wr.drew := (Below.refl _ _).drew
      have ba : ∀ o, Below wr.heap.size wr (wr.alloc o) := fun o => (Below.refl _ _).alloc (Nat.le_refl _) o
      have bad : ∀ o, Below wr.heap.size wr (wr.alloc o).drew := fun o => ((Below.refl _ _).alloc (Nat.le_refl _) o).drew
      have hend := (hp.out.alloc #[.string (str (ck.take 100)), .string (str (cv.take 60)), .bool cg] 63).drew
      replace hk0 := Lib.hid hk0; replace hk1 := Lib.hid hk1; replace hk2 := Lib.hid hk2; replace bd := Lib.hid bd; replace ba := Lib.hid ba; replace bad := Lib.hid bad; replace hB := Lib.hid hB; replace hend := Lib.hid hend
      clear hp hB
      go_upto_region 5 with fail
      go_cut [7] (fun s7 wx => ∃ q : Nat, s7 = .pointer (some ⟨q, 0, none⟩) ∧ Hp w [] [.box q #[.string (str (ck.take 100)), .string (str (cv.take 60)), .bool cg] 63, .row 63 3 u5 k (chCells x)] wx)
      case first =>
        go_region_held3 (fun W => W.cell? ⟨b, o + k * 3, none⟩ = some (.string (str ck)) ∧ W.cell? ⟨b, o + k * 3 + 1, none⟩ = some (.string (str cv)) ∧ W.cell? ⟨b, o + k * 3 + 2, none⟩ = some (.bool cg))
          (first | exact ⟨hk0.out _ bd.out, hk1.out _ bd.out, hk2.out _ bd.out⟩ | exact ⟨hk0.out _ (ba.out _), hk1.out _ (ba.out _), hk2.out _ (ba.out _)⟩ | exact ⟨hk0.out _ (bad.out _), hk1.out _ (bad.out _), hk2.out _ (bad.out _)⟩)
          ((fail))
        all_goals go_wp2_with fail
        all_goals go_meet
        all_goals exact ⟨_, rfl, hend.out⟩
      case rest =>
        obtain ⟨q, rfl, hp⟩ := hcut
        clear hend hk0 hk1 hk2 bd ba bad d0 d1 d2 m1 m2 m3 m4 m5 m6
        have hcv1 : cutAt j k ⟨ck, cv, cg⟩ = if k = 0 ∧ cg = false then ⟨ck.take 100, cv.take 60 ++ List.replicate j 0, cg⟩ else ⟨ck.take 100, cv.take 60, cg⟩ := rfl
        rw [hcv1] at hnext
        clear hcv1
        generalize ck.take 100 = CK at *
        generalize cv.take 60 = CV at *
        generalize wc = W at hp ⊢
        replace hv60 := hv60.out
        have hroom : ¬ 9223372036854775807 < CV.length + j := by omega
        have a2 := hp.cell (i := 0) rfl 2
        have a1 := hp.cell (i := 0) rfl 1
        have f1 := hp.free (i := 0) rfl 1
        simp at a1 a2
        replace hp := Lib.hid hp
        obtain ⟨C, hC⟩ : ∃ C, C = (((k : Int) == 0) && !cg) := ⟨_, rfl⟩
        replace hC := Lib.hid hC
        go_upto_region 6 with fail
        go_cut [57] (fun s57 wx => s57 = .bool C ∧ wx = W)
        case first =>
          by_cases hA : ((k : Int) == 0) = true
          · have hC2 : C = !cg := by rw [hC.out, hA]; simp
            cases cg with
            | true =>
              go_wp2_with fail
              go_meet
              exact ⟨by rw [hC2]; rfl, rfl⟩
            | false =>
              go_wp2_with fail
              go_meet
              exact ⟨by rw [hC2]; rfl, rfl⟩
          · replace hA : ((k : Int) == 0) = false := by simpa using hA
            have hC2 : C = false := by rw [hC.out, hA]; simp
            go_wp2_with fail
            go_meet
            exact ⟨by rw [hC2], rfl⟩
        case rest =>
        obtain ⟨rfl, rfl⟩ := hcut
        clear a2
        generalize wc = W at hp a1 f1 ⊢
        go_upto_if 57 with fail
        go_cut [] (fun wx => ∃ V, L[k]? = some ⟨CK, V, cg⟩ ∧ Hp w [] [.box q #[.string (str CK), .string (str V), .bool cg] 63, .row 63 3 u5 k (chCells x)] wx)
        case first =>
          cases C with
          | false =>
            go_wp2_with fail
            go_meet
            exact ⟨CV, by rw [hnext.out, if_neg]; intro hc; have := hC.out; simp [hc.1, hc.2] at this, hp.out⟩
          | true =>
            have hpa := (hp.out.alloc_ (.cells Z 5)).drew
            have hpf := ((hp.out.alloc_ (.cells Z 5)).put (i := 0) rfl 1 (.string (str (CV ++ List.replicate j 0)))).drew
            have c1 : W.drew.cell? ⟨q, 1, none⟩ = some (.string (str CV)) := a1
            have c1a := hpa.cell (i := 0) rfl 1
            have f1a := hpa.free (i := 0) rfl 1
            simp at c1a
            clear a1 f1 hpa
            replace hpf := Lib.hid hpf
            go_upto_region 7 with fail
            go_region_with (fail)
            all_goals (go_wp2_with fail; go_meet; exact ⟨CV ++ List.replicate j 0, by rw [hnext.out, if_pos]; have := hC.out; simpa using this, hpf.out⟩)
        case rest =>
          obtain ⟨V, hV, hp2⟩ := hcut
          replace hV := Lib.hid hV
          clear hp a1 f1 hroom mk cv cvd hj0 hj3 hj4 hC hnext
          generalize wc = W at hp2 ⊢
          have a0 := hp2.cell (i := 0) rfl 0
          have a1 := hp2.cell (i := 0) rfl 1
          have a2 := hp2.cell (i := 0) rfl 2
          simp at a0 a1 a2
          have hp := hp2.alloc_ (.cells #[.string (str CK), .string (str V), .bool cg] 63)
          replace hp := Lib.hid hp
          clear hp2
          go_wp2_with (at_builtin; go_loud (refine wpList_append_hp rfl _ _ rfl Try.underlying54 changeInfo rfl (by decide) (by decide) hp.out 1 rfl rfl _ _ (chC ⟨CK, V, cg⟩) rfl rfl (block_cells (heap_alloc_new _ _)) (chC_one _) (by omega) ?_; intro v2 w3 hp3 hv; replace hp := Lib.hid (hp3.drop 0); clear hp3; obtain ⟨b2, cap2, rfl⟩ := hv))
          have hcells : chCells x ++ chC ⟨CK, V, cg⟩ = chCells (L.take (k + 1)) := by rw [hxx.out, List.take_add_one, hV.out]; simp [chCells]
          go_roundg K
          case measure => omega
          case rel => exact ⟨k + 1, by go_num, by have := hk.out; omega, by rw [← hcells]; exact hp.out⟩
    · have hk0 : gk = 0 := by omega
      subst hk0
      have q1 : ¬ ((k : Int) < (len : Int) ∧ (k : Int) < 12) := by omega
      replace hp := Lib.hid hp
      by_cases g1 : (k : Int) < (len : Int)
      · have g2 : ¬ (k : Int) < 12 := by omega
        clear q1 hlt
        go_wp2
        go_ret
        have hxl : x = L ∧ k = L.length := by
          have h1 := hxx.out; have h2 := hLl.out
          have h3 : k = L.length := by omega
          exact ⟨by rw [h1, h3, List.take_length], h3⟩
        exact ⟨_, rfl, by have := hp.out.sl (i := 0) rfl (by omega); rw [hxl.1, hxl.2] at this; rw [hxl.2]; exact this, hp.out.bel⟩
      · clear q1 hlt
        go_wp2
        go_ret
        have hxl : x = L ∧ k = L.length := by
          have h1 := hxx.out; have h2 := hLl.out
          have h3 : k = L.length := by omega
          exact ⟨by rw [h1, h3, List.take_length], h3⟩
        exact ⟨_, rfl, by have := hp.out.sl (i := 0) rfl (by omega); rw [hxl.1, hxl.2] at this; rw [hxl.2]; exact this, hp.out.bel⟩
end Go.Proofs.Ytdhboldmffiklaa.wal
