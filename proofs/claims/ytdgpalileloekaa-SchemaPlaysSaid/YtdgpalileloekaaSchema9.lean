/- Indexes out of bytes (Get). No condition. -/
import Derived.Test.YtdgpalileloekaaRegSeq
import Derived.Test.YtdgpalileloekaaSchemaD
import Derived.Deep.CutBlock
import Derived.Deep.RegionHeld
import Derived.Deep.DeepCutAuto
namespace Go.Proofs.Ytdgpalileloekaa.schema
open Go.RowKit
open code (numE rdC endE failE)
attribute [local go_sem ↓] Go.wp_at_zero Go.wp_at_succ
attribute [local go_sem] str_size str_bl
set_option linter.unusedVariables false
set_option maxRecDepth 100000

theorem yielded_undef (ops : Array Oper) (tmps : Array Value) (j : Nat) (h : ((ops[j]?).bind (·.dst)).bind (tmps[·]?) = some undef) : yielded ops tmps j = none := by
  unfold yielded; rw [h]; rfl
theorem wanted_undef {o : Oper} {ops : Array Oper} {tmps : Array Value} {j : Nat} {b : Bool} (hg : o.guard = some (j, b)) (h : ((ops[j]?).bind (·.dst)).bind (tmps[·]?) = some undef) : Region.wanted o (yielded ops tmps) = false := by
  unfold Region.wanted; rw [hg]; simp [yielded_undef ops tmps j h]
attribute [local go_sem ↓] yielded_undef
theorem lastCell {W : World} {acc : List Ix} {m : Nat} {y : Ix} {gy cp n : Nat} (hlast : acc[m]? = some y) (h : W.ownsRow 0 73 3 (.slice (some ⟨gy, 0, none⟩) n cp) n (ixCells acc)) (j : Nat) {v : Value} (hj : (ixC y)[j]? = some v) : W.cell? ⟨gy, m * 3 + j, none⟩ = some v := by
  have hj3 : j < 3 := by have := (List.getElem?_eq_some_iff.1 hj).1; rwa [ixC_len] at this
  have hf := flat_at ixC 3 ixC_len acc m y hlast j hj3
  have hlt := (List.getElem?_eq_some_iff.1 (hf.trans hj)).1
  rw [h.cellAt (m * 3 + j) (by have := h.1; simp only [ixCells] at this; omega)]
  exact hf.trans hj
set_option maxHeartbeats 40000000 in
theorem get_any (s : ByteArray) (w : World) : Calls Try.prog 40 #[.string s] w (GetRet w (getL s.data.toList)) := by
  obtain ⟨l0, rfl⟩ : ∃ l, s = str l := ⟨s.data.toList, (str_of _).symm⟩
  rw [str_toList]
  have hrd := fun W => code.read_any (str l0) W
  rw [str_toList] at hrd
  obtain ⟨m, hm⟩ : ∃ m, m = numE 32 l0 0 := ⟨_, rfl⟩
  have hnum : ∀ W g, code.RdAt W g l0 0 → Calls Try.prog 48 #[.pointer (some ⟨g, 0, none⟩), .int .u64 32] W fun e w' => e = .returned (.int .u64 (m.1 : Int)) ∧ code.RdAt w' g m.2.1 m.2.2 ∧ Keeps [g] W w' := fun W g h => by rw [hm]; exact code.num_step 32 (by decide) h
  have hm32 : m.1 ≤ 32 := by rw [hm]; exact code.numE_le _ _ _
  have hm0 : m.2.2 ≠ 0 → m.1 = 0 := by rw [hm]; exact code.numE_none _ _ _
  obtain ⟨R, hR⟩ : ∃ R, R = (if m.2.2 ≠ 0 then ([], m.2.1, m.2.2) else getLoop m.1 [] m.2.1) := ⟨_, rfl⟩
  obtain ⟨G, hG⟩ : ∃ G, G = getL l0 := ⟨_, rfl⟩
  have hG0 : getL l0 = if endE R.2.1 R.2.2 ≠ 0 then ([], endE R.2.1 R.2.2) else (R.1, 0) := by unfold getL; simp only; rw [← hm, ← hR]
  have hG1 : endE R.2.1 R.2.2 ≠ 0 → G = ([], endE R.2.1 R.2.2) := fun h => by rw [hG, hG0, if_pos h]
  have hG2 : endE R.2.1 R.2.2 = 0 → G = (R.1, 0) := fun h => by rw [hG, hG0, if_neg (by simp [h])]
  rw [← hG]
  clear hG hG0
  obtain ⟨n, ml, me⟩ := m
  simp only at hnum hm32 hm0 hR
  clear hm
  replace hG1 := Lib.hid hG1; replace hG2 := Lib.hid hG2
  replace hrd := Lib.hid hrd; replace hnum := Lib.hid hnum; replace hm0 := Lib.hid hm0; replace hR := Lib.hid hR
  have hy := fun x W => may_any x W
  have ho := fun x y W => order_any x y W
  replace hy := Lib.hid hy; replace ho := Lib.hid ho
  go_enter Try.func40, Try.ntmps40
  go_upto_block 0 with (first
    | (go_at_call 46; (with_reducible refine (hrd.out _).mono ?_); rintro e w1 ⟨rfl, r1, b1⟩; have hp := Lib.hid (((Hp.none_ w []).made r1 (Nat.le_refl _) b1).rowNil 73 3); have hr := Lib.hid r1; clear r1 b1)
    | (go_at_call 48; (with_reducible refine (hnum.out _ _ hr.out).mono ?_); rintro e w2 ⟨rfl, r1, k1⟩; replace hp := Lib.hid (hp.out.call (i := 1) rfl r1 k1); clear hr r1 k1))
  go_cut [5] from 6 to 52 (fun s5 wx => ∃ (acc : List Ix) (l : List UInt8) (e : Int) (ad : Option Addr) (cp : Nat), s5 = .slice ad acc.length cp ∧ Hp w [] [.row 73 3 (.slice ad acc.length cp) acc.length (ixCells acc), .box w.heap.size (rdC l e) 120] wx ∧ R = (acc, l, e))
  case first =>
    go_wp2_with (first
      | (go_at_call 46; (with_reducible refine (hrd.out _).mono ?_); rintro e w1 ⟨rfl, r1, b1⟩; have hp := Lib.hid (((Hp.none_ w []).made r1 (Nat.le_refl _) b1).rowNil 73 3); have hr := Lib.hid r1; clear r1 b1)
      | (go_at_call 48; (with_reducible refine (hnum.out _ _ hr.out).mono ?_); rintro e w2 ⟨rfl, r1, k1⟩; replace hp := Lib.hid (hp.out.call (i := 1) rfl r1 k1); clear hr r1 k1))
    go_loopw [5, 12] (fun s5 s12 wr => ∃ (k : Nat) (acc : List Ix) (l : List UInt8) (e : Int) (ad : Option Addr) (cp : Nat), s12 = .int .u64 (k : Int) ∧ k ≤ n ∧ s5 = .slice ad acc.length cp ∧ acc.length ≤ k ∧ Hp w [] [.row 73 3 (.slice ad acc.length cp) acc.length (ixCells acc), .box w.heap.size (rdC l e) 120] wr ∧ (k < n → e = 0) ∧ R = (if e = 0 then getLoop (n - k) acc l else (acc, l, e))) (fun _ s12 _ => n - (intOf s12).toNat)
    case atStart => exact ⟨0, [], ml, me, none, 0, rfl, by omega, rfl, by simp, hp.out, fun h => by by_cases h0 : me = 0; exact h0; have := hm0.out h0; omega, by rw [hR.out]; by_cases h0 : me = 0 <;> simp [h0]⟩
    case round =>
      clear hp
      obtain ⟨k, acc, l, e, ad, cp, rfl, hk, rfl, hal, hp, hz, hRR⟩ := hrel
      by_cases hlt : k < n
      · skip
        have hz0 := hz hlt
        subst hz0
        rw [if_pos rfl] at hRR
        obtain ⟨j, hj⟩ : ∃ j, n - k = j + 1 := ⟨n - k - 1, by omega⟩
        have hj2 : n - (k + 1) = j := by omega
        rw [hj, getLoop] at hRR
        unfold ixE at hRR
        obtain ⟨A1, hA1⟩ : ∃ x, x = numE 64 l 0 := ⟨_, rfl⟩
        have k1 : ∀ W, W.heap[w.heap.size]? = some (.cells (rdC l 0) 120 (0, 0)) → Calls Try.prog 48 #[.pointer (some ⟨w.heap.size, 0, none⟩), .int .u64 64] W fun e w' => e = .returned (.int .u64 (A1.1 : Int)) ∧ w'.heap[w.heap.size]? = some (.cells (rdC A1.2.1 A1.2.2) 120 (0, 0)) ∧ Keeps [w.heap.size] W w' := fun W h => by rw [hA1]; exact code.num_step 64 (by decide) h
        have b1' : A1.1 ≤ 64 := by rw [hA1]; exact code.numE_le _ _ _
        simp only [← hA1] at hRR
        obtain ⟨a1, al, ae⟩ := A1
        simp only at k1 b1' hRR
        obtain ⟨A2, hA2⟩ : ∃ x, x = numE 64 al ae := ⟨_, rfl⟩
        have k2 : ∀ W, W.heap[w.heap.size]? = some (.cells (rdC al ae) 120 (0, 0)) → Calls Try.prog 48 #[.pointer (some ⟨w.heap.size, 0, none⟩), .int .u64 64] W fun e w' => e = .returned (.int .u64 (A2.1 : Int)) ∧ w'.heap[w.heap.size]? = some (.cells (rdC A2.2.1 A2.2.2) 120 (0, 0)) ∧ Keeps [w.heap.size] W w' := fun W h => by rw [hA2]; exact code.num_step 64 (by decide) h
        have b2' : A2.1 ≤ 64 := by rw [hA2]; exact code.numE_le _ _ _
        simp only [← hA2] at hRR
        obtain ⟨b1, bl, be⟩ := A2
        simp only at k2 b2' hRR
        obtain ⟨A3, hA3⟩ : ∃ x, x = numE 2 bl be := ⟨_, rfl⟩
        have k3 : ∀ W, W.heap[w.heap.size]? = some (.cells (rdC bl be) 120 (0, 0)) → Calls Try.prog 48 #[.pointer (some ⟨w.heap.size, 0, none⟩), .int .u64 2] W fun e w' => e = .returned (.int .u64 (A3.1 : Int)) ∧ w'.heap[w.heap.size]? = some (.cells (rdC A3.2.1 A3.2.2) 120 (0, 0)) ∧ Keeps [w.heap.size] W w' := fun W h => by rw [hA3]; exact code.num_step 2 (by decide) h
        have b3' : A3.1 ≤ 2 := by rw [hA3]; exact code.numE_le _ _ _
        simp only [← hA3] at hRR
        obtain ⟨c1, cl, ce⟩ := A3
        simp only at k3 b3' hRR
        have k4 : ∀ W, W.heap[w.heap.size]? = some (.cells (rdC cl ce) 120 (0, 0)) → Calls Try.prog 51 #[.pointer (some ⟨w.heap.size, 0, none⟩)] W fun e w' => e = .returned (.int .i64 ce) ∧ w'.heap[w.heap.size]? = some (.cells (rdC cl ce) 120 (0, 0)) ∧ Keeps [w.heap.size] W w' := fun W h => code.err_step h
        have x1 : IntKind.i64.wrap (a1 : Int) = (a1 : Int) := IntWalk.i64_in _ (by omega)
        have x2 : IntKind.i64.wrap (b1 : Int) = (b1 : Int) := IntWalk.i64_in _ (by omega)
        have x3 : IntKind.i64.wrap (c1 : Int) = (c1 : Int) := IntWalk.i64_in _ (by omega)
        have hk2 : (k : Int) < (n : Int) := by omega
        replace hp := Lib.hid hp; replace hRR := Lib.hid hRR; replace k1 := Lib.hid k1; replace k2 := Lib.hid k2; replace k3 := Lib.hid k3; replace k4 := Lib.hid k4
        clear hA1 hA2 hA3 hz b1' b2' b3'
        go_upto_region 6 with (first
          | (go_at_call 48; (with_reducible refine (k1.out _ (hp.out.box (i := 1) rfl)).mono ?_); rintro e w1 ⟨rfl, r1, q1⟩; replace hp := Lib.hid (hp.out.call (i := 1) rfl r1 q1); clear r1 q1; clear k1)
          | (go_at_call 48; (with_reducible refine (k2.out _ (hp.out.box (i := 1) rfl)).mono ?_); rintro e w2 ⟨rfl, r1, q1⟩; replace hp := Lib.hid (hp.out.call (i := 1) rfl r1 q1); clear r1 q1; clear k2)
          | (go_at_call 48; (with_reducible refine (k3.out _ (hp.out.box (i := 1) rfl)).mono ?_); rintro e w3 ⟨rfl, r1, q1⟩; replace hp := Lib.hid ((hp.out.call (i := 1) rfl r1 q1).alloc #[.int .i64 (a1 : Int), .int .i64 (b1 : Int), .int .i64 (c1 : Int)] 73); clear r1 q1; clear k3))
        generalize w3.alloc _ = W at hp ⊢
        generalize w3.heap.size = q at hp ⊢
        change Hid (Hp w [] [.box q #[.int .i64 (a1 : Int), .int .i64 (b1 : Int), .int .i64 (c1 : Int)] 73, .row 73 3 (.slice ad acc.length cp) acc.length (ixCells acc), .box w.heap.size (rdC cl ce) 120] W) at hp
        have karm : ∀ W, W.heap[w.heap.size]? = some (.cells (rdC cl ce) 120 (0, 0)) → Calls Try.prog 51 #[.pointer (some ⟨w.heap.size, 0, none⟩)] W fun e w' => e = .returned (.int .i64 ce) ∧ w'.heap[w.heap.size]? = some (.cells (rdC cl ce) 120 (0, 0)) ∧ Keeps [w.heap.size] W w' := k4.out
        replace karm := Lib.hid karm
        clear k4
        by_cases hce : ce = 0
        · subst hce
          have hRR1 := hRR.out
          rw [if_neg (by simp)] at hRR1
          replace hRR1 := Lib.hid hRR1
          clear hRR
          go_upto_region 7 with (go_at_call 51; (with_reducible refine (karm.out _ (hp.out.box (i := 2) rfl)).mono ?_); rintro e w4 ⟨rfl, r1, q1⟩; replace hp := Lib.hid (hp.out.call (i := 2) rfl r1 q1); clear r1 q1)
          have d0 := hp.out.cell (i := 0) rfl 0; have d1 := hp.out.cell (i := 0) rfl 1; have d2 := hp.out.cell (i := 0) rfl 2
          simp at d0 d1 d2
          have hfl : ∀ W, W.heap[w.heap.size]? = some (.cells (rdC cl 0) 120 (0, 0)) → Calls Try.prog 50 #[.pointer (some ⟨w.heap.size, 0, none⟩), .int .i64 3] W fun e w' => e = .returned (.tuple #[]) ∧ w'.heap[w.heap.size]? = some (.cells (rdC [] 3) 120 (0, 0)) ∧ Keeps [w.heap.size] W w' := fun W h => code.fail_step 3 (by decide) h
          have hy1 : ∀ W, Calls Try.prog 37 #[.agg #[.int .i64 (a1 : Int), .int .i64 (b1 : Int), .int .i64 (c1 : Int)]] W fun e w' => e = .returned (.bool (mayB ⟨a1, b1, c1⟩)) ∧ Below W.heap.size W w' := fun W => hy.out ⟨a1, b1, c1⟩ W
          replace hfl := Lib.hid hfl
          clear hk2
          go_cut [45] from 27 to 45 (fun s45 wx => s45 = .bool (badB acc ⟨a1, b1, c1⟩) ∧ Hp w [] [.box q #[.int .i64 (a1 : Int), .int .i64 (b1 : Int), .int .i64 (c1 : Int)] 73, .row 73 3 (.slice ad acc.length cp) acc.length (ixCells acc), .box w.heap.size (rdC cl 0) 120] wx)
          case first =>
            cases hmb : mayB ⟨a1, b1, c1⟩ with
            | false =>
              have hbb : badB acc ⟨a1, b1, c1⟩ = true := by unfold badB; rw [hmb]; rfl
              rw [hmb] at hy1
              replace hy1 := Lib.hid hy1
              have ho1 := hy1
              clear hmb hRR1
              refine wp_region_noPanic ?_; refine wp_region_held_drew (S := (fun W' => Hp w [] [.box q #[.int .i64 (a1 : Int), .int .i64 (b1 : Int), .int .i64 (c1 : Int)] 73, .row 73 3 (.slice ad acc.length cp) acc.length (ixCells acc), .box w.heap.size (rdC cl 0) 120] W' ∧ W'.cell? ⟨q, 0, none⟩ = some (.int .i64 (a1 : Int)) ∧ W'.cell? ⟨q, 1, none⟩ = some (.int .i64 (b1 : Int)) ∧ W'.cell? ⟨q, 2, none⟩ = some (.int .i64 (c1 : Int)))) (by kernel_rfl) ?_ (fun hHeld => ?_); (focus ((try dsimp only); (first | exact ⟨hp.out.drew, d0, d1, d2⟩ | (go_split_ands; have hq := Hp.below (by assumption) hb; exact ⟨hq, hq.cell (i := 0) rfl 0, hq.cell (i := 0) rfl 1, hq.cell (i := 0) rfl 2⟩)); done)); (refine take_t (i := 0) (d := 27) (oi := _) (v := ?_) rfl rfl (by kernel_rfl) (by kernel_rfl) (by kernel_rfl) (by rfl) ?_ (by assumption) ?_; rotate_left; (focus (intro w0 hSw; (try dsimp only at hSw); go_simp; (try with_reducible rfl); done)); try simp only [Act.put, List.setIfInBounds_toArray, List.set_cons_zero, List.set_cons_succ]); (refine wpAnyH_ready (rs := [1]) (by kernel_rfl) (by simp) ?_; refine AllReadyH.cons (o := _) rfl (fun K' hK => ?_) AllReadyH.nil; go_simp; (go_at_call 37; (with_reducible refine (hy1.out _).mono ?_); rintro e' w1 ⟨rfl, hb⟩); (try dsimp only); refine hK.out _ _ ?_ (fun hHeld2 => ?_); (focus ((try dsimp only); (first | exact ⟨hp.out.drew, d0, d1, d2⟩ | (go_split_ands; have hq := Hp.below (by assumption) hb; exact ⟨hq, hq.cell (i := 0) rfl 0, hq.cell (i := 0) rfl 1, hq.cell (i := 0) rfl 2⟩)); done)); clear hK K'; clear hHeld; have hHeld := hHeld2; clear hHeld2; try simp only [Act.put, List.setIfInBounds_toArray, List.set_cons_zero, List.set_cons_succ]); (refine take_t (i := 2) (d := 29) (oi := _) (v := ?_) rfl rfl (by kernel_rfl) (by kernel_rfl) (by kernel_rfl) (by rfl) ?_ (by assumption) ?_; rotate_left; (focus (intro w0 hSw; (try dsimp only at hSw); go_simp; (try with_reducible rfl); done)); try simp only [Act.put, List.setIfInBounds_toArray, List.set_cons_zero, List.set_cons_succ]); (refine take_t (i := 3) (d := 30) (oi := _) (v := ?_) rfl rfl (by kernel_rfl) (by kernel_rfl) (by kernel_rfl) (by rfl) ?_ (by assumption) ?_; rotate_left; (focus (intro w0 hSw; (try dsimp only at hSw); go_simp; (try with_reducible rfl); done)); try simp only [Act.put, List.setIfInBounds_toArray, List.set_cons_zero, List.set_cons_succ]); (refine take_u (i := 4) (d := 31) (oi := _) rfl rfl (by kernel_rfl) (by kernel_rfl) (by kernel_rfl) (by rfl) (by assumption) ?_; try simp only [Act.put, List.setIfInBounds_toArray, List.set_cons_zero, List.set_cons_succ]); (refine take_u (i := 5) (d := 32) (oi := _) rfl rfl (by kernel_rfl) (by kernel_rfl) (by kernel_rfl) (by rfl) (by assumption) ?_; try simp only [Act.put, List.setIfInBounds_toArray, List.set_cons_zero, List.set_cons_succ]); (refine take_u (i := 6) (d := 33) (oi := _) rfl rfl (by kernel_rfl) (by kernel_rfl) (by kernel_rfl) (by rfl) (by assumption) ?_; try simp only [Act.put, List.setIfInBounds_toArray, List.set_cons_zero, List.set_cons_succ]); (refine take_u (i := 7) (d := 34) (oi := _) rfl rfl (by kernel_rfl) (by kernel_rfl) (by kernel_rfl) (by rfl) (by assumption) ?_; try simp only [Act.put, List.setIfInBounds_toArray, List.set_cons_zero, List.set_cons_succ]); (refine take_u (i := 8) (d := 35) (oi := _) rfl rfl (by kernel_rfl) (by kernel_rfl) (by kernel_rfl) (by rfl) (by assumption) ?_; try simp only [Act.put, List.setIfInBounds_toArray, List.set_cons_zero, List.set_cons_succ]); (refine take_u (i := 9) (d := 36) (oi := _) rfl rfl (by kernel_rfl) (by kernel_rfl) (by kernel_rfl) (by rfl) (by assumption) ?_; try simp only [Act.put, List.setIfInBounds_toArray, List.set_cons_zero, List.set_cons_succ]); (refine take_u (i := 10) (d := 37) (oi := _) rfl rfl (by kernel_rfl) (by kernel_rfl) (by kernel_rfl) (by rfl) (by assumption) ?_; try simp only [Act.put, List.setIfInBounds_toArray, List.set_cons_zero, List.set_cons_succ]); (refine take_u (i := 11) (d := 38) (oi := _) rfl rfl (by kernel_rfl) (by kernel_rfl) (by kernel_rfl) (by rfl) (by assumption) ?_; try simp only [Act.put, List.setIfInBounds_toArray, List.set_cons_zero, List.set_cons_succ]); (refine take_u (i := 12) (d := 39) (oi := _) rfl rfl (by kernel_rfl) (by kernel_rfl) (by kernel_rfl) (by rfl) (by assumption) ?_; try simp only [Act.put, List.setIfInBounds_toArray, List.set_cons_zero, List.set_cons_succ]); (refine take_u (i := 13) (d := 40) (oi := _) rfl rfl (by kernel_rfl) (by kernel_rfl) (by kernel_rfl) (by rfl) (by assumption) ?_; try simp only [Act.put, List.setIfInBounds_toArray, List.set_cons_zero, List.set_cons_succ]); (refine take_u (i := 14) (d := 41) (oi := _) rfl rfl (by kernel_rfl) (by kernel_rfl) (by kernel_rfl) (by rfl) (by assumption) ?_; try simp only [Act.put, List.setIfInBounds_toArray, List.set_cons_zero, List.set_cons_succ]); (refine take_u (i := 15) (d := 42) (oi := _) rfl rfl (by kernel_rfl) (by kernel_rfl) (by kernel_rfl) (by rfl) (by assumption) ?_; try simp only [Act.put, List.setIfInBounds_toArray, List.set_cons_zero, List.set_cons_succ]); (refine take_u (i := 16) (d := 43) (oi := _) rfl rfl (by kernel_rfl) (by kernel_rfl) (by kernel_rfl) (by rfl) (by assumption) ?_; try simp only [Act.put, List.setIfInBounds_toArray, List.set_cons_zero, List.set_cons_succ]); (refine take_u (i := 17) (d := 44) (oi := _) rfl rfl (by kernel_rfl) (by kernel_rfl) (by kernel_rfl) (by rfl) (by assumption) ?_; try simp only [Act.put, List.setIfInBounds_toArray, List.set_cons_zero, List.set_cons_succ]); (refine take_t (i := 18) (d := 45) (oi := _) (v := ?_) rfl rfl (by kernel_rfl) (by kernel_rfl) (by kernel_rfl) (by rfl) ?_ (by assumption) ?_; rotate_left; (focus (intro w0 hSw; (try dsimp only at hSw); go_simp; (try with_reducible rfl); done)); try simp only [Act.put, List.setIfInBounds_toArray, List.set_cons_zero, List.set_cons_succ]); refine wpAnyH_done (by kernel_rfl) ?_ _; refine NoPanic.normal ?_
              go_split_ands
              replace hp := Lib.hid (show Hp w [] [.box q #[.int .i64 (a1 : Int), .int .i64 (b1 : Int), .int .i64 (c1 : Int)] 73, .row 73 3 (.slice ad acc.length cp) acc.length (ixCells acc), .box w.heap.size (rdC cl 0) 120] _ by assumption)
              go_wp2_with fail
              go_meet
              exact ⟨by first | (rw [hbb]; done) | (rw [hbb]; rfl) | (rw [hbb]; simp [hge]; done) | (rw [hbb]; simp; omega) | simp [hbb], hp.out⟩
            | true =>
              rw [hmb] at hy1
              replace hy1 := Lib.hid hy1
              rcases List.eq_nil_or_concat acc with hnil | ⟨A, y, hcat⟩
              · subst hnil
                have hbb : badB ([] : List Ix) ⟨a1, b1, c1⟩ = false := by simp [badB, hmb]
                have ho1 := hy1
                clear hmb hRR1
                refine wp_region_noPanic ?_; refine wp_region_held_drew (S := (fun W' => Hp w [] [.box q #[.int .i64 (a1 : Int), .int .i64 (b1 : Int), .int .i64 (c1 : Int)] 73, .row 73 3 (.slice ad ([] : List Ix).length cp) ([] : List Ix).length (ixCells ([] : List Ix)), .box w.heap.size (rdC cl 0) 120] W' ∧ W'.cell? ⟨q, 0, none⟩ = some (.int .i64 (a1 : Int)) ∧ W'.cell? ⟨q, 1, none⟩ = some (.int .i64 (b1 : Int)) ∧ W'.cell? ⟨q, 2, none⟩ = some (.int .i64 (c1 : Int)))) (by kernel_rfl) ?_ (fun hHeld => ?_); (focus ((try dsimp only); (first | exact ⟨hp.out.drew, d0, d1, d2⟩ | (go_split_ands; have hq := Hp.below (by assumption) hb; exact ⟨hq, hq.cell (i := 0) rfl 0, hq.cell (i := 0) rfl 1, hq.cell (i := 0) rfl 2⟩)); done)); (refine take_t (i := 0) (d := 27) (oi := _) (v := ?_) rfl rfl (by kernel_rfl) (by kernel_rfl) (by kernel_rfl) (by rfl) ?_ (by assumption) ?_; rotate_left; (focus (intro w0 hSw; (try dsimp only at hSw); go_simp; (try with_reducible rfl); done)); try simp only [Act.put, List.setIfInBounds_toArray, List.set_cons_zero, List.set_cons_succ]); (refine wpAnyH_ready (rs := [1]) (by kernel_rfl) (by simp) ?_; refine AllReadyH.cons (o := _) rfl (fun K' hK => ?_) AllReadyH.nil; go_simp; (go_at_call 37; (with_reducible refine (hy1.out _).mono ?_); rintro e' w1 ⟨rfl, hb⟩); (try dsimp only); refine hK.out _ _ ?_ (fun hHeld2 => ?_); (focus ((try dsimp only); (first | exact ⟨hp.out.drew, d0, d1, d2⟩ | (go_split_ands; have hq := Hp.below (by assumption) hb; exact ⟨hq, hq.cell (i := 0) rfl 0, hq.cell (i := 0) rfl 1, hq.cell (i := 0) rfl 2⟩)); done)); clear hK K'; clear hHeld; have hHeld := hHeld2; clear hHeld2; try simp only [Act.put, List.setIfInBounds_toArray, List.set_cons_zero, List.set_cons_succ]); (refine take_t (i := 2) (d := 29) (oi := _) (v := ?_) rfl rfl (by kernel_rfl) (by kernel_rfl) (by kernel_rfl) (by rfl) ?_ (by assumption) ?_; rotate_left; (focus (intro w0 hSw; (try dsimp only at hSw); go_simp; (try with_reducible rfl); done)); try simp only [Act.put, List.setIfInBounds_toArray, List.set_cons_zero, List.set_cons_succ]); (refine take_t (i := 3) (d := 30) (oi := _) (v := ?_) rfl rfl (by kernel_rfl) (by kernel_rfl) (by kernel_rfl) (by rfl) ?_ (by assumption) ?_; rotate_left; (focus (intro w0 hSw; (try dsimp only at hSw); go_simp; (try with_reducible rfl); done)); try simp only [Act.put, List.setIfInBounds_toArray, List.set_cons_zero, List.set_cons_succ]); (refine take_t (i := 4) (d := 31) (oi := _) (v := ?_) rfl rfl (by kernel_rfl) (by kernel_rfl) (by kernel_rfl) (by rfl) ?_ (by assumption) ?_; rotate_left; (focus (intro w0 hSw; (try dsimp only at hSw); go_simp; (try with_reducible rfl); done)); try simp only [Act.put, List.setIfInBounds_toArray, List.set_cons_zero, List.set_cons_succ]); (refine take_t (i := 5) (d := 32) (oi := _) (v := ?_) rfl rfl (by kernel_rfl) (by kernel_rfl) (by kernel_rfl) (by rfl) ?_ (by assumption) ?_; rotate_left; (focus (intro w0 hSw; (try dsimp only at hSw); go_simp; (try with_reducible rfl); done)); try simp only [Act.put, List.setIfInBounds_toArray, List.set_cons_zero, List.set_cons_succ]); (refine take_t (i := 6) (d := 33) (oi := _) (v := ?_) rfl rfl (by kernel_rfl) (by kernel_rfl) (by kernel_rfl) (by rfl) ?_ (by assumption) ?_; rotate_left; (focus (intro w0 hSw; (try dsimp only at hSw); go_simp; (try with_reducible rfl); done)); try simp only [Act.put, List.setIfInBounds_toArray, List.set_cons_zero, List.set_cons_succ]); (refine take_t (i := 7) (d := 34) (oi := _) (v := ?_) rfl rfl (by kernel_rfl) (by kernel_rfl) (by kernel_rfl) (by rfl) ?_ (by assumption) ?_; rotate_left; (focus (intro w0 hSw; (try dsimp only at hSw); go_simp; (try with_reducible rfl); done)); try simp only [Act.put, List.setIfInBounds_toArray, List.set_cons_zero, List.set_cons_succ]); (refine take_u (i := 8) (d := 35) (oi := _) rfl rfl (by kernel_rfl) (by kernel_rfl) (by kernel_rfl) (by rfl) (by assumption) ?_; try simp only [Act.put, List.setIfInBounds_toArray, List.set_cons_zero, List.set_cons_succ]); (refine take_u (i := 9) (d := 36) (oi := _) rfl rfl (by kernel_rfl) (by kernel_rfl) (by kernel_rfl) (by rfl) (by assumption) ?_; try simp only [Act.put, List.setIfInBounds_toArray, List.set_cons_zero, List.set_cons_succ]); (refine take_u (i := 10) (d := 37) (oi := _) rfl rfl (by kernel_rfl) (by kernel_rfl) (by kernel_rfl) (by rfl) (by assumption) ?_; try simp only [Act.put, List.setIfInBounds_toArray, List.set_cons_zero, List.set_cons_succ]); (refine take_u (i := 11) (d := 38) (oi := _) rfl rfl (by kernel_rfl) (by kernel_rfl) (by kernel_rfl) (by rfl) (by assumption) ?_; try simp only [Act.put, List.setIfInBounds_toArray, List.set_cons_zero, List.set_cons_succ]); (refine take_u (i := 12) (d := 39) (oi := _) rfl rfl (by kernel_rfl) (by kernel_rfl) (by kernel_rfl) (by rfl) (by assumption) ?_; try simp only [Act.put, List.setIfInBounds_toArray, List.set_cons_zero, List.set_cons_succ]); (refine take_u (i := 13) (d := 40) (oi := _) rfl rfl (by kernel_rfl) (by kernel_rfl) (by kernel_rfl) (by rfl) (by assumption) ?_; try simp only [Act.put, List.setIfInBounds_toArray, List.set_cons_zero, List.set_cons_succ]); (refine take_u (i := 14) (d := 41) (oi := _) rfl rfl (by kernel_rfl) (by kernel_rfl) (by kernel_rfl) (by rfl) (by assumption) ?_; try simp only [Act.put, List.setIfInBounds_toArray, List.set_cons_zero, List.set_cons_succ]); (refine take_u (i := 15) (d := 42) (oi := _) rfl rfl (by kernel_rfl) (by kernel_rfl) (by kernel_rfl) (by rfl) (by assumption) ?_; try simp only [Act.put, List.setIfInBounds_toArray, List.set_cons_zero, List.set_cons_succ]); (refine take_u (i := 16) (d := 43) (oi := _) rfl rfl (by kernel_rfl) (by kernel_rfl) (by kernel_rfl) (by rfl) (by assumption) ?_; try simp only [Act.put, List.setIfInBounds_toArray, List.set_cons_zero, List.set_cons_succ]); (refine take_t (i := 17) (d := 44) (oi := _) (v := ?_) rfl rfl (by kernel_rfl) (by kernel_rfl) (by kernel_rfl) (by rfl) ?_ (by assumption) ?_; rotate_left; (focus (intro w0 hSw; (try dsimp only at hSw); go_simp; (try with_reducible rfl); done)); try simp only [Act.put, List.setIfInBounds_toArray, List.set_cons_zero, List.set_cons_succ]); (refine take_t (i := 18) (d := 45) (oi := _) (v := ?_) rfl rfl (by kernel_rfl) (by kernel_rfl) (by kernel_rfl) (by rfl) ?_ (by assumption) ?_; rotate_left; (focus (intro w0 hSw; (try dsimp only at hSw); go_simp; (try with_reducible rfl); done)); try simp only [Act.put, List.setIfInBounds_toArray, List.set_cons_zero, List.set_cons_succ]); refine wpAnyH_done (by kernel_rfl) ?_ _; refine NoPanic.normal ?_
                go_split_ands
                replace hp := Lib.hid (show Hp w [] [.box q #[.int .i64 (a1 : Int), .int .i64 (b1 : Int), .int .i64 (c1 : Int)] 73, .row 73 3 (.slice ad ([] : List Ix).length cp) ([] : List Ix).length (ixCells ([] : List Ix)), .box w.heap.size (rdC cl 0) 120] _ by assumption)
                go_wp2_with fail
                go_meet
                exact ⟨by first | (rw [hbb]; done) | (rw [hbb]; rfl) | (rw [hbb]; simp [hge]; done) | (rw [hbb]; simp; omega) | simp [hbb], hp.out⟩
              · rw [List.concat_eq_append] at hcat
                obtain ⟨m, hm⟩ : ∃ m, m = A.length := ⟨_, rfl⟩
                have hl : acc.length = m + 1 := by rw [hcat, hm]; simp
                have hlast : acc[m]? = some y := by rw [hcat, hm]; simp
                have hgl : acc.getLast? = some y := by rw [hcat]; simp
                obtain ⟨gy, cp2, hv, _, _⟩ := (hp.out.row (i := 1) rfl).form (by omega)
                injection hv with hv1 hv2 hv3
                subst hv1 hv3
                replace hlast := Lib.hid hlast
                have y0 := lastCell hlast.out (hp.out.row (i := 1) rfl) 0 rfl
                have y1 := lastCell hlast.out (hp.out.row (i := 1) rfl) 1 rfl
                have y2 := lastCell hlast.out (hp.out.row (i := 1) rfl) 2 rfl
                have ho1 := fun W => ho.out y ⟨a1, b1, c1⟩ W
                have hbad : badB acc ⟨a1, b1, c1⟩ = decide (0 ≤ ordI y ⟨a1, b1, c1⟩) := by unfold badB; rw [hmb, hgl]; rfl
                obtain ⟨r, hr⟩ : ∃ r, r = ordI y ⟨a1, b1, c1⟩ := ⟨_, rfl⟩
                rw [← hr] at hbad ho1
                obtain ⟨yl, yk, yd⟩ := y
                replace ho1 : ∀ W, Calls Try.prog 71 #[.agg #[.int .i64 yl, .int .i64 yk, .int .i64 yd], .agg #[.int .i64 (a1 : Int), .int .i64 (b1 : Int), .int .i64 (c1 : Int)]] W fun e w' => e = .returned (.int .i64 r) ∧ Below W.heap.size W w' := ho1
                change _ = some (Value.int .i64 yl) at y0
                change _ = some (Value.int .i64 yk) at y1
                change _ = some (Value.int .i64 yd) at y2
                simp only [Nat.add_zero] at y0
                replace ho1 := Lib.hid ho1
                have hlen : (acc.length : Int) = (m : Int) + 1 := by omega
                have hl1 : (acc.length : Int) > 0 := by omega
                have hl2 : (acc.length : Int) - 1 = (m : Int) := by omega
                have hl3 : (m : Int) < (acc.length : Int) := by omega
                have hl4 : (0 : Int) ≤ (m : Int) := by omega
                clear hcat hm hmb hr hgl A
                replace hl := Lib.hid hl
                by_cases hge : r ≥ 0
                · have hbb : badB acc ⟨a1, b1, c1⟩ = true := by rw [hbad]; simpa using hge
                  clear hbad hRR1
                  have hn1 : m < acc.length := by omega
                  have hw2 : IntKind.i64.wrap (m : Int) = (m : Int) := IntWalk.i64_in _ (by have := hal; omega)
                  have hn2 : (0 : Int) ≤ (acc.length : Int) - 1 := by omega
                  have hw1 : IntKind.i64.wrap ((acc.length : Int) - 1) = (m : Int) := by rw [hl2]; exact IntWalk.i64_in _ (by omega)
                  go_region_held (fun W' => Hp w [] [.box q #[.int .i64 (a1 : Int), .int .i64 (b1 : Int), .int .i64 (c1 : Int)] 73, .row 73 3 (.slice (some ⟨gy, 0, none⟩) acc.length cp) acc.length (ixCells acc), .box w.heap.size (rdC cl 0) 120] W' ∧ W'.cell? ⟨q, 0, none⟩ = some (.int .i64 (a1 : Int)) ∧ W'.cell? ⟨q, 1, none⟩ = some (.int .i64 (b1 : Int)) ∧ W'.cell? ⟨q, 2, none⟩ = some (.int .i64 (c1 : Int)) ∧ W'.cell? ⟨gy, m * 3, none⟩ = some (.int .i64 yl) ∧ W'.cell? ⟨gy, m * 3 + 1, none⟩ = some (.int .i64 yk) ∧ W'.cell? ⟨gy, m * 3 + 2, none⟩ = some (.int .i64 yd)) ((first | (go_split_ands; exact ⟨by assumption, by assumption, by assumption, by assumption, by assumption, by assumption, by assumption⟩) | exact ⟨hp.out.drew, d0, d1, d2, y0, y1, y2⟩ | (go_split_ands; have hq := Hp.below (by assumption) hb; exact ⟨hq, hq.cell (i := 0) rfl 0, hq.cell (i := 0) rfl 1, hq.cell (i := 0) rfl 2, lastCell hlast.out (hq.row (i := 1) rfl) 0 rfl, lastCell hlast.out (hq.row (i := 1) rfl) 1 rfl, lastCell hlast.out (hq.row (i := 1) rfl) 2 rfl⟩))) (first | (go_at_call 37; (with_reducible refine (hy1.out _).mono ?_); rintro e' w1 ⟨rfl, hb⟩) | (go_at_call 71; (with_reducible refine (ho1.out _).mono ?_); rintro e' w1 ⟨rfl, hb⟩))
                  go_split_ands
                  replace hp := Lib.hid (show Hp w [] [.box q #[.int .i64 (a1 : Int), .int .i64 (b1 : Int), .int .i64 (c1 : Int)] 73, .row 73 3 (.slice (some ⟨gy, 0, none⟩) acc.length cp) acc.length (ixCells acc), .box w.heap.size (rdC cl 0) 120] _ by assumption)
                  go_wp2_with fail
                  go_meet
                  exact ⟨by first | (rw [hbb]; done) | (rw [hbb]; rfl) | (rw [hbb]; simp [hge]; done) | (rw [hbb]; simp; omega) | simp [hbb], hp.out⟩
                · have hbb : badB acc ⟨a1, b1, c1⟩ = false := by rw [hbad]; simpa using hge
                  clear hbad hRR1
                  have hn1 : m < acc.length := by omega
                  have hw2 : IntKind.i64.wrap (m : Int) = (m : Int) := IntWalk.i64_in _ (by have := hal; omega)
                  have hn2 : (0 : Int) ≤ (acc.length : Int) - 1 := by omega
                  have hw1 : IntKind.i64.wrap ((acc.length : Int) - 1) = (m : Int) := by rw [hl2]; exact IntWalk.i64_in _ (by omega)
                  go_region_held (fun W' => Hp w [] [.box q #[.int .i64 (a1 : Int), .int .i64 (b1 : Int), .int .i64 (c1 : Int)] 73, .row 73 3 (.slice (some ⟨gy, 0, none⟩) acc.length cp) acc.length (ixCells acc), .box w.heap.size (rdC cl 0) 120] W' ∧ W'.cell? ⟨q, 0, none⟩ = some (.int .i64 (a1 : Int)) ∧ W'.cell? ⟨q, 1, none⟩ = some (.int .i64 (b1 : Int)) ∧ W'.cell? ⟨q, 2, none⟩ = some (.int .i64 (c1 : Int)) ∧ W'.cell? ⟨gy, m * 3, none⟩ = some (.int .i64 yl) ∧ W'.cell? ⟨gy, m * 3 + 1, none⟩ = some (.int .i64 yk) ∧ W'.cell? ⟨gy, m * 3 + 2, none⟩ = some (.int .i64 yd)) ((first | (go_split_ands; exact ⟨by assumption, by assumption, by assumption, by assumption, by assumption, by assumption, by assumption⟩) | exact ⟨hp.out.drew, d0, d1, d2, y0, y1, y2⟩ | (go_split_ands; have hq := Hp.below (by assumption) hb; exact ⟨hq, hq.cell (i := 0) rfl 0, hq.cell (i := 0) rfl 1, hq.cell (i := 0) rfl 2, lastCell hlast.out (hq.row (i := 1) rfl) 0 rfl, lastCell hlast.out (hq.row (i := 1) rfl) 1 rfl, lastCell hlast.out (hq.row (i := 1) rfl) 2 rfl⟩))) (first | (go_at_call 37; (with_reducible refine (hy1.out _).mono ?_); rintro e' w1 ⟨rfl, hb⟩) | (go_at_call 71; (with_reducible refine (ho1.out _).mono ?_); rintro e' w1 ⟨rfl, hb⟩))
                  go_split_ands
                  replace hp := Lib.hid (show Hp w [] [.box q #[.int .i64 (a1 : Int), .int .i64 (b1 : Int), .int .i64 (c1 : Int)] 73, .row 73 3 (.slice (some ⟨gy, 0, none⟩) acc.length cp) acc.length (ixCells acc), .box w.heap.size (rdC cl 0) 120] _ by assumption)
                  go_wp2_with fail
                  go_meet
                  exact ⟨by first | (rw [hbb]; done) | (rw [hbb]; rfl) | (rw [hbb]; simp [hge]; done) | (rw [hbb]; simp; omega) | simp [hbb], hp.out⟩
          case rest =>
            obtain ⟨rfl, hp⟩ := hcut
            replace hp := Lib.hid hp
            clear d0 d1 d2 hy1
            cases hbad : badB acc ⟨a1, b1, c1⟩ with
            | true =>
              have hRR : Hid (R = (acc, [], 3)) := Lib.hid (by rw [hRR1.out, if_pos hbad])
              clear hbad hRR1
              go_wp2_with (go_at_call 50; (with_reducible refine (hfl.out _ (hp.out.box (i := 2) rfl)).mono ?_); rintro e' w4 ⟨rfl, r4, k4⟩; replace hp := Lib.hid ((hp.out.call (i := 2) rfl r4 k4).drop 0); clear r4 k4)
              go_meet
              exact ⟨acc, [], 3, ad, cp, rfl, hp.out, hRR.out⟩
            | false =>
              have hRR : Hid (R = getLoop (n - (k + 1)) (acc ++ [⟨a1, b1, c1⟩]) cl) := Lib.hid (by rw [hRR1.out, if_neg (by rw [hbad]; decide), hj2])
              clear hbad hRR1
              have d0 := hp.out.cell (i := 0) rfl 0; have d1 := hp.out.cell (i := 0) rfl 1; have d2 := hp.out.cell (i := 0) rfl 2
              simp at d0 d1 d2
              go_wp2_with (at_builtin; go_loud (refine wpList_append_hp rfl _ _ rfl Try.underlying71 slix.eInfo rfl (by decide) (by decide) (hp.out.alloc_ (.cells #[.int .i64 (a1 : Int), .int .i64 (b1 : Int), .int .i64 (c1 : Int)] 73)) 1 rfl rfl _ _ [.int .i64 (a1 : Int), .int .i64 (b1 : Int), .int .i64 (c1 : Int)] rfl rfl (block_cells (heap_alloc_new _ _)) (by intro u hu; simp at hu; rcases hu with rfl | rfl | rfl <;> rfl) (by omega) ?_; intro v5 w5 hp5 hv5; replace hp5 := Lib.hid hp5; obtain ⟨b5, cp5, rfl⟩ := hv5))
              go_roundw
              case rel => exact ⟨k + 1, acc ++ [⟨a1, b1, c1⟩], cl, 0, some ⟨b5, 0, none⟩, cp5, by go_num, by omega, by rw [List.length_append]; rfl, by rw [List.length_append]; simp; omega, by have := hp5.out.drop 0; rw [ixCells_snoc, List.length_append]; exact this, fun _ => rfl, by rw [hRR.out, if_pos rfl]⟩
              case measure => simp [intOf]; omega
        · have hRR2 : Hid (R = (acc, cl, ce)) := Lib.hid (by rw [hRR.out, if_pos hce])
          have hRR := hRR2
          have hcb : (ce == 0) = false := by simpa using hce
          replace hce := Lib.hid hce
          clear hRR2
          go_upto_region 11 with (first
            | (go_at_call 51; (with_reducible refine (karm.out _ (hp.out.box (i := 2) rfl)).mono ?_); rintro e w4 ⟨rfl, r1, q1⟩; replace hp := Lib.hid (hp.out.call (i := 2) rfl r1 q1); clear r1 q1))
          replace hp := Lib.hid (hp.out.drop 0)
          go_wp2_with fail
          go_meet
          exact ⟨acc, cl, ce, ad, cp, rfl, hp.out, hRR.out⟩
      · obtain rfl : n = k := by omega
        have hRR : Hid (R = (acc, l, e)) := Lib.hid (by
          rw [hRR, Nat.sub_self]
          by_cases h0 : e = 0
          · rw [if_pos h0, h0]; rfl
          · rw [if_neg h0])
        replace hp := Lib.hid hp
        clear hz
        go_wp2_with fail
        go_meet
        exact ⟨acc, l, e, ad, cp, rfl, hp.out, hRR.out⟩
  case rest =>
    obtain ⟨acc, l, e, ad, cp, rfl, hp, hRR⟩ := hcut
    replace hp := Lib.hid hp; replace hRR := Lib.hid hRR
    by_cases hE : endE l e = 0
    · have hg := hG2.out
      rw [hRR.out] at hg
      replace hg := Lib.hid (hg hE)
      have c9 : ∀ W, W.heap[w.heap.size]? = some (.cells (rdC l e) 120 (0, 0)) → Calls Try.prog 52 #[.pointer (some ⟨w.heap.size, 0, none⟩)] W fun e' w' => e' = .returned (.int .i64 0) ∧ Keeps [w.heap.size] W w' := fun W h => by have := code.end_step h; rwa [hE] at this
      replace c9 := Lib.hid c9
      clear hE hG1 hG2
      go_wp2_with (go_at_call 52; (with_reducible refine (c9.out _ (hp.out.box (i := 1) rfl)).mono ?_); rintro e' w3 ⟨rfl, k3⟩; replace hp := Lib.hid (hp.out.lose (i := 1) rfl k3); clear k3)
      go_ret2
      rw [hg.out]
      exact ⟨_, rfl, ⟨_, _, rfl⟩, hp.out⟩
    · have hg := hG1.out
      rw [hRR.out] at hg
      replace hg := Lib.hid (hg hE)
      obtain ⟨E, hEE⟩ : ∃ E, E = endE l e := ⟨_, rfl⟩
      have c9 : ∀ W, W.heap[w.heap.size]? = some (.cells (rdC l e) 120 (0, 0)) → Calls Try.prog 52 #[.pointer (some ⟨w.heap.size, 0, none⟩)] W fun e' w' => e' = .returned (.int .i64 E) ∧ Keeps [w.heap.size] W w' := fun W h => by have := code.end_step h; rwa [← hEE] at this
      have hE1 : (E == 0) = false := by rw [hEE]; simpa using hE
      rw [← hEE] at hg
      replace c9 := Lib.hid c9
      clear hE hG1 hG2 hEE
      go_wp2_with (go_at_call 52; (with_reducible refine (c9.out _ (hp.out.box (i := 1) rfl)).mono ?_); rintro e' w3 ⟨rfl, k3⟩; replace hp := Lib.hid ((hp.out.lose (i := 1) rfl k3).drop 0 |>.rowNil 73 3); clear k3)
      go_ret2
      rw [hg.out]
      exact ⟨_, rfl, ⟨_, _, rfl⟩, hp.out⟩
end Go.Proofs.Ytdgpalileloekaa.schema
