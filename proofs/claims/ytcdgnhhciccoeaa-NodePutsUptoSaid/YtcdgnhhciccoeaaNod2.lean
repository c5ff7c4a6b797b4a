/- A page's bytes (node.bytes), and how many (node.Size). No condition but that there are few entries and pages, none of them too long. -/
import Derived.Test.YtcdgnhhciccoeaaNod1
import Derived.Test.YtcdgnhhciccoeaaRegSeq
import Derived.Test.YtcdgnhhciccoeaaHpBu
import Derived.Deep.CutBlock
namespace Go.Proofs.Ytcdgnhhciccoeaa.nod
open Go.RowKit
open code (numL textL)
attribute [local go_sem ↓] Go.wp_at_zero Go.wp_at_succ
attribute [local go_sem] str_size str_append
set_option linter.unusedVariables false
set_option linter.unusedSimpArgs false
set_option maxRecDepth 100000

theorem text_any2 (s : ByteArray) (h : s.size ≤ 2000000) (w : World) : Calls Try.prog 36 #[.string s] w fun e w' => e = .returned (.string (str (txL s))) ∧ Below w.heap.size w w' := by
  have hz := bl_len s
  have := code.text_put s.data.toList (by omega) w
  rwa [txL_put] at this
theorem str_nil_app (l : List UInt8) (x : UInt8) : (⟨#[x]⟩ : ByteArray) ++ str l = str (x :: l) := by
  have : (⟨#[x]⟩ : ByteArray) = str [x] := rfl
  rw [this, str_append]; rfl
set_option maxHeartbeats 32000000 in
theorem bytes_any (ev kv : Value) (E : List En) (K : List Kd) (w : World) (he : Sl w ev E.length (enC E)) (hk : Sl w kv K.length (kdC K)) (hE : SmE E) (hK : SmK K) :
    Calls Try.prog 18 #[nodV ev kv] w fun e w' => e = .returned (.string (str (nodB E K))) ∧ Below w.heap.size w w' := by
  have hp0 := (Hp.none_ w []).alloc #[ev, kv] 25
  obtain ⟨S, hS⟩ : ∃ S, S = nodB E K := ⟨_, rfl⟩
  rw [← hS]
  obtain ⟨a, ac, rfl, _, h1⟩ := he
  obtain ⟨b, bc, rfl, _, h2⟩ := hk
  obtain ⟨ne, hne⟩ : ∃ n, n = E.length := ⟨_, rfl⟩
  obtain ⟨nk, hnk⟩ : ∃ n, n = K.length := ⟨_, rfl⟩
  have hE1 : ne ≤ 100 := by rw [hne]; exact hE.1
  have hK1 : nk ≤ 100 := by rw [hnk]; exact hK.1
  rw [← hne] at h1 hp0 ⊢
  rw [← hnk] at h2 hp0 ⊢
  have wnn : IntKind.u64.wrap ((ne : Int) + (nk : Int)) = (ne : Int) + (nk : Int) := IntWalk.u64_in _ (by omega)
  have wnn2 : wrap64 ((ne : Int) + (nk : Int)) = (ne : Int) + (nk : Int) := by unfold wrap64; omega
  have hnum : ∀ W, Calls Try.prog 35 #[.int .u64 ((ne : Int) + (nk : Int))] W fun e w' => e = .returned (.string (str (numL (ne + nk)))) ∧ Below W.heap.size W w' := fun W => by have := code.num_any (ne + nk) (by omega) W; rwa [show ((ne + nk : Nat) : Int) = (ne : Int) + (nk : Int) by omega] at this
  have hnl := code.numL_len64 (ne + nk) (by omega)
  obtain ⟨M, hM⟩ : ∃ M, M = markB K := ⟨_, rfl⟩
  have hmk : (⟨#[M]⟩ : ByteArray) ++ str (numL (ne + nk)) = str (M :: numL (ne + nk)) := str_nil_app _ _
  have hms : (⟨#[M]⟩ : ByteArray).size = 1 := rfl
  have hC0 : nodB E K = ((M :: numL (ne + nk)) ++ E.flatMap entB) ++ K.flatMap kidB := by unfold nodB; rw [hM, hne, hnk]
  have hM0 : nk = 0 → M = 76 := fun h => by rw [hM]; unfold markB; rw [if_pos (by omega)]
  have hM1 : 0 < nk → M = 73 := fun h => by rw [hM]; unfold markB; rw [if_neg (by omega)]
  replace hS := Lib.hid hS; replace h1 := Lib.hid h1; replace h2 := Lib.hid h2; replace hne := Lib.hid hne; replace hnk := Lib.hid hnk; replace hE := Lib.hid hE; replace hK := Lib.hid hK; replace hnum := Lib.hid hnum; replace hnl := Lib.hid hnl; replace hC0 := Lib.hid hC0; replace hp0 := Lib.hid hp0; replace hM0 := Lib.hid hM0; replace hM1 := Lib.hid hM1
  clear hM
  unfold nodV
  go_enter Try.func18, Try.ntmps18
  go_upto_region 1 with fail
  generalize w.alloc _ = W at hp0 ⊢
  generalize hq : w.heap.size = q at hp0 ⊢
  clear hq
  go_upto_region 2 with fail
  have hp := hp0.out.bnew
  have hbge := hp0.out.size
  clear hp0
  generalize W.alloc _ = W2 at hp ⊢
  generalize W.heap.size = bl at hp hbge ⊢
  have hcs : ∀ (C : List UInt8) (W' : World), Hp w [] [bu bl C, .box q #[.slice a ne ac, .slice b nk bc] 25] W' → W'.cell? ⟨q, 0, none⟩ = some (.slice a ne ac) ∧ W'.cell? ⟨q, 1, none⟩ = some (.slice b nk bc) := fun C W' h => ⟨(h.cell (i := 1) rfl 0).trans rfl, (h.cell (i := 1) rfl 1).trans rfl⟩
  replace hcs := Lib.hid hcs; replace hp := Lib.hid hp; replace hbge := Lib.hid hbge
  obtain ⟨c0, c1⟩ := hcs.out _ _ hp.out
  go_upto_if 12 with fail
  go_cut [4] from 9 to 12 (fun s4 wx => s4 = .string ⟨#[M]⟩ ∧ wx = W2)
  case first =>
    by_cases h0 : nk = 0
    · have e1 : ¬ (0 : Int) < (nk : Int) := by omega
      have hm := hM0.out h0
      clear h0
      subst hm
      go_wp2
      go_meet
      exact ⟨rfl, rfl⟩
    · have e1 : (0 : Int) < (nk : Int) := by omega
      have hm := hM1.out (by omega)
      clear h0
      subst hm
      go_wp2
      go_meet
      exact ⟨rfl, rfl⟩
  obtain ⟨rfl, hwx⟩ := hcut
  subst hwx
  have hr1 : ¬ 9223372036854775807 < 1 + (numL (ne + nk)).length := by have := hnl.out; omega
  have hr2 : (([] : List UInt8).length) + (M :: numL (ne + nk)).length ≤ 140737488355328 := by have := hnl.out; simp; omega
  have hr3 : (M :: numL (ne + nk)).length ≤ 11 := by have := hnl.out; simp; omega
  have hmk2 : ([] : List UInt8) ++ (M :: numL (ne + nk)) = M :: numL (ne + nk) := rfl
  replace hr2 := Lib.hid hr2; replace hr3 := Lib.hid hr3
  go_upto_region 6 with (first
    | (go_at_call 35; (with_reducible refine (hnum.out _).mono ?_); rintro e w3 ⟨rfl, b3⟩; replace hp := Lib.hid (hp.out.below b3); clear b3)
    | (go_at_call 34; (with_reducible refine (hp.out.write (i := 0) rfl _ hr2.out).mono ?_); rintro e w4 ⟨rfl, h4⟩; replace hp := Lib.hid h4; clear h4))
  obtain ⟨C0, hC00⟩ : ∃ C, C = M :: numL (ne + nk) := ⟨_, rfl⟩
  have hp1 : Hid (Hp w [] [bu bl C0, .box q #[.slice a ne ac, .slice b nk bc] 25] w4) := by rw [hC00]; exact hp
  have hC0l : C0.length ≤ 11 := by rw [hC00]; exact hr3.out
  clear hp c0 c1
  have hp := hp1
  clear hp1
  replace hC00 := Lib.hid hC00; replace hC0l := Lib.hid hC0l
  obtain ⟨c0, c1⟩ := hcs.out _ _ hp.out
  go_upto_region 7 with fail
  clear c0 c1
  go_loopg [28] ne (fun gj s28 wr => ∃ (j : Nat) (D : List UInt8), s28 = .int .i64 (j : Int) ∧ j + gj = ne ∧ Hp w [] [bu bl D, .box q #[.slice a ne ac, .slice b nk bc] 25] wr ∧ D = C0 ++ (E.take j).flatMap entB ∧ D.length ≤ 11 + j * 4000020)
  case atStart => exact ⟨0, C0, rfl, by omega, hp.out, by simp, by have := hC0l.out; omega⟩
  case round =>
    clear hp
    obtain ⟨j, D, rfl, hjn, hp, hD, hDl⟩ := hrel
    replace hp := Lib.hid hp
    cases gk with
    | succ g =>
      have hjlt : (j : Int) < (ne : Int) := by omega
      have hj0 : (0 : Int) ≤ (j : Int) := by omega
      obtain ⟨bb, o, rfl, hrw⟩ := h1.out.resolve_left (by omega)
      obtain ⟨x, hx⟩ : ∃ x, E[j]? = some x := ⟨_, List.getElem?_eq_getElem (by have := hne.out; omega)⟩
      obtain ⟨hx0, hx1⟩ := hE.out.2 x (List.mem_of_getElem? hx)
      have hEx : D ++ entB x = C0 ++ (E.take (j + 1)).flatMap entB := by rw [List.take_add_one, hx, hD]; simp
      obtain ⟨xk, xv⟩ := x
      have d0 : wr.cell? ⟨bb, o + j * 2, none⟩ = some (.string xk) := (hp.out.bel.cell hrw.1).trans (hrw.elem0 En.c_len hx rfl)
      have d1 : wr.cell? ⟨bb, o + j * 2 + 1, none⟩ = some (.string xv) := (hp.out.bel.cell hrw.1).trans (hrw.elem En.c_len hx rfl)
      have hpz := hp.out.alloc #[.string ⟨#[]⟩, .string ⟨#[]⟩] 43
      have z0' := hpz.cell (i := 0) rfl 0; have z1 := hpz.cell (i := 0) rfl 1
      have y0 := hpz.free (i := 0) rfl 0; have y1 := hpz.free (i := 0) rfl 1
      simp at z0' z1
      have hpb := Lib.hid (hp.out.alloc #[.string xk, .string xv] 43)
      have n1 := fun W => text_any2 xk hx0 W
      have n2 := fun W => text_any2 xv hx1 W
      have l1 := txL_len xk hx0
      have l2 := txL_len xv hx1
      have hx0' : xk.size ≤ 2000000 := hx0
      have hx1' : xv.size ≤ 2000000 := hx1
      have hpe : entB ⟨xk, xv⟩ = txL xk ++ txL xv := rfl
      rw [hpe] at hEx
      generalize txL xk = A1 at n1 l1 hEx hpe
      generalize txL xv = A2 at n2 l2 hEx hpe
      have r1 : ¬ 9223372036854775807 < A1.length + A2.length := by omega
      have hl2 : (D ++ (A1 ++ A2)).length ≤ 11 + (j + 1) * 4000020 := by rw [List.length_append, List.length_append]; omega
      have r3 : D.length + (A1 ++ A2).length ≤ 140737488355328 := by rw [List.length_append] at hl2; omega
      replace r3 := Lib.hid r3; replace n1 := Lib.hid n1; replace n2 := Lib.hid n2; replace hEx := Lib.hid hEx; replace hl2 := Lib.hid hl2
      clear hx hrw hD hDl hpz hx0 hx1 hx0' hx1' l1 l2 hpe
      go_upto_region 9 with fail
      clear z0' z1 y0 y1 d0 d1 hp
      generalize wr.alloc _ = W5 at hpb ⊢
      generalize wr.heap.size = qb at hpb ⊢
      replace hpb := Lib.hid hpb.out.drew
      have hbs : ∀ (D : List UInt8) (W' : World), Hp w [] [.box qb #[.string xk, .string xv] 43, bu bl D, .box q #[.slice (some ⟨bb, o, none⟩) ne ac, .slice b nk bc] 25] W' → W'.cell? ⟨qb, 0, none⟩ = some (.string xk) ∧ W'.cell? ⟨qb, 1, none⟩ = some (.string xv) := fun D W' h => ⟨(h.cell (i := 0) rfl 0).trans rfl, (h.cell (i := 0) rfl 1).trans rfl⟩
      replace hbs := Lib.hid hbs
      refine wp_region_noPanic ?_; refine wp_region_held_drew (S := (fun W' => W'.cell? ⟨qb, 0, none⟩ = some (.string xk) ∧ W'.cell? ⟨qb, 1, none⟩ = some (.string xv))) (by kernel_rfl) ?_ (fun hHeld => ?_); (focus ((try dsimp only); exact hbs.out _ _ hpb.out; done)); (refine take_t (i := 0) (d := 32) (oi := _) (v := ?_) rfl rfl (by kernel_rfl) (by kernel_rfl) (by kernel_rfl) (by rfl) ?_ (by assumption) ?_; rotate_left; (focus (intro w0 hSw; (try dsimp only at hSw); go_simp; (try with_reducible rfl); done)); ((try simp only [Act.put, List.setIfInBounds_toArray]); (try dsimp only [List.set_cons_zero, List.set_cons_succ]))); (refine take_t (i := 1) (d := 33) (oi := _) (v := ?_) rfl rfl (by kernel_rfl) (by kernel_rfl) (by kernel_rfl) (by rfl) ?_ (by assumption) ?_; rotate_left; (focus (intro w0 hSw; (try dsimp only at hSw); go_simp; (try with_reducible rfl); done)); ((try simp only [Act.put, List.setIfInBounds_toArray]); (try dsimp only [List.set_cons_zero, List.set_cons_succ]))); (refine take_t (i := 3) (d := 35) (oi := _) (v := ?_) rfl rfl (by kernel_rfl) (by kernel_rfl) (by kernel_rfl) (by rfl) ?_ (by assumption) ?_; rotate_left; (focus (intro w0 hSw; (try dsimp only at hSw); go_simp; (try with_reducible rfl); done)); ((try simp only [Act.put, List.setIfInBounds_toArray]); (try dsimp only [List.set_cons_zero, List.set_cons_succ]))); (refine take_t (i := 4) (d := 36) (oi := _) (v := ?_) rfl rfl (by kernel_rfl) (by kernel_rfl) (by kernel_rfl) (by rfl) ?_ (by assumption) ?_; rotate_left; (focus (intro w0 hSw; (try dsimp only at hSw); go_simp; (try with_reducible rfl); done)); ((try simp only [Act.put, List.setIfInBounds_toArray]); (try dsimp only [List.set_cons_zero, List.set_cons_succ]))); (refine wpAnyH_ready (rs := [2]) (by kernel_rfl) (by simp) ?_; refine AllReadyH.cons (o := _) rfl (fun K' hK => ?_) AllReadyH.nil; go_simp; (go_at_call 36; (with_reducible refine (n1.out _).mono ?_); rintro e w2 ⟨rfl, b2⟩; replace hpb := Lib.hid (hpb.out.below b2); clear b2); (try dsimp only); refine hK.out _ _ ?_ (fun hHeld2 => ?_); (focus ((try dsimp only); exact hbs.out _ _ hpb.out; done)); clear hK K'; clear hHeld; have hHeld := hHeld2; clear hHeld2; ((try simp only [Act.put, List.setIfInBounds_toArray]); (try dsimp only [List.set_cons_zero, List.set_cons_succ]))); (refine wpAnyH_ready (rs := [5]) (by kernel_rfl) (by simp) ?_; refine AllReadyH.cons (o := _) rfl (fun K' hK => ?_) AllReadyH.nil; go_simp; (go_at_call 36; (with_reducible refine (n2.out _).mono ?_); rintro e w2 ⟨rfl, b2⟩; replace hpb := Lib.hid (hpb.out.below b2); clear b2); (try dsimp only); refine hK.out _ _ ?_ (fun hHeld2 => ?_); (focus ((try dsimp only); exact hbs.out _ _ hpb.out; done)); clear hK K'; clear hHeld; have hHeld := hHeld2; clear hHeld2; ((try simp only [Act.put, List.setIfInBounds_toArray]); (try dsimp only [List.set_cons_zero, List.set_cons_succ]))); (refine take_t (i := 6) (d := 38) (oi := _) (v := ?_) rfl rfl (by kernel_rfl) (by kernel_rfl) (by kernel_rfl) (by rfl) ?_ (by assumption) ?_; rotate_left; (focus (intro w0 hSw; (try dsimp only at hSw); go_simp; (try with_reducible rfl); done)); ((try simp only [Act.put, List.setIfInBounds_toArray]); (try dsimp only [List.set_cons_zero, List.set_cons_succ]))); (refine wpAnyH_ready (rs := [7]) (by kernel_rfl) (by simp) ?_; refine AllReadyH.cons (o := _) rfl (fun K' hK => ?_) AllReadyH.nil; go_simp; (go_at_call 34; (with_reducible refine (hpb.out.write (i := 1) rfl _ r3.out).mono ?_); rintro e w3 ⟨rfl, h1⟩; replace hpb := Lib.hid h1; clear h1); (try dsimp only); refine hK.out _ _ ?_ (fun hHeld2 => ?_); (focus ((try dsimp only); exact hbs.out _ _ hpb.out; done)); clear hK K'; clear hHeld; have hHeld := hHeld2; clear hHeld2; ((try simp only [Act.put, List.setIfInBounds_toArray]); (try dsimp only [List.set_cons_zero, List.set_cons_succ]))); refine wpAnyH_done (by kernel_rfl) ?_ _; refine NoPanic.normal ?_
      go_wp2
      go_roundg g
      case rel => exact ⟨j + 1, _, by go_num, by omega, hpb.out.drop 0, hEx.out, hl2.out⟩
      case measure => omega
    | zero =>
      obtain rfl : j = ne := by omega
      have hjlt : ¬ ((j : Int) < (j : Int)) := by omega
      obtain ⟨c0, c1⟩ := hcs.out _ _ hp.out
      have hDf : D = C0 ++ E.flatMap entB := by rw [hD, List.take_of_length_le (by rw [← hne.out]; exact Nat.le_refl _)]
      have hDl2 : D.length ≤ 400002011 := by omega
      have hSD : S = D ++ K.flatMap kidB := by rw [hS.out, hC0.out, hDf, hC00.out]
      replace hSD := Lib.hid hSD
      clear hD hDl hDf
      go_upto_region 12 with fail
      clear c0 c1 hjlt
      go_loopg [44] nk (fun gm s44 wr => ∃ (m : Nat) (F : List UInt8), s44 = .int .i64 (m : Int) ∧ m + gm = nk ∧ Hp w [] [bu bl F, .box q #[.slice a j ac, .slice b nk bc] 25] wr ∧ F = D ++ (K.take m).flatMap kidB ∧ F.length ≤ 400002011 + m * 4000020)
      case atStart => exact ⟨0, D, rfl, by omega, hp.out, by simp, by omega⟩
      case round =>
        clear hp
        obtain ⟨m, F, rfl, hmn, hp, hF, hFl⟩ := hrel
        replace hp := Lib.hid hp
        cases gk with
        | succ g =>
          have hjlt : (m : Int) < (nk : Int) := by omega
          have hj0 : (0 : Int) ≤ (m : Int) := by omega
          obtain ⟨bb, o, rfl, hrw⟩ := h2.out.resolve_left (by omega)
          obtain ⟨x, hx⟩ : ∃ x, K[m]? = some x := ⟨_, List.getElem?_eq_getElem (by have := hnk.out; omega)⟩
          obtain ⟨hx0, hx1, hx2⟩ := hK.out.2 x (List.mem_of_getElem? hx)
          have hEx : F ++ kidB x = D ++ (K.take (m + 1)).flatMap kidB := by rw [List.take_add_one, hx, hF]; simp
          obtain ⟨xl, xp, xs⟩ := x
          have d0 : wr.cell? ⟨bb, o + m * 3, none⟩ = some (.string xl) := (hp.out.bel.cell hrw.1).trans (hrw.elem0 Kd.c_len hx rfl)
          have d1 : wr.cell? ⟨bb, o + m * 3 + 1, none⟩ = some (.int .i64 xp) := (hp.out.bel.cell hrw.1).trans (hrw.elem Kd.c_len hx rfl)
          have d2 : wr.cell? ⟨bb, o + m * 3 + 2, none⟩ = some (.string xs) := (hp.out.bel.cell hrw.1).trans (hrw.elem Kd.c_len hx rfl)
          have hpz := hp.out.alloc #[.string ⟨#[]⟩, .int .i64 0, .string ⟨#[]⟩] 41
          have z0' := hpz.cell (i := 0) rfl 0; have z1 := hpz.cell (i := 0) rfl 1; have z2 := hpz.cell (i := 0) rfl 2
          have y0 := hpz.free (i := 0) rfl 0; have y1 := hpz.free (i := 0) rfl 1; have y2 := hpz.free (i := 0) rfl 2
          simp at z0' z1 z2
          have hpb := Lib.hid (hp.out.alloc #[.string xl, .int .i64 xp, .string xs] 41)
          have hx0' : xl.size ≤ 2000000 := hx0
          have hx1' : 0 ≤ xp ∧ xp ≤ 9223372036854775807 := hx1
          have hx2' : xs.size ≤ 2000000 := hx2
          have n1 := fun W => text_any2 xl hx0' W
          have n2 : ∀ W, Calls Try.prog 35 #[.int .u64 xp] W fun e w' => e = .returned (.string (str (numL xp.toNat))) ∧ Below W.heap.size W w' := fun W => by have := code.num_any xp.toNat (by omega) W; rwa [show ((xp.toNat : Nat) : Int) = xp by omega] at this
          have wx : IntKind.u64.wrap xp = xp := IntWalk.u64_in _ (by omega)
          have l1 := txL_len xl hx0'
          have l2 := code.numL_len64 xp.toNat (by omega)
          have l3 := bl_len xs
          have hpe : kidB ⟨xl, xp, xs⟩ = txL xl ++ (numL xp.toNat ++ xs.data.toList) := rfl
          rw [hpe] at hEx
          obtain ⟨A3, rfl⟩ : ∃ l, xs = str l := ⟨xs.data.toList, (txL_put xs).symm⟩
          rw [str_toList] at hEx hpe l3
          rw [str_size] at l3 hx2'
          generalize txL xl = A1 at n1 l1 hEx hpe
          generalize numL xp.toNat = A2 at n2 l2 hEx hpe
          have r1 : ¬ 9223372036854775807 < A1.length + A2.length := by omega
          have r2 : ¬ 9223372036854775807 < A1.length + A2.length + A3.length := by omega
          have hl2 : (F ++ (A1 ++ (A2 ++ A3))).length ≤ 400002011 + (m + 1) * 4000020 := by rw [List.length_append, List.length_append, List.length_append]; omega
          have r3 : F.length + (A1 ++ (A2 ++ A3)).length ≤ 140737488355328 := by rw [List.length_append] at hl2; omega
          replace r3 := Lib.hid r3; replace n1 := Lib.hid n1; replace n2 := Lib.hid n2; replace hEx := Lib.hid hEx; replace hl2 := Lib.hid hl2
          clear hx hrw hF hFl hpz hx0 hx1 hx2 hx0' hx1' hx2' l1 l2 l3 hpe
          obtain ⟨c0, c1⟩ := hcs.out _ _ hp.out
          go_upto_region 14 with fail
          clear z0' z1 z2 y0 y1 y2 d0 d1 d2 hp c0 c1
          generalize wr.alloc _ = W5 at hpb ⊢
          generalize wr.heap.size = qb at hpb ⊢
          replace hpb := Lib.hid hpb.out.drew
          have hbs : ∀ (D : List UInt8) (W' : World), Hp w [] [.box qb #[.string xl, .int .i64 xp, .string (str A3)] 41, bu bl D, .box q #[.slice a j ac, .slice (some ⟨bb, o, none⟩) nk bc] 25] W' → W'.cell? ⟨qb, 0, none⟩ = some (.string xl) ∧ W'.cell? ⟨qb, 1, none⟩ = some (.int .i64 xp) ∧ W'.cell? ⟨qb, 2, none⟩ = some (.string (str A3)) := fun D W' h => ⟨(h.cell (i := 0) rfl 0).trans rfl, (h.cell (i := 0) rfl 1).trans rfl, (h.cell (i := 0) rfl 2).trans rfl⟩
          replace hbs := Lib.hid hbs
          refine wp_region_noPanic ?_; refine wp_region_held_drew (S := (fun W' => W'.cell? ⟨qb, 0, none⟩ = some (.string xl) ∧ W'.cell? ⟨qb, 1, none⟩ = some (.int .i64 xp) ∧ W'.cell? ⟨qb, 2, none⟩ = some (.string (str A3)))) (by kernel_rfl) ?_ (fun hHeld => ?_); (focus ((try dsimp only); exact hbs.out _ _ hpb.out; done)); (refine take_t (i := 0) (d := 48) (oi := _) (v := ?_) rfl rfl (by kernel_rfl) (by kernel_rfl) (by kernel_rfl) (by rfl) ?_ (by assumption) ?_; rotate_left; (focus (intro w0 hSw; (try dsimp only at hSw); go_simp; (try with_reducible rfl); done)); ((try simp only [Act.put, List.setIfInBounds_toArray]); (try dsimp only [List.set_cons_zero, List.set_cons_succ]))); (refine take_t (i := 1) (d := 49) (oi := _) (v := ?_) rfl rfl (by kernel_rfl) (by kernel_rfl) (by kernel_rfl) (by rfl) ?_ (by assumption) ?_; rotate_left; (focus (intro w0 hSw; (try dsimp only at hSw); go_simp; (try with_reducible rfl); done)); ((try simp only [Act.put, List.setIfInBounds_toArray]); (try dsimp only [List.set_cons_zero, List.set_cons_succ]))); (refine take_t (i := 3) (d := 51) (oi := _) (v := ?_) rfl rfl (by kernel_rfl) (by kernel_rfl) (by kernel_rfl) (by rfl) ?_ (by assumption) ?_; rotate_left; (focus (intro w0 hSw; (try dsimp only at hSw); go_simp; (try with_reducible rfl); done)); ((try simp only [Act.put, List.setIfInBounds_toArray]); (try dsimp only [List.set_cons_zero, List.set_cons_succ]))); (refine take_t (i := 4) (d := 52) (oi := _) (v := ?_) rfl rfl (by kernel_rfl) (by kernel_rfl) (by kernel_rfl) (by rfl) ?_ (by assumption) ?_; rotate_left; (focus (intro w0 hSw; (try dsimp only at hSw); go_simp; (try with_reducible rfl); done)); ((try simp only [Act.put, List.setIfInBounds_toArray]); (try dsimp only [List.set_cons_zero, List.set_cons_succ]))); (refine take_t (i := 5) (d := 53) (oi := _) (v := ?_) rfl rfl (by kernel_rfl) (by kernel_rfl) (by kernel_rfl) (by rfl) ?_ (by assumption) ?_; rotate_left; (focus (intro w0 hSw; (try dsimp only at hSw); go_simp; (try with_reducible rfl); done)); ((try simp only [Act.put, List.setIfInBounds_toArray]); (try dsimp only [List.set_cons_zero, List.set_cons_succ]))); (refine take_t (i := 6) (d := 54) (oi := _) (v := ?_) rfl rfl (by kernel_rfl) (by kernel_rfl) (by kernel_rfl) (by rfl) ?_ (by assumption) ?_; rotate_left; (focus (intro w0 hSw; (try dsimp only at hSw); go_simp; (try with_reducible rfl); done)); ((try simp only [Act.put, List.setIfInBounds_toArray]); (try dsimp only [List.set_cons_zero, List.set_cons_succ]))); (refine take_t (i := 9) (d := 57) (oi := _) (v := ?_) rfl rfl (by kernel_rfl) (by kernel_rfl) (by kernel_rfl) (by rfl) ?_ (by assumption) ?_; rotate_left; (focus (intro w0 hSw; (try dsimp only at hSw); go_simp; (try with_reducible rfl); done)); ((try simp only [Act.put, List.setIfInBounds_toArray]); (try dsimp only [List.set_cons_zero, List.set_cons_succ]))); (refine take_t (i := 10) (d := 58) (oi := _) (v := ?_) rfl rfl (by kernel_rfl) (by kernel_rfl) (by kernel_rfl) (by rfl) ?_ (by assumption) ?_; rotate_left; (focus (intro w0 hSw; (try dsimp only at hSw); go_simp; (try with_reducible rfl); done)); ((try simp only [Act.put, List.setIfInBounds_toArray]); (try dsimp only [List.set_cons_zero, List.set_cons_succ]))); (refine take_t (i := 11) (d := 59) (oi := _) (v := ?_) rfl rfl (by kernel_rfl) (by kernel_rfl) (by kernel_rfl) (by rfl) ?_ (by assumption) ?_; rotate_left; (focus (intro w0 hSw; (try dsimp only at hSw); go_simp; (try with_reducible rfl); done)); ((try simp only [Act.put, List.setIfInBounds_toArray]); (try dsimp only [List.set_cons_zero, List.set_cons_succ]))); (refine wpAnyH_ready (rs := [2]) (by kernel_rfl) (by simp) ?_; refine AllReadyH.cons (o := _) rfl (fun K' hK => ?_) AllReadyH.nil; go_simp; (go_at_call 36; (with_reducible refine (n1.out _).mono ?_); rintro e w2 ⟨rfl, b2⟩; replace hpb := Lib.hid (hpb.out.below b2); clear b2); (try dsimp only); refine hK.out _ _ ?_ (fun hHeld2 => ?_); (focus ((try dsimp only); exact hbs.out _ _ hpb.out; done)); clear hK K'; clear hHeld; have hHeld := hHeld2; clear hHeld2; ((try simp only [Act.put, List.setIfInBounds_toArray]); (try dsimp only [List.set_cons_zero, List.set_cons_succ]))); (refine wpAnyH_ready (rs := [7]) (by kernel_rfl) (by simp) ?_; refine AllReadyH.cons (o := _) rfl (fun K' hK => ?_) AllReadyH.nil; go_simp; (go_at_call 35; (with_reducible refine (n2.out _).mono ?_); rintro e w2 ⟨rfl, b2⟩; replace hpb := Lib.hid (hpb.out.below b2); clear b2); (try dsimp only); refine hK.out _ _ ?_ (fun hHeld2 => ?_); (focus ((try dsimp only); exact hbs.out _ _ hpb.out; done)); clear hK K'; clear hHeld; have hHeld := hHeld2; clear hHeld2; ((try simp only [Act.put, List.setIfInBounds_toArray]); (try dsimp only [List.set_cons_zero, List.set_cons_succ]))); (refine take_t (i := 8) (d := 56) (oi := _) (v := ?_) rfl rfl (by kernel_rfl) (by kernel_rfl) (by kernel_rfl) (by rfl) ?_ (by assumption) ?_; rotate_left; (focus (intro w0 hSw; (try dsimp only at hSw); go_simp; (try with_reducible rfl); done)); ((try simp only [Act.put, List.setIfInBounds_toArray]); (try dsimp only [List.set_cons_zero, List.set_cons_succ]))); (refine take_t (i := 12) (d := 60) (oi := _) (v := ?_) rfl rfl (by kernel_rfl) (by kernel_rfl) (by kernel_rfl) (by rfl) ?_ (by assumption) ?_; rotate_left; (focus (intro w0 hSw; (try dsimp only at hSw); go_simp; (try with_reducible rfl); done)); ((try simp only [Act.put, List.setIfInBounds_toArray]); (try dsimp only [List.set_cons_zero, List.set_cons_succ]))); (refine wpAnyH_ready (rs := [13]) (by kernel_rfl) (by simp) ?_; refine AllReadyH.cons (o := _) rfl (fun K' hK => ?_) AllReadyH.nil; go_simp; (go_at_call 34; (with_reducible refine (hpb.out.write (i := 1) rfl _ r3.out).mono ?_); rintro e w3 ⟨rfl, h1⟩; replace hpb := Lib.hid h1; clear h1); (try dsimp only); refine hK.out _ _ ?_ (fun hHeld2 => ?_); (focus ((try dsimp only); exact hbs.out _ _ hpb.out; done)); clear hK K'; clear hHeld; have hHeld := hHeld2; clear hHeld2; ((try simp only [Act.put, List.setIfInBounds_toArray]); (try dsimp only [List.set_cons_zero, List.set_cons_succ]))); refine wpAnyH_done (by kernel_rfl) ?_ _; refine NoPanic.normal ?_
          go_wp2
          go_roundg g
          case rel => exact ⟨m + 1, _, by go_num, by omega, hpb.out.drop 0, hEx.out, hl2.out⟩
          case measure => omega
        | zero =>
          obtain rfl : m = nk := by omega
          have hjlt2 : ¬ ((m : Int) < (m : Int)) := by omega
          have hFS : F = S := by rw [hF, List.take_of_length_le (by rw [← hnk.out]; exact Nat.le_refl _), hSD.out]
          replace hFS := Lib.hid hFS
          clear hF hFl
          go_wp2_with (go_at_call 37; (with_reducible refine (hp.out.bstring (i := 0) rfl hbge.out).mono ?_); rintro e w5 ⟨rfl, h5⟩; replace hp := Lib.hid h5; clear h5)
          go_ret
          exact ⟨by rw [hFS.out]; rfl, hp.out.bel⟩
theorem nodB_len (E : List En) (K : List Kd) (hE : SmE E) (hK : SmK K) : (nodB E K).length ≤ 1000000000 := by
  have flat_le : ∀ {α : Type} (f : α → List UInt8) (n : Nat) (l : List α), (∀ x ∈ l, (f x).length ≤ n) → (l.flatMap f).length ≤ l.length * n := by
    intro α f n l
    induction l with
    | nil => intro _; simp
    | cons x t ih =>
      intro h
      have h1 := h x (by simp)
      have h2 := ih fun y hy => h y (by simp [hy])
      rw [List.flatMap_cons, List.length_append, List.length_cons, Nat.succ_mul]; omega
  have h1 := flat_le entB 4000020 E fun e he => by
    have := hE.2 e he
    have h1 := txL_len e.k this.1
    have h2 := txL_len e.v this.2
    unfold entB; rw [List.length_append]; omega
  have h2 := flat_le kidB 4000020 K fun e he => by
    have := hK.2 e he
    have h1 := txL_len e.lo this.1
    have h2 := code.numL_len64 e.pl.toNat (by omega)
    have h3 := bl_len e.sm
    unfold kidB; rw [List.length_append, List.length_append]; omega
  have h3 := code.numL_len64 (E.length + K.length) (by have := hE.1; have := hK.1; omega)
  have h4 := hE.1
  have h5 := hK.1
  have h6 : E.length * 4000020 ≤ 100 * 4000020 := Nat.mul_le_mul_right _ h4
  have h7 : K.length * 4000020 ≤ 100 * 4000020 := Nat.mul_le_mul_right _ h5
  unfold nodB
  rw [List.cons_append, List.cons_append, List.length_cons, List.length_append, List.length_append]
  omega
theorem size_any (ev kv : Value) (E : List En) (K : List Kd) (w : World) (he : Sl w ev E.length (enC E)) (hk : Sl w kv K.length (kdC K)) (hE : SmE E) (hK : SmK K) :
    Calls Try.prog 12 #[nodV ev kv] w fun e w' => e = .returned (.int .i64 (nodB E K).length) ∧ Below w.heap.size w w' := by
  have hp0 := (Hp.none_ w []).alloc #[ev, kv] 25
  have hb : ∀ W, Below w.heap.size w W → Calls Try.prog 18 #[nodV ev kv] W fun e w' => e = .returned (.string (str (nodB E K))) ∧ Below W.heap.size W w' := fun W hb => bytes_any ev kv E K W (he.below hb) (hk.below hb) hE hK
  have hl := nodB_len E K hE hK
  generalize nodB E K = L at hb hl ⊢
  clear he hk hE hK
  unfold nodV at hb ⊢
  replace hb := Lib.hid hb; replace hp0 := Lib.hid hp0
  go_enter Try.func12, Try.ntmps12
  go_upto_region 1 with fail
  generalize w.alloc _ = W at hp0 ⊢
  generalize hq : w.heap.size = q at hp0 ⊢
  clear hq
  have c0 := hp0.out.cell (i := 0) rfl 0; have c1 := hp0.out.cell (i := 0) rfl 1
  simp at c0 c1
  go_wp2_with (go_at_call 18; (with_reducible refine (hb.out _ hp0.out.bel).mono ?_); rintro e w1 ⟨rfl, b1⟩; replace hp0 := Lib.hid (hp0.out.below b1); clear b1)
  go_ret
  exact ⟨rfl, hp0.out.bel⟩
end Go.Proofs.Ytcdgnhhciccoeaa.nod
