/- A thing's bytes, and whether two things are the same, as the document has it (lodestoneref26.Put, Same). No condition but the slices, and values that both packages know. -/
import Derived.Test.YtcdgnhhciccoeaaDoorRecP9
import Derived.Deep.CutBlock
import Derived.Laws.StructEq
namespace Go.Proofs.YtcdgnhhciccoeaaDoor.recw
open Go.RowKit
open code (numL boolL)
attribute [local go_sem ↓] Go.wp_at_zero Go.wp_at_succ
attribute [local go_sem] str_size str_append
set_option linter.unusedVariables false
set_option linter.unusedSimpArgs false
set_option maxRecDepth 100000

theorem rput_no (ed : Bool) (la : Value) (ty fm tw : Int) (pr : Value) (L : List Int) (P : List Pr) (w : World) (hla : Sl w la L.length (inC L)) (hpr : Sl w pr P.length (prC P)) (hvk : ∀ p ∈ P, VK p.vl) (hok : thOk ed L ty fm tw P = false) :
    Calls Tryd.prog 11 #[thV ed la ty fm tw pr] w fun e w' => e = .returned (.string ⟨#[]⟩) ∧ Below w.heap.size w w' := by
  have hm : ∀ W, Below w.heap.size w W → Calls Tryd.prog 13 #[thV ed la ty fm tw pr] W fun e w' => e = .returned (.bool false) ∧ Below W.heap.size W w' := fun W hb => by
    have := rmay_any ed la ty fm tw pr L P W (hla.below hb) (hpr.below hb) hvk
    rwa [hok] at this
  have hp0 := (Hp.none_ w []).alloc #[.bool ed, la, .int .i64 ty, .int .u64 fm, .int .u64 tw, pr] 26
  clear hla hpr hvk hok
  unfold thV at hm ⊢
  replace hm := Lib.hid hm; replace hp0 := Lib.hid hp0
  go_enter Tryd.func11, Tryd.ntmps11
  go_upto_region 1 with fail
  generalize w.alloc _ = W at hp0 ⊢
  generalize hq : w.heap.size = q at hp0 ⊢
  clear hq
  have c0 := hp0.out.cell (i := 0) rfl 0; have c1 := hp0.out.cell (i := 0) rfl 1; have c2 := hp0.out.cell (i := 0) rfl 2; have c3 := hp0.out.cell (i := 0) rfl 3; have c4 := hp0.out.cell (i := 0) rfl 4; have c5 := hp0.out.cell (i := 0) rfl 5
  simp at c0 c1 c2 c3 c4 c5
  go_wp2_with (go_at_call 13; (with_reducible refine (hm.out _ hp0.out.bel).mono ?_); rintro e w1 ⟨rfl, b1⟩; replace hp0 := Lib.hid (hp0.out.below b1); clear b1)
  go_ret
  exact ⟨rfl, hp0.out.bel⟩
theorem rbool_put (b : Bool) (w : World) : Calls Tryd.prog 43 #[.bool b] w fun e w' => e = .returned (.string (str (boolL b))) ∧ Below w.heap.size w w' := code.refBool_any b w
set_option maxHeartbeats 32000000 in
theorem rput_yes (ed : Bool) (la : Value) (ty fm tw : Int) (pr : Value) (L : List Int) (P : List Pr) (w : World) (hla : Sl w la L.length (inC L)) (hpr : Sl w pr P.length (prC P)) (hvk : ∀ p ∈ P, VK p.vl) (hok : thOk ed L ty fm tw P = true)
    (hty : ed = true → 0 ≤ ty ∧ ty < 64) (hfm : 0 ≤ fm ∧ fm < 18446744073709551616) (htw : 0 ≤ tw ∧ tw < 18446744073709551616) (hL : L.length ≤ 8) (hLa : ∀ x ∈ L, 0 ≤ x ∧ x < 64) (hP : P.length ≤ 16) (hPa : ∀ x ∈ P, 0 ≤ x.key ∧ x.key < 64 ∧ x.kd ≠ 0 ∧ mB x.vl = true) (hyes : ed = true → L = []) :
    Calls Tryd.prog 11 #[thV ed la ty fm tw pr] w fun e w' => e = .returned (.string (str (thS ed L ty fm tw P))) ∧ Below w.heap.size w w' := by
  have hm : ∀ W, Below w.heap.size w W → Calls Tryd.prog 13 #[thV ed la ty fm tw pr] W fun e w' => e = .returned (.bool true) ∧ Below W.heap.size W w' := fun W hb => by
    have := rmay_any ed la ty fm tw pr L P W (hla.below hb) (hpr.below hb) hvk
    rwa [hok] at this
  have hp0 := (Hp.none_ w []).alloc #[.bool ed, la, .int .i64 ty, .int .u64 fm, .int .u64 tw, pr] 26
  obtain ⟨S, hS⟩ : ∃ S, S = thS ed L ty fm tw P := ⟨_, rfl⟩
  rw [← hS]
  unfold thS at hS
  rw [if_pos hok] at hS
  have hHl : (headL ed L ty fm tw).length ≤ 30 := by
    unfold headL
    have h1 := code.numL_len64 fm.toNat (by omega)
    have h2 := code.numL_len64 tw.toNat (by omega)
    have h4 := code.numL_len64 L.length (by omega)
    cases ed with
    | true =>
      have h3 := code.numL_len64 ty.toNat (by have := hty rfl; omega)
      simp; omega
    | false => simp; omega
  obtain ⟨a, lcp, rfl, _, hla2⟩ := hla
  obtain ⟨a2, pcp, rfl, _, hpr2⟩ := hpr
  obtain ⟨nl, hnl⟩ : ∃ n, n = L.length := ⟨_, rfl⟩
  obtain ⟨np, hnp⟩ : ∃ n, n = P.length := ⟨_, rfl⟩
  rw [← hnl] at hm hp0 hla2 hL ⊢
  rw [← hnp] at hm hp0 hpr2 hP ⊢
  have hbb := rbool_put ed
  have hnl2 : ∀ W, Calls Tryd.prog 44 #[.int .u64 (nl : Int)] W fun e w' => e = .returned (.string (str (numL nl))) ∧ Below W.heap.size W w' := fun W => code.refNum_any nl (by omega) W
  have hnp2 : ∀ W, Calls Tryd.prog 44 #[.int .u64 (np : Int)] W fun e w' => e = .returned (.string (str (numL np))) ∧ Below W.heap.size W w' := fun W => code.refNum_any np (by omega) W
  have wnl : IntKind.u64.wrap (nl : Int) = (nl : Int) := IntWalk.u64_in _ (by omega)
  have wnp : IntKind.u64.wrap (np : Int) = (np : Int) := IntWalk.u64_in _ (by omega)
  have hnpl := code.numL_len64 np (by omega)
  have hnll := code.numL_len64 nl (by omega)
  have hb1 : (boolL ed).length = 1 := by simp [boolL]
  have hnlb : nl ≤ 140737488355328 := by omega
  have hnpb : np ≤ 140737488355328 := by omega
  replace hS := Lib.hid hS; replace hHl := Lib.hid hHl; replace hla2 := Lib.hid hla2; replace hpr2 := Lib.hid hpr2; replace hvk := Lib.hid hvk; replace hPa := Lib.hid hPa; replace hLa := Lib.hid hLa; replace hnl := Lib.hid hnl; replace hnp := Lib.hid hnp
  replace hbb := Lib.hid hbb; replace hnl2 := Lib.hid hnl2; replace hnp2 := Lib.hid hnp2; replace hty := Lib.hid hty; replace hfm := Lib.hid hfm; replace htw := Lib.hid htw; replace hnpl := Lib.hid hnpl; replace hnll := Lib.hid hnll; replace hb1 := Lib.hid hb1; replace hyes := Lib.hid hyes
  clear hok
  unfold thV at hm ⊢
  replace hm := Lib.hid hm; replace hp0 := Lib.hid hp0
  go_enter Tryd.func11, Tryd.ntmps11
  go_upto_region 1 with fail
  generalize w.alloc _ = W at hp0 ⊢
  generalize hq : w.heap.size = q at hp0 ⊢
  clear hq
  have hcs : ∀ (rs : List Rs) (W' : World), Hp w [] rs W' → rs[0]? = some (.box q #[.bool ed, .slice a nl lcp, .int .i64 ty, .int .u64 fm, .int .u64 tw, .slice a2 np pcp] 26) → W'.cell? ⟨q, 0, none⟩ = some (.bool ed) ∧ W'.cell? ⟨q, 1, none⟩ = some (.slice a nl lcp) ∧ W'.cell? ⟨q, 2, none⟩ = some (.int .i64 ty) ∧ W'.cell? ⟨q, 3, none⟩ = some (.int .u64 fm) ∧ W'.cell? ⟨q, 4, none⟩ = some (.int .u64 tw) ∧ W'.cell? ⟨q, 5, none⟩ = some (.slice a2 np pcp) := fun rs W' h hi =>
    ⟨(h.cell hi 0).trans rfl, (h.cell hi 1).trans rfl, (h.cell hi 2).trans rfl, (h.cell hi 3).trans rfl, (h.cell hi 4).trans rfl, (h.cell hi 5).trans rfl⟩
  replace hcs := Lib.hid hcs
  obtain ⟨c0, c1, c2, c3, c4, c5⟩ := hcs.out _ _ hp0.out rfl
  go_upto_region 3 with (go_at_call 13; (with_reducible refine (hm.out _ hp0.out.bel).mono ?_); rintro e w1 ⟨rfl, b1⟩; replace hp0 := Lib.hid (hp0.out.below b1); clear b1)
  clear c0 c1 c2 c3 c4 c5 hm
  have c0 := (hcs.out _ _ hp0.out rfl).1
  go_upto_region 4 with (go_at_call 43; (with_reducible refine (hbb.out _).mono ?_); rintro e w2 ⟨rfl, b2⟩; replace hp0 := Lib.hid (hp0.out.below b2); clear b2)
  clear c0
  have c0 := (hcs.out _ _ hp0.out rfl).1
  go_upto_if 13 with fail
  clear c0
  go_cut [3, 4] from 14 to 50 (fun s3 s4 wx => s3 = .string (str (boolL ed ++ headL ed L ty fm tw ++ L.flatMap labB)) ∧ Hp w [] [.box q #[.bool ed, .slice a nl lcp, .int .i64 ty, .int .u64 fm, .int .u64 tw, .slice a2 np pcp] 26] wx)
  case first =>
    obtain ⟨c0, c1, c2, c3, c4, c5⟩ := hcs.out _ _ hp0.out rfl
    cases ed with
    | true =>
      obtain ⟨hty0, hty1⟩ := hty.out rfl
      have wty : IntKind.u64.wrap ty = ty := IntWalk.u64_in _ (by omega)
      have n1 : ∀ W, Calls Tryd.prog 44 #[.int .u64 ty] W fun e w' => e = .returned (.string (str (numL ty.toNat))) ∧ Below W.heap.size W w' := fun W => by have := code.refNum_any ty.toNat (by omega) W; rwa [show ((ty.toNat : Nat) : Int) = ty by omega] at this
      have n2 : ∀ W, Calls Tryd.prog 44 #[.int .u64 fm] W fun e w' => e = .returned (.string (str (numL fm.toNat))) ∧ Below W.heap.size W w' := fun W => by have := code.refNum_any fm.toNat (by have := hfm.out; omega) W; rwa [show ((fm.toNat : Nat) : Int) = fm by have := hfm.out; omega] at this
      have n3 : ∀ W, Calls Tryd.prog 44 #[.int .u64 tw] W fun e w' => e = .returned (.string (str (numL tw.toNat))) ∧ Below W.heap.size W w' := fun W => by have := code.refNum_any tw.toNat (by have := htw.out; omega) W; rwa [show ((tw.toNat : Nat) : Int) = tw by have := htw.out; omega] at this
      have l1 := code.numL_len64 ty.toNat (by omega)
      have l2 := code.numL_len64 fm.toNat (by have := hfm.out; omega)
      have l3 := code.numL_len64 tw.toNat (by have := htw.out; omega)
      have hh : headL true L ty fm tw = numL ty.toNat ++ (numL fm.toNat ++ numL tw.toNat) := by unfold headL; rw [if_pos rfl, List.append_assoc]
      generalize numL ty.toNat = A1 at n1 l1 hh
      generalize numL fm.toNat = A2 at n2 l2 hh
      generalize numL tw.toNat = A3 at n3 l3 hh
      have hb := hb1.out
      have r1 : ¬ 9223372036854775807 < A1.length + A2.length := by omega
      have r2 : ¬ 9223372036854775807 < A1.length + A2.length + A3.length := by omega
      have r4 : ¬ 9223372036854775807 < A1.length + (A2.length + A3.length) := by omega
      have r3 : ¬ 9223372036854775807 < (boolL true).length + (A1.length + (A2.length + A3.length)) := by omega
      replace n1 := Lib.hid n1; replace n2 := Lib.hid n2; replace n3 := Lib.hid n3; replace hh := Lib.hid hh
      clear l1 l2 l3 hty0 hty1 hb
      go_upto_region 5 with fail
      have hd := Lib.hid hp0.out.drew
      refine wp_region_noPanic ?_; refine wp_region_held_drew (S := (fun W' => W'.cell? ⟨q, 0, none⟩ = some (.bool true) ∧ W'.cell? ⟨q, 1, none⟩ = some (.slice a nl lcp) ∧ W'.cell? ⟨q, 2, none⟩ = some (.int .i64 ty) ∧ W'.cell? ⟨q, 3, none⟩ = some (.int .u64 fm) ∧ W'.cell? ⟨q, 4, none⟩ = some (.int .u64 tw) ∧ W'.cell? ⟨q, 5, none⟩ = some (.slice a2 np pcp))) (by kernel_rfl) ?_ (fun hHeld => ?_); (focus ((try dsimp only); exact hcs.out _ _ hd.out rfl; done)); (refine take_t (i := 0) (d := 14) (oi := _) (v := ?_) rfl rfl (by kernel_rfl) (by kernel_rfl) (by kernel_rfl) (by rfl) ?_ (by assumption) ?_; rotate_left; (focus (intro w0 hSw; (try dsimp only at hSw); go_simp; (try with_reducible rfl); done)); ((try simp only [Act.put, List.setIfInBounds_toArray]); (try dsimp only [List.set_cons_zero, List.set_cons_succ]))); (refine take_t (i := 1) (d := 15) (oi := _) (v := ?_) rfl rfl (by kernel_rfl) (by kernel_rfl) (by kernel_rfl) (by rfl) ?_ (by assumption) ?_; rotate_left; (focus (intro w0 hSw; (try dsimp only at hSw); go_simp; (try with_reducible rfl); done)); ((try simp only [Act.put, List.setIfInBounds_toArray]); (try dsimp only [List.set_cons_zero, List.set_cons_succ]))); (refine take_t (i := 2) (d := 16) (oi := _) (v := ?_) rfl rfl (by kernel_rfl) (by kernel_rfl) (by kernel_rfl) (by rfl) ?_ (by assumption) ?_; rotate_left; (focus (intro w0 hSw; (try dsimp only at hSw); go_simp; (try with_reducible rfl); done)); ((try simp only [Act.put, List.setIfInBounds_toArray]); (try dsimp only [List.set_cons_zero, List.set_cons_succ]))); (refine take_t (i := 3) (d := 17) (oi := _) (v := ?_) rfl rfl (by kernel_rfl) (by kernel_rfl) (by kernel_rfl) (by rfl) ?_ (by assumption) ?_; rotate_left; (focus (intro w0 hSw; (try dsimp only at hSw); go_simp; (try with_reducible rfl); done)); ((try simp only [Act.put, List.setIfInBounds_toArray]); (try dsimp only [List.set_cons_zero, List.set_cons_succ]))); (refine take_t (i := 5) (d := 19) (oi := _) (v := ?_) rfl rfl (by kernel_rfl) (by kernel_rfl) (by kernel_rfl) (by rfl) ?_ (by assumption) ?_; rotate_left; (focus (intro w0 hSw; (try dsimp only at hSw); go_simp; (try with_reducible rfl); done)); ((try simp only [Act.put, List.setIfInBounds_toArray]); (try dsimp only [List.set_cons_zero, List.set_cons_succ]))); (refine take_t (i := 6) (d := 20) (oi := _) (v := ?_) rfl rfl (by kernel_rfl) (by kernel_rfl) (by kernel_rfl) (by rfl) ?_ (by assumption) ?_; rotate_left; (focus (intro w0 hSw; (try dsimp only at hSw); go_simp; (try with_reducible rfl); done)); ((try simp only [Act.put, List.setIfInBounds_toArray]); (try dsimp only [List.set_cons_zero, List.set_cons_succ]))); (refine take_t (i := 9) (d := 23) (oi := _) (v := ?_) rfl rfl (by kernel_rfl) (by kernel_rfl) (by kernel_rfl) (by rfl) ?_ (by assumption) ?_; rotate_left; (focus (intro w0 hSw; (try dsimp only at hSw); go_simp; (try with_reducible rfl); done)); ((try simp only [Act.put, List.setIfInBounds_toArray]); (try dsimp only [List.set_cons_zero, List.set_cons_succ]))); (refine take_t (i := 10) (d := 24) (oi := _) (v := ?_) rfl rfl (by kernel_rfl) (by kernel_rfl) (by kernel_rfl) (by rfl) ?_ (by assumption) ?_; rotate_left; (focus (intro w0 hSw; (try dsimp only at hSw); go_simp; (try with_reducible rfl); done)); ((try simp only [Act.put, List.setIfInBounds_toArray]); (try dsimp only [List.set_cons_zero, List.set_cons_succ]))); (refine wpAnyH_ready (rs := [4]) (by kernel_rfl) (by simp) ?_; refine AllReadyH.cons (o := _) rfl (fun K' hK => ?_) AllReadyH.nil; go_simp; (go_at_call 44; (with_reducible refine (n1.out _).mono ?_); rintro e w2 ⟨rfl, b2⟩; replace hd := Lib.hid (hd.out.below b2); clear b2); (try dsimp only); refine hK.out _ _ ?_ (fun hHeld2 => ?_); (focus ((try dsimp only); exact hcs.out _ _ hd.out rfl; done)); clear hK K'; clear hHeld; have hHeld := hHeld2; clear hHeld2; ((try simp only [Act.put, List.setIfInBounds_toArray]); (try dsimp only [List.set_cons_zero, List.set_cons_succ]))); (refine wpAnyH_ready (rs := [7]) (by kernel_rfl) (by simp) ?_; refine AllReadyH.cons (o := _) rfl (fun K' hK => ?_) AllReadyH.nil; go_simp; (go_at_call 44; (with_reducible refine (n2.out _).mono ?_); rintro e w2 ⟨rfl, b2⟩; replace hd := Lib.hid (hd.out.below b2); clear b2); (try dsimp only); refine hK.out _ _ ?_ (fun hHeld2 => ?_); (focus ((try dsimp only); exact hcs.out _ _ hd.out rfl; done)); clear hK K'; clear hHeld; have hHeld := hHeld2; clear hHeld2; ((try simp only [Act.put, List.setIfInBounds_toArray]); (try dsimp only [List.set_cons_zero, List.set_cons_succ]))); (refine take_t (i := 8) (d := 22) (oi := _) (v := ?_) rfl rfl (by kernel_rfl) (by kernel_rfl) (by kernel_rfl) (by rfl) ?_ (by assumption) ?_; rotate_left; (focus (intro w0 hSw; (try dsimp only at hSw); go_simp; (try with_reducible rfl); done)); ((try simp only [Act.put, List.setIfInBounds_toArray]); (try dsimp only [List.set_cons_zero, List.set_cons_succ]))); (refine wpAnyH_ready (rs := [11]) (by kernel_rfl) (by simp) ?_; refine AllReadyH.cons (o := _) rfl (fun K' hK => ?_) AllReadyH.nil; go_simp; (go_at_call 44; (with_reducible refine (n3.out _).mono ?_); rintro e w2 ⟨rfl, b2⟩; replace hd := Lib.hid (hd.out.below b2); clear b2); (try dsimp only); refine hK.out _ _ ?_ (fun hHeld2 => ?_); (focus ((try dsimp only); exact hcs.out _ _ hd.out rfl; done)); clear hK K'; clear hHeld; have hHeld := hHeld2; clear hHeld2; ((try simp only [Act.put, List.setIfInBounds_toArray]); (try dsimp only [List.set_cons_zero, List.set_cons_succ]))); (refine take_t (i := 12) (d := 26) (oi := _) (v := ?_) rfl rfl (by kernel_rfl) (by kernel_rfl) (by kernel_rfl) (by rfl) ?_ (by assumption) ?_; rotate_left; (focus (intro w0 hSw; (try dsimp only at hSw); go_simp; (try with_reducible rfl); done)); ((try simp only [Act.put, List.setIfInBounds_toArray]); (try dsimp only [List.set_cons_zero, List.set_cons_succ]))); (refine take_t (i := 13) (d := 27) (oi := _) (v := ?_) rfl rfl (by kernel_rfl) (by kernel_rfl) (by kernel_rfl) (by rfl) ?_ (by assumption) ?_; rotate_left; (focus (intro w0 hSw; (try dsimp only at hSw); go_simp; (try with_reducible rfl); done)); ((try simp only [Act.put, List.setIfInBounds_toArray]); (try dsimp only [List.set_cons_zero, List.set_cons_succ]))); (refine take_t (i := 14) (d := 3) (oi := _) (v := ?_) rfl rfl (by kernel_rfl) (by kernel_rfl) (by kernel_rfl) (by rfl) ?_ (by assumption) ?_; rotate_left; (focus (intro w0 hSw; (try dsimp only at hSw); go_simp; (try with_reducible rfl); done)); ((try simp only [Act.put, List.setIfInBounds_toArray]); (try dsimp only [List.set_cons_zero, List.set_cons_succ]))); refine wpAnyH_done (by kernel_rfl) ?_ _; refine NoPanic.normal ?_
      go_wp2
      go_meet
      have hfl : L.flatMap labB = [] := by rw [hyes.out (by trivial)]; rfl
      exact ⟨by rw [hfl, List.append_nil, hh.out], hd.out⟩
    | false =>
      have hh : headL false L ty fm tw = numL nl := by unfold headL; rw [if_neg (by decide), hnl.out]
      have hb := hb1.out
      have hl := hnll.out
      have r3 : ¬ 9223372036854775807 < (boolL false).length + (numL nl).length := by omega
      replace hh := Lib.hid hh
      obtain ⟨C0, hC0⟩ : ∃ C, C = boolL false ++ numL nl := ⟨_, rfl⟩
      have hC0l : C0.length ≤ 31 := by rw [hC0, List.length_append]; omega
      replace hC0 := Lib.hid hC0; replace hC0l := Lib.hid hC0l
      clear hb hl
      go_upto_region 8 with (go_at_call 44; (with_reducible refine (hnl2.out _).mono ?_); rintro e w2 ⟨rfl, b2⟩; replace hp0 := Lib.hid (hp0.out.below b2); clear b2)
      clear c0 c1 c2 c3 c4 c5 r3
      have hp := hp0
      clear hp0
      go_loopg [3, 4] nl (fun gj s3 s4 wr => ∃ (j : Nat) (D : List UInt8), s3 = .string (str D) ∧ s4 = .int .i64 (j : Int) ∧ j + gj = nl ∧ Hp w [] [.box q #[.bool false, .slice a nl lcp, .int .i64 ty, .int .u64 fm, .int .u64 tw, .slice a2 np pcp] 26] wr ∧ D = C0 ++ (L.take j).flatMap labB ∧ D.length ≤ 31 + j * 10)
      case atStart => exact ⟨0, C0, by rw [hC0.out], rfl, by omega, hp.out, by simp, by have := hC0l.out; omega⟩
      case round =>
        clear hp
        obtain ⟨j, D, rfl, rfl, hjn, hp, hD, hDl⟩ := hrel
        replace hp := Lib.hid hp
        obtain ⟨c0, c1, c2, c3, c4, c5⟩ := hcs.out _ _ hp.out rfl
        cases gk with
        | succ g =>
          have hjlt : (j : Int) < (nl : Int) := by omega
          have hj0 : (0 : Int) ≤ (j : Int) := by omega
          obtain ⟨bb, o, rfl, hrw⟩ := hla2.out.resolve_left (by omega)
          obtain ⟨x, hx⟩ : ∃ x, L[j]? = some x := ⟨_, List.getElem?_eq_getElem (by have := hnl.out; omega)⟩
          obtain ⟨hx0, hx1⟩ := hLa.out x (List.mem_of_getElem? hx)
          have d0 : wr.cell? ⟨bb, o + j, none⟩ = some (.int .i64 x) := (hp.out.bel.cell hrw.1).trans (hrw.2 j _ (by simp [inC, hx]))
          have wx : IntKind.u64.wrap x = x := IntWalk.u64_in _ (by omega)
          have hn : ∀ W, Calls Tryd.prog 44 #[.int .u64 x] W fun e w' => e = .returned (.string (str (labB x))) ∧ Below W.heap.size W w' := fun W => by have := code.refNum_any x.toNat (by omega) W; rwa [show ((x.toNat : Nat) : Int) = x by omega] at this
          have hxl := labB_len x ⟨hx0, hx1⟩
          have hb2 : ¬ 9223372036854775807 < D.length + (labB x).length := by omega
          have hD2 : D ++ labB x = C0 ++ (L.take (j + 1)).flatMap labB := by rw [List.take_add_one, hx, hD]; simp
          have hl2 : (D ++ labB x).length ≤ 31 + (j + 1) * 10 := by rw [List.length_append]; omega
          replace hn := Lib.hid hn; replace hD2 := Lib.hid hD2; replace hl2 := Lib.hid hl2
          clear hx hrw hD hDl hxl hx0 hx1
          go_wp2_with (go_at_call 44; (with_reducible refine (hn.out _).mono ?_); rintro e w2 ⟨rfl, b2⟩; replace hp := Lib.hid (hp.out.below b2); clear b2)
          go_roundg g
          case rel => exact ⟨j + 1, _, rfl, by go_num, by omega, hp.out, hD2.out, hl2.out⟩
          case measure => omega
        | zero =>
          obtain rfl : j = nl := by omega
          have hjlt : ¬ ((j : Int) < (j : Int)) := by omega
          have hDf : D = boolL false ++ headL false L ty fm tw ++ L.flatMap labB := by rw [hD, List.take_of_length_le (by rw [← hnl.out]; exact Nat.le_refl _), hC0.out, hh.out]
          replace hDf := Lib.hid hDf
          clear hD hDl
          go_wp2
          go_meet
          exact ⟨by rw [hDf.out], hp.out⟩
  clear hp0
  obtain ⟨rfl, hp1⟩ := hcut
  have hp := Lib.hid hp1
  clear hp1
  obtain ⟨D, hD⟩ : ∃ C, C = boolL ed ++ headL ed L ty fm tw ++ L.flatMap labB := ⟨_, rfl⟩
  rw [← hD]
  have hDl : D.length ≤ 111 := by
    have h1 := flat_len_le labB 10 L fun x hx => labB_len x (hLa.out x hx)
    have := hHl.out
    have := hb1.out
    have := hnl.out
    rw [hD, List.length_append, List.length_append]; omega
  obtain ⟨c0, c1, c2, c3, c4, c5⟩ := hcs.out _ _ hp.out rfl
  have hb2 : ¬ 9223372036854775807 < D.length + (numL np).length := by have := hnpl.out; omega
  obtain ⟨C1, hC1⟩ : ∃ C, C = D ++ numL np := ⟨_, rfl⟩
  have hC1l : C1.length ≤ 121 := by rw [hC1, List.length_append]; have := hnpl.out; omega
  have hC1f : C1 = (boolL ed ++ headL ed L ty fm tw) ++ L.flatMap labB ++ numL np := by rw [hC1, hD]
  replace hC1 := Lib.hid hC1; replace hC1l := Lib.hid hC1l; replace hC1f := Lib.hid hC1f
  clear hD hDl
  go_upto_region 13 with (go_at_call 44; (with_reducible refine (hnp2.out _).mono ?_); rintro e w2 ⟨rfl, b2⟩; replace hp := Lib.hid (hp.out.below b2); clear b2)
  clear c0 c1 c2 c3 c4 c5
  go_loopg [3, 5] np (fun gm s3 s5 wr => ∃ (m : Nat) (D : List UInt8), s3 = .string (str D) ∧ s5 = .int .i64 (m : Int) ∧ m + gm = np ∧ Hp w [] [.box q #[.bool ed, .slice a nl lcp, .int .i64 ty, .int .u64 fm, .int .u64 tw, .slice a2 np pcp] 26] wr ∧ D = C1 ++ (P.take m).flatMap propB ∧ D.length ≤ 121 + m * 2030)
  case atStart => exact ⟨0, C1, by rw [hC1.out], rfl, by omega, hp.out, by simp, by have := hC1l.out; omega⟩
  case round =>
    clear hp
    obtain ⟨m, E, rfl, rfl, hmn, hp, hE, hEl⟩ := hrel
    replace hp := Lib.hid hp
    cases gk with
    | succ g =>
      have hjlt2 : (m : Int) < (np : Int) := by omega
      have hj0 : (0 : Int) ≤ (m : Int) := by omega
      obtain ⟨bb, o, rfl, hrw⟩ := hpr2.out.resolve_left (by omega)
      obtain ⟨x, hx⟩ : ∃ x, P[m]? = some x := ⟨_, List.getElem?_eq_getElem (by have := hnp.out; omega)⟩
      obtain ⟨hx0, hx1, hx2, hx3⟩ := hPa.out x (List.mem_of_getElem? hx)
      have hvx := hvk.out x (List.mem_of_getElem? hx)
      have hvp := hvx.rput hx3
      have hvl := hvx.len hx3
      have hEx : E ++ propB x = C1 ++ (P.take (m + 1)).flatMap propB := by rw [List.take_add_one, hx, hE]; simp
      obtain ⟨xk, xd, xn, xs⟩ := x
      have hvp2 : ∀ w, Calls Tryd.prog 45 #[.agg #[.int .i64 xd, .int .i64 xn, .string xs]] w fun e w' => e = .returned (.string (str (pB (xd, xn, xs)))) ∧ Below w.heap.size w w' := hvp
      have hds : ∀ W, Below w.heap.size w W → W.cell? ⟨bb, o + m * 4, none⟩ = some (.int .i64 xk) ∧ W.cell? ⟨bb, o + m * 4 + 1, none⟩ = some (.int .i64 xd) ∧ W.cell? ⟨bb, o + m * 4 + 2, none⟩ = some (.int .i64 xn) ∧ W.cell? ⟨bb, o + m * 4 + 3, none⟩ = some (.string xs) := fun W hb =>
        ⟨(hb.cell hrw.1).trans (hrw.elem0 Pr.c_len hx rfl), (hb.cell hrw.1).trans (hrw.elem Pr.c_len hx rfl), (hb.cell hrw.1).trans (hrw.elem Pr.c_len hx rfl), (hb.cell hrw.1).trans (hrw.elem Pr.c_len hx rfl)⟩
      have hx0' : 0 ≤ xk := hx0
      have hx1' : xk < 64 := hx1
      have wx : IntKind.u64.wrap xk = xk := IntWalk.u64_in _ (by omega)
      have hn : ∀ W, Calls Tryd.prog 44 #[.int .u64 xk] W fun e w' => e = .returned (.string (str (numL xk.toNat))) ∧ Below W.heap.size W w' := fun W => by have := code.refNum_any xk.toNat (by omega) W; rwa [show ((xk.toNat : Nat) : Int) = xk by omega] at this
      have hkl := code.numL_len64 xk.toNat (by omega)
      have hpe : propB ⟨xk, xd, xn, xs⟩ = numL xk.toNat ++ pB (xd, xn, xs) := rfl
      have hvl2 : (pB (xd, xn, xs)).length ≤ 2020 := hvl
      rw [hpe] at hEx
      generalize numL xk.toNat = A1 at hn hkl hEx hpe
      generalize pB (xd, xn, xs) = A2 at hvp2 hvl2 hEx hpe
      have r1 : ¬ 9223372036854775807 < A1.length + A2.length := by omega
      have r3 : ¬ 9223372036854775807 < E.length + (A1.length + A2.length) := by omega
      have hl2 : (E ++ (A1 ++ A2)).length ≤ 121 + (m + 1) * 2030 := by rw [List.length_append, List.length_append]; omega
      replace hn := Lib.hid hn; replace hvp2 := Lib.hid hvp2; replace hEx := Lib.hid hEx; replace hl2 := Lib.hid hl2; replace hds := Lib.hid hds
      clear hx hrw hE hEl hvp hvl hvl2 hvx hx0 hx1 hx2 hx3 hx0' hx1' hkl hpe
      obtain ⟨c0, c1, c2, c3, c4, c5⟩ := hcs.out _ _ hp.out rfl
      go_upto_region 15 with fail
      clear c0 c1 c2 c3 c4 c5
      have hd := Lib.hid hp.out.drew
      have hbs : ∀ W', Hp w [] [.box q #[.bool ed, .slice a nl lcp, .int .i64 ty, .int .u64 fm, .int .u64 tw, .slice (some ⟨bb, o, none⟩) np pcp] 26] W' → W'.cell? ⟨q, 5, none⟩ = some (.slice (some ⟨bb, o, none⟩) np pcp) ∧ W'.cell? ⟨bb, o + m * 4, none⟩ = some (.int .i64 xk) ∧ W'.cell? ⟨bb, o + m * 4 + 1, none⟩ = some (.int .i64 xd) ∧ W'.cell? ⟨bb, o + m * 4 + 2, none⟩ = some (.int .i64 xn) ∧ W'.cell? ⟨bb, o + m * 4 + 3, none⟩ = some (.string xs) := fun W' h => ⟨(h.cell (i := 0) rfl 5).trans rfl, hds.out _ h.bel⟩
      replace hbs := Lib.hid hbs
      refine wp_region_noPanic ?_; refine wp_region_held_drew (S := (fun W' => W'.cell? ⟨q, 5, none⟩ = some (.slice (some ⟨bb, o, none⟩) np pcp) ∧ W'.cell? ⟨bb, o + m * 4, none⟩ = some (.int .i64 xk) ∧ W'.cell? ⟨bb, o + m * 4 + 1, none⟩ = some (.int .i64 xd) ∧ W'.cell? ⟨bb, o + m * 4 + 2, none⟩ = some (.int .i64 xn) ∧ W'.cell? ⟨bb, o + m * 4 + 3, none⟩ = some (.string xs))) (by kernel_rfl) ?_ (fun hHeld => ?_); (focus ((try dsimp only); exact hbs.out _ hd.out; done)); (refine take_t (i := 0) (d := 65) (oi := _) (v := ?_) rfl rfl (by kernel_rfl) (by kernel_rfl) (by kernel_rfl) (by rfl) ?_ (by assumption) ?_; rotate_left; (focus (intro w0 hSw; (try dsimp only at hSw); go_simp; (try with_reducible rfl); done)); ((try simp only [Act.put, List.setIfInBounds_toArray]); (try dsimp only [List.set_cons_zero, List.set_cons_succ]))); (refine take_t (i := 1) (d := 66) (oi := _) (v := ?_) rfl rfl (by kernel_rfl) (by kernel_rfl) (by kernel_rfl) (by rfl) ?_ (by assumption) ?_; rotate_left; (focus (intro w0 hSw; (try dsimp only at hSw); go_simp; (try with_reducible rfl); done)); ((try simp only [Act.put, List.setIfInBounds_toArray]); (try dsimp only [List.set_cons_zero, List.set_cons_succ]))); (refine take_t (i := 2) (d := 67) (oi := _) (v := ?_) rfl rfl (by kernel_rfl) (by kernel_rfl) (by kernel_rfl) (by rfl) ?_ (by assumption) ?_; rotate_left; (focus (intro w0 hSw; (try dsimp only at hSw); go_simp; (try with_reducible rfl); done)); ((try simp only [Act.put, List.setIfInBounds_toArray]); (try dsimp only [List.set_cons_zero, List.set_cons_succ]))); (refine take_t (i := 3) (d := 68) (oi := _) (v := ?_) rfl rfl (by kernel_rfl) (by kernel_rfl) (by kernel_rfl) (by rfl) ?_ (by assumption) ?_; rotate_left; (focus (intro w0 hSw; (try dsimp only at hSw); go_simp; (try with_reducible rfl); done)); ((try simp only [Act.put, List.setIfInBounds_toArray]); (try dsimp only [List.set_cons_zero, List.set_cons_succ]))); (refine take_t (i := 4) (d := 69) (oi := _) (v := ?_) rfl rfl (by kernel_rfl) (by kernel_rfl) (by kernel_rfl) (by rfl) ?_ (by assumption) ?_; rotate_left; (focus (intro w0 hSw; (try dsimp only at hSw); go_simp; (try with_reducible rfl); done)); ((try simp only [Act.put, List.setIfInBounds_toArray]); (try dsimp only [List.set_cons_zero, List.set_cons_succ]))); (refine take_t (i := 5) (d := 70) (oi := _) (v := ?_) rfl rfl (by kernel_rfl) (by kernel_rfl) (by kernel_rfl) (by rfl) ?_ (by assumption) ?_; rotate_left; (focus (intro w0 hSw; (try dsimp only at hSw); go_simp; (try with_reducible rfl); done)); ((try simp only [Act.put, List.setIfInBounds_toArray]); (try dsimp only [List.set_cons_zero, List.set_cons_succ]))); (refine take_t (i := 6) (d := 71) (oi := _) (v := ?_) rfl rfl (by kernel_rfl) (by kernel_rfl) (by kernel_rfl) (by rfl) ?_ (by assumption) ?_; rotate_left; (focus (intro w0 hSw; (try dsimp only at hSw); go_simp; (try with_reducible rfl); done)); ((try simp only [Act.put, List.setIfInBounds_toArray]); (try dsimp only [List.set_cons_zero, List.set_cons_succ]))); (refine take_t (i := 7) (d := 72) (oi := _) (v := ?_) rfl rfl (by kernel_rfl) (by kernel_rfl) (by kernel_rfl) (by rfl) ?_ (by assumption) ?_; rotate_left; (focus (intro w0 hSw; (try dsimp only at hSw); go_simp; (try with_reducible rfl); done)); ((try simp only [Act.put, List.setIfInBounds_toArray]); (try dsimp only [List.set_cons_zero, List.set_cons_succ]))); (refine take_t (i := 9) (d := 74) (oi := _) (v := ?_) rfl rfl (by kernel_rfl) (by kernel_rfl) (by kernel_rfl) (by rfl) ?_ (by assumption) ?_; rotate_left; (focus (intro w0 hSw; (try dsimp only at hSw); go_simp; (try with_reducible rfl); done)); ((try simp only [Act.put, List.setIfInBounds_toArray]); (try dsimp only [List.set_cons_zero, List.set_cons_succ]))); (refine take_t (i := 10) (d := 75) (oi := _) (v := ?_) rfl rfl (by kernel_rfl) (by kernel_rfl) (by kernel_rfl) (by rfl) ?_ (by assumption) ?_; rotate_left; (focus (intro w0 hSw; (try dsimp only at hSw); go_simp; (try with_reducible rfl); done)); ((try simp only [Act.put, List.setIfInBounds_toArray]); (try dsimp only [List.set_cons_zero, List.set_cons_succ]))); (refine take_t (i := 11) (d := 76) (oi := _) (v := ?_) rfl rfl (by kernel_rfl) (by kernel_rfl) (by kernel_rfl) (by rfl) ?_ (by assumption) ?_; rotate_left; (focus (intro w0 hSw; (try dsimp only at hSw); go_simp; (try with_reducible rfl); done)); ((try simp only [Act.put, List.setIfInBounds_toArray]); (try dsimp only [List.set_cons_zero, List.set_cons_succ]))); (refine take_t (i := 12) (d := 77) (oi := _) (v := ?_) rfl rfl (by kernel_rfl) (by kernel_rfl) (by kernel_rfl) (by rfl) ?_ (by assumption) ?_; rotate_left; (focus (intro w0 hSw; (try dsimp only at hSw); go_simp; (try with_reducible rfl); done)); ((try simp only [Act.put, List.setIfInBounds_toArray]); (try dsimp only [List.set_cons_zero, List.set_cons_succ]))); (refine take_t (i := 13) (d := 78) (oi := _) (v := ?_) rfl rfl (by kernel_rfl) (by kernel_rfl) (by kernel_rfl) (by rfl) ?_ (by assumption) ?_; rotate_left; (focus (intro w0 hSw; (try dsimp only at hSw); go_simp; (try with_reducible rfl); done)); ((try simp only [Act.put, List.setIfInBounds_toArray]); (try dsimp only [List.set_cons_zero, List.set_cons_succ]))); (refine take_t (i := 14) (d := 79) (oi := _) (v := ?_) rfl rfl (by kernel_rfl) (by kernel_rfl) (by kernel_rfl) (by rfl) ?_ (by assumption) ?_; rotate_left; (focus (intro w0 hSw; (try dsimp only at hSw); go_simp; (try with_reducible rfl); done)); ((try simp only [Act.put, List.setIfInBounds_toArray]); (try dsimp only [List.set_cons_zero, List.set_cons_succ]))); (refine wpAnyH_ready (rs := [8]) (by kernel_rfl) (by simp) ?_; refine AllReadyH.cons (o := _) rfl (fun K' hK => ?_) AllReadyH.nil; go_simp; (go_at_call 44; (with_reducible refine (hn.out _).mono ?_); rintro e w2 ⟨rfl, b2⟩; replace hd := Lib.hid (hd.out.below b2); clear b2); (try dsimp only); refine hK.out _ _ ?_ (fun hHeld2 => ?_); (focus ((try dsimp only); exact hbs.out _ hd.out; done)); clear hK K'; clear hHeld; have hHeld := hHeld2; clear hHeld2; ((try simp only [Act.put, List.setIfInBounds_toArray]); (try dsimp only [List.set_cons_zero, List.set_cons_succ]))); (refine wpAnyH_ready (rs := [15]) (by kernel_rfl) (by simp) ?_; refine AllReadyH.cons (o := _) rfl (fun K' hK => ?_) AllReadyH.nil; go_simp; (go_at_call 45; (with_reducible refine (hvp2.out _).mono ?_); rintro e w2 ⟨rfl, b2⟩; replace hd := Lib.hid (hd.out.below b2); clear b2); (try dsimp only); refine hK.out _ _ ?_ (fun hHeld2 => ?_); (focus ((try dsimp only); exact hbs.out _ hd.out; done)); clear hK K'; clear hHeld; have hHeld := hHeld2; clear hHeld2; ((try simp only [Act.put, List.setIfInBounds_toArray]); (try dsimp only [List.set_cons_zero, List.set_cons_succ]))); (refine take_t (i := 16) (d := 81) (oi := _) (v := ?_) rfl rfl (by kernel_rfl) (by kernel_rfl) (by kernel_rfl) (by rfl) ?_ (by assumption) ?_; rotate_left; (focus (intro w0 hSw; (try dsimp only at hSw); go_simp; (try with_reducible rfl); done)); ((try simp only [Act.put, List.setIfInBounds_toArray]); (try dsimp only [List.set_cons_zero, List.set_cons_succ]))); (refine take_t (i := 17) (d := 82) (oi := _) (v := ?_) rfl rfl (by kernel_rfl) (by kernel_rfl) (by kernel_rfl) (by rfl) ?_ (by assumption) ?_; rotate_left; (focus (intro w0 hSw; (try dsimp only at hSw); go_simp; (try with_reducible rfl); done)); ((try simp only [Act.put, List.setIfInBounds_toArray]); (try dsimp only [List.set_cons_zero, List.set_cons_succ]))); (refine take_t (i := 18) (d := 3) (oi := _) (v := ?_) rfl rfl (by kernel_rfl) (by kernel_rfl) (by kernel_rfl) (by rfl) ?_ (by assumption) ?_; rotate_left; (focus (intro w0 hSw; (try dsimp only at hSw); go_simp; (try with_reducible rfl); done)); ((try simp only [Act.put, List.setIfInBounds_toArray]); (try dsimp only [List.set_cons_zero, List.set_cons_succ]))); refine wpAnyH_done (by kernel_rfl) ?_ _; refine NoPanic.normal ?_
      go_wp2
      go_roundg g
      case rel => exact ⟨m + 1, _, rfl, by go_num, by omega, hd.out, hEx.out, hl2.out⟩
      case measure => omega
    | zero =>
      obtain ⟨c0, c1, c2, c3, c4, c5⟩ := hcs.out _ _ hp.out rfl
      obtain rfl : m = np := by omega
      have hjlt2 : ¬ ((m : Int) < (m : Int)) := by omega
      have hEf : E = thB ed L ty fm tw P := by
        rw [hE, List.take_of_length_le (by rw [← hnp.out]; exact Nat.le_refl _), hC1f.out]
        unfold thB
        rw [← hnp.out]
      by_cases h4 : E.length ≤ 4096
      · have hSE : S = E := by rw [hS.out, ← hEf, if_pos h4]
        have h5 : ¬ (4096 : Int) < (E.length : Int) := by omega
        replace hSE := Lib.hid hSE
        clear hE hEl hEf h4
        go_wp2
        go_ret
        exact ⟨by rw [hSE.out]; rfl, hp.out.bel⟩
      · have hSE : S = [] := by rw [hS.out, ← hEf, if_neg h4]
        have h5 : (4096 : Int) < (E.length : Int) := by omega
        replace hSE := Lib.hid hSE
        clear hE hEl hEf h4
        go_wp2
        go_ret
        exact ⟨by rw [hSE.out]; rfl, hp.out.bel⟩
end Go.Proofs.YtcdgnhhciccoeaaDoor.recw
