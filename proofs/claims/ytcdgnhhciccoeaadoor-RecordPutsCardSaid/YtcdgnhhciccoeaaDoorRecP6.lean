/- A thing's bytes (record.Put). No condition but the slices, and values that both packages know. -/
import Derived.Test.YtcdgnhhciccoeaaDoorRecP5
import Derived.Test.YtcdgnhhciccoeaaDoorHpBu
import Derived.Test.YtcdgnhhciccoeaaDoorBuildL
import Derived.Deep.CutBlock
namespace Go.Proofs.YtcdgnhhciccoeaaDoor.recw
open Go.RowKit
open code (numL boolL)
attribute [local go_sem ↓] Go.wp_at_zero Go.wp_at_succ
attribute [local go_sem] str_size str_append
set_option linter.unusedVariables false
set_option linter.unusedSimpArgs false
set_option maxRecDepth 100000

theorem Hp_blen {w W : World} {X : List Nat} {rs : List Rs} {i b : Nat} {l : List UInt8} (h : Hp w X rs W) (hi : rs[i]? = some (bu b l)) : Calls Tryd.prog 34 #[.pointer (some ⟨b, 0, none⟩)] W fun e w' => e = .returned (.int .i64 l.length) ∧ w' = W := by
  obtain ⟨fp, hfp⟩ := h.bu hi
  exact build.blen b l W hfp.is
theorem flat_take2 {α : Type} (f : α → List UInt8) (l : List α) (k : Nat) (x : α) (h : l[k]? = some x) : (l.take (k + 1)).flatMap f = (l.take k).flatMap f ++ f x := by
  rw [List.take_add_one, h]; simp
theorem bool_put (b : Bool) (w : World) : Calls Tryd.prog 31 #[.bool b] w fun e w' => e = .returned (.string (str (boolL b))) ∧ Below w.heap.size w w' := code.boolPut_any b w
theorem put_no (ed : Bool) (la : Value) (ty fm tw : Int) (pr : Value) (L : List Int) (P : List Pr) (w : World) (hla : Sl w la L.length (inC L)) (hpr : Sl w pr P.length (prC P)) (hvk : ∀ p ∈ P, VK p.vl) (hok : thOk ed L ty fm tw P = false) :
    Calls Tryd.prog 8 #[thV ed la ty fm tw pr] w fun e w' => e = .returned (.string ⟨#[]⟩) ∧ Below w.heap.size w w' := by
  have hm : ∀ W, Below w.heap.size w W → Calls Tryd.prog 12 #[thV ed la ty fm tw pr] W fun e w' => e = .returned (.bool false) ∧ Below W.heap.size W w' := fun W hb => by
    have := may_any ed la ty fm tw pr L P W (hla.below hb) (hpr.below hb) hvk
    rwa [hok] at this
  have hp0 := (Hp.none_ w []).alloc #[.bool ed, la, .int .i64 ty, .int .u64 fm, .int .u64 tw, pr] 26
  clear hla hpr hvk hok
  unfold thV at hm ⊢
  replace hm := Lib.hid hm; replace hp0 := Lib.hid hp0
  go_enter Tryd.func8, Tryd.ntmps8
  go_upto_region 1 with fail
  generalize w.alloc _ = W at hp0 ⊢
  generalize hq : w.heap.size = q at hp0 ⊢
  clear hq
  have c0 := hp0.out.cell (i := 0) rfl 0; have c1 := hp0.out.cell (i := 0) rfl 1; have c2 := hp0.out.cell (i := 0) rfl 2; have c3 := hp0.out.cell (i := 0) rfl 3; have c4 := hp0.out.cell (i := 0) rfl 4; have c5 := hp0.out.cell (i := 0) rfl 5
  simp at c0 c1 c2 c3 c4 c5
  go_wp2_with (go_at_call 12; (with_reducible refine (hm.out _ hp0.out.bel).mono ?_); rintro e w1 ⟨rfl, b1⟩; replace hp0 := Lib.hid (hp0.out.below b1); clear b1)
  go_ret
  exact ⟨rfl, hp0.out.bel⟩
set_option maxHeartbeats 32000000 in
theorem put_yes (ed : Bool) (la : Value) (ty fm tw : Int) (pr : Value) (L : List Int) (P : List Pr) (w : World) (hla : Sl w la L.length (inC L)) (hpr : Sl w pr P.length (prC P)) (hvk : ∀ p ∈ P, VK p.vl) (hok : thOk ed L ty fm tw P = true)
    (hty : ed = true → 0 ≤ ty ∧ ty < 64) (hfm : 0 ≤ fm ∧ fm < 18446744073709551616) (htw : 0 ≤ tw ∧ tw < 18446744073709551616) (hL : L.length ≤ 8) (hLa : ∀ x ∈ L, 0 ≤ x ∧ x < 64) (hP : P.length ≤ 16) (hPa : ∀ x ∈ P, 0 ≤ x.key ∧ x.key < 64 ∧ x.kd ≠ 0 ∧ mB x.vl = true) :
    Calls Tryd.prog 8 #[thV ed la ty fm tw pr] w fun e w' => e = .returned (.string (str (thS ed L ty fm tw P))) ∧ Below w.heap.size w w' := by
  have hm : ∀ W, Below w.heap.size w W → Calls Tryd.prog 12 #[thV ed la ty fm tw pr] W fun e w' => e = .returned (.bool true) ∧ Below W.heap.size W w' := fun W hb => by
    have := may_any ed la ty fm tw pr L P W (hla.below hb) (hpr.below hb) hvk
    rwa [hok] at this
  have hp0 := (Hp.none_ w []).alloc #[.bool ed, la, .int .i64 ty, .int .u64 fm, .int .u64 tw, pr] 26
  obtain ⟨S, hS⟩ : ∃ S, S = thS ed L ty fm tw P := ⟨_, rfl⟩
  rw [← hS]
  unfold thS at hS
  rw [if_pos hok] at hS
  have hHl : (headL ed L ty fm tw).length ≤ 30 := by
    unfold headL
    have h1 := code.numL_len64 fm.toNat (by omega)
    have h2 := code.numL_len64 tw.toNat (by omega)
    have h4 := code.numL_len64 L.length (by omega)
    cases ed with
    | true =>
      have h3 := code.numL_len64 ty.toNat (by have := hty rfl; omega)
      simp; omega
    | false => simp; omega
  obtain ⟨a, lcp, rfl, _, hla2⟩ := hla
  obtain ⟨a2, pcp, rfl, _, hpr2⟩ := hpr
  obtain ⟨nl, hnl⟩ : ∃ n, n = L.length := ⟨_, rfl⟩
  obtain ⟨np, hnp⟩ : ∃ n, n = P.length := ⟨_, rfl⟩
  rw [← hnl] at hm hp0 hla2 hL ⊢
  rw [← hnp] at hm hp0 hpr2 hP ⊢
  have hbb := bool_put ed
  have hnl2 : ∀ W, Calls Tryd.prog 32 #[.int .u64 (nl : Int)] W fun e w' => e = .returned (.string (str (numL nl))) ∧ Below W.heap.size W w' := fun W => code.num_any nl (by omega) W
  have hnp2 : ∀ W, Calls Tryd.prog 32 #[.int .u64 (np : Int)] W fun e w' => e = .returned (.string (str (numL np))) ∧ Below W.heap.size W w' := fun W => code.num_any np (by omega) W
  have wnl : IntKind.u64.wrap (nl : Int) = (nl : Int) := IntWalk.u64_in _ (by omega)
  have wnp : IntKind.u64.wrap (np : Int) = (np : Int) := IntWalk.u64_in _ (by omega)
  have hnpl := code.numL_len64 np (by omega)
  replace hS := Lib.hid hS; replace hHl := Lib.hid hHl; replace hla2 := Lib.hid hla2; replace hpr2 := Lib.hid hpr2; replace hvk := Lib.hid hvk; replace hPa := Lib.hid hPa; replace hLa := Lib.hid hLa; replace hnl := Lib.hid hnl; replace hnp := Lib.hid hnp
  replace hbb := Lib.hid hbb; replace hnl2 := Lib.hid hnl2; replace hnp2 := Lib.hid hnp2; replace hty := Lib.hid hty; replace hfm := Lib.hid hfm; replace htw := Lib.hid htw; replace hnpl := Lib.hid hnpl
  clear hok
  unfold thV at hm ⊢
  replace hm := Lib.hid hm; replace hp0 := Lib.hid hp0
  go_enter Tryd.func8, Tryd.ntmps8
  go_upto_region 1 with fail
  generalize w.alloc _ = W at hp0 ⊢
  generalize hq : w.heap.size = q at hp0 ⊢
  clear hq
  have c0 := hp0.out.cell (i := 0) rfl 0; have c1 := hp0.out.cell (i := 0) rfl 1; have c2 := hp0.out.cell (i := 0) rfl 2; have c3 := hp0.out.cell (i := 0) rfl 3; have c4 := hp0.out.cell (i := 0) rfl 4; have c5 := hp0.out.cell (i := 0) rfl 5
  simp at c0 c1 c2 c3 c4 c5
  go_upto_region 4 with (go_at_call 12; (with_reducible refine (hm.out _ hp0.out.bel).mono ?_); rintro e w1 ⟨rfl, b1⟩; replace hp0 := Lib.hid (hp0.out.below b1); clear b1)
  have hp := hp0.out.bnew
  have hbge := hp0.out.size
  clear hp0 c0 c1 c2 c3 c4 c5 hm
  generalize w1.alloc _ = W2 at hp ⊢
  generalize w1.heap.size = b at hp hbge ⊢
  have hcs : ∀ (C : List UInt8) (W' : World), Hp w [] [bu b C, .box q #[.bool ed, .slice a nl lcp, .int .i64 ty, .int .u64 fm, .int .u64 tw, .slice a2 np pcp] 26] W' → W'.cell? ⟨q, 0, none⟩ = some (.bool ed) ∧ W'.cell? ⟨q, 1, none⟩ = some (.slice a nl lcp) ∧ W'.cell? ⟨q, 2, none⟩ = some (.int .i64 ty) ∧ W'.cell? ⟨q, 3, none⟩ = some (.int .u64 fm) ∧ W'.cell? ⟨q, 4, none⟩ = some (.int .u64 tw) ∧ W'.cell? ⟨q, 5, none⟩ = some (.slice a2 np pcp) := fun C W' h =>
    ⟨(h.cell (i := 1) rfl 0).trans rfl, (h.cell (i := 1) rfl 1).trans rfl, (h.cell (i := 1) rfl 2).trans rfl, (h.cell (i := 1) rfl 3).trans rfl, (h.cell (i := 1) rfl 4).trans rfl, (h.cell (i := 1) rfl 5).trans rfl⟩
  replace hcs := Lib.hid hcs; replace hp := Lib.hid hp; replace hbge := Lib.hid hbge
  have hbl : (([] : List UInt8).length) + (boolL ed).length ≤ 140737488355328 := by simp [boolL]
  have hbl1 : ([] ++ boolL ed).length = 1 := by simp [boolL]
  replace hbl := Lib.hid hbl; replace hbl1 := Lib.hid hbl1
  have c0 := (hcs.out _ _ hp.out).1
  go_upto_region 5 with (first
    | (go_at_call 31; (with_reducible refine (hbb.out _).mono ?_); rintro e w2 ⟨rfl, b2⟩; replace hp := Lib.hid (hp.out.below b2); clear b2)
    | (go_at_call 30; (with_reducible refine (hp.out.write (i := 0) rfl _ hbl.out).mono ?_); rintro e w3 ⟨rfl, h1⟩; replace hp := Lib.hid h1; clear h1; replace c0 := (hcs.out _ _ hp.out).1))
  generalize w3 = W3 at hp c0 ⊢
  replace hp : Hid (Hp w [] [bu b ([] ++ boolL ed), .box q #[.bool ed, .slice a nl lcp, .int .i64 ty, .int .u64 fm, .int .u64 tw, .slice a2 np pcp] 26] W3) := hp
  rw [List.nil_append] at hp hbl1
  go_upto_if 16 with fail
  clear c0
  go_cut [] from 17 to 36 (fun wx => Hp w [] [bu b (boolL ed ++ headL ed L ty fm tw), .box q #[.bool ed, .slice a nl lcp, .int .i64 ty, .int .u64 fm, .int .u64 tw, .slice a2 np pcp] 26] wx)
  case first =>
    obtain ⟨c0, c1, c2, c3, c4, c5⟩ := hcs.out _ _ hp.out
    cases ed with
    | true =>
      obtain ⟨hty0, hty1⟩ := hty.out rfl
      have wty : IntKind.u64.wrap ty = ty := IntWalk.u64_in _ (by omega)
      have n1 : ∀ W, Calls Tryd.prog 32 #[.int .u64 ty] W fun e w' => e = .returned (.string (str (numL ty.toNat))) ∧ Below W.heap.size W w' := fun W => by have := code.num_any ty.toNat (by omega) W; rwa [show ((ty.toNat : Nat) : Int) = ty by omega] at this
      have n2 : ∀ W, Calls Tryd.prog 32 #[.int .u64 fm] W fun e w' => e = .returned (.string (str (numL fm.toNat))) ∧ Below W.heap.size W w' := fun W => by have := code.num_any fm.toNat (by have := hfm.out; omega) W; rwa [show ((fm.toNat : Nat) : Int) = fm by have := hfm.out; omega] at this
      have n3 : ∀ W, Calls Tryd.prog 32 #[.int .u64 tw] W fun e w' => e = .returned (.string (str (numL tw.toNat))) ∧ Below W.heap.size W w' := fun W => by have := code.num_any tw.toNat (by have := htw.out; omega) W; rwa [show ((tw.toNat : Nat) : Int) = tw by have := htw.out; omega] at this
      have l1 := code.numL_len64 ty.toNat (by omega)
      have l2 := code.numL_len64 fm.toNat (by have := hfm.out; omega)
      have l3 := code.numL_len64 tw.toNat (by have := htw.out; omega)
      have hh : headL true L ty fm tw = numL ty.toNat ++ (numL fm.toNat ++ numL tw.toNat) := by unfold headL; rw [if_pos rfl, List.append_assoc]
      generalize numL ty.toNat = A1 at n1 l1 hh
      generalize numL fm.toNat = A2 at n2 l2 hh
      generalize numL tw.toNat = A3 at n3 l3 hh
      have r1 : ¬ 9223372036854775807 < A1.length + A2.length := by omega
      have r2 : ¬ 9223372036854775807 < A1.length + A2.length + A3.length := by omega
      have r3 : (boolL true).length + (A1 ++ (A2 ++ A3)).length ≤ 140737488355328 := by rw [hbl1.out]; simp; omega
      replace r3 := Lib.hid r3; replace n1 := Lib.hid n1; replace n2 := Lib.hid n2; replace n3 := Lib.hid n3
      replace hh := Lib.hid hh
      clear l1 l2 l3 hty0 hty1
      go_upto_region 6 with fail
      replace hp := Lib.hid hp.out.drew
      obtain ⟨c0, c1, c2, c3, c4, c5⟩ := hcs.out _ _ hp.out
      refine wp_region_noPanic ?_; refine wp_region_held_drew (S := (fun W' => W'.cell? ⟨q, 2, none⟩ = some (.int .i64 ty) ∧ W'.cell? ⟨q, 3, none⟩ = some (.int .u64 fm) ∧ W'.cell? ⟨q, 4, none⟩ = some (.int .u64 tw))) (by kernel_rfl) ?_ (fun hHeld => ?_); (focus ((try dsimp only); (first | exact ⟨c2, c3, c4⟩ | exact ⟨(hcs.out _ _ hp.out).2.2.1, (hcs.out _ _ hp.out).2.2.2.1, (hcs.out _ _ hp.out).2.2.2.2.1⟩); done)); (refine take_t (i := 0) (d := 17) (oi := _) (v := ?_) rfl rfl (by kernel_rfl) (by kernel_rfl) (by kernel_rfl) (by rfl) ?_ (by assumption) ?_; rotate_left; (focus (intro w0 hSw; (try dsimp only at hSw); go_simp; (try with_reducible rfl); done)); ((try simp only [Act.put, List.setIfInBounds_toArray]); (try dsimp only [List.set_cons_zero, List.set_cons_succ]))); (refine take_t (i := 1) (d := 18) (oi := _) (v := ?_) rfl rfl (by kernel_rfl) (by kernel_rfl) (by kernel_rfl) (by rfl) ?_ (by assumption) ?_; rotate_left; (focus (intro w0 hSw; (try dsimp only at hSw); go_simp; (try with_reducible rfl); done)); ((try simp only [Act.put, List.setIfInBounds_toArray]); (try dsimp only [List.set_cons_zero, List.set_cons_succ]))); (refine take_t (i := 2) (d := 19) (oi := _) (v := ?_) rfl rfl (by kernel_rfl) (by kernel_rfl) (by kernel_rfl) (by rfl) ?_ (by assumption) ?_; rotate_left; (focus (intro w0 hSw; (try dsimp only at hSw); go_simp; (try with_reducible rfl); done)); ((try simp only [Act.put, List.setIfInBounds_toArray]); (try dsimp only [List.set_cons_zero, List.set_cons_succ]))); (refine take_t (i := 4) (d := 21) (oi := _) (v := ?_) rfl rfl (by kernel_rfl) (by kernel_rfl) (by kernel_rfl) (by rfl) ?_ (by assumption) ?_; rotate_left; (focus (intro w0 hSw; (try dsimp only at hSw); go_simp; (try with_reducible rfl); done)); ((try simp only [Act.put, List.setIfInBounds_toArray]); (try dsimp only [List.set_cons_zero, List.set_cons_succ]))); (refine take_t (i := 5) (d := 22) (oi := _) (v := ?_) rfl rfl (by kernel_rfl) (by kernel_rfl) (by kernel_rfl) (by rfl) ?_ (by assumption) ?_; rotate_left; (focus (intro w0 hSw; (try dsimp only at hSw); go_simp; (try with_reducible rfl); done)); ((try simp only [Act.put, List.setIfInBounds_toArray]); (try dsimp only [List.set_cons_zero, List.set_cons_succ]))); (refine take_t (i := 8) (d := 25) (oi := _) (v := ?_) rfl rfl (by kernel_rfl) (by kernel_rfl) (by kernel_rfl) (by rfl) ?_ (by assumption) ?_; rotate_left; (focus (intro w0 hSw; (try dsimp only at hSw); go_simp; (try with_reducible rfl); done)); ((try simp only [Act.put, List.setIfInBounds_toArray]); (try dsimp only [List.set_cons_zero, List.set_cons_succ]))); (refine take_t (i := 9) (d := 26) (oi := _) (v := ?_) rfl rfl (by kernel_rfl) (by kernel_rfl) (by kernel_rfl) (by rfl) ?_ (by assumption) ?_; rotate_left; (focus (intro w0 hSw; (try dsimp only at hSw); go_simp; (try with_reducible rfl); done)); ((try simp only [Act.put, List.setIfInBounds_toArray]); (try dsimp only [List.set_cons_zero, List.set_cons_succ]))); (refine wpAnyH_ready (rs := [3]) (by kernel_rfl) (by simp) ?_; refine AllReadyH.cons (o := _) rfl (fun K' hK => ?_) AllReadyH.nil; go_simp; (go_at_call 32; (with_reducible refine (n1.out _).mono ?_); rintro e w2 ⟨rfl, b2⟩; replace hp := Lib.hid (hp.out.below b2); clear b2); (try dsimp only); refine hK.out _ _ ?_ (fun hHeld2 => ?_); (focus ((try dsimp only); (first | exact ⟨c2, c3, c4⟩ | exact ⟨(hcs.out _ _ hp.out).2.2.1, (hcs.out _ _ hp.out).2.2.2.1, (hcs.out _ _ hp.out).2.2.2.2.1⟩); done)); clear hK K'; clear hHeld; have hHeld := hHeld2; clear hHeld2; ((try simp only [Act.put, List.setIfInBounds_toArray]); (try dsimp only [List.set_cons_zero, List.set_cons_succ]))); (refine wpAnyH_ready (rs := [6]) (by kernel_rfl) (by simp) ?_; refine AllReadyH.cons (o := _) rfl (fun K' hK => ?_) AllReadyH.nil; go_simp; (go_at_call 32; (with_reducible refine (n2.out _).mono ?_); rintro e w2 ⟨rfl, b2⟩; replace hp := Lib.hid (hp.out.below b2); clear b2); (try dsimp only); refine hK.out _ _ ?_ (fun hHeld2 => ?_); (focus ((try dsimp only); (first | exact ⟨c2, c3, c4⟩ | exact ⟨(hcs.out _ _ hp.out).2.2.1, (hcs.out _ _ hp.out).2.2.2.1, (hcs.out _ _ hp.out).2.2.2.2.1⟩); done)); clear hK K'; clear hHeld; have hHeld := hHeld2; clear hHeld2; ((try simp only [Act.put, List.setIfInBounds_toArray]); (try dsimp only [List.set_cons_zero, List.set_cons_succ]))); (refine take_t (i := 7) (d := 24) (oi := _) (v := ?_) rfl rfl (by kernel_rfl) (by kernel_rfl) (by kernel_rfl) (by rfl) ?_ (by assumption) ?_; rotate_left; (focus (intro w0 hSw; (try dsimp only at hSw); go_simp; (try with_reducible rfl); done)); ((try simp only [Act.put, List.setIfInBounds_toArray]); (try dsimp only [List.set_cons_zero, List.set_cons_succ]))); (refine wpAnyH_ready (rs := [10]) (by kernel_rfl) (by simp) ?_; refine AllReadyH.cons (o := _) rfl (fun K' hK => ?_) AllReadyH.nil; go_simp; (go_at_call 32; (with_reducible refine (n3.out _).mono ?_); rintro e w2 ⟨rfl, b2⟩; replace hp := Lib.hid (hp.out.below b2); clear b2); (try dsimp only); refine hK.out _ _ ?_ (fun hHeld2 => ?_); (focus ((try dsimp only); (first | exact ⟨c2, c3, c4⟩ | exact ⟨(hcs.out _ _ hp.out).2.2.1, (hcs.out _ _ hp.out).2.2.2.1, (hcs.out _ _ hp.out).2.2.2.2.1⟩); done)); clear hK K'; clear hHeld; have hHeld := hHeld2; clear hHeld2; ((try simp only [Act.put, List.setIfInBounds_toArray]); (try dsimp only [List.set_cons_zero, List.set_cons_succ]))); (refine take_t (i := 11) (d := 28) (oi := _) (v := ?_) rfl rfl (by kernel_rfl) (by kernel_rfl) (by kernel_rfl) (by rfl) ?_ (by assumption) ?_; rotate_left; (focus (intro w0 hSw; (try dsimp only at hSw); go_simp; (try with_reducible rfl); done)); ((try simp only [Act.put, List.setIfInBounds_toArray]); (try dsimp only [List.set_cons_zero, List.set_cons_succ]))); (refine wpAnyH_ready (rs := [12]) (by kernel_rfl) (by simp) ?_; refine AllReadyH.cons (o := _) rfl (fun K' hK => ?_) AllReadyH.nil; go_simp; (go_at_call 30; (with_reducible refine (hp.out.write (i := 0) rfl _ r3.out).mono ?_); rintro e w3 ⟨rfl, h1⟩; replace hp := Lib.hid h1; clear h1); (try dsimp only); refine hK.out _ _ ?_ (fun hHeld2 => ?_); (focus ((try dsimp only); (first | exact ⟨c2, c3, c4⟩ | exact ⟨(hcs.out _ _ hp.out).2.2.1, (hcs.out _ _ hp.out).2.2.2.1, (hcs.out _ _ hp.out).2.2.2.2.1⟩); done)); clear hK K'; clear hHeld; have hHeld := hHeld2; clear hHeld2; ((try simp only [Act.put, List.setIfInBounds_toArray]); (try dsimp only [List.set_cons_zero, List.set_cons_succ]))); refine wpAnyH_done (by kernel_rfl) ?_ _; refine NoPanic.normal ?_
      go_wp2
      go_meet
      rw [hh.out]
      exact hp.out
    | false =>
      have hh : headL false L ty fm tw = numL nl := by unfold headL; rw [if_neg (by decide), hnl.out]
      have l1 := code.numL_len64 nl (by omega)
      have r3 : (boolL false).length + (numL nl).length ≤ 140737488355328 := by rw [hbl1.out]; omega
      replace r3 := Lib.hid r3; replace hh := Lib.hid hh
      clear l1
      go_wp2_with (first
        | (go_at_call 32; (with_reducible refine (hnl2.out _).mono ?_); rintro e w2 ⟨rfl, b2⟩; replace hp := Lib.hid (hp.out.below b2); clear b2)
        | (go_at_call 30; (with_reducible refine (hp.out.write (i := 0) rfl _ r3.out).mono ?_); rintro e w3 ⟨rfl, h1⟩; replace hp := Lib.hid h1; clear h1))
      go_meet
      rw [hh.out]
      exact hp.out
  clear hp
  replace hp := Lib.hid hcut
  clear hcut
  obtain ⟨C0, hC0⟩ : ∃ C, C = boolL ed ++ headL ed L ty fm tw := ⟨_, rfl⟩
  rw [← hC0] at hp
  have hC0l : C0.length ≤ 31 := by rw [hC0, List.length_append, hbl1.out]; have := hHl.out; omega
  replace hC0 := Lib.hid hC0; replace hC0l := Lib.hid hC0l
  obtain ⟨c0, c1, c2, c3, c4, c5⟩ := hcs.out _ _ hp.out
  go_upto_region 9 with fail
  clear c0 c1 c2 c3 c4 c5
  go_loopg [39] nl (fun gj s39 wr => ∃ (j : Nat) (D : List UInt8), s39 = .int .i64 (j : Int) ∧ j + gj = nl ∧ Hp w [] [bu b D, .box q #[.bool ed, .slice a nl lcp, .int .i64 ty, .int .u64 fm, .int .u64 tw, .slice a2 np pcp] 26] wr ∧ D = C0 ++ (L.take j).flatMap labB ∧ D.length ≤ 31 + j * 10)
  case atStart => exact ⟨0, C0, rfl, by omega, hp.out, by simp, by have := hC0l.out; omega⟩
  case round =>
    clear hp
    obtain ⟨j, D, rfl, hjn, hp, hD, hDl⟩ := hrel
    replace hp := Lib.hid hp
    cases gk with
    | succ g =>
      have hjlt : (j : Int) < (nl : Int) := by omega
      have hj0 : (0 : Int) ≤ (j : Int) := by omega
      obtain ⟨bb, o, rfl, hrw⟩ := hla2.out.resolve_left (by omega)
      obtain ⟨x, hx⟩ : ∃ x, L[j]? = some x := ⟨_, List.getElem?_eq_getElem (by have := hnl.out; omega)⟩
      obtain ⟨hx0, hx1⟩ := hLa.out x (List.mem_of_getElem? hx)
      have d0 : wr.cell? ⟨bb, o + j, none⟩ = some (.int .i64 x) := (hp.out.bel.cell hrw.1).trans (hrw.2 j _ (by simp [inC, hx]))
      have wx : IntKind.u64.wrap x = x := IntWalk.u64_in _ (by omega)
      have hn : ∀ W, Calls Tryd.prog 32 #[.int .u64 x] W fun e w' => e = .returned (.string (str (labB x))) ∧ Below W.heap.size W w' := fun W => by have := code.num_any x.toNat (by omega) W; rwa [show ((x.toNat : Nat) : Int) = x by omega] at this
      have hxl := labB_len x ⟨hx0, hx1⟩
      have hb2 : D.length + (labB x).length ≤ 140737488355328 := by omega
      have hD2 : D ++ labB x = C0 ++ (L.take (j + 1)).flatMap labB := by rw [flat_take2 labB L j x hx, hD]; simp
      have hl2 : (D ++ labB x).length ≤ 31 + (j + 1) * 10 := by rw [List.length_append]; omega
      replace hn := Lib.hid hn; replace hb2 := Lib.hid hb2; replace hD2 := Lib.hid hD2; replace hl2 := Lib.hid hl2
      clear hx hrw hD hDl hxl hx0 hx1
      go_wp2_with (first
        | (go_at_call 32; (with_reducible refine (hn.out _).mono ?_); rintro e w2 ⟨rfl, b2⟩; replace hp := Lib.hid (hp.out.below b2); clear b2)
        | (go_at_call 30; (with_reducible refine (hp.out.write (i := 0) rfl _ hb2.out).mono ?_); rintro e w3 ⟨rfl, h1⟩; replace hp := Lib.hid h1; clear h1))
      go_roundg g
      case rel => exact ⟨j + 1, _, by go_num, by omega, hp.out, hD2.out, hl2.out⟩
      case measure => omega
    | zero =>
      obtain rfl : j = nl := by omega
      have hjlt : ¬ ((j : Int) < (j : Int)) := by omega
      obtain ⟨c0, c1, c2, c3, c4, c5⟩ := hcs.out _ _ hp.out
      have hDf : D = C0 ++ L.flatMap labB := by rw [hD, List.take_of_length_le (by rw [← hnl.out]; exact Nat.le_refl _)]
      have hb2 : D.length + (numL np).length ≤ 140737488355328 := by have := hnpl.out; omega
      obtain ⟨C1, hC1⟩ : ∃ C, C = D ++ numL np := ⟨_, rfl⟩
      have hC1l : C1.length ≤ 121 := by rw [hC1, List.length_append]; have := hnpl.out; omega
      have hC1f : C1 = (boolL ed ++ headL ed L ty fm tw) ++ L.flatMap labB ++ numL np := by rw [hC1, hDf, hC0.out]
      replace hb2 := Lib.hid hb2; replace hC1 := Lib.hid hC1; replace hC1l := Lib.hid hC1l; replace hC1f := Lib.hid hC1f
      clear hD hDf hDl
      go_upto_region 14 with (first
        | (go_at_call 32; (with_reducible refine (hnp2.out _).mono ?_); rintro e w2 ⟨rfl, b2⟩; replace hp := Lib.hid (hp.out.below b2); clear b2)
        | (go_at_call 30; (with_reducible refine (hp.out.write (i := 0) rfl _ hb2.out).mono ?_); rintro e w3 ⟨rfl, h1⟩; replace hp := Lib.hid h1; clear h1))
      generalize w3 = W6 at hp ⊢
      replace hp : Hid (Hp w [] [bu b (D ++ numL np), .box q #[.bool ed, .slice a j lcp, .int .i64 ty, .int .u64 fm, .int .u64 tw, .slice a2 np pcp] 26] W6) := hp
      rw [← hC1.out] at hp
      replace c5 := (hcs.out _ _ hp.out).2.2.2.2.2
      clear c0 c1 c2 c3 c4 hC1
      go_upto_region 15 with fail
      clear c5
      go_loopg [57] np (fun gm s57 wr => ∃ (m : Nat) (D : List UInt8), s57 = .int .i64 (m : Int) ∧ m + gm = np ∧ Hp w [] [bu b D, .box q #[.bool ed, .slice a j lcp, .int .i64 ty, .int .u64 fm, .int .u64 tw, .slice a2 np pcp] 26] wr ∧ D = C1 ++ (P.take m).flatMap propB ∧ D.length ≤ 121 + m * 2030)
      case atStart => exact ⟨0, C1, rfl, by omega, hp.out, by simp, by have := hC1l.out; omega⟩
      case round =>
        clear hp
        obtain ⟨m, E, rfl, hmn, hp, hE, hEl⟩ := hrel
        replace hp := Lib.hid hp
        cases gk with
        | succ g =>
          have hjlt2 : (m : Int) < (np : Int) := by omega
          have hj0 : (0 : Int) ≤ (m : Int) := by omega
          obtain ⟨bb, o, rfl, hrw⟩ := hpr2.out.resolve_left (by omega)
          obtain ⟨x, hx⟩ : ∃ x, P[m]? = some x := ⟨_, List.getElem?_eq_getElem (by have := hnp.out; omega)⟩
          obtain ⟨hx0, hx1, hx2, hx3⟩ := hPa.out x (List.mem_of_getElem? hx)
          have hvx := hvk.out x (List.mem_of_getElem? hx)
          have hvp := hvx.put hx3
          have hvl := hvx.len hx3
          have hEx : E ++ propB x = C1 ++ (P.take (m + 1)).flatMap propB := by rw [flat_take2 propB P m x hx, hE]; simp
          obtain ⟨xk, xd, xn, xs⟩ := x
          have hvp2 : ∀ w, Calls Tryd.prog 33 #[.agg #[.int .i64 xd, .int .i64 xn, .string xs]] w fun e w' => e = .returned (.string (str (pB (xd, xn, xs)))) ∧ Below w.heap.size w w' := hvp
          have d0 : wr.cell? ⟨bb, o + m * 4, none⟩ = some (.int .i64 xk) := (hp.out.bel.cell hrw.1).trans (hrw.elem0 Pr.c_len hx rfl)
          have d1 : wr.cell? ⟨bb, o + m * 4 + 1, none⟩ = some (.int .i64 xd) := (hp.out.bel.cell hrw.1).trans (hrw.elem Pr.c_len hx rfl)
          have d2 : wr.cell? ⟨bb, o + m * 4 + 2, none⟩ = some (.int .i64 xn) := (hp.out.bel.cell hrw.1).trans (hrw.elem Pr.c_len hx rfl)
          have d3 : wr.cell? ⟨bb, o + m * 4 + 3, none⟩ = some (.string xs) := (hp.out.bel.cell hrw.1).trans (hrw.elem Pr.c_len hx rfl)
          have hpz := hp.out.alloc #[.int .i64 0, .int .i64 0, .int .i64 0, .string ⟨#[]⟩] 75
          have z0' := hpz.cell (i := 0) rfl 0; have z1 := hpz.cell (i := 0) rfl 1; have z2 := hpz.cell (i := 0) rfl 2; have z3 := hpz.cell (i := 0) rfl 3
          have y0 := hpz.free (i := 0) rfl 0; have y1 := hpz.free (i := 0) rfl 1; have y2 := hpz.free (i := 0) rfl 2; have y3 := hpz.free (i := 0) rfl 3
          simp at z0' z1 z2 z3
          have hpb := Lib.hid (hp.out.alloc #[.int .i64 xk, .int .i64 xd, .int .i64 xn, .string xs] 75)
          have hx0' : 0 ≤ xk := hx0
          have hx1' : xk < 64 := hx1
          have wx : IntKind.u64.wrap xk = xk := IntWalk.u64_in _ (by omega)
          have hn : ∀ W, Calls Tryd.prog 32 #[.int .u64 xk] W fun e w' => e = .returned (.string (str (numL xk.toNat))) ∧ Below W.heap.size W w' := fun W => by have := code.num_any xk.toNat (by omega) W; rwa [show ((xk.toNat : Nat) : Int) = xk by omega] at this
          have hkl := code.numL_len64 xk.toNat (by omega)
          have hpe : propB ⟨xk, xd, xn, xs⟩ = numL xk.toNat ++ pB (xd, xn, xs) := rfl
          have hvl2 : (pB (xd, xn, xs)).length ≤ 2020 := hvl
          rw [hpe] at hEx
          generalize numL xk.toNat = A1 at hn hkl hEx hpe
          generalize pB (xd, xn, xs) = A2 at hvp2 hvl2 hEx hpe
          have r1 : ¬ 9223372036854775807 < A1.length + A2.length := by omega
          have r3 : E.length + (A1 ++ A2).length ≤ 140737488355328 := by rw [List.length_append]; omega
          have hl2 : (E ++ (A1 ++ A2)).length ≤ 121 + (m + 1) * 2030 := by rw [List.length_append, List.length_append]; omega
          replace r3 := Lib.hid r3; replace hn := Lib.hid hn; replace hvp2 := Lib.hid hvp2; replace hEx := Lib.hid hEx; replace hl2 := Lib.hid hl2
          clear hx hrw hE hEl hpz hvp hvl hvl2 hvx hx0 hx1 hx2 hx3 hx0' hx1' hkl hpe
          go_upto_region 17 with fail
          clear z0' z1 z2 z3 y0 y1 y2 y3 d0 d1 d2 d3 hp
          generalize wr.alloc _ = W5 at hpb ⊢
          generalize wr.heap.size = qb at hpb ⊢
          replace hpb := Lib.hid hpb.out.drew
          have hbs : ∀ (D : List UInt8) (W' : World), Hp w [] [.box qb #[.int .i64 xk, .int .i64 xd, .int .i64 xn, .string xs] 75, bu b D, .box q #[.bool ed, .slice a j lcp, .int .i64 ty, .int .u64 fm, .int .u64 tw, .slice (some ⟨bb, o, none⟩) np pcp] 26] W' → W'.cell? ⟨qb, 0, none⟩ = some (.int .i64 xk) ∧ W'.cell? ⟨qb, 1, none⟩ = some (.int .i64 xd) ∧ W'.cell? ⟨qb, 2, none⟩ = some (.int .i64 xn) ∧ W'.cell? ⟨qb, 3, none⟩ = some (.string xs) := fun D W' h =>
            ⟨(h.cell (i := 0) rfl 0).trans rfl, (h.cell (i := 0) rfl 1).trans rfl, (h.cell (i := 0) rfl 2).trans rfl, (h.cell (i := 0) rfl 3).trans rfl⟩
          replace hbs := Lib.hid hbs
          refine wp_region_noPanic ?_; refine wp_region_held_drew (S := (fun W' => W'.cell? ⟨qb, 0, none⟩ = some (.int .i64 xk) ∧ W'.cell? ⟨qb, 1, none⟩ = some (.int .i64 xd) ∧ W'.cell? ⟨qb, 2, none⟩ = some (.int .i64 xn) ∧ W'.cell? ⟨qb, 3, none⟩ = some (.string xs))) (by kernel_rfl) ?_ (fun hHeld => ?_); (focus ((try dsimp only); exact hbs.out _ _ hpb.out; done)); (refine take_t (i := 0) (d := 61) (oi := _) (v := ?_) rfl rfl (by kernel_rfl) (by kernel_rfl) (by kernel_rfl) (by rfl) ?_ (by assumption) ?_; rotate_left; (focus (intro w0 hSw; (try dsimp only at hSw); go_simp; (try with_reducible rfl); done)); ((try simp only [Act.put, List.setIfInBounds_toArray]); (try dsimp only [List.set_cons_zero, List.set_cons_succ]))); (refine take_t (i := 1) (d := 62) (oi := _) (v := ?_) rfl rfl (by kernel_rfl) (by kernel_rfl) (by kernel_rfl) (by rfl) ?_ (by assumption) ?_; rotate_left; (focus (intro w0 hSw; (try dsimp only at hSw); go_simp; (try with_reducible rfl); done)); ((try simp only [Act.put, List.setIfInBounds_toArray]); (try dsimp only [List.set_cons_zero, List.set_cons_succ]))); (refine take_t (i := 2) (d := 63) (oi := _) (v := ?_) rfl rfl (by kernel_rfl) (by kernel_rfl) (by kernel_rfl) (by rfl) ?_ (by assumption) ?_; rotate_left; (focus (intro w0 hSw; (try dsimp only at hSw); go_simp; (try with_reducible rfl); done)); ((try simp only [Act.put, List.setIfInBounds_toArray]); (try dsimp only [List.set_cons_zero, List.set_cons_succ]))); (refine take_t (i := 4) (d := 65) (oi := _) (v := ?_) rfl rfl (by kernel_rfl) (by kernel_rfl) (by kernel_rfl) (by rfl) ?_ (by assumption) ?_; rotate_left; (focus (intro w0 hSw; (try dsimp only at hSw); go_simp; (try with_reducible rfl); done)); ((try simp only [Act.put, List.setIfInBounds_toArray]); (try dsimp only [List.set_cons_zero, List.set_cons_succ]))); (refine take_t (i := 5) (d := 66) (oi := _) (v := ?_) rfl rfl (by kernel_rfl) (by kernel_rfl) (by kernel_rfl) (by rfl) ?_ (by assumption) ?_; rotate_left; (focus (intro w0 hSw; (try dsimp only at hSw); go_simp; (try with_reducible rfl); done)); ((try simp only [Act.put, List.setIfInBounds_toArray]); (try dsimp only [List.set_cons_zero, List.set_cons_succ]))); (refine wpAnyH_ready (rs := [3]) (by kernel_rfl) (by simp) ?_; refine AllReadyH.cons (o := _) rfl (fun K' hK => ?_) AllReadyH.nil; go_simp; (go_at_call 32; (with_reducible refine (hn.out _).mono ?_); rintro e w2 ⟨rfl, b2⟩; replace hpb := Lib.hid (hpb.out.below b2); clear b2); (try dsimp only); refine hK.out _ _ ?_ (fun hHeld2 => ?_); (focus ((try dsimp only); exact hbs.out _ _ hpb.out; done)); clear hK K'; clear hHeld; have hHeld := hHeld2; clear hHeld2; ((try simp only [Act.put, List.setIfInBounds_toArray]); (try dsimp only [List.set_cons_zero, List.set_cons_succ]))); (refine wpAnyH_ready (rs := [6]) (by kernel_rfl) (by simp) ?_; refine AllReadyH.cons (o := _) rfl (fun K' hK => ?_) AllReadyH.nil; go_simp; (go_at_call 33; (with_reducible refine (hvp2.out _).mono ?_); rintro e w2 ⟨rfl, b2⟩; replace hpb := Lib.hid (hpb.out.below b2); clear b2); (try dsimp only); refine hK.out _ _ ?_ (fun hHeld2 => ?_); (focus ((try dsimp only); exact hbs.out _ _ hpb.out; done)); clear hK K'; clear hHeld; have hHeld := hHeld2; clear hHeld2; ((try simp only [Act.put, List.setIfInBounds_toArray]); (try dsimp only [List.set_cons_zero, List.set_cons_succ]))); (refine take_t (i := 7) (d := 68) (oi := _) (v := ?_) rfl rfl (by kernel_rfl) (by kernel_rfl) (by kernel_rfl) (by rfl) ?_ (by assumption) ?_; rotate_left; (focus (intro w0 hSw; (try dsimp only at hSw); go_simp; (try with_reducible rfl); done)); ((try simp only [Act.put, List.setIfInBounds_toArray]); (try dsimp only [List.set_cons_zero, List.set_cons_succ]))); (refine wpAnyH_ready (rs := [8]) (by kernel_rfl) (by simp) ?_; refine AllReadyH.cons (o := _) rfl (fun K' hK => ?_) AllReadyH.nil; go_simp; (go_at_call 30; (with_reducible refine (hpb.out.write (i := 1) rfl _ r3.out).mono ?_); rintro e w3 ⟨rfl, h1⟩; replace hpb := Lib.hid h1; clear h1); (try dsimp only); refine hK.out _ _ ?_ (fun hHeld2 => ?_); (focus ((try dsimp only); exact hbs.out _ _ hpb.out; done)); clear hK K'; clear hHeld; have hHeld := hHeld2; clear hHeld2; ((try simp only [Act.put, List.setIfInBounds_toArray]); (try dsimp only [List.set_cons_zero, List.set_cons_succ]))); refine wpAnyH_done (by kernel_rfl) ?_ _; refine NoPanic.normal ?_
          go_wp2
          go_roundg g
          case rel => exact ⟨m + 1, _, by go_num, by omega, hpb.out.drop 0, hEx.out, hl2.out⟩
          case measure => omega
        | zero =>
          obtain rfl : m = np := by omega
          have hjlt2 : ¬ ((m : Int) < (m : Int)) := by omega
          have hEf : E = thB ed L ty fm tw P := by
            rw [hE, List.take_of_length_le (by rw [← hnp.out]; exact Nat.le_refl _), hC1f.out]
            unfold thB
            rw [← hnp.out]
          by_cases h4 : E.length ≤ 4096
          · have hSE : S = E := by rw [hS.out, ← hEf, if_pos h4]
            have h5 : ¬ (4096 : Int) < (E.length : Int) := by omega
            replace hSE := Lib.hid hSE
            clear hE hEl hEf h4
            go_wp2_with (first
              | (go_at_call 34; (with_reducible refine (Hp_blen hp.out (i := 0) rfl).mono ?_); rintro e w2 ⟨rfl, rfl⟩)
              | (go_at_call 35; (with_reducible refine (hp.out.bstring (i := 0) rfl hbge.out).mono ?_); rintro e w4 ⟨rfl, h1⟩; replace hp := Lib.hid h1; clear h1))
            go_ret
            exact ⟨by rw [hSE.out]; rfl, hp.out.bel⟩
          · have hSE : S = [] := by rw [hS.out, ← hEf, if_neg h4]
            have h5 : (4096 : Int) < (E.length : Int) := by omega
            replace hSE := Lib.hid hSE
            clear hE hEl hEf h4
            go_wp2_with (first
              | (go_at_call 34; (with_reducible refine (Hp_blen hp.out (i := 0) rfl).mono ?_); rintro e w2 ⟨rfl, rfl⟩))
            go_ret
            exact ⟨by rw [hSE.out]; rfl, hp.out.bel⟩
end Go.Proofs.YtcdgnhhciccoeaaDoor.recw
